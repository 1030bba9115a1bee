/-
  KExpr, KChoice, KCm0, KCm1. By the verifier.
-/
import Derived.Test.YtpfogjplnodacaaGreatLS
set_option maxRecDepth 100000
set_option maxHeartbeats 6400000
namespace Go.Proofs.YtpfogjplnodacaaGreat
open Go.RowKit
set_option linter.unusedVariables false
theorem Kd.exs_succ {m : Nat} {l : List (Pg.XT m)} {i : Nat} {y : Pg.XT m} (h : l[i]? = some y) : Kd.exs (l.take (i + 1)) = Kd.exs (l.take i) ++ Kd.ex m y := by
 obtain ⟨h1, h2⟩ := List.getElem?_eq_some_iff.1 h
 unfold Kd.exs
 rw [List.take_succ_eq_append_getElem h1, h2, List.flatMap_append]
 simp
theorem Kd.exs_len {m : Nat} (l : List (Pg.XT m)) : (Kd.exs l).length = (l.map (Pg.parts m)).sum := by
 unfold Kd.exs
 rw [List.length_flatMap, show (fun a => (Kd.ex m a).length) = Pg.parts m from funext (Kd.ex_len m)]
theorem Kd.parts_le {m : Nat} {l : List (Pg.XT m)} {i : Nat} {y : Pg.XT m} (h : l[i]? = some y) : ((l.take i).map (Pg.parts m)).sum + Pg.parts m y ≤ (l.map (Pg.parts m)).sum := by
 have h1 := Pg.sumTo_succ (Pg.parts m) l i y h
 have h2 := Pg.sumTo_le (Pg.parts m) l (i + 1) (List.getElem?_eq_some_iff.1 h).1
 unfold Pg.sumTo at h1 h2
 omega
structure Kd.Ax {m : Nat} (w0 W1 wr : World) (bc : Nat) (rv : Value) (l : List Kd.I) (a : Nat) (xs : List (Pg.XT m)) (i : Nat) : Prop where
 it : ∃ rv2, Kd.M w0 wr bc rv2 (l ++ Kd.exs (xs.take i)) a ∧ Kd.Kp bc rv rv2 W1 wr
theorem Kd.Ax.next {m : Nat} {w0 W1 wr w2 w5 : World} {bc : Nat} {rv rv2 : Value} {l : List Kd.I} {a : Nat} {xs : List (Pg.XT m)} {i : Nat} {y : Pg.XT m} (hm : Kd.M w0 wr bc rv2 (l ++ Kd.exs (xs.take i)) a) (hk : Kd.Kp bc rv rv2 W1 wr) (hy : xs[i]? = some y) (hb : Below wr.heap.size wr w2)
  (hp : ∃ rv', Kd.M w0 w5 bc rv' (l ++ Kd.exs (xs.take i) ++ Kd.ex m y) a ∧ Kd.Kp bc rv2 rv' w2 w5) : Kd.Ax w0 W1 w5 bc rv l a xs (i + 1) := by
 obtain ⟨rv', h1, h2⟩ := hp
 exact ⟨rv', by rw [Kd.exs_succ hy, ← List.append_assoc]; exact h1, hk.trans ((Kd.Kp.below hb hm.lt).trans h2)⟩
theorem kexpr_any {w0 : World} {bc : Nat} : ∀ (m : Nat) (e : Pg.E) (x : Pg.XT m) (W : World) (rv : Value) (l : List Kd.I) (a : Nat), Pg.RX w0 m e x → Kd.M w0 W bc rv l a → l.length + Pg.parts m x ≤ 100000 →
  Calls Tryz.prog 65 #[.pointer (some ⟨bc, 0, none⟩), e.val] W (Kd.Post w0 bc rv W (l ++ Kd.ex m x) a) := by
 intro m
 induction m with
 | zero => intro e x W rv l a h; exact absurd h id
 | succ m ih =>
  intro e x W rv l a hre hM hl
  obtain ⟨⟨hk, hn⟩, hs⟩ := hre
  have hlen := hs.len
  have hfew := hs.few
  rw [← hlen] at hfew
  have hpa : Pg.parts (m + 1) x = 1 + (x.2.map (Pg.parts m)).sum := rfl
  rw [hpa] at hl
  have hb0 := (Below.refl W.heap.size W).alloc (Nat.le_refl _) (Obj.cells #[.int .i64 e.k, .int .i64 e.n, .slice e.args.ad e.args.len e.args.cap] 69)
  have q0 : (W.alloc (Obj.cells #[.int .i64 e.k, .int .i64 e.n, .slice e.args.ad e.args.len e.args.cap] 69)).cell? ⟨W.heap.size, 0, none⟩ = some (.int .i64 e.k) := by go_simp
  have q1 : (W.alloc (Obj.cells #[.int .i64 e.k, .int .i64 e.n, .slice e.args.ad e.args.len e.args.cap] 69)).cell? ⟨W.heap.size, 1, none⟩ = some (.int .i64 e.n) := by go_simp
  have q2 : (W.alloc (Obj.cells #[.int .i64 e.k, .int .i64 e.n, .slice e.args.ad e.args.len e.args.cap] 69)).cell? ⟨W.heap.size, 2, none⟩ = some (.slice e.args.ad e.args.len e.args.cap) := by go_simp
  have HIH := hide (fun (e : Pg.E) (y : Pg.XT m) (W : World) (rv : Value) (l : List Kd.I) (h1 : Pg.RX w0 m e y) (h2 : Kd.M w0 W bc rv l a) (h3 : l.length + Pg.parts m y ≤ 100000) => show Calls Tryz.prog 65 #[.pointer (some ⟨bc, 0, none⟩), .agg #[.int .i64 e.k, .int .i64 e.n, .slice e.args.ad e.args.len e.args.cap]] W _ from ih e y W rv l a h1 h2 h3)
  have HEX := hide (show l ++ Kd.ex (m + 1) x = l ++ Kd.exs x.2 ++ [Kd.one x.1.1 x.1.2] by rw [List.append_assoc]; rfl)
  rw [← hk, ← hn] at HEX
  have HAL := hide (fun (i : Nat) (hi : x.2.length ≤ i) => show x.2.take i = x.2 from List.take_of_length_le hi)
  have HM1 := hide (hM.below hb0)
  have HM := hide hM
  have HK1 := hide (Kd.Kp.below (rv := rv) hb0 hM.lt)
  have HS := hide hs
  have HL := hide hl
  have HLN := hide hlen
  have hw01 : W.heap.size < (W.alloc (Obj.cells #[.int .i64 e.k, .int .i64 e.n, .slice e.args.ad e.args.len e.args.cap] 69)).heap.size := by simp
  generalize l ++ Kd.ex (m + 1) x = LL at *
  generalize x.2 = xs at *
  clear ih hM hs hl hb0 hlen hpa hk hn
  obtain ⟨ek, en, ad, an, ac⟩ := e
  dsimp only [Pg.E.val] at *
  go_enter Tryz.func65, Tryz.ntmps65
  go_wp2_with fail
  generalize W.alloc (Obj.cells #[.int .i64 ek, .int .i64 en, .slice ad an ac] 69) = W1 at *
  go_loopw [9] (fun iv wr => ∃ i : Nat, i ≤ an ∧ iv = .int .i64 i ∧ Kd.Ax w0 W1 wr bc rv l a xs i) (fun iv _ => an - (intOf iv).toNat)
  case atStart => exact ⟨0, Nat.zero_le _, rfl, ⟨rv, by rw [List.take_zero, show Kd.exs ([] : List (Pg.XT m)) = [] from rfl, List.append_nil]; exact unhide HM1, Kd.Kp.below (Below.refl _ _) (unhide HM1).lt⟩⟩
  case round =>
   obtain ⟨i, hi, rfl, hax⟩ := hrel
   obtain ⟨rv2, hm2, hk2⟩ := hax.it
   by_cases hlt : i < an
   · have hlt2 : i < xs.length := by have := unhide HLN; omega
     have hy := List.getElem?_eq_getElem hlt2
     obtain ⟨bb, o, cc, had, hbl, hlies, hrd⟩ := (unhide HS).at_ i _ hy
     have hpl := Kd.parts_le hy
     have HY := hide hy
     generalize xs[i] = y at *
     obtain ⟨p0, p1, p2⟩ := hlies.later hm2.bel (Nat.le_refl _) hbl
     have had' : ad = some ⟨bb, o, none⟩ := had
     subst had'
     have hal := (Below.refl wr.heap.size wr).alloc (Nat.le_refl _) (Obj.cells #[.int .i64 cc.k, .int .i64 cc.n, .slice cc.args.ad cc.args.len cc.args.cap] 69)
     have HC := hide ((unhide HIH) cc y _ rv2 _ hrd (hm2.below hal) (by rw [List.length_append, Kd.exs_len]; have := unhide HL; omega))
     have HNX := hide (fun (w5 : World) => Kd.Ax.next (w5 := w5) hm2 hk2 (unhide HY) hal)
     have hi0' : (0 : Int) ≤ (i : Int) := by omega
     have hi1' : (i : Int) < (an : Int) := by omega
     clear hy hbl hlies hrd had hlt2 hal hm2 hk2 hax
     go_wp2_with fail
     refine (unhide HC).mono ?_
     rintro r w5 ⟨rfl, hp5⟩
     have HA5 := hide ((unhide HNX) w5 hp5)
     clear hp5
     go_wp2_with fail
     exact ⟨⟨i + 1, by omega, by go_num, unhide HA5⟩, by simp [intOf]; omega⟩
   · have hie : i = an := by omega
     subst hie
     rw [(unhide HAL) i (by have := unhide HLN; omega)] at hm2
     have hbx : wr.heap[W.heap.size]? = W1.heap[W.heap.size]? := hk2.box (unhide HM) (Nat.le_refl _) hw01
     have r0 := (Kd.cell_kept hbx 0).trans q0
     have r1 := (Kd.cell_kept hbx 1).trans q1
     have hlm : (l ++ Kd.exs xs).length ≤ 100000 := by rw [List.length_append, Kd.exs_len]; have := unhide HL; omega
     have HPU := hide (fun (k x : Int) => kput_any hm2 hlm k x 0)
     have HFI := hide (fun (x : Kd.I) (hx : Kd.one ek en = x) (w6 : World) (h6 : ∃ rv', Kd.M w0 w6 bc rv' (l ++ Kd.exs xs ++ [x]) a ∧ Kd.Kp bc rv2 rv' wr w6) => show Kd.Post w0 bc rv W LL a (.returned (.tuple #[])) w6 from by
      obtain ⟨rv', h1, h2⟩ := h6
      refine ⟨rfl, rv', by rw [unhide HEX, hx]; exact h1, (unhide HK1).trans (hk2.trans h2)⟩)
     clear hm2 hk2 hax hbx q0 q1 q2
     by_cases k1 : ek = 1
     · subst k1
       go_wp2_with fail
       refine ((unhide HPU) 2 en).mono ?_
       rintro r w6 ⟨rfl, h6⟩
       have HP6 := hide ((unhide HFI) ⟨2, en, 0⟩ rfl w6 h6)
       clear h6
       go_wp2_with fail
       go_end0
       exact unhide HP6
     have b1 : (ek == 1) = false := by simpa using k1
     by_cases k2 : ek = 2
     · subst k2
       go_wp2_with fail
       refine ((unhide HPU) 3 en).mono ?_
       rintro r w6 ⟨rfl, h6⟩
       have HP6 := hide ((unhide HFI) ⟨3, en, 0⟩ rfl w6 h6)
       clear h6
       go_wp2_with fail
       go_end0
       exact unhide HP6
     have b2 : (ek == 2) = false := by simpa using k2
     by_cases k3 : ek = 3
     · subst k3
       go_wp2_with fail
       refine ((unhide HPU) 4 en).mono ?_
       rintro r w6 ⟨rfl, h6⟩
       have HP6 := hide ((unhide HFI) ⟨4, en, 0⟩ rfl w6 h6)
       clear h6
       go_wp2_with fail
       go_end0
       exact unhide HP6
     have b3 : (ek == 3) = false := by simpa using k3
     have HO := hide (show Kd.one ek en = ⟨5, ek, 0⟩ by unfold Kd.one; rw [if_neg k1, if_neg k2, if_neg k3])
     clear k1 k2 k3
     go_wp2_with fail
     refine ((unhide HPU) 5 ek).mono ?_
     rintro r w6 ⟨rfl, h6⟩
     have HP6 := hide ((unhide HFI) ⟨5, ek, 0⟩ (unhide HO) w6 h6)
     clear h6
     go_wp2_with fail
     go_end0
     exact unhide HP6
end Go.Proofs.YtpfogjplnodacaaGreat
namespace Go.Proofs.YtpfogjplnodacaaGreat
open Go.RowKit
set_option linter.unusedVariables false
theorem Kd.to_at (A : List Kd.I) (x : Kd.I) (B : List Kd.I) (t : Int) : Kd.to (A ++ x :: B) A.length t = A ++ ⟨x.k, t, x.b⟩ :: B := by
 unfold Kd.to
 induction A with
 | nil => rfl
 | cons y r ih => simpa using ih
section
variable {m n : Nat} {w0 : World} {bc : Nat}
def Kd.CmdsOk (w0 : World) (bc m j : Nat) (G : List (Pg.CT m j) → Prop) : Prop := ∀ (t : Pg.Sl) (ls : List (Pg.CT m j)) (W : World) (rv : Value) (l : List Kd.I) (a : Nat), Pg.RS w0 12 (Pg.LC w0) (Pg.RC w0 m j) t ls → G ls → Kd.M w0 W bc rv l a → l.length + (Kd.cmds j ls l.length a).length ≤ 50000 → a + Pg.cnts ls ≤ 1000 →
 Calls Tryz.prog 63 #[.pointer (some ⟨bc, 0, none⟩), .slice t.ad t.len t.cap] W (Kd.Post w0 bc rv W (l ++ Kd.cmds j ls l.length a) (a + Pg.cnts ls))
theorem choice_any {j : Nat} {G : List (Pg.CT m j) → Prop} (hcs : Kd.CmdsOk w0 bc m j G) (c : Pg.C) (y : Pg.CT m (j + 1)) (W : World) (rv : Value) (l : List Kd.I) (a : Nat) (hrc : Pg.RC w0 m (j + 1) c y) (hM : Kd.M w0 W bc rv l a) (hg1 : G y.2.2.1) (hg2 : G y.2.2.2)
  (E T L : List Kd.I) (hE : E = Kd.ex m y.2.1.2.1) (hT : T = Kd.cmds j y.2.2.1 (l.length + E.length + 1) a) (hL : L = Kd.cmds j y.2.2.2 (l.length + E.length + 1 + T.length + 1) (a + Pg.cnts y.2.2.1)) (hlen : l.length + E.length + T.length + L.length + 2 ≤ 50000) (ha : a + Pg.cnts y.2.2.1 + Pg.cnts y.2.2.2 ≤ 1000) :
  Calls Tryz.prog 119 #[.pointer (some ⟨bc, 0, none⟩), c.val] W (Kd.Post w0 bc rv W (l ++ (E ++ (⟨11, ((l.length + E.length + 1 + T.length + 1 : Nat) : Int), 0⟩ :: (T ++ (⟨10, ((l.length + E.length + 1 + T.length + 1 + L.length : Nat) : Int), 0⟩ :: L))))) (a + Pg.cnts y.2.2.1 + Pg.cnts y.2.2.2)) := by
 obtain ⟨⟨hck, hcv, hcf⟩, ⟨hix, hex, hag⟩, hth, hel⟩ := hrc
 have hb0 := (Below.refl W.heap.size W).alloc (Nat.le_refl _) (Obj.cells #[.int .i64 c.k, .int .i64 c.v, .int .i64 c.f, .int .i64 c.ix.k, .int .i64 c.ix.n, .slice c.ix.args.ad c.ix.args.len c.ix.args.cap, .int .i64 c.ex.k, .int .i64 c.ex.n, .slice c.ex.args.ad c.ex.args.len c.ex.args.cap, .slice c.args.ad c.args.len c.args.cap, .slice c.thn.ad c.thn.len c.thn.cap, .slice c.els.ad c.els.len c.els.cap] 107)
 have hx1 := heap_alloc_new W (Obj.cells #[.int .i64 c.k, .int .i64 c.v, .int .i64 c.f, .int .i64 c.ix.k, .int .i64 c.ix.n, .slice c.ix.args.ad c.ix.args.len c.ix.args.cap, .int .i64 c.ex.k, .int .i64 c.ex.n, .slice c.ex.args.ad c.ex.args.len c.ex.args.cap, .slice c.args.ad c.args.len c.args.cap, .slice c.thn.ad c.thn.len c.thn.cap, .slice c.els.ad c.els.len c.els.cap] 107)
 have HM0 := hide hM
 have HK0 := hide (Kd.Kp.below (rv := rv) hb0 hM.lt)
 have hm1 := hM.below hb0
 have hk1 : Kd.Kp bc rv rv (W.alloc (Obj.cells #[.int .i64 c.k, .int .i64 c.v, .int .i64 c.f, .int .i64 c.ix.k, .int .i64 c.ix.n, .slice c.ix.args.ad c.ix.args.len c.ix.args.cap, .int .i64 c.ex.k, .int .i64 c.ex.n, .slice c.ex.args.ad c.ex.args.len c.ex.args.cap, .slice c.args.ad c.args.len c.args.cap, .slice c.thn.ad c.thn.len c.thn.cap, .slice c.els.ad c.els.len c.els.cap] 107)) (W.alloc (Obj.cells #[.int .i64 c.k, .int .i64 c.v, .int .i64 c.f, .int .i64 c.ix.k, .int .i64 c.ix.n, .slice c.ix.args.ad c.ix.args.len c.ix.args.cap, .int .i64 c.ex.k, .int .i64 c.ex.n, .slice c.ex.args.ad c.ex.args.len c.ex.args.cap, .slice c.args.ad c.args.len c.args.cap, .slice c.thn.ad c.thn.len c.thn.cap, .slice c.els.ad c.els.len c.els.cap] 107)) := Kd.Kp.below (Below.refl _ _) hm1.lt
 have HIX := hide hix
 have HEX := hide hex
 have hw01 : W.heap.size < (W.alloc (Obj.cells #[.int .i64 c.k, .int .i64 c.v, .int .i64 c.f, .int .i64 c.ix.k, .int .i64 c.ix.n, .slice c.ix.args.ad c.ix.args.len c.ix.args.cap, .int .i64 c.ex.k, .int .i64 c.ex.n, .slice c.ex.args.ad c.ex.args.len c.ex.args.cap, .slice c.args.ad c.args.len c.args.cap, .slice c.thn.ad c.thn.len c.thn.cap, .slice c.els.ad c.els.len c.els.cap] 107)).heap.size := by simp
 have HTH := hide hth
 have HEL := hide hel
 have HG1 := hide hg1
 have HG2 := hide hg2
 have HCS := hide hcs
 have HEl := hide (show E.length = Pg.parts m y.2.1.2.1 by rw [hE, Kd.ex_len])
 have HE := hide hE
 have HT := hide hT
 have HL := hide hL
 obtain ⟨LL, hLL⟩ : ∃ LL, LL = l ++ (E ++ (⟨11, ((l.length + E.length + 1 + T.length + 1 : Nat) : Int), 0⟩ :: (T ++ (⟨10, ((l.length + E.length + 1 + T.length + 1 + L.length : Nat) : Int), 0⟩ :: L)))) := ⟨_, rfl⟩
 obtain ⟨aa, haa⟩ : ∃ aa, aa = a + Pg.cnts y.2.2.1 + Pg.cnts y.2.2.2 := ⟨_, rfl⟩
 rw [← hLL, ← haa]
 have HLL := hide hLL
 have HAA := hide haa
 have HA := hide ha
 have HLEN := hide hlen
 clear hM hb0 hix hex hag hth hel hg1 hg2 hcs hE hT hL hLL haa hlen ha hck hcv hcf
 unfold Pg.C.val
 go_enter Tryz.func119, Tryz.ntmps119
 go_upto_region 1 with fail
 generalize W.alloc (Obj.cells #[.int .i64 c.k, .int .i64 c.v, .int .i64 c.f, .int .i64 c.ix.k, .int .i64 c.ix.n, .slice c.ix.args.ad c.ix.args.len c.ix.args.cap, .int .i64 c.ex.k, .int .i64 c.ex.n, .slice c.ex.args.ad c.ex.args.len c.ex.args.cap, .slice c.args.ad c.args.len c.args.cap, .slice c.thn.ad c.thn.len c.thn.cap, .slice c.els.ad c.els.len c.els.cap] 107) = w1 at *
 have HC1 := hide (kexpr_any m c.ex y.2.1.2.1 _ _ _ _ (unhide HEX) hm1 (by have := unhide HLEN; have := unhide HEl; omega))
 have hx1 := (hk1.box (unhide HM0) (Nat.le_refl _) hw01).trans hx1
 have r1_6 := (cell_of_row w1 W.heap.size 6 _ _ _ hx1).trans rfl
 have r1_7 := (cell_of_row w1 W.heap.size 7 _ _ _ hx1).trans rfl
 have r1_8 := (cell_of_row w1 W.heap.size 8 _ _ _ hx1).trans rfl
 have HK1 := hide hk1
 clear hm1 hk1 hx1
 go_wp2_with fail
 refine (unhide HC1).mono ?_
 rintro r w2 ⟨rfl, v2, hm2, hq2⟩
 have hk2 := (unhide HK1).trans hq2
 clear hq2 r1_6 r1_7 r1_8
 rw [← unhide HE] at hm2
 have HC2 := hide (kput_any hm2 (by rw [List.length_append]; have := unhide HLEN; omega) 11 0 0)
 have hx2 := (hk2.box (unhide HM0) (Nat.le_refl _) hw01).trans hx1
 have HK2 := hide hk2
 clear hm2 hk2 hx2
 go_wp2_with fail
 refine (unhide HC2).mono ?_
 rintro r w3 ⟨rfl, v3, hm3, hq3⟩
 have hk3 := (unhide HK2).trans hq3
 clear hq3
 obtain ⟨z3, hz3⟩ : ∃ z3, z3 = (l ++ E).length := ⟨_, rfl⟩
 rw [← hz3]
 have HZ3 := hide (hz3.trans List.length_append)
 clear hz3
 have HCM := hide (show Calls Tryz.prog 63 #[.pointer (some ⟨bc, 0, none⟩), .slice c.thn.ad c.thn.len c.thn.cap] w3 (Kd.Post w0 bc v3 w3 (l ++ E ++ [⟨11, 0, 0⟩] ++ T) (a + Pg.cnts y.2.2.1)) from by
  have e4 : (l ++ E ++ [(⟨11, 0, 0⟩ : Kd.I)]).length = l.length + E.length + 1 := by rw [List.length_append, List.length_append]; rfl
  have h5 := (unhide HCS) c.thn y.2.2.1 _ _ _ _ (unhide HTH) (unhide HG1) hm3 (by rw [e4, ← unhide HT]; have := unhide HLEN; omega) (by have := unhide HA; omega)
  rw [e4, ← unhide HT] at h5
  exact h5)
 have HC3 := hide (unhide HCM)
 have hx3 := (hk3.box (unhide HM0) (Nat.le_refl _) hw01).trans hx1
 have r3_10 := (cell_of_row w3 W.heap.size 10 _ _ _ hx3).trans rfl
 have HK3 := hide hk3
 clear hm3 hk3 hx3
 go_wp2_with fail
 refine (unhide HC3).mono ?_
 rintro r w4 ⟨rfl, v4, hm4, hq4⟩
 have hk4 := (unhide HK3).trans hq4
 clear hq4 r3_10
 have HC4 := hide (kput_any hm4 (by simp only [List.length_append, List.length_cons, List.length_nil]; have := unhide HLEN; omega) 10 0 0)
 have hx4 := (hk4.box (unhide HM0) (Nat.le_refl _) hw01).trans hx1
 have HK4 := hide hk4
 clear hm4 hk4 hx4
 go_wp2_with fail
 refine (unhide HC4).mono ?_
 rintro r w5 ⟨rfl, v5, hm5, hq5⟩
 have hk5 := (unhide HK4).trans hq5
 clear hq5
 have e5 : (l ++ E ++ [(⟨11, 0, 0⟩ : Kd.I)] ++ T).length = l.length + E.length + 1 + T.length := by simp only [List.length_append, List.length_cons, List.length_nil]
 obtain ⟨z5, hz5⟩ : ∃ z5, z5 = (l ++ E ++ [(⟨11, 0, 0⟩ : Kd.I)] ++ T).length := ⟨_, rfl⟩
 rw [← hz5]
 have HZ5 := hide (hz5.trans e5)
 clear hz5 e5
 have HE6 := hide (show (l ++ E ++ [(⟨11, 0, 0⟩ : Kd.I)] ++ T ++ [(⟨10, 0, 0⟩ : Kd.I)]).length = l.length + E.length + 1 + T.length + 1 by simp only [List.length_append, List.length_cons, List.length_nil])
 have HGO := hide (show Calls Tryz.prog 128 #[.pointer (some ⟨bc, 0, none⟩), .int .i64 (z3 : Nat)] w5 (Kd.Post w0 bc v5 w5 (l ++ E ++ (⟨11, ((l.length + E.length + 1 + T.length + 1 : Nat) : Int), 0⟩ :: (T ++ [⟨10, 0, 0⟩]))) (a + Pg.cnts y.2.2.1)) from by
  have e6 := unhide HE6
  rw [unhide HZ3]
  have h7 := goHere_any hm5 (by rw [e6]; have := unhide HLEN; omega) (l.length + E.length) (by rw [e6]; omega)
  rw [e6] at h7
  have e8 : Kd.to (l ++ E ++ [(⟨11, 0, 0⟩ : Kd.I)] ++ T ++ [(⟨10, 0, 0⟩ : Kd.I)]) (l.length + E.length) ((l.length + E.length + 1 + T.length + 1 : Nat) : Int) = l ++ E ++ (⟨11, ((l.length + E.length + 1 + T.length + 1 : Nat) : Int), 0⟩ :: (T ++ [⟨10, 0, 0⟩])) := by
   have h8 := Kd.to_at (l ++ E) ⟨11, 0, 0⟩ (T ++ [⟨10, 0, 0⟩]) ((l.length + E.length + 1 + T.length + 1 : Nat) : Int)
   rw [List.length_append] at h8
   simp only [List.append_assoc, List.cons_append, List.nil_append] at h8 ⊢
   exact h8
  rw [e8] at h7
  exact h7)
 have HC5 := hide (unhide HGO)
 have hx5 := (hk5.box (unhide HM0) (Nat.le_refl _) hw01).trans hx1
 have HK5 := hide hk5
 clear hm5 hk5 hx5
 go_wp2_with fail
 refine (unhide HC5).mono ?_
 rintro r w6 ⟨rfl, v6, hm6, hq6⟩
 have hk6 := (unhide HK5).trans hq6
 clear hq6
 have HE7 := hide (show (l ++ E ++ ((⟨11, ((l.length + E.length + 1 + T.length + 1 : Nat) : Int), 0⟩ : Kd.I) :: (T ++ [(⟨10, 0, 0⟩ : Kd.I)]))).length = l.length + E.length + 1 + T.length + 1 by
  simp only [List.length_append, List.length_cons, List.length_nil]
  omega)
 have HCN := hide (show Calls Tryz.prog 63 #[.pointer (some ⟨bc, 0, none⟩), .slice c.els.ad c.els.len c.els.cap] w6 (Kd.Post w0 bc v6 w6 (l ++ E ++ (⟨11, ((l.length + E.length + 1 + T.length + 1 : Nat) : Int), 0⟩ :: (T ++ [⟨10, 0, 0⟩])) ++ L) (a + Pg.cnts y.2.2.1 + Pg.cnts y.2.2.2)) from by
  have e7 := unhide HE7
  have h5 := (unhide HCS) c.els y.2.2.2 _ _ _ _ (unhide HEL) (unhide HG2) hm6 (by rw [e7, ← unhide HL]; have := unhide HLEN; omega) (unhide HA)
  rw [e7, ← unhide HL] at h5
  exact h5)
 have HC6 := hide (unhide HCN)
 have hx6 := (hk6.box (unhide HM0) (Nat.le_refl _) hw01).trans hx1
 have r6_11 := (cell_of_row w6 W.heap.size 11 _ _ _ hx6).trans rfl
 have HK6 := hide hk6
 clear hm6 hk6 hx6
 go_wp2_with fail
 refine (unhide HC6).mono ?_
 rintro r w7 ⟨rfl, v7, hm7, hq7⟩
 have hk7 := (unhide HK6).trans hq7
 clear hq7 r6_11
 have HGP := hide (show Calls Tryz.prog 128 #[.pointer (some ⟨bc, 0, none⟩), .int .i64 (z5 : Nat)] w7 (Kd.Post w0 bc v7 w7 LL (a + Pg.cnts y.2.2.1 + Pg.cnts y.2.2.2)) from by
  have e7 := unhide HE7
  rw [unhide HZ5]
  have e9 : (l ++ E ++ ((⟨11, ((l.length + E.length + 1 + T.length + 1 : Nat) : Int), 0⟩ : Kd.I) :: (T ++ [(⟨10, 0, 0⟩ : Kd.I)])) ++ L).length = l.length + E.length + 1 + T.length + 1 + L.length := by rw [List.length_append, e7]
  have h7 := goHere_any hm7 (by rw [e9]; have := unhide HLEN; omega) (l.length + E.length + 1 + T.length) (by rw [e9]; omega)
  rw [e9] at h7
  have e8 : Kd.to (l ++ E ++ (⟨11, ((l.length + E.length + 1 + T.length + 1 : Nat) : Int), 0⟩ :: (T ++ [⟨10, 0, 0⟩])) ++ L) (l.length + E.length + 1 + T.length) ((l.length + E.length + 1 + T.length + 1 + L.length : Nat) : Int) = LL := by
   have h8 := Kd.to_at (l ++ E ++ (⟨11, ((l.length + E.length + 1 + T.length + 1 : Nat) : Int), 0⟩ :: T)) ⟨10, 0, 0⟩ L ((l.length + E.length + 1 + T.length + 1 + L.length : Nat) : Int)
   rw [show (l ++ E ++ ((⟨11, ((l.length + E.length + 1 + T.length + 1 : Nat) : Int), 0⟩ : Kd.I) :: T)).length = l.length + E.length + 1 + T.length by simp only [List.length_append, List.length_cons]; omega] at h8
   rw [unhide HLL]
   simp only [List.append_assoc, List.cons_append, List.nil_append] at h8 ⊢
   exact h8
  rw [e8] at h7
  exact h7)
 have HC7 := hide (unhide HGP)
 have hx7 := (hk7.box (unhide HM0) (Nat.le_refl _) hw01).trans hx1
 have HK7 := hide hk7
 clear hm7 hk7 hx7
 go_wp2_with fail
 refine (unhide HC7).mono ?_
 rintro r w8 ⟨rfl, v8, hm8, hq8⟩
 have hk8 := (unhide HK7).trans hq8
 clear hq8
 have HP := hide (show Kd.Post w0 bc rv W LL aa (.returned (.tuple #[])) w8 from ⟨rfl, v8, by rw [unhide HAA]; exact hm8, (unhide HK0).trans hk8⟩)
 clear hm8 hk8
 go_wp2_with fail
 go_end0
 exact unhide HP
theorem kloop_any {j : Nat} {G : List (Pg.CT m j) → Prop} (hcs : Kd.CmdsOk w0 bc m j G) (c : Pg.C) (y : Pg.CT m (j + 1)) (W : World) (rv : Value) (l : List Kd.I) (a st : Nat) (hrc : Pg.RC w0 m (j + 1) c y) (hM : Kd.M w0 W bc rv l a) (hg1 : G y.2.2.1)
  (E T : List Kd.I) (hE : E = Kd.ex m y.2.1.2.1) (hT : T = Kd.cmds j y.2.2.1 (l.length + E.length + 1) a) (hlen : l.length + E.length + T.length + 2 ≤ 50000) (ha : a + Pg.cnts y.2.2.1 ≤ 1000) :
  Calls Tryz.prog 120 #[.pointer (some ⟨bc, 0, none⟩), c.val, .int .i64 (st : Nat)] W (Kd.Post w0 bc rv W (l ++ (E ++ (⟨11, ((l.length + E.length + 1 + T.length + 1 : Nat) : Int), 0⟩ :: (T ++ [⟨10, (st : Nat), 0⟩])))) (a + Pg.cnts y.2.2.1)) := by
 obtain ⟨⟨hck, hcv, hcf⟩, ⟨hix, hex, hag⟩, hth, hel⟩ := hrc
 have hb0 := (Below.refl W.heap.size W).alloc (Nat.le_refl _) (Obj.cells #[.int .i64 c.k, .int .i64 c.v, .int .i64 c.f, .int .i64 c.ix.k, .int .i64 c.ix.n, .slice c.ix.args.ad c.ix.args.len c.ix.args.cap, .int .i64 c.ex.k, .int .i64 c.ex.n, .slice c.ex.args.ad c.ex.args.len c.ex.args.cap, .slice c.args.ad c.args.len c.args.cap, .slice c.thn.ad c.thn.len c.thn.cap, .slice c.els.ad c.els.len c.els.cap] 107)
 have hx1 := heap_alloc_new W (Obj.cells #[.int .i64 c.k, .int .i64 c.v, .int .i64 c.f, .int .i64 c.ix.k, .int .i64 c.ix.n, .slice c.ix.args.ad c.ix.args.len c.ix.args.cap, .int .i64 c.ex.k, .int .i64 c.ex.n, .slice c.ex.args.ad c.ex.args.len c.ex.args.cap, .slice c.args.ad c.args.len c.args.cap, .slice c.thn.ad c.thn.len c.thn.cap, .slice c.els.ad c.els.len c.els.cap] 107)
 have HM0 := hide hM
 have HK0 := hide (Kd.Kp.below (rv := rv) hb0 hM.lt)
 have hm1 := hM.below hb0
 have hk1 : Kd.Kp bc rv rv (W.alloc (Obj.cells #[.int .i64 c.k, .int .i64 c.v, .int .i64 c.f, .int .i64 c.ix.k, .int .i64 c.ix.n, .slice c.ix.args.ad c.ix.args.len c.ix.args.cap, .int .i64 c.ex.k, .int .i64 c.ex.n, .slice c.ex.args.ad c.ex.args.len c.ex.args.cap, .slice c.args.ad c.args.len c.args.cap, .slice c.thn.ad c.thn.len c.thn.cap, .slice c.els.ad c.els.len c.els.cap] 107)) (W.alloc (Obj.cells #[.int .i64 c.k, .int .i64 c.v, .int .i64 c.f, .int .i64 c.ix.k, .int .i64 c.ix.n, .slice c.ix.args.ad c.ix.args.len c.ix.args.cap, .int .i64 c.ex.k, .int .i64 c.ex.n, .slice c.ex.args.ad c.ex.args.len c.ex.args.cap, .slice c.args.ad c.args.len c.args.cap, .slice c.thn.ad c.thn.len c.thn.cap, .slice c.els.ad c.els.len c.els.cap] 107)) := Kd.Kp.below (Below.refl _ _) hm1.lt
 have HIX := hide hix
 have HEX := hide hex
 have hw01 : W.heap.size < (W.alloc (Obj.cells #[.int .i64 c.k, .int .i64 c.v, .int .i64 c.f, .int .i64 c.ix.k, .int .i64 c.ix.n, .slice c.ix.args.ad c.ix.args.len c.ix.args.cap, .int .i64 c.ex.k, .int .i64 c.ex.n, .slice c.ex.args.ad c.ex.args.len c.ex.args.cap, .slice c.args.ad c.args.len c.args.cap, .slice c.thn.ad c.thn.len c.thn.cap, .slice c.els.ad c.els.len c.els.cap] 107)).heap.size := by simp
 have HTH := hide hth
 have HG1 := hide hg1
 have HCS := hide hcs
 have HEl := hide (show E.length = Pg.parts m y.2.1.2.1 by rw [hE, Kd.ex_len])
 have HE := hide hE
 have HT := hide hT
 obtain ⟨LL, hLL⟩ : ∃ LL, LL = l ++ (E ++ (⟨11, ((l.length + E.length + 1 + T.length + 1 : Nat) : Int), 0⟩ :: (T ++ [⟨10, (st : Nat), 0⟩]))) := ⟨_, rfl⟩
 obtain ⟨aa, haa⟩ : ∃ aa, aa = a + Pg.cnts y.2.2.1 := ⟨_, rfl⟩
 rw [← hLL, ← haa]
 have HLL := hide hLL
 have HAA := hide haa
 have HA := hide ha
 have HLEN := hide hlen
 clear hM hb0 hix hex hag hth hel hg1 hcs hE hT hLL haa hlen ha hck hcv hcf
 unfold Pg.C.val
 go_enter Tryz.func120, Tryz.ntmps120
 go_upto_region 1 with fail
 generalize W.alloc (Obj.cells #[.int .i64 c.k, .int .i64 c.v, .int .i64 c.f, .int .i64 c.ix.k, .int .i64 c.ix.n, .slice c.ix.args.ad c.ix.args.len c.ix.args.cap, .int .i64 c.ex.k, .int .i64 c.ex.n, .slice c.ex.args.ad c.ex.args.len c.ex.args.cap, .slice c.args.ad c.args.len c.args.cap, .slice c.thn.ad c.thn.len c.thn.cap, .slice c.els.ad c.els.len c.els.cap] 107) = w1 at *
 have HC1 := hide (kexpr_any m c.ex y.2.1.2.1 _ _ _ _ (unhide HEX) hm1 (by have := unhide HLEN; have := unhide HEl; omega))
 have hx1 := (hk1.box (unhide HM0) (Nat.le_refl _) hw01).trans hx1
 have r1_6 := (cell_of_row w1 W.heap.size 6 _ _ _ hx1).trans rfl
 have r1_7 := (cell_of_row w1 W.heap.size 7 _ _ _ hx1).trans rfl
 have r1_8 := (cell_of_row w1 W.heap.size 8 _ _ _ hx1).trans rfl
 have HK1 := hide hk1
 clear hm1 hk1 hx1
 go_wp2_with fail
 refine (unhide HC1).mono ?_
 rintro r w2 ⟨rfl, v2, hm2, hq2⟩
 have hk2 := (unhide HK1).trans hq2
 clear hq2 r1_6 r1_7 r1_8
 rw [← unhide HE] at hm2
 have HC2 := hide (kput_any hm2 (by rw [List.length_append]; have := unhide HLEN; omega) 11 0 0)
 have hx2 := (hk2.box (unhide HM0) (Nat.le_refl _) hw01).trans hx1
 have HK2 := hide hk2
 clear hm2 hk2 hx2
 go_wp2_with fail
 refine (unhide HC2).mono ?_
 rintro r w3 ⟨rfl, v3, hm3, hq3⟩
 have hk3 := (unhide HK2).trans hq3
 clear hq3
 obtain ⟨z3, hz3⟩ : ∃ z3, z3 = (l ++ E).length := ⟨_, rfl⟩
 rw [← hz3]
 have HZ3 := hide (hz3.trans List.length_append)
 clear hz3
 have HCM := hide (show Calls Tryz.prog 63 #[.pointer (some ⟨bc, 0, none⟩), .slice c.thn.ad c.thn.len c.thn.cap] w3 (Kd.Post w0 bc v3 w3 (l ++ E ++ [⟨11, 0, 0⟩] ++ T) (a + Pg.cnts y.2.2.1)) from by
  have e4 : (l ++ E ++ [(⟨11, 0, 0⟩ : Kd.I)]).length = l.length + E.length + 1 := by rw [List.length_append, List.length_append]; rfl
  have h5 := (unhide HCS) c.thn y.2.2.1 _ _ _ _ (unhide HTH) (unhide HG1) hm3 (by rw [e4, ← unhide HT]; have := unhide HLEN; omega) (unhide HA)
  rw [e4, ← unhide HT] at h5
  exact h5)
 have HC3 := hide (unhide HCM)
 have hx3 := (hk3.box (unhide HM0) (Nat.le_refl _) hw01).trans hx1
 have r3_10 := (cell_of_row w3 W.heap.size 10 _ _ _ hx3).trans rfl
 have HK3 := hide hk3
 clear hm3 hk3 hx3
 go_wp2_with fail
 refine (unhide HC3).mono ?_
 rintro r w4 ⟨rfl, v4, hm4, hq4⟩
 have hk4 := (unhide HK3).trans hq4
 clear hq4 r3_10
 have HC4 := hide (kput_any hm4 (by simp only [List.length_append, List.length_cons, List.length_nil]; have := unhide HLEN; omega) 10 (st : Nat) 0)
 have hx4 := (hk4.box (unhide HM0) (Nat.le_refl _) hw01).trans hx1
 have HK4 := hide hk4
 clear hm4 hk4 hx4
 go_wp2_with fail
 refine (unhide HC4).mono ?_
 rintro r w5 ⟨rfl, v5, hm5, hq5⟩
 have hk5 := (unhide HK4).trans hq5
 clear hq5
 have HE6 := hide (show (l ++ E ++ [(⟨11, 0, 0⟩ : Kd.I)] ++ T ++ [(⟨10, (st : Nat), 0⟩ : Kd.I)]).length = l.length + E.length + 1 + T.length + 1 by simp only [List.length_append, List.length_cons, List.length_nil])
 have HGO := hide (show Calls Tryz.prog 128 #[.pointer (some ⟨bc, 0, none⟩), .int .i64 (z3 : Nat)] w5 (Kd.Post w0 bc v5 w5 LL (a + Pg.cnts y.2.2.1)) from by
  have e6 := unhide HE6
  rw [unhide HZ3]
  have h7 := goHere_any hm5 (by rw [e6]; have := unhide HLEN; omega) (l.length + E.length) (by rw [e6]; omega)
  rw [e6] at h7
  have e8 : Kd.to (l ++ E ++ [(⟨11, 0, 0⟩ : Kd.I)] ++ T ++ [(⟨10, (st : Nat), 0⟩ : Kd.I)]) (l.length + E.length) ((l.length + E.length + 1 + T.length + 1 : Nat) : Int) = LL := by
   have h8 := Kd.to_at (l ++ E) ⟨11, 0, 0⟩ (T ++ [⟨10, (st : Nat), 0⟩]) ((l.length + E.length + 1 + T.length + 1 : Nat) : Int)
   rw [List.length_append] at h8
   rw [unhide HLL]
   simp only [List.append_assoc, List.cons_append, List.nil_append] at h8 ⊢
   exact h8
  rw [e8] at h7
  exact h7)
 have HC5 := hide (unhide HGO)
 have hx5 := (hk5.box (unhide HM0) (Nat.le_refl _) hw01).trans hx1
 have HK5 := hide hk5
 clear hm5 hk5 hx5
 go_wp2_with fail
 refine (unhide HC5).mono ?_
 rintro r w6 ⟨rfl, v6, hm6, hq6⟩
 have hk6 := (unhide HK5).trans hq6
 clear hq6
 have HP := hide (show Kd.Post w0 bc rv W LL aa (.returned (.tuple #[])) w6 from ⟨rfl, v6, by rw [unhide HAA]; exact hm6, (unhide HK0).trans hk6⟩)
 clear hm6 hk6
 go_wp2_with fail
 go_end0
 exact unhide HP
end
end Go.Proofs.YtpfogjplnodacaaGreat
namespace Go.Proofs.YtpfogjplnodacaaGreat
open Go.RowKit
set_option linter.unusedVariables false
section
variable {m n : Nat} {w0 : World} {bc : Nat}
theorem Kd.M.count {W : World} {rv : Value} {l : List Kd.I} {a : Nat} (h : Kd.M w0 W bc rv l a) (k : Nat) : Kd.M w0 (W.setCell ⟨bc, 3, none⟩ (.int .i64 (k : Nat))) bc rv l k ∧ Kd.Kp bc rv rv W (W.setCell ⟨bc, 3, none⟩ (.int .i64 (k : Nat))) := by
 have o3 : ∀ j, j ≠ 3 → (W.setCell ⟨bc, 3, none⟩ (.int .i64 (k : Nat))).cell? ⟨bc, j, none⟩ = W.cell? ⟨bc, j, none⟩ := fun j hj => World.cell?_setCell_other _ _ _ _ (by intro hh; exact hj (congrArg Addr.off hh).symm)
 exact ⟨⟨h.bel.setCell (p := ⟨bc, 3, none⟩) h.ge _, h.ge, (o3 0 (by omega)).trans h.c0, World.cell?_setCell_same _ _ _ h.c3, fun i => by rw [World.frozen?_setCell]; exact h.fz i, Kd.ow_kept h.row (fun q hq => Kd.set_other (h.ap q hq)), h.ap⟩, by rw [World.size_setCell]; exact Nat.le_refl _, fun q hq h1 h2 => Kd.set_other h1, fun q hq => .inl hq, o3 1 (by omega), o3 2 (by omega)⟩
def Kd.shape {j : Nat} (y : Pg.CT m (j + 1)) : Prop := (1 ≤ y.1.1 ∧ y.1.1 ≤ 7) ∧ (y.1.1 ≠ 6 → y.2.2.2 = []) ∧ (y.1.1 ≠ 6 → y.1.1 ≠ 7 → y.2.2.1 = [])
end
end Go.Proofs.YtpfogjplnodacaaGreat
namespace Go.Proofs.YtpfogjplnodacaaGreat
open Go.RowKit
set_option linter.unusedVariables false
section
variable {m n : Nat} {w0 : World} {bc : Nat}
theorem kcmd_1 {j : Nat} {G : List (Pg.CT m j) → Prop} (hcs : Kd.CmdsOk w0 bc m j G) (c : Pg.C) (y : Pg.CT m (j + 1)) (W : World) (rv : Value) (l : List Kd.I) (a : Nat) (hrc : Pg.RC w0 m (j + 1) c y) (hM : Kd.M w0 W bc rv l a) (hsh : Kd.shape y) (hg1 : G y.2.2.1) (hg2 : G y.2.2.2) (hkk : y.1.1 = 1)
  (hlen : l.length + (Kd.cmd (Kd.cmds j) y l.length a).length ≤ 50000) (ha : a + Pg.cnt (j + 1) y ≤ 1000) :
  Calls Tryz.prog 104 #[.pointer (some ⟨bc, 0, none⟩), c.val] W (Kd.Post w0 bc rv W (l ++ Kd.cmd (Kd.cmds j) y l.length a) (a + Pg.cnt (j + 1) y)) := by
 have hre : Kd.cmd (Kd.cmds j) y l.length a = ⟨1, (a : Nat), 0⟩ :: (Kd.ex m y.2.1.2.1 ++ [⟨6, y.1.2.1, 0⟩]) := by
  unfold Kd.cmd Kd.rest
  rw [if_pos hkk]
 have hcn : Pg.cnt (j + 1) y = 1 := by
  show 1 + (y.2.2.1.map (Pg.cnt j)).sum + (y.2.2.2.map (Pg.cnt j)).sum = 1
  rw [hsh.2.1 (by omega), hsh.2.2 (by omega) (by omega)]
  rfl
 rw [hre] at hlen ⊢
 rw [hcn] at ha ⊢
 obtain ⟨⟨hck, hcv, hcf⟩, ⟨hix, hex, hag⟩, hth, hel⟩ := hrc
 have hb0 := (Below.refl W.heap.size W).alloc (Nat.le_refl _) (Obj.cells #[.int .i64 c.k, .int .i64 c.v, .int .i64 c.f, .int .i64 c.ix.k, .int .i64 c.ix.n, .slice c.ix.args.ad c.ix.args.len c.ix.args.cap, .int .i64 c.ex.k, .int .i64 c.ex.n, .slice c.ex.args.ad c.ex.args.len c.ex.args.cap, .slice c.args.ad c.args.len c.args.cap, .slice c.thn.ad c.thn.len c.thn.cap, .slice c.els.ad c.els.len c.els.cap] 107)
 have hx1 := heap_alloc_new W (Obj.cells #[.int .i64 c.k, .int .i64 c.v, .int .i64 c.f, .int .i64 c.ix.k, .int .i64 c.ix.n, .slice c.ix.args.ad c.ix.args.len c.ix.args.cap, .int .i64 c.ex.k, .int .i64 c.ex.n, .slice c.ex.args.ad c.ex.args.len c.ex.args.cap, .slice c.args.ad c.args.len c.args.cap, .slice c.thn.ad c.thn.len c.thn.cap, .slice c.els.ad c.els.len c.els.cap] 107)
 have HM0 := hide hM
 have HK0 := hide (Kd.Kp.below (rv := rv) hb0 hM.lt)
 have hm1 := hM.below hb0
 have hk1 : Kd.Kp bc rv rv (W.alloc (Obj.cells #[.int .i64 c.k, .int .i64 c.v, .int .i64 c.f, .int .i64 c.ix.k, .int .i64 c.ix.n, .slice c.ix.args.ad c.ix.args.len c.ix.args.cap, .int .i64 c.ex.k, .int .i64 c.ex.n, .slice c.ex.args.ad c.ex.args.len c.ex.args.cap, .slice c.args.ad c.args.len c.args.cap, .slice c.thn.ad c.thn.len c.thn.cap, .slice c.els.ad c.els.len c.els.cap] 107)) (W.alloc (Obj.cells #[.int .i64 c.k, .int .i64 c.v, .int .i64 c.f, .int .i64 c.ix.k, .int .i64 c.ix.n, .slice c.ix.args.ad c.ix.args.len c.ix.args.cap, .int .i64 c.ex.k, .int .i64 c.ex.n, .slice c.ex.args.ad c.ex.args.len c.ex.args.cap, .slice c.args.ad c.args.len c.args.cap, .slice c.thn.ad c.thn.len c.thn.cap, .slice c.els.ad c.els.len c.els.cap] 107)) := Kd.Kp.below (Below.refl _ _) hm1.lt
 have HIX := hide hix
 have HEX := hide hex
 have hw01 : W.heap.size < (W.alloc (Obj.cells #[.int .i64 c.k, .int .i64 c.v, .int .i64 c.f, .int .i64 c.ix.k, .int .i64 c.ix.n, .slice c.ix.args.ad c.ix.args.len c.ix.args.cap, .int .i64 c.ex.k, .int .i64 c.ex.n, .slice c.ex.args.ad c.ex.args.len c.ex.args.cap, .slice c.args.ad c.args.len c.args.cap, .slice c.thn.ad c.thn.len c.thn.cap, .slice c.els.ad c.els.len c.els.cap] 107)).heap.size := by simp
 have HTH := hide hth
 have HEL := hide hel
 have HAG := hide hag
 have HG1 := hide hg1
 have HG2 := hide hg2
 have HCS := hide hcs
 obtain ⟨LL, hLL⟩ : ∃ LL, LL = l ++ (⟨1, (a : Nat), 0⟩ :: (Kd.ex m y.2.1.2.1 ++ [⟨6, y.1.2.1, 0⟩])) := ⟨_, rfl⟩
 obtain ⟨aa, haa⟩ : ∃ aa, aa = a + 1 := ⟨_, rfl⟩
 rw [← hLL, ← haa]
 have HLL := hide hLL
 have HAA := hide haa
 have HA := hide ha
 have HLEN := hide hlen
 have HCK := hide (show c.k = 1 from hck.trans hkk)
 have hrc2 : Pg.RC w0 m (j + 1) c y := ⟨⟨hck, hcv, hcf⟩, ⟨hix, hex, hag⟩, hth, hel⟩
 have HRC := hide hrc2
 rw [← hcv] at HLL
 clear hM hb0 hix hex hag hth hel hg1 hg2 hcs hLL haa hlen ha hre hcn hsh hrc2 hcv hcf hck hkk
 unfold Pg.C.val
 go_enter Tryz.func104, Tryz.ntmps104
 go_upto_region 1 with fail
 generalize W.alloc (Obj.cells #[.int .i64 c.k, .int .i64 c.v, .int .i64 c.f, .int .i64 c.ix.k, .int .i64 c.ix.n, .slice c.ix.args.ad c.ix.args.len c.ix.args.cap, .int .i64 c.ex.k, .int .i64 c.ex.n, .slice c.ex.args.ad c.ex.args.len c.ex.args.cap, .slice c.args.ad c.args.len c.args.cap, .slice c.thn.ad c.thn.len c.thn.cap, .slice c.els.ad c.els.len c.els.cap] 107) = w1 at *
 have g3 := hm1.c3
 have HC1 := hide (kput_any hm1 (by have := unhide HLEN; simp only [List.length_cons] at this; omega) 1 (a : Nat) 0)
 have hx1 := (hk1.box (unhide HM0) (Nat.le_refl _) hw01).trans hx1
 have HK1 := hide hk1
 clear hm1 hk1 hx1
 go_wp2_with fail
 refine (unhide HC1).mono ?_
 rintro r w2 ⟨rfl, v2, hm2, hq2⟩
 have hk2 := (unhide HK1).trans hq2
 clear hq2
 clear g3
 have g3 := hm2.c3
 have gf := hm2.fz 3
 have hcw : IntKind.i64.wrap ((a : Int) + 1) = (a : Int) + 1 := by rw [IntKind.wrap_i64]; have := unhide HA; omega
 have hcc : ((a + 1 : Nat) : Int) = (a : Int) + 1 := by omega
 obtain ⟨hm3, hq3⟩ := hm2.count (a + 1)
 have hk3 := hk2.trans hq3
 rw [hcc] at hm3 hk3
 have HM3' := hide hm3
 have HK3' := hide hk3
 clear hm2 hk2 hq3 hm3 hk3 hcc
 go_upto_region 3 with fail
 generalize w2.setCell ⟨bc, 3, none⟩ (.int .i64 ((a : Int) + 1)) = w3 at *
 have hm3 := unhide HM3'
 have hk3 := unhide HK3'
 clear g3 gf hcw HM3' HK3'
 obtain ⟨v3, hv3⟩ : ∃ v3, v3 = v2 := ⟨_, rfl⟩
 rw [← hv3] at hm3 hk3
 clear hv3
 have HC3 := hide (kexpr_any m c.ex y.2.1.2.1 _ _ _ _ (unhide HEX) hm3 (by have := unhide HLEN; simp only [List.length_append, List.length_cons, List.length_nil, Kd.ex_len] at *; omega))
 have hx3 := (hk3.box (unhide HM0) (Nat.le_refl _) hw01).trans hx1
 have r3_0 : w3.cell? ⟨W.heap.size, 0, none⟩ = some (.int .i64 1) := by rw [cell_of_row w3 W.heap.size 0 _ _ _ hx3, ← unhide HCK]; rfl
 have r3_6 := (cell_of_row w3 W.heap.size 6 _ _ _ hx3).trans rfl
 have r3_7 := (cell_of_row w3 W.heap.size 7 _ _ _ hx3).trans rfl
 have r3_8 := (cell_of_row w3 W.heap.size 8 _ _ _ hx3).trans rfl
 have HK3 := hide hk3
 clear hm3 hk3 hx3
 go_wp2_with fail
 refine (unhide HC3).mono ?_
 rintro r w4 ⟨rfl, v4, hm4, hq4⟩
 have hk4 := (unhide HK3).trans hq4
 clear hq4 r3_0 r3_6 r3_7 r3_8
 have HC4 := hide (kput_any hm4 (by have := unhide HLEN; simp only [List.length_append, List.length_cons, List.length_nil, Kd.ex_len] at *; omega) 6 c.v 0)
 have hx4 := (hk4.box (unhide HM0) (Nat.le_refl _) hw01).trans hx1
 have r4_1 := (cell_of_row w4 W.heap.size 1 _ _ _ hx4).trans rfl
 have HK4 := hide hk4
 clear hm4 hk4 hx4
 go_wp2_with fail
 refine (unhide HC4).mono ?_
 rintro r w5 ⟨rfl, v5, hm5, hq5⟩
 have hk5 := (unhide HK4).trans hq5
 clear hq5 r4_1
 have HP := hide (show Kd.Post w0 bc rv W LL aa (.returned (.tuple #[])) w5 from ⟨rfl, v5, by rw [unhide HLL, unhide HAA]; simpa only [List.append_assoc, List.cons_append, List.nil_append] using hm5, (unhide HK0).trans hk5⟩)
 clear hm5 hk5
 go_wp2_with fail
 go_end0
 exact unhide HP
end
end Go.Proofs.YtpfogjplnodacaaGreat
