/-
  The contract of the compiler's expr. By the verifier.
-/
import Derived.Test.YtpfogjplnodacaaKGo
set_option maxRecDepth 100000
set_option maxHeartbeats 3200000
namespace Go.Proofs.Ytpfogjplnodacaa
open Go.RowKit
set_option linter.unusedVariables false
theorem Kd.exs_succ {m : Nat} {l : List (Pg.XT m)} {i : Nat} {y : Pg.XT m} (h : l[i]? = some y) : Kd.exs (l.take (i + 1)) = Kd.exs (l.take i) ++ Kd.ex m y := by
 obtain ⟨h1, h2⟩ := List.getElem?_eq_some_iff.1 h
 unfold Kd.exs
 rw [List.take_succ_eq_append_getElem h1, h2, List.flatMap_append]
 simp
theorem Kd.exs_len {m : Nat} (l : List (Pg.XT m)) : (Kd.exs l).length = (l.map (Pg.parts m)).sum := by
 unfold Kd.exs
 rw [List.length_flatMap, show (fun a => (Kd.ex m a).length) = Pg.parts m from funext (Kd.ex_len m)]
theorem Kd.parts_le {m : Nat} {l : List (Pg.XT m)} {i : Nat} {y : Pg.XT m} (h : l[i]? = some y) : ((l.take i).map (Pg.parts m)).sum + Pg.parts m y ≤ (l.map (Pg.parts m)).sum := by
 have h1 := Pg.sumTo_succ (Pg.parts m) l i y h
 have h2 := Pg.sumTo_le (Pg.parts m) l (i + 1) (List.getElem?_eq_some_iff.1 h).1
 unfold Pg.sumTo at h1 h2
 omega
structure Kd.Ax {m : Nat} (w0 W1 wr : World) (bc : Nat) (rv : Value) (l : List Kd.I) (a : Nat) (xs : List (Pg.XT m)) (i : Nat) : Prop where
 it : ∃ rv2, Kd.M w0 wr bc rv2 (l ++ Kd.exs (xs.take i)) a ∧ Kd.Kp bc rv rv2 W1 wr
theorem Kd.Ax.next {m : Nat} {w0 W1 wr w2 w5 : World} {bc : Nat} {rv rv2 : Value} {l : List Kd.I} {a : Nat} {xs : List (Pg.XT m)} {i : Nat} {y : Pg.XT m} (hm : Kd.M w0 wr bc rv2 (l ++ Kd.exs (xs.take i)) a) (hk : Kd.Kp bc rv rv2 W1 wr) (hy : xs[i]? = some y) (hb : Below wr.heap.size wr w2)
  (hp : ∃ rv', Kd.M w0 w5 bc rv' (l ++ Kd.exs (xs.take i) ++ Kd.ex m y) a ∧ Kd.Kp bc rv2 rv' w2 w5) : Kd.Ax w0 W1 w5 bc rv l a xs (i + 1) := by
 obtain ⟨rv', h1, h2⟩ := hp
 exact ⟨rv', by rw [Kd.exs_succ hy, ← List.append_assoc]; exact h1, hk.trans ((Kd.Kp.below hb hm.lt).trans h2)⟩
theorem kexpr_any {w0 : World} {bc : Nat} : ∀ (m : Nat) (e : Pg.E) (x : Pg.XT m) (W : World) (rv : Value) (l : List Kd.I) (a : Nat), Pg.RX w0 m e x → Kd.M w0 W bc rv l a → l.length + Pg.parts m x ≤ 100000 →
  Calls Try.prog 30 #[.pointer (some ⟨bc, 0, none⟩), e.val] W (Kd.Post w0 bc rv W (l ++ Kd.ex m x) a) := by
 intro m
 induction m with
 | zero => intro e x W rv l a h; exact absurd h id
 | succ m ih =>
  intro e x W rv l a hre hM hl
  obtain ⟨⟨hk, hn⟩, hs⟩ := hre
  have hlen := hs.len
  have hfew := hs.few
  rw [← hlen] at hfew
  have hpa : Pg.parts (m + 1) x = 1 + (x.2.map (Pg.parts m)).sum := rfl
  rw [hpa] at hl
  have hb0 := (Below.refl W.heap.size W).alloc (Nat.le_refl _) (Obj.cells #[.int .i64 e.k, .int .i64 e.n, .slice e.args.ad e.args.len e.args.cap] 42)
  have q0 : (W.alloc (Obj.cells #[.int .i64 e.k, .int .i64 e.n, .slice e.args.ad e.args.len e.args.cap] 42)).cell? ⟨W.heap.size, 0, none⟩ = some (.int .i64 e.k) := by go_simp
  have q1 : (W.alloc (Obj.cells #[.int .i64 e.k, .int .i64 e.n, .slice e.args.ad e.args.len e.args.cap] 42)).cell? ⟨W.heap.size, 1, none⟩ = some (.int .i64 e.n) := by go_simp
  have q2 : (W.alloc (Obj.cells #[.int .i64 e.k, .int .i64 e.n, .slice e.args.ad e.args.len e.args.cap] 42)).cell? ⟨W.heap.size, 2, none⟩ = some (.slice e.args.ad e.args.len e.args.cap) := by go_simp
  have HIH := hide (fun (e : Pg.E) (y : Pg.XT m) (W : World) (rv : Value) (l : List Kd.I) (h1 : Pg.RX w0 m e y) (h2 : Kd.M w0 W bc rv l a) (h3 : l.length + Pg.parts m y ≤ 100000) => show Calls Try.prog 30 #[.pointer (some ⟨bc, 0, none⟩), .agg #[.int .i64 e.k, .int .i64 e.n, .slice e.args.ad e.args.len e.args.cap]] W _ from ih e y W rv l a h1 h2 h3)
  have HEX := hide (show l ++ Kd.ex (m + 1) x = l ++ Kd.exs x.2 ++ [Kd.one x.1.1 x.1.2] by rw [List.append_assoc]; rfl)
  rw [← hk, ← hn] at HEX
  have HAL := hide (fun (i : Nat) (hi : x.2.length ≤ i) => show x.2.take i = x.2 from List.take_of_length_le hi)
  have HM1 := hide (hM.below hb0)
  have HM := hide hM
  have HK1 := hide (Kd.Kp.below (rv := rv) hb0 hM.lt)
  have HS := hide hs
  have HL := hide hl
  have HLN := hide hlen
  have hw01 : W.heap.size < (W.alloc (Obj.cells #[.int .i64 e.k, .int .i64 e.n, .slice e.args.ad e.args.len e.args.cap] 42)).heap.size := by simp
  generalize l ++ Kd.ex (m + 1) x = LL at *
  generalize x.2 = xs at *
  clear ih hM hs hl hb0 hlen hpa hk hn
  obtain ⟨ek, en, ad, an, ac⟩ := e
  dsimp only [Pg.E.val] at *
  go_enter Try.func30, Try.ntmps30
  go_wp2_with fail
  generalize W.alloc (Obj.cells #[.int .i64 ek, .int .i64 en, .slice ad an ac] 42) = W1 at *
  go_loopw [9] (fun iv wr => ∃ i : Nat, i ≤ an ∧ iv = .int .i64 i ∧ Kd.Ax w0 W1 wr bc rv l a xs i) (fun iv _ => an - (intOf iv).toNat)
  case atStart => exact ⟨0, Nat.zero_le _, rfl, ⟨rv, by rw [List.take_zero, show Kd.exs ([] : List (Pg.XT m)) = [] from rfl, List.append_nil]; exact unhide HM1, Kd.Kp.below (Below.refl _ _) (unhide HM1).lt⟩⟩
  case round =>
   obtain ⟨i, hi, rfl, hax⟩ := hrel
   obtain ⟨rv2, hm2, hk2⟩ := hax.it
   by_cases hlt : i < an
   · have hlt2 : i < xs.length := by have := unhide HLN; omega
     have hy := List.getElem?_eq_getElem hlt2
     obtain ⟨bb, o, cc, had, hbl, hlies, hrd⟩ := (unhide HS).at_ i _ hy
     have hpl := Kd.parts_le hy
     have HY := hide hy
     generalize xs[i] = y at *
     obtain ⟨p0, p1, p2⟩ := hlies.later hm2.bel (Nat.le_refl _) hbl
     have had' : ad = some ⟨bb, o, none⟩ := had
     subst had'
     have hal := (Below.refl wr.heap.size wr).alloc (Nat.le_refl _) (Obj.cells #[.int .i64 cc.k, .int .i64 cc.n, .slice cc.args.ad cc.args.len cc.args.cap] 42)
     have HC := hide ((unhide HIH) cc y _ rv2 _ hrd (hm2.below hal) (by rw [List.length_append, Kd.exs_len]; have := unhide HL; omega))
     have HNX := hide (fun (w5 : World) => Kd.Ax.next (w5 := w5) hm2 hk2 (unhide HY) hal)
     have hi0' : (0 : Int) ≤ (i : Int) := by omega
     have hi1' : (i : Int) < (an : Int) := by omega
     clear hy hbl hlies hrd had hlt2 hal hm2 hk2 hax
     go_wp2_with fail
     refine (unhide HC).mono ?_
     rintro r w5 ⟨rfl, hp5⟩
     have HA5 := hide ((unhide HNX) w5 hp5)
     clear hp5
     go_wp2_with fail
     exact ⟨⟨i + 1, by omega, by go_num, unhide HA5⟩, by simp [intOf]; omega⟩
   · have hie : i = an := by omega
     subst hie
     rw [(unhide HAL) i (by have := unhide HLN; omega)] at hm2
     have hbx : wr.heap[W.heap.size]? = W1.heap[W.heap.size]? := hk2.box (unhide HM) (Nat.le_refl _) hw01
     have r0 := (Kd.cell_kept hbx 0).trans q0
     have r1 := (Kd.cell_kept hbx 1).trans q1
     have hlm : (l ++ Kd.exs xs).length ≤ 100000 := by rw [List.length_append, Kd.exs_len]; have := unhide HL; omega
     have HPU := hide (fun (k x : Int) => kput_any hm2 hlm k x 0)
     have HFI := hide (fun (x : Kd.I) (hx : Kd.one ek en = x) (w6 : World) (h6 : ∃ rv', Kd.M w0 w6 bc rv' (l ++ Kd.exs xs ++ [x]) a ∧ Kd.Kp bc rv2 rv' wr w6) => show Kd.Post w0 bc rv W LL a (.returned (.tuple #[])) w6 from by
      obtain ⟨rv', h1, h2⟩ := h6
      refine ⟨rfl, rv', by rw [unhide HEX, hx]; exact h1, (unhide HK1).trans (hk2.trans h2)⟩)
     clear hm2 hk2 hax hbx q0 q1 q2
     by_cases k1 : ek = 1
     · subst k1
       go_wp2_with fail
       refine ((unhide HPU) 2 en).mono ?_
       rintro r w6 ⟨rfl, h6⟩
       have HP6 := hide ((unhide HFI) ⟨2, en, 0⟩ rfl w6 h6)
       clear h6
       go_wp2_with fail
       go_end0
       exact unhide HP6
     have b1 : (ek == 1) = false := by simpa using k1
     by_cases k2 : ek = 2
     · subst k2
       go_wp2_with fail
       refine ((unhide HPU) 3 en).mono ?_
       rintro r w6 ⟨rfl, h6⟩
       have HP6 := hide ((unhide HFI) ⟨3, en, 0⟩ rfl w6 h6)
       clear h6
       go_wp2_with fail
       go_end0
       exact unhide HP6
     have b2 : (ek == 2) = false := by simpa using k2
     by_cases k3 : ek = 3
     · subst k3
       go_wp2_with fail
       refine ((unhide HPU) 4 en).mono ?_
       rintro r w6 ⟨rfl, h6⟩
       have HP6 := hide ((unhide HFI) ⟨4, en, 0⟩ rfl w6 h6)
       clear h6
       go_wp2_with fail
       go_end0
       exact unhide HP6
     have b3 : (ek == 3) = false := by simpa using k3
     have HO := hide (show Kd.one ek en = ⟨5, ek, 0⟩ by unfold Kd.one; rw [if_neg k1, if_neg k2, if_neg k3])
     clear k1 k2 k3
     go_wp2_with fail
     refine ((unhide HPU) 5 ek).mono ?_
     rintro r w6 ⟨rfl, h6⟩
     have HP6 := hide ((unhide HFI) ⟨5, ek, 0⟩ (unhide HO) w6 h6)
     clear h6
     go_wp2_with fail
     go_end0
     exact unhide HP6
end Go.Proofs.Ytpfogjplnodacaa
