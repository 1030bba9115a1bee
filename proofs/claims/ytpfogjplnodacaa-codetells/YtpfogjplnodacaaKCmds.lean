/-
  The contract of the compiler's cmds. By the verifier.
-/
import Derived.Test.YtpfogjplnodacaaKCm1
import Derived.Test.YtpfogjplnodacaaKCm2
import Derived.Test.YtpfogjplnodacaaKCm3
import Derived.Test.YtpfogjplnodacaaKCm4
import Derived.Test.YtpfogjplnodacaaKCm5
import Derived.Test.YtpfogjplnodacaaKCm6
import Derived.Test.YtpfogjplnodacaaKCm7
set_option maxRecDepth 100000
set_option maxHeartbeats 3200000
namespace Go.Proofs.Ytpfogjplnodacaa
open Go.RowKit
set_option linter.unusedVariables false
section
variable {m n : Nat} {w0 : World} {bc : Nat} {p : List (Pg.FT m n)} {now : Nat} {x : Pg.FT m n}
theorem Kd.shape_of {j : Nat} {y : Pg.CT m (j + 1)} (h : Pg.wcm p now x y = 0) : Kd.shape y := by
 have hk := (Xr.wc_ok h).1
 unfold Pg.wcm Pg.wc at h
 split at h
 · cases h
 split at h
 · cases h
 split at h
 · cases h
 split at h
 · cases h
 split at h
 · cases h
 rename_i h5
 have hm : Pg.more y.1.1 y.1.2.1 y.1.2.2 y.2.1.2.2.length (Pg.isX m y.2.1.1) (Pg.isX m y.2.1.2.1) y.2.2.1.length y.2.2.2.length = false := by simpa using h5
 unfold Pg.more at hm
 simp only [Bool.or_eq_false_iff, decide_eq_false_iff_not] at hm
 obtain ⟨_, _, _, _, h6, h7⟩ := hm
 exact ⟨hk, fun h => List.eq_nil_of_length_eq_zero (by omega), fun h h' => List.eq_nil_of_length_eq_zero (by omega)⟩
theorem Kd.walk_succ {α : Type} {g : α → Nat → Nat → List Kd.I} {cn : α → Nat} : ∀ (l : List α) (i : Nat) (y : α) (o a : Nat), l[i]? = some y → Kd.walk g cn (l.take (i + 1)) o a = Kd.walk g cn (l.take i) o a ++ g y (o + (Kd.walk g cn (l.take i) o a).length) (a + Pg.sumTo cn l i)
 | [], i, y, o, a, h => by simp at h
 | c :: r, 0, y, o, a, h => by
  have : c = y := by simpa using h
  subst this
  show g c o a ++ Kd.walk g cn [] _ _ = [] ++ g c (o + 0) (a + 0)
  simp [Kd.walk]
 | c :: r, i + 1, y, o, a, h => by
  have h1 := Kd.walk_succ (g := g) (cn := cn) r i y (o + (g c o a).length) (a + cn c) (by simpa using h)
  show g c o a ++ Kd.walk g cn (r.take (i + 1)) _ _ = (g c o a ++ Kd.walk g cn (r.take i) _ _) ++ g y (o + (g c o a ++ Kd.walk g cn (r.take i) _ _).length) (a + Pg.sumTo cn (c :: r) (i + 1))
  rw [h1, List.append_assoc, List.length_append]
  have h2 : Pg.sumTo cn (c :: r) (i + 1) = cn c + Pg.sumTo cn r i := by unfold Pg.sumTo; simp
  rw [h2]
  congr 3
  · omega
  · omega
theorem Kd.walk_le {α : Type} {g : α → Nat → Nat → List Kd.I} {cn : α → Nat} (l : List α) (o a : Nat) : ∀ d i, i + d = l.length → (Kd.walk g cn (l.take i) o a).length ≤ (Kd.walk g cn l o a).length := by
 intro d
 induction d with
 | zero => intro i hi; rw [List.take_of_length_le (by omega)]; exact Nat.le_refl _
 | succ d ih =>
  intro i hi
  have h1 := ih (i + 1) (by omega)
  rw [Kd.walk_succ l i _ o a (List.getElem?_eq_getElem (by omega)), List.length_append] at h1
  omega
structure Kd.Cx {j : Nat} (w0 W wr : World) (bc : Nat) (rv : Value) (l : List Kd.I) (a : Nat) (ls : List (Pg.CT m (j + 1))) (i : Nat) : Prop where
 it : ∃ rv2, Kd.M w0 wr bc rv2 (l ++ Kd.walk (Kd.cmd (Kd.cmds j)) (Pg.cnt (j + 1)) (ls.take i) l.length a) (a + Pg.sumTo (Pg.cnt (j + 1)) ls i) ∧ Kd.Kp bc rv rv2 W wr
theorem Kd.Cx.next {j : Nat} {W wr w2 w5 : World} {rv rv2 : Value} {l : List Kd.I} {a : Nat} {ls : List (Pg.CT m (j + 1))} {i : Nat} {y : Pg.CT m (j + 1)} (hm : Kd.M w0 wr bc rv2 (l ++ Kd.walk (Kd.cmd (Kd.cmds j)) (Pg.cnt (j + 1)) (ls.take i) l.length a) (a + Pg.sumTo (Pg.cnt (j + 1)) ls i)) (hk : Kd.Kp bc rv rv2 W wr) (hy : ls[i]? = some y) (hb : Below wr.heap.size wr w2)
  (hp : ∃ rv', Kd.M w0 w5 bc rv' (l ++ Kd.walk (Kd.cmd (Kd.cmds j)) (Pg.cnt (j + 1)) (ls.take i) l.length a ++ Kd.cmd (Kd.cmds j) y (l ++ Kd.walk (Kd.cmd (Kd.cmds j)) (Pg.cnt (j + 1)) (ls.take i) l.length a).length (a + Pg.sumTo (Pg.cnt (j + 1)) ls i)) (a + Pg.sumTo (Pg.cnt (j + 1)) ls i + Pg.cnt (j + 1) y) ∧ Kd.Kp bc rv2 rv' w2 w5) : Kd.Cx w0 W w5 bc rv l a ls (i + 1) := by
 obtain ⟨rv', h1, h2⟩ := hp
 refine ⟨rv', ?_, hk.trans ((Kd.Kp.below hb hm.lt).trans h2)⟩
 rw [Kd.walk_succ ls i y _ _ hy, Pg.sumTo_succ _ _ _ _ hy, ← List.append_assoc, ← Nat.add_assoc]
 rw [List.length_append] at h1
 exact h1
theorem kcmd_any {j : Nat} (hcs : Kd.CmdsOk w0 bc m j (fun ls => Pg.wcs p now x j ls = 0)) (c : Pg.C) (y : Pg.CT m (j + 1)) (W : World) (rv : Value) (l : List Kd.I) (a : Nat) (hrc : Pg.RC w0 m (j + 1) c y) (hM : Kd.M w0 W bc rv l a) (hw : Pg.wcm p now x y = 0) (hg1 : Pg.wcs p now x j y.2.2.1 = 0) (hg2 : Pg.wcs p now x j y.2.2.2 = 0)
  (hlen : l.length + (Kd.cmd (Kd.cmds j) y l.length a).length ≤ 50000) (ha : a + Pg.cnt (j + 1) y ≤ 1000) :
  Calls Try.prog 48 #[.pointer (some ⟨bc, 0, none⟩), c.val] W (Kd.Post w0 bc rv W (l ++ Kd.cmd (Kd.cmds j) y l.length a) (a + Pg.cnt (j + 1) y)) := by
 have hsh := Kd.shape_of hw
 have hk := hsh.1
 rcases (by omega : y.1.1 = 1 ∨ y.1.1 = 2 ∨ y.1.1 = 3 ∨ y.1.1 = 4 ∨ y.1.1 = 5 ∨ y.1.1 = 6 ∨ y.1.1 = 7) with h | h | h | h | h | h | h
 · exact kcmd_1 hcs c y W rv l a hrc hM hsh hg1 hg2 h hlen ha
 · exact kcmd_2 hcs c y W rv l a hrc hM hsh hg1 hg2 h hlen ha
 · exact kcmd_3 hcs c y W rv l a hrc hM hsh hg1 hg2 h hlen ha
 · exact kcmd_4 hcs c y W rv l a hrc hM hsh hg1 hg2 h hlen ha
 · exact kcmd_5 hcs c y W rv l a hrc hM hsh hg1 hg2 h hlen ha
 · exact kcmd_6 hcs c y W rv l a hrc hM hsh hg1 hg2 h hlen ha
 · exact kcmd_7 hcs c y W rv l a hrc hM hsh hg1 hg2 h hlen ha
theorem kcmds_ok : ∀ j, Kd.CmdsOk w0 bc m j (fun ls => Pg.wcs p now x j ls = 0) := by
 intro j
 induction j with
 | zero =>
  intro t ls W rv l a hrs hw hM hlen ha
  cases ls with
  | cons y r => exact Empty.elim y
  | nil =>
   have hl0 : t.len = 0 := by rw [hrs.len]; rfl
   have HP := hide (show Kd.Post w0 bc rv W (l ++ Kd.cmds 0 ([] : List (Pg.CT m 0)) l.length a) (a + Pg.cnts ([] : List (Pg.CT m 0))) (.returned (.tuple #[])) W from ⟨rfl, rv, by rw [show Kd.cmds 0 ([] : List (Pg.CT m 0)) l.length a = [] from rfl, List.append_nil]; exact hM, Kd.Kp.below (Below.refl _ _) hM.lt⟩)
   generalize l ++ Kd.cmds 0 ([] : List (Pg.CT m 0)) l.length a = T at *
   generalize a + Pg.cnts ([] : List (Pg.CT m 0)) = aa at *
   clear hrs hw hM hlen ha
   obtain ⟨ta, tn, tc⟩ := t
   dsimp only at *
   subst hl0
   go_enter Try.func28, Try.ntmps28
   go_wp2_with fail
   go_loopw [8] (fun iv wr => iv = .int .i64 0 ∧ wr = W) (fun _ _ => 0)
   case atStart => exact ⟨rfl, rfl⟩
   case round =>
    obtain ⟨rfl, rfl⟩ := hrel
    go_wp2_with fail
    go_end0
    exact unhide HP
 | succ j ih =>
  intro t ls W rv l a hrs hw hM hlen ha
  have hln := hrs.len
  have hfew := hrs.few
  rw [← hln] at hfew
  have HXC := hide (fun (c : Pg.C) (y : Pg.CT m (j + 1)) (W : World) (rv : Value) (l : List Kd.I) (a : Nat) h1 h2 h3 h4 h5 h6 h7 => show Calls Try.prog 48 #[.pointer (some ⟨bc, 0, none⟩), .agg #[.int .i64 c.k, .int .i64 c.v, .int .i64 c.f, .int .i64 c.ix.k, .int .i64 c.ix.n, .slice c.ix.args.ad c.ix.args.len c.ix.args.cap, .int .i64 c.ex.k, .int .i64 c.ex.n, .slice c.ex.args.ad c.ex.args.len c.ex.args.cap, .slice c.args.ad c.args.len c.args.cap, .slice c.thn.ad c.thn.len c.thn.cap, .slice c.els.ad c.els.len c.els.cap]] W _ from kcmd_any (p := p) (now := now) (x := x) ih c y W rv l a h1 h2 h3 h4 h5 h6 h7)
  have HWO := hide (show ∀ y ∈ ls, Pg.wcm p now x y = 0 ∧ Pg.wcs p now x j y.2.2.1 = 0 ∧ Pg.wcs p now x j y.2.2.2 = 0 from fun y hy => by
   have h1 := Pg.first_zero (show Pg.first (ls.map fun y => Pg.orW (Pg.wcm p now x y) (Pg.orW (Pg.wcs p now x j y.2.2.1) (Pg.wcs p now x j y.2.2.2))) = 0 from hw) _ (List.mem_map_of_mem hy)
   obtain ⟨a, b⟩ := Pg.orW_zero h1
   exact ⟨a, Pg.orW_zero b⟩)
  have HWL := hide (fun i (hi : i < ls.length) => Kd.walk_le (g := Kd.cmd (Kd.cmds j)) (cn := Pg.cnt (j + 1)) ls l.length a (ls.length - (i + 1)) (i + 1) (by omega))
  have HSA := hide (Pg.sumTo_le (Pg.cnt (j + 1)) ls)
  have HLEN := hide (show l.length + (Kd.walk (Kd.cmd (Kd.cmds j)) (Pg.cnt (j + 1)) ls l.length a).length ≤ 50000 from hlen)
  have HA := hide (show a + (ls.map (Pg.cnt (j + 1))).sum ≤ 1000 from ha)
  have HM := hide hM
  have HRS := hide hrs
  have HLN := hide hln
  have HFI := hide (fun (wr : World) (i : Nat) (hi : ls.length ≤ i) (hc : Kd.Cx w0 W wr bc rv l a ls i) => show Kd.Post w0 bc rv W (l ++ Kd.cmds (j + 1) ls l.length a) (a + Pg.cnts ls) (.returned (.tuple #[])) wr from by
   obtain ⟨rv2, h1, h2⟩ := hc.it
   have hs : Pg.sumTo (Pg.cnt (j + 1)) ls i = Pg.cnts ls := by unfold Pg.sumTo Pg.cnts; rw [List.take_of_length_le hi]
   rw [List.take_of_length_le hi, hs] at h1
   exact ⟨rfl, rv2, h1, h2⟩)
  generalize l ++ Kd.cmds (j + 1) ls l.length a = T at *
  generalize a + Pg.cnts ls = aa at *
  clear hM hrs hw hlen ha hln ih
  obtain ⟨ta, tn, tc⟩ := t
  dsimp only at *
  go_enter Try.func28, Try.ntmps28
  go_wp2_with fail
  go_loopw [8] (fun iv wr => ∃ i : Nat, i ≤ tn ∧ iv = .int .i64 i ∧ Kd.Cx w0 W wr bc rv l a ls i) (fun iv _ => tn - (intOf iv).toNat)
  case atStart => exact ⟨0, Nat.zero_le _, rfl, ⟨rv, by rw [List.take_zero, show Kd.walk (Kd.cmd (Kd.cmds j)) (Pg.cnt (j + 1)) ([] : List (Pg.CT m (j + 1))) l.length a = [] from rfl, List.append_nil]; exact unhide HM, Kd.Kp.below (Below.refl _ _) (unhide HM).lt⟩⟩
  case round =>
   obtain ⟨i, hi, rfl, hax⟩ := hrel
   by_cases hlt : i < tn
   · obtain ⟨rv2, hm2, hk2⟩ := hax.it
     have hlt2 : i < ls.length := by have := unhide HLN; omega
     have hy := List.getElem?_eq_getElem hlt2
     obtain ⟨bb, o, cc, had, hbl, hlies, hrd⟩ := (unhide HRS).at_ i _ hy
     obtain ⟨ww1, ww2, ww3⟩ := (unhide HWO) _ (List.mem_of_getElem? hy)
     have hwl := (unhide HWL) i hlt2
     rw [Kd.walk_succ ls i _ _ _ hy, List.length_append] at hwl
     have hsu := Pg.sumTo_succ (Pg.cnt (j + 1)) ls i _ hy
     have hsa := (unhide HSA) (i + 1) (by omega)
     have HY := hide hy
     generalize ls[i] = y at *
     obtain ⟨p0, p1, p2, p3, p4, p5, p6, p7, p8, p9, p10, p11⟩ := hlies.later hm2.bel (Nat.le_refl _) hbl
     have had' : ta = some ⟨bb, o, none⟩ := had
     subst had'
     have hal := (Below.refl wr.heap.size wr).alloc (Nat.le_refl _) (Obj.cells #[.int .i64 cc.k, .int .i64 cc.v, .int .i64 cc.f, .int .i64 cc.ix.k, .int .i64 cc.ix.n, .slice cc.ix.args.ad cc.ix.args.len cc.ix.args.cap, .int .i64 cc.ex.k, .int .i64 cc.ex.n, .slice cc.ex.args.ad cc.ex.args.len cc.ex.args.cap, .slice cc.args.ad cc.args.len cc.args.cap, .slice cc.thn.ad cc.thn.len cc.thn.cap, .slice cc.els.ad cc.els.len cc.els.cap] 70)
     have HC := hide ((unhide HXC) cc y _ rv2 _ _ hrd (hm2.below hal) ww1 ww2 ww3 (by rw [List.length_append]; have := unhide HLEN; omega) (by have := unhide HA; omega))
     have HNX := hide (fun (w5 : World) => Kd.Cx.next (w5 := w5) hm2 hk2 (unhide HY) hal)
     have hi0' : (0 : Int) ≤ (i : Int) := by omega
     have hi1' : (i : Int) < (tn : Int) := by omega
     clear hy hbl hlies hrd had hlt2 hal hm2 hk2 hax ww1 ww2 ww3 hwl hsu hsa
     go_wp2_with fail
     refine (unhide HC).mono ?_
     rintro r w5 ⟨rfl, hp5⟩
     have HA5 := hide ((unhide HNX) w5 hp5)
     clear hp5
     go_wp2_with fail
     exact ⟨⟨i + 1, by omega, by go_num, unhide HA5⟩, by simp [intOf]; omega⟩
   · have HP := hide ((unhide HFI) wr i (by have := unhide HLN; omega) hax)
     clear hax
     go_wp2_with fail
     go_end0
     exact unhide HP
end
end Go.Proofs.Ytpfogjplnodacaa
