/-
  Contracts of the checker's sizes, hasVar, isArray, part and expr. By the verifier.
-/
import Derived.Test.YtpfogjplnodacaaGreatPLeaf
import Derived.Deep.RegionWith
import Derived.Deep.RegionHeld3
import Derived.Deep.DeepCutAuto
set_option maxHeartbeats 800000
namespace Go.Proofs.YtpfogjplnodacaaGreat
open Go.RowKit
set_option linter.unusedVariables false
structure Pg.Cx (w : World) (m n : Nat) (s : Pg.Sl) (p : List (Pg.FT m n)) (now : Nat) (f : Pg.F) (x : Pg.FT m n) : Prop where
 rp : Pg.RP w m n s p
 at_ : p[now]? = some x
 lies : ∃ b o, s.ad = some ⟨b, o, none⟩ ∧ b < w.heap.size ∧ Pg.LF w b (o + now * 6) f
 rf : Pg.RF w m n f x
theorem Pg.Cx.later {w w' : World} {B m n : Nat} {s : Pg.Sl} {p : List (Pg.FT m n)} {now : Nat} {f : Pg.F} {x : Pg.FT m n} (h : Pg.Cx w m n s p now f x) (hb : Below B w w') (hB : w.heap.size ≤ B) : Pg.Cx w' m n s p now f x := by
 obtain ⟨b, o, h1, h2, h3⟩ := h.lies
 exact ⟨Pg.RP.later h.rp hb hB, h.at_, ⟨b, o, h1, by have := hb.size; omega, h3.later hb hB h2⟩, h.rf.later hb hB⟩
theorem Pg.Cx.few {w : World} {m n : Nat} {s : Pg.Sl} {p : List (Pg.FT m n)} {now : Nat} {f : Pg.F} {x : Pg.FT m n} (h : Pg.Cx w m n s p now f x) : s.len = p.length ∧ p.length ≤ 35184372088832 ∧ now < p.length :=
 ⟨h.rp.len, h.rp.few, (List.getElem?_eq_some_iff.1 h.at_).1⟩
section
variable {m n : Nat} {s : Pg.Sl} {p : List (Pg.FT m n)} {now : Nat} {f : Pg.F} {x : Pg.FT m n}
theorem sizes_any (w : World) (h : Pg.Cx w m n s p now f x) :
  Calls Tryz.prog 135 #[.agg #[.slice s.ad s.len s.cap, .int .i64 (now : Nat)]] w fun r w' => r = .returned (.slice f.sizes.ad f.sizes.len f.sizes.cap) ∧ Below w.heap.size w w' := by
 obtain ⟨h1, h2, h3⟩ := h.few
 have hb0 := (Below.refl w.heap.size w).alloc (Nat.le_refl _) (Obj.cells #[.slice s.ad s.len s.cap, .int .i64 (now : Nat)] 146)
 obtain ⟨b, o, had, hb, hl⟩ := (h.later hb0 (Nat.le_refl _)).lies
 have l1 := hl.c1
 have hi0 : (0 : Int) ≤ (now : Int) := by omega
 have hi1 : (now : Int) < (s.len : Int) := by omega
 have hl6 : s.len ≤ 35184372088832 := by omega
 have HB := hide hb0
 clear h h1 h2 h3 hb0 hl
 rw [had] at *
 go_enter Tryz.func135, Tryz.ntmps135
 go_wp2_with fail
 go_ret
 exact ⟨rfl, unhide HB⟩
theorem hasVar_any (w : World) (z : Int) (h : Pg.Cx w m n s p now f x) :
  Calls Tryz.prog 122 #[.agg #[.slice s.ad s.len s.cap, .int .i64 (now : Nat)], .int .i64 z] w fun r w' => r = .returned (.bool (Pg.at? x.sizes z).isSome) ∧ Below w.heap.size w w' := by
 have hlen := h.rf.sizes.len
 have hfew := h.rf.sizes.few
 rw [← hlen] at hfew
 have HZ := hide (show (Pg.at? x.sizes z).isSome = decide (0 ≤ z ∧ z < (f.sizes.len : Int)) by
  unfold Pg.at?
  by_cases h0 : 0 ≤ z
  · rw [if_pos h0]
    by_cases h1 : z < (f.sizes.len : Int)
    · rw [List.getElem?_eq_getElem (by omega)]; simp [h0, h1]
    · rw [List.getElem?_eq_none (by omega)]; simp [h1]
  · rw [if_neg h0]; simp [h0])
 generalize (Pg.at? x.sizes z).isSome = Z at *
 have hb0 := (Below.refl w.heap.size w).alloc (Nat.le_refl _) (Obj.cells #[.slice s.ad s.len s.cap, .int .i64 (now : Nat)] 146)
 have HS := hide (fun W hW => sizes_any W (h.later (w' := W) hW (Nat.le_refl _)))
 have HB := hide hb0
 clear h hlen hb0
 go_enter Tryz.func122, Tryz.ntmps122
 by_cases h0 : 0 ≤ z
 · have g0 : z ≥ 0 := h0
   go_wp2_with fail
   refine ((unhide HS) _ (unhide HB)).mono ?_
   rintro r w1 ⟨rfl, hb1⟩
   have HB1 := hide ((unhide HB).trans (hb1.mono (by simp)))
   have HZ2 := hide (show Z = decide (z < (f.sizes.len : Int)) by rw [unhide HZ]; simp [h0])
   clear hb1 h0 g0
   go_wp2_with fail
   go_ret
   exact ⟨ret_bool (by rw [unhide HZ2]), unhide HB1⟩
 · have g0 : ¬ z ≥ 0 := h0
   have HZ2 := hide (show Z = false by rw [unhide HZ]; simp [h0])
   go_wp2_with fail
   go_ret
   exact ⟨ret_bool (by rw [unhide HZ2]), unhide HB⟩
theorem isArray_any (w : World) (z v : Int) (h : Pg.Cx w m n s p now f x) (hz : Pg.at? x.sizes z = some v) :
  Calls Tryz.prog 124 #[.agg #[.slice s.ad s.len s.cap, .int .i64 (now : Nat)], .int .i64 z] w fun r w' => r = .returned (.bool (decide (v ≠ 0))) ∧ Below w.heap.size w w' := by
 have hlen := h.rf.sizes.len
 have hfew := h.rf.sizes.few
 rw [← hlen] at hfew
 unfold Pg.at? at hz
 by_cases h0 : 0 ≤ z
 · rw [if_pos h0] at hz
   obtain ⟨k, rfl⟩ : ∃ k : Nat, z = k := ⟨z.toNat, by omega⟩
   rw [Int.toNat_natCast] at hz
   have hlt : k < f.sizes.len := by rw [hlen]; exact (List.getElem?_eq_some_iff.1 hz).1
   obtain ⟨b, o, had, hb, hc⟩ := h.rf.sizes.at_ k v hz
   have hb0 := (Below.refl w.heap.size w).alloc (Nat.le_refl _) (Obj.cells #[.slice s.ad s.len s.cap, .int .i64 (now : Nat)] 146)
   have HS := hide (sizes_any _ (h.later hb0 (Nat.le_refl _)))
   have HB := hide hb0
   rw [had] at HS
   clear h hlen hb0 hz had h0
   have hi0 : (0 : Int) ≤ (k : Int) := by omega
   have hi1 : (k : Int) < (f.sizes.len : Int) := by omega
   go_enter Tryz.func124, Tryz.ntmps124
   go_wp2_with fail
   refine (unhide HS).mono ?_
   rintro r w1 ⟨rfl, hb1⟩
   have hbw := (unhide HB).trans (hb1.mono (by simp))
   have c1 := (hbw.cell (p := ⟨b, o + k, none⟩) hb).trans hc
   have HB1 := hide hbw
   clear hb1 hc hbw
   go_wp2_with fail
   go_ret
   refine ⟨ret_bool ?_, unhide HB1⟩
   by_cases hv : v = 0 <;> simp [hv]
 · rw [if_neg h0] at hz
   cases hz
end
end Go.Proofs.YtpfogjplnodacaaGreat
