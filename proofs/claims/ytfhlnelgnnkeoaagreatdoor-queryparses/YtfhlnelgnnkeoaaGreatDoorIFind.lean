/-
  Contracts of Find, Last and Count. By the verifier.
-/
import Derived.Test.YtfhlnelgnnkeoaaGreatDoorITimes
namespace Go.Proofs.YtfhlnelgnnkeoaaGreatDoor
open Go.RowKit Go.Maps
set_option linter.unusedVariables false

theorem Ix.chk_ok {n : Nat} {kind : Int} (h : Ix.chk n kind = 0) : n ≤ 4000 := by
  unfold Ix.chk at h
  split at h
  · cases h
  · omega
theorem wrongIn_ok {ad : Option Addr} {n cap : Nat} {kind : Int} (w : World) (h : Ix.chk n kind = 0) :
    Calls Tryz.prog 103 #[.slice ad n cap, .int .i64 kind] w fun e w' => e = .returned (.int .i64 0) ∧ w' = w := by
  have := wrongIn_any ad n cap kind w (by have := Ix.chk_ok h; omega)
  rw [h] at this
  exact this
/-- The numbers that a row of the call's own has. -/
theorem Ix.open_row {w : World} {base : Nat} {v : Value} {zs : List Int} (h : w.ownsInts base 3 .i64 v zs) :
    (v = .slice none 0 0 ∧ zs = []) ∨ ∃ g c, v = .slice (some ⟨g, 0, none⟩) zs.length c ∧ zs.length ≤ c ∧ c ≤ maxLen ∧ Ix.RI w (some ⟨g, 0, none⟩) zs := by
  have h1 := h.1
  rcases h.1.2 with ⟨rfl, h0⟩ | ⟨g, cap, cur, rfl, hB, hg, hn, hcap, _⟩
  · exact Or.inl ⟨rfl, List.length_eq_zero_iff.1 h0⟩
  · refine Or.inr ⟨g, cap, rfl, hn, hcap, ⟨fun i x hi => ⟨g, 0, rfl, (Array.getElem?_eq_some_iff.1 hg).1, ?_⟩⟩⟩
    obtain ⟨hi', rfl⟩ := List.getElem?_eq_some_iff.1 hi
    have := h1.cellAt i (by omega)
    rw [Nat.zero_add, this]
    simp [List.getElem?_eq_getElem hi']
theorem Ix.row_is {D : DataW Unit} {kind n : Int} {l : List Ev} {k : Nat} {w : World} {base : Nat} {t : TypeId} {v : Value} {zs : List Int} (h : Ix.Tells D kind l k) (hat : D.atKey (.int .i64 n) .nil = rowDatum .i64 v zs) (hoi : w.ownsInts base t .i64 v zs) : zs = Ix.T kind n l k :=
  Ix.lits_inj (by rw [← Ix.items_row hoi, ← hat]; exact h.2 n)
theorem Ix.RI.part {w : World} {g o : Nat} {zs : List Int} (h : Ix.RI w (some ⟨g, o, none⟩) zs) (c m : Nat) : Ix.RI w (some ⟨g, o + c, none⟩) ((zs.drop c).take m) := by
  refine ⟨fun i x hi => ?_⟩
  have hi2 : zs[c + i]? = some x := by
    rw [List.getElem?_take] at hi
    split at hi
    · rw [List.getElem?_drop] at hi; exact hi
    · cases hi
  obtain ⟨b, o', he, hb, hc⟩ := h.at_ (c + i) x hi2
  cases he
  exact ⟨g, o + c, rfl, hb, by rw [Nat.add_assoc]; exact hc⟩

theorem countBelow_nil (one : Int) (w : World) :
    Calls Tryz.prog 105 #[.slice none 0 0, .int .i64 one] w fun e w' => e = .returned (.int .i64 0) ∧ w' = w :=
  countBelow_any [] none 0 one w (Ix.RI.nil _ _) List.Pairwise.nil (by decide)

theorem Ix.fin_post {W w0 : World} {g off m y : Nat} {zs F : List Int} {f t : Int} (hF : (zs.drop (Ix.cnt f zs)).take (max (Ix.cnt f zs) (Ix.cnt t zs) - Ix.cnt f zs) = F) (hcf : Ix.cnt f zs ≤ zs.length) (hct : Ix.cnt t zs ≤ zs.length)
    (hri : Ix.RI W (some ⟨g, 0, none⟩) zs) (hb : Below w0.heap.size w0 W) (hm : m = max (Ix.cnt f zs) (Ix.cnt t zs) - Ix.cnt f zs) (ho : off = Ix.cnt f zs ∨ m = 0) :
    ∃ a, (∃ x, Ending.returned (.tuple #[.slice (some ⟨g, off, none⟩) m y, .int .i64 0]) = .returned (.tuple #[.slice a F.length x, .int .i64 0])) ∧ Ix.RI W a F ∧ Below w0.heap.size w0 W := by
  have hl : F.length = m := by
    rw [← hF, List.length_take, List.length_drop]
    omega
  refine ⟨some ⟨g, off, none⟩, ⟨y, by rw [hl]⟩, ?_, hb⟩
  rcases ho with rfl | h0
  · have := hri.part (Ix.cnt f zs) (max (Ix.cnt f zs) (Ix.cnt t zs) - Ix.cnt f zs)
    rw [hF, Nat.zero_add] at this
    exact this
  · have : F = [] := List.length_eq_zero_iff.1 (by omega)
    rw [this]
    exact Ix.RI.nil _ _

set_option maxRecDepth 100000 in
set_option maxHeartbeats 1600000 in
theorem Find_ok (l : List Ev) (ad : Option Addr) (cap : Nat) (kind n f t : Int) (w : World) (hr : Cl.RE w ad l) (hw : ∀ e ∈ l, e.wf) (hn : Ix.wf n) (h0 : Ix.chk l.length kind = 0) :
    Calls Tryz.prog 90 #[.slice ad l.length cap, .int .i64 kind, .int .i64 n, .int .i64 f, .int .i64 t] w fun e w' => ∃ a c, e = .returned (.tuple #[.slice a (Ix.found kind n f t l).length c, .int .i64 0]) ∧ Ix.RI w' a (Ix.found kind n f t l) ∧ Below w.heap.size w w' := by
  have hl := Ix.chk_ok h0
  have HR := hide hr
  have HW := hide hw
  have H0 := hide h0
  have HKEY := hide (keyOf_int_mk Tryz.underlying3 hn)
  have tok1 : True := trivial
  clear hr hw h0 hn
  go_enter Tryz.func90, Tryz.ntmps90
  go_wp2_with fail
  refine (wrongIn_ok _ (unhide H0)).mono ?_
  rintro e w' ⟨rfl, rfl⟩
  go_wp2_with fail
  refine (timesOf_any l ad cap kind _ (unhide HR) (unhide HW) hl).mono ?_
  rintro e w1 ⟨D, rfl, hown, htell, hb1⟩
  have HOWN := hide hown
  have HTELL := hide htell
  have HB1 := hide hb1
  clear hown htell hb1
  go_wp2_with (first
    | (at_lookup; have _t := tok1; clear tok1 _t; refine wpList_lookup_groups _ rfl _ _ 121 rfl 3 109 3 .i64 Tryz.keyed Tryz.underlying121 (Tryz.zeroInts _) (w'.heap.size + 1) w'.heap.size (2 * l.length) D rfl (unhide HOWN) (by unfold maxLen; omega) _ _ rfl (unhide HKEY) ?_; intro v zs hat hoi hzl hback; have HZ := hide (Ix.row_is (unhide HTELL) hat hoi); have HV := hide (Ix.open_row hoi); clear hat hoi hback))
  have HU := hide (show Ix.Up zs from (unhide HZ) ▸ Ix.T_up kind n l l.length)
  have hzs : zs.length ≤ 4000 := by have := Ix.T_length kind n l l.length; rw [unhide HZ]; omega
  have hcf := Ix.cnt_le f zs
  have hct := Ix.cnt_le t zs
  have HF := hide (show ((zs.drop (Ix.cnt f zs)).take (max (Ix.cnt f zs) (Ix.cnt t zs) - Ix.cnt f zs)) = Ix.found kind n f t l by
    rw [(unhide HU).between f t]
    show _ = (Ix.T kind n l l.length).filter (Ix.rng f t)
    rw [← unhide HZ])
  rcases unhide HV with ⟨rfl, hz0⟩ | ⟨g, c, rfl, hc1, hc2, hri⟩
  · have HF0 := hide (show Ix.found kind n f t l = [] by rw [← unhide HF, hz0]; rfl)
    clear hz0 HF HV HZ HU
    refine (countBelow_nil _ _).mono ?_
    rintro e w2 ⟨rfl, rfl⟩
    go_wp2_with fail
    refine (countBelow_nil _ _).mono ?_
    rintro e w2 ⟨rfl, rfl⟩
    go_wp2_with fail
    go_ret2
    rw [unhide HF0]
    exact ⟨none, 0, rfl, Ix.RI.nil _ _, unhide HB1⟩
  · have HRI := hide hri
    clear hri HV
    refine (countBelow_any zs _ c f _ (unhide HRI) (unhide HU) hzs).mono ?_
    rintro e w2 ⟨rfl, rfl⟩
    go_wp2_with fail
    refine (countBelow_any zs _ c t _ (unhide HRI) (unhide HU) hzs).mono ?_
    rintro e w2 ⟨rfl, rfl⟩
    go_wp2_with fail
    all_goals
      go_ret2
      exact Ix.fin_post (unhide HF) hcf hct (unhide HRI) (unhide HB1) (by omega) (by omega)

set_option maxHeartbeats 400000 in
theorem Find_err (ad : Option Addr) (len cap : Nat) (kind n f t : Int) (w : World) (hl : len ≤ 35184372088832) (h0 : Ix.chk len kind ≠ 0) :
    Calls Tryz.prog 90 #[.slice ad len cap, .int .i64 kind, .int .i64 n, .int .i64 f, .int .i64 t] w fun e w' => e = .returned (.tuple #[.slice none 0 0, .int .i64 (Ix.chk len kind : Nat)]) ∧ Below w.heap.size w w' := by
  have HWI := hide (fun W => wrongIn_any ad len cap kind W hl)
  have g0 : ((Ix.chk len kind : Int) != 0) = true := by simpa using h0
  clear h0
  generalize Ix.chk len kind = C at *
  go_enter Tryz.func90, Tryz.ntmps90
  go_wp2_with fail
  refine ((unhide HWI) _).mono ?_
  rintro e w' ⟨rfl, rfl⟩
  go_wp2_with fail
  go_ret2
  exact ⟨rfl, Below.refl _ _⟩

end Go.Proofs.YtfhlnelgnnkeoaaGreatDoor
