/-
  The contract of tellerOf, of any kind. By the verifier.
-/
import Derived.Test.YtfhlnelgnnkeoaaGreatDoorQTeller
import Derived.Test.YtfhlnelgnnkeoaaGreatDoorQRule
namespace Go.Proofs.YtfhlnelgnnkeoaaGreatDoor
open Go.RowKit
set_option linter.unusedVariables false

/-- A slice of rows, each of so many. -/
structure Qk.RG (w : World) (v : Value) (s : List (List Bool)) (len : Nat) : Prop where
  sl : ∃ a c, v = .slice a s.length c
  at_ : ∀ i x, s[i]? = some x → ∃ ga ca g c, v = .slice (some ⟨ga, 0, none⟩) s.length ca ∧ w.cell? ⟨ga, i, none⟩ = some (.slice (some ⟨g, 0, none⟩) len c) ∧ Qk.Row w g x ∧ x.length = len
theorem Qk.RG.below {w w' : World} {v : Value} {s : List (List Bool)} {len : Nat} (h : Qk.RG w v s len) (hb : Below w.heap.size w w') : Qk.RG w' v s len :=
  ⟨h.sl, fun i x hi => by
    obtain ⟨ga, ca, g, c, h1, h2, h3, h4⟩ := h.at_ i x hi
    exact ⟨ga, ca, g, c, h1, (hb.cell (p := ⟨ga, i, none⟩) (World.block_lt_of_cell? w _ h2)).trans h2, h3.kept (hb.block g h3.lt), h4⟩⟩
theorem Qk.RG.one {w : World} {v : Value} {s : List (List Bool)} {len : Nat} (h : Qk.RG w v s len) (h1 : s.length = 1) :
    ∃ s0 ga ca g0 c0, s = [s0] ∧ v = .slice (some ⟨ga, 0, none⟩) 1 ca ∧ w.cell? ⟨ga, 0, none⟩ = some (.slice (some ⟨g0, 0, none⟩) len c0) ∧ Qk.Row w g0 s0 ∧ s0.length = len := by
  match s, h1 with
  | [s0], _ =>
    obtain ⟨ga, ca, g, c, h2, h3, h4, h5⟩ := h.at_ 0 s0 rfl
    exact ⟨s0, ga, ca, g, c, rfl, h2, h3, h4, h5⟩
theorem Qk.RG.two {w : World} {v : Value} {s : List (List Bool)} {len : Nat} (h : Qk.RG w v s len) (h1 : s.length = 2) :
    ∃ s0 s1 ga ca g0 c0 g1 c1, s = [s0, s1] ∧ v = .slice (some ⟨ga, 0, none⟩) 2 ca ∧ w.cell? ⟨ga, 0, none⟩ = some (.slice (some ⟨g0, 0, none⟩) len c0) ∧ Qk.Row w g0 s0 ∧ s0.length = len ∧ w.cell? ⟨ga, 1, none⟩ = some (.slice (some ⟨g1, 0, none⟩) len c1) ∧ Qk.Row w g1 s1 ∧ s1.length = len := by
  match s, h1 with
  | [s0, s1], _ =>
    obtain ⟨ga, ca, g, c, h2, h3, h4, h5⟩ := h.at_ 0 s0 rfl
    obtain ⟨ga', ca', g', c', h2', h3', h4', h5'⟩ := h.at_ 1 s1 rfl
    rw [h2] at h2'
    cases h2'
    exact ⟨s0, s1, ga, ca, g, c, g', c', rfl, h2, h3, h4, h5, h3', h4', h5'⟩

theorem Qk.within_wf {k n : Int} (h : Qk.within k n = true) : Ix.wf n := by
  simp only [Qk.within, decide_eq_true_eq] at h
  have h1 : -9999999 ≤ Qk.least k := by unfold Qk.least; split <;> (try split) <;> omega
  have h2 : Qk.most k ≤ 9999999 := by unfold Qk.most; split <;> (try split) <;> omega
  exact WalkArith.wf_i64 (by omega)

theorem tellerOf_any (k n : Int) (l : List Ev) (ad qa : Option Addr) (cap qn qc : Nat) (v : Value) (s : List (List Bool)) (w : World) (hr : Cl.RE w ad l) (hw : ∀ e ∈ l, e.wf) (hk : Qk.isK k = true) (hn : Qk.within k n = true) (hg : Qk.RG w v s l.length) (hs : s.length = Qk.argsN k) (hf : l.length ≤ 4000) :
    Calls Tryz.prog 50 #[.agg #[.int .i64 k, .int .i64 n, .slice qa qn qc], .slice ad l.length cap, v] w fun e w' => Qk.Teller e w.heap.size w' l.length (Qk.ev k n l (Qk.sub s 0) (Qk.sub s 1)) ∧ Below w.heap.size w w' := by
  have hwf := Qk.within_wf hn
  rcases Qk.kinds hk with rfl | rfl | rfl | rfl | rfl | rfl | rfl | rfl | rfl | rfl | rfl | rfl | rfl | rfl
  · obtain ⟨a, c, rfl⟩ := hg.sl
    exact teller_1 n l ad qa cap qn qc _ _ w hr _ hw hwf hf
  · obtain ⟨a, c, rfl⟩ := hg.sl
    exact teller_2 n l ad qa cap qn qc _ _ w hr _ hw hwf hf
  · obtain ⟨a, c, rfl⟩ := hg.sl
    exact teller_3 n l ad qa cap qn qc _ _ w hr _ hw hwf hf
  · obtain ⟨a, c, rfl⟩ := hg.sl
    exact teller_4 n l ad qa cap qn qc _ _ w hr _ hw hwf hf
  · obtain ⟨a, c, rfl⟩ := hg.sl
    exact teller_5 n l ad qa cap qn qc _ _ w hr _ hf
  · obtain ⟨a, c, rfl⟩ := hg.sl
    exact teller_6 n l ad qa cap qn qc _ _ w hr _ hf
  · obtain ⟨s0, ga, ca, g0, c0, rfl, rfl, h0, r0, e0⟩ := hg.one hs
    exact teller_7 n l ad qa cap qn qc ga ca g0 c0 w hr s0 h0 r0 e0 hf
  · obtain ⟨s0, s1, ga, ca, g0, c0, g1, c1, rfl, rfl, h0, r0, e0, h1, r1, e1⟩ := hg.two hs
    exact teller_8 n l ad qa cap qn qc ga ca g0 c0 g1 c1 w hr s0 h0 r0 e0 s1 h1 r1 e1 hf
  · obtain ⟨s0, s1, ga, ca, g0, c0, g1, c1, rfl, rfl, h0, r0, e0, h1, r1, e1⟩ := hg.two hs
    exact teller_9 n l ad qa cap qn qc ga ca g0 c0 g1 c1 w hr s0 h0 r0 e0 s1 h1 r1 e1 hf
  · obtain ⟨s0, ga, ca, g0, c0, rfl, rfl, h0, r0, e0⟩ := hg.one hs
    exact teller_10 n l ad qa cap qn qc ga ca g0 c0 w hr s0 h0 r0 e0 hf
  · obtain ⟨s0, ga, ca, g0, c0, rfl, rfl, h0, r0, e0⟩ := hg.one hs
    exact teller_11 n l ad qa cap qn qc ga ca g0 c0 w hr s0 h0 r0 e0 hf
  · obtain ⟨s0, ga, ca, g0, c0, rfl, rfl, h0, r0, e0⟩ := hg.one hs
    exact teller_12 n l ad qa cap qn qc ga ca g0 c0 w hr s0 h0 r0 e0 hf
  · obtain ⟨s0, s1, ga, ca, g0, c0, g1, c1, rfl, rfl, h0, r0, e0, h1, r1, e1⟩ := hg.two hs
    exact teller_13 n l ad qa cap qn qc ga ca g0 c0 g1 c1 w hr s0 h0 r0 e0 s1 h1 r1 e1 hf
  · obtain ⟨s0, ga, ca, g0, c0, rfl, rfl, h0, r0, e0⟩ := hg.one hs
    exact teller_14 n l ad qa cap qn qc ga ca g0 c0 w hr s0 h0 r0 e0 hf
end Go.Proofs.YtfhlnelgnnkeoaaGreatDoor
