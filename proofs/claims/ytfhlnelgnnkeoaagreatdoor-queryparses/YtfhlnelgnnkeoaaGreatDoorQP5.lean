/-
  Parse of package query at the text 'once print'. By the verifier.
-/
import Derived.Test.YtfhlnelgnnkeoaaGreatDoorQP4
import Derived.Test.YtfhlnelgnnkeoaaGreatDoorQCheck
import Derived.Test.YtfhlnelgnnkeoaaGreatDoorQOnce
import Derived.Test.YtfhlnelgnnkeoaaGreatDoorScan
namespace Go.Proofs.YtfhlnelgnnkeoaaGreatDoor
open Go.RowKit
set_option linter.unusedVariables false

theorem Qp.own_slice {w : World} {base : Nat} {e : TypeId} {size : Nat} {v : Value} {n : Nat} {xs : List Value} (h : w.ownsRow base e size v n xs) : ∃ ad cap, v = .slice ad n cap := by
  rcases h.2 with ⟨hv, hn⟩ | ⟨g, cap, cur, hv, _⟩
  · subst hn; exact ⟨none, 0, hv⟩
  · exact ⟨_, cap, hv⟩
/-- Tokens of a text. -/
def Qp.toks (s : ByteArray) (l : List (Nat × Nat × Nat)) : List Qp.T := l.map fun t => ⟨(t.1 : Int), (t.2.1 : Int), s.extract t.2.1 (t.2.1 + t.2.2)⟩
theorem Qp.cells_at (s : ByteArray) (l : List (Nat × Nat × Nat)) : ∀ (i : Nat) (t : Nat × Nat × Nat), l[i]? = some t →
    (Tk.cells s l)[i * 3]? = some (.int .i64 (t.1 : Int)) ∧ (Tk.cells s l)[i * 3 + 1]? = some (.int .i64 (t.2.1 : Int)) ∧ (Tk.cells s l)[i * 3 + 2]? = some (.string (s.extract t.2.1 (t.2.1 + t.2.2))) := by
  induction l with
  | nil => intro i t h; simp at h
  | cons x r ih =>
    intro i t h
    cases i with
    | zero => simp at h; subst h; simp [Tk.cells]
    | succ i =>
      rw [List.getElem?_cons_succ] at h
      obtain ⟨h1, h2, h3⟩ := ih i t h
      have e : Tk.cells s (x :: r) = .int .i64 (x.1 : Int) :: .int .i64 (x.2.1 : Int) :: .string (s.extract x.2.1 (x.2.1 + x.2.2)) :: Tk.cells s r := rfl
      have e0 : (i + 1) * 3 = i * 3 + 1 + 1 + 1 := by omega
      rw [e, e0]
      exact ⟨h1, h2, h3⟩
theorem Qp.add_at (g j : Nat) : (⟨g, 0, none⟩ : Addr).add j = ⟨g, j, none⟩ := by unfold Addr.add; split <;> simp_all
theorem Qp.rt_own {w : World} {base : Nat} {ad : Option Addr} {n cap : Nat} {s : ByteArray} {l : List (Nat × Nat × Nat)} (h : w.ownsRow base 80 3 (.slice ad n cap) l.length (Tk.cells s l)) :
    Qp.RT w ad (Qp.toks s l) := by
  refine ⟨fun i t hi => ?_⟩
  unfold Qp.toks at hi
  rw [List.getElem?_map] at hi
  cases hx : l[i]? with
  | none => rw [hx] at hi; cases hi
  | some x =>
    rw [hx] at hi
    simp at hi
    subst hi
    have hn : 0 < l.length := by
      have := (List.getElem?_eq_some_iff.1 hx).1; omega
    obtain ⟨g, cap', hv, hg1, hg2⟩ := h.form hn
    have hc := h.cells (g := g) (by rw [hv]; rfl)
    obtain ⟨h1, h2, h3⟩ := Qp.cells_at s l i x hx
    cases hv
    refine ⟨g, 0, rfl, hg2, ?_, ?_, ?_⟩
    · have := hc _ _ h1; rw [Nat.zero_add]; rw [Qp.add_at] at this; exact this
    · have := hc _ _ h2; rw [Nat.zero_add]; rw [Qp.add_at] at this; exact this
    · have := hc _ _ h3; rw [Nat.zero_add]; rw [Qp.add_at] at this; exact this

def Qp.small : ByteArray := ⟨#[111, 110, 99, 101, 32, 112, 114, 105, 110, 116]⟩
theorem Qp.small_scan : Tk.scanR Qp.small = ([(1, 0, 4), (1, 5, 5)], 0, 0) := by decide +kernel
theorem Qp.small_toks : Qp.toks Qp.small [(1, 0, 4), (1, 5, 5)] = [⟨1, 0, Qk.word 11⟩, ⟨1, 5, Qk.word 4⟩] := by
  have h1 : Qp.small.extract 0 4 = Qk.word 11 := by decide +kernel
  have h2 : Qp.small.extract 5 10 = Qk.word 4 := by decide +kernel
  show [(⟨1, 0, Qp.small.extract 0 4⟩ : Qp.T), ⟨1, 5, Qp.small.extract 5 10⟩] = _
  rw [h1, h2]
theorem Qk.RA.once_of {W : World} {g : Nat} (h : Qk.Lies W g 0 ⟨4, 0, ⟨none, 0, 0⟩⟩) (hg : g < W.heap.size) : Qk.RA W 2 ⟨11, 0, ⟨some ⟨g, 0, none⟩, 1, 1⟩⟩ Qk.onceT := by
  refine ⟨⟨rfl, rfl⟩, rfl, (by decide : (1 : Nat) ≤ 9223372036854775807), fun i y hy => ?_⟩
  match i, hy with
  | 0, hy =>
    cases hy
    exact ⟨g, 0, ⟨4, 0, ⟨none, 0, 0⟩⟩, rfl, hg, h, Qk.RA.leaf _ 0 4 _ 0 rfl⟩
  | i + 1, hy => exact absurd hy (by show ([] : List (Qk.AT 1))[i]? ≠ _; simp)
theorem Qk.once_chk : Qk.chk 2 Qk.onceT = 0 := by decide +kernel

set_option maxRecDepth 100000 in
set_option maxHeartbeats 1600000 in
theorem Parse_once (w : World) :
    Calls Tryz.prog 13 #[.string ⟨#[111, 110, 99, 101, 32, 112, 114, 105, 110, 116]⟩] w fun r w' => (∃ g, r = .returned (.tuple #[.agg #[.int .i64 11, .int .i64 0, .slice (some ⟨g, 0, none⟩) 1 1], .int .i64 0, .int .i64 0]) ∧ Qk.Lies w' g 0 ⟨4, 0, ⟨none, 0, 0⟩⟩ ∧ g < w'.heap.size) ∧ Below w.heap.size w w' := by
  have HS := hide (fun (W : World) => show Calls Tryz.prog 31 #[.string ⟨#[111, 110, 99, 101, 32, 112, 114, 105, 110, 116]⟩] W fun r w' => (∃ ad cap, r = .returned (.tuple #[.slice ad 2 cap, .int .i64 0, .int .i64 0]) ∧ Qp.RT w' ad [⟨1, 0, Qk.word 11⟩, ⟨1, 5, Qk.word 4⟩]) ∧ Below W.heap.size W w' by
    refine (Scan_any Qp.small W (by unfold maxLen; decide)).mono ?_
    rintro r w' ⟨v, rfl, ho, hb⟩
    rw [Qp.small_scan] at ho
    obtain ⟨ad, cap, rfl⟩ := Qp.own_slice ho
    have hrt := Qp.rt_own ho
    rw [Qp.small_toks] at hrt
    rw [Qp.small_scan]
    exact ⟨⟨ad, cap, rfl, hrt⟩, hb⟩)
  have HP := hide (fun (W : World) (ad : Option Addr) (cap : Nat) (h : Qp.RT W ad [⟨1, 0, Qk.word 11⟩, ⟨1, 5, Qk.word 4⟩]) => parse_once ⟨1, 0, Qk.word 11⟩ ⟨1, 5, Qk.word 4⟩ ad cap 10 W h rfl rfl)
  have HC := hide (fun (W : World) (g : Nat) (h : Qk.Lies W g 0 ⟨4, 0, ⟨none, 0, 0⟩⟩) (hg : g < W.heap.size) => show Calls Tryz.prog 12 #[.agg #[.int .i64 11, .int .i64 0, .slice (some ⟨g, 0, none⟩) 1 1]] W fun r w' => r = .returned (.int .i64 0) ∧ Below W.heap.size W w' by
    have := qCheck_any 2 ⟨11, 0, ⟨some ⟨g, 0, none⟩, 1, 1⟩⟩ Qk.onceT W (Qk.RA.once_of h hg)
    rw [Qk.once_chk] at this
    exact this)
  go_enter Tryz.func13, Tryz.ntmps13
  go_wp2_with fail
  have hbA := (Below.refl w.heap.size w).alloc (Nat.le_refl _) (Obj.cells #[.int .i64 0, .int .i64 0, .slice none 0 0] 24)
  have hzA : Qp.Z3 (w.alloc (Obj.cells #[.int .i64 0, .int .i64 0, .slice none 0 0] 24)) w.heap.size := ⟨⟨.int .i64 0, by go_simp⟩, ⟨.int .i64 0, by go_simp⟩, ⟨.slice none 0 0, by go_simp⟩, fun i => by go_simp⟩
  have HBA := hide hbA
  have HZA := hide hzA
  clear hbA hzA
  generalize (w.alloc (Obj.cells #[.int .i64 0, .int .i64 0, .slice none 0 0] 24)) = WA at *
  refine ((unhide HS) _).mono ?_
  rintro r w1 ⟨⟨ad, cap, rfl, hrt⟩, hb1⟩
  have HRT := hide hrt
  have HZ1 := hide ((unhide HZA).later hb1)
  have HB1 := hide ((unhide HBA).trans (hb1.mono (unhide HBA).size))
  clear hrt hb1
  go_wp2_with fail
  refine ((unhide HP) _ ad cap (unhide HRT)).mono ?_
  rintro r w2 ⟨⟨g, rfl, hL, hgn, hg⟩, hb2⟩
  have hgw : w.heap.size < g := by have := (unhide HZ1).lt; omega
  have HZ2 := hide ((unhide HZ1).later hb2)
  have HB2 := hide ((unhide HB1).trans (hb2.mono (unhide HB1).size))
  have HL := hide (And.intro hL hg)
  clear hL hg hgn hb2
  go_wp2_with fail
  have hbC := (Below.refl w2.heap.size w2).alloc (Nat.le_refl _) (Obj.cells #[.int .i64 11, .int .i64 0, .slice (some ⟨g, 0, none⟩) 1 1] 24)
  have q0 : (w2.alloc (Obj.cells #[.int .i64 11, .int .i64 0, .slice (some ⟨g, 0, none⟩) 1 1] 24)).cell? ⟨w2.heap.size, 0, none⟩ = some (.int .i64 11) := by go_simp
  have q1 : (w2.alloc (Obj.cells #[.int .i64 11, .int .i64 0, .slice (some ⟨g, 0, none⟩) 1 1] 24)).cell? ⟨w2.heap.size, 1, none⟩ = some (.int .i64 0) := by go_simp
  have q2 : (w2.alloc (Obj.cells #[.int .i64 11, .int .i64 0, .slice (some ⟨g, 0, none⟩) 1 1] 24)).cell? ⟨w2.heap.size, 2, none⟩ = some (.slice (some ⟨g, 0, none⟩) 1 1) := by go_simp
  have HZC := hide ((unhide HZ2).later hbC)
  have HBC := hide ((unhide HB2).trans (hbC.mono (unhide HB2).size))
  have HLC := hide (And.intro ((unhide HL).1.later hbC (Nat.le_refl _) (unhide HL).2) (show g < (w2.alloc (Obj.cells #[.int .i64 11, .int .i64 0, .slice (some ⟨g, 0, none⟩) 1 1] 24)).heap.size by have := (unhide HL).2; simp; omega))
  have hsC : w2.heap.size < (w2.alloc (Obj.cells #[.int .i64 11, .int .i64 0, .slice (some ⟨g, 0, none⟩) 1 1] 24)).heap.size := by simp
  clear hbC
  generalize (w2.alloc (Obj.cells #[.int .i64 11, .int .i64 0, .slice (some ⟨g, 0, none⟩) 1 1] 24)) = WC at *
  refine ((unhide HC) _ g (unhide HLC).1 (unhide HLC).2).mono ?_
  rintro r w3 ⟨rfl, hb3⟩
  replace q0 := (hb3.cell (p := ⟨w2.heap.size, 0, none⟩) hsC).trans q0
  replace q1 := (hb3.cell (p := ⟨w2.heap.size, 1, none⟩) hsC).trans q1
  replace q2 := (hb3.cell (p := ⟨w2.heap.size, 2, none⟩) hsC).trans q2
  have HZ3 := hide ((unhide HZC).later hb3)
  have HB3 := hide ((unhide HBC).trans (hb3.mono (unhide HBC).size))
  have HL3 := hide ((unhide HLC).1.later hb3 (Nat.le_refl _) (unhide HLC).2)
  have hg3 : w.heap.size < w2.heap.size := (unhide HZ2).lt
  clear hb3 hsC
  obtain ⟨v0, m0⟩ := (unhide HZ3).c0
  obtain ⟨v1, m1⟩ := (unhide HZ3).c1
  obtain ⟨v2, m2⟩ := (unhide HZ3).c2
  have z0 := (unhide HZ3).f 0
  have z1 := (unhide HZ3).f 1
  have z2 := (unhide HZ3).f 2
  have HM := hide (Qp.set3 m0 m1 m2 (.int .i64 11) (.int .i64 0) (.slice (some ⟨g, 0, none⟩) 1 1))
  have HBF := hide ((((unhide HB3).setCell (p := ⟨w.heap.size, 0, none⟩) (Nat.le_refl _) (.int .i64 11)).setCell (p := ⟨w.heap.size, 1, none⟩) (Nat.le_refl _) (.int .i64 0)).setCell (p := ⟨w.heap.size, 2, none⟩) (Nat.le_refl _) (.slice (some ⟨g, 0, none⟩) 1 1))
  go_wp2_with fail
  obtain ⟨s0, s1, s2⟩ := unhide HM
  have hne : g ≠ w.heap.size := by omega
  have hkg : (((w3.setCell ⟨w.heap.size, 0, none⟩ (.int .i64 11)).setCell ⟨w.heap.size, 1, none⟩ (.int .i64 0)).setCell ⟨w.heap.size, 2, none⟩ (.slice (some ⟨g, 0, none⟩) 1 1)).heap[g]? = w3.heap[g]? := ((Below.heap_setCell _ _ _ _ (by exact hne)).trans (Below.heap_setCell _ _ _ _ (by exact hne))).trans (Below.heap_setCell _ _ _ _ (by exact hne))
  refine bodyPost_ret (v := .tuple #[.agg #[.int .i64 11, .int .i64 0, .slice (some ⟨g, 0, none⟩) 1 1], .int .i64 0, .int .i64 0]) (by simp [results, Tryz.results13, go_sem, s0, s1, s2]) rfl ?_
  have hLX : Qk.Lies (((w3.setCell ⟨w.heap.size, 0, none⟩ (.int .i64 11)).setCell ⟨w.heap.size, 1, none⟩ (.int .i64 0)).setCell ⟨w.heap.size, 2, none⟩ (.slice (some ⟨g, 0, none⟩) 1 1)) g 0 ⟨4, 0, ⟨none, 0, 0⟩⟩ := ⟨(World.cell?_of_block (a := ⟨g, 0, none⟩) hkg).trans (unhide HL3).c0, (World.cell?_of_block (a := ⟨g, 1, none⟩) hkg).trans (unhide HL3).c1, (World.cell?_of_block (a := ⟨g, 2, none⟩) hkg).trans (unhide HL3).c2⟩
  exact ⟨⟨g, rfl, hLX, World.block_lt_of_cell? _ ⟨g, 0, none⟩ hLX.c0⟩, unhide HBF⟩
end Go.Proofs.YtfhlnelgnnkeoaaGreatDoor
