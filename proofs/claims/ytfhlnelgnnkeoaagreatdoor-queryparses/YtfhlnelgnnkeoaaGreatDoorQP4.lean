/-
  The parser's parse at the tokens once and print. By the verifier.
-/
import Derived.Test.YtfhlnelgnnkeoaaGreatDoorQP3
import Derived.Test.YtfhlnelgnnkeoaaGreatDoorCatch
namespace Go.Proofs.YtfhlnelgnnkeoaaGreatDoor
open Go.RowKit
set_option linter.unusedVariables false

set_option maxHeartbeats 400000 in
theorem qcatch_idle (a b c : Addr) (w : World) :
    CallsD Tryz.prog 43 #[.pointer (some a), .pointer (some b), .pointer (some c)] .returning w fun e u' w' => e = .returned (.tuple #[]) ∧ u' = .returning ∧ w' = w := by
  refine callsD_of_wpS Tryz.func43 rfl fun c₀ cs hu => ?_
  simp only [Tryz.ntmps43, List.size_toArray, List.length_cons, List.length_nil, Nat.reduceAdd, Nat.reduceSub, Array.replicate_succ,
     Array.replicate_zero, List.push_toArray, List.append_toArray, List.nil_append, List.cons_append]
  apply wpS_seq
  refine rec_none ⟨#[.pointer (some a), .pointer (some b), .pointer (some c), .nilIface, undef, undef, .nilIface, undef, undef, undef, undef, undef, undef, undef, undef, undef, undef, undef, undef], []⟩ (by simp [recoverD, hu]) (by simp [go_sem]) ?_
  refine wpS_of_wp ?_
  go_wp2
  cases c₀
  simp_all [bodyPostS, results, Tryz.results43]

set_option maxRecDepth 100000 in
set_option maxHeartbeats 1600000 in
theorem parse_once (x y : Qp.T) (ta : Option Addr) (c : Nat) (e : Int) (w : World) (hr : Qp.RT w ta [x, y]) (hx : x.t = Qk.word 11) (hy : y.t = Qk.word 4) :
    Calls Tryz.prog 32 #[.slice ta 2 c, .int .i64 e] w fun r w' => (∃ g, r = .returned (.tuple #[.agg #[.int .i64 11, .int .i64 0, .slice (some ⟨g, 0, none⟩) 1 1], .int .i64 0, .int .i64 0]) ∧ Qk.Lies w' g 0 ⟨4, 0, ⟨none, 0, 0⟩⟩ ∧ w.heap.size ≤ g ∧ g < w'.heap.size) ∧ Below w.heap.size w w' := by
  have hmf : ∀ (fn : Fn) (first cap : Array Value) (w : World), (Instr.makeFunc fn first cap).run Tryz.prog w = .ok (.func fn first cap) w := fun _ _ _ _ => rfl
  have HQ := hide (fun (W : World) (bp : Nat) (hb : Below w.heap.size w W) (hne : w.heap.size ≤ bp) (hP : Qp.P W bp ta 2 c 0 e) => show Calls Tryz.prog 44 #[.pointer (some ⟨bp, 0, none⟩), .int .i64 0] W fun r w' => (∃ g, r = .returned (.agg #[.int .i64 11, .int .i64 0, .slice (some ⟨g, 0, none⟩) 1 1]) ∧ Qk.Lies w' g 0 ⟨4, 0, ⟨none, 0, 0⟩⟩ ∧ W.heap.size ≤ g ∧ g < w'.heap.size) ∧ Qp.P w' bp ta 2 c 2 e ∧ Qk.But1 bp W.heap.size W w' from
    query_once [x, y] ta 2 c bp 0 0 e x W hP (hr.below hb) rfl hx y rfl hy (fun b o h => by
      obtain ⟨b', o', h1, h2, _⟩ := hr.at_ 0 x rfl
      rw [h1] at h
      cases h
      omega) (by decide) (by decide) (by decide))
  clear hr hx hy
  go_enter_defers Tryz.func32, Tryz.ntmps32
  go_wp2_with fail
  have hbW := ((((Below.refl w.heap.size w).alloc (Nat.le_refl _) (Obj.cells #[.int .i64 0, .int .i64 0, .slice none 0 0] 24)).alloc (by simp) (Obj.cells #[.int .i64 0] 3)).alloc (by simp; omega) (Obj.cells #[.int .i64 0] 25)).alloc (by simp; omega) (Obj.cells #[.slice ta 2 c, .int .i64 0, .int .i64 e] 75)
  have hP : Qp.P ((((w.alloc (Obj.cells #[.int .i64 0, .int .i64 0, .slice none 0 0] 24)).alloc (Obj.cells #[.int .i64 0] 3)).alloc (Obj.cells #[.int .i64 0] 25)).alloc (Obj.cells #[.slice ta 2 c, .int .i64 0, .int .i64 e] 75)) (w.heap.size + 1 + 1 + 1) ta 2 c 0 e := ⟨by go_simp, by go_simp, by go_simp, by go_simp⟩
  have hz : Qp.Z3 ((((w.alloc (Obj.cells #[.int .i64 0, .int .i64 0, .slice none 0 0] 24)).alloc (Obj.cells #[.int .i64 0] 3)).alloc (Obj.cells #[.int .i64 0] 25)).alloc (Obj.cells #[.slice ta 2 c, .int .i64 0, .int .i64 e] 75)) w.heap.size := ⟨⟨.int .i64 0, by go_simp⟩, ⟨.int .i64 0, by go_simp⟩, ⟨.slice none 0 0, by go_simp⟩, fun i => by go_simp⟩
  have a1 : ((((w.alloc (Obj.cells #[.int .i64 0, .int .i64 0, .slice none 0 0] 24)).alloc (Obj.cells #[.int .i64 0] 3)).alloc (Obj.cells #[.int .i64 0] 25)).alloc (Obj.cells #[.slice ta 2 c, .int .i64 0, .int .i64 e] 75)).cell? ⟨w.heap.size + 1, 0, none⟩ = some (.int .i64 0) := by go_simp
  have a2 : ((((w.alloc (Obj.cells #[.int .i64 0, .int .i64 0, .slice none 0 0] 24)).alloc (Obj.cells #[.int .i64 0] 3)).alloc (Obj.cells #[.int .i64 0] 25)).alloc (Obj.cells #[.slice ta 2 c, .int .i64 0, .int .i64 e] 75)).cell? ⟨w.heap.size + 1 + 1, 0, none⟩ = some (.int .i64 0) := by go_simp
  have f1 : ((((w.alloc (Obj.cells #[.int .i64 0, .int .i64 0, .slice none 0 0] 24)).alloc (Obj.cells #[.int .i64 0] 3)).alloc (Obj.cells #[.int .i64 0] 25)).alloc (Obj.cells #[.slice ta 2 c, .int .i64 0, .int .i64 e] 75)).frozen? ⟨w.heap.size + 1, 0, none⟩ = false := by go_simp
  have f2 : ((((w.alloc (Obj.cells #[.int .i64 0, .int .i64 0, .slice none 0 0] 24)).alloc (Obj.cells #[.int .i64 0] 3)).alloc (Obj.cells #[.int .i64 0] 25)).alloc (Obj.cells #[.slice ta 2 c, .int .i64 0, .int .i64 e] 75)).frozen? ⟨w.heap.size + 1 + 1, 0, none⟩ = false := by go_simp
  have hs0 : ((((w.alloc (Obj.cells #[.int .i64 0, .int .i64 0, .slice none 0 0] 24)).alloc (Obj.cells #[.int .i64 0] 3)).alloc (Obj.cells #[.int .i64 0] 25)).alloc (Obj.cells #[.slice ta 2 c, .int .i64 0, .int .i64 e] 75)).heap.size = w.heap.size + 4 := by simp
  generalize ((((w.alloc (Obj.cells #[.int .i64 0, .int .i64 0, .slice none 0 0] 24)).alloc (Obj.cells #[.int .i64 0] 3)).alloc (Obj.cells #[.int .i64 0] 25)).alloc (Obj.cells #[.slice ta 2 c, .int .i64 0, .int .i64 e] 75)) = W0 at *
  refine ((unhide HQ) W0 (w.heap.size + 1 + 1 + 1) hbW (by omega) hP).mono ?_
  rintro r w1 ⟨⟨g, rfl, hL, hg1, hg2⟩, hP1, hb1⟩
  replace a1 := (hb1.cell (q := w.heap.size + 1) (o := 0) (by omega) (by omega)).trans a1
  replace a2 := (hb1.cell (q := w.heap.size + 1 + 1) (o := 0) (by omega) (by omega)).trans a2
  replace f1 := (World.frozen?_of_block (a := ⟨w.heap.size + 1, 0, none⟩) (hb1.block (w.heap.size + 1) (by omega) (by omega))).trans f1
  replace f2 := (World.frozen?_of_block (a := ⟨w.heap.size + 1 + 1, 0, none⟩) (hb1.block (w.heap.size + 1 + 1) (by omega) (by omega))).trans f2
  replace hz := hz.but hb1 (by omega)
  have hB1 : Below w.heap.size w w1 := ⟨hb1.os.trans hbW.os, hb1.tape.trans hbW.tape, hb1.output.trans hbW.output, Nat.le_trans hbW.size hb1.size, fun q h => (hb1.block q (by omega) (by omega)).trans (hbW.block q h)⟩
  have hs1 := hb1.size
  have hgN : w.heap.size + 4 ≤ g := by omega
  have hw1 : w.heap.size + 4 ≤ w1.heap.size := by omega
  clear hb1 hbW hP hg1 hs0 hs1
  have HL := hide hL
  have HB1 := hide hB1
  have HZ := hide hz
  have HG := hide (And.intro hgN hg2)
  clear hL hB1 hz hgN hg2
  obtain ⟨v0, m0⟩ := (unhide HZ).c0
  obtain ⟨v1, m1⟩ := (unhide HZ).c1
  obtain ⟨v2, m2⟩ := (unhide HZ).c2
  have z0 := (unhide HZ).f 0
  have z1 := (unhide HZ).f 1
  have z2 := (unhide HZ).f 2
  have b1 := hP1.c1
  have HS := hide (Qp.set3 m0 m1 m2 (.int .i64 11) (.int .i64 0) (.slice (some ⟨g, 0, none⟩) 1 1))
  clear hP1
  go_wp2_with fail
  have hkeep : ∀ q, q ≠ w.heap.size → (((w1.setCell ⟨w.heap.size, 0, none⟩ (.int .i64 11)).setCell ⟨w.heap.size, 1, none⟩ (.int .i64 0)).setCell ⟨w.heap.size, 2, none⟩ (.slice (some ⟨g, 0, none⟩) 1 1)).heap[q]? = w1.heap[q]? := fun q h => ((Below.heap_setCell _ _ _ _ (by exact h)).trans (Below.heap_setCell _ _ _ _ (by exact h))).trans (Below.heap_setCell _ _ _ _ (by exact h))
  have hbS : Below w.heap.size w1 (((w1.setCell ⟨w.heap.size, 0, none⟩ (.int .i64 11)).setCell ⟨w.heap.size, 1, none⟩ (.int .i64 0)).setCell ⟨w.heap.size, 2, none⟩ (.slice (some ⟨g, 0, none⟩) 1 1)) := (((Below.refl w.heap.size w1).setCell (p := ⟨w.heap.size, 0, none⟩) (Nat.le_refl _) (.int .i64 11)).setCell (p := ⟨w.heap.size, 1, none⟩) (Nat.le_refl _) (.int .i64 0)).setCell (p := ⟨w.heap.size, 2, none⟩) (Nat.le_refl _) (.slice (some ⟨g, 0, none⟩) 1 1)
  have hz2 : ∀ i, (((w1.setCell ⟨w.heap.size, 0, none⟩ (.int .i64 11)).setCell ⟨w.heap.size, 1, none⟩ (.int .i64 0)).setCell ⟨w.heap.size, 2, none⟩ (.slice (some ⟨g, 0, none⟩) 1 1)).frozen? ⟨w.heap.size, i, none⟩ = false := fun i => by rw [World.frozen?_setCell, World.frozen?_setCell, World.frozen?_setCell]; exact (unhide HZ).f i
  obtain ⟨s0, s1, s2⟩ := unhide HS
  clear HS m0 m1 m2 z0 z1 z2 b1
  generalize (((w1.setCell ⟨w.heap.size, 0, none⟩ (.int .i64 11)).setCell ⟨w.heap.size, 1, none⟩ (.int .i64 0)).setCell ⟨w.heap.size, 2, none⟩ (.slice (some ⟨g, 0, none⟩) 1 1)) = WD at *
  have m0 := s0
  have m1 := s1
  have m2 := s2
  have z0 := hz2 0
  have z1 := hz2 1
  have z2 := hz2 2
  replace a1 := (World.cell?_of_block (a := ⟨w.heap.size + 1, 0, none⟩) (hkeep (w.heap.size + 1) (by omega))).trans a1
  replace a2 := (World.cell?_of_block (a := ⟨w.heap.size + 1 + 1, 0, none⟩) (hkeep (w.heap.size + 1 + 1) (by omega))).trans a2
  replace f1 := (World.frozen?_of_block (a := ⟨w.heap.size + 1, 0, none⟩) (hkeep (w.heap.size + 1) (by omega))).trans f1
  replace f2 := (World.frozen?_of_block (a := ⟨w.heap.size + 1 + 1, 0, none⟩) (hkeep (w.heap.size + 1 + 1) (by omega))).trans f2
  have HL2 := hide (show Qk.Lies WD g 0 ⟨4, 0, ⟨none, 0, 0⟩⟩ from ⟨(World.cell?_of_block (a := ⟨g, 0, none⟩) (hkeep g (by have := (unhide HG).1; omega))).trans (unhide HL).c0, (World.cell?_of_block (a := ⟨g, 1, none⟩) (hkeep g (by have := (unhide HG).1; omega))).trans (unhide HL).c1, (World.cell?_of_block (a := ⟨g, 2, none⟩) (hkeep g (by have := (unhide HG).1; omega))).trans (unhide HL).c2⟩)
  have HBD := hide ((unhide HB1).trans hbS)
  have HM := hide (Qp.set3 s0 s1 s2 (.int .i64 11) (.int .i64 0) (.slice (some ⟨g, 0, none⟩) 1 1))
  have hsD := hbS.size
  have HGD := hide (show g < WD.heap.size by have := (unhide HG).2; omega)
  clear hkeep hbS hz2 s0 s1 s2
  refine (giveUp_no _ _).mono ?_
  rintro r w3 ⟨rfl, hw3⟩
  obtain rfl : WD = w3 := hw3.symm
  clear hw3
  go_wp2_with fail
  obtain ⟨s0, s1, s2⟩ := unhide HM
  have e1 : (((WD.setCell ⟨w.heap.size, 0, none⟩ (.int .i64 11)).setCell ⟨w.heap.size, 1, none⟩ (.int .i64 0)).setCell ⟨w.heap.size, 2, none⟩ (.slice (some ⟨g, 0, none⟩) 1 1)).cell? ⟨w.heap.size + 1, 0, none⟩ = some (.int .i64 0) := (World.cell?_of_block (a := ⟨w.heap.size + 1, 0, none⟩) (((Below.heap_setCell _ _ _ _ (by simp)).trans (Below.heap_setCell _ _ _ _ (by simp))).trans (Below.heap_setCell _ _ _ _ (by simp)))).trans a1
  have e2 : (((WD.setCell ⟨w.heap.size, 0, none⟩ (.int .i64 11)).setCell ⟨w.heap.size, 1, none⟩ (.int .i64 0)).setCell ⟨w.heap.size, 2, none⟩ (.slice (some ⟨g, 0, none⟩) 1 1)).cell? ⟨w.heap.size + 1 + 1, 0, none⟩ = some (.int .i64 0) := (World.cell?_of_block (a := ⟨w.heap.size + 1 + 1, 0, none⟩) (((Below.heap_setCell _ _ _ _ (by simp; omega)).trans (Below.heap_setCell _ _ _ _ (by simp; omega))).trans (Below.heap_setCell _ _ _ _ (by simp; omega)))).trans a2
  have hk5 : ∀ q, q ≠ w.heap.size + 1 → q ≠ w.heap.size + 1 + 1 → (((((WD.setCell ⟨w.heap.size, 0, none⟩ (.int .i64 11)).setCell ⟨w.heap.size, 1, none⟩ (.int .i64 0)).setCell ⟨w.heap.size, 2, none⟩ (.slice (some ⟨g, 0, none⟩) 1 1)).setCell ⟨w.heap.size + 1, 0, none⟩ (.int .i64 0)).setCell ⟨w.heap.size + 1 + 1, 0, none⟩ (.int .i64 0)).heap[q]? = (((WD.setCell ⟨w.heap.size, 0, none⟩ (.int .i64 11)).setCell ⟨w.heap.size, 1, none⟩ (.int .i64 0)).setCell ⟨w.heap.size, 2, none⟩ (.slice (some ⟨g, 0, none⟩) 1 1)).heap[q]? := fun q h h' => (Below.heap_setCell _ _ _ _ (by exact h')).trans (Below.heap_setCell _ _ _ _ (by exact h))
  have hk3 : ∀ q, q ≠ w.heap.size → (((WD.setCell ⟨w.heap.size, 0, none⟩ (.int .i64 11)).setCell ⟨w.heap.size, 1, none⟩ (.int .i64 0)).setCell ⟨w.heap.size, 2, none⟩ (.slice (some ⟨g, 0, none⟩) 1 1)).heap[q]? = WD.heap[q]? := fun q h => ((Below.heap_setCell _ _ _ _ (by exact h)).trans (Below.heap_setCell _ _ _ _ (by exact h))).trans (Below.heap_setCell _ _ _ _ (by exact h))
  have e3 := World.cell?_setCell_same (((WD.setCell ⟨w.heap.size, 0, none⟩ (.int .i64 11)).setCell ⟨w.heap.size, 1, none⟩ (.int .i64 0)).setCell ⟨w.heap.size, 2, none⟩ (.slice (some ⟨g, 0, none⟩) 1 1)) ⟨w.heap.size + 1, 0, none⟩ (.int .i64 0) e1
  have d4 : (((((WD.setCell ⟨w.heap.size, 0, none⟩ (.int .i64 11)).setCell ⟨w.heap.size, 1, none⟩ (.int .i64 0)).setCell ⟨w.heap.size, 2, none⟩ (.slice (some ⟨g, 0, none⟩) 1 1)).setCell ⟨w.heap.size + 1, 0, none⟩ (.int .i64 0)).setCell ⟨w.heap.size + 1 + 1, 0, none⟩ (.int .i64 0)).cell? ⟨w.heap.size + 1 + 1, 0, none⟩ = some (.int .i64 0) := World.cell?_setCell_same _ _ _ (u := .int .i64 0) ((World.cell?_of_block (a := ⟨w.heap.size + 1 + 1, 0, none⟩) (Below.heap_setCell _ _ _ _ (by simp))).trans e2)
  have d3 : (((((WD.setCell ⟨w.heap.size, 0, none⟩ (.int .i64 11)).setCell ⟨w.heap.size, 1, none⟩ (.int .i64 0)).setCell ⟨w.heap.size, 2, none⟩ (.slice (some ⟨g, 0, none⟩) 1 1)).setCell ⟨w.heap.size + 1, 0, none⟩ (.int .i64 0)).setCell ⟨w.heap.size + 1 + 1, 0, none⟩ (.int .i64 0)).cell? ⟨w.heap.size + 1, 0, none⟩ = some (.int .i64 0) := (World.cell?_of_block (a := ⟨w.heap.size + 1, 0, none⟩) (Below.heap_setCell _ _ _ _ (by simp))).trans e3
  have d0 : (((((WD.setCell ⟨w.heap.size, 0, none⟩ (.int .i64 11)).setCell ⟨w.heap.size, 1, none⟩ (.int .i64 0)).setCell ⟨w.heap.size, 2, none⟩ (.slice (some ⟨g, 0, none⟩) 1 1)).setCell ⟨w.heap.size + 1, 0, none⟩ (.int .i64 0)).setCell ⟨w.heap.size + 1 + 1, 0, none⟩ (.int .i64 0)).cell? ⟨w.heap.size, 0, none⟩ = some (.int .i64 11) := (World.cell?_of_block (a := ⟨w.heap.size, 0, none⟩) (hk5 w.heap.size (by omega) (by omega))).trans s0
  have d1 : (((((WD.setCell ⟨w.heap.size, 0, none⟩ (.int .i64 11)).setCell ⟨w.heap.size, 1, none⟩ (.int .i64 0)).setCell ⟨w.heap.size, 2, none⟩ (.slice (some ⟨g, 0, none⟩) 1 1)).setCell ⟨w.heap.size + 1, 0, none⟩ (.int .i64 0)).setCell ⟨w.heap.size + 1 + 1, 0, none⟩ (.int .i64 0)).cell? ⟨w.heap.size, 1, none⟩ = some (.int .i64 0) := (World.cell?_of_block (a := ⟨w.heap.size, 1, none⟩) (hk5 w.heap.size (by omega) (by omega))).trans s1
  have d2 : (((((WD.setCell ⟨w.heap.size, 0, none⟩ (.int .i64 11)).setCell ⟨w.heap.size, 1, none⟩ (.int .i64 0)).setCell ⟨w.heap.size, 2, none⟩ (.slice (some ⟨g, 0, none⟩) 1 1)).setCell ⟨w.heap.size + 1, 0, none⟩ (.int .i64 0)).setCell ⟨w.heap.size + 1 + 1, 0, none⟩ (.int .i64 0)).cell? ⟨w.heap.size, 2, none⟩ = some (.slice (some ⟨g, 0, none⟩) 1 1) := (World.cell?_of_block (a := ⟨w.heap.size, 2, none⟩) (hk5 w.heap.size (by omega) (by omega))).trans s2
  have hkg : (((((WD.setCell ⟨w.heap.size, 0, none⟩ (.int .i64 11)).setCell ⟨w.heap.size, 1, none⟩ (.int .i64 0)).setCell ⟨w.heap.size, 2, none⟩ (.slice (some ⟨g, 0, none⟩) 1 1)).setCell ⟨w.heap.size + 1, 0, none⟩ (.int .i64 0)).setCell ⟨w.heap.size + 1 + 1, 0, none⟩ (.int .i64 0)).heap[g]? = WD.heap[g]? := (hk5 g (by have := (unhide HG).1; omega) (by have := (unhide HG).1; omega)).trans (hk3 g (by have := (unhide HG).1; omega))
  have hbF : Below w.heap.size w (((((WD.setCell ⟨w.heap.size, 0, none⟩ (.int .i64 11)).setCell ⟨w.heap.size, 1, none⟩ (.int .i64 0)).setCell ⟨w.heap.size, 2, none⟩ (.slice (some ⟨g, 0, none⟩) 1 1)).setCell ⟨w.heap.size + 1, 0, none⟩ (.int .i64 0)).setCell ⟨w.heap.size + 1 + 1, 0, none⟩ (.int .i64 0)) := (((((unhide HBD).setCell (p := ⟨w.heap.size, 0, none⟩) (Nat.le_refl _) (.int .i64 11)).setCell (p := ⟨w.heap.size, 1, none⟩) (Nat.le_refl _) (.int .i64 0)).setCell (p := ⟨w.heap.size, 2, none⟩) (Nat.le_refl _) (.slice (some ⟨g, 0, none⟩) 1 1)).setCell (p := ⟨w.heap.size + 1, 0, none⟩) (by show w.heap.size ≤ w.heap.size + 1; omega) (.int .i64 0)).setCell (p := ⟨w.heap.size + 1 + 1, 0, none⟩) (by show w.heap.size ≤ w.heap.size + 1 + 1; omega) (.int .i64 0)
  clear hk5 hk3 e1 e2 e3 s0 s1 s2
  generalize (((((WD.setCell ⟨w.heap.size, 0, none⟩ (.int .i64 11)).setCell ⟨w.heap.size, 1, none⟩ (.int .i64 0)).setCell ⟨w.heap.size, 2, none⟩ (.slice (some ⟨g, 0, none⟩) 1 1)).setCell ⟨w.heap.size + 1, 0, none⟩ (.int .i64 0)).setCell ⟨w.heap.size + 1 + 1, 0, none⟩ (.int .i64 0)) = X at *
  refine leaves_cons (f := 43) (args := #[.pointer (some ⟨w.heap.size, 0, none⟩), .pointer (some ⟨w.heap.size + 1, 0, none⟩), .pointer (some ⟨w.heap.size + 1 + 1, 0, none⟩)]) (by simp) (by simp [go_sem]) ?_
  refine (qcatch_idle _ _ _ _).mono ?_
  rintro e u' w'' ⟨rfl, rfl, hw4⟩
  obtain rfl : X = w'' := hw4.symm
  simp [Leaves, settle, results, Tryz.results32, go_sem, d0, d1, d2, d3, d4]
  have hLX : Qk.Lies X g 0 ⟨4, 0, ⟨none, 0, 0⟩⟩ := ⟨(World.cell?_of_block (a := ⟨g, 0, none⟩) hkg).trans (unhide HL2).c0, (World.cell?_of_block (a := ⟨g, 1, none⟩) hkg).trans (unhide HL2).c1, (World.cell?_of_block (a := ⟨g, 2, none⟩) hkg).trans (unhide HL2).c2⟩
  exact ⟨⟨hLX, (by have := (unhide HG).1; omega), World.block_lt_of_cell? _ ⟨g, 0, none⟩ hLX.c0⟩, hbF⟩
end Go.Proofs.YtfhlnelgnnkeoaaGreatDoor
