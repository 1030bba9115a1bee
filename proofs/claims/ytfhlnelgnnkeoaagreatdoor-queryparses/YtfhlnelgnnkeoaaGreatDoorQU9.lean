/-
  The walk of QueryParses. By the verifier.
-/
import Derived.Test.YtfhlnelgnnkeoaaGreatDoorQU8
namespace Go.Proofs.YtfhlnelgnnkeoaaGreatDoor
open Go.RowKit
set_option linter.unusedVariables false

theorem Qp.zero_ra (W : World) : Qk.RA W 1 ⟨0, 0, ⟨none, 0, 0⟩⟩ ((0, 0), []) := (Qp.RO.leaf 0 W 0 0 0 none 0).ra

set_option maxRecDepth 100000 in
set_option maxHeartbeats 1600000 in
theorem qparses_err (s : ByteArray) (w : World) (hs : s.size ≤ maxLen) (a : Int) (y : Nat) (ho : Qp.out s = .error (a, y)) :
    Calls Tryz.prog 4 #[.string s] w fun r w' => r = .returned (.bool true) ∧ Below w.heap.size w w' := by
  have H1 := hide (fun (W : World) => show Calls Tryz.prog 13 #[.string s] W fun r w' => r = .returned (.tuple #[.agg #[.int .i64 0, .int .i64 0, .slice none 0 0], .int .i64 a, .int .i64 (y : Int)]) ∧ Below W.heap.size W w' by
    have := Parse_any s W hs
    rw [ho] at this
    exact this)
  have H2 := hide (fun (W : World) => show Calls Tryz.prog 14 #[.string s] W fun r w' => r = .returned (.tuple #[.agg #[.int .i64 0, .int .i64 0, .slice none 0 0], .int .i64 a, .int .i64 (y : Int)]) ∧ Below W.heap.size W w' by
    have := ParseAsk_any s W hs
    rw [ho] at this
    exact this)
  have hyy : ((y : Int) == (y : Int)) = true := by simp
  have haa : (a == a) = true := by simp
  clear ho hs
  go_enter Tryz.func4, Tryz.ntmps4
  go_wp2_with fail
  refine ((unhide H1) _).mono ?_
  rintro r w1 ⟨rfl, hb1⟩
  have HB1 := hide hb1
  clear hb1
  go_wp2_with fail
  have hbA := (Below.refl w1.heap.size w1).alloc (Nat.le_refl _) (Obj.cells #[.int .i64 0, .int .i64 0, .slice none 0 0] 24)
  have HLA := hide (show Qk.Lies (w1.alloc (Obj.cells #[.int .i64 0, .int .i64 0, .slice none 0 0] 24)) w1.heap.size 0 ⟨0, 0, ⟨none, 0, 0⟩⟩ from Qp.lies_new w1 ⟨0, 0, ⟨none, 0, 0⟩⟩)
  have HBA := hide ((unhide HB1).trans (hbA.mono (unhide HB1).size))
  clear hbA
  generalize (w1.alloc (Obj.cells #[.int .i64 0, .int .i64 0, .slice none 0 0] 24)) = WA at *
  refine ((unhide H2) _).mono ?_
  rintro r w2 ⟨rfl, hb2⟩
  have HL2 := hide ((unhide HLA).bel hb2)
  have HB2 := hide ((unhide HBA).trans (hb2.mono (unhide HBA).size))
  clear hb2
  go_wp2_with fail
  have hbC := (Below.refl w2.heap.size w2).alloc (Nat.le_refl _) (Obj.cells #[.int .i64 0, .int .i64 0, .slice none 0 0] 24)
  have HMC := hide (show Qk.Lies (w2.alloc (Obj.cells #[.int .i64 0, .int .i64 0, .slice none 0 0] 24)) w2.heap.size 0 ⟨0, 0, ⟨none, 0, 0⟩⟩ from Qp.lies_new w2 ⟨0, 0, ⟨none, 0, 0⟩⟩)
  have HLC := hide ((unhide HL2).bel hbC)
  have HBC := hide ((unhide HB2).trans (hbC.mono (unhide HB2).size))
  clear hbC
  generalize (w2.alloc (Obj.cells #[.int .i64 0, .int .i64 0, .slice none 0 0] 24)) = WC at *
  refine (queryBegun_any _).mono ?_
  rintro r w3 ⟨rfl, hb3⟩
  have HL3 := hide ((unhide HLC).bel hb3)
  have HM3 := hide ((unhide HMC).bel hb3)
  have HB3 := hide ((unhide HBC).trans (hb3.mono (unhide HBC).size))
  clear hb3
  obtain ⟨p0, p1, p2⟩ := unhide HL3
  obtain ⟨q0, q1, q2⟩ := unhide HM3
  go_wp2_with fail
  refine (show Calls Tryz.prog 15 #[.agg #[.int .i64 0, .int .i64 0, .slice none 0 0], .agg #[.int .i64 0, .int .i64 0, .slice none 0 0]] w3 _ from SameAsk_eq 1 ⟨0, 0, ⟨none, 0, 0⟩⟩ ⟨0, 0, ⟨none, 0, 0⟩⟩ ((0, 0), []) w3 (Qp.zero_ra w3) (Qp.zero_ra w3)).mono ?_
  rintro r w4 ⟨rfl, hb4⟩
  have HB4 := hide ((unhide HB3).trans (hb4.mono (unhide HB3).size))
  clear hb4
  go_wp2_with fail
  go_ret
  exact ⟨rfl, unhide HB4⟩

set_option maxRecDepth 100000 in
set_option maxHeartbeats 1600000 in
theorem qparses_ok (s : ByteArray) (w : World) (hs : s.size ≤ maxLen) (x : Qk.AT 61) (ho : Qp.out s = .ok x) :
    Calls Tryz.prog 4 #[.string s] w fun r w' => r = .returned (.bool true) ∧ Below w.heap.size w w' := by
  have H1 := hide (fun (W : World) => show Calls Tryz.prog 13 #[.string s] W fun r w' => (∃ E : Qk.E, r = .returned (.tuple #[.agg #[.int .i64 E.k, .int .i64 E.n, .slice E.args.ad E.args.len E.args.cap], .int .i64 0, .int .i64 0]) ∧ Qk.RA w' 61 E x) ∧ Below W.heap.size W w' by
    have := Parse_any s W hs
    rw [ho] at this
    exact this)
  have H2 := hide (fun (W : World) => show Calls Tryz.prog 14 #[.string s] W fun r w' => (∃ E : Qk.E, r = .returned (.tuple #[.agg #[.int .i64 E.k, .int .i64 E.n, .slice E.args.ad E.args.len E.args.cap], .int .i64 0, .int .i64 0]) ∧ Qk.RA w' 61 E x) ∧ Below W.heap.size W w' by
    have := ParseAsk_any s W hs
    rw [ho] at this
    exact this)
  clear ho hs
  go_enter Tryz.func4, Tryz.ntmps4
  go_wp2_with fail
  refine ((unhide H1) _).mono ?_
  rintro r w1 ⟨⟨E1, rfl, hra1⟩, hb1⟩
  have HB1 := hide hb1
  have HRA := hide hra1
  clear hra1
  clear hb1
  go_wp2_with fail
  have hbA := (Below.refl w1.heap.size w1).alloc (Nat.le_refl _) (Obj.cells #[.int .i64 E1.k, .int .i64 E1.n, .slice E1.args.ad E1.args.len E1.args.cap] 24)
  have HLA := hide (show Qk.Lies (w1.alloc (Obj.cells #[.int .i64 E1.k, .int .i64 E1.n, .slice E1.args.ad E1.args.len E1.args.cap] 24)) w1.heap.size 0 E1 from Qp.lies_new w1 E1)
  have HBA := hide ((unhide HB1).trans (hbA.mono (unhide HB1).size))
  have HRB := hide ((unhide HRA).later hbA (Nat.le_refl _))
  clear hbA
  generalize (w1.alloc (Obj.cells #[.int .i64 E1.k, .int .i64 E1.n, .slice E1.args.ad E1.args.len E1.args.cap] 24)) = WA at *
  refine ((unhide H2) _).mono ?_
  rintro r w2 ⟨⟨E2, rfl, hra2⟩, hb2⟩
  have HL2 := hide ((unhide HLA).bel hb2)
  have HB2 := hide ((unhide HBA).trans (hb2.mono (unhide HBA).size))
  have HRC := hide (And.intro ((unhide HRB).later hb2 (Nat.le_refl _)) hra2)
  clear hra2
  clear hb2
  go_wp2_with fail
  have hbC := (Below.refl w2.heap.size w2).alloc (Nat.le_refl _) (Obj.cells #[.int .i64 E2.k, .int .i64 E2.n, .slice E2.args.ad E2.args.len E2.args.cap] 24)
  have HMC := hide (show Qk.Lies (w2.alloc (Obj.cells #[.int .i64 E2.k, .int .i64 E2.n, .slice E2.args.ad E2.args.len E2.args.cap] 24)) w2.heap.size 0 E2 from Qp.lies_new w2 E2)
  have HLC := hide ((unhide HL2).bel hbC)
  have HBC := hide ((unhide HB2).trans (hbC.mono (unhide HB2).size))
  have HRD := hide (And.intro ((unhide HRC).1.later hbC (Nat.le_refl _)) ((unhide HRC).2.later hbC (Nat.le_refl _)))
  clear hbC
  generalize (w2.alloc (Obj.cells #[.int .i64 E2.k, .int .i64 E2.n, .slice E2.args.ad E2.args.len E2.args.cap] 24)) = WC at *
  refine (queryBegun_any _).mono ?_
  rintro r w3 ⟨rfl, hb3⟩
  have HL3 := hide ((unhide HLC).bel hb3)
  have HM3 := hide ((unhide HMC).bel hb3)
  have HB3 := hide ((unhide HBC).trans (hb3.mono (unhide HBC).size))
  have HRE := hide (And.intro ((unhide HRD).1.later hb3 (Nat.le_refl _)) ((unhide HRD).2.later hb3 (Nat.le_refl _)))
  clear hb3
  obtain ⟨p0, p1, p2⟩ := unhide HL3
  obtain ⟨q0, q1, q2⟩ := unhide HM3
  go_wp2_with fail
  refine (show Calls Tryz.prog 15 #[.agg #[.int .i64 E1.k, .int .i64 E1.n, .slice E1.args.ad E1.args.len E1.args.cap], .agg #[.int .i64 E2.k, .int .i64 E2.n, .slice E2.args.ad E2.args.len E2.args.cap]] w3 _ from SameAsk_eq 61 E1 E2 x w3 (unhide HRE).1 (unhide HRE).2).mono ?_
  rintro r w4 ⟨rfl, hb4⟩
  have HB4 := hide ((unhide HB3).trans (hb4.mono (unhide HB3).size))
  clear hb4
  go_wp2_with fail
  go_ret
  exact ⟨rfl, unhide HB4⟩

theorem qparses_any (s : ByteArray) (w : World) (hs : s.size ≤ maxLen) :
    Calls Tryz.prog 4 #[.string s] w fun r w' => r = .returned (.bool true) ∧ Below w.heap.size w w' := by
  cases ho : Qp.out s with
  | error p => exact qparses_err s w hs p.1 p.2 ho
  | ok x => exact qparses_ok s w hs x ho
end Go.Proofs.YtfhlnelgnnkeoaaGreatDoor
