/-
  NARROWER THAN 'FOR EVERY INPUT', by the rows' own cells (each row's printed sentence says how): TraceEvals: loops · StateHistory: loops · StateCalls: loops.
  DERIVED. THE GIVEN ROWS OF THIS SEAT. 3 by the template 'for every input the law returns true; each argument reads behind the call as it read before'; 0 by the template 'total and deterministic' (their statements: YtildjlaphkjegaaTotals.lean).
  GIVEN WITH THE SEED: the statements are not yours to turn. If you find one false, say at which input.
  Laid BY PROGRAM, IN A SANDBOX (cutbox-rows.mjs): the forced cells as the released guide's own fill.sh prints them over the translation ae39c0fe37e119a6… (all of the seat's roots in one cut). By AI agents, Wed Nov 11 2026. No macro, syntax, notation, axiom, sorry.
-/
import Derived.Test.YtildjlaphkjegaaChecked
import GoSem.Claim
import GoSem.ClaimJoined
import GoSem.ClaimMapViews
import Derived.JoinedTies
import Derived.KernelRfl
namespace Go.Proofs.Ytildjlaphkjegaa
/- THE CELL 'sum', in the pinned program and in every row, IS THE sha256 OF THE DUMP (.gsa) THAT YtildjlaphkjegaaProg.lean LOADS. Nothing in Lean hashes anything: it is a label: what it is worth is what the hold of that sum in a sandbox is worth. -/
noncomputable def Try.pinned : Pinned := { name := "ytildjlaphkjegaa", sum := "ae39c0fe37e119a67a5c3b5474fb5f3ad37c50bbf0689de66627f968e24f9194", checked := Try.checked }
namespace Rows
def none {H : Type} : Left H := { results := [], args := [] }

/-- 'hindsightlaw.TraceEvals': WHATEVER THE INPUT: true; the input reads as it did. -/
def traceEvalsSpec : ChangeSpec := { name := "traceEvals", fn := fun _ => fun
  | [d1, d2] => { results := [.lit (.bool true)], args := [d1, d2] }
  | _ => none }
def traceEvalsRow : OpenClaim := { program := "ytildjlaphkjegaa", sum := "ae39c0fe37e119a67a5c3b5474fb5f3ad37c50bbf0689de66627f968e24f9194", func := "hindsight/hindsightlaw.TraceEvals", spec := "traceEvals", unfollowed := true, recurses := true, loops := true, plainKeys := false, apart := false }
def TraceEvalsSaid : Prop := traceEvalsRow.holds Try.pinned (OpenSpec.ofChange traceEvalsSpec)

/-- ITS FALSE NEIGHBOUR: 'it returns false'. Refute it at one input. -/
def traceEvalsWrong : ChangeSpec := { name := "traceEvals", fn := fun _ => fun
  | [d1, d2] => { results := [.lit (.bool false)], args := [d1, d2] }
  | _ => none }
def TraceEvalsWrongFalsely : Prop := traceEvalsRow.holds Try.pinned (OpenSpec.ofChange traceEvalsWrong)

/-- 'hindsightlaw.StateHistory': WHATEVER THE INPUT: true; the input reads as it did. -/
def stateHistorySpec : ChangeSpec := { name := "stateHistory", fn := fun _ => fun
  | [d1, d2, d3, d4, d5] => { results := [.lit (.bool true)], args := [d1, d2, d3, d4, d5] }
  | _ => none }
def stateHistoryRow : OpenClaim := { program := "ytildjlaphkjegaa", sum := "ae39c0fe37e119a67a5c3b5474fb5f3ad37c50bbf0689de66627f968e24f9194", func := "hindsight/hindsightlaw.StateHistory", spec := "stateHistory", unfollowed := true, recurses := true, loops := true, plainKeys := false, apart := false }
def StateHistorySaid : Prop := stateHistoryRow.holds Try.pinned (OpenSpec.ofChange stateHistorySpec)

/-- ITS FALSE NEIGHBOUR: 'it returns false'. Refute it at one input. -/
def stateHistoryWrong : ChangeSpec := { name := "stateHistory", fn := fun _ => fun
  | [d1, d2, d3, d4, d5] => { results := [.lit (.bool false)], args := [d1, d2, d3, d4, d5] }
  | _ => none }
def StateHistoryWrongFalsely : Prop := stateHistoryRow.holds Try.pinned (OpenSpec.ofChange stateHistoryWrong)

/-- 'hindsightlaw.StateCalls': WHATEVER THE INPUT: true; the input reads as it did. -/
def stateCallsSpec : ChangeSpec := { name := "stateCalls", fn := fun _ => fun
  | [d1, d2, d3] => { results := [.lit (.bool true)], args := [d1, d2, d3] }
  | _ => none }
def stateCallsRow : OpenClaim := { program := "ytildjlaphkjegaa", sum := "ae39c0fe37e119a67a5c3b5474fb5f3ad37c50bbf0689de66627f968e24f9194", func := "hindsight/hindsightlaw.StateCalls", spec := "stateCalls", unfollowed := true, recurses := true, loops := true, plainKeys := false, apart := false }
def StateCallsSaid : Prop := stateCallsRow.holds Try.pinned (OpenSpec.ofChange stateCallsSpec)

/-- ITS FALSE NEIGHBOUR: 'it returns false'. Refute it at one input. -/
def stateCallsWrong : ChangeSpec := { name := "stateCalls", fn := fun _ => fun
  | [d1, d2, d3] => { results := [.lit (.bool false)], args := [d1, d2, d3] }
  | _ => none }
def StateCallsWrongFalsely : Prop := stateCallsRow.holds Try.pinned (OpenSpec.ofChange stateCallsWrong)

/- THE SECOND FORM. 'bulk': how many values and letters a reading holds, each counted each time it is reached (what is shared counts as often as it is met; a slice's spare places count too). A statement '..UptoSaid' is the law's where the arguments, and the package variables that the reading takes, are together of bulk at most 1048576: NARROWER than '..Said'. Prove '..Said' where nothing that the law and all that it calls make is longer than what came in: it says more and counts as full. Else prove '..UptoSaid'. A law counts once. -/
mutual
def uptoBulk {H : Type} : DataW H → Nat
  | .lit (.string bytes) => bytes.length + 1
  | .lit _ => 1
  | .nil => 1
  | .ptr d => uptoBulk d + 1
  | .slice elems spare => uptoBulkAll elems + uptoBulkAll spare + 1
  | .agg parts => uptoBulkAll parts + 1
  | .iface _ d => uptoBulk d + 1
  | .map entries => uptoBulkEntries entries + 1
  | .held _ => 1
def uptoBulkAll {H : Type} : List (DataW H) → Nat
  | [] => 0
  | d :: r => uptoBulk d + uptoBulkAll r
def uptoBulkEntries {H : Type} : List (Lit × DataW H) → Nat
  | [] => 0
  | x :: r => uptoBulkEntry x + uptoBulkEntries r
def uptoBulkEntry {H : Type} : Lit × DataW H → Nat
  | (.string bytes, d) => bytes.length + uptoBulk d + 1
  | (_, d) => uptoBulk d + 1
 end
def uptoSmall : (H : Type) → List (DataW H) → Bool := fun _ ds => decide (uptoBulkAll ds ≤ 1048576)
def OpenSpec.upto (s : _root_.Go.ChangeSpec) : _root_.Go.OpenSpec := { _root_.Go.OpenSpec.ofChange s with cond := some uptoSmall }

/-- 'hindsightlaw.TraceEvals', WHERE WHAT IT READS IS OF BULK AT MOST 1048576: true; the input reads as it did. -/
def traceEvalsUptoRow : OpenClaim := { program := "ytildjlaphkjegaa", sum := "ae39c0fe37e119a67a5c3b5474fb5f3ad37c50bbf0689de66627f968e24f9194", func := "hindsight/hindsightlaw.TraceEvals", spec := "traceEvals", unfollowed := true, recurses := true, loops := true, plainKeys := false, apart := false, narrowed := true }
def TraceEvalsUptoSaid : Prop := traceEvalsUptoRow.holds Try.pinned (OpenSpec.upto traceEvalsSpec)

/-- 'hindsightlaw.StateHistory', WHERE WHAT IT READS IS OF BULK AT MOST 1048576: true; the input reads as it did. -/
def stateHistoryUptoRow : OpenClaim := { program := "ytildjlaphkjegaa", sum := "ae39c0fe37e119a67a5c3b5474fb5f3ad37c50bbf0689de66627f968e24f9194", func := "hindsight/hindsightlaw.StateHistory", spec := "stateHistory", unfollowed := true, recurses := true, loops := true, plainKeys := false, apart := false, narrowed := true }
def StateHistoryUptoSaid : Prop := stateHistoryUptoRow.holds Try.pinned (OpenSpec.upto stateHistorySpec)

/-- 'hindsightlaw.StateCalls', WHERE WHAT IT READS IS OF BULK AT MOST 1048576: true; the input reads as it did. -/
def stateCallsUptoRow : OpenClaim := { program := "ytildjlaphkjegaa", sum := "ae39c0fe37e119a67a5c3b5474fb5f3ad37c50bbf0689de66627f968e24f9194", func := "hindsight/hindsightlaw.StateCalls", spec := "stateCalls", unfollowed := true, recurses := true, loops := true, plainKeys := false, apart := false, narrowed := true }
def StateCallsUptoSaid : Prop := stateCallsUptoRow.holds Try.pinned (OpenSpec.upto stateCallsSpec)

end Rows
end Go.Proofs.Ytildjlaphkjegaa
