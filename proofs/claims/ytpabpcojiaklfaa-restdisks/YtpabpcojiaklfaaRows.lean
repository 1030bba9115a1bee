/-
  No cell of these rows narrows 'for every input' (looked for: loops, veiled, ifaces, maps, wideKeys, modest, calm, conditions, laid).
  DERIVED. THE GIVEN ROWS OF THIS SEAT. 5 by the template 'for every input the law returns true; each argument reads behind the call as it read before'; 0 by the template 'total and deterministic' (their statements: YtpabpcojiaklfaaTotals.lean).
  GIVEN WITH THE SEED: the statements are not yours to turn. If you find one false, say at which input.
  Laid BY PROGRAM, IN A SANDBOX (cutbox-rows.mjs): the forced cells as the released guide's own fill.sh prints them over the translation daa4dbf5f2dc57a7… (all of the seat's roots in one cut). By AI agents, Wed Nov 11 2026. No macro, syntax, notation, axiom, sorry.
-/
import Derived.Test.YtpabpcojiaklfaaChecked
import GoSem.Claim
import GoSem.ClaimJoined
import GoSem.ClaimMapViews
import Derived.JoinedTies
import Derived.KernelRfl
namespace Go.Proofs.Ytpabpcojiaklfaa
/- THE CELL 'sum', in the pinned program and in every row, IS THE sha256 OF THE DUMP (.gsa) THAT YtpabpcojiaklfaaProg.lean LOADS. Nothing in Lean hashes anything: it is a label: what it is worth is what the hold of that sum in a sandbox is worth. -/
noncomputable def Try.pinned : Pinned := { name := "ytpabpcojiaklfaa", sum := "daa4dbf5f2dc57a73c2a3e42ca338695aac15d6cbdbf083cbc0c90f8f22830b7", checked := Try.checked }
namespace Rows
def none {H : Type} : Left H := { results := [], args := [] }

/-- 'hindsightlaw.LogOpens': WHATEVER THE INPUT: true; the input reads as it did. -/
def logOpensSpec : ChangeSpec := { name := "logOpens", fn := fun _ => fun
  | [d1, d2, d3, d4] => { results := [.lit (.bool true)], args := [d1, d2, d3, d4] }
  | _ => none }
def logOpensRow : OpenClaim := { program := "ytpabpcojiaklfaa", sum := "daa4dbf5f2dc57a73c2a3e42ca338695aac15d6cbdbf083cbc0c90f8f22830b7", func := "hindsight/hindsightlaw.LogOpens", spec := "logOpens", inPlace := ["internal/abi.NoEscape", "internal/bytealg.MakeNoZero"], unfollowed := true, recurses := true, apart := false }
def LogOpensSaid : Prop := logOpensRow.holds Try.pinned (OpenSpec.ofChange logOpensSpec)

/-- ITS FALSE NEIGHBOUR: 'it returns false'. Refute it at one input. -/
def logOpensWrong : ChangeSpec := { name := "logOpens", fn := fun _ => fun
  | [d1, d2, d3, d4] => { results := [.lit (.bool false)], args := [d1, d2, d3, d4] }
  | _ => none }
def LogOpensWrongFalsely : Prop := logOpensRow.holds Try.pinned (OpenSpec.ofChange logOpensWrong)

/-- 'hindsightlaw.LogTells': WHATEVER THE INPUT: true; the input reads as it did. -/
def logTellsSpec : ChangeSpec := { name := "logTells", fn := fun _ => fun
  | [d1, d2] => { results := [.lit (.bool true)], args := [d1, d2] }
  | _ => none }
def logTellsRow : OpenClaim := { program := "ytpabpcojiaklfaa", sum := "daa4dbf5f2dc57a73c2a3e42ca338695aac15d6cbdbf083cbc0c90f8f22830b7", func := "hindsight/hindsightlaw.LogTells", spec := "logTells", inPlace := ["internal/abi.NoEscape", "internal/bytealg.MakeNoZero"], unfollowed := true, recurses := true, apart := false }
def LogTellsSaid : Prop := logTellsRow.holds Try.pinned (OpenSpec.ofChange logTellsSpec)

/-- ITS FALSE NEIGHBOUR: 'it returns false'. Refute it at one input. -/
def logTellsWrong : ChangeSpec := { name := "logTells", fn := fun _ => fun
  | [d1, d2] => { results := [.lit (.bool false)], args := [d1, d2] }
  | _ => none }
def LogTellsWrongFalsely : Prop := logTellsRow.holds Try.pinned (OpenSpec.ofChange logTellsWrong)

/-- 'hindsightlaw.ColumnTells': WHATEVER THE INPUT: true; the input reads as it did. -/
def columnTellsSpec : ChangeSpec := { name := "columnTells", fn := fun _ => fun
  | [d1, d2] => { results := [.lit (.bool true)], args := [d1, d2] }
  | _ => none }
def columnTellsRow : OpenClaim := { program := "ytpabpcojiaklfaa", sum := "daa4dbf5f2dc57a73c2a3e42ca338695aac15d6cbdbf083cbc0c90f8f22830b7", func := "hindsight/hindsightlaw.ColumnTells", spec := "columnTells", unfollowed := true, recurses := true, apart := false }
def ColumnTellsSaid : Prop := columnTellsRow.holds Try.pinned (OpenSpec.ofChange columnTellsSpec)

/-- ITS FALSE NEIGHBOUR: 'it returns false'. Refute it at one input. -/
def columnTellsWrong : ChangeSpec := { name := "columnTells", fn := fun _ => fun
  | [d1, d2] => { results := [.lit (.bool false)], args := [d1, d2] }
  | _ => none }
def ColumnTellsWrongFalsely : Prop := columnTellsRow.holds Try.pinned (OpenSpec.ofChange columnTellsWrong)

/-- 'hindsightlaw.ColumnBack': WHATEVER THE INPUT: true; the input reads as it did. -/
def columnBackSpec : ChangeSpec := { name := "columnBack", fn := fun _ => fun
  | [d1, d2] => { results := [.lit (.bool true)], args := [d1, d2] }
  | _ => none }
def columnBackRow : OpenClaim := { program := "ytpabpcojiaklfaa", sum := "daa4dbf5f2dc57a73c2a3e42ca338695aac15d6cbdbf083cbc0c90f8f22830b7", func := "hindsight/hindsightlaw.ColumnBack", spec := "columnBack", unfollowed := true, recurses := true, apart := false }
def ColumnBackSaid : Prop := columnBackRow.holds Try.pinned (OpenSpec.ofChange columnBackSpec)

/-- ITS FALSE NEIGHBOUR: 'it returns false'. Refute it at one input. -/
def columnBackWrong : ChangeSpec := { name := "columnBack", fn := fun _ => fun
  | [d1, d2] => { results := [.lit (.bool false)], args := [d1, d2] }
  | _ => none }
def ColumnBackWrongFalsely : Prop := columnBackRow.holds Try.pinned (OpenSpec.ofChange columnBackWrong)

/-- 'hindsightlaw.RestDisks': WHATEVER THE INPUT: true; the input reads as it did. -/
def restDisksSpec : ChangeSpec := { name := "restDisks", fn := fun _ => fun
  | [d1, d2, d3, d4] => { results := [.lit (.bool true)], args := [d1, d2, d3, d4] }
  | _ => none }
def restDisksRow : OpenClaim := { program := "ytpabpcojiaklfaa", sum := "daa4dbf5f2dc57a73c2a3e42ca338695aac15d6cbdbf083cbc0c90f8f22830b7", func := "hindsight/hindsightlaw.RestDisks", spec := "restDisks", inPlace := ["internal/abi.NoEscape", "internal/bytealg.MakeNoZero"], unfollowed := true, recurses := true, apart := false }
def RestDisksSaid : Prop := restDisksRow.holds Try.pinned (OpenSpec.ofChange restDisksSpec)

/-- ITS FALSE NEIGHBOUR: 'it returns false'. Refute it at one input. -/
def restDisksWrong : ChangeSpec := { name := "restDisks", fn := fun _ => fun
  | [d1, d2, d3, d4] => { results := [.lit (.bool false)], args := [d1, d2, d3, d4] }
  | _ => none }
def RestDisksWrongFalsely : Prop := restDisksRow.holds Try.pinned (OpenSpec.ofChange restDisksWrong)

/- THE SECOND FORM. 'bulk': how many values and letters a reading holds, each counted each time it is reached (what is shared counts as often as it is met; a slice's spare places count too). A statement '..UptoSaid' is the law's where the arguments, and the package variables that the reading takes, are together of bulk at most 1048576: NARROWER than '..Said'. Prove '..Said' where nothing that the law and all that it calls make is longer than what came in: it says more and counts as full. Else prove '..UptoSaid'. A law counts once. -/
mutual
def uptoBulk {H : Type} : DataW H → Nat
  | .lit (.string bytes) => bytes.length + 1
  | .lit _ => 1
  | .nil => 1
  | .ptr d => uptoBulk d + 1
  | .slice elems spare => uptoBulkAll elems + uptoBulkAll spare + 1
  | .agg parts => uptoBulkAll parts + 1
  | .iface _ d => uptoBulk d + 1
  | .map entries => uptoBulkEntries entries + 1
  | .held _ => 1
def uptoBulkAll {H : Type} : List (DataW H) → Nat
  | [] => 0
  | d :: r => uptoBulk d + uptoBulkAll r
def uptoBulkEntries {H : Type} : List (Lit × DataW H) → Nat
  | [] => 0
  | x :: r => uptoBulkEntry x + uptoBulkEntries r
def uptoBulkEntry {H : Type} : Lit × DataW H → Nat
  | (.string bytes, d) => bytes.length + uptoBulk d + 1
  | (_, d) => uptoBulk d + 1
 end
def uptoSmall : (H : Type) → List (DataW H) → Bool := fun _ ds => decide (uptoBulkAll ds ≤ 1048576)
def OpenSpec.upto (s : _root_.Go.ChangeSpec) : _root_.Go.OpenSpec := { _root_.Go.OpenSpec.ofChange s with cond := some uptoSmall }

/-- 'hindsightlaw.LogOpens', WHERE WHAT IT READS IS OF BULK AT MOST 1048576: true; the input reads as it did. -/
def logOpensUptoRow : OpenClaim := { program := "ytpabpcojiaklfaa", sum := "daa4dbf5f2dc57a73c2a3e42ca338695aac15d6cbdbf083cbc0c90f8f22830b7", func := "hindsight/hindsightlaw.LogOpens", spec := "logOpens", inPlace := ["internal/abi.NoEscape", "internal/bytealg.MakeNoZero"], unfollowed := true, recurses := true, apart := false, narrowed := true }
def LogOpensUptoSaid : Prop := logOpensUptoRow.holds Try.pinned (OpenSpec.upto logOpensSpec)

/-- 'hindsightlaw.LogTells', WHERE WHAT IT READS IS OF BULK AT MOST 1048576: true; the input reads as it did. -/
def logTellsUptoRow : OpenClaim := { program := "ytpabpcojiaklfaa", sum := "daa4dbf5f2dc57a73c2a3e42ca338695aac15d6cbdbf083cbc0c90f8f22830b7", func := "hindsight/hindsightlaw.LogTells", spec := "logTells", inPlace := ["internal/abi.NoEscape", "internal/bytealg.MakeNoZero"], unfollowed := true, recurses := true, apart := false, narrowed := true }
def LogTellsUptoSaid : Prop := logTellsUptoRow.holds Try.pinned (OpenSpec.upto logTellsSpec)

/-- 'hindsightlaw.ColumnTells', WHERE WHAT IT READS IS OF BULK AT MOST 1048576: true; the input reads as it did. -/
def columnTellsUptoRow : OpenClaim := { program := "ytpabpcojiaklfaa", sum := "daa4dbf5f2dc57a73c2a3e42ca338695aac15d6cbdbf083cbc0c90f8f22830b7", func := "hindsight/hindsightlaw.ColumnTells", spec := "columnTells", unfollowed := true, recurses := true, apart := false, narrowed := true }
def ColumnTellsUptoSaid : Prop := columnTellsUptoRow.holds Try.pinned (OpenSpec.upto columnTellsSpec)

/-- 'hindsightlaw.ColumnBack', WHERE WHAT IT READS IS OF BULK AT MOST 1048576: true; the input reads as it did. -/
def columnBackUptoRow : OpenClaim := { program := "ytpabpcojiaklfaa", sum := "daa4dbf5f2dc57a73c2a3e42ca338695aac15d6cbdbf083cbc0c90f8f22830b7", func := "hindsight/hindsightlaw.ColumnBack", spec := "columnBack", unfollowed := true, recurses := true, apart := false, narrowed := true }
def ColumnBackUptoSaid : Prop := columnBackUptoRow.holds Try.pinned (OpenSpec.upto columnBackSpec)

/-- 'hindsightlaw.RestDisks', WHERE WHAT IT READS IS OF BULK AT MOST 1048576: true; the input reads as it did. -/
def restDisksUptoRow : OpenClaim := { program := "ytpabpcojiaklfaa", sum := "daa4dbf5f2dc57a73c2a3e42ca338695aac15d6cbdbf083cbc0c90f8f22830b7", func := "hindsight/hindsightlaw.RestDisks", spec := "restDisks", inPlace := ["internal/abi.NoEscape", "internal/bytealg.MakeNoZero"], unfollowed := true, recurses := true, apart := false, narrowed := true }
def RestDisksUptoSaid : Prop := restDisksUptoRow.holds Try.pinned (OpenSpec.upto restDisksSpec)

end Rows
end Go.Proofs.Ytpabpcojiaklfaa
