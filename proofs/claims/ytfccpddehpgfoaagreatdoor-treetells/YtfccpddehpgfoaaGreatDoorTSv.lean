/-
  Variables are compared. By the verifier.
-/
import Derived.Test.YtfccpddehpgfoaaGreatDoorTBase
import Derived.Laws.StructEq
namespace Go.Proofs.YtfccpddehpgfoaaGreatDoor
open Go.RowKit
set_option linter.unusedVariables false
theorem Tryz.guardTV : Tryz.prog.eqGuardType Tryz.prog.depth 59 = false := by kernel_rfl
theorem Tryz.heldTV : Tryz.prog.stoodInHeld 59 = false := by kernel_rfl
theorem Tryz.undTV : Tryz.prog.underlying 59 = some (.struct (Tryz.prog.fieldsOf 59)) := by kernel_rfl
theorem Tryz.fldTV : ((Tryz.prog.fieldsOf 59).toList.map fun f => (f.name == "_", f.type, f.offset)) = [(false, 9, 0), (false, 3, 1)] := by kernel_rfl
theorem Tk.two_fld {l : List Field} {t u : TypeId} (h : (l.map fun f => (f.name == "_", f.type, f.offset)) = [(false, t, 0), (false, u, 1)]) : ∃ f g : Field, l = [f, g] ∧ ((f.name == "_") = false ∧ f.type = t ∧ f.offset = 0) ∧ ((g.name == "_") = false ∧ g.type = u ∧ g.offset = 1) := by
 have hl := congrArg List.length h
 rw [List.length_map] at hl
 obtain ⟨f, g, rfl⟩ : ∃ f g, l = [f, g] := by
  cases l with
  | nil => cases hl
  | cons f r =>
   cases r with
   | nil => cases hl
   | cons g q =>
    cases q with
    | nil => exact ⟨f, g, rfl⟩
    | cons _ _ => simp at hl
 simp only [List.map_cons, List.map_nil, List.cons.injEq, Prod.mk.injEq, and_true] at h
 exact ⟨f, g, rfl, h.1, h.2⟩
theorem Tryz.neqTV (a b : ByteArray) (x y : Int) (W : World) : (binOp .neq 59 (.agg #[.string a, .int .i64 x]) (.agg #[.string b, .int .i64 y])).run Tryz.prog W = .ok (.bool (!((a.toList == b.toList) && (x == y)))) W := by
 obtain ⟨f, g, h2, ⟨f1, f2, f3⟩, ⟨g1, g2, g3⟩⟩ := Tk.two_fld Tryz.fldTV
 rw [run_neq_struct, run_equalIn_agg (P := Tryz.prog) W 9999 59 _ _ Tryz.undTV Tryz.heldTV, h2]
 have e1 := fun W => run_equalIn_string (P := Tryz.prog) W 9998 9 a b Tryz.underlying9
 have e2 := fun W => run_equalIn_int (P := Tryz.prog) W 9998 3 .i64 .i64 x y Tryz.underlying3
 have n1 : f.name ≠ "_" := by simpa using f1
 have n2 : g.name ≠ "_" := by simpa using g1
 have p1 : ∀ W, (part 9 #[.string a, .int .i64 x] 0).run Tryz.prog W = .ok (.string a) W := fun W => by simp [part, isAgg, run_underlying Tryz.underlying9]
 have p2 : ∀ W, (part 9 #[.string b, .int .i64 y] 0).run Tryz.prog W = .ok (.string b) W := fun W => by simp [part, isAgg, run_underlying Tryz.underlying9]
 have p3 : ∀ W, (part 3 #[.string a, .int .i64 x] 1).run Tryz.prog W = .ok (.int .i64 x) W := fun W => by simp [part, isAgg, run_underlying Tryz.underlying3]
 have p4 : ∀ W, (part 3 #[.string b, .int .i64 y] 1).run Tryz.prog W = .ok (.int .i64 y) W := fun W => by simp [part, isAgg, run_underlying Tryz.underlying3]
 simp only [Op.eqFields, n1, n2, f2, f3, g2, g3, ne_eq, not_false_eq_true, if_true, Sem.run_bind, p1, p2, Result.andThen_ok, e1]
 cases a.toList == b.toList
 · simp
 · simp only [Bool.not_true, Bool.false_eq_true, if_false, Sem.run_bind, p3, p4, Result.andThen_ok, e2]
   cases x == y <;> simp
end Go.Proofs.YtfccpddehpgfoaaGreatDoor
