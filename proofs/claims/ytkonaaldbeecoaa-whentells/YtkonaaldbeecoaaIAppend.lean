/-
  An append of numbers to a row of the call's own, from any slice. By the verifier.
-/
import Derived.Test.YtkonaaldbeecoaaITimes
import Derived.Deep.AppendSrc
namespace Go.Proofs.Ytkonaaldbeecoaa
open Go.RowKit
set_option linter.unusedVariables false

theorem Ix.run_append_ints (ty : TypeId) (w : World) (base : Nat) (v : Value) (zs : List Int) (ho : w.ownsInts base 3 .i64 v zs) (ad : Option Addr) (c : Nat) (ys : List Int) (hr : Ix.RI w ad ys) (hy : ∀ y ∈ ys, Ix.wf y) (hs : zs.length + ys.length ≤ 10000) (hbase : base ≤ w.heap.size) :
    ∃ v' w', (Builtin.append_ #[26, 26] ty #[v, .slice ad ys.length c]).run Try.prog w = .ok v' w' ∧ w'.ownsInts base 3 .i64 v' (zs ++ ys) ∧ w.grownBy w' v.ownBlock := by
  obtain ⟨i0, hi, hz0, hz1, hz2⟩ := info_parts Try.info3
  cases ad with
  | none =>
    have hy0 : ys = [] := by
      cases ys with
      | nil => rfl
      | cons y r => obtain ⟨b, o, h, _⟩ := hr.at_ 0 y rfl; cases h
    subst hy0
    refine ⟨v, w, ?_, by simpa using ho, ⟨rfl, rfl, rfl, Nat.le_refl _, fun _ _ _ => rfl⟩⟩
    rcases ho.1.2 with ⟨rfl, _⟩ | ⟨g, cap, cur, rfl, _, hg, hn, _⟩
    · simp [Builtin.append_, run_underlying Try.underlying26, sizeOf, typeInfo, hi, Builtin.lenOf, Builtin.firstCells]
    · have := run_append_room_src (P := Try.prog) w 26 26 ty 3 i0 Try.underlying26 hi g 0 zs.length cap (.slice none 0 c) 0 [] (Src.ofNil w Try.underlying26 c) (by omega) (by simp) (by simp)
      simpa [World.setCells] using this
  | some a =>
    have hnews : ∀ j u, (ys.map (Value.int .i64))[j]? = some u → w.cell? (a.add j) = some u := fun j u hj => by
      rw [List.getElem?_map] at hj
      cases hyj : ys[j]? with
      | none => rw [hyj] at hj; cases hj
      | some y =>
        rw [hyj] at hj
        cases hj
        obtain ⟨b, o, he, hb, hc⟩ := hr.at_ j y hyj
        cases he
        rw [Go.WideShapes.add_plain]
        exact hc
    obtain ⟨v', w', h1, h2, h3, _⟩ := run_append_own_at (P := Try.prog) w base 26 ty 3 i0 (.int .i64 0) 1 8 Try.underlying26 hi hz0 hz1 hz2 rfl (by decide) v zs.length (zs.map (Value.int .i64)) ho.1 a ys.length c (ys.map (Value.int .i64)) (by simp) hnews (ints_oneCell .i64 ys) (by unfold maxLen; omega) (by omega) hbase
    refine ⟨v', w', h1, ⟨by simpa using h2, fun z hz => ?_⟩, h3⟩
    rcases List.mem_append.1 hz with hz | hz
    · exact ho.2 z hz
    · exact hy z hz
theorem Ix.owns_empty (w : World) : (w.alloc (Obj.cells #[] 3)).ownsInts w.heap.size 3 .i64 (.slice (some ⟨w.heap.size, 0, none⟩) 0 0) [] :=
  ⟨⟨rfl, .inr ⟨w.heap.size, 0, #[], rfl, Nat.le_refl _, heap_alloc_new w _, Nat.le_refl _, Nat.zero_le _, rfl, rfl⟩⟩, by simp⟩

/-- An append that stands behind a guard which holds, by what it does. -/
theorem Ix.wp_append_run {P : Program} {w w' : World} {ops : Array Oper} {rest : List Oper} {o : Oper} {a : Act} {Q : Exit → Act → World → Prop} (hw : Region.wanted o (yielded ops a.tmps) = true) (s x : Operand) (t : TypeId)
    (ho : o.op = .call { callee := .builtin .append, args := #[s, x], argTypes := #[t, t] }) (v u v' : Value) (hs : a.eval s = v) (hx : a.eval x = u) (hr : (Builtin.append_ #[t, t] o.type #[v, u]).run P w = .ok v' w')
    (h : wpList P ops Q rest (a.put o.dst v') w') : wpList P ops Q (o :: rest) a w := by
  refine wpList_step fun K hK => ?_
  rw [if_pos hw]
  unfold Oper.wp execOp
  simp only [ho, resolve, invoke, builtin, Sem.run_bind, Sem.run_pure, Result.andThen_ok, List.map_toArray, List.map_cons, List.map_nil, hs, hx, hr]
  exact hK _ _ h
end Go.Proofs.Ytkonaaldbeecoaa
