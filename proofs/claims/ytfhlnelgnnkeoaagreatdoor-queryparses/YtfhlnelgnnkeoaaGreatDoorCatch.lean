/-
  The deferred literal of scan (package token). By the verifier.
-/
import Derived.Test.YtfhlnelgnnkeoaaGreatDoorTokA
import Derived.Defers
import Derived.Recover
import Derived.Laws.Pointers
namespace Go.Proofs.YtfhlnelgnnkeoaaGreatDoor
open Go.RowKit
set_option linter.unusedVariables false

/-- 'what := recover()' as the first statement of a deferred literal whose slots are 'xs': where the frame below does not panic. -/
theorem rec_none {P : Program} {K : Act → List Frame → World → Prop} {Q : Exit → Act → List Frame → World → Prop} {a : Act} (a' : Act) {cs : List Frame} {w : World} {id r d : Nat} {ty : TypeId} {pos pos' : String} {af af' : Array Edge}
    (hcs : recoverD cs = none) (ha : (a.put (some r) .nilIface).put (some d) ((a.put (some r) .nilIface).eval (.tmp r)) = a') (h : K a' cs w) :
    (Code.region id #[{ dst := some r, op := .call { callee := .builtin .recover, args := #[], argTypes := #[] }, type := ty, pos := pos, after := af, guard := none },
      { dst := some d, op := .assign (.tmp r), type := ty, pos := pos', after := af', guard := none }] false).wpS P (Exit.thenS K Q) a cs w := by
  subst ha
  apply wpS_region
  simp [wpOpsS, go_sem, hcs, Exit.thenS]
  simpa [go_sem] using h

theorem rec_some {P : Program} {K : Act → List Frame → World → Prop} {Q : Exit → Act → List Frame → World → Prop} {a : Act} (a' : Act) {cs cs' : List Frame} {w : World} {id r d : Nat} {ty : TypeId} {pos pos' : String} {af af' : Array Edge} {v : Value}
    (hcs : recoverD cs = some (v, cs')) (ha : (a.put (some r) v).put (some d) ((a.put (some r) v).eval (.tmp r)) = a') (h : K a' cs' w) :
    (Code.region id #[{ dst := some r, op := .call { callee := .builtin .recover, args := #[], argTypes := #[] }, type := ty, pos := pos, after := af, guard := none },
      { dst := some d, op := .assign (.tmp r), type := ty, pos := pos', after := af', guard := none }] false).wpS P (Exit.thenS K Q) a cs w := by
  subst ha
  apply wpS_region
  simp [wpOpsS, go_sem, hcs, Exit.thenS]
  simpa [go_sem] using h

set_option maxHeartbeats 400000 in
theorem catch_idle (a b c : Addr) (w : World) :
    CallsD Tryz.prog 54 #[.pointer (some a), .pointer (some b), .pointer (some c)] .returning w fun e u' w' => e = .returned (.tuple #[]) ∧ u' = .returning ∧ w' = w := by
  refine callsD_of_wpS Tryz.func54 rfl fun c₀ cs hu => ?_
  simp only [Tryz.ntmps54, List.size_toArray, List.length_cons, List.length_nil, Nat.reduceAdd, Nat.reduceSub, Array.replicate_succ,
     Array.replicate_zero, List.push_toArray, List.append_toArray, List.nil_append, List.cons_append]
  apply wpS_seq
  refine rec_none ⟨#[.pointer (some a), .pointer (some b), .pointer (some c), .nilIface, undef, undef, .nilIface, undef, undef, undef, undef, undef, undef, undef, undef, undef, undef, undef, undef, undef, undef], []⟩ (by simp [recoverD, hu]) (by simp [go_sem]) ?_
  refine wpS_of_wp ?_
  go_wp2
  cases c₀
  simp_all [bodyPostS, results, Tryz.results54]

/-- Three stores into three variables, one behind the other. -/
theorem three_set (w : World) (N : Nat) (u0 u1 u2 v0 v1 v2 : Value) (h0 : w.cell? ⟨N, 0, none⟩ = some u0) (h1 : w.cell? ⟨N + 1, 0, none⟩ = some u1) (h2 : w.cell? ⟨N + 2, 0, none⟩ = some u2) :
    (((w.setCell ⟨N, 0, none⟩ v0).setCell ⟨N + 1, 0, none⟩ v1).setCell ⟨N + 2, 0, none⟩ v2).drew.cell? ⟨N, 0, none⟩ = some v0 ∧
    (((w.setCell ⟨N, 0, none⟩ v0).setCell ⟨N + 1, 0, none⟩ v1).setCell ⟨N + 2, 0, none⟩ v2).drew.cell? ⟨N + 1, 0, none⟩ = some v1 ∧
    (((w.setCell ⟨N, 0, none⟩ v0).setCell ⟨N + 1, 0, none⟩ v1).setCell ⟨N + 2, 0, none⟩ v2).drew.cell? ⟨N + 2, 0, none⟩ = some v2 ∧
    Below N w (((w.setCell ⟨N, 0, none⟩ v0).setCell ⟨N + 1, 0, none⟩ v1).setCell ⟨N + 2, 0, none⟩ v2).drew := by
  have a0 := World.cell?_setCell_same w ⟨N, 0, none⟩ v0 h0
  have a1 : (w.setCell ⟨N, 0, none⟩ v0).cell? ⟨N + 1, 0, none⟩ = some u1 := by rw [World.cell?_setCell_other _ _ _ _ (by simp)]; exact h1
  have a2 : (w.setCell ⟨N, 0, none⟩ v0).cell? ⟨N + 2, 0, none⟩ = some u2 := by rw [World.cell?_setCell_other _ _ _ _ (by simp)]; exact h2
  have b0 : ((w.setCell ⟨N, 0, none⟩ v0).setCell ⟨N + 1, 0, none⟩ v1).cell? ⟨N, 0, none⟩ = some v0 := by rw [World.cell?_setCell_other _ _ _ _ (by simp)]; exact a0
  have b1 := World.cell?_setCell_same (w.setCell ⟨N, 0, none⟩ v0) ⟨N + 1, 0, none⟩ v1 a1
  have b2 : ((w.setCell ⟨N, 0, none⟩ v0).setCell ⟨N + 1, 0, none⟩ v1).cell? ⟨N + 2, 0, none⟩ = some u2 := by rw [World.cell?_setCell_other _ _ _ _ (by simp)]; exact a2
  have c0 : (((w.setCell ⟨N, 0, none⟩ v0).setCell ⟨N + 1, 0, none⟩ v1).setCell ⟨N + 2, 0, none⟩ v2).cell? ⟨N, 0, none⟩ = some v0 := by rw [World.cell?_setCell_other _ _ _ _ (by simp)]; exact b0
  have c1 : (((w.setCell ⟨N, 0, none⟩ v0).setCell ⟨N + 1, 0, none⟩ v1).setCell ⟨N + 2, 0, none⟩ v2).cell? ⟨N + 1, 0, none⟩ = some v1 := by rw [World.cell?_setCell_other _ _ _ _ (by simp)]; exact b1
  have c2 := World.cell?_setCell_same ((w.setCell ⟨N, 0, none⟩ v0).setCell ⟨N + 1, 0, none⟩ v1) ⟨N + 2, 0, none⟩ v2 b2
  refine ⟨c0, c1, c2, ?_⟩
  exact ((((Below.refl _ _).setCell (p := ⟨N, 0, none⟩) (Nat.le_refl _) _).setCell (p := ⟨N + 1, 0, none⟩) (by show N ≤ N + 1; omega) _).setCell (p := ⟨N + 2, 0, none⟩) (by show N ≤ N + 2; omega) _).drew

theorem assert_place (x y : Int) (w : World) : (Instr.typeAssert (.iface 88 (.agg #[.int .i64 x, .int .i64 y])) 20 88 true).run Tryz.prog w = .ok (.tuple #[.agg #[.int .i64 x, .int .i64 y], .bool true]) w := by kernel_rfl

set_option maxHeartbeats 400000 in
theorem catch_place (N : Nat) (at_ : Nat) (why : Int) (w : World) (v0 : Value) (x1 x2 : Int) (hN : N + 3 ≤ w.heap.size)
    (h0 : w.cell? ⟨N, 0, none⟩ = some v0) (f0 : w.frozen? ⟨N, 0, none⟩ = false)
    (h1 : w.cell? ⟨N + 1, 0, none⟩ = some (.int .i64 x1)) (f1 : w.frozen? ⟨N + 1, 0, none⟩ = false)
    (h2 : w.cell? ⟨N + 2, 0, none⟩ = some (.int .i64 x2)) (f2 : w.frozen? ⟨N + 2, 0, none⟩ = false) :
    CallsD Tryz.prog 54 #[.pointer (some ⟨N, 0, none⟩), .pointer (some ⟨N + 1, 0, none⟩), .pointer (some ⟨N + 2, 0, none⟩)] (.panicking (Tk.gaveUp at_ why)) w fun e u' w' =>
      e = .returned (.tuple #[]) ∧ u' = .panicking [{ v := .iface 88 (.agg #[.int .i64 (at_ : Int), .int .i64 why]), recovered := true }] ∧
      (w'.cell? ⟨N, 0, none⟩ = some (.slice none 0 0) ∧ w'.cell? ⟨N + 1, 0, none⟩ = some (.int .i64 at_) ∧ w'.cell? ⟨N + 2, 0, none⟩ = some (.int .i64 why) ∧ Below N w w') := by
  refine callsD_of_wpS Tryz.func54 rfl fun c₀ cs hu => ?_
  simp only [Tryz.ntmps54, List.size_toArray, List.length_cons, List.length_nil, Nat.reduceAdd, Nat.reduceSub, Array.replicate_succ,
     Array.replicate_zero, List.push_toArray, List.append_toArray, List.nil_append, List.cons_append]
  apply wpS_seq
  refine rec_some (v := .iface 88 (.agg #[.int .i64 (at_ : Int), .int .i64 why])) (cs' := { c₀ with mode := .panicking [{ v := .iface 88 (.agg #[.int .i64 (at_ : Int), .int .i64 why]), recovered := true }] } :: cs)
    ⟨#[.pointer (some ⟨N, 0, none⟩), .pointer (some ⟨N + 1, 0, none⟩), .pointer (some ⟨N + 2, 0, none⟩), .iface 88 (.agg #[.int .i64 (at_ : Int), .int .i64 why]), undef, undef, .iface 88 (.agg #[.int .i64 (at_ : Int), .int .i64 why]), undef, undef, undef, undef, undef, undef, undef, undef, undef, undef, undef, undef, undef, undef], []⟩
    (by simp [recoverD, hu, Tk.gaveUp]) (by simp [go_sem]) ?_
  refine wpS_of_wp ?_
  have hta := assert_place
  have hW : ∀ o, Below w.heap.size w (w.alloc o) := fun o => (Below.refl _ _).alloc (Nat.le_refl _) o
  have g0 : ∀ o, (w.alloc o).cell? ⟨N, 0, none⟩ = some v0 := fun o => ((hW o).cell (p := ⟨N, 0, none⟩) (by show N < _; omega)).trans h0
  have g1 : ∀ o, (w.alloc o).cell? ⟨N + 1, 0, none⟩ = some (.int .i64 x1) := fun o => ((hW o).cell (p := ⟨N + 1, 0, none⟩) (by show N + 1 < _; omega)).trans h1
  have g2 : ∀ o, (w.alloc o).cell? ⟨N + 2, 0, none⟩ = some (.int .i64 x2) := fun o => ((hW o).cell (p := ⟨N + 2, 0, none⟩) (by show N + 2 < _; omega)).trans h2
  have k0 : ∀ o, (w.alloc o).frozen? ⟨N, 0, none⟩ = false := fun o => ((hW o).frozen (p := ⟨N, 0, none⟩) (by show N < _; omega)).trans f0
  have k1 : ∀ o, (w.alloc o).frozen? ⟨N + 1, 0, none⟩ = false := fun o => ((hW o).frozen (p := ⟨N + 1, 0, none⟩) (by show N + 1 < _; omega)).trans f1
  have k2 : ∀ o, (w.alloc o).frozen? ⟨N + 2, 0, none⟩ = false := fun o => ((hW o).frozen (p := ⟨N + 2, 0, none⟩) (by show N + 2 < _; omega)).trans f2
  have e0 : ¬ N = w.heap.size := by omega
  have e1 : ¬ N + 1 = w.heap.size := by omega
  have e2 : ¬ N + 2 = w.heap.size := by omega
  have hA := hide (hW (.cells #[.int .i64 at_, .int .i64 why] 88))
  clear hW
  go_wp2
  go_region
  obtain ⟨c0, c1, c2, hb⟩ := three_set (w.alloc (.cells #[.int .i64 at_, .int .i64 why] 88)) N _ _ _ (.slice none 0 0) (.int .i64 at_) (.int .i64 why) (g0 _) (g1 _) (g2 _)
  exact ⟨rfl, _, rfl, _, by simp [results, Tryz.results54], rfl, rfl, c0, c1, c2, ((unhide hA).mono (by omega)).trans hb⟩
end Go.Proofs.YtfhlnelgnnkeoaaGreatDoor
