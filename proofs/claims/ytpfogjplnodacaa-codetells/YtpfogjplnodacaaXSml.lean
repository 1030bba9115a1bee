/-
  The small program of the laws. By the verifier.
-/
import Derived.Test.YtpfogjplnodacaaPProg
set_option maxRecDepth 100000
set_option maxHeartbeats 1600000
namespace Go.Proofs.Ytpfogjplnodacaa
open Go.RowKit
set_option linter.unusedVariables false
def Xr.e0 : Pg.XT 1 := ((0, 0), [])
def Xr.eN : Pg.XT 1 := ((2, 0), [])
def Xr.small : List (Pg.FT 1 1) := [⟨0, [0], [((4, 0, 0), (Xr.e0, Xr.e0, []), ([], [])), ((5, 0, 0), (Xr.e0, Xr.eN, []), ([], []))], Xr.e0⟩]
theorem Xr.small_fit : Pg.parFit Xr.small := by
 intro x hx
 simp only [Xr.small, List.mem_cons, List.not_mem_nil, or_false] at hx
 subst hx
 show (0 : Int) ≤ 9223372036854775807
 omega
theorem Pg.RX.e0 (w : World) : Pg.RX w 1 ⟨0, 0, ⟨none, 0, 0⟩⟩ Xr.e0 := ⟨⟨rfl, rfl⟩, ⟨rfl, Nat.le_refl _, Nat.zero_le _, fun i y hy => by simp [Xr.e0] at hy⟩⟩
theorem Pg.RX.eN (w : World) : Pg.RX w 1 ⟨2, 0, ⟨none, 0, 0⟩⟩ Xr.eN := ⟨⟨rfl, rfl⟩, ⟨rfl, Nat.le_refl _, Nat.zero_le _, fun i y hy => by simp [Xr.eN] at hy⟩⟩
theorem Pg.RS.none {α β : Type} (w : World) (wide : Nat) (lies : Nat → Nat → α → Prop) (reads : α → β → Prop) : Pg.RS w wide lies reads ⟨none, 0, 0⟩ [] := ⟨rfl, Nat.le_refl _, Nat.zero_le _, fun i y hy => by simp at hy⟩
theorem small_any (w : World) :
  Calls Try.prog 16 #[] w fun r w' => ∃ g, r = .returned (.agg #[.slice (some ⟨g, 0, none⟩) 1 1]) ∧ Pg.RP w' 1 1 ⟨some ⟨g, 0, none⟩, 1, 1⟩ Xr.small ∧ Below w.heap.size w w' := by
 go_enter Try.func16, Try.ntmps16
 go_wp2_with fail
 refine bodyPost_ret (v := .agg #[.slice (some ⟨w.heap.size + 1 + 1 + 1, 0, none⟩) 1 1]) (by simp [results, Try.results16, go_sem]) rfl ⟨w.heap.size + 1 + 1 + 1, rfl, ⟨rfl, Nat.le_refl _, by simp [Xr.small], fun i y hy => ?_⟩, ((((Below.refl _ _).alloc (Nat.le_refl _) _).alloc (by simp) _).alloc (by simp; omega) _).alloc (by simp; omega) _⟩
 match i, hy with
 | 0, hy =>
  cases hy
  refine ⟨w.heap.size + 1 + 1 + 1, 0, ⟨0, ⟨some ⟨w.heap.size + 1, 0, none⟩, 1, 1⟩, ⟨some ⟨w.heap.size + 1 + 1, 0, none⟩, 2, 2⟩, ⟨0, 0, ⟨none, 0, 0⟩⟩⟩, rfl, by simp, ⟨by go_simp, by go_simp, by go_simp, by go_simp, by go_simp, by go_simp⟩, ⟨rfl, ⟨rfl, Nat.le_refl _, by simp, fun k z hz => ?_⟩, ⟨rfl, Nat.le_refl _, by show 2 ≤ 35184372088832; omega, fun k z hz => ?_⟩, Pg.RX.e0 _⟩⟩
  · match k, hz with
    | 0, hz => cases hz; exact ⟨w.heap.size + 1, 0, rfl, by simp <;> omega, by go_simp⟩
    | _ + 1, hz => simp at hz
  · match k, hz with
    | 0, hz =>
     cases hz
     exact ⟨w.heap.size + 1 + 1, 0, ⟨4, 0, 0, ⟨0, 0, ⟨none, 0, 0⟩⟩, ⟨0, 0, ⟨none, 0, 0⟩⟩, ⟨none, 0, 0⟩, ⟨none, 0, 0⟩, ⟨none, 0, 0⟩⟩, rfl, by simp <;> omega, ⟨by go_simp, by go_simp, by go_simp, by go_simp, by go_simp, by go_simp, by go_simp, by go_simp, by go_simp, by go_simp, by go_simp, by go_simp⟩, ⟨rfl, rfl, rfl⟩, ⟨Pg.RX.e0 _, Pg.RX.e0 _, Pg.RS.none _ _ _ _⟩, Pg.RS.none _ _ _ _, Pg.RS.none _ _ _ _⟩
    | 1, hz =>
     cases hz
     exact ⟨w.heap.size + 1 + 1, 0, ⟨5, 0, 0, ⟨0, 0, ⟨none, 0, 0⟩⟩, ⟨2, 0, ⟨none, 0, 0⟩⟩, ⟨none, 0, 0⟩, ⟨none, 0, 0⟩, ⟨none, 0, 0⟩⟩, rfl, by simp <;> omega, ⟨by go_simp, by go_simp, by go_simp, by go_simp, by go_simp, by go_simp, by go_simp, by go_simp, by go_simp, by go_simp, by go_simp, by go_simp⟩, ⟨rfl, rfl, rfl⟩, ⟨Pg.RX.e0 _, Pg.RX.eN _, Pg.RS.none _ _ _ _⟩, Pg.RS.none _ _ _ _, Pg.RS.none _ _ _ _⟩
    | _ + 2, hz => cases hz
 | _ + 1, hy => simp [Xr.small] at hy
end Go.Proofs.Ytpfogjplnodacaa
