/-
  Several texts in one: XSmall, XSame. By the verifier.
-/
import Derived.Test.YtildjlaphkjegaaXRight
namespace Go.Proofs.Ytildjlaphkjegaa
open Go.RowKit
set_option linter.unusedVariables false

def Xr.e0 : Pg.XT 1 := ((0, 0), [])
def Xr.eN : Pg.XT 1 := ((2, 0), [])
def Xr.small : List (Pg.FT 1 1) := [⟨0, [0], [((4, 0, 0), (Xr.e0, Xr.e0, []), ([], [])), ((5, 0, 0), (Xr.e0, Xr.eN, []), ([], []))], Xr.e0⟩]
def Xr.tr : List Ev := [⟨1, 0, 0, 0, 0, 0⟩, ⟨3, 0, 0, 0, 0, 7⟩, ⟨2, 0, 0, 0, 0, 7⟩, ⟨1, 0, 1, 0, 0, 0⟩, ⟨4, 0, 1, 0, 0, 7⟩, ⟨7, 0, -1, 0, 0, 0⟩]
theorem Xr.small_fit : Pg.parFit Xr.small := by
  intro x hx
  simp only [Xr.small, List.mem_cons, List.not_mem_nil, or_false] at hx
  subst hx
  show (0 : Int) ≤ 9223372036854775807
  omega
theorem Xr.small_ok : Xr.chkR Xr.small [7] 9 = 0 := by kernel_rfl
theorem Xr.small_out : Xr.out Xr.small [7] 9 = Xr.tr := by kernel_rfl
theorem Xr.small_chk (l : List Ev) (h : l.length ≤ 6) : Xr.chkL Xr.small l = 0 := by
  have h1 : Pg.chkP Xr.small = 0 := by kernel_rfl
  unfold Xr.chkL
  rw [if_pos h1, if_neg (by omega)]
theorem Xr.small_right : Xr.right Xr.small (Xr.tr.take 3) = true := by kernel_rfl
theorem Xr.small_wrong : Xr.right Xr.small (Xr.tr.drop 1) = false := by kernel_rfl

theorem Pg.RX.e0 (w : World) : Pg.RX w 1 ⟨0, 0, ⟨none, 0, 0⟩⟩ Xr.e0 := ⟨⟨rfl, rfl⟩, ⟨rfl, Nat.le_refl _, Nat.zero_le _, fun i y hy => by simp [Xr.e0] at hy⟩⟩
theorem Pg.RX.eN (w : World) : Pg.RX w 1 ⟨2, 0, ⟨none, 0, 0⟩⟩ Xr.eN := ⟨⟨rfl, rfl⟩, ⟨rfl, Nat.le_refl _, Nat.zero_le _, fun i y hy => by simp [Xr.eN] at hy⟩⟩
theorem Pg.RS.none {α β : Type} (w : World) (wide : Nat) (lies : Nat → Nat → α → Prop) (reads : α → β → Prop) : Pg.RS w wide lies reads ⟨none, 0, 0⟩ [] := ⟨rfl, Nat.le_refl _, Nat.zero_le _, fun i y hy => by simp at hy⟩

set_option maxRecDepth 100000 in
set_option maxHeartbeats 1600000 in
theorem small_any (w : World) :
    Calls Try.prog 26 #[] w fun r w' => ∃ g, r = .returned (.agg #[.slice (some ⟨g, 0, none⟩) 1 1]) ∧ Pg.RP w' 1 1 ⟨some ⟨g, 0, none⟩, 1, 1⟩ Xr.small ∧ Below w.heap.size w w' := by
  go_enter Try.func26, Try.ntmps26
  go_wp2_with fail
  refine bodyPost_ret (v := .agg #[.slice (some ⟨w.heap.size + 1 + 1 + 1, 0, none⟩) 1 1]) (by simp [results, Try.results26, go_sem]) rfl ⟨w.heap.size + 1 + 1 + 1, rfl, ⟨rfl, Nat.le_refl _, by simp [Xr.small], fun i y hy => ?_⟩, ((((Below.refl _ _).alloc (Nat.le_refl _) _).alloc (by simp) _).alloc (by simp; omega) _).alloc (by simp; omega) _⟩
  match i, hy with
  | 0, hy =>
    cases hy
    refine ⟨w.heap.size + 1 + 1 + 1, 0, ⟨0, ⟨some ⟨w.heap.size + 1, 0, none⟩, 1, 1⟩, ⟨some ⟨w.heap.size + 1 + 1, 0, none⟩, 2, 2⟩, ⟨0, 0, ⟨none, 0, 0⟩⟩⟩, rfl, by simp, ⟨by go_simp, by go_simp, by go_simp, by go_simp, by go_simp, by go_simp⟩, ⟨rfl, ⟨rfl, Nat.le_refl _, by simp, fun k z hz => ?_⟩, ⟨rfl, Nat.le_refl _, by show 2 ≤ 35184372088832; omega, fun k z hz => ?_⟩, Pg.RX.e0 _⟩⟩
    · match k, hz with
      | 0, hz => cases hz; exact ⟨w.heap.size + 1, 0, rfl, by simp <;> omega, by go_simp⟩
      | _ + 1, hz => simp at hz
    · match k, hz with
      | 0, hz =>
        cases hz
        exact ⟨w.heap.size + 1 + 1, 0, ⟨4, 0, 0, ⟨0, 0, ⟨none, 0, 0⟩⟩, ⟨0, 0, ⟨none, 0, 0⟩⟩, ⟨none, 0, 0⟩, ⟨none, 0, 0⟩, ⟨none, 0, 0⟩⟩, rfl, by simp <;> omega, ⟨by go_simp, by go_simp, by go_simp, by go_simp, by go_simp, by go_simp, by go_simp, by go_simp, by go_simp, by go_simp, by go_simp, by go_simp⟩, ⟨rfl, rfl, rfl⟩, ⟨Pg.RX.e0 _, Pg.RX.e0 _, Pg.RS.none _ _ _ _⟩, Pg.RS.none _ _ _ _, Pg.RS.none _ _ _ _⟩
      | 1, hz =>
        cases hz
        exact ⟨w.heap.size + 1 + 1, 0, ⟨5, 0, 0, ⟨0, 0, ⟨none, 0, 0⟩⟩, ⟨2, 0, ⟨none, 0, 0⟩⟩, ⟨none, 0, 0⟩, ⟨none, 0, 0⟩, ⟨none, 0, 0⟩⟩, rfl, by simp <;> omega, ⟨by go_simp, by go_simp, by go_simp, by go_simp, by go_simp, by go_simp, by go_simp, by go_simp, by go_simp, by go_simp, by go_simp, by go_simp⟩, ⟨rfl, rfl, rfl⟩, ⟨Pg.RX.e0 _, Pg.RX.eN _, Pg.RS.none _ _ _ _⟩, Pg.RS.none _ _ _ _, Pg.RS.none _ _ _ _⟩
      | _ + 2, hz => cases hz
  | _ + 1, hy => simp [Xr.small] at hy
end Go.Proofs.Ytildjlaphkjegaa
namespace Go.Proofs.Ytildjlaphkjegaa
open Go.RowKit
set_option linter.unusedVariables false

set_option maxRecDepth 100000 in
set_option maxHeartbeats 1600000 in
theorem SameEvents_long (l : List Ev) (ad bd : Option Addr) (cap dap : Nat) (w : World) (hr : Cl.RE w ad l) (hr2 : Cl.RE w bd l) (hl : l.length ≤ 35184372088832) :
    Calls Try.prog 29 #[.slice ad l.length cap, .slice bd l.length dap] w fun e w' => e = .returned (.bool true) ∧ Below w.heap.size w w' := by
  have HR := hide hr
  have HR2 := hide hr2
  clear hr hr2
  have gll : ((l.length : Int) != (l.length : Int)) = false := by simp
  go_enter Try.func29, Try.ntmps29
  go_wp2_with fail
  go_loopw [5] (fun v wr => ∃ k : Nat, k ≤ l.length ∧ v = .int .i64 (k : Nat) ∧ Below w.heap.size w wr) (fun v _ => l.length - (intOf v).toNat)
  case atStart => exact ⟨0, by omega, rfl, Below.refl _ _⟩
  case round =>
    obtain ⟨k, hk, rfl, hbe⟩ := hrel
    have HBE := hide hbe
    clear hbe
    by_cases hlt : k < l.length
    · obtain ⟨t, ht⟩ : ∃ t, l[k]? = some t := ⟨l[k], List.getElem?_eq_getElem hlt⟩
      obtain ⟨b, o, rfl, hb, c0, c1, c2, c3, c4, c5⟩ := ((unhide HR).later (unhide HBE) (Nat.le_refl _)).at_ k t ht
      obtain ⟨b', o', rfl, hb', d0, d1, d2, d3, d4, d5⟩ := ((unhide HR2).later (unhide HBE) (Nat.le_refl _)).at_ k t ht
      clear ht
      have hk1 : (0 : Int) ≤ (k : Int) := by omega
      have hk2 : (k : Int) < (l.length : Int) := by omega
      go_wp2_with fail
      go_quiet (fail)
      go_wp2_with fail
      exact ⟨⟨k + 1, by omega, by go_num, below_drewN (unhide HBE) _⟩, by simp [intOf]; omega⟩
    · have hk2 : ¬ (k : Int) < (l.length : Int) := by omega
      go_wp2_with fail
      go_ret
      exact ⟨rfl, unhide HBE⟩

theorem SameEvents_eq (l : List Ev) (ad bd : Option Addr) (cap dap : Nat) (w : World) (hr : Cl.RE w ad l) (hr2 : Cl.RE w bd l) (hl : l.length ≤ 4000) :
    Calls Try.prog 29 #[.slice ad l.length cap, .slice bd l.length dap] w fun e w' => e = .returned (.bool true) ∧ Below w.heap.size w w' := SameEvents_long l ad bd cap dap w hr hr2 (by omega)

set_option maxRecDepth 100000 in
set_option maxHeartbeats 1600000 in
theorem xsmallTrace_any (w : World) :
    Calls Try.prog 28 #[] w fun e w' => ∃ g, e = .returned (.slice (some ⟨g, 0, none⟩) 6 6) ∧ w.heap.size ≤ g ∧ Cl.RE w' (some ⟨g, 0, none⟩) Xr.tr ∧ Below w.heap.size w w' := by
  go_enter Try.func28, Try.ntmps28
  go_wp2_with fail
  refine bodyPost_ret (v := .slice (some ⟨w.heap.size, 0, none⟩) 6 6) (by simp [results, Try.results28, go_sem]) rfl ⟨w.heap.size, rfl, Nat.le_refl _, ⟨fun i x hi => ?_⟩, (Below.refl _ _).alloc (Nat.le_refl _) _⟩
  match i, hi with
  | 0, hi => cases hi; exact ⟨w.heap.size, 0, rfl, by simp, by go_simp, by go_simp, by go_simp, by go_simp, by go_simp, by go_simp⟩
  | 1, hi => cases hi; exact ⟨w.heap.size, 0, rfl, by simp, by go_simp, by go_simp, by go_simp, by go_simp, by go_simp, by go_simp⟩
  | 2, hi => cases hi; exact ⟨w.heap.size, 0, rfl, by simp, by go_simp, by go_simp, by go_simp, by go_simp, by go_simp, by go_simp⟩
  | 3, hi => cases hi; exact ⟨w.heap.size, 0, rfl, by simp, by go_simp, by go_simp, by go_simp, by go_simp, by go_simp, by go_simp⟩
  | 4, hi => cases hi; exact ⟨w.heap.size, 0, rfl, by simp, by go_simp, by go_simp, by go_simp, by go_simp, by go_simp, by go_simp⟩
  | 5, hi => cases hi; exact ⟨w.heap.size, 0, rfl, by simp, by go_simp, by go_simp, by go_simp, by go_simp, by go_simp, by go_simp⟩
  | _ + 6, hi => simp [Xr.tr] at hi

end Go.Proofs.Ytildjlaphkjegaa
