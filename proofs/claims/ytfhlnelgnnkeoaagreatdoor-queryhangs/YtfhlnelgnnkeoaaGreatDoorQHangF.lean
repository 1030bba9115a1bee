/-
  holds of the laws; queries made of others; a query at a greater depth. By the verifier.
-/
import Derived.Test.YtfhlnelgnnkeoaaGreatDoorQHangL
namespace Go.Proofs.YtfhlnelgnnkeoaaGreatDoor
open Go.RowKit
set_option linter.unusedVariables false

theorem Qk.RA.up1 {W : World} : ∀ (n : Nat) {e : Qk.E} {x : Qk.AT n}, Qk.RA W n e x → ∃ x' : Qk.AT (n + 1), Qk.RA W (n + 1) e x' := by
  intro n
  induction n with
  | zero => intro e x h; exact h.elim
  | succ n ih =>
    rintro e ⟨⟨k, m⟩, l⟩ ⟨h1, hs⟩
    have hx : ∀ i : Fin l.length, ∃ y' : Qk.AT (n + 1), ∃ (b o : Nat) (c : Qk.E), e.args.ad = some ⟨b, o, none⟩ ∧ b < W.heap.size ∧ Qk.Lies W b (o + i.val * 3) c ∧ Qk.RA W (n + 1) c y' := fun i => by
      obtain ⟨b, o, c, k1, k2, k3, k4⟩ := hs.at_ i.val l[i.val] (List.getElem?_eq_getElem i.isLt)
      obtain ⟨y', k5⟩ := ih k4
      exact ⟨y', b, o, c, k1, k2, k3, k5⟩
    refine ⟨((k, m), List.ofFn fun i => Classical.choose (hx i)), h1, ?_, ?_, ?_⟩
    · rw [List.length_ofFn]; exact hs.len
    · rw [List.length_ofFn]; exact hs.few
    · intro i y hy
      obtain ⟨hi, hy1⟩ := List.getElem?_eq_some_iff.1 hy
      have hi2 : i < l.length := by rw [List.length_ofFn] at hi; exact hi
      rw [List.getElem_ofFn] at hy1
      subst hy1
      exact Classical.choose_spec (hx ⟨i, hi2⟩)
theorem Qk.RA.to {W : World} {n N : Nat} (hN : n ≤ N) {e : Qk.E} {x : Qk.AT n} (h : Qk.RA W n e x) : ∃ x' : Qk.AT N, Qk.RA W N e x' := by
  obtain ⟨d, rfl⟩ := Nat.exists_eq_add_of_le hN
  clear hN
  induction d with
  | zero => exact ⟨x, h⟩
  | succ d ih =>
    obtain ⟨x', h'⟩ := ih
    exact Qk.RA.up1 (n + d) h'

theorem Qk.made2 {W : World} {n : Nat} (k : Int) {a b : Qk.E} {x y : Qk.AT n} (ha : Qk.RA W n a x) (hb : Qk.RA W n b y) :
    Qk.RA (W.alloc (Obj.cells #[.int .i64 a.k, .int .i64 a.n, .slice a.args.ad a.args.len a.args.cap, .int .i64 b.k, .int .i64 b.n, .slice b.args.ad b.args.len b.args.cap] 24)) (n + 1) ⟨k, 0, ⟨some ⟨W.heap.size, 0, none⟩, 2, 2⟩⟩ (Qk.two k x y) := by
  have hbe := (Below.refl W.heap.size W).alloc (Nat.le_refl _) (Obj.cells #[.int .i64 a.k, .int .i64 a.n, .slice a.args.ad a.args.len a.args.cap, .int .i64 b.k, .int .i64 b.n, .slice b.args.ad b.args.len b.args.cap] 24)
  refine ⟨⟨rfl, rfl⟩, rfl, (by decide : (2 : Nat) ≤ 9223372036854775807), fun i z hz => ?_⟩
  match i, hz with
  | 0, hz =>
    cases hz
    exact ⟨W.heap.size, 0, a, rfl, by simp, ⟨by go_simp, by go_simp, by go_simp⟩, Qk.RA.later hbe (Nat.le_refl _) n ha⟩
  | 1, hz =>
    cases hz
    exact ⟨W.heap.size, 0, b, rfl, by simp, ⟨by go_simp, by go_simp, by go_simp⟩, Qk.RA.later hbe (Nat.le_refl _) n hb⟩
  | i + 2, hz => exact absurd hz (by show ([] : List (Qk.AT n))[i]? ≠ _; simp)
theorem Qk.made1 {W : World} {n : Nat} (k : Int) {a : Qk.E} {x : Qk.AT n} (ha : Qk.RA W n a x) :
    Qk.RA (W.alloc (Obj.cells #[.int .i64 a.k, .int .i64 a.n, .slice a.args.ad a.args.len a.args.cap] 24)) (n + 1) ⟨k, 0, ⟨some ⟨W.heap.size, 0, none⟩, 1, 1⟩⟩ (Qk.one k x) := by
  have hbe := (Below.refl W.heap.size W).alloc (Nat.le_refl _) (Obj.cells #[.int .i64 a.k, .int .i64 a.n, .slice a.args.ad a.args.len a.args.cap] 24)
  refine ⟨⟨rfl, rfl⟩, rfl, (by decide : (1 : Nat) ≤ 9223372036854775807), fun i z hz => ?_⟩
  match i, hz with
  | 0, hz =>
    cases hz
    exact ⟨W.heap.size, 0, a, rfl, by simp, ⟨by go_simp, by go_simp, by go_simp⟩, Qk.RA.later hbe (Nat.le_refl _) n ha⟩
  | i + 1, hz => exact absurd hz (by show ([] : List (Qk.AT n))[i]? ≠ _; simp)

set_option maxRecDepth 100000 in
set_option maxHeartbeats 800000 in
theorem holds_yes (n : Nat) (k : Int) (qa : Option Addr) (qn qc : Nat) (x : Qk.AT n) (l : List Ev) (ad : Option Addr) (cap : Nat) (w : World) (h : Qk.RA w n ⟨k, 0, ⟨qa, qn, qc⟩⟩ x) (hr : Cl.RE w ad l) (hw : ∀ e ∈ l, e.wf) (h0 : Qk.hErr n x l.length = 0) :
    Calls Tryz.prog 19 #[.int .i64 k, .int .i64 0, .slice ad l.length cap, .slice qa qn qc] w fun r w' => ∃ g, r = .returned (.tuple #[.slice (some ⟨g, 0, none⟩) l.length l.length, .bool true]) ∧ Dk.RB w' (some ⟨g, 0, none⟩) (Qk.marks n x l) ∧ (Qk.marks n x l).length = l.length ∧ Below w.heap.size w w' := by
  have HH := hide (show Calls Tryz.prog 16 #[.agg #[.int .i64 k, .int .i64 0, .slice qa qn qc], .slice ad l.length cap] w fun r w' => ∃ g, r = .returned (.tuple #[.slice (some ⟨g, 0, none⟩) l.length l.length, .int .i64 0]) ∧ w.heap.size ≤ g ∧ Qk.Row w' g (Qk.marks n x l) ∧ (Qk.marks n x l).length = l.length ∧ Below w.heap.size w w' from Holds_ok n ⟨k, 0, ⟨qa, qn, qc⟩⟩ x l ad cap w h hr hw h0)
  have gll : ((l.length : Int) == (l.length : Int)) = true := by simp
  clear h hr hw h0
  generalize Qk.marks n x l = b at *
  go_enter Tryz.func19, Tryz.ntmps19
  go_wp2_with fail
  refine (unhide HH).mono ?_
  rintro r w1 ⟨g, rfl, _, hrow, hlen, hb⟩
  have HB := hide (And.intro hrow.reads (And.intro hlen hb))
  clear hrow hlen hb
  go_wp2_with fail
  go_ret2
  exact ⟨g, rfl, (unhide HB).1, (unhide HB).2.1, (unhide HB).2.2⟩

set_option maxRecDepth 100000 in
set_option maxHeartbeats 800000 in
theorem holds_no (n : Nat) (k : Int) (qa : Option Addr) (qn qc : Nat) (x : Qk.AT n) (len : Nat) (ad : Option Addr) (cap : Nat) (w : World) (h : Qk.RA w n ⟨k, 0, ⟨qa, qn, qc⟩⟩ x) (hf : len ≤ 35184372088832) (h0 : Qk.hErr n x len ≠ 0) :
    Calls Tryz.prog 19 #[.int .i64 k, .int .i64 0, .slice ad len cap, .slice qa qn qc] w fun r w' => r = .returned (.tuple #[.slice none 0 0, .bool false]) ∧ Below w.heap.size w w' := by
  have HH := hide (show Calls Tryz.prog 16 #[.agg #[.int .i64 k, .int .i64 0, .slice qa qn qc], .slice ad len cap] w fun r w' => r = .returned (.tuple #[.slice none 0 0, .int .i64 (Qk.hErr n x len : Nat)]) ∧ Below w.heap.size w w' from Holds_err n ⟨k, 0, ⟨qa, qn, qc⟩⟩ x len ad cap w h hf h0)
  generalize Qk.hErr n x len = C at *
  have hc1 : ((C : Nat) : Int) ≠ 0 := by omega
  have hc2 : (((C : Nat) : Int) == 0) = false := by simp; omega
  clear h h0
  go_enter Tryz.func19, Tryz.ntmps19
  go_wp2_with fail
  refine (unhide HH).mono ?_
  rintro r w1 ⟨rfl, hb⟩
  have HB := hide hb
  clear hb
  go_wp2_with fail
  go_ret2
  exact ⟨rfl, unhide HB⟩
end Go.Proofs.YtfhlnelgnnkeoaaGreatDoor
