/-
  Contracts of the small methods of the document's Reader. By the verifier.
-/
import Derived.Test.YtfhlnelgnnkeoaaGreatDoorQS
import Derived.Test.YtfhlnelgnnkeoaaGreatDoorRefLeaf
namespace Go.Proofs.YtfhlnelgnnkeoaaGreatDoor
open Go.RowKit
set_option linter.unusedVariables false

/-- A reader, as it lies: its tokens, which one is next, where the text ends, whether it has failed. -/
structure Qp.Rd (W : World) (bp : Nat) (ta : Option Addr) (n c : Nat) (i e : Int) (f : Bool) : Prop where
  c0 : W.cell? ⟨bp, 0, none⟩ = some (.slice ta n c)
  c1 : W.cell? ⟨bp, 1, none⟩ = some (.int .i64 i)
  c2 : W.cell? ⟨bp, 2, none⟩ = some (.int .i64 e)
  c3 : W.cell? ⟨bp, 3, none⟩ = some (.bool f)
  f1 : W.frozen? ⟨bp, 1, none⟩ = false
  f3 : W.frozen? ⟨bp, 3, none⟩ = false
theorem Qp.Rd.lt {W : World} {bp : Nat} {ta : Option Addr} {n c : Nat} {i e : Int} {f : Bool} (h : Qp.Rd W bp ta n c i e f) : bp < W.heap.size := World.block_lt_of_cell? W _ h.c0
theorem Qp.Rd.kept {W W' : World} {bp : Nat} {ta : Option Addr} {n c : Nat} {i e : Int} {f : Bool} (h : Qp.Rd W bp ta n c i e f) (hb : W'.heap[bp]? = W.heap[bp]?) : Qp.Rd W' bp ta n c i e f := by
  have hc : ∀ j, W'.cell? ⟨bp, j, none⟩ = W.cell? ⟨bp, j, none⟩ := fun j => World.cell?_of_block (a := ⟨bp, j, none⟩) hb
  have hf : ∀ j, W'.frozen? ⟨bp, j, none⟩ = W.frozen? ⟨bp, j, none⟩ := fun j => World.frozen?_of_block (a := ⟨bp, j, none⟩) hb
  exact ⟨by rw [hc]; exact h.c0, by rw [hc]; exact h.c1, by rw [hc]; exact h.c2, by rw [hc]; exact h.c3, by rw [hf]; exact h.f1, by rw [hf]; exact h.f3⟩
theorem Qp.Rd.below {W W' : World} {bp : Nat} {ta : Option Addr} {n c : Nat} {i e : Int} {f : Bool} (h : Qp.Rd W bp ta n c i e f) (hb : Below W.heap.size W W') : Qp.Rd W' bp ta n c i e f := h.kept (hb.block bp h.lt)
theorem Qp.Rd.next {W : World} {bp : Nat} {ta : Option Addr} {n c : Nat} {i e : Int} {f : Bool} (h : Qp.Rd W bp ta n c i e f) (j : Int) : Qp.Rd (W.setCell ⟨bp, 1, none⟩ (.int .i64 j)) bp ta n c j e f :=
  ⟨(World.cell?_setCell_other _ _ _ _ (by intro hh; have := congrArg Addr.off hh; simp at this)).trans h.c0, World.cell?_setCell_same _ _ _ h.c1, (World.cell?_setCell_other _ _ _ _ (by intro hh; have := congrArg Addr.off hh; simp at this)).trans h.c2, (World.cell?_setCell_other _ _ _ _ (by intro hh; have := congrArg Addr.off hh; simp at this)).trans h.c3, by rw [World.frozen?_setCell]; exact h.f1, by rw [World.frozen?_setCell]; exact h.f3⟩
theorem Qp.Rd.fail {W : World} {bp : Nat} {ta : Option Addr} {n c : Nat} {i e : Int} {f : Bool} (h : Qp.Rd W bp ta n c i e f) : Qp.Rd (W.setCell ⟨bp, 3, none⟩ (.bool true)) bp ta n c i e true :=
  ⟨(World.cell?_setCell_other _ _ _ _ (by intro hh; have := congrArg Addr.off hh; simp at this)).trans h.c0, (World.cell?_setCell_other _ _ _ _ (by intro hh; have := congrArg Addr.off hh; simp at this)).trans h.c1, (World.cell?_setCell_other _ _ _ _ (by intro hh; have := congrArg Addr.off hh; simp at this)).trans h.c2, World.cell?_setCell_same _ _ _ h.c3, by rw [World.frozen?_setCell]; exact h.f1, by rw [World.frozen?_setCell]; exact h.f3⟩

/-- The text that is next; none, if it has failed. -/
def Qp.rt (l : List Qp.T) (i : Nat) (f : Bool) : ByteArray := if f then ⟨#[]⟩ else (Qp.tk l i).t
set_option maxRecDepth 100000 in
set_option maxHeartbeats 800000 in
theorem Text_any (l : List Qp.T) (ta : Option Addr) (c bp i : Nat) (e : Int) (f : Bool) (w : World) (hp : Qp.Rd w bp ta l.length c (i : Nat) e f) (hr : Qp.RT w ta l) (hf : l.length ≤ 10000) (hi : i ≤ 10000) :
    Calls Tryz.prog 47 #[.pointer (some ⟨bp, 0, none⟩), .int .i64 0] w fun r w' => r = .returned (.string (Qp.rt l i f)) ∧ Below w.heap.size w w' := by
  have hlt := hp.lt
  obtain ⟨c0, c1, c2, c3, f1, f3⟩ := hp
  cases f
  · show Calls _ _ _ _ fun r w' => r = .returned (.string (Qp.tk l i).t) ∧ _
    by_cases hil : i < l.length
    · have hx := List.getElem?_eq_getElem hil
      rw [Qp.tk_some hx]
      obtain ⟨b, o, rfl, hb, d0, d1, d2⟩ := hr.at_ i _ hx
      have hi1 : (0 : Int) ≤ (i : Int) := by omega
      have hi2 : (i : Int) < (l.length : Int) := by omega
      have hi3 : decide ((l.length : Int) ≤ (i : Int)) = false := by simp; omega
      have hi4 : ¬ (l.length : Int) ≤ (i : Int) := by omega
      clear hr hx
      generalize l[i] = x at *
      go_enter Tryz.func47, Tryz.ntmps47
      go_wp2_with fail
      go_quiet (fail)
      go_wp2_with fail
      go_quiet (fail)
      go_wp2_with fail
      go_ret
      exact ⟨rfl, below_drewN (below_drewN (Below.refl _ _) _) _⟩
    · rw [Qp.tk_none (by omega)]
      have hi3 : decide ((l.length : Int) ≤ (i : Int)) = true := by simp; omega
      have hi4 : (l.length : Int) ≤ (i : Int) := by omega
      clear hr
      go_enter Tryz.func47, Tryz.ntmps47
      go_wp2_with fail
      go_quiet (fail)
      go_wp2_with fail
      go_ret
      exact ⟨rfl, below_drewN (Below.refl _ _) _⟩
  · clear hr
    go_enter Tryz.func47, Tryz.ntmps47
    go_wp2_with fail
    go_quiet (fail)
    go_wp2_with fail
    go_ret
    exact ⟨rfl, below_drewN (Below.refl _ _) _⟩

set_option maxRecDepth 100000 in
set_option maxHeartbeats 800000 in
theorem Here_any (l : List Qp.T) (ta : Option Addr) (c bp i : Nat) (e : Int) (f : Bool) (w : World) (hp : Qp.Rd w bp ta l.length c (i : Nat) e f) (hr : Qp.RT w ta l) (hf : l.length ≤ 10000) :
    Calls Tryz.prog 35 #[.pointer (some ⟨bp, 0, none⟩)] w fun r w' => r = .returned (.int .i64 (Qp.pl l e i)) ∧ Below w.heap.size w w' := by
  have hlt := hp.lt
  obtain ⟨c0, c1, c2, c3, f1, f3⟩ := hp
  by_cases hil : i < l.length
  · have hx := List.getElem?_eq_getElem hil
    rw [Qp.pl_some hx]
    obtain ⟨b, o, rfl, hb, d0, d1, d2⟩ := hr.at_ i _ hx
    have hi1 : (0 : Int) ≤ (i : Int) := by omega
    have hi2 : (i : Int) < (l.length : Int) := by omega
    clear hr hx
    generalize l[i] = x at *
    go_enter Tryz.func35, Tryz.ntmps35
    go_wp2_with fail
    go_quiet (fail)
    go_wp2_with fail
    go_quiet (fail)
    go_wp2_with fail
    go_ret
    exact ⟨rfl, below_drewN (below_drewN (Below.refl _ _) _) _⟩
  · rw [Qp.pl_none (by omega)]
    have hi2 : ¬ (i : Int) < (l.length : Int) := by omega
    clear hr
    go_enter Tryz.func35, Tryz.ntmps35
    go_wp2_with fail
    go_quiet (fail)
    go_wp2_with fail
    go_ret
    exact ⟨rfl, below_drewN (Below.refl _ _) _⟩

/-- Where it is behind a token that must be there, and whether it has failed. -/
def Qp.nd (l : List Qp.T) (s : ByteArray) (i : Nat) (f : Bool) : Nat × Bool := if f then (i, true) else if (Qp.tk l i).t.toList == s.toList then (i + 1, false) else (i, true)
set_option maxRecDepth 100000 in
set_option maxHeartbeats 800000 in
theorem Need_any (l : List Qp.T) (s : ByteArray) (ta : Option Addr) (c bp i : Nat) (e : Int) (f : Bool) (w : World) (hp : Qp.Rd w bp ta l.length c (i : Nat) e f) (hr : Qp.RT w ta l) (hf : l.length ≤ 10000) (hi : i ≤ 10000) :
    Calls Tryz.prog 48 #[.pointer (some ⟨bp, 0, none⟩), .string s] w fun r w' => r = .returned (.tuple #[]) ∧ Qp.Rd w' bp ta l.length c ((Qp.nd l s i f).1 : Nat) e (Qp.nd l s i f).2 ∧ Qk.But1 bp w.heap.size w w' := by
  have HT := hide (Text_any l ta c bp i e f w hp hr hf hi)
  have HP := hide hp
  have hlt := hp.lt
  obtain ⟨c0, c1, c2, c3, f1, f3⟩ := hp
  unfold Qp.nd
  unfold Qp.rt at HT
  clear hr
  cases f
  · generalize (Qp.tk l i).t = t at *
    cases htx : (t.toList == s.toList)
    · go_enter Tryz.func48, Tryz.ntmps48
      go_wp2_with fail
      refine (unhide HT).mono ?_
      rintro r w1 ⟨rfl, hb1⟩
      have HP1 := hide ((unhide HP).below hb1)
      have HB1 := hide ((Qk.But1.refl bp w.heap.size w).below hb1)
      clear hb1 c0 c1 c2 c3 f1 f3
      obtain ⟨c0, c1, c2, c3, f1, f3⟩ := unhide HP1
      have hlt1 := (unhide HP1).lt
      go_wp2_with fail
      go_end0
      exact ⟨rfl, (unhide HP1).fail, (unhide HB1).set (o := 3) _⟩
    · go_enter Tryz.func48, Tryz.ntmps48
      go_wp2_with fail
      refine (unhide HT).mono ?_
      rintro r w1 ⟨rfl, hb1⟩
      have HP1 := hide ((unhide HP).below hb1)
      have HB1 := hide ((Qk.But1.refl bp w.heap.size w).below hb1)
      clear hb1 c0 c1 c2 c3 f1 f3
      obtain ⟨c0, c1, c2, c3, f1, f3⟩ := unhide HP1
      have hlt1 := (unhide HP1).lt
      have HN := hide ((unhide HP1).next ((i : Int) + 1))
      go_wp2_with fail
      go_end0
      exact ⟨rfl, by simpa using unhide HN, (unhide HB1).set (o := 1) _⟩
  · go_enter Tryz.func48, Tryz.ntmps48
    go_wp2_with fail
    exact bodyPost_ret (v := .tuple #[]) (by simp [results, Tryz.results48, go_sem]) rfl ⟨rfl, unhide HP, Qk.But1.refl _ _ _⟩
end Go.Proofs.YtfhlnelgnnkeoaaGreatDoor
