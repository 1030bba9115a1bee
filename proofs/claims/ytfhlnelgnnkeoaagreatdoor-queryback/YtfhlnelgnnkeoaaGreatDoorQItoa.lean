/-
  Itoa of the library, at this dump. By the verifier.
-/
import Derived.Test.YtfhlnelgnnkeoaaGreatDoorQDigits
import Derived.Test.YtfhlnelgnnkeoaaGreatDoorQShelf
import Derived.Test.YtfhlnelgnnkeoaaGreatDoorRows
import Derived.Lib.ItoaMem
namespace Go.Proofs.YtfhlnelgnnkeoaaGreatDoor
open Go.RowKit
set_option linter.unusedVariables false

/-- The library's table of powers lies as it is laid. -/
def Qd.nm : String := Rows.queryTellsRow.named.headD default
def Qd.tab (W : World) : Prop := Lib.TabIs Tryz.prog W Qd.nm .u64 Lib.pow10Tab
theorem Qd.tab_later {W W' : World} (h : Qd.tab W) (hb : Below W.heap.size W W') : Qd.tab W' := by
  unfold Qd.tab Lib.TabIs World.var? at h ⊢
  cases hg : Tryz.prog.globalNamed Qd.nm with
  | none => rw [hg] at h; cases h
  | some g =>
    rw [hg] at h
    simp only [Option.bind_some] at h ⊢
    have hlt : g < W.heap.size := by
      rcases Nat.lt_or_ge g W.heap.size with h' | h'
      · exact h'
      · rw [Array.getElem?_eq_none h'] at h; cases h
    rw [hb.block g hlt]
    exact h
theorem Qd.grown (w : World) (q : Nat) (os : Array Obj) : Below w.heap.size w (Sort.grow (w.drewN q) os) :=
  ⟨rfl, rfl, rfl, by simp [Sort.grow], fun i hi => by
    show ((w.drewN q).heap ++ os)[i]? = _
    rw [Array.getElem?_append_left (by show i < w.heap.size; omega)]
    rfl⟩
theorem Itoa_is (n : Int) (h0 : -9223372036854775808 ≤ n) (h1 : n ≤ 9223372036854775807) (w : World) (htab : Qd.tab w) :
    Calls Tryz.prog 53 #[.int .i64 n] w fun e w' => e = .returned (.string ⟨(Lib.itoa n).toArray⟩) ∧ ∃ k os, w' = Sort.grow (w.drewN k) os := Any.strconv_Itoa Tryz.laysItoa n h0 h1 w htab
theorem Itoa_any (n : Int) (h0 : -9223372036854775808 ≤ n) (h1 : n ≤ 9223372036854775807) (w : World) (htab : Qd.tab w) :
    Calls Tryz.prog 53 #[.int .i64 n] w fun e w' => e = .returned (.string ⟨(Lib.itoa n).toArray⟩) ∧ Below w.heap.size w w' :=
  (Itoa_is n h0 h1 w htab).mono fun e w' ⟨he, k, os, hw⟩ => ⟨he, by rw [hw]; exact Qd.grown w k os⟩
/-- A number's text. -/
def Qd.num (n : Int) : ByteArray := ⟨(Lib.itoa n).toArray⟩
theorem Qd.num_nat (u : Nat) : Qd.num (u : Int) = Qd.D u := by unfold Qd.num Qd.D; rw [Lib.itoa_nonneg]
theorem Qd.num_neg (u : Nat) (h : 1 ≤ u) : Qd.num (-(u : Int)) = ⟨#[45]⟩ ++ Qd.D u := by
  unfold Qd.num Qd.D
  rw [Lib.itoa_neg u h]
  apply ByteArray.ext
  simp
theorem Qd.num_size (n : Int) (h : -9223372036854775807 ≤ n) (h1 : n ≤ 9223372036854775807) : (Qd.num n).size ≤ 20 := by
  rcases (show n < 0 ∨ 0 ≤ n by omega) with h2 | h2
  · obtain ⟨u, rfl⟩ : ∃ u : Nat, n = -(u : Int) := ⟨n.natAbs, by omega⟩
    rw [Qd.num_neg u (by omega), ByteArray.size_append]
    have := Qd.D_size u (by omega)
    have e : (⟨#[45]⟩ : ByteArray).size = 1 := rfl
    omega
  · obtain ⟨u, rfl⟩ : ∃ u : Nat, n = (u : Int) := ⟨n.toNat, by omega⟩
    rw [Qd.num_nat]
    have := Qd.D_size u (by omega)
    omega
theorem Digits_any (n : Int) (h : -9223372036854775807 ≤ n) (h1 : n ≤ 9223372036854775807) (w : World) :
    Calls Tryz.prog 26 #[.int .i64 n] w fun e w' => e = .returned (.string (Qd.num n)) ∧ Below w.heap.size w w' := by
  rcases (show n < 0 ∨ 0 ≤ n by omega) with h2 | h2
  · obtain ⟨u, rfl⟩ : ∃ u : Nat, n = -(u : Int) := ⟨n.natAbs, by omega⟩
    rw [Qd.num_neg u (by omega)]
    exact Digits_neg u w (by omega) (by omega)
  · obtain ⟨u, rfl⟩ : ∃ u : Nat, n = (u : Int) := ⟨n.toNat, by omega⟩
    rw [Qd.num_nat]
    exact Digits_nat u w (by omega)
end Go.Proofs.YtfhlnelgnnkeoaaGreatDoor
