/- By the verifier. -/
import Derived.Test.YtfccpddehpgfoaaGreatDoorXP
import Derived.Lib.ItoaNum
import Derived.Laws.BytesString
import Derived.Test.YtfccpddehpgfoaaGreatDoorSShelfI
import Derived.Test.YtfccpddehpgfoaaGreatDoorRows
import Derived.Lib.ItoaMem
import Derived.MakeChecks
import Derived.Lib.LaidTab
set_option maxRecDepth 100000
set_option maxHeartbeats 800000
namespace Go.Proofs.YtfccpddehpgfoaaGreatDoor
open Go.RowKit
set_option linter.unusedVariables false
def Qd.D (u : Nat) : ByteArray := ⟨(Lib.decDigits u).toArray⟩
theorem Zd2 : ∀ (k u : Nat), u < 10 ^ (k + 1) → Lib.nDigits u ≤ k + 1 := by
 intro k
 induction k with
 | zero => intro u h; rw [Lib.nDigits_small (by simpa using h)]; exact Nat.le_refl _
 | succ k ih =>
  intro u h
  by_cases h1 : u < 10
  · rw [Lib.nDigits_small h1]; omega
  rw [Lib.nDigits, dif_neg h1]
  have := ih (u / 10) (by rw [Nat.pow_succ] at h; omega)
  omega
theorem Zia (u : Nat) (h : u ≤ 9223372036854775808) : (Qd.D u).size ≤ 19 := by
 show (Lib.decDigits u).toArray.size ≤ 19
 rw [List.size_toArray, Lib.decDigits_length]
 exact Zd2 18 u (by omega)
theorem Qd.add_at (g j : Nat) : (⟨g, 0, none⟩ : Addr).add j = ⟨g, j, none⟩ := by unfold Addr.add; split <;> simp_all
def Qd.nm : String := Rows.showShowsRow.named.headD default
def ZdL (W : World) : Prop := Lib.TabIs Tryz.prog W Qd.nm .u64 Lib.pow10Tab
theorem ZbI {W W' : World} (h : ZdL W) (hb : Below W.heap.size W W') : ZdL W' := by
 unfold ZdL Lib.TabIs World.var? at h ⊢
 cases hg : Tryz.prog.globalNamed Qd.nm with
 | none => rw [hg] at h; cases h
 | some g =>
  rw [hg] at h
  simp only [Option.bind_some] at h ⊢
  have hlt : g < W.heap.size := by
   rcases Nat.lt_or_ge g W.heap.size with h' | h'
   · exact h'
   rw [Array.getElem?_eq_none h'] at h; cases h
  rw [hb.block g hlt]
  exact h
theorem Qd.grown (w : World) (q : Nat) (os : Array Obj) : Below w.heap.size w (Sort.grow (w.drewN q) os) :=
 ⟨rfl, rfl, rfl, by simp [Sort.grow], fun i hi => by
  show ((w.drewN q).heap ++ os)[i]? = _
  rw [Array.getElem?_append_left (by show i < w.heap.size; omega)]
  rfl⟩
theorem Zl6 (n : Int) (h0 : -9223372036854775808 ≤ n) (h1 : n ≤ 9223372036854775807) (w : World) (htab : ZdL w) :
  Calls Tryz.prog 163 #[.int .i64 n] w fun e w' => e = .returned (.string ⟨(Lib.itoa n).toArray⟩) ∧ ∃ k os, w' = Sort.grow (w.drewN k) os := Any.strconv_Itoa Tryz.laysItoa n h0 h1 w htab
theorem ZlL (n : Int) (h0 : -9223372036854775808 ≤ n) (h1 : n ≤ 9223372036854775807) (w : World) (htab : ZdL w) :
  Calls Tryz.prog 163 #[.int .i64 n] w fun e w' => e = .returned (.string ⟨(Lib.itoa n).toArray⟩) ∧ Below w.heap.size w w' :=
 (Zl6 n h0 h1 w htab).mono fun e w' ⟨he, k, os, hw⟩ => ⟨he, by rw [hw]; exact Qd.grown w k os⟩
def Qd.num (n : Int) : ByteArray := ⟨(Lib.itoa n).toArray⟩
theorem Zgz (u : Nat) : Qd.num (u : Int) = Qd.D u := by unfold Qd.num Qd.D; rw [Lib.itoa_nonneg]
theorem Zgp (u : Nat) (h : 1 ≤ u) : Qd.num (-(u : Int)) = ⟨#[45]⟩ ++ Qd.D u := by
 unfold Qd.num Qd.D
 rw [Lib.itoa_neg u h]
 apply ByteArray.ext
 simp
theorem ZiX (n : Int) (h : -9223372036854775807 ≤ n) (h1 : n ≤ 9223372036854775807) : (Qd.num n).size ≤ 20 := by
 rcases (show n < 0 ∨ 0 ≤ n by omega) with h2 | h2
 · obtain ⟨u, rfl⟩ : ∃ u : Nat, n = -(u : Int) := ⟨n.natAbs, by omega⟩
   rw [Zgp u (by omega), ByteArray.size_append]
   have := Zia u (by omega)
   have e : (⟨#[45]⟩ : ByteArray).size = 1 := rfl
   omega
 obtain ⟨u, rfl⟩ : ∃ u : Nat, n = (u : Int) := ⟨n.toNat, by omega⟩
 rw [Zgz]
 have := Zia u (by omega)
 omega
theorem Qd.dat : (Rows.laid_internal_strconv_uint64pow10 : DataW Unit) = Lib.tabData .u64 Lib.pow10Tab := by kernel_rfl
theorem Zl2 : Tryz.prog.globalNamed Qd.nm = some 1 := by kernel_rfl
theorem Zlv : (Tryz.prog.globals[1]?).map (·.type) = some 242 := by kernel_rfl
theorem Qd.c20 : Tryz.prog.cellsOf 242 = 20 := by kernel_rfl
theorem Qd.c1 : Tryz.prog.cellsOf 224 = 1 := by kernel_rfl
end Go.Proofs.YtfccpddehpgfoaaGreatDoor
