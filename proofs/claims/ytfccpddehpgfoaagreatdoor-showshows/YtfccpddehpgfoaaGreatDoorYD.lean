/-
  QDigits, SItoa, STab. By the verifier.
-/
import Derived.Test.YtfccpddehpgfoaaGreatDoorXP
import Derived.Lib.ItoaNum
import Derived.Laws.BytesString
import Derived.Test.YtfccpddehpgfoaaGreatDoorSShelfI
import Derived.Test.YtfccpddehpgfoaaGreatDoorRows
import Derived.Lib.ItoaMem
import Derived.MakeChecks
import Derived.Lib.LaidTab
set_option maxRecDepth 100000
set_option maxHeartbeats 800000
namespace Go.Proofs.YtfccpddehpgfoaaGreatDoor
open Go.RowKit
set_option linter.unusedVariables false
def Qd.D (u : Nat) : ByteArray := ⟨(Lib.decDigits u).toArray⟩
theorem Qd.D_step {u : Nat} (h : ¬ u < 10) : Qd.D (u / 10) ++ Qd.D (u % 10) = Qd.D u := by
 unfold Qd.D
 conv => rhs; rw [Lib.decDigits, dif_neg h]
 rw [Lib.decDigits_one (i := u % 10) (by omega)]
 apply ByteArray.ext
 simp
theorem Qd.nDigits_le : ∀ (k u : Nat), u < 10 ^ (k + 1) → Lib.nDigits u ≤ k + 1 := by
 intro k
 induction k with
 | zero => intro u h; rw [Lib.nDigits_small (by simpa using h)]; exact Nat.le_refl _
 | succ k ih =>
  intro u h
  by_cases h1 : u < 10
  · rw [Lib.nDigits_small h1]; omega
  · rw [Lib.nDigits, dif_neg h1]
    have := ih (u / 10) (by rw [Nat.pow_succ] at h; omega)
    omega
theorem Qd.D_size (u : Nat) (h : u ≤ 9223372036854775808) : (Qd.D u).size ≤ 19 := by
 show (Lib.decDigits u).toArray.size ≤ 19
 rw [List.size_toArray, Lib.decDigits_length]
 exact Qd.nDigits_le 18 u (by omega)
theorem Qd.add_at (g j : Nat) : (⟨g, 0, none⟩ : Addr).add j = ⟨g, j, none⟩ := by unfold Addr.add; split <;> simp_all
theorem Qd.conv1 (d : Nat) (hd : d < 10) (w : World) (v : Int) (hv : v = 48 + (d : Int)) :
  (convert 70 9 (.slice (some ⟨w.heap.size, 0, none⟩) 1 1)).run Tryz.prog (w.alloc (.cells #[.int .u8 v] 5)) = .ok (.string (Qd.D d)) (w.alloc (.cells #[.int .u8 v] 5)) := by
 unfold Qd.D
 rw [Lib.decDigits_one hd]
 exact run_convert_bytes_back _ 70 9 5 ⟨w.heap.size, 0, none⟩ 1 [UInt8.ofNat (48 + d)] Tryz.underlying70 Tryz.underlying5 Tryz.underlying9 (fun j hj => by
  have : j = 0 := by simp at hj; exact hj
  subst this
  subst hv
  rw [Qd.add_at]
  simp
  omega)
theorem Digits_nat : ∀ (u : Nat) (w : World), u ≤ 9223372036854775807 →
  Calls Tryz.prog 41 #[.int .i64 (u : Nat)] w fun e w' => e = .returned (.string (Qd.D u)) ∧ Below w.heap.size w w' := by
 intro u
 induction u using Nat.strongRecOn with
 | _ u ih =>
  intro w hu
  have hn : ¬ (u : Int) < 0 := by omega
  by_cases h1 : u < 10
  · have h2 : (u : Int) < 10 := by omega
    have hcv := Qd.conv1 u h1 w (48 + (u : Int)) rfl
    go_enter Tryz.func41, Tryz.ntmps41
    go_wp2_with fail
    go_ret
    exact ⟨rfl, (Below.refl _ _).alloc (Nat.le_refl _) _⟩
  · have h2 : ¬ (u : Int) < 10 := by omega
    have HD := hide (fun (W : World) => ih (u / 10) (by omega) W (by omega))
    have HM := hide (fun (W : World) => ih (u % 10) (by omega) W (by omega))
    have HS := hide (Qd.D_step h1)
    have s1 := Qd.D_size (u / 10) (by omega)
    have s2 := Qd.D_size (u % 10) (by omega)
    clear ih
    go_enter Tryz.func41, Tryz.ntmps41
    go_wp2_with fail
    refine ((unhide HD) _).mono ?_
    rintro e w1 ⟨rfl, hb1⟩
    have HB1 := hide hb1
    clear hb1
    go_wp2_with fail
    refine ((unhide HM) _).mono ?_
    rintro e w2 ⟨rfl, hb2⟩
    have HB2 := hide ((unhide HB1).trans (hb2.mono (unhide HB1).size))
    clear hb2
    go_wp2_with fail
    go_ret
    exact ⟨by rw [unhide HS]; rfl, unhide HB2⟩
theorem Qd.neg_div (u : Nat) : Int.tdiv (-(u : Int)) 10 = -((u / 10 : Nat) : Int) := by rw [Int.neg_tdiv, Int.tdiv_eq_ediv_of_nonneg (by omega)]; omega
theorem Qd.neg_mod (u : Nat) : Int.tmod (-(u : Int)) 10 = -((u % 10 : Nat) : Int) := by rw [Int.neg_tmod, Int.tmod_eq_emod_of_nonneg (by omega)]; omega
theorem Digits_neg (u : Nat) (w : World) (h0 : 1 ≤ u) (hu : u ≤ 9223372036854775807) :
  Calls Tryz.prog 41 #[.int .i64 (-(u : Int))] w fun e w' => e = .returned (.string (⟨#[45]⟩ ++ Qd.D u)) ∧ Below w.heap.size w w' := by
 have hn : -(u : Int) < 0 := by omega
 by_cases h1 : u < 10
 · have h2 : -(u : Int) > -10 := by omega
   have HD := hide (fun (W : World) => Digits_nat u W (by omega))
   have s1 := Qd.D_size u (by omega)
   go_enter Tryz.func41, Tryz.ntmps41
   go_wp2_with fail
   refine ((unhide HD) _).mono ?_
   rintro e w1 ⟨rfl, hb1⟩
   have HB1 := hide hb1
   clear hb1
   go_wp2_with fail
   go_ret
   exact ⟨rfl, unhide HB1⟩
 · have h2 : ¬ -(u : Int) > -10 := by omega
   have HD := hide (fun (W : World) => Digits_nat (u / 10) W (by omega))
   have HM := hide (fun (W : World) => Digits_nat (u % 10) W (by omega))
   have HS := hide (Qd.D_step h1)
   have s1 := Qd.D_size (u / 10) (by omega)
   have s2 := Qd.D_size (u % 10) (by omega)
   have e1 := Qd.neg_div u
   have e2 := Qd.neg_mod u
   go_enter Tryz.func41, Tryz.ntmps41
   go_wp2_with fail
   refine ((unhide HD) _).mono ?_
   rintro e w1 ⟨rfl, hb1⟩
   have HB1 := hide hb1
   clear hb1
   go_wp2_with fail
   refine ((unhide HM) _).mono ?_
   rintro e w2 ⟨rfl, hb2⟩
   have HB2 := hide ((unhide HB1).trans (hb2.mono (unhide HB1).size))
   clear hb2
   go_wp2_with fail
   go_ret
   exact ⟨by rw [← unhide HS, ByteArray.append_assoc]; rfl, unhide HB2⟩
end Go.Proofs.YtfccpddehpgfoaaGreatDoor
namespace Go.Proofs.YtfccpddehpgfoaaGreatDoor
open Go.RowKit
set_option linter.unusedVariables false
def Qd.nm : String := Rows.showShowsRow.named.headD default
def Qd.tab (W : World) : Prop := Lib.TabIs Tryz.prog W Qd.nm .u64 Lib.pow10Tab
theorem Qd.tab_later {W W' : World} (h : Qd.tab W) (hb : Below W.heap.size W W') : Qd.tab W' := by
 unfold Qd.tab Lib.TabIs World.var? at h ⊢
 cases hg : Tryz.prog.globalNamed Qd.nm with
 | none => rw [hg] at h; cases h
 | some g =>
  rw [hg] at h
  simp only [Option.bind_some] at h ⊢
  have hlt : g < W.heap.size := by
   rcases Nat.lt_or_ge g W.heap.size with h' | h'
   · exact h'
   · rw [Array.getElem?_eq_none h'] at h; cases h
  rw [hb.block g hlt]
  exact h
theorem Qd.grown (w : World) (q : Nat) (os : Array Obj) : Below w.heap.size w (Sort.grow (w.drewN q) os) :=
 ⟨rfl, rfl, rfl, by simp [Sort.grow], fun i hi => by
  show ((w.drewN q).heap ++ os)[i]? = _
  rw [Array.getElem?_append_left (by show i < w.heap.size; omega)]
  rfl⟩
theorem Itoa_is (n : Int) (h0 : -9223372036854775808 ≤ n) (h1 : n ≤ 9223372036854775807) (w : World) (htab : Qd.tab w) :
  Calls Tryz.prog 163 #[.int .i64 n] w fun e w' => e = .returned (.string ⟨(Lib.itoa n).toArray⟩) ∧ ∃ k os, w' = Sort.grow (w.drewN k) os := Any.strconv_Itoa Tryz.laysItoa n h0 h1 w htab
theorem Itoa_any (n : Int) (h0 : -9223372036854775808 ≤ n) (h1 : n ≤ 9223372036854775807) (w : World) (htab : Qd.tab w) :
  Calls Tryz.prog 163 #[.int .i64 n] w fun e w' => e = .returned (.string ⟨(Lib.itoa n).toArray⟩) ∧ Below w.heap.size w w' :=
 (Itoa_is n h0 h1 w htab).mono fun e w' ⟨he, k, os, hw⟩ => ⟨he, by rw [hw]; exact Qd.grown w k os⟩
def Qd.num (n : Int) : ByteArray := ⟨(Lib.itoa n).toArray⟩
theorem Qd.num_nat (u : Nat) : Qd.num (u : Int) = Qd.D u := by unfold Qd.num Qd.D; rw [Lib.itoa_nonneg]
theorem Qd.num_neg (u : Nat) (h : 1 ≤ u) : Qd.num (-(u : Int)) = ⟨#[45]⟩ ++ Qd.D u := by
 unfold Qd.num Qd.D
 rw [Lib.itoa_neg u h]
 apply ByteArray.ext
 simp
theorem Qd.num_size (n : Int) (h : -9223372036854775807 ≤ n) (h1 : n ≤ 9223372036854775807) : (Qd.num n).size ≤ 20 := by
 rcases (show n < 0 ∨ 0 ≤ n by omega) with h2 | h2
 · obtain ⟨u, rfl⟩ : ∃ u : Nat, n = -(u : Int) := ⟨n.natAbs, by omega⟩
   rw [Qd.num_neg u (by omega), ByteArray.size_append]
   have := Qd.D_size u (by omega)
   have e : (⟨#[45]⟩ : ByteArray).size = 1 := rfl
   omega
 · obtain ⟨u, rfl⟩ : ∃ u : Nat, n = (u : Int) := ⟨n.toNat, by omega⟩
   rw [Qd.num_nat]
   have := Qd.D_size u (by omega)
   omega
theorem Digits_any (n : Int) (h : -9223372036854775807 ≤ n) (h1 : n ≤ 9223372036854775807) (w : World) :
  Calls Tryz.prog 41 #[.int .i64 n] w fun e w' => e = .returned (.string (Qd.num n)) ∧ Below w.heap.size w w' := by
 rcases (show n < 0 ∨ 0 ≤ n by omega) with h2 | h2
 · obtain ⟨u, rfl⟩ : ∃ u : Nat, n = -(u : Int) := ⟨n.natAbs, by omega⟩
   rw [Qd.num_neg u (by omega)]
   exact Digits_neg u w (by omega) (by omega)
 · obtain ⟨u, rfl⟩ : ∃ u : Nat, n = (u : Int) := ⟨n.toNat, by omega⟩
   rw [Qd.num_nat]
   exact Digits_nat u w (by omega)
end Go.Proofs.YtfccpddehpgfoaaGreatDoor
namespace Go.Proofs.YtfccpddehpgfoaaGreatDoor
open Go.RowKit
set_option linter.unusedVariables false
theorem Qd.dat : (Rows.laid_internal_strconv_uint64pow10 : DataW Unit) = Lib.tabData .u64 Lib.pow10Tab := by kernel_rfl
theorem Qd.gnum : Tryz.prog.globalNamed Qd.nm = some 1 := by kernel_rfl
theorem Qd.gtype : (Tryz.prog.globals[1]?).map (·.type) = some 242 := by kernel_rfl
theorem Qd.c20 : Tryz.prog.cellsOf 242 = 20 := by kernel_rfl
theorem Qd.c1 : Tryz.prog.cellsOf 224 = 1 := by kernel_rfl
theorem Qd.tab_of {W : World} (h : laidMetH Tryz.prog Rows.showShowsRow.laid W) : Qd.tab W := by
 rw [MakeChecks.laidMetH_plain _ _ _ (by kernel_rfl)] at h
 obtain ⟨ps, ⟨g0, t0, cs0, f0, p0, q0, _, _, _, _, ⟨g1, t1, cs1, f1, p1, q1, _, _, _, _, ⟨g2, t2, cs2, f2, p2, q2, hg2, ht2, hv2, hd2, _, _⟩, _⟩, _⟩, _, _⟩ := h
 obtain rfl := Option.some.inj (Qd.gnum.symm.trans hg2)
 obtain rfl := Option.some.inj (Qd.gtype.symm.trans ht2)
 rw [Qd.dat] at hd2
 have hc := Lib.cells_of_tab Tryz.underlying242 Tryz.underlying224 Qd.c1 Qd.c20 hd2
 have hv : W.var? Tryz.prog Qd.nm = some cs2 := hv2
 unfold Qd.tab Lib.TabIs
 rw [hv, ← hc]
end Go.Proofs.YtfccpddehpgfoaaGreatDoor
