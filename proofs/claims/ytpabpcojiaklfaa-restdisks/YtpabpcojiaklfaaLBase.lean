/-
  Batches: sectors as lists of bytes. By the verifier.
-/
import Derived.Test.YtpabpcojiaklfaaCBack
namespace Go.Proofs.Ytpabpcojiaklfaa
open Go.RowKit
set_option linter.unusedVariables false

/-- A number's four bytes, the least first; and the number that four bytes tell. -/
def Lg.le4 (n : Int) : List Nat := [(n % 256).toNat, (n / 256 % 256).toNat, (n / 65536 % 256).toNat, (n / 16777216 % 256).toNat]
def Lg.sg (u : Nat) : Int := if u < 2147483648 then (u : Int) else (u : Int) - 4294967296
def Lg.num (bs : List Nat) : Int := Lg.sg (bs.getD 0 0 + bs.getD 1 0 * 256 + bs.getD 2 0 * 65536 + bs.getD 3 0 * 16777216)
theorem Lg.num_le4 (n : Int) (h1 : -2147483648 ≤ n) (h2 : n ≤ 2147483647) (r : List Nat) : Lg.num (Lg.le4 n ++ r) = n := by
  unfold Lg.num Lg.le4 Lg.sg
  simp only [List.cons_append, List.getD_cons_zero, List.getD_cons_succ]
  split <;> omega

/-- The sum of a number's first bytes. -/
def Lg.part (bs : List Nat) : Nat → Nat
  | 0 => 0
  | k + 1 => Lg.part bs k + bs.getD k 0 * 256 ^ k

theorem Lg.pow256 (k : Nat) : (256 : Nat) ^ k = 2 ^ (8 * k) := by rw [show (256 : Nat) = 2 ^ 8 from rfl, ← Nat.pow_mul]
theorem Lg.or_i32 (V b k : Nat) (hk : k ≤ 3) (hV : V < 256 ^ k) (hb : b < 256) : bits .or .i32 (V : Int) (wrap32 ((b : Int) * 2 ^ (8 * k))) = Lg.sg (V + b * 256 ^ k) := by
  rw [Lg.pow256] at hV ⊢
  have hle : 2 ^ (8 * k) ≤ 2 ^ 24 := Nat.pow_le_pow_right (by omega) (by omega)
  have hm : b * 2 ^ (8 * k) ≤ 255 * 2 ^ 24 := Nat.mul_le_mul (by omega) hle
  have e : (b : Int) * 2 ^ (8 * k) = ((b * 2 ^ (8 * k) : Nat) : Int) := by simp
  rw [e]
  have h1 : (BitVec.ofInt 32 (V : Int)).toNat = V := by
    rw [BitVec.ofInt_natCast, BitVec.toNat_ofNat]
    exact Nat.mod_eq_of_lt (by omega)
  have h2 : (BitVec.ofInt 32 (wrap32 ((b * 2 ^ (8 * k) : Nat) : Int))).toNat = b * 2 ^ (8 * k) := by
    rw [BitVec.toNat_ofInt]
    generalize b * 2 ^ (8 * k) = X at *
    unfold wrap32
    omega
  have h3 : V ||| b * 2 ^ (8 * k) = V + b * 2 ^ (8 * k) := by
    rw [Nat.or_comm, Nat.mul_comm b, ← Nat.two_pow_add_eq_or_of_lt hV b]
    omega
  show IntKind.i32.wrap ((BitVec.ofInt 32 (V : Int) ||| BitVec.ofInt 32 (wrap32 ((b * 2 ^ (8 * k) : Nat) : Int))).toNat : Int) = _
  rw [BitVec.toNat_or, h1, h2, h3, IntKind.wrap_i32]
  have hV2 : V < 2 ^ 24 := by omega
  generalize b * 2 ^ (8 * k) = X at *
  unfold Lg.sg
  split <;> omega

theorem Lg.getD_lt (bs : List Nat) (hb : ∀ b ∈ bs, b < 256) (k : Nat) : bs.getD k 0 < 256 := by
  by_cases h : k < bs.length
  · rw [List.getD_eq_getElem?_getD, List.getElem?_eq_getElem h]
    exact hb _ (List.getElem_mem h)
  · rw [List.getD_eq_getElem?_getD, List.getElem?_eq_none (by omega)]
    decide
theorem Lg.part_lt (bs : List Nat) (hb : ∀ b ∈ bs, b < 256) : ∀ k, Lg.part bs k < 256 ^ k
  | 0 => by simp [Lg.part]
  | k + 1 => by
    have h1 := Lg.part_lt bs hb k
    have h2 : bs.getD k 0 * 256 ^ k ≤ 255 * 256 ^ k := Nat.mul_le_mul_right _ (by have := Lg.getD_lt bs hb k; omega)
    show Lg.part bs k + bs.getD k 0 * 256 ^ k < 256 ^ (k + 1)
    rw [Nat.pow_succ]
    omega
theorem Lg.sg_part (bs : List Nat) (hb : ∀ b ∈ bs, b < 256) (k : Nat) (hk : k ≤ 3) : Lg.sg (Lg.part bs k) = (Lg.part bs k : Nat) := by
  have h1 := Lg.part_lt bs hb k
  have h2 : (256 : Nat) ^ k ≤ 256 ^ 3 := Nat.pow_le_pow_right (by omega) hk
  unfold Lg.sg
  rw [if_pos (by omega)]
theorem Lg.num_part (bs : List Nat) : Lg.num bs = Lg.sg (Lg.part bs 4) := by
  unfold Lg.num Lg.part Lg.part Lg.part Lg.part Lg.part
  simp
theorem Lg.sg_in (u : Nat) (h : u < 4294967296) : -2147483648 ≤ Lg.sg u ∧ Lg.sg u ≤ 2147483647 := by
  unfold Lg.sg
  split <;> omega

set_option maxRecDepth 100000 in
set_option maxHeartbeats 800000 in
theorem lnumber_any (bs : List Nat) (w : World) (hl : 4 ≤ bs.length) (hl2 : bs.length ≤ maxLen) (hb : ∀ b ∈ bs, b < 256) :
    Calls Try.prog 88 #[.string (Cl.str bs)] w fun e w' => e = .returned (.int .i64 (Lg.num bs)) ∧ w' = w := by
  have HB := hide hb
  have hsz := Cl.str_size bs
  clear hb
  rw [Lg.num_part]
  go_enter Try.func88, Try.ntmps88
  go_wp2_with fail
  go_loop [3, 4, 5] (fun nv iv v => ∃ k : Nat, k ≤ 4 ∧ v = .int .i64 (k : Nat) ∧ nv = .int .i32 (Lg.sg (Lg.part bs k))) (fun _ _ v => 4 - (intOf v).toNat)
  case atStart => exact ⟨0, by omega, rfl, rfl⟩
  case round =>
    obtain ⟨k, hk, rfl, rfl⟩ := hrel
    by_cases hlt : k < 4
    · obtain ⟨t, ht⟩ : ∃ t, bs[k]? = some t := ⟨bs[k]'(by omega), List.getElem?_eq_getElem (by omega)⟩
      have htb := (unhide HB) t (List.mem_of_getElem? ht)
      have hk1 : (0 : Int) ≤ (k : Int) := by omega
      have hk2 : (k : Int) < 4 := by omega
      have hk3 : (k : Int) < (bs.length : Int) := by omega
      have hgx : (((Cl.str bs)[k]'(by rw [hsz]; omega)).toNat : Nat) = t := by
        have hlt' : k < bs.length := by omega
        have hx : bs[k] = t := (List.getElem?_eq_some_iff.1 ht).2
        show ((bs.map UInt8.ofNat).toArray[k]'(by simpa using hlt')).toNat = t
        simp [hx]
        omega
      have HT := hide ht
      clear ht
      have HSG := hide (Lg.sg_part bs (unhide HB) k (by omega))
      have HPL := hide (Lg.part_lt bs (unhide HB) k)
      have HGD := hide (show bs.getD k 0 = t by rw [List.getD_eq_getElem?_getD, unhide HT]; rfl)
      go_wp2_with fail
      exact ⟨⟨k + 1, by omega, by go_num, by rw [unhide HSG, Lg.or_i32 _ t k (by omega) (unhide HPL) htb]; show _ = Value.int _ (Lg.sg (Lg.part bs k + bs.getD k 0 * 256 ^ k)); rw [unhide HGD]⟩, by simp [intOf]; omega⟩
    · have hk2 : ¬ (k : Int) < 4 := by omega
      have hk4 : k = 4 := by omega
      subst hk4
      have hsi := Lg.sg_in (Lg.part bs 4) (by have := Lg.part_lt bs (unhide HB) 4; have e : (256 : Nat) ^ 4 = 4294967296 := by decide
                                              omega)
      go_wp2_with fail
      go_ret
      exact ⟨ret_int (by first | rfl | (unfold wrap64; omega)), rfl⟩
end Go.Proofs.Ytpabpcojiaklfaa
