/-
  The contract of the document's own NaturalAt. By the verifier.
-/
import Derived.Test.YtpekejebimkleaaCDecLem
namespace Go.Proofs.Ytpekejebimkleaa
open Go.RowKit
set_option linter.unusedVariables false

/-- What NaturalAt answers. -/
def Cl.natAt (bs : List Nat) (a : Nat) (e : Ending) : Prop :=
  match Cl.natG 6 true (bs.drop a) with
  | some x => ∃ u : Nat, e = .returned (.tuple #[.int .i64 (x.1 : Nat), .int .i64 ((a + u : Nat) : Int), .bool true]) ∧ x.2 = bs.drop (a + u) ∧ a + u ≤ bs.length
  | none => ∃ p q : Int, e = .returned (.tuple #[.int .i64 p, .int .i64 q, .bool false])

theorem Cl.str_get (bs : List Nat) (hb : ∀ b ∈ bs, b < 256) (i b : Nat) (h : bs[i]? = some b) (hi : i < (Cl.str bs).size) : (((Cl.str bs)[i]'hi).toNat : Nat) = b := by
  have hlt := (List.getElem?_eq_some_iff.1 h).1
  have hx : bs[i] = b := (List.getElem?_eq_some_iff.1 h).2
  have hbb := hb b (List.mem_of_getElem? h)
  show ((bs.map UInt8.ofNat).toArray[i]'(by simpa using hlt)).toNat = b
  simp [hx]
  omega

theorem Cl.wrap_lo (V t T : Nat) (ht : t < 256) (hT : T ≤ 34359738368) (hV : V < T) : wrap64 ((V : Int) + wrap64 ((t : Int) * (T : Int))) = ((V + t * T : Nat) : Int) := by
  have h : t * T ≤ 255 * 34359738368 := Nat.mul_le_mul (by omega) hT
  have e : (t : Int) * (T : Int) = ((t * T : Nat) : Int) := by simp
  rw [e]
  generalize t * T = X at *
  unfold wrap64
  omega
theorem Cl.wrap_hi (V t T : Nat) (h1 : 128 ≤ t) (ht : t < 256) (hT : T ≤ 34359738368) (hV : V < T) : wrap64 ((V : Int) + wrap64 (((t : Int) - 128) * (T : Int))) = ((V + t % 128 * T : Nat) : Int) := by
  have e0 : (t : Int) - 128 = ((t % 128 : Nat) : Int) := by omega
  rw [e0]
  exact Cl.wrap_lo V (t % 128) T (by omega) hT hV

theorem Cl.natAt_ok {bs : List Nat} {a j X : Nat} (hg : Cl.natG 6 true (bs.drop a) = some (X, (bs.drop a).drop (j + 1))) (he : a + j + 1 ≤ bs.length) (x : Int) (hx : x = (X : Nat)) : Cl.natAt bs a (.returned (.tuple #[.int .i64 x, .int .i64 ((a : Int) + (j : Int) + 1), .bool true])) := by
  unfold Cl.natAt
  rw [hg]
  refine ⟨j + 1, ?_, ?_, by omega⟩
  · rw [hx, show ((a + (j + 1) : Nat) : Int) = (a : Int) + (j : Int) + 1 by omega]
  · show (bs.drop a).drop (j + 1) = _
    rw [List.drop_drop]
theorem Cl.natAt_no {bs : List Nat} {a : Nat} (hg : Cl.natG 6 true (bs.drop a) = none) (p q : Int) : Cl.natAt bs a (.returned (.tuple #[.int .i64 p, .int .i64 q, .bool false])) := by
  unfold Cl.natAt
  rw [hg]
  exact ⟨p, q, rfl⟩

set_option maxRecDepth 100000 in
set_option maxHeartbeats 1600000 in
theorem NaturalAt_any (bs : List Nat) (a : Nat) (w : World) (hl : bs.length ≤ 140737488351232) (ha : a ≤ bs.length) (hb : ∀ b ∈ bs, b < 256) :
    Calls Try.prog 54 #[.string (Cl.str bs), .int .i64 (a : Nat)] w fun e w' => Cl.natAt bs a e ∧ Below w.heap.size w w' := by
  have HB := hide hb
  have hsz := Cl.str_size bs
  clear hb
  go_enter Try.func54, Try.ntmps54
  go_wp2_with fail
  go_loop [7, 8, 9, 10] (fun nv tv v bv => ∃ j : Nat, j ≤ 6 ∧ a + j ≤ bs.length ∧ v = .int .i64 ((a + j : Nat) : Int) ∧ nv = .int .i64 (Cl.valTo (bs.drop a) j : Nat) ∧ tv = .int .i64 ((128 ^ j : Nat) : Int) ∧ (∀ (i b : Nat), i < j → (bs.drop a)[i]? = some b → 128 ≤ b)) (fun _ _ v _ => bs.length + 7 - (intOf v).toNat)
  case atStart => exact ⟨0, by omega, by omega, rfl, by cases bs.drop a <;> rfl, rfl, fun i b h => by omega⟩
  case round =>
    obtain ⟨j, hj6, hjl, rfl, rfl, rfl, hall⟩ := hrel
    have HALL := hide hall
    have hvl := Cl.valTo_lt (bs.drop a) j
    clear hall
    by_cases hlt : j < 6 ∧ a + j < bs.length
    · obtain ⟨hj, hjb⟩ := hlt
      obtain ⟨t, ht⟩ : ∃ t, bs[a + j]? = some t := ⟨_, List.getElem?_eq_getElem hjb⟩
      have htb := (unhide HB) t (List.mem_of_getElem? ht)
      have htd : (bs.drop a)[j]? = some t := by rw [List.getElem?_drop]; exact ht
      have hsg := Cl.str_get bs (unhide HB) (a + j) t ht (by rw [hsz]; exact hjb)
      have HST := hide (Cl.valTo_step (bs.drop a) j t htd)
      have HTD := hide htd
      have hi1 : (0 : Int) ≤ ((a + j : Nat) : Int) := by omega
      have hi2 : ((a + j : Nat) : Int) < (bs.length : Int) := by omega
      have hi3 : ((a + j : Nat) : Int) < (a : Int) + 6 := by omega
      have hp5 : 128 ^ j ≤ 128 ^ 5 := Nat.pow_le_pow_right (by omega) (by omega)
      have e5 : (128 : Nat) ^ 5 = 34359738368 := by decide
      rw [e5] at hp5
      have HPS := hide (Nat.pow_succ (n := 128) (m := j))
      have HDB := hide (show ∀ b ∈ bs.drop a, b < 256 from fun b hh => (unhide HB) b (List.mem_of_mem_drop hh))
      clear ht htd e5
      generalize hV : Cl.valTo (bs.drop a) j = V at *
      generalize hT : 128 ^ j = T at *
      by_cases h128 : t < 128
      · have HGS := hide (Cl.natG_some 6 j true (bs.drop a) t hj (unhide HALL) (unhide HTD) h128 (unhide HDB))
        have hmod : t % 128 = t := by omega
        have HVN := hide (show Cl.valTo (bs.drop a) (j + 1) = V + t * T by rw [unhide HST, hmod])
        have HWL := hide (Cl.wrap_lo V t T htb hp5 hvl)
        have hti : (t : Int) < 128 := by omega
        by_cases h0 : 0 < t
        · have h0i : (0 : Int) < (t : Int) := by omega
          go_wp2_with fail
          exact bodyPost_ret (v := .tuple #[.int .i64 (wrap64 ((V : Int) + wrap64 ((t : Int) * (T : Int)))), .int .i64 ((a : Int) + (j : Int) + 1), .bool true]) (by simp [results, Try.results54, go_sem]) rfl ⟨Cl.natAt_ok (by rw [unhide HGS, if_neg (by omega)]) (by omega) _ (by rw [unhide HWL, unhide HVN]), Below.refl _ _⟩
        · have ht0 : t = 0 := by omega
          subst ht0
          by_cases hj0 : j = 0
          · have hjn : ((a : Int) + (j : Int) == (a : Int)) = true := by rw [beq_iff_eq]; omega
            have HJ0 := hide hj0
            clear hj0
            go_wp2_with fail
            exact bodyPost_ret (v := .tuple #[.int .i64 (V : Nat), .int .i64 ((a : Int) + (j : Int) + 1), .bool true]) (by simp [results, Try.results54, go_sem]) rfl ⟨Cl.natAt_ok (by rw [unhide HGS, if_neg (by have := unhide HJ0; rintro ⟨_, h | h⟩; omega; cases h)]) (by omega) _ (by rw [unhide HVN]; simp), Below.refl _ _⟩
          · have hjn : ((a : Int) + (j : Int) == (a : Int)) = false := by rw [beq_eq_false_iff_ne]; omega
            have HJ0 := hide hj0
            clear hj0
            go_wp2_with fail
            exact bodyPost_ret (v := .tuple #[.int .i64 (V : Nat), .int .i64 ((a : Int) + (j : Int) + 1), .bool false]) (by simp [results, Try.results54, go_sem]) rfl ⟨Cl.natAt_no (by rw [unhide HGS, if_pos (by have := unhide HJ0; exact ⟨by omega, Or.inl (by omega)⟩)]) _ _, Below.refl _ _⟩
      · have hti : ¬ (t : Int) < 128 := by omega
        have HWH := hide (Cl.wrap_hi V t T (by omega) htb hp5 hvl)
        go_wp2_with fail
        refine ⟨⟨j + 1, by omega, by omega, congrArg (Value.int .i64) (by omega), by rw [unhide HWH, unhide HST], congrArg (Value.int .i64) (by have := unhide HPS; omega), ?_⟩, by simp [intOf]; omega⟩
        intro i b hi hib
        by_cases hij : i = j
        · subst hij
          have := unhide HTD
          rw [this] at hib
          cases hib
          omega
        · exact (unhide HALL) i b (by omega) hib
    · have HGN := hide (Cl.natG_none 6 true (bs.drop a) (fun i b hi hib => (unhide HALL) i b (by
        have := (List.getElem?_eq_some_iff.1 hib).1
        rw [List.length_drop] at this
        omega) hib))
      by_cases h2 : a + j < bs.length
      · have hj6' : j = 6 := by omega
        subst hj6'
        have hi2 : ((a + 6 : Nat) : Int) < (bs.length : Int) := by omega
        go_wp2_with fail
        exact bodyPost_ret (v := .tuple #[.int .i64 0, .int .i64 0, .bool false]) (by simp [results, Try.results54, go_sem]) rfl ⟨Cl.natAt_no (unhide HGN) _ _, Below.refl _ _⟩
      · have hi2 : ¬ ((a + j : Nat) : Int) < (bs.length : Int) := by omega
        go_wp2_with fail
        exact bodyPost_ret (v := .tuple #[.int .i64 0, .int .i64 0, .bool false]) (by simp [results, Try.results54, go_sem]) rfl ⟨Cl.natAt_no (unhide HGN) _ _, Below.refl _ _⟩
end Go.Proofs.Ytpekejebimkleaa
