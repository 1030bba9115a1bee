/-
  Number of the document's Reader. By the verifier.
-/
import Derived.Test.YtfhlnelgnnkeoaaGreatDoorQU1
namespace Go.Proofs.YtfhlnelgnnkeoaaGreatDoor
open Go.RowKit
set_option linter.unusedVariables false

/-- The number that is read, where it is then, whether it has failed. -/
def Qp.rnum (l : List Qp.T) (i : Nat) (f : Bool) : Int × Nat × Bool := if f then (0, i, true) else match Qp.dig l i with | .error _ => (0, i, true) | .ok (v, j) => (v, j, false)
theorem Qp.empty_eq : (⟨#[]⟩ : ByteArray).toList = [] := by rw [ByteArray.toList_eq]

set_option maxRecDepth 100000 in
set_option maxHeartbeats 800000 in
theorem Number_no (l : List Qp.T) (ta : Option Addr) (c bp i : Nat) (e : Int) (f : Bool) (w : World) (hp : Qp.Rd w bp ta l.length c (i : Nat) e f) (hr : Qp.RT w ta l) (hf : l.length ≤ 10000) (hi : i ≤ 10000) (h : (Qp.rt l i f).size = 0 ∨ ∃ hs : 0 < (Qp.rt l i f).size, Tk.isD ((Qp.rt l i f)[0].toNat : Int) = false) :
    Calls Tryz.prog 49 #[.pointer (some ⟨bp, 0, none⟩)] w fun r w' => r = .returned (.int .i64 0) ∧ Qp.Rd w' bp ta l.length c (i : Nat) e true ∧ Qk.But1 bp w.heap.size w w' := by
  have HT := hide (Text_any l ta c bp i e f w hp hr hf hi)
  have HP := hide hp
  have hlt := hp.lt
  clear hp hr
  generalize Qp.rt l i f = t at *
  rcases h with h | ⟨hs, hd⟩
  · have h0 : (t.toList == (⟨#[]⟩ : ByteArray).toList) = true := by
      rw [ByteArray.toList_eq, ByteArray.toList_eq]
      have : t.data.toList = [] := List.length_eq_zero_iff.1 (by rw [← Lib.size_eq]; exact h)
      rw [this]
      rfl
    have h1 : t.toList = [] := by simpa [Qp.empty_eq] using h0
    go_enter Tryz.func49, Tryz.ntmps49
    go_wp2_with fail
    refine (unhide HT).mono ?_
    rintro r w1 ⟨rfl, hb1⟩
    have HP1 := hide ((unhide HP).below hb1)
    have HB1 := hide ((Qk.But1.refl bp w.heap.size w).below hb1)
    clear hb1
    obtain ⟨c0, c1, c2, c3, f1, f3⟩ := unhide HP1
    have hlt1 := (unhide HP1).lt
    go_wp2_with fail
    go_ret
    exact ⟨rfl, (unhide HP1).fail, (unhide HB1).set (o := 3) _⟩
  · have h0 : (t.toList == (⟨#[]⟩ : ByteArray).toList) = false := by
      rw [ByteArray.toList_eq, ByteArray.toList_eq]
      cases hL : t.data.toList with
      | nil => rw [Lib.size_eq, hL] at hs; cases hs
      | cons a r => rfl
    have h1 : t.toList ≠ [] := by intro hh; rw [hh, Qp.empty_eq] at h0; cases h0
    have hs1 : (0 : Int) < (t.size : Int) := by omega
    generalize hx : t[0] = x at hd
    have hx1 : t[0]? = some x := by rw [← hx]; exact getElem?_pos t 0 hs
    have HD := hide (fun (W : World) => show Calls Tryz.prog 63 #[.int .u8 (x.toNat : Int)] W fun e w' => e = .returned (.bool false) ∧ w' = W by
      have := refDigit_any (x.toNat : Int) W (by omega) (by have := x.toNat_lt; omega)
      rw [hd] at this
      exact this)
    clear hd
    go_enter Tryz.func49, Tryz.ntmps49
    go_wp2_with fail
    refine (unhide HT).mono ?_
    rintro r w1 ⟨rfl, hb1⟩
    have HP1 := hide ((unhide HP).below hb1)
    have HB1 := hide ((Qk.But1.refl bp w.heap.size w).below hb1)
    clear hb1
    obtain ⟨c0, c1, c2, c3, f1, f3⟩ := unhide HP1
    have hlt1 := (unhide HP1).lt
    go_wp2_with fail
    refine ((unhide HD) _).mono ?_
    rintro r w2 ⟨rfl, hw2⟩
    obtain rfl : w1 = w2 := hw2.symm
    go_wp2_with fail
    go_ret
    exact ⟨rfl, (unhide HP1).fail, (unhide HB1).set (o := 3) _⟩

set_option maxRecDepth 100000 in
set_option maxHeartbeats 800000 in
theorem Number_yes (l : List Qp.T) (ta : Option Addr) (c bp i : Nat) (e : Int) (w : World) (hp : Qp.Rd w bp ta l.length c (i : Nat) e false) (hr : Qp.RT w ta l) (hf : l.length ≤ 10000) (hi : i ≤ 10000) (t : ByteArray) (ht : Qp.rt l i false = t) (n : Nat) (hn : Lib.decFrom 0 t.data.toList = some n) (h7 : t.size ≤ 7) (hs : 0 < t.size) :
    Calls Tryz.prog 49 #[.pointer (some ⟨bp, 0, none⟩)] w fun r w' => r = .returned (.int .i64 (n : Nat)) ∧ Qp.Rd w' bp ta l.length c ((i + 1 : Nat) : Int) e false ∧ Qk.But1 bp w.heap.size w w' := by
  have HT := hide (show Calls Tryz.prog 47 #[.pointer (some ⟨bp, 0, none⟩), .int .i64 0] w fun r w' => r = .returned (.string t) ∧ Below w.heap.size w w' by
    have := Text_any l ta c bp i e false w hp hr hf hi
    rw [ht] at this
    exact this)
  have HP := hide hp
  have hlt := hp.lt
  clear hp hr ht
  have h0 : (t.toList == (⟨#[]⟩ : ByteArray).toList) = false := by
    rw [ByteArray.toList_eq, ByteArray.toList_eq]
    cases hL : t.data.toList with
    | nil => rw [Lib.size_eq, hL] at hs; cases hs
    | cons a r => rfl
  have h1 : t.toList ≠ [] := by intro hh; rw [hh, Qp.empty_eq] at h0; cases h0
  have h2 : t.toList.isEmpty = false := by simpa using h1
  have hs1 : (0 : Int) < (t.size : Int) := by omega
  have hdig : ∀ (k : Nat) (hk : k < t.size), 48 ≤ t[k].toNat ∧ t[k].toNat ≤ 57 := fun k hk => by
    obtain ⟨d, hd⟩ := Lib.digit_of_decFrom _ 0 n hn k t[k] (by rw [List.getElem?_eq_getElem (by rw [← Lib.size_eq]; exact hk)]; rfl)
    have := Lib.digitVal_eq hd
    omega
  have HG := hide hdig
  have HD := hide (fun (W : World) => show Calls Tryz.prog 63 #[.int .u8 (t[0].toNat : Int)] W fun e w' => e = .returned (.bool true) ∧ w' = W by
    have h2 := hdig 0 hs
    have := refDigit_any (t[0].toNat : Int) W (by omega) (by omega)
    rw [show Tk.isD (t[0].toNat : Int) = true by unfold Tk.isD; simp; omega] at this
    exact this)
  have HN := hide hn
  clear hn hdig
  go_enter Tryz.func49, Tryz.ntmps49
  go_wp2_with fail
  refine (unhide HT).mono ?_
  rintro r w1 ⟨rfl, hb1⟩
  have HP1 := hide ((unhide HP).below hb1)
  have HB1 := hide ((Qk.But1.refl bp w.heap.size w).below hb1)
  clear hb1
  obtain ⟨c0, c1, c2, c3, f1, f3⟩ := unhide HP1
  have hlt1 := (unhide HP1).lt
  have HNX := hide ((unhide HP1).next ((i : Int) + 1))
  go_wp2_with fail
  refine ((unhide HD) _).mono ?_
  rintro r w2 ⟨rfl, hw2⟩
  obtain rfl : w1 = w2 := hw2.symm
  go_wp2_with fail
  go_loop [5, 4] (fun kv nv => ∃ k m : Nat, k ≤ t.size ∧ kv = .int .i64 k ∧ nv = .int .i64 m ∧ Hid (Lib.decFrom 0 (t.data.toList.take k) = some m)) (fun kv _ => t.size - (intOf kv).toNat)
  case atStart => exact ⟨0, 0, Nat.zero_le _, rfl, rfl, rfl⟩
  case round =>
    obtain ⟨k, m, hk, rfl, rfl, hm⟩ := hrel
    by_cases hkl : k < t.size
    · have hk1 : (0 : Int) ≤ (k : Int) := by omega
      have hk2 : (k : Int) < (t.size : Int) := by omega
      have hb := (unhide HG) k hkl
      have hmlt := Lib.decFrom_lt _ 0 m (unhide hm)
      have hlen : (t.data.toList.take k).length ≤ 6 := by rw [List.length_take]; omega
      have hpow := Nat.pow_le_pow_right (n := 10) (by decide) hlen
      have e6 : (10 : Nat) ^ 6 = 1000000 := by decide
      have hm6 : m < 1000000 := by omega
      have HM := hide (show Lib.decFrom 0 (t.data.toList.take (k + 1)) = some (m * 10 + (t[k].toNat - 48)) from Lib.decFrom_take t.data.toList k 0 m t[k] (t[k].toNat - 48) (unhide hm) (by rw [List.getElem?_eq_getElem (by rw [← Lib.size_eq]; exact hkl)]; rfl) (by unfold Lib.digitVal; rw [if_pos hb]))
      clear hm hmlt hlen hpow e6
      generalize hx : t[k].toNat = x at *
      have hx1 : (48 : Int) ≤ (x : Int) := by omega
      have hx2 : (x : Int) ≤ 57 := by omega
      have hm7 : (m : Int) < 1000000 := by omega
      go_wp2_with fail
      go_round
      case rel => exact ⟨k + 1, m * 10 + (x - 48), by omega, by go_num, by go_num, HM⟩
      case measure => simp [intOf]; omega
    · have hk2 : ¬ (k : Int) < (t.size : Int) := by omega
      obtain rfl : m = n := by
        have := unhide hm
        rw [List.take_of_length_le (by rw [← Lib.size_eq]; omega), unhide HN] at this
        exact (Option.some.inj this).symm
      go_wp2_with fail
      go_ret
      exact ⟨rfl, by simpa using unhide HNX, (unhide HB1).set (o := 1) _⟩

theorem Number_any (l : List Qp.T) (ta : Option Addr) (c bp i : Nat) (e : Int) (f : Bool) (w : World) (hp : Qp.Rd w bp ta l.length c (i : Nat) e f) (hr : Qp.RT w ta l) (hf : l.length ≤ 10000) (hi : i ≤ 10000) (hg : Qp.Good l) :
    Calls Tryz.prog 49 #[.pointer (some ⟨bp, 0, none⟩)] w fun r w' => r = .returned (.int .i64 (Qp.rnum l i f).1) ∧ Qp.Rd w' bp ta l.length c ((Qp.rnum l i f).2.1 : Nat) e (Qp.rnum l i f).2.2 ∧ Qk.But1 bp w.heap.size w w' := by
  cases f
  · by_cases hil : i < l.length
    · have hx := List.getElem?_eq_getElem hil
      have htk := Qp.tk_some hx
      have hgx := hg _ (List.getElem_mem hil)
      rw [← htk] at hgx
      by_cases h2 : (Qp.tk l i).k = 2
      · rw [h2] at hgx
        obtain ⟨n, h3, h4, h5, h6, h7⟩ := Qp.num_tok hgx
        have e1 : Qp.rnum l i false = ((n : Int), i + 1, false) := by
          unfold Qp.rnum Qp.dig Qp.val
          rw [if_pos h2, h4]
          rfl
        rw [e1]
        exact Number_yes l ta c bp i e w hp hr hf hi _ rfl n h3 h6 h7
      · have e1 : Qp.rnum l i false = (0, i, true) := by
          unfold Qp.rnum Qp.dig
          rw [if_neg h2]
          rfl
        rw [e1]
        refine Number_no l ta c bp i e false w hp hr hf hi (Or.inr ?_)
        show ∃ hs : 0 < (Qp.tk l i).t.size, Tk.isD ((Qp.tk l i).t[0].toNat : Int) = false
        have hne := Qp.isTok_ne hgx
        have hs : 0 < (Qp.tk l i).t.size := by
          have : (Tk.B (Qp.tk l i).t).length ≠ 0 := by intro hh; exact hne (List.length_eq_zero_iff.1 hh)
          rw [Tk.B_length] at this
          omega
        refine ⟨hs, ?_⟩
        have hB := Tk.B_drop (Qp.tk l i).t 0 hs
        rw [List.drop_zero] at hB
        rw [hB] at hgx
        rw [Qp.isTok_first hgx, decide_eq_false h2]
    · have e1 : Qp.rnum l i false = (0, i, true) := by
        unfold Qp.rnum Qp.dig
        rw [Qp.tk_none (by omega)]
        rfl
      rw [e1]
      refine Number_no l ta c bp i e false w hp hr hf hi (Or.inl ?_)
      show (Qp.tk l i).t.size = 0
      rw [Qp.tk_none (by omega)]
      rfl
  · exact Number_no l ta c bp i e true w hp hr hf hi (Or.inl rfl)
end Go.Proofs.YtfhlnelgnnkeoaaGreatDoor
