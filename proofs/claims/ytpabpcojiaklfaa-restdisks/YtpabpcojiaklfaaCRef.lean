/-
  Contracts of the document's own AreSmall, Column and Natural. By the verifier.
-/
import Derived.Test.YtpabpcojiaklfaaCWithin
import Derived.Laws.IdiomStrings
namespace Go.Proofs.Ytpabpcojiaklfaa
open Go.RowKit
set_option linter.unusedVariables false

theorem IsNumber_any (n : Int) (w : World) :
    Calls Try.prog 38 #[.int .i64 n] w fun e w' => e = .returned (.bool (Cl.isN n)) ∧ w' = w := by
  go_enter Try.func38, Try.ntmps38
  go_wp2_with fail
  refine (between_any _ _ _ _).mono ?_
  rintro e w' ⟨rfl, rfl⟩
  go_wp2_with fail
  go_ret
  exact ⟨by unfold Cl.isN; rw [Bool.decide_and]; rfl, rfl⟩

/-- Bytes as a text. -/
def Cl.str (l : List Nat) : ByteArray := ⟨(l.map UInt8.ofNat).toArray⟩
theorem Cl.ba_ext {a b : ByteArray} (h : a.data = b.data) : a = b := by cases a; cases b; simp_all
theorem Cl.str_append (a b : List Nat) : Cl.str (a ++ b) = Cl.str a ++ Cl.str b := by
  apply Cl.ba_ext
  rw [ByteArray.data_append]
  show ((a ++ b).map UInt8.ofNat).toArray = (a.map UInt8.ofNat).toArray ++ (b.map UInt8.ofNat).toArray
  simp
theorem Cl.str_size (l : List Nat) : (Cl.str l).size = l.length := by
  show (l.map UInt8.ofNat).toArray.size = _
  simp

theorem Cl.conv1 (b : Nat) (hb : b < 256) (w : World) (v : Int) (hv : v = (b : Int)) :
    (convert 77 9 (.slice (some ⟨w.heap.size, 0, none⟩) 1 1)).run Try.prog (w.alloc (.cells #[.int .u8 v] 5)) = .ok (.string (Cl.str [b])) (w.alloc (.cells #[.int .u8 v] 5)) :=
  run_convert_bytes_back _ 77 9 5 ⟨w.heap.size, 0, none⟩ 1 [UInt8.ofNat b] Try.underlying77 Try.underlying5 Try.underlying9 (fun j hj => by
    have : j = 0 := by simp at hj; exact hj
    subst this
    subst hv
    rw [Dk.add_at]
    have : (UInt8.ofNat b).toNat = b := by rw [UInt8.toNat_ofNat']; omega
    simp [this])

set_option maxRecDepth 100000 in
set_option maxHeartbeats 800000 in
theorem Natural_any (n : Nat) (w : World) (hn : n < 8796093022208) :
    Calls Try.prog 52 #[.int .i64 (n : Nat)] w fun e w' => e = .returned (.string (Cl.str (Cl.natB n))) ∧ Below w.heap.size w w' := by
  go_enter Try.func52, Try.ntmps52
  go_wp2_with fail
  go_loopw [0, 3] (fun v sv wr => ∃ (m : Nat) (ds : List Nat), m ≤ n ∧ (ds ++ Cl.natB m = Cl.natB n) ∧ ds.length ≤ 10 ∧ v = .int .i64 (m : Nat) ∧ sv = .string (Cl.str ds) ∧ Below w.heap.size w wr ∧ (m : Nat) * 128 ^ ds.length ≤ n) (fun v _ _ => (intOf v).toNat)
  case atStart => exact ⟨n, [], Nat.le_refl _, rfl, by simp, rfl, rfl, Below.refl _ _, by simp⟩
  case round =>
    obtain ⟨m, ds, hm, hd, hdl, rfl, rfl, hbe, hpow⟩ := hrel
    have HBE := hide hbe
    have HHD := hide hd
    have HPW := hide hpow
    have hzb := hbe.size
    have hzs := Cl.str_size ds
    clear hbe hd hpow
    by_cases hlt : m < 128
    · have hk2 : ¬ (m : Int) > 127 := by omega
      have hs1 := Cl.str_size [m]
      have hcv := Cl.conv1 m (by omega) wr (m : Int) rfl
      go_wp2_with fail
      go_ret
      exact ⟨by rw [← unhide HHD, Cl.natB_lt hlt, Cl.str_append]; rfl, (unhide HBE).alloc (by omega) _⟩
    · have hk2 : (m : Int) > 127 := by omega
      have hs1 := Cl.str_size [m % 128 + 128]
      have hcv := Cl.conv1 (m % 128 + 128) (by omega) wr ((m : Int) % 128 + 128) (by omega)
      go_wp2_with fail
      have hl7 : ds.length < 7 := by
        apply Classical.byContradiction
        intro hc
        have h1 : 128 ^ 7 ≤ 128 ^ ds.length := Nat.pow_le_pow_right (by omega) (by omega)
        have h2 : 128 ^ ds.length ≤ m * 128 ^ ds.length := Nat.le_mul_of_pos_left _ (by omega)
        have h3 := unhide HPW
        have h4 : (128 : Nat) ^ 7 = 562949953421312 := by decide
        omega
      refine ⟨⟨m / 128, ds ++ [m % 128 + 128], by omega, ?_, by simp; omega, congrArg (Value.int .i64) (by omega), by rw [Cl.str_append], (unhide HBE).alloc (by omega) _, ?_⟩, by simp [intOf]; omega⟩
      · rw [← unhide HHD, Cl.natB_ge hlt, List.append_assoc]; rfl
      · rw [List.length_append]
        have h3 := unhide HPW
        have h5 : m / 128 * 128 ^ (ds.length + 1) = m / 128 * 128 * 128 ^ ds.length := by rw [Nat.pow_succ, Nat.mul_assoc, Nat.mul_comm (128 ^ ds.length) 128, ← Nat.mul_assoc]
        have h6 : m / 128 * 128 * 128 ^ ds.length ≤ m * 128 ^ ds.length := Nat.mul_le_mul_right _ (by omega)
        show m / 128 * 128 ^ (ds.length + 1) ≤ n
        omega

set_option maxHeartbeats 800000 in
theorem Column_any (e : Ev) (c : Nat) (w : World) (hc : c < 6) :
    Calls Try.prog 53 #[e.agg, .int .i64 (c : Nat)] w fun r w' => r = .returned (.int .i64 (e.col c)) ∧ Below w.heap.size w w' := by
  unfold Ev.agg
  match c, hc with
  | 0, _ => (go_enter Try.func53, Try.ntmps53; go_wp2_with fail; go_ret; exact ⟨rfl, ((Below.refl _ _).alloc (Nat.le_refl _) _).alloc (by simp) _⟩)
  | 1, _ => (go_enter Try.func53, Try.ntmps53; go_wp2_with fail; go_ret; exact ⟨rfl, ((Below.refl _ _).alloc (Nat.le_refl _) _).alloc (by simp) _⟩)
  | 2, _ => (go_enter Try.func53, Try.ntmps53; go_wp2_with fail; go_ret; exact ⟨rfl, ((Below.refl _ _).alloc (Nat.le_refl _) _).alloc (by simp) _⟩)
  | 3, _ => (go_enter Try.func53, Try.ntmps53; go_wp2_with fail; go_ret; exact ⟨rfl, ((Below.refl _ _).alloc (Nat.le_refl _) _).alloc (by simp) _⟩)
  | 4, _ => (go_enter Try.func53, Try.ntmps53; go_wp2_with fail; go_ret; exact ⟨rfl, ((Below.refl _ _).alloc (Nat.le_refl _) _).alloc (by simp) _⟩)
  | 5, _ => (go_enter Try.func53, Try.ntmps53; go_wp2_with fail; go_ret; exact ⟨rfl, ((Below.refl _ _).alloc (Nat.le_refl _) _).alloc (by simp) _⟩)

set_option maxHeartbeats 1600000 in
theorem AreSmall_any (l : List Ev) (ad : Option Addr) (cap : Nat) (w : World) (hr : Cl.RE w ad l) (hl : l.length ≤ 4000) :
    Calls Try.prog 12 #[.slice ad l.length cap] w fun e w' => e = .returned (.bool (l.all Ev.ok)) ∧ Below w.heap.size w w' := by
  have HR := hide hr
  clear hr
  go_enter Try.func12, Try.ntmps12
  go_wp2_with fail
  go_loopw [3] (fun v wr => ∃ k : Nat, k ≤ l.length ∧ v = .int .i64 k ∧ (∀ j s, j < k → l[j]? = some s → Ev.ok s = true) ∧ Below w.heap.size w wr) (fun v _ => l.length - (intOf v).toNat)
  case atStart => exact ⟨0, by omega, rfl, fun j s h => by omega, Below.refl _ _⟩
  case round =>
    obtain ⟨k, hk, rfl, hall, hbe⟩ := hrel
    have HA := hide hall
    have HBE := hide hbe
    have hz := hbe.size
    clear hall hbe
    by_cases hlt : k < l.length
    · obtain ⟨t, ht⟩ : ∃ t, l[k]? = some t := ⟨l[k], List.getElem?_eq_getElem hlt⟩
      obtain ⟨b, o, rfl, hb, c0, c1, c2, c3, c4, c5⟩ := ((unhide HR).later (unhide HBE) (Nat.le_refl _)).at_ k t ht
      have HT := hide ht
      clear ht
      have hk1 : (0 : Int) ≤ (k : Int) := by omega
      have hk2 : (k : Int) < (l.length : Int) := by omega
      have HBW := hide ((unhide HBE).alloc hz (Obj.cells #[.int .i64 t.n0, .int .i64 t.n1, .int .i64 t.n2, .int .i64 t.n3, .int .i64 t.n4, .int .i64 t.n5] 70))
      have HF := hide (show Ev.ok t = false → l.all Ev.ok = false from fun h3 => by rw [List.all_eq_false]; exact ⟨t, List.mem_of_getElem? (unhide HT), by rw [h3]; decide⟩)
      have HS := hide (show Ev.ok t = true → ∀ j s, j < k + 1 → l[j]? = some s → Ev.ok s = true from fun h3 j s hj hs => by
        by_cases e2 : j = k
        · subst e2
          have := unhide HT
          rw [this] at hs
          cases hs
          exact h3
        · exact (unhide HA) j s (by omega) hs)
      go_wp2_with fail
      refine (IsNumber_any t.n0 _).mono ?_
      rintro e w' ⟨rfl, rfl⟩
      cases h0 : Cl.isN t.n0
      · go_wp2_with fail
        go_ret
        exact ⟨by rw [(unhide HF) (by simp [Ev.ok, h0])]; rfl, unhide HBW⟩
      go_wp2_with fail
      refine (IsNumber_any t.n1 _).mono ?_
      rintro e w' ⟨rfl, rfl⟩
      cases h1 : Cl.isN t.n1
      · go_wp2_with fail
        go_ret
        exact ⟨by rw [(unhide HF) (by simp [Ev.ok, h1])]; rfl, unhide HBW⟩
      go_wp2_with fail
      refine (IsNumber_any t.n2 _).mono ?_
      rintro e w' ⟨rfl, rfl⟩
      cases h2 : Cl.isN t.n2
      · go_wp2_with fail
        go_ret
        exact ⟨by rw [(unhide HF) (by simp [Ev.ok, h2])]; rfl, unhide HBW⟩
      go_wp2_with fail
      refine (IsNumber_any t.n3 _).mono ?_
      rintro e w' ⟨rfl, rfl⟩
      cases h3 : Cl.isN t.n3
      · go_wp2_with fail
        go_ret
        exact ⟨by rw [(unhide HF) (by simp [Ev.ok, h3])]; rfl, unhide HBW⟩
      go_wp2_with fail
      refine (IsNumber_any t.n4 _).mono ?_
      rintro e w' ⟨rfl, rfl⟩
      cases h4 : Cl.isN t.n4
      · go_wp2_with fail
        go_ret
        exact ⟨by rw [(unhide HF) (by simp [Ev.ok, h4])]; rfl, unhide HBW⟩
      go_wp2_with fail
      refine (IsNumber_any t.n5 _).mono ?_
      rintro e w' ⟨rfl, rfl⟩
      cases h5 : Cl.isN t.n5
      · go_wp2_with fail
        go_ret
        exact ⟨by rw [(unhide HF) (by simp [Ev.ok, h5])]; rfl, unhide HBW⟩
      go_wp2_with fail
      exact ⟨⟨k + 1, by omega, by go_num, (unhide HS) (by simp [Ev.ok, h0, h1, h2, h3, h4, h5]), unhide HBW⟩, by simp [intOf]; omega⟩
    · have hq : l.all Ev.ok = true := by
        rw [List.all_eq_true]
        intro t ht
        obtain ⟨j, hj⟩ := List.getElem?_of_mem ht
        exact (unhide HA) j t (by have := (List.getElem?_eq_some_iff.1 hj).1; omega) hj
      have HQ := hide hq
      clear hq
      go_wp2_with fail
      go_ret
      exact ⟨by rw [unhide HQ]; rfl, unhide HBE⟩
end Go.Proofs.Ytpabpcojiaklfaa
