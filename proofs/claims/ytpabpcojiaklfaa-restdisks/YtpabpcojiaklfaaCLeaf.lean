/-
  Contracts of column's natural, number and put, and of fields' Of and Event. By the verifier.
-/
import Derived.Test.YtpabpcojiaklfaaCBase
import Derived.Test.YtpabpcojiaklfaaDClone
import Derived.Deep.AppendLies
namespace Go.Proofs.Ytpabpcojiaklfaa
open Go.RowKit
set_option linter.unusedVariables false

theorem Try.infoU : (Try.prog.info? 5).map (fun i => (i.zero, i.size, i.bytes)) = some (some (.int .u8 0), 1, 1) := by kernel_rfl

theorem natural_any (n : Int) (w : World) (h1 : -4294967296 ≤ n) (h2 : n ≤ 4294967296) :
    Calls Try.prog 48 #[.int .i64 n] w fun e w' => e = .returned (.int .i64 (Cl.zig n : Nat)) ∧ w' = w := by
  by_cases h : n < 0
  · go_enter Try.func48, Try.ntmps48
    go_wp2_with fail
    go_ret
    exact ⟨ret_int (by unfold Cl.zig; rw [if_pos h]; go_num), rfl⟩
  · go_enter Try.func48, Try.ntmps48
    go_wp2_with fail
    go_ret
    exact ⟨ret_int (by unfold Cl.zig; rw [if_neg (by omega)]; go_num), rfl⟩

theorem number_any (n : Nat) (w : World) (h1 : n < 4398046511104) :
    Calls Try.prog 50 #[.int .i64 (n : Nat)] w fun e w' => e = .returned (.int .i64 (Cl.zag n)) ∧ w' = w := by
  by_cases h : n % 2 = 1
  · have g1 : ((n : Int) % 2 == 1) = true := by rw [beq_iff_eq]; omega
    have e2 : ((n : Int) + 1).tdiv 2 = ((n : Int) + 1) / 2 := Int.tdiv_eq_ediv_of_nonneg (by omega)
    go_enter Try.func50, Try.ntmps50
    go_wp2_with fail
    go_ret
    exact ⟨ret_int (by unfold Cl.zag; rw [if_pos h]; omega), rfl⟩
  · have g1 : ((n : Int) % 2 == 1) = false := by rw [beq_eq_false_iff_ne]; omega
    go_enter Try.func50, Try.ntmps50
    go_wp2_with fail
    go_ret
    exact ⟨ret_int (by unfold Cl.zag; rw [if_neg h]; go_num), rfl⟩

theorem Of_any (e : Ev) (w : World) :
    Calls Try.prog 47 #[e.agg] w fun r w' => r = .returned e.agg ∧ Below w.heap.size w w' := by
  unfold Ev.agg
  go_enter Try.func47, Try.ntmps47
  go_wp2_with fail
  exact bodyPost_ret (v := .agg #[.int .i64 e.n0, .int .i64 e.n1, .int .i64 e.n2, .int .i64 e.n3, .int .i64 e.n4, .int .i64 e.n5]) (by simp [results, Try.results47, go_sem]) rfl ⟨rfl, ((Below.refl _ _).alloc (Nat.le_refl _) _).alloc (by simp) _⟩

theorem Event_any (e : Ev) (w : World) :
    Calls Try.prog 78 #[e.agg] w fun r w' => r = .returned e.agg ∧ Below w.heap.size w w' := by
  unfold Ev.agg
  go_enter Try.func78, Try.ntmps78
  go_wp2_with fail
  exact bodyPost_ret (v := .agg #[.int .i64 e.n0, .int .i64 e.n1, .int .i64 e.n2, .int .i64 e.n3, .int .i64 e.n4, .int .i64 e.n5]) (by simp [results, Try.results78, go_sem]) rfl ⟨rfl, ((Below.refl _ _).alloc (Nat.le_refl _) _).alloc (by simp) _⟩

/-- Bytes as a row of cells. -/
def Cl.by8 (l : List Nat) : List Value := l.map fun b => .int .u8 (b : Nat)
theorem Cl.by8_append (a b : List Nat) : Cl.by8 (a ++ b) = Cl.by8 a ++ Cl.by8 b := by unfold Cl.by8; exact List.map_append
theorem Cl.by8_one (b : Nat) : Cl.by8 [b] = [.int .u8 (b : Nat)] := rfl

set_option maxRecDepth 100000 in
set_option maxHeartbeats 800000 in
/-- put: the bytes of a natural behind those of a row of the caller's own. -/
theorem put_any (B : Nat) (bs : List Nat) (ad : Option Addr) (k cap n : Nat) (w : World) (hB : B ≤ w.heap.size) (how : w.ownsRow B 5 1 (.slice ad k cap) k (Cl.by8 bs)) (hn : n < 8796093022208) (hk : k ≤ 1000000) :
    Calls Try.prog 46 #[.slice ad k cap, .int .i64 (n : Nat)] w fun e w' => ∃ g c, e = .returned (.slice (some ⟨g, 0, none⟩) (k + (Cl.natB n).length) c) ∧ w'.ownsRow B 5 1 (.slice (some ⟨g, 0, none⟩) (k + (Cl.natB n).length) c) (k + (Cl.natB n).length) (Cl.by8 (bs ++ Cl.natB n)) ∧ Below B w w' := by
  obtain ⟨i0, hi, hz0, hz1, hz2⟩ := info_of Try.infoU
  have HI := hide hi
  have HZ0 := hide hz0
  have HZ1 := hide hz1
  have HZ2 := hide hz2
  have HOW0 := hide how
  clear hi hz0 hz1 hz2 how
  go_enter Try.func46, Try.ntmps46
  go_wp2_with fail
  go_loopw [0, 1] (fun bv v wr => ∃ (m : Nat) (ds : List Nat) (ad : Option Addr) (cap : Nat), m ≤ n ∧ (ds ++ Cl.natB m = Cl.natB n) ∧ ds.length ≤ 10 ∧ v = .int .i64 (m : Nat) ∧ bv = .slice ad (k + ds.length) cap ∧ wr.ownsRow B 5 1 (.slice ad (k + ds.length) cap) (k + ds.length) (Cl.by8 (bs ++ ds)) ∧ Below B w wr ∧ (m : Nat) * 128 ^ ds.length ≤ n) (fun _ v _ => (intOf v).toNat)
  case atStart => exact ⟨n, [], ad, cap, Nat.le_refl _, rfl, by simp, rfl, rfl, by simpa using unhide HOW0, Below.refl _ _, by simp⟩
  case round =>
    obtain ⟨m, ds, ad, cap, hm, hd, hdl, rfl, rfl, hown, hbe, hpow⟩ := hrel
    have HOW := hide hown
    have HBE := hide hbe
    have HHD := hide hd
    have HPW := hide hpow
    have HO0 := hide (show ∀ q, (Value.slice ad (k + ds.length) cap).ownBlock = some q → B ≤ q ∧ q < wr.heap.size from hown.lt)
    have hzb := hbe.size
    clear hown hbe hd hpow
    by_cases hlt : m < 128
    · have hk2 : ¬ (m : Int) ≥ 128 := by omega
      have HOA := hide ((unhide HOW).alloc (.cells #[.int .u8 (m : Nat)] 5))
      have HBK := hide (heap_alloc_new wr (.cells #[.int .u8 (m : Nat)] 5))
      go_wp2_with (at_builtin; refine wpList_append_lies _ (by rfl) _ _ _ (by rfl) B 5 i0 _ 1 1 Try.underlying77 (unhide HI) (unhide HZ0) (unhide HZ1) (unhide HZ2) rfl (by omega) (.slice ad (k + ds.length) cap) (k + ds.length) (Cl.by8 (bs ++ ds)) (by rfl) (unhide HOA) ⟨wr.heap.size, 0, none⟩ 1 1 [.int .u8 (m : Nat)] (by rfl) (by rfl) (World.news_of_block (unhide HBK)) (by simp [Value.oneCell']) (by omega) (by unfold maxLen; omega) (by omega) (by simp; omega) (wr.heap.size + 1) (by simp) ?_; intro g2 cap2 w3 hown3 hgrow3 hat3 hlt3; have HO3 := hide hown3; have HG3 := hide hgrow3; clear hown3 hgrow3 hat3)
      have e1 : Cl.natB n = ds ++ [m] := by rw [← unhide HHD, Cl.natB_lt hlt]
      have e2 : (Cl.natB n).length = ds.length + 1 := by rw [e1]; simp
      go_ret
      refine ⟨g2, cap2, by rw [e2, ← Nat.add_assoc]; rfl, ?_, ((unhide HBE).alloc (by omega) _).grown (unhide HG3) (by simp; omega) (fun q hq => ((unhide HO0) q hq).1)⟩
      rw [e2, e1, ← List.append_assoc, Cl.by8_append, Cl.by8_one, ← Nat.add_assoc]
      exact unhide HO3
    · have hk2 : (m : Int) ≥ 128 := by omega
      have HOA := hide ((unhide HOW).alloc (.cells #[.int .u8 ((m % 128 + 128 : Nat) : Int)] 5))
      have HBK := hide (heap_alloc_new wr (.cells #[.int .u8 ((m % 128 + 128 : Nat) : Int)] 5))
      go_wp2_with (at_builtin; refine wpList_append_lies _ (by rfl) _ _ _ (by rfl) B 5 i0 _ 1 1 Try.underlying77 (unhide HI) (unhide HZ0) (unhide HZ1) (unhide HZ2) rfl (by omega) (.slice ad (k + ds.length) cap) (k + ds.length) (Cl.by8 (bs ++ ds)) (by rfl) (unhide HOA) ⟨wr.heap.size, 0, none⟩ 1 1 [.int .u8 ((m % 128 + 128 : Nat) : Int)] (by rfl) (by rfl) (World.news_of_block (unhide HBK)) (by simp [Value.oneCell']) (by omega) (by unfold maxLen; omega) (by omega) (by simp; omega) (wr.heap.size + 1) (by simp) ?_; intro g2 cap2 w3 hown3 hgrow3 hat3 hlt3; have HO3 := hide hown3; have HG3 := hide hgrow3; clear hown3 hgrow3 hat3)
      have hl7 : ds.length < 7 := by
        apply Classical.byContradiction
        intro hc
        have h1 : 128 ^ 7 ≤ 128 ^ ds.length := Nat.pow_le_pow_right (by omega) (by omega)
        have h2 : 128 ^ ds.length ≤ m * 128 ^ ds.length := Nat.le_mul_of_pos_left _ (by omega)
        have h3 := unhide HPW
        have h4 : (128 : Nat) ^ 7 = 562949953421312 := by decide
        omega
      refine ⟨⟨m / 128, ds ++ [m % 128 + 128], some ⟨g2, 0, none⟩, cap2, by omega, ?_, by simp; omega, congrArg (Value.int .i64) (by omega), by rw [List.length_append]; rfl, ?_, ((unhide HBE).alloc (by omega) _).grown (unhide HG3) (by simp; omega) (fun q hq => ((unhide HO0) q hq).1), ?_⟩, by simp [intOf]; omega⟩
      · rw [← unhide HHD, Cl.natB_ge hlt, List.append_assoc]; rfl
      · rw [List.length_append, ← List.append_assoc, Cl.by8_append, Cl.by8_one]
        exact unhide HO3
      · rw [List.length_append]
        have h3 := unhide HPW
        have h5 : m / 128 * 128 ^ (ds.length + 1) = m / 128 * 128 * 128 ^ ds.length := by rw [Nat.pow_succ, Nat.mul_assoc, Nat.mul_comm (128 ^ ds.length) 128, ← Nat.mul_assoc]
        have h6 : m / 128 * 128 * 128 ^ ds.length ≤ m * 128 ^ ds.length := Nat.mul_le_mul_right _ (by omega)
        show m / 128 * 128 ^ (ds.length + 1) ≤ n
        omega
end Go.Proofs.Ytpabpcojiaklfaa
