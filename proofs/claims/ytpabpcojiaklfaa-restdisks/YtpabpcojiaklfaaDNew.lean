/-
  Contracts of slices.Repeat (at one sector) and of New of package disk. By the verifier.
-/
import Derived.Test.YtpabpcojiaklfaaDZeros
import Derived.Test.YtpabpcojiaklfaaDRepeat
import Derived.Laws.CopyOwn
import Derived.Deep.RegionHeld3
namespace Go.Proofs.Ytpabpcojiaklfaa
open Go.RowKit
set_option linter.unusedVariables false

theorem mul_one_any (n : Nat) (w : World) (h : n ≤ 600) :
    Calls Try.prog 79 #[.int .u64 1, .int .u64 n] w fun e w' => e = .returned (.tuple #[.int .u64 0, .int .u64 (n : Int)]) ∧ w' = w := by
  have := Try.mul_any 1 n (by omega) (by omega) w
  rw [Nat.one_mul, Nat.div_eq_of_lt (by omega), Nat.mod_eq_of_lt (by omega)] at this
  exact this

theorem row_of_full {w : World} {base g n : Nat} {xs : List Value} (h : w.ownsRow base 9 1 (.slice (some ⟨g, 0, none⟩) n n) n xs) : ∃ cur : List Value, cur.length = n ∧ w.heap[g]? = some (.cells cur.toArray 9 (0, 0)) := by
  rcases h.2 with ⟨hv, _⟩ | ⟨g', cap, cur, hv, _, hg, _, _, hs, _⟩
  · cases hv
  · cases hv
    exact ⟨cur.toList, by simpa using hs, by simpa using hg⟩

theorem copy_run {w : World} {g off dLen dCap : Nat} {ad : Addr} {sLen sCap : Nat} {cur cs : List Value} (hg : w.heap[g]? = some (.cells cur.toArray 9 (0, 0))) (hn : cs.length = Nat.min sLen dLen) (hsrc : ∀ j v, cs[j]? = some v → w.cell? (ad.add j) = some v) (hfit : off + cs.length ≤ cur.length) (h1 : ∀ v ∈ cs, v.oneCell' = true) {B : Nat} {w0 : World} (hb : Below B w0 w) (hB : B ≤ g) :
    ∃ w2, (Builtin.copy_ #[26, 26] 3 #[.slice (some ⟨g, off, none⟩) dLen dCap, .slice (some ad) sLen sCap]).run Try.prog w = .ok (.int .i64 (cs.length : Int)) w2 ∧ w2.heap[g]? = some (.cells (splice cur off cs).toArray 9 (0, 0)) ∧ Below B w0 w2 := by
  have hsz : (Try.prog.info? 9).map (·.size) = some 1 := by kernel_rfl
  refine ⟨_, run_copy_row (P := Try.prog) w 26 26 3 9 g off dLen dCap ad sLen sCap cur.toArray 9 cs Try.underlying26 hsz hg hn hsrc (by simpa using hfit) h1, ?_, below_setRow hb hB _⟩
  have := setRow_heap w g cur.toArray (cur.toArray.toList.take off ++ (cs ++ cur.toArray.toList.drop (off + cs.length))).toArray 9 (0, 0) hg
  simpa [splice] using this

theorem splice_rep (c : List Value) (v : Value) (m q n : Nat) (hc : c.length = n) (h : m + q ≤ n) (hz : ∀ j, j < m → c[j]? = some v) : ∀ j, j < m + q → (splice c m (List.replicate q v))[j]? = some v := by
  intro j hj
  unfold splice
  by_cases h1 : j < m
  · rw [List.getElem?_append_left (by rw [List.length_take]; omega), List.getElem?_take, if_pos h1]
    exact hz j h1
  · rw [List.getElem?_append_right (by rw [List.length_take]; omega), List.length_take, List.getElem?_append_left (by rw [List.length_replicate]; omega), List.getElem?_replicate, if_pos (by omega)]

theorem rep_src {wr : World} {g q m : Nat} {c : List Value} {v : Value} (hg : wr.heap[g]? = some (.cells c.toArray 9 (0, 0))) (hz : ∀ j, j < m → c[j]? = some v) (hq : q ≤ m) : ∀ j u, (List.replicate q v)[j]? = some u → wr.drew.cell? ((⟨g, 0, none⟩ : Addr).add j) = some u := by
  intro j u hj
  rw [List.getElem?_replicate] at hj
  split at hj
  · rename_i hlt
    cases hj
    rw [Dk.add_at, Nat.zero_add]
    show wr.cell? _ = _
    rw [cell_of_row _ _ _ _ _ _ hg]
    have := hz j (by omega)
    simpa using this
  · cases hj

theorem splice_one (cur : List Value) (v : Value) : ∀ j, j < 1 → (splice cur 0 [v])[j]? = some v := by
  intro j hj
  obtain rfl : j = 0 := by omega
  simp [splice]

theorem src_one {w w1 : World} {b : Nat} {v : Value} (hg : w.grownBy w1 none) (hc : w.cell? ⟨b, 0, none⟩ = some v) : ∀ j u, [v][j]? = some u → w1.cell? ((⟨b, 0, none⟩ : Addr).add j) = some u := by
  intro j u hj
  cases j with
  | zero => simp at hj; subst hj; rw [Dk.add_at]; exact hg.cell hc (by simp)
  | succ j => simp at hj

set_option maxRecDepth 100000 in
set_option maxHeartbeats 400000 in
theorem repeat_any (z : ByteArray) (b n : Nat) (w : World) (hc : w.cell? ⟨b, 0, none⟩ = some (.string z)) (h1 : 1 ≤ n) (h2 : n ≤ 600) :
    Calls Try.prog 58 #[.slice (some ⟨b, 0, none⟩) 1 1, .int .i64 n] w fun e w' => ∃ g, e = .returned (.slice (some ⟨g, 0, none⟩) n n) ∧ (∀ j, j < n → w'.cell? ⟨g, j, none⟩ = some (.string z)) ∧ w.heap.size ≤ g ∧ g < w'.heap.size ∧ Below w.heap.size w w' := by
  obtain ⟨i0, hi, hz0, hz1, hz2⟩ := info_of Try.infoS
  have HI := hide hi
  have HZ0 := hide hz0
  have HZ1 := hide hz1
  have HB2 := hide (show i0.bytes * n ≤ 281474976710656 by rw [hz2]; omega)
  have hn1 : (1 : Int) ≤ (n : Int) := by omega
  have hn2 : (n : Int) ≤ 600 := by omega
  have HC := hide hc
  clear hi hz0 hz1 hz2 hc
  go_enter Try.func58, Try.ntmps58
  go_wp2_with fail
  refine (mul_one_any n _ h2).mono ?_
  rintro e w' ⟨rfl, rfl⟩
  go_wp2_with (at_make; refine wpList_make_full _ (by rfl) _ _ _ (by rfl) w'.heap.size 9 i0 _ 1 Try.underlying26 (unhide HI) (unhide HZ0) (unhide HZ1) _ _ _ _ n (by rfl) (by rfl) rfl rfl (unhide HB2) (by unfold maxLen; omega) (Nat.le_refl _) ?_; intro w1 hown hgrow; have HO := hide hown; have HG := hide hgrow; clear hown hgrow)
  obtain ⟨cur, hcl, hcur⟩ := row_of_full (unhide HO)
  have hs1 := (unhide HG).size
  obtain ⟨w2, hrun, hg2, hb2⟩ := copy_run (dLen := n) (dCap := n) (sLen := 1) (sCap := 1) (ad := ⟨b, 0, none⟩) (off := 0) (cs := [.string z]) hcur (by show 1 = Nat.min 1 n; exact (Nat.min_eq_left h1).symm) (src_one (unhide HG) (unhide HC)) (by simp; omega) (by simp [Value.oneCell']) ((Below.refl w'.heap.size w').grown (unhide HG) (Nat.le_refl _) (by intro k hk; cases hk)) (Nat.le_refl _)
  rw [hrun]
  have HG2 := hide hg2
  have HB := hide hb2
  have HCL := hide (show (splice cur 0 [Value.string z]).length = n by rw [length_splice _ _ _ (by simp; omega)]; exact hcl)
  have HC0 := hide (splice_one cur (Value.string z))
  generalize splice cur 0 [Value.string z] = c0 at *
  clear hrun hg2 hb2 hcur hcl HO HG HI HZ0 HZ1
  go_wp2_with fail
  go_loopw [8] (fun v wr => ∃ (m : Nat) (c : List Value), 1 ≤ m ∧ m ≤ n ∧ v = .int .i64 m ∧ c.length = n ∧ wr.heap[w'.heap.size]? = some (.cells c.toArray 9 (0, 0)) ∧ (∀ j, j < m → c[j]? = some (.string z)) ∧ Below w'.heap.size w' wr) (fun v _ => n - (intOf v).toNat)
  case atStart => exact ⟨1, c0, by omega, by omega, rfl, unhide HCL, unhide HG2, unhide HC0, unhide HB⟩
  case round =>
    obtain ⟨m, c, hm1, hmn, rfl, hcl, hcur, hcz, hbe⟩ := hrel
    have HCUR := hide hcur
    have HCZ := hide hcz
    have HBE := hide hbe
    have HL := hide hcl
    clear hcur hcz hbe hcl
    have hm3 : (0 : Int) ≤ (m : Int) := by omega
    have hm4 : (m : Int) ≤ (n : Int) := by omega
    by_cases hlt : m < n
    · have hm5 : (m : Int) < (n : Int) := by omega
      obtain ⟨q, hq⟩ : ∃ q, Nat.min m (n - m) = q := ⟨_, rfl⟩
      have hqe : min m (n - m) = q := hq
      have hq1 : 1 ≤ q := by omega
      have hq2 : m + q ≤ n := by omega
      have hq3 : q ≤ m := by omega
      have HQ := hide (show (List.replicate q (Value.string z)).length = Nat.min m (n - m) by rw [List.length_replicate]; exact hq.symm)
      have HSRC := hide (show ∀ j v, (List.replicate q (Value.string z))[j]? = some v → wr.drew.cell? ((⟨w'.heap.size, 0, none⟩ : Addr).add j) = some v from rep_src (unhide HCUR) (unhide HCZ) hq3)
      have HFIT := hide (show m + (List.replicate q (Value.string z)).length ≤ c.length by rw [List.length_replicate, unhide HL]; exact hq2)
      have HONE := hide (show ∀ v ∈ List.replicate q (Value.string z), v.oneCell' = true by intro v hv; rw [(List.mem_replicate.1 hv).2]; rfl)
      have HSZ := hide (show (Try.prog.info? 9).map (·.size) = some 1 by kernel_rfl)
      have HSP := hide (splice_rep c (Value.string z) m q n (unhide HL) hq2 (unhide HCZ))
      have HSL := hide (show (splice c m (List.replicate q (Value.string z))).length = n by rw [length_splice _ _ _ (unhide HFIT)]; exact unhide HL)
      have HDP := hide (show (if n = m then some (⟨w'.heap.size, 0, none⟩ : Addr) else some ⟨w'.heap.size, m, none⟩) = some ⟨w'.heap.size, m, none⟩ from if_neg (by omega))
      have hq4 : (m : Int) + (q : Int) ≤ 600 := by omega
      clear hq hqe
      go_wp2_with fail
      go_region_held3 (fun w5 => Below w'.heap.size w' w5) (first | exact (unhide HB4) | exact (unhide HBE).drew) ((refine step_copy_splice rfl (.tmp 41) (.tmp 44) 26 26 rfl 9 Try.underlying26 (unhide HSZ) _ _ _ _ _ _ rfl rfl w'.heap.size m c 9 (unhide HCUR) (List.replicate q (.string z)) (unhide HQ) (fun _ => ⟨unhide HDP, _, rfl, unhide HSRC⟩) (unhide HFIT) (unhide HONE) w'.heap.size w' (unhide HBE).drew (Nat.le_refl _) ?_; intro w4 hg4 hb4; have HB4 := hide hb4; clear hb4; rw [List.length_replicate]))
      go_wp2_with fail
      have hwr : IntKind.i64.wrap ((m : Int) + (q : Int)) = ((m + q : Nat) : Int) := by rw [IntKind.wrap_i64]; omega
      rw [hwr]
      refine ⟨⟨m + q, splice c m (List.replicate q (.string z)), by omega, hq2, rfl, unhide HSL, unhide hg4, unhide HSP, unhide HB4⟩, by simp [intOf]; omega⟩
    · have hm5 : ¬ (m : Int) < (n : Int) := by omega
      have hmm : m = n := by omega
      subst hmm
      go_wp2_with fail
      go_ret
      refine ⟨w'.heap.size, rfl, ?_, Nat.le_refl _, ?_, unhide HBE⟩
      · intro j hj
        rw [cell_of_row _ _ _ _ _ _ (unhide HCUR)]
        have := (unhide HCZ) j hj
        simpa using this
      · exact (Array.getElem?_eq_some_iff.1 (unhide HCUR)).1

set_option maxHeartbeats 800000 in
theorem New_err (n : Int) (w : World) (h : Dk.cnt n = false) :
    Calls Try.prog 31 #[.int .i64 n] w fun e w' => e = .returned (.tuple #[.agg #[.slice none 0 0, .slice none 0 0], .int .i64 3]) ∧ Below w.heap.size w w' := by
  have H := hide h
  clear h
  go_enter Try.func31, Try.ntmps31
  go_wp2_with fail
  refine (isCount_any _ _).mono ?_
  rintro e w' ⟨rfl, rfl⟩
  rw [unhide H]
  go_wp2_with fail
  exact bodyPost_ret (v := .tuple #[.agg #[.slice none 0 0, .slice none 0 0], .int .i64 3]) (by simp [results, Try.results31, go_sem]) rfl ⟨rfl, (Below.refl _ _).alloc (Nat.le_refl _) _⟩

set_option maxHeartbeats 800000 in
theorem New_ok (n : Nat) (w : World) (h1 : 1 ≤ n) (h2 : n ≤ 600) :
    Calls Try.prog 31 #[.int .i64 n] w fun e w' => ∃ g, e = .returned (.tuple #[.agg #[.slice (some ⟨g, 0, none⟩) n n, .slice none 0 0], .int .i64 0]) ∧ Dk.RK w' (some ⟨g, 0, none⟩) (List.replicate n (Dk.zeros 32)) ∧ Below w.heap.size w w' := by
  have H := hide (show Dk.cnt (n : Int) = true by simp [Dk.cnt]; omega)
  go_enter Try.func31, Try.ntmps31
  go_wp2_with fail
  refine (isCount_any _ _).mono ?_
  rintro e w' ⟨rfl, rfl⟩
  rw [unhide H]
  go_wp2_with fail
  refine (Try.repeat32 _).mono ?_
  rintro e w1 ⟨rfl, hb1⟩
  have hz1 := hb1.size
  simp at hz1
  have c0 := (hb1.cell (p := ⟨w.heap.size, 0, none⟩) (by simp)).trans (show _ = some (.slice none 0 0) by go_simp)
  have c1 := (hb1.cell (p := ⟨w.heap.size, 1, none⟩) (by simp)).trans (show _ = some (.slice none 0 0) by go_simp)
  have f0 := (hb1.frozen (p := ⟨w.heap.size, 0, none⟩) (by simp)).trans (show _ = false by go_simp)
  have f1 := (hb1.frozen (p := ⟨w.heap.size, 1, none⟩) (by simp)).trans (show _ = false by go_simp)
  have HB1 := hide (below_two hb1)
  clear hb1
  go_wp2_with fail
  refine (repeat_any ⟨(List.replicate 32 0).toArray⟩ w1.heap.size n _ (by go_simp) h1 h2).mono ?_
  rintro e w2 ⟨g, rfl, hcell, hgl, hgs, hb2⟩
  have hz2 := hb2.size
  simp at hz2 hgl
  have hb3 := below_two hb2
  have d0 := (hb3.cell (p := ⟨w.heap.size, 0, none⟩) (show w.heap.size < _ by omega)).trans c0
  have d1 := (hb3.cell (p := ⟨w.heap.size, 1, none⟩) (show w.heap.size < _ by omega)).trans c1
  have e0 := (hb3.frozen (p := ⟨w.heap.size, 0, none⟩) (show w.heap.size < _ by omega)).trans f0
  have e1 := (hb3.frozen (p := ⟨w.heap.size, 1, none⟩) (show w.heap.size < _ by omega)).trans f1
  have HB2 := hide ((unhide HB1).trans (hb3.mono (by omega)))
  have HRK := hide (show Dk.RK w2 (some ⟨g, 0, none⟩) (List.replicate n (Dk.zeros 32)) from ⟨fun i s hi => by
    rw [List.getElem?_replicate] at hi
    split at hi
    · rename_i hlt
      cases hi
      exact ⟨g, 0, rfl, hgs, by rw [Nat.zero_add]; exact hcell i hlt, by rw [Dk.zeros_size]; unfold maxLen; omega⟩
    · cases hi⟩)
  clear hb2 hb3 hcell c0 c1 f0 f1
  go_wp2_with fail
  refine bodyPost_ret (v := .tuple #[.agg #[.slice (some ⟨g, 0, none⟩) n n, .slice none 0 0], .int .i64 0]) (by simp [results, Try.results31, go_sem, d0, d1]) rfl ⟨g, rfl, ?_, ((unhide HB2).setCell (by simp; try omega) _).setCell (by simp; try omega) _⟩
  exact Dk.RK.stored (unhide HRK) (by omega) _ _ _
end Go.Proofs.Ytpabpcojiaklfaa
