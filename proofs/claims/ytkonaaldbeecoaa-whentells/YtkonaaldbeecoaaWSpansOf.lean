/-
  The contract of the document's own SpansOf. By the verifier.
-/
import Derived.Test.YtkonaaldbeecoaaWRead
namespace Go.Proofs.Ytkonaaldbeecoaa
open Go.RowKit
set_option linter.unusedVariables false

theorem Wn.row_set {W : World} {B : Nat} {e : TypeId} {size g n cap j : Nat} {xs : List Value} (h : W.ownsRow B e size (.slice (some ⟨g, 0, none⟩) n cap) n xs) (u : Value) : (W.setCell ⟨g, j, none⟩ u).ownsRow B e size (.slice (some ⟨g, 0, none⟩) n cap) n (xs.set j u) := by
  refine ⟨by rw [List.length_set]; exact h.1, ?_⟩
  rcases h.2 with ⟨h1, _⟩ | ⟨g', cap', cur, h1, hB, hg, hn, hcap, hsz, htk⟩
  · cases h1
  · cases h1
    refine Or.inr ⟨g, cap, cur.setIfInBounds j u, rfl, hB, ?_, hn, hcap, by rw [Array.size_setIfInBounds]; exact hsz, ?_⟩
    · simp only [World.setCell, Array.getElem?_modify, if_true, hg]
      rfl
    · rw [Array.toList_setIfInBounds, List.take_set, htk]
theorem Wn.row_cell {W : World} {B : Nat} {e : TypeId} {size g n cap j : Nat} {xs : List Value} {u : Value} (h : W.ownsRow B e size (.slice (some ⟨g, 0, none⟩) n cap) n xs) (hj : xs[j]? = some u) : W.cell? ⟨g, j, none⟩ = some u ∧ W.frozen? ⟨g, j, none⟩ = false := by
  have hlt := (List.getElem?_eq_some_iff.1 hj).1
  refine ⟨(h.cellAt j (by have := h.1; omega)).trans hj, ?_⟩
  rcases h.2 with ⟨h1, _⟩ | ⟨g', cap', cur, h1, hB, hg, _⟩
  · cases h1
  · cases h1
    simp [World.frozen?, hg]
theorem Wn.cells_last (l : List (Nat × Nat)) (a x y : Nat) : (Wn.cells (l ++ [(a, x)])).set (l.length * 2 + 1) (.int .i64 (y : Nat)) = Wn.cells (l ++ [(a, y)]) := by
  rw [Wn.cells_snoc, Wn.cells_snoc, List.set_append_right _ _ (by rw [Wn.cells_length]; omega), Wn.cells_length, show l.length * 2 + 1 - l.length * 2 = 1 by omega]
  rfl

set_option maxRecDepth 100000 in
set_option maxHeartbeats 1600000 in
theorem SpansOf_any (b : List Bool) (ad : Option Addr) (cap : Nat) (w : World) (hr : Dk.RB w ad b) (hb : b.length ≤ 4000) :
    Calls Try.prog 10 #[.slice ad b.length cap] w fun r w' => ∃ v, r = .returned v ∧ w'.ownsRow w.heap.size 41 2 v (Wn.R b b.length).length (Wn.cells (Wn.R b b.length)) ∧ Below w.heap.size w w' := by
  obtain ⟨i0, hi, hz0, hz1, hz2⟩ := Wn.info_of Try.info2i
  have HI := hide hi
  have HZ0 := hide hz0
  have HZ1 := hide hz1
  have HZ2 := hide hz2
  have HR := hide hr
  clear hi hz0 hz1 hz2 hr
  go_enter Try.func10, Try.ntmps10
  go_wp2_with fail
  go_loopw [3, 4] (fun v iv wr => ∃ (t k : Nat) (xs : List Value), t ≤ b.length ∧ iv = .int .i64 t ∧ k = (Wn.R b t).length ∧ xs = Wn.cells (Wn.R b t) ∧ wr.ownsRow w.heap.size 41 2 v k xs ∧ Below w.heap.size w wr) (fun _ iv _ => b.length - (intOf iv).toNat)
  case atStart => exact ⟨0, 0, [], Nat.zero_le _, rfl, rfl, rfl, World.ownsRow_nil _ _ _ _, Below.refl _ _⟩
  case round =>
    obtain ⟨t, k, xs, ht, rfl, hk, hxs, how, hbe⟩ := hrel
    have hkl := Wn.R_length b t
    rw [← hk] at hkl
    have hze := hbe.size
    have HK := hide hk
    have HXS := hide hxs
    have HOW := hide how
    have HBE := hide hbe
    clear hk hxs how hbe
    by_cases hlt : t < b.length
    · obtain ⟨q, o, rfl, hq, c0⟩ := ((unhide HR).later (unhide HBE) (Nat.le_refl _)).at_ t _ (Qk.at_get hlt)
      have ht0 : (0 : Int) ≤ (t : Int) := by omega
      have ht1 : (t : Int) < (b.length : Int) := by omega
      cases hx : Qk.at_ b t
      · rw [hx] at c0
        have HN := hide (Wn.R_no hx)
        clear hx
        go_wp2_with fail
        exact ⟨⟨t + 1, k, xs, by omega, by go_num, by rw [unhide HN]; exact unhide HK, by rw [unhide HN]; exact unhide HXS, unhide HOW, unhide HBE⟩, by simp [intOf]; omega⟩
      · rw [hx] at c0
        by_cases hb0 : t = 0 ∨ Qk.at_ b (t - 1) = false
        · have HN := hide (Wn.R_begin hx hb0)
          have HLT := hide (unhide HOW).lt
          have HBK := hide (heap_alloc_new wr (Obj.cells #[.int .i64 (t : Nat), .int .i64 (t : Nat)] 41))
          have HCL := hide (show (Wn.cells (Wn.R b t ++ [(t, t)])) = xs ++ [.int .i64 (t : Nat), .int .i64 (t : Nat)] by rw [Wn.cells_snoc, unhide HXS])
          have HXL := hide (show (xs ++ [Value.int .i64 (t : Nat), Value.int .i64 (t : Nat)])[k * 2 + 1]? = some (.int .i64 (t : Nat)) by rw [← unhide HCL, unhide HK]; exact (Wn.cells_at _ (Wn.R b t).length (t, t) (by simp)).2)
          have HFN := hide (show (xs ++ [Value.int .i64 (t : Nat), Value.int .i64 (t : Nat)]).set (k * 2 + 1) (.int .i64 ((t : Nat) + 1 : Int)) = Wn.cells (Wn.R b (t + 1)) by rw [← unhide HCL, unhide HK, unhide HN]; exact Wn.cells_last _ t t (t + 1))
          have HKN := hide (show k + 1 = (Wn.R b (t + 1)).length by rw [unhide HN, List.length_append, ← unhide HK]; rfl)
          have HG0 := hide (show t = 0 ∨ (0 < t ∧ Qk.at_ b (t - 1) = false) from by
            rcases hb0 with h | h
            · exact Or.inl h
            · rcases Nat.eq_zero_or_pos t with h2 | h2
              · exact Or.inl h2
              · exact Or.inr ⟨h2, h⟩)
          clear hx hb0
          rcases unhide HG0 with h00 | ⟨hpos, hpr⟩
          · have hg0 : (((t : Nat) : Int) == 0) = true := by simp [h00]
            clear h00
            have tok1 : True := trivial
            go_wp2_with (at_builtin; have _t := tok1; clear tok1 _t; refine wpList_append_own_at _ rfl _ _ 32 rfl w.heap.size 41 i0 (.agg #[.int .i64 0, .int .i64 0]) 2 16 Try.underlying32 (unhide HI) (unhide HZ0) (unhide HZ1) (unhide HZ2) rfl (by decide) _ _ _ rfl ((unhide HOW).alloc _) ⟨wr.heap.size, 0, none⟩ 1 1 [.int .i64 (t : Nat), .int .i64 (t : Nat)] rfl rfl (World.news_of_block (unhide HBK)) (by simp [Value.oneCell']) (by unfold maxLen; omega) (by omega) (by simp; omega) ?_; intro v' w3 hown' hgrow hnil hloc; obtain ⟨g', cap', hv'⟩ := ownsRow_succ hown'; subst hv'; have hcf := Wn.row_cell hown' (unhide HXL); obtain ⟨e1, e2⟩ := hcf; have HR3 := hide (Wn.row_set (j := k * 2 + 1) hown' (.int .i64 ((t : Nat) + 1 : Int))); have HG := hide ((World.grownBy_alloc wr _ _).trans hgrow); have hgb := (hown'.lt g' rfl).1; clear hown' hgrow hnil hloc)
            refine ⟨⟨t + 1, k + 1, _, by omega, by go_num, unhide HKN, unhide HFN, by first | exact unhide HR3 | (rw [← unhide HFN]; exact unhide HR3), ((unhide HBE).grown (unhide HG) (by omega) (fun q hq => ((unhide HLT) q hq).1)).setCell (by exact hgb) _⟩, by simp [intOf]; omega⟩
          · obtain ⟨u, rfl⟩ : ∃ u, t = u + 1 := ⟨t - 1, by omega⟩
            rw [Nat.add_sub_cancel] at hpr
            obtain ⟨q', o', hqe, hq', c1⟩ := ((unhide HR).later (unhide HBE) (Nat.le_refl _)).at_ u _ (Qk.at_get (by omega))
            cases hqe
            rw [hpr] at c1
            have hu0 : (0 : Int) ≤ (u : Int) := by omega
            have hu1 : (u : Int) < (b.length : Int) := by omega
            have hg0 : (((u + 1 : Nat) : Int) == 0) = false := by simp; omega
            have hg0' : (((u : Nat) : Int) + 1 == 0) = false := by simp; omega
            clear hpr hpos
            have tok1 : True := trivial
            go_wp2_with (at_builtin; have _t := tok1; clear tok1 _t; refine wpList_append_own_at _ rfl _ _ 32 rfl w.heap.size 41 i0 (.agg #[.int .i64 0, .int .i64 0]) 2 16 Try.underlying32 (unhide HI) (unhide HZ0) (unhide HZ1) (unhide HZ2) rfl (by decide) _ _ _ rfl ((unhide HOW).alloc _) ⟨wr.heap.size, 0, none⟩ 1 1 [.int .i64 (u + 1 : Nat), .int .i64 (u + 1 : Nat)] rfl rfl (World.news_of_block (unhide HBK)) (by simp [Value.oneCell']) (by unfold maxLen; omega) (by omega) (by simp; omega) ?_; intro v' w3 hown' hgrow hnil hloc; obtain ⟨g', cap', hv'⟩ := ownsRow_succ hown'; subst hv'; have hcf := Wn.row_cell hown' (unhide HXL); obtain ⟨e1, e2⟩ := hcf; have HR3 := hide (Wn.row_set (j := k * 2 + 1) hown' (.int .i64 ((u + 1 : Nat) + 1 : Int))); have HG := hide ((World.grownBy_alloc wr _ _).trans hgrow); have hgb := (hown'.lt g' rfl).1; clear hown' hgrow hnil hloc)
            refine ⟨⟨u + 1 + 1, k + 1, _, by omega, by go_num, unhide HKN, unhide HFN, by first | exact unhide HR3 | (rw [← unhide HFN]; exact unhide HR3), ((unhide HBE).grown (unhide HG) (by omega) (fun q hq => ((unhide HLT) q hq).1)).setCell (by exact hgb) _⟩, by simp [intOf]; omega⟩
        · have hpos : 0 < t := by omega
          have hpr : Qk.at_ b (t - 1) = true := by
            cases h3 : Qk.at_ b (t - 1)
            · exact absurd (Or.inr h3) hb0
            · rfl
          have HN := hide (Wn.R_on hx hpos hpr)
          obtain ⟨lr, ⟨a, e⟩, hlr, hae, hee⟩ := Wn.R_last hpos hpr
          simp only at hae hee
          subst hee
          have HKE := hide (show k = lr.length + 1 by rw [unhide HK, hlr]; simp)
          have HXL := hide (show xs[lr.length * 2 + 1]? = some (.int .i64 (e : Nat)) by rw [unhide HXS, hlr]; exact (Wn.cells_at _ lr.length (a, e) (by simp)).2)
          have HFN := hide (show xs.set (lr.length * 2 + 1) (.int .i64 ((e : Nat) + 1 : Int)) = Wn.cells (Wn.R b (e + 1)) by rw [unhide HXS, unhide HN, hlr, Wn.setLast_snoc]; exact Wn.cells_last _ a e (e + 1))
          have HKN := hide (show k = (Wn.R b (e + 1)).length by rw [unhide HN, unhide HK, hlr, Wn.setLast_snoc]; simp)
          obtain ⟨u, rfl⟩ : ∃ u, e = u + 1 := ⟨e - 1, by omega⟩
          rw [Nat.add_sub_cancel] at hpr
          obtain ⟨q', o', hqe, hq', c1⟩ := ((unhide HR).later (unhide HBE) (Nat.le_refl _)).at_ u _ (Qk.at_get (by omega))
          cases hqe
          rw [hpr] at c1
          have hu0 : (0 : Int) ≤ (u : Int) := by omega
          have hu1 : (u : Int) < (b.length : Int) := by omega
          have hg0 : (((u + 1 : Nat) : Int) == 0) = false := by simp; omega
          have hg0' : (((u : Nat) : Int) + 1 == 0) = false := by simp; omega
          generalize hLL : lr.length = LL at *
          have hkl2 := unhide HKE
          subst hkl2
          obtain ⟨g', cap', rfl⟩ := ownsRow_succ (unhide HOW)
          obtain ⟨e1, e2⟩ := Wn.row_cell (unhide HOW) (unhide HXL)
          have HR3 := hide (Wn.row_set (j := LL * 2 + 1) (unhide HOW) (.int .i64 ((u + 1 : Nat) + 1 : Int)))
          have hgb := ((unhide HOW).lt g' rfl).1
          have hL0 : (0 : Int) ≤ (LL : Int) := by omega
          have hL1 : (LL : Int) < ((LL + 1 : Nat) : Int) := by omega
          clear hx hpr hpos hb0 hlr hLL
          go_wp2_with fail
          refine ⟨⟨u + 1 + 1, LL + 1, _, by omega, by go_num, unhide HKN, unhide HFN, by first | exact unhide HR3 | (rw [← unhide HFN]; exact unhide HR3), (unhide HBE).setCell (by exact hgb) _⟩, by simp [intOf]; omega⟩
    · have hte : t = b.length := by omega
      have HKE := hide (show k = (Wn.R b b.length).length by rw [unhide HK, hte])
      have HXE := hide (show xs = Wn.cells (Wn.R b b.length) by rw [unhide HXS, hte])
      clear hte
      go_wp2_with fail
      go_ret
      exact ⟨_, rfl, by rw [← unhide HKE, ← unhide HXE]; exact unhide HOW, unhide HBE⟩
end Go.Proofs.Ytkonaaldbeecoaa
