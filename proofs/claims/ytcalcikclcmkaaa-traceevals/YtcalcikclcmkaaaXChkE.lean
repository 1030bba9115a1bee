/-
  The contract of the document's CheckEval. By the verifier.
-/
import Derived.Test.YtcalcikclcmkaaaXForm
import Derived.Test.YtcalcikclcmkaaaPChkX
namespace Go.Proofs.Ytcalcikclcmkaaa
open Go.RowKit
set_option linter.unusedVariables false

theorem Xr.rn_row {W : World} {B n c : Nat} {a : Option Addr} {l : List Int} (hl : l.length = n) (hn : n ≤ 35184372088832) (h : W.ownsRow B 3 1 (.slice a n c) n (l.map (Value.int .i64))) : Pg.RN W ⟨a, n, c⟩ l := by
  refine ⟨hl.symm, ?_, by omega, fun i z hz => ?_⟩
  · rcases h.2 with ⟨h1, h2⟩ | ⟨g, cap, cur, hv, _, _, hc, _⟩
    · show n ≤ c
      omega
    · cases hv
      exact hc
  · obtain ⟨g, cap, hv, _, hlt⟩ := h.form (by have := (List.getElem?_eq_some_iff.1 hz).1; omega)
    cases hv
    have hc := h.cells (g := g) rfl i (.int .i64 z) (by rw [List.getElem?_map, hz]; rfl)
    rw [Xr.add_at] at hc
    exact ⟨g, 0, rfl, hlt, by rw [Nat.zero_add]; exact hc⟩
theorem Pg.sizes_snoc {vs : List (List Int)} {i : Nat} {l : List Int} (h : vs[i]? = some l) : Pg.sizesOf (vs.take (i + 1)) = Pg.sizesOf (vs.take i) ++ [if l.length = 1 then 0 else (l.length : Int) + 1] := by
  obtain ⟨h1, h2⟩ := List.getElem?_eq_some_iff.1 h
  unfold Pg.sizesOf
  rw [List.take_succ_eq_append_getElem h1, List.map_append, h2]
  rfl
theorem Pg.any_snoc {α : Type} (f : α → Bool) {vs : List α} {i : Nat} {l : α} (h : vs[i]? = some l) : (vs.take (i + 1)).any f = ((vs.take i).any f || f l) := by
  obtain ⟨h1, h2⟩ := List.getElem?_eq_some_iff.1 h
  rw [List.take_succ_eq_append_getElem h1, List.any_append, h2]
  simp
def Xr.three (b : Bool) : Int := if b then 3 else 0

set_option maxRecDepth 100000 in
set_option maxHeartbeats 3200000 in
theorem CheckEval_any (sa : Option Addr) (sl sc : Nat) (vs : List (List Int)) (n : Nat) (e : Pg.E) (x : Pg.XT n) (w : World) (hre : Pg.RX w n e x) (hrv : Pg.RV w ⟨sa, sl, sc⟩ vs) (hfew : sl ≤ 5864062014634) :
    Calls Try.prog 9 #[e.val, .slice sa sl sc] w fun r w' => r = .returned (.int .i64 (Xr.evE vs n x : Nat)) ∧ Below w.heap.size w w' := by
  obtain ⟨ek, en, ea, el, ec⟩ := e
  show Calls Try.prog 9 #[.agg #[.int .i64 ek, .int .i64 en, .slice ea el ec], .slice sa sl sc] w _
  obtain ⟨i3, hi3, hz3, hz3', hz3''⟩ := info_of Try.infoI3
  have HI := hide hi3
  have HZ0 := hide hz3
  have HZ1 := hide hz3'
  have HZ2 := hide hz3''
  have hb1 := (Below.refl w.heap.size w).alloc (Nat.le_refl _) (Obj.cells #[.int .i64 ek, .int .i64 en, .slice ea el ec] 24)
  have l0 : (w.alloc (Obj.cells #[.int .i64 ek, .int .i64 en, .slice ea el ec] 24)).cell? ⟨w.heap.size, 0, none⟩ = some (.int .i64 ek) := by go_simp
  have l1 : (w.alloc (Obj.cells #[.int .i64 ek, .int .i64 en, .slice ea el ec] 24)).cell? ⟨w.heap.size, 1, none⟩ = some (.int .i64 en) := by go_simp
  have l2 : (w.alloc (Obj.cells #[.int .i64 ek, .int .i64 en, .slice ea el ec] 24)).cell? ⟨w.heap.size, 2, none⟩ = some (.slice ea el ec) := by go_simp
  have HRE := hide (hre.later hb1 (Nat.le_refl _))
  have HRV := hide (hrv.later hb1 (Nat.le_refl _))
  have HB1 := hide hb1
  have HVL := hide (show sl = vs.length from hrv.len)
  have HEE := hide (show Xr.evE vs n x = if Pg.chkX (Pg.sizesOf vs) n x = 0 then (if vs.any Pg.beyondV then 3 else 0) else Pg.chkX (Pg.sizesOf vs) n x from rfl)
  generalize Xr.evE vs n x = EE at *
  clear hre hrv hb1 hi3 hz3 hz3' hz3''
  go_enter Try.func9, Try.ntmps9
  go_wp2_with fail
  generalize w.alloc (Obj.cells #[.int .i64 ek, .int .i64 en, .slice ea el ec] 24) = W1 at *
  have hlt1 := World.block_lt_of_cell? _ _ l0
  go_loopw [5, 6] (fun mv iv wr => ∃ (i c : Nat) (a : Option Addr), i ≤ sl ∧ iv = .int .i64 i ∧ mv = .slice a i c ∧ wr.ownsRow W1.heap.size 3 1 (.slice a i c) i ((Pg.sizesOf (vs.take i)).map (Value.int .i64)) ∧ Below W1.heap.size W1 wr) (fun _ iv _ => sl - (intOf iv).toNat)
  case atStart => exact ⟨0, 0, none, Nat.zero_le _, rfl, rfl, ⟨rfl, .inl ⟨rfl, rfl⟩⟩, Below.refl _ _⟩
  case round =>
    obtain ⟨i, c, a, hi, rfl, rfl, how, hbe⟩ := hrel
    by_cases hlt : i < sl
    · have hlt2 : i < vs.length := by have := unhide HVL; omega
      have hy := List.getElem?_eq_getElem hlt2
      obtain ⟨b, o, ⟨ta, tl, tc⟩, had, hb, hc, hrn⟩ := (unhide HRV).at_ i _ hy
      have HST := hide (Pg.sizes_snoc hy)
      have hcl : wr.cell? ⟨b, o + i, none⟩ = some (.slice ta tl tc) := (hbe.cell (p := ⟨b, o + i, none⟩) hb).trans hc
      have htl : tl = vs[i].length := hrn.len
      have htf : tl ≤ 35184372088832 := by rw [htl]; exact hrn.few
      have HTL := hide htl
      have had' : sa = some ⟨b, o, none⟩ := had
      subst had'
      generalize vs[i] = lv at *
      have HOW := hide how
      have HBE := hide hbe
      have hz1 := hbe.size
      have hi0' : (0 : Int) ≤ (i : Int) := by omega
      have hi1' : (i : Int) < (sl : Int) := by omega
      have HLT := hide (show ∀ q, (Value.slice a i c).ownBlock = some q → W1.heap.size ≤ q from fun q hq => (how.lt q hq).1)
      clear hy hb hc had hrn how hbe htl hlt2
      obtain ⟨xs, hxs⟩ : ∃ xs, xs = ((Pg.sizesOf (vs.take i)).map (Value.int .i64)) := ⟨_, rfl⟩
      rw [← hxs] at HOW
      have HXS := hide hxs
      clear hxs
      by_cases h1 : tl = 1
      · subst h1
        have HBK := hide (heap_alloc_new wr (Obj.cells #[.int .i64 0] 3))
        have HBD := hide (show Below wr.heap.size wr (wr.alloc (Obj.cells #[.int .i64 0] 3)) from (Below.refl _ _).alloc (Nat.le_refl _) _)
        have HS2 := hide (show Pg.sizesOf (vs.take (i + 1)) = Pg.sizesOf (vs.take i) ++ [0] by rw [unhide HST, if_pos (unhide HTL).symm])
        go_wp2_with (at_builtin; refine wpList_append_lies _ (by rfl) _ _ _ (by rfl) W1.heap.size 3 i3 _ 1 8 Try.underlying37 (unhide HI) (unhide HZ0) (unhide HZ1) (unhide HZ2) rfl (by omega) (.slice a i c) i xs (by rfl) (Pg.ow_below (unhide HOW) (unhide HBD)) ⟨wr.heap.size, 0, none⟩ 1 1 [.int .i64 0] (by rfl) (by rfl) (World.news_of_block (unhide HBK)) (by simp [Value.oneCell']) (by omega) (by unfold maxLen; omega) (by omega) (by simp; omega) (wr.heap.size + 1) (by simp) ?_; intro gA cA w6 hoA hgA hatA hltA; have HOA := hide hoA; have HGA := hide hgA; clear hoA hgA hatA hltA)
        refine ⟨⟨i + 1, cA, some ⟨gA, 0, none⟩, by omega, by go_num, rfl, ?_, ?_⟩, by simp [intOf]; omega⟩
        · rw [unhide HS2, List.map_append, ← unhide HXS]
          exact unhide HOA
        · exact Below.grown ((unhide HBE).trans ((unhide HBD).mono (unhide HBE).size)) (unhide HGA) (Nat.le_trans (unhide HBE).size (unhide HBD).size) (unhide HLT)
      · have b1 : ((tl : Int) == 1) = false := by simp; omega
        have HBK := hide (heap_alloc_new wr (Obj.cells #[.int .i64 ((tl : Int) + 1)] 3))
        have HBD := hide (show Below wr.heap.size wr (wr.alloc (Obj.cells #[.int .i64 ((tl : Int) + 1)] 3)) from (Below.refl _ _).alloc (Nat.le_refl _) _)
        have HS2 := hide (show Pg.sizesOf (vs.take (i + 1)) = Pg.sizesOf (vs.take i) ++ [(tl : Int) + 1] by rw [unhide HST, if_neg (by rw [← unhide HTL]; exact h1), unhide HTL])
        have h1i : ¬ (tl : Int) = 1 := by omega
        clear h1
        go_wp2_with (at_builtin; refine wpList_append_lies _ (by rfl) _ _ _ (by rfl) W1.heap.size 3 i3 _ 1 8 Try.underlying37 (unhide HI) (unhide HZ0) (unhide HZ1) (unhide HZ2) rfl (by omega) (.slice a i c) i xs (by rfl) (Pg.ow_below (unhide HOW) (unhide HBD)) ⟨wr.heap.size, 0, none⟩ 1 1 [.int .i64 ((tl : Int) + 1)] (by rfl) (by rfl) (World.news_of_block (unhide HBK)) (by simp [Value.oneCell']) (by omega) (by unfold maxLen; omega) (by omega) (by simp; omega) (wr.heap.size + 1) (by simp) ?_; intro gA cA w6 hoA hgA hatA hltA; have HOA := hide hoA; have HGA := hide hgA; clear hoA hgA hatA hltA)
        refine ⟨⟨i + 1, cA, some ⟨gA, 0, none⟩, by omega, by go_num, rfl, ?_, ?_⟩, by simp [intOf]; omega⟩
        · rw [unhide HS2, List.map_append, ← unhide HXS]
          exact unhide HOA
        · exact Below.grown ((unhide HBE).trans ((unhide HBD).mono (unhide HBE).size)) (unhide HGA) (Nat.le_trans (unhide HBE).size (unhide HBD).size) (unhide HLT)
    · have hie : i = sl := by omega
      subst hie
      have hrn : Pg.RN wr ⟨a, i, c⟩ (Pg.sizesOf vs) := by
        have h1 : vs.take i = vs := List.take_of_length_le (by have := unhide HVL; omega)
        rw [h1] at how
        exact Xr.rn_row (by unfold Pg.sizesOf; rw [List.length_map, ← unhide HVL]) (by omega) how
      have HCX := hide (show Calls Try.prog 29 #[.agg #[.int .i64 ek, .int .i64 en, .slice ea el ec], .slice a i c] wr _ from CheckExpr_any n ⟨ek, en, ⟨ea, el, ec⟩⟩ x wr ⟨a, i, c⟩ (Pg.sizesOf vs) ((unhide HRE).later hbe (Nat.le_refl _)) hrn (Pg.sizes_nn vs))
      have m0 := (hbe.cell (p := ⟨w.heap.size, 0, none⟩) hlt1).trans l0
      have m1 := (hbe.cell (p := ⟨w.heap.size, 1, none⟩) hlt1).trans l1
      have m2 := (hbe.cell (p := ⟨w.heap.size, 2, none⟩) hlt1).trans l2
      have HBW := hide ((unhide HB1).trans (hbe.mono (unhide HB1).size))
      have HRV2 := hide ((unhide HRV).later hbe (Nat.le_refl _))
      clear how hrn hbe
      go_wp2_with fail
      refine (unhide HCX).mono ?_
      rintro r w2 ⟨rfl, hb2⟩
      have HB2 := hide ((unhide HBW).trans (hb2.mono (unhide HBW).size))
      have HRV3 := hide ((unhide HRV2).later hb2 (Nat.le_refl _))
      clear hb2 HRV2 HCX HBW m0 m1 m2
      by_cases hck : Pg.chkX (Pg.sizesOf vs) n x = 0
      case neg =>
        have HE1 := hide (show EE = Pg.chkX (Pg.sizesOf vs) n x by rw [unhide HEE, if_neg hck])
        generalize Pg.chkX (Pg.sizesOf vs) n x = R at *
        have bc : (((R : Nat) : Int) == 0) = false := by simp; exact hck
        have hcI : ¬ ((R : Nat) : Int) = 0 := by omega
        clear hck
        go_wp2_with fail
        go_loopw [8, 9] (fun wv iv wr' => wv = .int .i64 (R : Nat) ∧ iv = .int .i64 0 ∧ wr' = w2) (fun _ _ _ => 0)
        case atStart => exact ⟨rfl, rfl, rfl⟩
        case round =>
          obtain ⟨rfl, rfl, hwr⟩ := hrel
          have hwr2 := hwr.symm
          subst hwr2
          by_cases h0 : 0 < i
          · have h0i : (0 : Int) < (i : Int) := by omega
            go_wp2_with fail
            go_ret
            exact ⟨by rw [unhide HE1]; rfl, unhide HB2⟩
          · have h0i : ¬ (0 : Int) < (i : Int) := by omega
            go_wp2_with fail
            go_ret
            exact ⟨by rw [unhide HE1]; rfl, unhide HB2⟩
      case pos =>
        have HE1 := hide (show EE = if vs.any Pg.beyondV then 3 else 0 by rw [unhide HEE, if_pos hck])
        rw [hck]
        clear hck
        go_wp2_with fail
        go_loopw [8, 9] (fun wv iv wr' => ∃ (j : Nat), j ≤ i ∧ iv = .int .i64 j ∧ ((wv = .int .i64 0 ∧ Hid ((vs.take j).any Pg.beyondV = false)) ∨ (wv = .int .i64 3 ∧ Hid ((vs.take j).any Pg.beyondV = true))) ∧ wr' = w2) (fun _ iv _ => i - (intOf iv).toNat)
        case atStart => exact ⟨0, Nat.zero_le _, rfl, .inl ⟨rfl, by show _ = _; rfl⟩, rfl⟩
        case round =>
          obtain ⟨j, hj, rfl, hor, hwr⟩ := hrel
          have hwr2 := hwr.symm
          subst hwr2
          rcases hor with ⟨rfl, hany⟩ | ⟨rfl, hany⟩
          · have HAN := hide (unhide hany)
            clear hany
            by_cases hlt : j < i
            · have hlt2 : j < vs.length := by have := unhide HVL; omega
              have hy := List.getElem?_eq_getElem hlt2
              obtain ⟨b, o, ⟨ta, tl, tc⟩, had, hb, hc, hrn⟩ := (unhide HRV3).at_ j _ hy
              have HAS := hide (Pg.any_snoc Pg.beyondV hy)
              have htl : tl = vs[j].length := hrn.len
              have htf : tl ≤ 35184372088832 := by rw [htl]; exact hrn.few
              have HTL := hide htl
              have had' : sa = some ⟨b, o, none⟩ := had
              generalize vs[j] = lv at *
              have HRN := hide hrn
              have hi0' : (0 : Int) ≤ (j : Int) := by omega
              have hi1' : (j : Int) < (i : Int) := by omega
              clear hy hb had hrn htl hlt2
              subst had'
              go_wp2_with fail
              go_loopw [8, 10] (fun wv kv wr' => ∃ (k : Nat), k ≤ tl ∧ kv = .int .i64 k ∧ ((wv = .int .i64 0 ∧ Hid ((lv.take k).any Pg.beyond = false)) ∨ (wv = .int .i64 3 ∧ Hid ((lv.take k).any Pg.beyond = true))) ∧ wr' = w2) (fun _ kv _ => tl - (intOf kv).toNat)
              case atStart => exact ⟨0, Nat.zero_le _, rfl, .inl ⟨rfl, by show _ = _; rfl⟩, rfl⟩
              case round =>
                obtain ⟨k, hk, rfl, hor, hwr⟩ := hrel
                have hwr2 := hwr.symm
                subst hwr2
                by_cases hkl : k < tl
                · have hkl2 : k < lv.length := by have := unhide HTL; omega
                  have hy := List.getElem?_eq_getElem hkl2
                  obtain ⟨bz, oz, had, hbz, hcz⟩ := (unhide HRN).at_ k _ hy
                  have HKS := hide (Pg.any_snoc Pg.beyond hy)
                  have had' : ta = some ⟨bz, oz, none⟩ := had
                  generalize lv[k] = z at *
                  have HIN := hide (IsNumber_any z w2)
                  have hk0 : (0 : Int) ≤ (k : Int) := by omega
                  have hk1 : (k : Int) < (tl : Int) := by omega
                  clear hy had hbz hkl2
                  subst had'
                  generalize Pg.beyond z = BZ at *
                  rcases hor with ⟨rfl, hany⟩ | ⟨rfl, hany⟩
                  · have HKN := hide (unhide hany)
                    clear hany
                    go_wp2_with fail
                    refine (unhide HIN).mono ?_
                    rintro r w9 ⟨rfl, hw9⟩
                    subst hw9
                    cases BZ
                    · go_wp2_with fail
                      exact ⟨⟨k + 1, by omega, by go_num, .inl ⟨rfl, by show _ = _; rw [unhide HKS, unhide HKN]; rfl⟩, trivial⟩, by simp [intOf]; omega⟩
                    · go_wp2_with fail
                      exact ⟨⟨k + 1, by omega, by go_num, .inr ⟨rfl, by show _ = _; rw [unhide HKS, unhide HKN]; rfl⟩, trivial⟩, by simp [intOf]; omega⟩
                  · have HKN := hide (unhide hany)
                    clear hany
                    go_wp2_with fail
                    refine (unhide HIN).mono ?_
                    rintro r w9 ⟨rfl, hw9⟩
                    subst hw9
                    cases BZ
                    · go_wp2_with fail
                      exact ⟨⟨k + 1, by omega, by go_num, .inr ⟨rfl, by show _ = _; rw [unhide HKS, unhide HKN]; rfl⟩, trivial⟩, by simp [intOf]; omega⟩
                    · go_wp2_with fail
                      exact ⟨⟨k + 1, by omega, by go_num, .inr ⟨rfl, by show _ = _; rw [unhide HKS, unhide HKN]; rfl⟩, trivial⟩, by simp [intOf]; omega⟩
                · have hke : lv.take k = lv := List.take_of_length_le (by have := unhide HTL; omega)
                  rw [hke] at hor
                  have hk1 : ¬ (k : Int) < (tl : Int) := by omega
                  clear hke
                  rcases hor with ⟨rfl, hany⟩ | ⟨rfl, hany⟩
                  · have HKN := hide (unhide hany)
                    clear hany
                    go_wp2_with fail
                    exact ⟨⟨j + 1, by omega, by go_num, .inl ⟨rfl, by show _ = _; rw [unhide HAS, unhide HAN]; exact unhide HKN⟩, trivial⟩, by simp [intOf]; omega⟩
                  · have HKN := hide (unhide hany)
                    clear hany
                    go_wp2_with fail
                    exact ⟨⟨j + 1, by omega, by go_num, .inr ⟨rfl, by show _ = _; rw [unhide HAS, unhide HAN]; exact unhide HKN⟩, trivial⟩, by simp [intOf]; omega⟩
            · have hje : vs.take j = vs := List.take_of_length_le (by have := unhide HVL; omega)
              have HF := hide (show EE = 0 by rw [unhide HE1, ← hje, unhide HAN]; rfl)
              have hj1 : ¬ (j : Int) < (i : Int) := by omega
              clear hje
              go_wp2_with fail
              go_ret
              exact ⟨by rw [unhide HF]; rfl, unhide HB2⟩
          · have HAN := hide (unhide hany)
            clear hany
            have HF := hide (show EE = 3 by
              have h1 : vs.any Pg.beyondV = true := by
                obtain ⟨y, hy, hy2⟩ := List.any_eq_true.1 (unhide HAN)
                exact List.any_eq_true.2 ⟨y, List.mem_of_mem_take hy, hy2⟩
              rw [unhide HE1, h1]; rfl)
            by_cases hlt : (j : Int) < (i : Int)
            · go_wp2_with fail
              go_ret
              exact ⟨by rw [unhide HF]; rfl, unhide HB2⟩
            · go_wp2_with fail
              go_ret
              exact ⟨by rw [unhide HF]; rfl, unhide HB2⟩
end Go.Proofs.Ytcalcikclcmkaaa
