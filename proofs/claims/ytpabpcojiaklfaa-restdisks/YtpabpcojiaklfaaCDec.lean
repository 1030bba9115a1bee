/-
  The contract of Decode of package column. By the verifier.
-/
import Derived.Test.YtpabpcojiaklfaaCEvents
namespace Go.Proofs.Ytpabpcojiaklfaa
open Go.RowKit
set_option linter.unusedVariables false

theorem Try.infoA : (Try.prog.info? 79).map (fun i => (i.zero, i.size, i.bytes)) = some (some (.agg #[.int .i64 0, .int .i64 0, .int .i64 0, .int .i64 0, .int .i64 0, .int .i64 0]), 6, 48) := by kernel_rfl

/-- Rows of six numbers that lie. -/
structure Cl.Mx (W : World) (g n : Nat) (M : Nat → Nat → Int) : Prop where
  at_ : ∀ i j, i < n → j < 6 → W.cell? ⟨g, i * 6 + j, none⟩ = some (.int .i64 (M i j))
  fr : ∀ o, W.frozen? ⟨g, o, none⟩ = false
  lt : g < W.heap.size
theorem Cl.Mx.later {W W' : World} {g n : Nat} {M : Nat → Nat → Int} (h : Cl.Mx W g n M) (hb : Below W.heap.size W W') : Cl.Mx W' g n M :=
  ⟨fun i j hi hj => (hb.cell (p := ⟨g, i * 6 + j, none⟩) h.lt).trans (h.at_ i j hi hj), fun o => (hb.frozen (p := ⟨g, o, none⟩) h.lt).trans (h.fr o), by have := hb.size; have := h.lt; omega⟩
def Cl.upd (M : Nat → Nat → Int) (i c : Nat) (v : Int) : Nat → Nat → Int := fun a b => if a = i ∧ b = c then v else M a b
theorem Cl.Mx.set {W : World} {g n : Nat} {M : Nat → Nat → Int} (h : Cl.Mx W g n M) (i c : Nat) (v : Int) (hi : i < n) (hc : c < 6) : Cl.Mx (W.setCell ⟨g, i * 6 + c, none⟩ (.int .i64 v)) g n (Cl.upd M i c v) := by
  refine ⟨fun a b ha hb => ?_, fun o => by simpa using h.fr o, by simpa using h.lt⟩
  unfold Cl.upd
  by_cases he : a = i ∧ b = c
  · rw [if_pos he]
    obtain ⟨rfl, rfl⟩ := he
    exact World.cell?_setCell_same _ _ _ (h.at_ a b ha hb)
  · rw [if_neg he, World.cell?_setCell_other _ _ _ _ (by intro hh; have := congrArg Addr.off hh; simp at this; omega)]
    exact h.at_ a b ha hb
/-- The events that such rows tell. -/
def Cl.evM (n : Nat) (M : Nat → Nat → Int) : List Ev := (List.range n).map fun i => ⟨M i 0, M i 1, M i 2, M i 3, M i 4, M i 5⟩
theorem Cl.evM_length (n : Nat) (M : Nat → Nat → Int) : (Cl.evM n M).length = n := by unfold Cl.evM; simp
theorem Cl.Mx.reads {W : World} {g n : Nat} {M : Nat → Nat → Int} (h : Cl.Mx W g n M) : Cl.RE W (some ⟨g, 0, none⟩) (Cl.evM n M) := by
  refine ⟨fun i x hi => ?_⟩
  have hlt : i < n := by have := (List.getElem?_eq_some_iff.1 hi).1; rw [Cl.evM_length] at this; exact this
  unfold Cl.evM at hi
  rw [List.getElem?_map, List.getElem?_range hlt] at hi
  cases hi
  refine ⟨g, 0, rfl, h.lt, ?_, ?_, ?_, ?_, ?_, ?_⟩ <;> rw [Nat.zero_add]
  · simpa using h.at_ i 0 hlt (by omega)
  · exact h.at_ i 1 hlt (by omega)
  · exact h.at_ i 2 hlt (by omega)
  · exact h.at_ i 3 hlt (by omega)
  · exact h.at_ i 4 hlt (by omega)
  · exact h.at_ i 5 hlt (by omega)

theorem Cl.made (n : Nat) (w : World) (hn : n ≤ 4000) :
    ∃ W, (Instr.makeSlice 84 (.int .i64 (n : Nat)) (.int .i64 (n : Nat))).run Try.prog w = .ok (.slice (some ⟨w.heap.size, 0, none⟩) n n) W ∧ Cl.Mx W w.heap.size n (fun _ _ => 0) ∧ Below w.heap.size w W := by
  obtain ⟨i0, hi, hz0, hz1, hz2⟩ := info_of Try.infoA
  have hr := run_make (P := Try.prog) w 84 79 i0 _ Try.underlying84 hi hz0 .i64 .i64 (n : Int) (n : Int) (by omega) (Int.le_refl _) (by rw [hz2]; omega) (by omega)
  simp only [Int.toNat_natCast] at hr
  refine ⟨_, hr, ⟨fun i j hi hj => ?_, fun o => by go_simp, by simp⟩, (Below.refl _ _).alloc (Nat.le_refl _) _⟩
  rw [World.cell?_alloc_new, hz1]
  have hlt : i * 6 + j < n * 6 := by omega
  simp [madeCells, Value.cells, hlt]
  match j, hj with
  | 0, _ => rfl
  | 1, _ => rfl
  | 2, _ => rfl
  | 3, _ => rfl
  | 4, _ => rfl
  | 5, _ => rfl

theorem Cl.dec_fail {bs r r1 r2 : List Nat} {n c k : Nat} {cols : List (List Int)} {ys : List Int} (hn : Cl.natG 6 true bs = some (n, r)) (h4 : ¬ 4000 < n) (hc : Cl.decCols n c r = some (cols, r1)) (hc6 : c < 6) (hk : Cl.decC k 0 r1 = some (ys, r2)) (hkn : k < n) (hf : Cl.natG 6 true r2 = none) : Cl.decR bs = ([], 1) := by
  have h1 : Cl.decC (k + 1) 0 r1 = none := by rw [Cl.decC_snoc, hk]; show Option.map _ (Cl.natG 6 true r2) = none; rw [hf]; rfl
  have h2 : Cl.decC n 0 r1 = none := by
    have := Cl.decC_none (k + 1) 0 r1 h1 (n - (k + 1))
    rwa [show k + 1 + (n - (k + 1)) = n by omega] at this
  have h3 : Cl.decCols n (c + 1) r = none := by
    show (Cl.decCols n c r).bind _ = none
    rw [hc]
    show Option.map _ (Cl.decC n 0 r1) = none
    rw [h2]
    rfl
  have h5 : Cl.decCols n 6 r = none := by
    have := Cl.decCols_none n (c + 1) r h3 (6 - (c + 1))
    rwa [show c + 1 + (6 - (c + 1)) = 6 by omega] at this
  unfold Cl.decR
  rw [hn]
  show (if 4000 < n then _ else match Cl.decCols n 6 r with | none => _ | some y => _) = _
  rw [if_neg h4, h5]
theorem Cl.dec_end {bs r r1 : List Nat} {n : Nat} {cols : List (List Int)} (hn : Cl.natG 6 true bs = some (n, r)) (h4 : ¬ 4000 < n) (hc : Cl.decCols n 6 r = some (cols, r1)) : Cl.decR bs = if r1 = [] ∧ (Cl.evs n cols).all Ev.ok = true then (Cl.evs n cols, 0) else ([], 1) := by
  unfold Cl.decR
  rw [hn]
  show (if 4000 < n then _ else match Cl.decCols n 6 r with | none => _ | some y => _) = _
  rw [if_neg h4, hc]
theorem Cl.evs_eq {n : Nat} {M : Nat → Nat → Int} {cols : List (List Int)} (h : ∀ j i, j < 6 → i < n → M i j = ((cols[j]?).getD [])[i]?.getD 0) : Cl.evM n M = Cl.evs n cols := by
  unfold Cl.evM Cl.evs
  apply List.map_congr_left
  intro i hi
  have hi' : i < n := List.mem_range.1 hi
  rw [h 0 i (by omega) hi', h 1 i (by omega) hi', h 2 i (by omega) hi', h 3 i (by omega) hi', h 4 i (by omega) hi', h 5 i (by omega) hi']
theorem Cl.zag_bound {x : Nat} (h : x < 4398046511104) : -2199023255552 ≤ Cl.zag x ∧ Cl.zag x ≤ 2199023255552 := by
  unfold Cl.zag
  split <;> omega

set_option maxRecDepth 100000 in
set_option maxHeartbeats 3200000 in
theorem Decode_wr (bs : List Nat) (w : World) (hl : bs.length ≤ maxLen) (hb : ∀ b ∈ bs, b < 256) :
    Calls Try.prog 19 #[.string (Cl.str bs)] w fun e w' => ∃ a c, e = .returned (.tuple #[.slice a (Cl.decR bs).1.length c, .int .i64 ((Cl.decR bs).2 : Nat)]) ∧ Cl.RE w' a (Cl.decR bs).1 ∧ Below w.heap.size w w' ∧ Rs.Wr 6 0 w.heap.size w' a (Cl.decR bs).1.length := by
  have HB := hide hb
  clear hb
  go_enter Try.func19, Try.ntmps19
  go_wp2_with fail
  refine (cut_any bs _ hl (unhide HB)).mono ?_
  rintro e w1 ⟨rfl, hb1⟩
  have HB1 := hide hb1
  have hz1 := hb1.size
  clear hb1
  cases hn : Cl.natG 6 true bs with
  | none =>
    have hR : Cl.decR bs = ([], 1) := by unfold Cl.decR; rw [hn]
    have HRR := hide hR
    clear hR hn
    unfold Cl.cutV
    go_wp2_with fail
    refine bodyPost_ret (v := .tuple #[.slice none 0 0, .int .i64 1]) (by simp [results, Try.results19, go_sem]) rfl ?_
    rw [unhide HRR]
    exact ⟨none, 0, rfl, Cl.RE.nil _ _, unhide HB1, Rs.Wr.nil _ _ _ _ _⟩
  | some x =>
    obtain ⟨n, r⟩ := x
    obtain ⟨hn1, hn2, hn3⟩ := Cl.natG_lt 6 true bs (n, r) (unhide HB) hn
    have e6 : (128 : Nat) ^ 6 = 4398046511104 := by decide
    rw [e6] at hn1
    have HRB := hide (show ∀ b ∈ r, b < 256 from hn2)
    have hrl : r.length ≤ maxLen := by have : r.length < bs.length := hn3; omega
    have hnn : n < 4398046511104 := hn1
    by_cases h4 : 4000 < n
    · have hR : Cl.decR bs = ([], 2) := by unfold Cl.decR; rw [hn]; show (if 4000 < n then _ else _) = _; rw [if_pos h4]
      have HRR := hide hR
      have h4i : (4000 : Int) < (n : Int) := by omega
      clear hR hn hn1 hn2 hn3 e6
      unfold Cl.cutV
      go_wp2_with fail
      refine bodyPost_ret (v := .tuple #[.slice none 0 0, .int .i64 2]) (by simp [results, Try.results19, go_sem]) rfl ?_
      rw [unhide HRR]
      exact ⟨none, 0, rfl, Cl.RE.nil _ _, unhide HB1, Rs.Wr.nil _ _ _ _ _⟩
    · have h4i : ¬ (4000 : Int) < (n : Int) := by omega
      have HN := hide hn
      clear hn hn1 hn2 hn3 e6
      unfold Cl.cutV
      obtain ⟨W2, hmk, hmx, hbm⟩ := Cl.made n w1 (by omega)
      have HMX := hide hmx
      have HB2 := hide ((unhide HB1).trans (hbm.mono hz1))
      clear hmx hbm
      go_wp2_with fail
      go_loopw [5, 25] (fun sv v wr => ∃ (c : Nat) (cols : List (List Int)) (r' : List Nat) (M : Nat → Nat → Int), c ≤ 6 ∧ v = .int .i64 (c : Nat) ∧ sv = .string (Cl.str r') ∧ Cl.decCols n c r = some (cols, r') ∧ cols.length = c ∧ Cl.Mx wr w1.heap.size n M ∧ (∀ j i, j < c → i < n → M i j = ((cols[j]?).getD [])[i]?.getD 0) ∧ (∀ b ∈ r', b < 256) ∧ r'.length ≤ maxLen ∧ Below w.heap.size w wr) (fun _ v _ => 6 - (intOf v).toNat)
      case atStart => exact ⟨0, [], r, fun _ _ => 0, by omega, rfl, rfl, rfl, rfl, unhide HMX, fun j i h => by omega, unhide HRB, hrl, unhide HB2⟩
      case round =>
        obtain ⟨c, cols, r1, M, hc, rfl, rfl, hdc, hcl, hmx, hmc, hrb, hr1, hbe⟩ := hrel
        have HDC := hide hdc
        have HMX1 := hide hmx
        have HMC := hide hmc
        have HRB1 := hide hrb
        have HBE := hide hbe
        have hz := hbe.size
        clear hdc hmx hmc hrb hbe
        by_cases hlt : c < 6
        · have hc2 : (c : Int) < 6 := by omega
          obtain ⟨wo, hwo⟩ : ∃ wo, wo = wr := ⟨wr, rfl⟩
          subst hwo
          go_wp2_with fail
          go_loopw [5, 9, 30] (fun sv pv v wr => ∃ (k : Nat) (ys : List Int) (r2 : List Nat) (M2 : Nat → Nat → Int), k ≤ n ∧ v = .int .i64 (k : Nat) ∧ pv = .int .i64 (Cl.lastD 0 ys) ∧ sv = .string (Cl.str r2) ∧ Cl.decC k 0 r1 = some (ys, r2) ∧ Cl.Mx wr w1.heap.size n M2 ∧ (∀ j i, j < c → i < n → M2 i j = ((cols[j]?).getD [])[i]?.getD 0) ∧ (∀ i, i < k → M2 i c = ys[i]?.getD 0) ∧ (∀ b ∈ r2, b < 256) ∧ r2.length ≤ maxLen ∧ (-(k * 2199023255552 : Int) ≤ Cl.lastD 0 ys ∧ Cl.lastD 0 ys ≤ k * 2199023255552) ∧ Below w.heap.size w wr) (fun _ _ v _ => n - (intOf v).toNat)
          case atStart => exact ⟨0, [], r1, M, by omega, rfl, rfl, rfl, rfl, unhide HMX1, unhide HMC, fun i h => by omega, unhide HRB1, hr1, ⟨by show _ ≤ (0 : Int); omega, by show (0 : Int) ≤ _; omega⟩, unhide HBE⟩
          case round =>
            obtain ⟨k, ys, r2, M2, hk, rfl, rfl, rfl, hdk, hmx2, hmc2, hmk2, hrb2, hr2, hlb, hbe2⟩ := hrel
            have HDK := hide hdk
            have HMX2 := hide hmx2
            have HMC2 := hide hmc2
            have HMK2 := hide hmk2
            have HRB2 := hide hrb2
            have HBE2 := hide hbe2
            have hzz := hbe2.size
            clear hdk hmx2 hmc2 hmk2 hrb2 hbe2
            by_cases hkn : k < n
            · have hk1 : (0 : Int) ≤ (k : Int) := by omega
              have hk2 : (k : Int) < (n : Int) := by omega
              go_wp2_with fail
              refine (cut_any r2 _ hr2 (unhide HRB2)).mono ?_
              rintro e w3 ⟨rfl, hb3⟩
              have HB3 := hide ((unhide HBE2).trans (hb3.mono hzz))
              have HMX3 := hide ((unhide HMX2).later hb3)
              clear hb3
              cases hx : Cl.natG 6 true r2 with
              | none =>
                have HRR := hide (Cl.dec_fail (unhide HN) h4 (unhide HDC) hlt (unhide HDK) hkn hx)
                clear hx
                unfold Cl.cutV
                go_wp2_with fail
                refine bodyPost_ret (v := .tuple #[.slice none 0 0, .int .i64 1]) (by simp [results, Try.results19, go_sem]) rfl ?_
                rw [unhide HRR]
                exact ⟨none, 0, rfl, Cl.RE.nil _ _, unhide HB3, Rs.Wr.nil _ _ _ _ _⟩
              | some x =>
                obtain ⟨y, r3⟩ := x
                obtain ⟨hy1, hy2, hy3⟩ := Cl.natG_lt 6 true r2 (y, r3) (unhide HRB2) hx
                have e6 : (128 : Nat) ^ 6 = 4398046511104 := by decide
                rw [e6] at hy1
                have hyy : y < 4398046511104 := hy1
                have hzb := Cl.zag_bound hyy
                have HRB3 := hide (show ∀ b ∈ r3, b < 256 from hy2)
                have hr3 : r3.length ≤ maxLen := by have : r3.length < r2.length := hy3; omega
                have HDK3 := hide (show Cl.decC (k + 1) 0 r1 = some (ys ++ [Cl.lastD 0 ys + Cl.zag y], r3) by rw [Cl.decC_snoc, unhide HDK]; show Option.map _ (Cl.natG 6 true r2) = _; rw [hx]; rfl)
                have HYL := hide (Cl.decC_len k 0 r1 _ (unhide HDK))
                have HLS := hide (Cl.lastD_snoc (Cl.lastD 0 ys + Cl.zag y) ys 0)
                clear hx hy1 hy2 hy3 e6
                unfold Cl.cutV
                go_wp2_with fail
                refine (number_any y _ hyy).mono ?_
                rintro e w4 ⟨rfl, rfl⟩
                generalize hL : Cl.lastD 0 ys = L at *
                generalize hZ : Cl.zag y = Z at *
                have hcell := (unhide HMX3).at_ k c hkn hlt
                have hfr := (unhide HMX3).fr (k * 6 + c)
                have hgl := (unhide HMX3).lt
                go_wp2_with fail
                refine ⟨⟨k + 1, ys ++ [L + Z], r3, Cl.upd M2 k c (L + Z), by omega, by go_num, by rw [unhide HLS], rfl, unhide HDK3, (unhide HMX3).set k c (L + Z) hkn hlt, ?_, ?_, unhide HRB3, hr3, ?_, (unhide HB3).setCell (by show w.heap.size ≤ w1.heap.size; omega) _⟩, by simp [intOf]; omega⟩
                · intro j i hj hi
                  unfold Cl.upd
                  rw [if_neg (by omega)]
                  exact (unhide HMC2) j i hj hi
                · intro i hi
                  have hyl : ys.length = k := unhide HYL
                  unfold Cl.upd
                  by_cases hik : i = k
                  · subst hik
                    rw [if_pos ⟨rfl, rfl⟩, List.getElem?_append_right (by omega), hyl]
                    simp
                  · rw [if_neg (by omega), List.getElem?_append_left (by omega)]
                    exact (unhide HMK2) i (by omega)
                · rw [unhide HLS]
                  constructor <;> omega
            · have hk2 : ¬ (k : Int) < (n : Int) := by omega
              have hkn2 : k = n := by omega
              subst hkn2
              go_wp2_with fail
              refine ⟨⟨c + 1, cols ++ [ys], r2, M2, by omega, by go_num, rfl, ?_, by simp [hcl], unhide HMX2, ?_, unhide HRB2, hr2, unhide HBE2⟩, by simp [intOf]; omega⟩
              · show (Cl.decCols k c r).bind _ = _
                rw [unhide HDC]
                show Option.map _ (Cl.decC k 0 r1) = _
                rw [unhide HDK]
                rfl
              · intro j i hj hi
                by_cases hjc : j < c
                · rw [List.getElem?_append_left (by omega)]
                  exact (unhide HMC2) j i hjc hi
                · have hje : j = c := by omega
                  subst hje
                  rw [List.getElem?_append_right (by omega), hcl]
                  simpa using (unhide HMK2) i hi
        · have hc2 : ¬ (c : Int) < 6 := by omega
          have hc6 : c = 6 := by omega
          subst hc6
          have HEQ := hide (Cl.evs_eq (unhide HMC))
          have HEND := hide (Cl.dec_end (unhide HN) h4 (unhide HDC))
          have hevc := events_wr (Cl.evM n M) (some ⟨w1.heap.size, 0, none⟩) n wr (unhide HMX1).reads (by rw [Cl.evM_length]; omega)
          rw [Cl.evM_length] at hevc
          have HEV := hide hevc
          have HML := hide (Cl.evM_length n M)
          clear hevc
          go_wp2_with fail
          refine (unhide HEV).mono ?_
          rintro e w5 ⟨a5, c5, rfl, hre5, hb5, hwr5⟩
          have HRE5 := hide hre5
          have HWR5 := hide (hwr5.lower hz)
          have HB5 := hide ((unhide HBE).trans (hb5.mono hz))
          have hz5 := hb5.size
          clear hre5 hb5 hwr5
          have haw := AreWithin_any (Cl.evM n M) a5 c5 w5 (unhide HRE5) (by rw [unhide HML]; omega)
          rw [unhide HML] at haw
          have HAW := hide haw
          clear haw
          by_cases hr0 : r1 = []
          · have hs0 : Cl.str r1 = ⟨#[]⟩ := by rw [hr0]; rfl
            rw [hs0]
            go_wp2_with fail
            refine (unhide HAW).mono ?_
            rintro e w6 ⟨rfl, hb6⟩
            have HB6 := hide ((unhide HB5).trans (hb6.mono (unhide HB5).size))
            have HRE6 := hide ((unhide HRE5).later hb6 (Nat.le_refl _))
            have HWR6 := hide ((unhide HWR5).below hb6 (Nat.le_refl _))
            clear hb6
            cases hok : (Cl.evM n M).all Ev.ok
            · have hR : Cl.decR bs = ([], 1) := by rw [unhide HEND, if_neg (by rw [← unhide HEQ, hok]; simp)]
              have HRR := hide hR
              clear hR hok
              go_wp2_with fail
              refine bodyPost_ret (v := .tuple #[.slice none 0 0, .int .i64 1]) (by simp [results, Try.results19, go_sem]) rfl ?_
              rw [unhide HRR]
              exact ⟨none, 0, rfl, Cl.RE.nil _ _, unhide HB6, Rs.Wr.nil _ _ _ _ _⟩
            · have hR : Cl.decR bs = (Cl.evM n M, 0) := by rw [unhide HEND, if_pos ⟨hr0, by rw [← unhide HEQ]; exact hok⟩, unhide HEQ]
              have HRR := hide hR
              clear hR hok
              go_wp2_with fail
              refine bodyPost_ret (v := .tuple #[.slice a5 n c5, .int .i64 0]) (by simp [results, Try.results19, go_sem]) rfl ?_
              rw [unhide HRR]
              exact ⟨a5, c5, by rw [unhide HML]; rfl, unhide HRE6, unhide HB6, by rw [unhide HML]; exact unhide HWR6⟩
          · have hs0 : ¬ (Cl.str r1).toList = [] := fun hh => hr0 (by
              have h1 := congrArg List.length hh
              rw [ByteArray.toList_eq] at h1
              have h2 := Cl.str_size r1
              exact List.eq_nil_of_length_eq_zero (h2.symm.trans (by simpa using h1)))
            have hR : Cl.decR bs = ([], 1) := by rw [unhide HEND, if_neg (by intro hh; exact hr0 hh.1)]
            have HRR := hide hR
            clear hR hr0
            go_wp2_with fail
            refine bodyPost_ret (v := .tuple #[.slice none 0 0, .int .i64 1]) (by simp [results, Try.results19, go_sem]) rfl ?_
            rw [unhide HRR]
            exact ⟨none, 0, rfl, Cl.RE.nil _ _, unhide HB5, Rs.Wr.nil _ _ _ _ _⟩
theorem Decode_any (bs : List Nat) (w : World) (hl : bs.length ≤ maxLen) (hb : ∀ b ∈ bs, b < 256) :
    Calls Try.prog 19 #[.string (Cl.str bs)] w fun e w' => ∃ a c, e = .returned (.tuple #[.slice a (Cl.decR bs).1.length c, .int .i64 ((Cl.decR bs).2 : Nat)]) ∧ Cl.RE w' a (Cl.decR bs).1 ∧ Below w.heap.size w w' :=
  (Decode_wr bs w hl hb).mono fun e w' ⟨a, c, h1, h2, h3, _⟩ => ⟨a, c, h1, h2, h3⟩
end Go.Proofs.Ytpabpcojiaklfaa
