/-
  Contracts of the document's own CheckAsk: AskArgs, askParts, askCheck. By the verifier.
-/
import Derived.Test.YtfhlnelgnnkeoaaGreatDoorQRule
import Derived.Test.YtfhlnelgnnkeoaaGreatDoorILeaf
import Derived.Deep.DeepCutAuto
namespace Go.Proofs.YtfhlnelgnnkeoaaGreatDoor
open Go.RowKit
set_option linter.unusedVariables false

set_option maxHeartbeats 400000 in
theorem AskArgs_any (k : Int) (w : World) :
    Calls Tryz.prog 25 #[.int .i64 k] w fun r w' => r = .returned (.int .i64 (Qk.argsN k : Nat)) ∧ w' = w := by
  by_cases h6 : k ≤ 6
  · have HN := hide (show Qk.argsN k = 0 by simp [Qk.argsN, h6])
    go_enter Tryz.func25, Tryz.ntmps25
    go_wp2_with fail
    go_ret
    exact ⟨ret_int (by rw [unhide HN]; rfl), rfl⟩
  · by_cases h8 : k = 8
    · subst h8
      go_enter Tryz.func25, Tryz.ntmps25
      go_wp2_with fail
      go_ret
      exact ⟨rfl, rfl⟩
    · by_cases h9 : k = 9
      · subst h9
        go_enter Tryz.func25, Tryz.ntmps25
        go_wp2_with fail
        go_ret
        exact ⟨rfl, rfl⟩
      · by_cases h13 : k = 13
        · subst h13
          go_enter Tryz.func25, Tryz.ntmps25
          go_wp2_with fail
          go_ret
          exact ⟨rfl, rfl⟩
        · have HN := hide (show Qk.argsN k = 1 by unfold Qk.argsN; rw [if_neg h6, if_neg (by omega)])
          have g8 : (k == 8) = false := by simpa using h8
          have g9 : (k == 9) = false := by simpa using h9
          have g13 : (k == 13) = false := by simpa using h13
          clear h8 h9 h13
          go_enter Tryz.func25, Tryz.ntmps25
          go_wp2_with fail
          go_ret
          exact ⟨ret_int (by rw [unhide HN]; rfl), rfl⟩

set_option maxHeartbeats 1600000 in
theorem askParts_any : ∀ (n : Nat) (e : Qk.E) (x : Qk.AT n) (w : World) (enough : Int), Qk.RA w n e x → 0 ≤ enough → enough ≤ 1000 →
    Calls Tryz.prog 22 #[e.val, .int .i64 enough] w fun r w' => r = .returned (.int .i64 (Qk.capP enough (Qk.parts n x))) ∧ Below w.heap.size w w' := by
  intro n
  induction n with
  | zero => intro e x w enough h; exact absurd h id
  | succ n ih =>
    intro e x w enough hre h0 h1
    obtain ⟨hf, hs⟩ := hre
    have hlen := hs.len
    have hfew := hs.few
    rw [← hlen] at hfew
    have HS := hide hs
    have HLN := hide hlen
    have IH := hide ih
    clear hs hf hlen ih
    unfold Qk.E.val
    go_enter Tryz.func22, Tryz.ntmps22
    go_wp2_with fail
    go_loopw [5, 6] (fun nv iv wr => ∃ (i : Nat) (l : Int), i ≤ e.args.len ∧ iv = .int .i64 i ∧ nv = .int .i64 l ∧ l = Qk.capP enough (1 + Qk.sumTo (Qk.parts n) x.2 i) ∧ w.heap.size + 1 ≤ wr.heap.size ∧
      Below (w.heap.size + 1) (w.alloc (.cells #[.int .i64 e.k, .int .i64 e.n, .slice e.args.ad e.args.len e.args.cap] 24)) wr) (fun _ iv _ => e.args.len - (intOf iv).toNat)
    case atStart =>
      refine ⟨0, 1, Nat.zero_le _, rfl, rfl, ?_, by simp, Below.refl _ _⟩
      show _ = Qk.capP enough 1
      unfold Qk.capP; split <;> omega
    case round =>
      obtain ⟨i, l, hi, rfl, rfl, hl, hz, hbe⟩ := hrel
      have hl1 : 0 ≤ l := by rw [hl]; unfold Qk.capP; split <;> omega
      have hl2 : l ≤ 1001 := by rw [hl]; unfold Qk.capP; split <;> omega
      have b2 : wr.cell? ⟨w.heap.size, 2, none⟩ = some (.slice e.args.ad e.args.len e.args.cap) := (hbe.cell (p := ⟨w.heap.size, 2, none⟩) (by show w.heap.size < _; omega)).trans (by simp)
      have HL := hide hl
      have hbw : Below w.heap.size w wr := ((Below.refl _ _).alloc (Nat.le_refl _) _).trans (hbe.mono (by omega))
      have HBW := hide hbw
      have HBE := hide hbe
      clear hl hbe hbw
      by_cases hlt : i < e.args.len
      · have hlt2 : i < x.2.length := by have := unhide HLN; omega
        have hy := List.getElem?_eq_getElem hlt2
        obtain ⟨b, o, c, had, hb, hlies, hrd⟩ := (unhide HS).at_ i _ hy
        have hsum := Qk.sumTo_succ (Qk.parts n) x.2 i _ hy
        have hpar : Qk.parts (n + 1) x = 1 + (x.2.map (Qk.parts n)).sum := rfl
        have hsle := Qk.sumTo_le (Qk.parts n) x.2 i (by omega)
        have hsle2 := Qk.sumTo_le (Qk.parts n) x.2 (i + 1) hlt2
        generalize x.2[i] = y at *
        have hll := hlies.later (unhide HBW) (Nat.le_refl _) hb
        obtain ⟨p0, p1, p2⟩ := hll
        have HRD := hide (hrd.later (unhide HBW) (Nat.le_refl _))
        have HSU := hide hsum
        clear hlies hrd hsum hy
        have hi0 : (0 : Int) ≤ (i : Int) := by omega
        have hi1 : (i : Int) < (e.args.len : Int) := by omega
        rw [had] at b2
        rw [had]
        by_cases hle : l ≤ enough
        · have hnew : Hid (l + Qk.capP (enough - l) (Qk.parts n y) = Qk.capP enough (1 + Qk.sumTo (Qk.parts n) x.2 (i + 1))) := by
            show _ = _
            have a := unhide HL
            have b := unhide HSU
            rw [b]
            unfold Qk.capP at a ⊢
            split at a
            · by_cases hc : ((Qk.parts n y : Nat) : Int) ≤ enough - l
              · rw [if_pos hc, if_pos (by omega)]; omega
              · rw [if_neg hc, if_neg (by omega)]; omega
            · omega
          have hcb : 0 ≤ Qk.capP (enough - l) (Qk.parts n y) ∧ Qk.capP (enough - l) (Qk.parts n y) ≤ 1001 := by unfold Qk.capP; split <;> omega
          have HCB := hide hcb
          clear hpar hsle hsle2 hcb
          go_wp2_with fail
          refine ((unhide IH) c y _ (enough - l) (unhide HRD) (by omega) (by omega)).mono ?_
          rintro r w1 ⟨rfl, hb1⟩
          have hz1 := hb1.size
          have HB1 := hide ((unhide HBE).trans (hb1.mono (by omega)))
          clear hb1
          obtain ⟨hcb1, hcb2⟩ := unhide HCB
          have HNW := hnew
          clear hnew
          go_wp2_with fail
          exact ⟨⟨i + 1, l + Qk.capP (enough - l) (Qk.parts n y), by omega, by go_num, rfl, unhide HNW, by omega, by have := unhide HB1; rw [had] at this; exact this⟩, by simp [intOf]; omega⟩
        · have hfin : Hid (l = Qk.capP enough (Qk.parts (n + 1) x)) := by
            show _ = _
            have a := unhide HL
            unfold Qk.capP at a ⊢
            rw [hpar]
            split at a
            · omega
            · rw [if_neg (by omega)]; omega
          clear hpar hsle hsle2
          go_wp2_with fail
          go_ret
          exact ⟨ret_int (unhide hfin), unhide HBW⟩
      · have hfin : Hid (l = Qk.capP enough (Qk.parts (n + 1) x)) := by
          show _ = _
          have a := unhide HL
          have e1 : i = x.2.length := by have := unhide HLN; omega
          rw [a, e1, Qk.sumTo_all]; rfl
        go_wp2_with fail
        go_ret
        exact ⟨ret_int (unhide hfin), unhide HBW⟩

theorem Qk.isK_btw (k : Int) : Ix.btw k 1 14 = Qk.isK k := rfl
theorem Qk.within_btw (k n : Int) : Ix.btw n (Qk.least k) (Qk.most k) = Qk.within k n := rfl

/-- What least and most are, kind by kind. -/
theorem Qk.limits (k : Int) : ((k = 1 ∨ k = 2 ∨ k = 3) ∧ Qk.least k = -1 ∧ Qk.most k = 9999999) ∨ ((k = 5 ∨ k = 6) ∧ Qk.least k = -9999999 ∧ Qk.most k = 9999999) ∨ (k = 14 ∧ Qk.least k = 0 ∧ Qk.most k = 4000) ∨
    ((k == 1) = false ∧ (k == 2) = false ∧ (k == 3) = false ∧ (k == 5) = false ∧ (k == 6) = false ∧ (k == 14) = false ∧ Qk.least k = 0 ∧ Qk.most k = 0) := by
  by_cases h1 : k = 1 ∨ k = 2 ∨ k = 3
  · exact Or.inl ⟨h1, by unfold Qk.least; rw [if_pos h1], by unfold Qk.most; rw [if_pos (by omega)]⟩
  · by_cases h2 : k = 5 ∨ k = 6
    · exact Or.inr (Or.inl ⟨h2, by unfold Qk.least; rw [if_neg h1, if_pos h2], by unfold Qk.most; rw [if_pos (by omega)]⟩)
    · by_cases h3 : k = 14
      · exact Or.inr (Or.inr (Or.inl ⟨h3, by unfold Qk.least; rw [if_neg h1, if_neg h2], by unfold Qk.most; rw [if_neg (by omega), if_pos h3]⟩))
      · refine Or.inr (Or.inr (Or.inr ⟨by simp; omega, by simp; omega, by simp; omega, by simp; omega, by simp; omega, by simp; omega, by unfold Qk.least; rw [if_neg h1, if_neg h2], by unfold Qk.most; rw [if_neg (by omega), if_neg h3]⟩))

set_option maxRecDepth 100000 in
set_option maxHeartbeats 1600000 in
theorem askCheck_any : ∀ (n : Nat) (e : Qk.E) (x : Qk.AT n) (w : World), Qk.RA w n e x →
    Calls Tryz.prog 23 #[e.val] w fun r w' => r = .returned (.int .i64 (Qk.wrong n x : Nat)) ∧ Below w.heap.size w w' := by
  intro n
  induction n with
  | zero => intro e x w h; exact absurd h id
  | succ n ih =>
    intro e x w hre
    obtain ⟨⟨hk, hn⟩, hs⟩ := hre
    have hlen := hs.len
    have hfew := hs.few
    rw [← hlen] at hfew
    have HWR := hide (show Qk.wrong (n + 1) x = if Qk.isK e.k then (if e.args.len = Qk.argsN e.k then (if Qk.within e.k e.n then Qk.firstW (x.2.map (Qk.wrong n)) else 3) else 1) else 7 by rw [hk, hn, hlen]; rfl)
    have HS := hide hs
    have HLN := hide hlen
    have IH := hide ih
    have HK := hide (Qk.isK_btw e.k)
    have HWI := hide (Qk.within_btw e.k e.n)
    have HLM := hide (Qk.limits e.k)
    have HAA := hide (AskArgs_any e.k)
    generalize Qk.wrong (n + 1) x = WR at *
    generalize Qk.isK e.k = K at *
    generalize Qk.argsN e.k = AN at *
    generalize Qk.least e.k = L at *
    generalize Qk.most e.k = M at *
    generalize Qk.within e.k e.n = WI at *
    clear hs hk hn hlen ih
    unfold Qk.E.val
    go_enter Tryz.func23, Tryz.ntmps23
    go_wp2_with fail
    obtain ⟨W1, hW1⟩ : ∃ W1, W1 = w.alloc (.cells #[.int .i64 e.k, .int .i64 e.n, .slice e.args.ad e.args.len e.args.cap] 24) := ⟨_, rfl⟩
    have hs1 : w.heap.size < W1.heap.size := by rw [hW1]; simp
    have HB1 := hide (show Below w.heap.size w W1 by rw [hW1]; exact (Below.refl _ _).alloc (Nat.le_refl _) _)
    have HC1 := hide (show W1.cell? ⟨w.heap.size, 0, none⟩ = some (.int .i64 e.k) ∧ W1.cell? ⟨w.heap.size, 1, none⟩ = some (.int .i64 e.n) ∧ W1.cell? ⟨w.heap.size, 2, none⟩ = some (.slice e.args.ad e.args.len e.args.cap) by rw [hW1]; exact ⟨by simp, by simp, by simp⟩)
    rw [← hW1]
    clear hW1
    refine (ibetween_any _ _ _ _).mono ?_
    rintro r w1 ⟨rfl, rfl⟩
    rw [unhide HK]
    obtain ⟨c0, c1, c2⟩ := unhide HC1
    cases K
    · go_wp2_with fail
      go_ret
      exact ⟨ret_int (by rw [unhide HWR]; rfl), unhide HB1⟩
    · by_cases hA : e.args.len = AN
      · have g1 : ((e.args.len : Int) != (AN : Int)) = false := by rw [hA]; simp
        have HWZ := hide (show WR = if WI then Qk.firstW (x.2.map (Qk.wrong n)) else 3 by rw [unhide HWR, if_pos rfl, if_pos hA])
        clear hA
        go_wp2_with fail
        go_quiet (first | (go_at_call 25; refine Calls.quiet_of_same ((unhide HAA) _)))
        have HBQ := hide (below_drewN (unhide HB1) nq)
        have q0 : (w1.drewN nq).cell? ⟨w.heap.size, 0, none⟩ = some (.int .i64 e.k) := by go_simp
        have q1 : (w1.drewN nq).cell? ⟨w.heap.size, 1, none⟩ = some (.int .i64 e.n) := by go_simp
        have q2 : (w1.drewN nq).cell? ⟨w.heap.size, 2, none⟩ = some (.slice e.args.ad e.args.len e.args.cap) := by go_simp
        have hsq : w.heap.size < (w1.drewN nq).heap.size := by simpa using hs1
        generalize w1.drewN nq = WQ at *
        clear c0 c1 c2
        rcases unhide HLM with ⟨h | h | h, hL, hM⟩ | ⟨h | h, hL, hM⟩ | ⟨h, hL, hM⟩ | ⟨k1, k2, k3, k5, k6, k14, hL, hM⟩
        · have k1 : (e.k == 1) = true := by rw [h]; rfl
          clear h
          subst hL hM
          go_wp2_with fail
          refine (ibetween_any _ _ _ _).mono ?_
          rintro r w2 ⟨rfl, hw2⟩
          obtain rfl : WQ = w2 := hw2.symm
          rw [unhide HWI]
          cases WI
          · go_wp2_with fail
            go_ret
            exact ⟨ret_int (by rw [unhide HWZ]; rfl), unhide HBQ⟩
          · go_wp2_with fail
            go_loopw [5] (fun iv wr => ∃ (i : Nat), i ≤ e.args.len ∧ iv = .int .i64 i ∧ WR = Qk.firstW ((x.2.drop i).map (Qk.wrong n)) ∧ Below WQ.heap.size WQ wr) (fun iv _ => e.args.len - (intOf iv).toNat)
            case atStart => exact ⟨0, Nat.zero_le _, rfl, unhide HWZ, Below.refl _ _⟩
            case round =>
              obtain ⟨i, hi, rfl, hwr, hbe⟩ := hrel
              have hz := hbe.size
              have d2 := (hbe.cell (p := ⟨w.heap.size, 2, none⟩) hsq).trans q2
              have HBE := hide hbe
              have HBW := hide ((unhide HBQ).trans (hbe.mono (unhide HBQ).size))
              have HW2 := hide hwr
              clear hbe hwr q0 q1 q2
              by_cases hlt : i < e.args.len
              · have hlt2 : i < x.2.length := by have := unhide HLN; omega
                have hy := List.getElem?_eq_getElem hlt2
                obtain ⟨b, o, c, had, hb, hlies, hrd⟩ := (unhide HS).at_ i _ hy
                have HDR := hide (Qk.firstW_drop (Qk.wrong n) x.2 i _ hy)
                generalize x.2[i] = y at *
                have hll := hlies.later (unhide HBW) (Nat.le_refl _) hb
                obtain ⟨p0, p1, p2⟩ := hll
                have HRD := hide (hrd.later (unhide HBW) (Nat.le_refl _))
                clear hlies hrd hy
                have hi0 : (0 : Int) ≤ (i : Int) := by omega
                have hi1 : (i : Int) < (e.args.len : Int) := by omega
                rw [had] at d2 ⊢
                go_wp2_with fail
                refine ((unhide IH) c y _ (unhide HRD)).mono ?_
                rintro r w2 ⟨rfl, hb2⟩
                have HB2 := hide ((unhide HBE).trans (hb2.mono hz))
                clear hb2
                by_cases hw0 : Qk.wrong n y = 0
                · have g0 : ((Qk.wrong n y : Int) != 0) = false := by rw [hw0]; rfl
                  have HN := hide (show WR = Qk.firstW ((x.2.drop (i + 1)).map (Qk.wrong n)) by rw [unhide HW2, unhide HDR, if_pos hw0])
                  clear hw0
                  go_wp2_with fail
                  exact ⟨⟨i + 1, by omega, by go_num, unhide HN, unhide HB2⟩, by simp [intOf]; omega⟩
                · have g0 : ((Qk.wrong n y : Int) != 0) = true := by simpa using hw0
                  have HN := hide (show WR = Qk.wrong n y by rw [unhide HW2, unhide HDR, if_neg hw0])
                  have HB3 := hide ((unhide HBQ).trans ((unhide HB2).mono (unhide HBQ).size))
                  clear hw0
                  go_wp2_with fail
                  go_ret
                  exact ⟨ret_int (by rw [unhide HN]), unhide HB3⟩
              · have HN := hide (show WR = 0 by
                  rw [unhide HW2, List.drop_of_length_le (by have := unhide HLN; omega)]; rfl)
                go_wp2_with fail
                go_ret
                exact ⟨ret_int (by rw [unhide HN]; rfl), unhide HBW⟩
        · have k1 : (e.k == 1) = false := by rw [h]; rfl
          have k2 : (e.k == 2) = true := by rw [h]; rfl
          clear h
          subst hL hM
          go_wp2_with fail
          refine (ibetween_any _ _ _ _).mono ?_
          rintro r w2 ⟨rfl, hw2⟩
          obtain rfl : WQ = w2 := hw2.symm
          rw [unhide HWI]
          cases WI
          · go_wp2_with fail
            go_ret
            exact ⟨ret_int (by rw [unhide HWZ]; rfl), unhide HBQ⟩
          · go_wp2_with fail
            go_loopw [5] (fun iv wr => ∃ (i : Nat), i ≤ e.args.len ∧ iv = .int .i64 i ∧ WR = Qk.firstW ((x.2.drop i).map (Qk.wrong n)) ∧ Below WQ.heap.size WQ wr) (fun iv _ => e.args.len - (intOf iv).toNat)
            case atStart => exact ⟨0, Nat.zero_le _, rfl, unhide HWZ, Below.refl _ _⟩
            case round =>
              obtain ⟨i, hi, rfl, hwr, hbe⟩ := hrel
              have hz := hbe.size
              have d2 := (hbe.cell (p := ⟨w.heap.size, 2, none⟩) hsq).trans q2
              have HBE := hide hbe
              have HBW := hide ((unhide HBQ).trans (hbe.mono (unhide HBQ).size))
              have HW2 := hide hwr
              clear hbe hwr q0 q1 q2
              by_cases hlt : i < e.args.len
              · have hlt2 : i < x.2.length := by have := unhide HLN; omega
                have hy := List.getElem?_eq_getElem hlt2
                obtain ⟨b, o, c, had, hb, hlies, hrd⟩ := (unhide HS).at_ i _ hy
                have HDR := hide (Qk.firstW_drop (Qk.wrong n) x.2 i _ hy)
                generalize x.2[i] = y at *
                have hll := hlies.later (unhide HBW) (Nat.le_refl _) hb
                obtain ⟨p0, p1, p2⟩ := hll
                have HRD := hide (hrd.later (unhide HBW) (Nat.le_refl _))
                clear hlies hrd hy
                have hi0 : (0 : Int) ≤ (i : Int) := by omega
                have hi1 : (i : Int) < (e.args.len : Int) := by omega
                rw [had] at d2 ⊢
                go_wp2_with fail
                refine ((unhide IH) c y _ (unhide HRD)).mono ?_
                rintro r w2 ⟨rfl, hb2⟩
                have HB2 := hide ((unhide HBE).trans (hb2.mono hz))
                clear hb2
                by_cases hw0 : Qk.wrong n y = 0
                · have g0 : ((Qk.wrong n y : Int) != 0) = false := by rw [hw0]; rfl
                  have HN := hide (show WR = Qk.firstW ((x.2.drop (i + 1)).map (Qk.wrong n)) by rw [unhide HW2, unhide HDR, if_pos hw0])
                  clear hw0
                  go_wp2_with fail
                  exact ⟨⟨i + 1, by omega, by go_num, unhide HN, unhide HB2⟩, by simp [intOf]; omega⟩
                · have g0 : ((Qk.wrong n y : Int) != 0) = true := by simpa using hw0
                  have HN := hide (show WR = Qk.wrong n y by rw [unhide HW2, unhide HDR, if_neg hw0])
                  have HB3 := hide ((unhide HBQ).trans ((unhide HB2).mono (unhide HBQ).size))
                  clear hw0
                  go_wp2_with fail
                  go_ret
                  exact ⟨ret_int (by rw [unhide HN]), unhide HB3⟩
              · have HN := hide (show WR = 0 by
                  rw [unhide HW2, List.drop_of_length_le (by have := unhide HLN; omega)]; rfl)
                go_wp2_with fail
                go_ret
                exact ⟨ret_int (by rw [unhide HN]; rfl), unhide HBW⟩
        · have k1 : (e.k == 1) = false := by rw [h]; rfl
          have k2 : (e.k == 2) = false := by rw [h]; rfl
          have k3 : (e.k == 3) = true := by rw [h]; rfl
          clear h
          subst hL hM
          go_wp2_with fail
          refine (ibetween_any _ _ _ _).mono ?_
          rintro r w2 ⟨rfl, hw2⟩
          obtain rfl : WQ = w2 := hw2.symm
          rw [unhide HWI]
          cases WI
          · go_wp2_with fail
            go_ret
            exact ⟨ret_int (by rw [unhide HWZ]; rfl), unhide HBQ⟩
          · go_wp2_with fail
            go_loopw [5] (fun iv wr => ∃ (i : Nat), i ≤ e.args.len ∧ iv = .int .i64 i ∧ WR = Qk.firstW ((x.2.drop i).map (Qk.wrong n)) ∧ Below WQ.heap.size WQ wr) (fun iv _ => e.args.len - (intOf iv).toNat)
            case atStart => exact ⟨0, Nat.zero_le _, rfl, unhide HWZ, Below.refl _ _⟩
            case round =>
              obtain ⟨i, hi, rfl, hwr, hbe⟩ := hrel
              have hz := hbe.size
              have d2 := (hbe.cell (p := ⟨w.heap.size, 2, none⟩) hsq).trans q2
              have HBE := hide hbe
              have HBW := hide ((unhide HBQ).trans (hbe.mono (unhide HBQ).size))
              have HW2 := hide hwr
              clear hbe hwr q0 q1 q2
              by_cases hlt : i < e.args.len
              · have hlt2 : i < x.2.length := by have := unhide HLN; omega
                have hy := List.getElem?_eq_getElem hlt2
                obtain ⟨b, o, c, had, hb, hlies, hrd⟩ := (unhide HS).at_ i _ hy
                have HDR := hide (Qk.firstW_drop (Qk.wrong n) x.2 i _ hy)
                generalize x.2[i] = y at *
                have hll := hlies.later (unhide HBW) (Nat.le_refl _) hb
                obtain ⟨p0, p1, p2⟩ := hll
                have HRD := hide (hrd.later (unhide HBW) (Nat.le_refl _))
                clear hlies hrd hy
                have hi0 : (0 : Int) ≤ (i : Int) := by omega
                have hi1 : (i : Int) < (e.args.len : Int) := by omega
                rw [had] at d2 ⊢
                go_wp2_with fail
                refine ((unhide IH) c y _ (unhide HRD)).mono ?_
                rintro r w2 ⟨rfl, hb2⟩
                have HB2 := hide ((unhide HBE).trans (hb2.mono hz))
                clear hb2
                by_cases hw0 : Qk.wrong n y = 0
                · have g0 : ((Qk.wrong n y : Int) != 0) = false := by rw [hw0]; rfl
                  have HN := hide (show WR = Qk.firstW ((x.2.drop (i + 1)).map (Qk.wrong n)) by rw [unhide HW2, unhide HDR, if_pos hw0])
                  clear hw0
                  go_wp2_with fail
                  exact ⟨⟨i + 1, by omega, by go_num, unhide HN, unhide HB2⟩, by simp [intOf]; omega⟩
                · have g0 : ((Qk.wrong n y : Int) != 0) = true := by simpa using hw0
                  have HN := hide (show WR = Qk.wrong n y by rw [unhide HW2, unhide HDR, if_neg hw0])
                  have HB3 := hide ((unhide HBQ).trans ((unhide HB2).mono (unhide HBQ).size))
                  clear hw0
                  go_wp2_with fail
                  go_ret
                  exact ⟨ret_int (by rw [unhide HN]), unhide HB3⟩
              · have HN := hide (show WR = 0 by
                  rw [unhide HW2, List.drop_of_length_le (by have := unhide HLN; omega)]; rfl)
                go_wp2_with fail
                go_ret
                exact ⟨ret_int (by rw [unhide HN]; rfl), unhide HBW⟩
        · have k1 : (e.k == 1) = false := by rw [h]; rfl
          have k2 : (e.k == 2) = false := by rw [h]; rfl
          have k3 : (e.k == 3) = false := by rw [h]; rfl
          have k5 : (e.k == 5) = true := by rw [h]; rfl
          clear h
          subst hL hM
          go_wp2_with fail
          refine (ibetween_any _ _ _ _).mono ?_
          rintro r w2 ⟨rfl, hw2⟩
          obtain rfl : WQ = w2 := hw2.symm
          rw [unhide HWI]
          cases WI
          · go_wp2_with fail
            go_ret
            exact ⟨ret_int (by rw [unhide HWZ]; rfl), unhide HBQ⟩
          · go_wp2_with fail
            go_loopw [5] (fun iv wr => ∃ (i : Nat), i ≤ e.args.len ∧ iv = .int .i64 i ∧ WR = Qk.firstW ((x.2.drop i).map (Qk.wrong n)) ∧ Below WQ.heap.size WQ wr) (fun iv _ => e.args.len - (intOf iv).toNat)
            case atStart => exact ⟨0, Nat.zero_le _, rfl, unhide HWZ, Below.refl _ _⟩
            case round =>
              obtain ⟨i, hi, rfl, hwr, hbe⟩ := hrel
              have hz := hbe.size
              have d2 := (hbe.cell (p := ⟨w.heap.size, 2, none⟩) hsq).trans q2
              have HBE := hide hbe
              have HBW := hide ((unhide HBQ).trans (hbe.mono (unhide HBQ).size))
              have HW2 := hide hwr
              clear hbe hwr q0 q1 q2
              by_cases hlt : i < e.args.len
              · have hlt2 : i < x.2.length := by have := unhide HLN; omega
                have hy := List.getElem?_eq_getElem hlt2
                obtain ⟨b, o, c, had, hb, hlies, hrd⟩ := (unhide HS).at_ i _ hy
                have HDR := hide (Qk.firstW_drop (Qk.wrong n) x.2 i _ hy)
                generalize x.2[i] = y at *
                have hll := hlies.later (unhide HBW) (Nat.le_refl _) hb
                obtain ⟨p0, p1, p2⟩ := hll
                have HRD := hide (hrd.later (unhide HBW) (Nat.le_refl _))
                clear hlies hrd hy
                have hi0 : (0 : Int) ≤ (i : Int) := by omega
                have hi1 : (i : Int) < (e.args.len : Int) := by omega
                rw [had] at d2 ⊢
                go_wp2_with fail
                refine ((unhide IH) c y _ (unhide HRD)).mono ?_
                rintro r w2 ⟨rfl, hb2⟩
                have HB2 := hide ((unhide HBE).trans (hb2.mono hz))
                clear hb2
                by_cases hw0 : Qk.wrong n y = 0
                · have g0 : ((Qk.wrong n y : Int) != 0) = false := by rw [hw0]; rfl
                  have HN := hide (show WR = Qk.firstW ((x.2.drop (i + 1)).map (Qk.wrong n)) by rw [unhide HW2, unhide HDR, if_pos hw0])
                  clear hw0
                  go_wp2_with fail
                  exact ⟨⟨i + 1, by omega, by go_num, unhide HN, unhide HB2⟩, by simp [intOf]; omega⟩
                · have g0 : ((Qk.wrong n y : Int) != 0) = true := by simpa using hw0
                  have HN := hide (show WR = Qk.wrong n y by rw [unhide HW2, unhide HDR, if_neg hw0])
                  have HB3 := hide ((unhide HBQ).trans ((unhide HB2).mono (unhide HBQ).size))
                  clear hw0
                  go_wp2_with fail
                  go_ret
                  exact ⟨ret_int (by rw [unhide HN]), unhide HB3⟩
              · have HN := hide (show WR = 0 by
                  rw [unhide HW2, List.drop_of_length_le (by have := unhide HLN; omega)]; rfl)
                go_wp2_with fail
                go_ret
                exact ⟨ret_int (by rw [unhide HN]; rfl), unhide HBW⟩
        · have k1 : (e.k == 1) = false := by rw [h]; rfl
          have k2 : (e.k == 2) = false := by rw [h]; rfl
          have k3 : (e.k == 3) = false := by rw [h]; rfl
          have k5 : (e.k == 5) = false := by rw [h]; rfl
          have k6 : (e.k == 6) = true := by rw [h]; rfl
          clear h
          subst hL hM
          go_wp2_with fail
          refine (ibetween_any _ _ _ _).mono ?_
          rintro r w2 ⟨rfl, hw2⟩
          obtain rfl : WQ = w2 := hw2.symm
          rw [unhide HWI]
          cases WI
          · go_wp2_with fail
            go_ret
            exact ⟨ret_int (by rw [unhide HWZ]; rfl), unhide HBQ⟩
          · go_wp2_with fail
            go_loopw [5] (fun iv wr => ∃ (i : Nat), i ≤ e.args.len ∧ iv = .int .i64 i ∧ WR = Qk.firstW ((x.2.drop i).map (Qk.wrong n)) ∧ Below WQ.heap.size WQ wr) (fun iv _ => e.args.len - (intOf iv).toNat)
            case atStart => exact ⟨0, Nat.zero_le _, rfl, unhide HWZ, Below.refl _ _⟩
            case round =>
              obtain ⟨i, hi, rfl, hwr, hbe⟩ := hrel
              have hz := hbe.size
              have d2 := (hbe.cell (p := ⟨w.heap.size, 2, none⟩) hsq).trans q2
              have HBE := hide hbe
              have HBW := hide ((unhide HBQ).trans (hbe.mono (unhide HBQ).size))
              have HW2 := hide hwr
              clear hbe hwr q0 q1 q2
              by_cases hlt : i < e.args.len
              · have hlt2 : i < x.2.length := by have := unhide HLN; omega
                have hy := List.getElem?_eq_getElem hlt2
                obtain ⟨b, o, c, had, hb, hlies, hrd⟩ := (unhide HS).at_ i _ hy
                have HDR := hide (Qk.firstW_drop (Qk.wrong n) x.2 i _ hy)
                generalize x.2[i] = y at *
                have hll := hlies.later (unhide HBW) (Nat.le_refl _) hb
                obtain ⟨p0, p1, p2⟩ := hll
                have HRD := hide (hrd.later (unhide HBW) (Nat.le_refl _))
                clear hlies hrd hy
                have hi0 : (0 : Int) ≤ (i : Int) := by omega
                have hi1 : (i : Int) < (e.args.len : Int) := by omega
                rw [had] at d2 ⊢
                go_wp2_with fail
                refine ((unhide IH) c y _ (unhide HRD)).mono ?_
                rintro r w2 ⟨rfl, hb2⟩
                have HB2 := hide ((unhide HBE).trans (hb2.mono hz))
                clear hb2
                by_cases hw0 : Qk.wrong n y = 0
                · have g0 : ((Qk.wrong n y : Int) != 0) = false := by rw [hw0]; rfl
                  have HN := hide (show WR = Qk.firstW ((x.2.drop (i + 1)).map (Qk.wrong n)) by rw [unhide HW2, unhide HDR, if_pos hw0])
                  clear hw0
                  go_wp2_with fail
                  exact ⟨⟨i + 1, by omega, by go_num, unhide HN, unhide HB2⟩, by simp [intOf]; omega⟩
                · have g0 : ((Qk.wrong n y : Int) != 0) = true := by simpa using hw0
                  have HN := hide (show WR = Qk.wrong n y by rw [unhide HW2, unhide HDR, if_neg hw0])
                  have HB3 := hide ((unhide HBQ).trans ((unhide HB2).mono (unhide HBQ).size))
                  clear hw0
                  go_wp2_with fail
                  go_ret
                  exact ⟨ret_int (by rw [unhide HN]), unhide HB3⟩
              · have HN := hide (show WR = 0 by
                  rw [unhide HW2, List.drop_of_length_le (by have := unhide HLN; omega)]; rfl)
                go_wp2_with fail
                go_ret
                exact ⟨ret_int (by rw [unhide HN]; rfl), unhide HBW⟩
        · have k1 : (e.k == 1) = false := by rw [h]; rfl
          have k2 : (e.k == 2) = false := by rw [h]; rfl
          have k3 : (e.k == 3) = false := by rw [h]; rfl
          have k5 : (e.k == 5) = false := by rw [h]; rfl
          have k6 : (e.k == 6) = false := by rw [h]; rfl
          have k14 : (e.k == 14) = true := by rw [h]; rfl
          clear h
          subst hL hM
          go_wp2_with fail
          refine (ibetween_any _ _ _ _).mono ?_
          rintro r w2 ⟨rfl, hw2⟩
          obtain rfl : WQ = w2 := hw2.symm
          rw [unhide HWI]
          cases WI
          · go_wp2_with fail
            go_ret
            exact ⟨ret_int (by rw [unhide HWZ]; rfl), unhide HBQ⟩
          · go_wp2_with fail
            go_loopw [5] (fun iv wr => ∃ (i : Nat), i ≤ e.args.len ∧ iv = .int .i64 i ∧ WR = Qk.firstW ((x.2.drop i).map (Qk.wrong n)) ∧ Below WQ.heap.size WQ wr) (fun iv _ => e.args.len - (intOf iv).toNat)
            case atStart => exact ⟨0, Nat.zero_le _, rfl, unhide HWZ, Below.refl _ _⟩
            case round =>
              obtain ⟨i, hi, rfl, hwr, hbe⟩ := hrel
              have hz := hbe.size
              have d2 := (hbe.cell (p := ⟨w.heap.size, 2, none⟩) hsq).trans q2
              have HBE := hide hbe
              have HBW := hide ((unhide HBQ).trans (hbe.mono (unhide HBQ).size))
              have HW2 := hide hwr
              clear hbe hwr q0 q1 q2
              by_cases hlt : i < e.args.len
              · have hlt2 : i < x.2.length := by have := unhide HLN; omega
                have hy := List.getElem?_eq_getElem hlt2
                obtain ⟨b, o, c, had, hb, hlies, hrd⟩ := (unhide HS).at_ i _ hy
                have HDR := hide (Qk.firstW_drop (Qk.wrong n) x.2 i _ hy)
                generalize x.2[i] = y at *
                have hll := hlies.later (unhide HBW) (Nat.le_refl _) hb
                obtain ⟨p0, p1, p2⟩ := hll
                have HRD := hide (hrd.later (unhide HBW) (Nat.le_refl _))
                clear hlies hrd hy
                have hi0 : (0 : Int) ≤ (i : Int) := by omega
                have hi1 : (i : Int) < (e.args.len : Int) := by omega
                rw [had] at d2 ⊢
                go_wp2_with fail
                refine ((unhide IH) c y _ (unhide HRD)).mono ?_
                rintro r w2 ⟨rfl, hb2⟩
                have HB2 := hide ((unhide HBE).trans (hb2.mono hz))
                clear hb2
                by_cases hw0 : Qk.wrong n y = 0
                · have g0 : ((Qk.wrong n y : Int) != 0) = false := by rw [hw0]; rfl
                  have HN := hide (show WR = Qk.firstW ((x.2.drop (i + 1)).map (Qk.wrong n)) by rw [unhide HW2, unhide HDR, if_pos hw0])
                  clear hw0
                  go_wp2_with fail
                  exact ⟨⟨i + 1, by omega, by go_num, unhide HN, unhide HB2⟩, by simp [intOf]; omega⟩
                · have g0 : ((Qk.wrong n y : Int) != 0) = true := by simpa using hw0
                  have HN := hide (show WR = Qk.wrong n y by rw [unhide HW2, unhide HDR, if_neg hw0])
                  have HB3 := hide ((unhide HBQ).trans ((unhide HB2).mono (unhide HBQ).size))
                  clear hw0
                  go_wp2_with fail
                  go_ret
                  exact ⟨ret_int (by rw [unhide HN]), unhide HB3⟩
              · have HN := hide (show WR = 0 by
                  rw [unhide HW2, List.drop_of_length_le (by have := unhide HLN; omega)]; rfl)
                go_wp2_with fail
                go_ret
                exact ⟨ret_int (by rw [unhide HN]; rfl), unhide HBW⟩
        · subst hL hM
          go_wp2_with fail
          refine (ibetween_any _ _ _ _).mono ?_
          rintro r w2 ⟨rfl, hw2⟩
          obtain rfl : WQ = w2 := hw2.symm
          rw [unhide HWI]
          cases WI
          · go_wp2_with fail
            go_ret
            exact ⟨ret_int (by rw [unhide HWZ]; rfl), unhide HBQ⟩
          · go_wp2_with fail
            go_loopw [5] (fun iv wr => ∃ (i : Nat), i ≤ e.args.len ∧ iv = .int .i64 i ∧ WR = Qk.firstW ((x.2.drop i).map (Qk.wrong n)) ∧ Below WQ.heap.size WQ wr) (fun iv _ => e.args.len - (intOf iv).toNat)
            case atStart => exact ⟨0, Nat.zero_le _, rfl, unhide HWZ, Below.refl _ _⟩
            case round =>
              obtain ⟨i, hi, rfl, hwr, hbe⟩ := hrel
              have hz := hbe.size
              have d2 := (hbe.cell (p := ⟨w.heap.size, 2, none⟩) hsq).trans q2
              have HBE := hide hbe
              have HBW := hide ((unhide HBQ).trans (hbe.mono (unhide HBQ).size))
              have HW2 := hide hwr
              clear hbe hwr q0 q1 q2
              by_cases hlt : i < e.args.len
              · have hlt2 : i < x.2.length := by have := unhide HLN; omega
                have hy := List.getElem?_eq_getElem hlt2
                obtain ⟨b, o, c, had, hb, hlies, hrd⟩ := (unhide HS).at_ i _ hy
                have HDR := hide (Qk.firstW_drop (Qk.wrong n) x.2 i _ hy)
                generalize x.2[i] = y at *
                have hll := hlies.later (unhide HBW) (Nat.le_refl _) hb
                obtain ⟨p0, p1, p2⟩ := hll
                have HRD := hide (hrd.later (unhide HBW) (Nat.le_refl _))
                clear hlies hrd hy
                have hi0 : (0 : Int) ≤ (i : Int) := by omega
                have hi1 : (i : Int) < (e.args.len : Int) := by omega
                rw [had] at d2 ⊢
                go_wp2_with fail
                refine ((unhide IH) c y _ (unhide HRD)).mono ?_
                rintro r w2 ⟨rfl, hb2⟩
                have HB2 := hide ((unhide HBE).trans (hb2.mono hz))
                clear hb2
                by_cases hw0 : Qk.wrong n y = 0
                · have g0 : ((Qk.wrong n y : Int) != 0) = false := by rw [hw0]; rfl
                  have HN := hide (show WR = Qk.firstW ((x.2.drop (i + 1)).map (Qk.wrong n)) by rw [unhide HW2, unhide HDR, if_pos hw0])
                  clear hw0
                  go_wp2_with fail
                  exact ⟨⟨i + 1, by omega, by go_num, unhide HN, unhide HB2⟩, by simp [intOf]; omega⟩
                · have g0 : ((Qk.wrong n y : Int) != 0) = true := by simpa using hw0
                  have HN := hide (show WR = Qk.wrong n y by rw [unhide HW2, unhide HDR, if_neg hw0])
                  have HB3 := hide ((unhide HBQ).trans ((unhide HB2).mono (unhide HBQ).size))
                  clear hw0
                  go_wp2_with fail
                  go_ret
                  exact ⟨ret_int (by rw [unhide HN]), unhide HB3⟩
              · have HN := hide (show WR = 0 by
                  rw [unhide HW2, List.drop_of_length_le (by have := unhide HLN; omega)]; rfl)
                go_wp2_with fail
                go_ret
                exact ⟨ret_int (by rw [unhide HN]; rfl), unhide HBW⟩
      · have g1 : ((e.args.len : Int) != (AN : Int)) = true := by simp; omega
        have HWZ := hide (show WR = 1 by rw [unhide HWR, if_pos rfl, if_neg hA])
        clear hA
        go_wp2_with fail
        go_quiet (first | (go_at_call 25; refine Calls.quiet_of_same ((unhide HAA) _)))
        go_wp2_with fail
        go_ret
        exact ⟨ret_int (by rw [unhide HWZ]; rfl), below_drewN (unhide HB1) _⟩

set_option maxHeartbeats 400000 in
theorem CheckAsk_any (n : Nat) (e : Qk.E) (x : Qk.AT n) (w : World) (h : Qk.RA w n e x) :
    Calls Tryz.prog 9 #[e.val] w fun r w' => r = .returned (.int .i64 (Qk.chk n x : Nat)) ∧ Below w.heap.size w w' := by
  have HH := hide h
  have HC := hide (show Qk.chk n x = if 15 < Qk.parts n x then 2 else Qk.wrong n x from rfl)
  clear h
  unfold Qk.E.val
  generalize Qk.chk n x = C at *
  go_enter Tryz.func9, Tryz.ntmps9
  go_wp2_with fail
  refine (askParts_any n e x _ 15 ((unhide HH).alloc _) (by omega) (by omega)).mono ?_
  rintro r w1 ⟨rfl, hb1⟩
  have q0 : w1.cell? ⟨w.heap.size, 0, none⟩ = some (.int .i64 e.k) := (hb1.cell (p := ⟨w.heap.size, 0, none⟩) (by simp)).trans (by simp)
  have q1 : w1.cell? ⟨w.heap.size, 1, none⟩ = some (.int .i64 e.n) := (hb1.cell (p := ⟨w.heap.size, 1, none⟩) (by simp)).trans (by simp)
  have q2 : w1.cell? ⟨w.heap.size, 2, none⟩ = some (.slice e.args.ad e.args.len e.args.cap) := (hb1.cell (p := ⟨w.heap.size, 2, none⟩) (by simp)).trans (by simp)
  have HB1 := hide (below_two hb1)
  clear hb1
  by_cases hp : 15 < Qk.parts n x
  · have hl : Qk.capP 15 (Qk.parts n x) > 15 := by unfold Qk.capP; split <;> omega
    have HZ := hide (show C = 2 by rw [unhide HC, if_pos hp])
    clear hp
    go_wp2_with fail
    go_ret
    exact ⟨ret_int (by rw [unhide HZ]; rfl), unhide HB1⟩
  · have hl : ¬ Qk.capP 15 (Qk.parts n x) > 15 := by unfold Qk.capP; split <;> omega
    have HZ := hide (show C = Qk.wrong n x by rw [unhide HC, if_neg hp])
    clear hp
    go_wp2_with fail
    refine (askCheck_any n e x _ ((unhide HH).later (unhide HB1) (Nat.le_refl _))).mono ?_
    rintro r w2 ⟨rfl, hb2⟩
    have HB2 := hide ((unhide HB1).trans (hb2.mono (unhide HB1).size))
    clear hb2
    go_wp2_with fail
    go_ret
    exact ⟨ret_int (by rw [unhide HZ]), unhide HB2⟩
end Go.Proofs.YtfhlnelgnnkeoaaGreatDoor
