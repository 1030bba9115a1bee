/-
  Contracts of leftOfParts, ruleOf, wrongIn and Check of package query. By the verifier.
-/
import Derived.Test.YtfhlnelgnnkeoaaGreatDoorQRule
namespace Go.Proofs.YtfhlnelgnnkeoaaGreatDoor
open Go.RowKit
set_option linter.unusedVariables false

set_option maxHeartbeats 1600000 in
theorem qleft_any : ∀ (n : Nat) (e : Qk.E) (x : Qk.AT n) (w : World) (left : Int), Qk.RA w n e x → 0 ≤ left → left ≤ 1000 →
    Calls Tryz.prog 29 #[e.val, .int .i64 left] w fun r w' => r = .returned (.int .i64 (Qk.leftP left (Qk.parts n x))) ∧ Below w.heap.size w w' := by
  intro n
  induction n with
  | zero => intro e x w left h; exact absurd h id
  | succ n ih =>
    intro e x w left hre h0 h1
    obtain ⟨hf, hs⟩ := hre
    have hlen := hs.len
    have hfew := hs.few
    rw [← hlen] at hfew
    have HS := hide hs
    have HLN := hide hlen
    have IH := hide ih
    clear hs hf hlen ih
    unfold Qk.E.val
    go_enter Tryz.func29, Tryz.ntmps29
    go_wp2_with fail
    go_loopw [1, 12] (fun lv iv wr => ∃ (i : Nat) (l : Int), i ≤ e.args.len ∧ iv = .int .i64 i ∧ lv = .int .i64 l ∧ l = Qk.leftP left (1 + Qk.sumTo (Qk.parts n) x.2 i) ∧ Below w.heap.size w wr) (fun _ iv _ => e.args.len - (intOf iv).toNat)
    case atStart =>
      refine ⟨0, left - 1, Nat.zero_le _, rfl, rfl, ?_, (Below.refl _ _).alloc (Nat.le_refl _) _⟩
      show _ = Qk.leftP left 1
      unfold Qk.leftP; split <;> omega
    case round =>
      obtain ⟨i, l, hi, rfl, rfl, hl, hbe⟩ := hrel
      have hl1 : -1 ≤ l := by rw [hl]; unfold Qk.leftP; split <;> omega
      have hl2 : l ≤ 1000 := by rw [hl]; unfold Qk.leftP; split <;> omega
      have hz := hbe.size
      have HL := hide hl
      have HBE := hide hbe
      clear hl hbe
      by_cases hlt : i < e.args.len
      · have hlt2 : i < x.2.length := by have := unhide HLN; omega
        have hy := List.getElem?_eq_getElem hlt2
        obtain ⟨b, o, c, had, hb, hlies, hrd⟩ := (unhide HS).at_ i _ hy
        have hsum := Qk.sumTo_succ (Qk.parts n) x.2 i _ hy
        generalize x.2[i] = y at *
        have hll := hlies.later (unhide HBE) (Nat.le_refl _) hb
        obtain ⟨p0, p1, p2⟩ := hll
        have HRD := hide (hrd.later (unhide HBE) (Nat.le_refl _))
        have HSU := hide hsum
        clear hlies hrd hsum hy
        have hi0 : (0 : Int) ≤ (i : Int) := by omega
        have hi1 : (i : Int) < (e.args.len : Int) := by omega
        rw [had]
        have hpar : Qk.parts (n + 1) x = 1 + (x.2.map (Qk.parts n)).sum := rfl
        have hsle := Qk.sumTo_le (Qk.parts n) x.2 (i + 1) hlt2
        by_cases hneg : l < 0
        · have hfin : Hid (l = Qk.leftP left (Qk.parts (n + 1) x)) := by
            show _ = _
            have a := unhide HL
            have b := unhide HSU
            unfold Qk.leftP at a ⊢
            rw [hpar]
            split at a
            · omega
            · rw [if_neg (by omega)]; omega
          clear hpar hsle
          go_wp2_with fail
          go_ret
          exact ⟨ret_int (unhide hfin), (unhide HBE).alloc hz _⟩
        · clear hpar hsle
          go_wp2_with fail
          refine ((unhide IH) c y _ l ((unhide HRD).alloc _) (by omega) hl2).mono ?_
          rintro r w1 ⟨rfl, hb1⟩
          have HB1 := hide (((unhide HBE).alloc hz _).trans (hb1.mono (by simp; omega)))
          clear hb1
          have hnew : Hid (Qk.leftP l (Qk.parts n y) = Qk.leftP left (1 + Qk.sumTo (Qk.parts n) x.2 (i + 1))) := by
            show _ = _
            have a := unhide HL
            have b := unhide HSU
            rw [b]
            unfold Qk.leftP at a ⊢
            split at a
            · by_cases hc : ((Qk.parts n y : Nat) : Int) ≤ l
              · rw [if_pos hc, if_pos (by omega)]; omega
              · rw [if_neg hc, if_neg (by omega)]
            · omega
          go_wp2_with fail
          exact ⟨⟨i + 1, _, by omega, by go_num, rfl, unhide hnew, unhide HB1⟩, by simp [intOf]; omega⟩
      · go_wp2_with fail
        go_ret
        refine ⟨ret_int ?_, unhide HBE⟩
        have a := unhide HL
        have e1 : i = x.2.length := by have := unhide HLN; omega
        rw [a, e1, Qk.sumTo_all]; rfl

theorem Qk.within_iff (k n : Int) : Qk.within k n = true ↔ ¬ n < Qk.least k ∧ ¬ n > Qk.most k := by
  simp [Qk.within]

set_option maxRecDepth 100000 in
set_option maxHeartbeats 1600000 in
theorem qwrong_any : ∀ (n : Nat) (e : Qk.E) (x : Qk.AT n) (w : World), Qk.RA w n e x →
    Calls Tryz.prog 30 #[e.val] w fun r w' => r = .returned (.int .i64 (Qk.wrong n x : Nat)) ∧ Below w.heap.size w w' := by
  intro n
  induction n with
  | zero => intro e x w h; exact absurd h id
  | succ n ih =>
    intro e x w hre
    obtain ⟨⟨hk, hn⟩, hs⟩ := hre
    have hlen := hs.len
    have hfew := hs.few
    rw [← hlen] at hfew
    have HWR := hide (show Qk.wrong (n + 1) x = if Qk.isK e.k then (if e.args.len = Qk.argsN e.k then (if Qk.within e.k e.n then Qk.firstW (x.2.map (Qk.wrong n)) else 3) else 1) else 7 by rw [hk, hn, hlen]; rfl)
    have HS := hide hs
    have HLN := hide hlen
    have IH := hide ih
    have HRU := hide (ruleOf_any e.k)
    have HAI := hide (fun h : Qk.isK e.k = true => show Qk.argsI e.k = (Qk.argsN e.k : Nat) by simp [Qk.argsI, h])
    have HWI := hide (Qk.within_iff e.k e.n)
    generalize Qk.wrong (n + 1) x = WR at *
    generalize Qk.isK e.k = K at *
    generalize Qk.argsI e.k = AI at *
    generalize Qk.argsN e.k = AN at *
    generalize Qk.least e.k = L at *
    generalize Qk.most e.k = M at *
    generalize Qk.word e.k = WD at *
    generalize Qk.within e.k e.n = WI at *
    clear hs hk hn hlen ih
    unfold Qk.E.val
    go_enter Tryz.func30, Tryz.ntmps30
    go_wp2_with fail
    refine ((unhide HRU) _).mono ?_
    rintro r w1 ⟨rfl, hb1⟩
    have q1 : w1.cell? ⟨w.heap.size, 1, none⟩ = some (.int .i64 e.n) := (hb1.cell (p := ⟨w.heap.size, 1, none⟩) (by simp)).trans (by simp)
    have q2 : w1.cell? ⟨w.heap.size, 2, none⟩ = some (.slice e.args.ad e.args.len e.args.cap) := (hb1.cell (p := ⟨w.heap.size, 2, none⟩) (by simp)).trans (by simp)
    have hsz : w.heap.size < w1.heap.size := by have := hb1.size; simp at this; omega
    have HB1 := hide (below_two hb1)
    clear hb1
    cases K
    · go_wp2_with fail
      go_ret
      exact ⟨ret_int (by rw [unhide HWR]; rfl), (unhide HB1).alloc (Nat.le_of_lt hsz) _⟩
    · have hai : AI = (AN : Nat) := (unhide HAI) rfl
      by_cases hA : e.args.len = AN
      · have g1 : ((e.args.len : Int) != AI) = false := by rw [hai, hA]; simp
        by_cases h1 : e.n < L
        · have HWZ := hide (show WR = 3 by
            have : WI = false := by
              rw [← Bool.not_eq_true, unhide HWI]; simp; omega
            rw [unhide HWR, if_pos hA, this]; rfl)
          clear hA hai
          go_wp2_with fail
          go_ret
          exact ⟨ret_int (by rw [unhide HWZ]; rfl), (unhide HB1).alloc (Nat.le_of_lt hsz) _⟩
        · by_cases h2 : e.n > M
          · have HWZ := hide (show WR = 3 by
              have : WI = false := by
                rw [← Bool.not_eq_true, unhide HWI]; simp; omega
              rw [unhide HWR, if_pos hA, this]; rfl)
            clear hA hai
            go_wp2_with fail
            go_ret
            exact ⟨ret_int (by rw [unhide HWZ]; rfl), (unhide HB1).alloc (Nat.le_of_lt hsz) _⟩
          · have HWZ := hide (show WR = Qk.firstW (x.2.map (Qk.wrong n)) by
              have : WI = true := by rw [unhide HWI]; constructor <;> omega
              rw [unhide HWR, if_pos hA, this]; rfl)
            clear hA hai
            go_wp2_with fail
            go_loopw [37] (fun iv wr => ∃ (i : Nat), i ≤ e.args.len ∧ iv = .int .i64 i ∧ WR = Qk.firstW ((x.2.drop i).map (Qk.wrong n)) ∧ Below w.heap.size w wr) (fun iv _ => e.args.len - (intOf iv).toNat)
            case atStart => exact ⟨0, Nat.zero_le _, rfl, unhide HWZ, (unhide HB1).alloc (Nat.le_of_lt hsz) _⟩
            case round =>
              obtain ⟨i, hi, rfl, hwr, hbe⟩ := hrel
              have hz := hbe.size
              have HBE := hide hbe
              have HW2 := hide hwr
              clear hbe hwr
              by_cases hlt : i < e.args.len
              · have hlt2 : i < x.2.length := by have := unhide HLN; omega
                have hy := List.getElem?_eq_getElem hlt2
                obtain ⟨b, o, c, had, hb, hlies, hrd⟩ := (unhide HS).at_ i _ hy
                have HDR := hide (Qk.firstW_drop (Qk.wrong n) x.2 i _ hy)
                generalize x.2[i] = y at *
                have hll := hlies.later (unhide HBE) (Nat.le_refl _) hb
                obtain ⟨p0, p1, p2⟩ := hll
                have HRD := hide (hrd.later (unhide HBE) (Nat.le_refl _))
                clear hlies hrd hy
                have hi0 : (0 : Int) ≤ (i : Int) := by omega
                have hi1 : (i : Int) < (e.args.len : Int) := by omega
                rw [had]
                go_wp2_with fail
                refine ((unhide IH) c y _ ((unhide HRD).alloc _)).mono ?_
                rintro r w2 ⟨rfl, hb2⟩
                have HB2 := hide (((unhide HBE).alloc hz _).trans (hb2.mono (by simp; omega)))
                clear hb2
                by_cases hw0 : Qk.wrong n y = 0
                · have g0 : ((Qk.wrong n y : Int) != 0) = false := by rw [hw0]; rfl
                  have HN := hide (show WR = Qk.firstW ((x.2.drop (i + 1)).map (Qk.wrong n)) by rw [unhide HW2, unhide HDR, if_pos hw0])
                  clear hw0
                  go_wp2_with fail
                  exact ⟨⟨i + 1, by omega, by go_num, unhide HN, unhide HB2⟩, by simp [intOf]; omega⟩
                · have g0 : ((Qk.wrong n y : Int) != 0) = true := by simpa using hw0
                  have HN := hide (show WR = Qk.wrong n y by rw [unhide HW2, unhide HDR, if_neg hw0])
                  clear hw0
                  go_wp2_with fail
                  go_ret
                  exact ⟨ret_int (by rw [unhide HN]), unhide HB2⟩
              · have HN := hide (show WR = 0 by
                  rw [unhide HW2, List.drop_of_length_le (by have := unhide HLN; omega)]; rfl)
                go_wp2_with fail
                go_ret
                exact ⟨ret_int (by rw [unhide HN]; rfl), unhide HBE⟩
      · have g1 : ((e.args.len : Int) != AI) = true := by rw [hai]; simp; omega
        have HWZ := hide (show WR = 1 by rw [unhide HWR, if_pos rfl, if_neg hA])
        clear hA hai
        go_wp2_with fail
        go_ret
        exact ⟨ret_int (by rw [unhide HWZ]; rfl), (unhide HB1).alloc (Nat.le_of_lt hsz) _⟩

set_option maxHeartbeats 400000 in
theorem qCheck_any (n : Nat) (e : Qk.E) (x : Qk.AT n) (w : World) (h : Qk.RA w n e x) :
    Calls Tryz.prog 12 #[e.val] w fun r w' => r = .returned (.int .i64 (Qk.chk n x : Nat)) ∧ Below w.heap.size w w' := by
  have HH := hide h
  have HC := hide (show Qk.chk n x = if 15 < Qk.parts n x then 2 else Qk.wrong n x from rfl)
  clear h
  unfold Qk.E.val
  generalize Qk.chk n x = C at *
  go_enter Tryz.func12, Tryz.ntmps12
  go_wp2_with fail
  refine (qleft_any n e x _ 15 ((unhide HH).alloc _) (by omega) (by omega)).mono ?_
  rintro r w1 ⟨rfl, hb1⟩
  have q0 : w1.cell? ⟨w.heap.size, 0, none⟩ = some (.int .i64 e.k) := (hb1.cell (p := ⟨w.heap.size, 0, none⟩) (by simp)).trans (by simp)
  have q1 : w1.cell? ⟨w.heap.size, 1, none⟩ = some (.int .i64 e.n) := (hb1.cell (p := ⟨w.heap.size, 1, none⟩) (by simp)).trans (by simp)
  have q2 : w1.cell? ⟨w.heap.size, 2, none⟩ = some (.slice e.args.ad e.args.len e.args.cap) := (hb1.cell (p := ⟨w.heap.size, 2, none⟩) (by simp)).trans (by simp)
  have HB1 := hide (below_two hb1)
  clear hb1
  by_cases hp : 15 < Qk.parts n x
  · have hl : Qk.leftP 15 (Qk.parts n x) < 0 := by unfold Qk.leftP; split <;> omega
    have HZ := hide (show C = 2 by rw [unhide HC, if_pos hp])
    clear hp
    go_wp2_with fail
    go_ret
    exact ⟨ret_int (by rw [unhide HZ]; rfl), unhide HB1⟩
  · have hl : ¬ Qk.leftP 15 (Qk.parts n x) < 0 := by unfold Qk.leftP; split <;> omega
    have HZ := hide (show C = Qk.wrong n x by rw [unhide HC, if_neg hp])
    clear hp
    go_wp2_with fail
    refine (qwrong_any n e x _ ((unhide HH).later (unhide HB1) (Nat.le_refl _))).mono ?_
    rintro r w2 ⟨rfl, hb2⟩
    have HB2 := hide ((unhide HB1).trans (hb2.mono (unhide HB1).size))
    clear hb2
    go_wp2_with fail
    go_ret
    exact ⟨ret_int (by rw [unhide HZ]), unhide HB2⟩
end Go.Proofs.YtfhlnelgnnkeoaaGreatDoor
