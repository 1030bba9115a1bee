/-
  The contract of the document's CheckExpr. By the verifier.
-/
import Derived.Test.YtcalcikclcmkaaaPAll
namespace Go.Proofs.Ytcalcikclcmkaaa
open Go.RowKit
set_option linter.unusedVariables false

theorem Pg.capP_gt (p : Nat) : (Pg.capP 15 p > 15) ↔ 15 < p := by unfold Pg.capP; split <;> omega
/-- A number among the sizes. -/
theorem Pg.at_lt {sz : List Int} {n : Int} (h : 0 ≤ n ∧ n ≤ (sz.length : Int) - 1) : ∃ (j : Nat) (v : Int), n = j ∧ sz[j]? = some v ∧ Pg.at? sz n = some v := by
  obtain ⟨j, rfl⟩ : ∃ j : Nat, n = j := ⟨n.toNat, by omega⟩
  have hj : j < sz.length := by omega
  refine ⟨j, sz[j], rfl, List.getElem?_eq_getElem hj, ?_⟩
  unfold Pg.at?
  rw [if_pos (by omega), Int.toNat_natCast, List.getElem?_eq_getElem hj]
theorem Pg.at_none {sz : List Int} {n : Int} (h : ¬ (0 ≤ n ∧ n ≤ (sz.length : Int) - 1)) : Pg.at? sz n = none := by
  unfold Pg.at?
  split
  · exact List.getElem?_eq_none (by omega)
  · rfl

set_option maxRecDepth 100000 in
set_option maxHeartbeats 6400000 in
theorem CheckExpr_any (n : Nat) (e : Pg.E) (x : Pg.XT n) (w : World) (ss : Pg.Sl) (sz : List Int) (hre : Pg.RX w n e x) (hsz : Pg.RN w ss sz) (hnn : ∀ z ∈ sz, 0 ≤ z) :
    Calls Try.prog 29 #[e.val, .slice ss.ad ss.len ss.cap] w fun r w' => r = .returned (.int .i64 (Pg.chkX sz n x : Nat)) ∧ Below w.heap.size w w' := by
  have hb0 := (Below.refl w.heap.size w).alloc (Nat.le_refl _) (Obj.cells #[.int .i64 e.k, .int .i64 e.n, .slice e.args.ad e.args.len e.args.cap] 24)
  have HEP := hide (exprParts_any n e x _ 15 (hre.later hb0 (Nat.le_refl _)) (by omega) (by omega))
  have HAP := hide (fun (W : World) (hW : Below w.heap.size w W) (hp : Pg.parts n x ≤ 1000) => allParts_any n e x W (hre.later hW (Nat.le_refl _)) hp)
  have HC := hide (show Pg.chkX sz n x = if 15 < Pg.parts n x then 2 else Pg.first ((Pg.flat n x).map fun t => Pg.wx1 sz t.1 t.2.1 t.2.2) by rw [← Pg.wx_flat]; rfl)
  have HCG := hide (Pg.capP_gt (Pg.parts n x))
  have HFL := hide (Pg.flat_length n x)
  generalize Pg.chkX sz n x = R at *
  generalize Pg.flat n x = FL at *
  generalize Pg.parts n x = P at *
  obtain ⟨sa, sl, sc⟩ := ss
  have hlen : sl = sz.length := hsz.len
  have hfew := hsz.few
  rw [← hlen] at hfew
  have HLN := hide hlen
  have HSZ := hide hsz
  have HNN := hide hnn
  have HB0 := hide hb0
  clear hre hb0 hsz hnn hlen
  dsimp only
  unfold Pg.E.val at *
  go_enter Try.func29, Try.ntmps29
  go_wp2_with fail
  refine (unhide HEP).mono ?_
  rintro r w1 ⟨rfl, hb1⟩
  have q0 : w1.cell? ⟨w.heap.size, 0, none⟩ = some (.int .i64 e.k) := (hb1.cell (p := ⟨w.heap.size, 0, none⟩) (by simp)).trans (by simp)
  have q1 : w1.cell? ⟨w.heap.size, 1, none⟩ = some (.int .i64 e.n) := (hb1.cell (p := ⟨w.heap.size, 1, none⟩) (by simp)).trans (by simp)
  have q2 : w1.cell? ⟨w.heap.size, 2, none⟩ = some (.slice e.args.ad e.args.len e.args.cap) := (hb1.cell (p := ⟨w.heap.size, 2, none⟩) (by simp)).trans (by simp)
  have HB1 := hide (below_two hb1)
  clear hb1
  by_cases h15 : 15 < P
  · have g15 : Pg.capP 15 P > 15 := (unhide HCG).2 h15
    have HR := hide (show R = 2 by rw [unhide HC, if_pos h15])
    generalize Pg.capP 15 P = CP at *
    clear h15
    go_wp2_with fail
    go_ret
    exact ⟨ret_int (by rw [unhide HR]; rfl), unhide HB1⟩
  · have g15 : ¬ Pg.capP 15 P > 15 := fun h => h15 ((unhide HCG).1 h)
    have HR := hide (show R = Pg.first (FL.map fun t => Pg.wx1 sz t.1 t.2.1 t.2.2) by rw [unhide HC, if_neg h15])
    have HA2 := hide ((unhide HAP) _ (unhide HB1) (by omega))
    generalize Pg.capP 15 P = CP at *
    go_wp2_with fail
    refine (unhide HA2).mono ?_
    rintro r w2 ⟨g, c, es, rfl, hrow, htri, hb2⟩
    have hesl : es.length = P := by have := congrArg List.length htri; rw [List.length_map, unhide HFL] at this; exact this
    have HB2 := hide ((unhide HB1).trans (hb2.mono (unhide HB1).size))
    have HAT := hide (fun (i : Nat) (y : Pg.E) (hy : es[i]? = some y) => (show Pg.LE w2 g (i * 3) y from by
      have cc : ∀ j v, y.cells[j]? = some v → w2.cell? ⟨g, i * 3 + j, none⟩ = some v := fun j v hv => by
        have := hrow.cells (g := g) rfl (i * 3 + j) v (Pg.exC_at es i y j v hy hv)
        rw [Go.WideShapes.add_plain] at this
        simpa using this
      exact ⟨by simpa using cc 0 _ rfl, cc 1 _ rfl, cc 2 _ rfl⟩))
    have hgl := (hrow.lt g rfl).2
    have HES := hide hesl
    have HR2 := hide (show R = Pg.first (es.map fun t => Pg.wx1 sz t.k t.n t.args.len) by rw [unhide HR, ← htri, List.map_map]; rfl)
    clear hb2 hrow htri hesl q0 q1 q2 HR HC HCG HFL HAP HEP HA2 HB0
    go_wp2_with fail
    go_loopw [6] (fun iv wr => ∃ (i : Nat), i ≤ P ∧ iv = .int .i64 i ∧ R = Pg.first ((es.drop i).map fun t => Pg.wx1 sz t.k t.n t.args.len) ∧ Below w2.heap.size w2 wr) (fun iv _ => P - (intOf iv).toNat)
    case atStart => exact ⟨0, Nat.zero_le _, rfl, unhide HR2, Below.refl _ _⟩
    case round =>
      clear HR2
      obtain ⟨i, hi, rfl, hR, hbe⟩ := hrel
      have hz := hbe.size
      have HBE := hide hbe
      have HR := hide hR
      clear hbe hR
      by_cases hlt : i < P
      · have hlt2 : i < es.length := by have := unhide HES; omega
        have hy := List.getElem?_eq_getElem hlt2
        have HDR := hide (Pg.first_drop (fun t : Pg.E => Pg.wx1 sz t.k t.n t.args.len) es i _ hy)
        have hl0 := (unhide HAT) i _ hy
        generalize es[i] = y at *
        obtain ⟨K, N, ad, l, cp⟩ := y
        have HDR2 := hide (show Pg.first ((es.drop i).map fun t => Pg.wx1 sz t.k t.n t.args.len) = if Pg.wx1 sz K N l = 0 then Pg.first ((es.drop (i + 1)).map fun t => Pg.wx1 sz t.k t.n t.args.len) else Pg.wx1 sz K N l from unhide HDR)
        clear HDR
        have HDR := hide (unhide HDR2)
        clear HDR2
        obtain ⟨p0, p1, p2⟩ := hl0.later (unhide HBE) (Nat.le_refl _) hgl
        clear hl0 hy
        have hi0 : (0 : Int) ≤ (i : Int) := by omega
        have hi1 : (i : Int) < (P : Int) := by omega
        have hP : P ≤ 15 := by omega
        have hal := (Below.refl wr.heap.size wr).alloc (Nat.le_refl _) (Obj.cells #[.int .i64 K, .int .i64 N, .slice ad l cp] 24)
        have HBA := hide ((unhide HBE).trans (hal.mono hz))
        clear hal
        go_wp2_with fail
        refine (ArgsOf_any K _).mono ?_
        rintro r w4 ⟨rfl, hb4⟩
        have c0 : w4.cell? ⟨wr.heap.size, 0, none⟩ = some (.int .i64 K) := (hb4.cell (p := ⟨wr.heap.size, 0, none⟩) (by simp)).trans (by simp)
        have c1 : w4.cell? ⟨wr.heap.size, 1, none⟩ = some (.int .i64 N) := (hb4.cell (p := ⟨wr.heap.size, 1, none⟩) (by simp)).trans (by simp)
        have c2 : w4.cell? ⟨wr.heap.size, 2, none⟩ = some (.slice ad l cp) := (hb4.cell (p := ⟨wr.heap.size, 2, none⟩) (by simp)).trans (by simp)
        have HB4 := hide ((unhide HBA).trans (hb4.mono (by have := (unhide HBA).size; exact this)))
        have HBF := hide ((unhide HB2).trans ((unhide HB4).mono (unhide HB2).size))
        have HBW := hide (unhide HBF)
        clear hb4 p0 p1 p2
        by_cases hK : 1 ≤ K ∧ K ≤ 10
        · rw [if_pos hK]
          have hA0 : ¬ ((Pg.argsN K : Nat) : Int) < 0 := by omega
          have HW1 := hide (show Pg.wx1 sz K N l = if l = Pg.argsN K then Pg.wx0 sz K N else 1 by unfold Pg.wx1; rw [if_pos hK])
          have hA2 : Pg.argsN K ≤ 2 := by unfold Pg.argsN; split <;> (try split) <;> omega
          by_cases hA : l = Pg.argsN K
          · have HX0 := hide (show Pg.wx1 sz K N l = Pg.wx0 sz K N by rw [unhide HW1, if_pos hA])
            have gA : ((l : Int) != ((Pg.argsN K : Nat) : Int)) = false := by rw [hA]; simp
            clear hA
            generalize Pg.argsN K = AN at *
            by_cases k1 : K = 1
            · subst k1
              by_cases hin : -9999999 ≤ N ∧ N ≤ 9999999
              · have HN := hide (show R = Pg.first ((es.drop (i + 1)).map fun t => Pg.wx1 sz t.k t.n t.args.len) by rw [unhide HR, unhide HDR, unhide HX0, Pg.wx0_num rfl, if_pos hin, if_pos rfl])
                have HD := hide (show decide (-9999999 ≤ N ∧ N ≤ 9999999) = true by simpa using hin)
                clear hin
                go_wp2_with fail
                refine (between_any _ _ _ _).mono ?_
                rintro r w5 ⟨rfl, hw5⟩
                subst hw5
                rw [unhide HD]
                go_wp2_with fail
                exact ⟨⟨i + 1, by omega, by go_num, unhide HN, unhide HB4⟩, by simp [intOf]; omega⟩
              · have HN := hide (show R = 3 by rw [unhide HR, unhide HDR, unhide HX0, Pg.wx0_num rfl, if_neg hin]; rfl)
                have HD := hide (show decide (-9999999 ≤ N ∧ N ≤ 9999999) = false by simpa using hin)
                clear hin
                go_wp2_with fail
                refine (between_any _ _ _ _).mono ?_
                rintro r w5 ⟨rfl, hw5⟩
                subst hw5
                rw [unhide HD]
                go_wp2_with fail
                go_ret
                exact ⟨ret_int (by rw [unhide HN]; rfl), unhide HBF⟩
            · by_cases k23 : K = 2 ∨ K = 3
              · clear k1 hK
                rcases k23 with hk | hk
                · skip
                  subst hk
                  have bt := between_any
                  by_cases hin : 0 ≤ N ∧ N ≤ (sl : Int) - 1
                  · obtain ⟨j, v, rfl, hjv, hat⟩ := Pg.at_lt (sz := sz) (n := N) (by have := unhide HLN; omega)
                    obtain ⟨b, o, had, hb, hcell⟩ := (unhide HSZ).at_ j v hjv
                    have hv0 := (unhide HNN) v (List.mem_of_getElem? hjv)
                    have d0 := ((unhide HBW).cell (p := ⟨b, o + j, none⟩) hb).trans hcell
                    have HD := hide (show decide (0 ≤ (j : Int) ∧ (j : Int) ≤ (sl : Int) - 1) = true by simpa using hin)
                    have hj1 : (0 : Int) ≤ (j : Int) := by omega
                    have hj2 : (j : Int) < (sl : Int) := by omega
                    have HAT2 := hide hat
                    clear hin hjv hcell hat
                    have had' : sa = some ⟨b, o, none⟩ := had
                    subst had'
                    by_cases hbad : v > 0
                    · have HV := hide (Pg.wx0_some (k := 2) (by omega) (unhide HAT2))
                      rw [if_neg (by omega)] at HV
                      have HN := hide (show R = 7 by rw [unhide HR, unhide HDR, unhide HX0, unhide HV]; rfl)
                      have gb : v > 0 := hbad
                      skip
                      go_wp2_with fail
                      refine (bt _ _ _ _).mono ?_
                      rintro r w5 ⟨rfl, hw5⟩
                      subst hw5
                      rw [unhide HD]
                      go_wp2_with fail
                      go_ret
                      exact ⟨ret_int (by rw [unhide HN]; rfl), unhide HBF⟩
                    · have HV := hide (Pg.wx0_some (k := 2) (by omega) (unhide HAT2))
                      rw [if_pos (by omega)] at HV
                      have HN := hide (show R = Pg.first ((es.drop (i + 1)).map fun t => Pg.wx1 sz t.k t.n t.args.len) by rw [unhide HR, unhide HDR, unhide HX0, unhide HV, if_pos rfl])
                      have gb : ¬ v > 0 := hbad
                      skip
                      go_wp2_with fail
                      refine (bt _ _ _ _).mono ?_
                      rintro r w5 ⟨rfl, hw5⟩
                      subst hw5
                      rw [unhide HD]
                      go_wp2_with fail
                      exact ⟨⟨i + 1, by omega, by go_num, unhide HN, unhide HB4⟩, by simp [intOf]; omega⟩
                  · have HN := hide (show R = 5 by rw [unhide HR, unhide HDR, unhide HX0, Pg.wx0_none (by omega) (Pg.at_none (by have := unhide HLN; omega))]; rfl)
                    have HD := hide (show decide (0 ≤ N ∧ N ≤ (sl : Int) - 1) = false by simpa using hin)
                    clear hin
                    go_wp2_with fail
                    refine (bt _ _ _ _).mono ?_
                    rintro r w5 ⟨rfl, hw5⟩
                    subst hw5
                    rw [unhide HD]
                    go_wp2_with fail
                    go_ret
                    exact ⟨ret_int (by rw [unhide HN]; rfl), unhide HBF⟩
                · skip
                  subst hk
                  have bt := between_any
                  by_cases hin : 0 ≤ N ∧ N ≤ (sl : Int) - 1
                  · obtain ⟨j, v, rfl, hjv, hat⟩ := Pg.at_lt (sz := sz) (n := N) (by have := unhide HLN; omega)
                    obtain ⟨b, o, had, hb, hcell⟩ := (unhide HSZ).at_ j v hjv
                    have hv0 := (unhide HNN) v (List.mem_of_getElem? hjv)
                    have d0 := ((unhide HBW).cell (p := ⟨b, o + j, none⟩) hb).trans hcell
                    have HD := hide (show decide (0 ≤ (j : Int) ∧ (j : Int) ≤ (sl : Int) - 1) = true by simpa using hin)
                    have hj1 : (0 : Int) ≤ (j : Int) := by omega
                    have hj2 : (j : Int) < (sl : Int) := by omega
                    have HAT2 := hide hat
                    clear hin hjv hcell hat
                    have had' : sa = some ⟨b, o, none⟩ := had
                    subst had'
                    by_cases hbad : v = 0
                    · have HV := hide (Pg.wx0_some (k := 3) (by omega) (unhide HAT2))
                      rw [if_neg (by omega)] at HV
                      have HN := hide (show R = 7 by rw [unhide HR, unhide HDR, unhide HX0, unhide HV]; rfl)
                      have gb : (v == 0) = true := by simpa using hbad
                      clear hbad
                      go_wp2_with fail
                      refine (bt _ _ _ _).mono ?_
                      rintro r w5 ⟨rfl, hw5⟩
                      subst hw5
                      rw [unhide HD]
                      go_wp2_with fail
                      go_ret
                      exact ⟨ret_int (by rw [unhide HN]; rfl), unhide HBF⟩
                    · have HV := hide (Pg.wx0_some (k := 3) (by omega) (unhide HAT2))
                      rw [if_pos (by omega)] at HV
                      have HN := hide (show R = Pg.first ((es.drop (i + 1)).map fun t => Pg.wx1 sz t.k t.n t.args.len) by rw [unhide HR, unhide HDR, unhide HX0, unhide HV, if_pos rfl])
                      have gb : (v == 0) = false := by simpa using hbad
                      clear hbad
                      go_wp2_with fail
                      refine (bt _ _ _ _).mono ?_
                      rintro r w5 ⟨rfl, hw5⟩
                      subst hw5
                      rw [unhide HD]
                      go_wp2_with fail
                      exact ⟨⟨i + 1, by omega, by go_num, unhide HN, unhide HB4⟩, by simp [intOf]; omega⟩
                  · have HN := hide (show R = 5 by rw [unhide HR, unhide HDR, unhide HX0, Pg.wx0_none (by omega) (Pg.at_none (by have := unhide HLN; omega))]; rfl)
                    have HD := hide (show decide (0 ≤ N ∧ N ≤ (sl : Int) - 1) = false by simpa using hin)
                    clear hin
                    go_wp2_with fail
                    refine (bt _ _ _ _).mono ?_
                    rintro r w5 ⟨rfl, hw5⟩
                    subst hw5
                    rw [unhide HD]
                    go_wp2_with fail
                    go_ret
                    exact ⟨ret_int (by rw [unhide HN]; rfl), unhide HBF⟩
              · have g1 : (K == 1) = false := by simpa using k1
                have g3 : ¬ K ≤ 3 := by omega
                have HX2 := hide (show Pg.wx1 sz K N l = if N = 0 then 0 else 3 by rw [unhide HX0, Pg.wx0_op k1 k23])
                clear k1 k23 hK
                by_cases hN : N = 0
                · have HN := hide (show R = Pg.first ((es.drop (i + 1)).map fun t => Pg.wx1 sz t.k t.n t.args.len) by rw [unhide HR, unhide HDR, unhide HX2, if_pos hN, if_pos rfl])
                  have gN : (N != 0) = false := by simp [hN]
                  clear hN
                  go_wp2_with fail
                  exact ⟨⟨i + 1, by omega, by go_num, unhide HN, unhide HB4⟩, by simp [intOf]; omega⟩
                · have HN := hide (show R = 3 by rw [unhide HR, unhide HDR, unhide HX2, if_neg hN]; rfl)
                  have gN : (N != 0) = true := by simpa using hN
                  clear hN
                  go_wp2_with fail
                  go_ret
                  exact ⟨ret_int (by rw [unhide HN]; rfl), unhide HBF⟩
          · have HN := hide (show R = 1 by rw [unhide HR, unhide HDR, unhide HW1, if_neg hA]; rfl)
            have gA : ((l : Int) != ((Pg.argsN K : Nat) : Int)) = true := by simp; omega
            clear hA
            generalize Pg.argsN K = AN at *
            go_wp2_with fail
            go_ret
            exact ⟨ret_int (by rw [unhide HN]; rfl), unhide HBF⟩
        · rw [if_neg hK]
          have HN := hide (show R = 7 by rw [unhide HR, unhide HDR]; unfold Pg.wx1; rw [if_neg hK]; rfl)
          clear hK
          go_wp2_with fail
          go_ret
          exact ⟨ret_int (by rw [unhide HN]; rfl), unhide HBF⟩
      · have HN := hide (show R = 0 by
          rw [unhide HR, List.drop_of_length_le (by have := unhide HES; omega)]; rfl)
        have HBF := hide ((unhide HB2).trans ((unhide HBE).mono (unhide HB2).size))
        go_wp2_with fail
        go_ret
        exact ⟨ret_int (by rw [unhide HN]; rfl), unhide HBF⟩
end Go.Proofs.Ytcalcikclcmkaaa
