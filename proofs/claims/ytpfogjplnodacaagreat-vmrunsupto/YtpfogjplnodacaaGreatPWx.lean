/-
  Contracts of the checker's part and expr. By the verifier.
-/
import Derived.Test.YtpfogjplnodacaaGreatPPart
import Derived.Deep.CutBlock
set_option maxRecDepth 100000
set_option maxHeartbeats 12800000
namespace Go.Proofs.YtpfogjplnodacaaGreat
open Go.RowKit
set_option linter.unusedVariables false
abbrev Pg.S5 (b : Nat) (A0 A1 E0 E1 E2 : Value) (w W : World) : Prop := W.cell? ⟨b, 0, none⟩ = some A0 ∧ W.cell? ⟨b, 1, none⟩ = some A1 ∧ W.cell? ⟨b + 1, 0, none⟩ = some E0 ∧ W.cell? ⟨b + 1, 1, none⟩ = some E1 ∧ W.cell? ⟨b + 1, 2, none⟩ = some E2 ∧ Below w.heap.size w W
theorem Pg.S5.below {b : Nat} {A0 A1 E0 E1 E2 : Value} {w W W' : World} (h : Pg.S5 b A0 A1 E0 E1 E2 w W) (hb : Below W.heap.size W W') : Pg.S5 b A0 A1 E0 E1 E2 w W' := by
 obtain ⟨h1, h2, h3, h4, h5, h6⟩ := h
 refine ⟨?_, ?_, ?_, ?_, ?_, h6.trans (hb.mono h6.size)⟩
 · rw [hb.cell (World.block_lt_of_cell? W _ h1)]; exact h1
 · rw [hb.cell (World.block_lt_of_cell? W _ h2)]; exact h2
 · rw [hb.cell (World.block_lt_of_cell? W _ h3)]; exact h3
 · rw [hb.cell (World.block_lt_of_cell? W _ h4)]; exact h4
 · rw [hb.cell (World.block_lt_of_cell? W _ h5)]; exact h5
theorem Pg.S5.drew {b : Nat} {A0 A1 E0 E1 E2 : Value} {w W : World} (h : Pg.S5 b A0 A1 E0 E1 E2 w W) : Pg.S5 b A0 A1 E0 E1 E2 w W.drew := ⟨h.1, h.2.1, h.2.2.1, h.2.2.2.1, h.2.2.2.2.1, h.2.2.2.2.2.drew⟩
theorem Pg.S5.bel {b : Nat} {A0 A1 E0 E1 E2 : Value} {w W : World} (h : Pg.S5 b A0 A1 E0 E1 E2 w W) : Below w.heap.size w W := h.2.2.2.2.2
theorem Pg.trick (P : Program) (a : Act) (u : World) {n : Nat} {w v : World} (h : wpAny P .any #[] (fun _ _ _ => Below n w v) 0 #[] a u) : Below n w v := h.2
section
variable {m n : Nat} {s : Pg.Sl} {p : List (Pg.FT m n)} {now : Nat} {f : Pg.F} {x : Pg.FT m n}
theorem part_any : ∀ (k : Nat) (e : Pg.E) (y : Pg.XT k) (w : World), Pg.Cx w m n s p now f x → Pg.RX w k e y →
  Calls Tryz.prog 127 #[.agg #[.slice s.ad s.len s.cap, .int .i64 (now : Nat)], e.val] w fun r w' => r = Pg.ends (Pg.wx x.sizes k y) (.tuple #[]) ∧ Below w.heap.size w w' := by
 intro k
 induction k with
 | zero => intro e y w _ h; exact absurd h id
 | succ k ih =>
  intro e y w hcx hre
  obtain ⟨⟨hk, hn⟩, hs⟩ := hre
  have hlen := hs.len
  have hfew := hs.few
  rw [← hlen] at hfew
  have HWX := hide (show Pg.wx x.sizes (k + 1) y = Pg.orW (Pg.wx1 x.sizes e.k e.n e.args.len) (Pg.first (y.2.map (Pg.wx x.sizes k))) by rw [hk, hn, hlen]; rfl)
  generalize Pg.wx x.sizes (k + 1) y = R at *
  have hb0 := ((Below.refl w.heap.size w).alloc (Nat.le_refl _) (Obj.cells #[.slice s.ad s.len s.cap, .int .i64 (now : Nat)] 146)).alloc (by simp) (Obj.cells #[.int .i64 e.k, .int .i64 e.n, .slice e.args.ad e.args.len e.args.cap] 69)
  have HS5 := hide (show Pg.S5 w.heap.size (.slice s.ad s.len s.cap) (.int .i64 (now : Nat)) (.int .i64 e.k) (.int .i64 e.n) (.slice e.args.ad e.args.len e.args.cap) w ((w.alloc (Obj.cells #[.slice s.ad s.len s.cap, .int .i64 (now : Nat)] 146)).alloc (Obj.cells #[.int .i64 e.k, .int .i64 e.n, .slice e.args.ad e.args.len e.args.cap] 69)) from ⟨by go_simp, by go_simp, by go_simp, by go_simp, by go_simp, hb0⟩)
  have HS := hide hs
  have HLN := hide hlen
  have IH := hide ih
  have HCX := hide hcx
  clear hs hlen ih hcx hk hn hb0
  unfold Pg.E.val
  go_enter Tryz.func127, Tryz.ntmps127
  go_upto_region 1 with fail
  generalize ((w.alloc (Obj.cells #[.slice s.ad s.len s.cap, .int .i64 (now : Nat)] 146)).alloc (Obj.cells #[.int .i64 e.k, .int .i64 e.n, .slice e.args.ad e.args.len e.args.cap] 69)) = W0 at *
  obtain ⟨a0, a1, e0, e1, e2, hbw⟩ := unhide HS5
  have HBW := hide hbw
  clear hbw
  by_cases hK : 1 ≤ e.k ∧ e.k ≤ 10
  · have g1 : ¬ e.k < 1 := by omega
    have g2 : ¬ e.k > 10 := by omega
    go_wp2_with fail
    refine (refuse_no 7 _).mono ?_
    rintro r w1 ⟨rfl, hw1⟩
    subst hw1
    go_upto_region 2 with fail
    have HAN := hide (fun W => argsOf_any e.k W)
    by_cases hA : e.args.len = Pg.argsN e.k
    · have gA : ((e.args.len : Int) != (Pg.argsN e.k : Nat)) = false := by rw [hA]; simp
      have HW1 := hide (show Pg.wx1 x.sizes e.k e.n e.args.len = Pg.wx0 x.sizes e.k e.n by unfold Pg.wx1; rw [if_pos hK, if_pos hA])
      generalize Pg.wx1 x.sizes e.k e.n e.args.len = W1 at *
      generalize Pg.argsN e.k = AN at *
      clear hA
      go_cut [] (fun W => Pg.S5 w.heap.size (.slice s.ad s.len s.cap) (.int .i64 (now : Nat)) (.int .i64 e.k) (.int .i64 e.n) (.slice e.args.ad e.args.len e.args.cap) w W)
      case first =>
       clear a0 a1 e0 e1 e2
       go_region_held3 (fun W => W.cell? ⟨w.heap.size, 0, none⟩ = some (.slice s.ad s.len s.cap) ∧ W.cell? ⟨w.heap.size, 1, none⟩ = some (.int .i64 (now : Nat)) ∧ W.cell? ⟨w.heap.size + 1, 0, none⟩ = some (.int .i64 e.k) ∧ W.cell? ⟨w.heap.size + 1, 1, none⟩ = some (.int .i64 e.n) ∧ W.cell? ⟨w.heap.size + 1, 2, none⟩ = some (.slice e.args.ad e.args.len e.args.cap) ∧ Below w.heap.size w W)
        (first | assumption | exact Pg.S5.drew (unhide HS5))
        (first
         | (go_at_call 136; refine ((unhide HAN) _).mono ?_; rintro r w2 ⟨rfl, hw2⟩; subst hw2)
         | (go_at_call 99; refine (refuse_no 1 _).mono ?_; rintro r w2 ⟨rfl, hw2⟩; subst hw2))
       all_goals
        go_wp2_with fail
        go_meet
        case rel => assumption
      case rest =>
       rename World => W2
       clear a0 a1 e0 e1 e2 HBW HS5
       have HC2 := hide hcut
       obtain ⟨a0, a1, e0, e1, e2, hbw⟩ := hcut
       have HX2 := hide ((unhide HCX).later hbw (Nat.le_refl _))
       have HBW := hide hbw
       have hz2 := hbw.size
       clear hbw
       go_upto_block 0 with fail
       go_cut [] (fun W => Pg.S5 w.heap.size (.slice s.ad s.len s.cap) (.int .i64 (now : Nat)) (.int .i64 e.k) (.int .i64 e.n) (.slice e.args.ad e.args.len e.args.cap) w W ∧ W1 = 0)
       case first =>
        by_cases k1 : e.k = 1
        · have HV := hide (show W1 = if -9999999 ≤ e.n ∧ e.n ≤ 9999999 then 0 else 3 by rw [unhide HW1, Pg.wx0_num k1])
          have b1 : (e.k == 1) = true := by simp [k1]
          clear k1 hK
          by_cases n1 : e.n < -9999999
          · have HR := hide (show R = 3 by rw [unhide HWX, unhide HV, if_neg (by omega)]; rfl)
            go_wp2_with fail
            refine (refuse_yes 3 _).mono ?_
            rintro r w3 ⟨rfl, hw3⟩
            subst hw3
            go_wp2_with fail
            exact ⟨rfl, by rw [unhide HR]; exact (Pg.ends_no (by decide)).symm, unhide HBW⟩
          · by_cases n2 : e.n > 9999999
            · have HR := hide (show R = 3 by rw [unhide HWX, unhide HV, if_neg (by omega)]; rfl)
              go_wp2_with fail
              refine (refuse_yes 3 _).mono ?_
              rintro r w3 ⟨rfl, hw3⟩
              subst hw3
              go_wp2_with fail
              exact ⟨rfl, by rw [unhide HR]; exact (Pg.ends_no (by decide)).symm, unhide HBW⟩
            · have HR := hide (show W1 = 0 by rw [unhide HV, if_pos (by omega)])
              go_wp2_with fail
              refine (refuse_no 3 _).mono ?_
              rintro r w3 ⟨rfl, hw3⟩
              subst hw3
              go_wp2_with fail
              go_meet
              case rel => exact ⟨unhide HC2, unhide HR⟩
        · have b1 : (e.k == 1) = false := by simpa using k1
          by_cases k2 : e.k = 2 ∨ e.k = 3
          · rcases k2 with k2 | k2
            · have b2 : (e.k == 2) = true := by simp [k2]
              have b3 : (e.k == 3) = false := by simp [k2]
              have K2 := hide k2
              clear k2
              cases hz : Pg.at? x.sizes e.n with
              | none =>
               have HR := hide (show R = 5 by rw [unhide HWX, unhide HW1, Pg.wx0_none (by have := unhide K2; omega) hz]; rfl)
               have HHV := hide (hasVar_any _ e.n (unhide HX2))
               rw [hz] at HHV
               clear k1 hK hz
               go_wp2_with fail
               refine (unhide HHV).mono ?_
               rintro r w3 ⟨rfl, hb3⟩
               have HB3 := hide ((unhide HBW).trans (hb3.mono hz2))
               clear hb3
               go_wp2_with fail
               refine (refuse_yes 5 _).mono ?_
               rintro r w4 ⟨rfl, hw4⟩
               subst hw4
               go_wp2_with fail
               exact ⟨rfl, by rw [unhide HR]; exact (Pg.ends_no (by decide)).symm, unhide HB3⟩
              | some v =>
               have HV := hide (show W1 = if (v ≠ 0 ↔ e.k = 3) then 0 else 7 by rw [unhide HW1, Pg.wx0_some (by have := unhide K2; omega) hz])
               have HHV := hide (hasVar_any _ e.n (unhide HX2))
               rw [hz] at HHV
               have HZ := hide hz
               clear k1 hK hz
               go_wp2_with fail
               refine (unhide HHV).mono ?_
               rintro r w3 ⟨rfl, hb3⟩
               have HB3 := hide ((unhide HBW).trans (hb3.mono hz2))
               have HC3 := hide ((unhide HC2).below hb3)
               have HX3 := hide ((unhide HX2).later hb3 (Nat.le_refl _))
               clear hb3 a0 a1 e0 e1 e2 HX2 HC2 HBW HHV
               go_wp2_with fail
               refine (refuse_no 5 _).mono ?_
               rintro r w4 ⟨rfl, hw4⟩
               subst hw4
               go_upto_region 10 with fail
               have HIA := hide (fun (W : World) (hW : Below w.heap.size w W) => isArray_any W e.n v ((unhide HCX).later hW (Nat.le_refl _)) (unhide HZ))
               by_cases hv : (v ≠ 0 ↔ e.k = 3)
               · have HR := hide (show W1 = 0 by rw [unhide HV, if_pos hv])
                 have hV : decide (v ≠ 0) = false := by
                  by_cases h0 : v = 0
                  · simp [h0, unhide K2] at hv ⊢
                  · simp [h0, unhide K2] at hv ⊢
                 rw [hV] at HIA
                 clear hV
                 clear hv
                 go_region_held3 (fun W => W.cell? ⟨w.heap.size, 0, none⟩ = some (.slice s.ad s.len s.cap) ∧ W.cell? ⟨w.heap.size, 1, none⟩ = some (.int .i64 (now : Nat)) ∧ W.cell? ⟨w.heap.size + 1, 0, none⟩ = some (.int .i64 e.k) ∧ W.cell? ⟨w.heap.size + 1, 1, none⟩ = some (.int .i64 e.n) ∧ W.cell? ⟨w.heap.size + 1, 2, none⟩ = some (.slice e.args.ad e.args.len e.args.cap) ∧ Below w.heap.size w W)
                  (first
                   | assumption
                   | exact Pg.S5.below (by assumption) (unhide HB5)
                   | exact Pg.S5.drew (unhide HC3))
                  (first
                   | (go_at_call 124; refine ((unhide HIA) _ ?_).mono ?_; exact Pg.S5.bel (by assumption); rintro r w5 ⟨rfl, hb5⟩; have HB5 := hide hb5; clear hb5)
                   | (go_at_call 99; refine (refuse_no 7 _).mono ?_; rintro r w6 ⟨rfl, hw6⟩; subst hw6))
                 all_goals
                  go_wp2_with fail
                  go_meet
                  case rel => exact ⟨by assumption, unhide HR⟩
               · have HR := hide (show R = 7 by rw [unhide HWX, unhide HV, if_neg hv]; rfl)
                 have hV : decide (v ≠ 0) = true := by
                  by_cases h0 : v = 0
                  · simp [h0, unhide K2] at hv ⊢
                  · simp [h0, unhide K2] at hv ⊢
                 rw [hV] at HIA
                 clear hV
                 clear hv
                 obtain ⟨a0, a1, e0, e1, e2, _⟩ := unhide HC3
                 refine Code.wp_mono (Q := fun ex a v => (ex = .panic (Pg.gave 7)) ∧ a.defers = [] ∧ Below w.heap.size w v) (fun ex a v h => ?_) ?_
                 · obtain ⟨rfl, hd, hbv⟩ := h
                   exact ⟨hd, by rw [unhide HR]; exact (Pg.ends_no (by decide)).symm, hbv⟩
                 go_region_with (first
                  | (go_at_call 124; refine ((unhide HIA) _ ?_).mono ?_; (first | exact unhide HB3 | exact (unhide HB3).drew); rintro r w5 ⟨rfl, hb5⟩; obtain ⟨f0, f1, f2, f3, f4, hB5⟩ := Pg.S5.below (by first | exact unhide HC3 | exact (unhide HC3).drew) hb5; have HB5 := hide hB5; clear hb5 hB5 f0 f1)
                  | (go_at_call 99; refine (refuse_yes 7 _).mono ?_; rintro r w6 ⟨rfl, hw6⟩; subst hw6)
                  | (refine Pg.trick Tryz.prog ⟨#[], []⟩ w ?_))
                 all_goals first | exact unhide HB5 | exact (unhide HB5).drew
            · have b2 : (e.k == 2) = false := by simp [k2]
              have b3 : (e.k == 3) = true := by simp [k2]
              have K2 := hide k2
              clear k2
              cases hz : Pg.at? x.sizes e.n with
              | none =>
               have HR := hide (show R = 5 by rw [unhide HWX, unhide HW1, Pg.wx0_none (by have := unhide K2; omega) hz]; rfl)
               have HHV := hide (hasVar_any _ e.n (unhide HX2))
               rw [hz] at HHV
               clear k1 hK hz
               go_wp2_with fail
               refine (unhide HHV).mono ?_
               rintro r w3 ⟨rfl, hb3⟩
               have HB3 := hide ((unhide HBW).trans (hb3.mono hz2))
               clear hb3
               go_wp2_with fail
               refine (refuse_yes 5 _).mono ?_
               rintro r w4 ⟨rfl, hw4⟩
               subst hw4
               go_wp2_with fail
               exact ⟨rfl, by rw [unhide HR]; exact (Pg.ends_no (by decide)).symm, unhide HB3⟩
              | some v =>
               have HV := hide (show W1 = if (v ≠ 0 ↔ e.k = 3) then 0 else 7 by rw [unhide HW1, Pg.wx0_some (by have := unhide K2; omega) hz])
               have HHV := hide (hasVar_any _ e.n (unhide HX2))
               rw [hz] at HHV
               have HZ := hide hz
               clear k1 hK hz
               go_wp2_with fail
               refine (unhide HHV).mono ?_
               rintro r w3 ⟨rfl, hb3⟩
               have HB3 := hide ((unhide HBW).trans (hb3.mono hz2))
               have HC3 := hide ((unhide HC2).below hb3)
               have HX3 := hide ((unhide HX2).later hb3 (Nat.le_refl _))
               clear hb3 a0 a1 e0 e1 e2 HX2 HC2 HBW HHV
               go_wp2_with fail
               refine (refuse_no 5 _).mono ?_
               rintro r w4 ⟨rfl, hw4⟩
               subst hw4
               go_upto_region 10 with fail
               have HIA := hide (fun (W : World) (hW : Below w.heap.size w W) => isArray_any W e.n v ((unhide HCX).later hW (Nat.le_refl _)) (unhide HZ))
               by_cases hv : (v ≠ 0 ↔ e.k = 3)
               · have HR := hide (show W1 = 0 by rw [unhide HV, if_pos hv])
                 have hV : decide (v ≠ 0) = true := by
                  by_cases h0 : v = 0
                  · simp [h0, unhide K2] at hv ⊢
                  · simp [h0, unhide K2] at hv ⊢
                 rw [hV] at HIA
                 clear hV
                 clear hv
                 go_region_held3 (fun W => W.cell? ⟨w.heap.size, 0, none⟩ = some (.slice s.ad s.len s.cap) ∧ W.cell? ⟨w.heap.size, 1, none⟩ = some (.int .i64 (now : Nat)) ∧ W.cell? ⟨w.heap.size + 1, 0, none⟩ = some (.int .i64 e.k) ∧ W.cell? ⟨w.heap.size + 1, 1, none⟩ = some (.int .i64 e.n) ∧ W.cell? ⟨w.heap.size + 1, 2, none⟩ = some (.slice e.args.ad e.args.len e.args.cap) ∧ Below w.heap.size w W)
                  (first
                   | assumption
                   | exact Pg.S5.below (by assumption) (unhide HB5)
                   | exact Pg.S5.drew (unhide HC3))
                  (first
                   | (go_at_call 124; refine ((unhide HIA) _ ?_).mono ?_; exact Pg.S5.bel (by assumption); rintro r w5 ⟨rfl, hb5⟩; have HB5 := hide hb5; clear hb5)
                   | (go_at_call 99; refine (refuse_no 7 _).mono ?_; rintro r w6 ⟨rfl, hw6⟩; subst hw6))
                 all_goals
                  go_wp2_with fail
                  go_meet
                  case rel => exact ⟨by assumption, unhide HR⟩
               · have HR := hide (show R = 7 by rw [unhide HWX, unhide HV, if_neg hv]; rfl)
                 have hV : decide (v ≠ 0) = false := by
                  by_cases h0 : v = 0
                  · simp [h0, unhide K2] at hv ⊢
                  · simp [h0, unhide K2] at hv ⊢
                 rw [hV] at HIA
                 clear hV
                 clear hv
                 obtain ⟨a0, a1, e0, e1, e2, _⟩ := unhide HC3
                 refine Code.wp_mono (Q := fun ex a v => (ex = .panic (Pg.gave 7)) ∧ a.defers = [] ∧ Below w.heap.size w v) (fun ex a v h => ?_) ?_
                 · obtain ⟨rfl, hd, hbv⟩ := h
                   exact ⟨hd, by rw [unhide HR]; exact (Pg.ends_no (by decide)).symm, hbv⟩
                 go_region_with (first
                  | (go_at_call 124; refine ((unhide HIA) _ ?_).mono ?_; (first | exact unhide HB3 | exact (unhide HB3).drew); rintro r w5 ⟨rfl, hb5⟩; obtain ⟨f0, f1, f2, f3, f4, hB5⟩ := Pg.S5.below (by first | exact unhide HC3 | exact (unhide HC3).drew) hb5; have HB5 := hide hB5; clear hb5 hB5 f0 f1)
                  | (go_at_call 99; refine (refuse_yes 7 _).mono ?_; rintro r w6 ⟨rfl, hw6⟩; subst hw6)
                  | (refine Pg.trick Tryz.prog ⟨#[], []⟩ w ?_))
                 all_goals first | exact unhide HB5 | exact (unhide HB5).drew
          · have b2 : (e.k == 2) = false := by simp; omega
            have b3 : (e.k == 3) = false := by simp; omega
            have HV := hide (show W1 = if e.n = 0 then 0 else 3 by rw [unhide HW1, Pg.wx0_op k1 k2])
            clear k1 k2 hK
            by_cases n1 : e.n = 0
            · have c1 : (e.n != 0) = false := by simp [n1]
              have HR := hide (show W1 = 0 by rw [unhide HV, if_pos n1])
              clear n1
              go_wp2_with fail
              refine (refuse_no 3 _).mono ?_
              rintro r w3 ⟨rfl, hw3⟩
              subst hw3
              go_wp2_with fail
              go_meet
              case rel => exact ⟨unhide HC2, unhide HR⟩
            · have c1 : (e.n != 0) = true := by simpa using n1
              have HR := hide (show R = 3 by rw [unhide HWX, unhide HV, if_neg n1]; rfl)
              clear n1
              go_wp2_with fail
              refine (refuse_yes 3 _).mono ?_
              rintro r w3 ⟨rfl, hw3⟩
              subst hw3
              go_wp2_with fail
              exact ⟨rfl, by rw [unhide HR]; exact (Pg.ends_no (by decide)).symm, unhide HBW⟩
       case rest =>
        rename World => W3
        clear a0 a1 e0 e1 e2 HBW HC2 HX2 HW1
        obtain ⟨⟨a0, a1, e0, e1, e2, hbw⟩, hw1⟩ := hcut
        have HR := hide (show R = Pg.first (y.2.map (Pg.wx x.sizes k)) by rw [unhide HWX, hw1]; rfl)
        have HBW := hide hbw
        clear hw1 hbw HWX
        go_wp2_with fail
        go_loopw [61] (fun iv wr => ∃ (i : Nat), i ≤ e.args.len ∧ iv = .int .i64 i ∧ R = Pg.first ((y.2.drop i).map (Pg.wx x.sizes k)) ∧ wr.cell? ⟨w.heap.size, 0, none⟩ = some (.slice s.ad s.len s.cap) ∧ wr.cell? ⟨w.heap.size, 1, none⟩ = some (.int .i64 (now : Nat)) ∧ Below w.heap.size w wr) (fun iv _ => e.args.len - (intOf iv).toNat)
        case atStart => exact ⟨0, Nat.zero_le _, rfl, unhide HR, a0, a1, unhide HBW⟩
        case round =>
         clear a0 a1 e0 e1 e2 HBW HR
         obtain ⟨i, hi, rfl, hR, a0, a1, hbe⟩ := hrel
         have hz := hbe.size
         have HBE := hide hbe
         have HR := hide hR
         clear hbe hR
         by_cases hlt : i < e.args.len
         · have hlt2 : i < y.2.length := by have := unhide HLN; omega
           have hy := List.getElem?_eq_getElem hlt2
           obtain ⟨b, o, cc, had, hb, hlies, hrd⟩ := (unhide HS).at_ i _ hy
           have HDR := hide (Pg.first_drop (Pg.wx x.sizes k) y.2 i _ hy)
           generalize y.2[i] = z at *
           have hll := hlies.later (unhide HBE) (Nat.le_refl _) hb
           obtain ⟨p0, p1, p2⟩ := hll
           have hal := (Below.refl wr.heap.size wr).alloc (Nat.le_refl _) (Obj.cells #[.int .i64 cc.k, .int .i64 cc.n, .slice cc.args.ad cc.args.len cc.args.cap] 69)
           have hba := (unhide HBE).trans (hal.mono hz)
           have HRD := hide (hrd.later hba (Nat.le_refl _))
           have HCA := hide ((unhide HCX).later hba (Nat.le_refl _))
           have hlw := World.block_lt_of_cell? wr _ a0
           have q0 := (hal.cell (p := ⟨w.heap.size, 0, none⟩) hlw).trans a0
           have q1 := (hal.cell (p := ⟨w.heap.size, 1, none⟩) hlw).trans a1
           have HBA := hide hba
           clear hlies hrd hy hal hba
           have hi0 : (0 : Int) ≤ (i : Int) := by omega
           have hi1 : (i : Int) < (e.args.len : Int) := by omega
           rw [had]
           go_wp2_with fail
           refine ((unhide IH) cc z _ (unhide HCA) (unhide HRD)).mono ?_
           rintro r w4 ⟨hr4, hb4⟩
           have HB4 := hide ((unhide HBA).trans (hb4.mono (unhide HBA).size))
           have s0 := (hb4.cell (p := ⟨w.heap.size, 0, none⟩) (World.block_lt_of_cell? _ _ q0)).trans q0
           have s1 := (hb4.cell (p := ⟨w.heap.size, 1, none⟩) (World.block_lt_of_cell? _ _ q1)).trans q1
           clear hb4 q0 q1
           by_cases hw0 : Pg.wx x.sizes k z = 0
           · rw [Pg.ends_ok hw0] at hr4
             subst hr4
             have HN := hide (show R = Pg.first ((y.2.drop (i + 1)).map (Pg.wx x.sizes k)) by rw [unhide HR, unhide HDR, if_pos hw0])
             clear hw0
             go_wp2_with fail
             exact ⟨⟨i + 1, by omega, by go_num, unhide HN, s0, s1, unhide HB4⟩, by simp [intOf]; omega⟩
           · rw [Pg.ends_no hw0] at hr4
             subst hr4
             have HN := hide (show R = Pg.wx x.sizes k z by rw [unhide HR, unhide HDR, if_neg hw0])
             have HW0 := hide hw0
             clear hw0
             go_wp2_with fail
             exact ⟨rfl, by rw [unhide HN]; exact (Pg.ends_no (unhide HW0)).symm, unhide HB4⟩
         · have HN := hide (show R = 0 by
            rw [unhide HR, List.drop_of_length_le (by have := unhide HLN; omega)]; rfl)
           go_wp2_with fail
           go_end0
           exact ⟨by rw [unhide HN]; exact (Pg.ends_ok rfl).symm, unhide HBE⟩
    · have gA : ((e.args.len : Int) != (Pg.argsN e.k : Nat)) = true := by simp; omega
      have HR := hide (show R = 1 by rw [unhide HWX]; unfold Pg.wx1; rw [if_pos hK, if_neg hA]; rfl)
      generalize Pg.argsN e.k = AN at *
      refine Code.wp_mono (Q := fun ex a v => (ex = .panic (Pg.gave 1)) ∧ a.defers = [] ∧ Below w.heap.size w v) (fun ex a v h => ?_) ?_
      · obtain ⟨rfl, hd, hbv⟩ := h
        exact ⟨hd, by rw [unhide HR]; exact (Pg.ends_no (by decide)).symm, hbv⟩
      go_region_with (first | (go_at_call 136; refine ((unhide HAN) _).mono ?_; rintro r w2 ⟨rfl, hw2⟩; subst hw2) | (go_at_call 99; refine (refuse_yes 1 _).mono ?_; rintro r w2 ⟨rfl, hw2⟩; subst hw2) | (refine Pg.trick Tryz.prog ⟨#[], []⟩ w ?_))
      all_goals exact (unhide HBW).drew
  · have HR := hide (show R = 7 by rw [unhide HWX]; unfold Pg.wx1; rw [if_neg hK]; rfl)
    by_cases hk1 : e.k < 1
    · clear hK
      go_wp2_with fail
      refine (refuse_yes 7 _).mono ?_
      rintro r w1 ⟨rfl, hw1⟩
      subst hw1
      go_wp2_with fail
      exact ⟨rfl, by rw [unhide HR]; exact (Pg.ends_no (by decide)).symm, unhide HBW⟩
    · have hk2 : e.k > 10 := by omega
      clear hK
      go_wp2_with fail
      refine (refuse_yes 7 _).mono ?_
      rintro r w1 ⟨rfl, hw1⟩
      subst hw1
      go_wp2_with fail
      exact ⟨rfl, by rw [unhide HR]; exact (Pg.ends_no (by decide)).symm, unhide HBW⟩
end
end Go.Proofs.YtpfogjplnodacaaGreat
