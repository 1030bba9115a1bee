/-
  The contract of trace's Right. By the verifier.
-/
import Derived.Test.YtildjlaphkjegaaXEvs
namespace Go.Proofs.Ytildjlaphkjegaa
open Go.RowKit
set_option linter.unusedVariables false

/-- What is wrong with what Right is handed. -/
def Xr.chkL {m n : Nat} (p : List (Pg.FT m n)) (l : List Ev) : Nat := if Pg.chkP p = 0 then (if 4000 < l.length then 2 else 0) else Pg.chkP p
/-- What came in, by a list. -/
def Xr.inOf (l : List Ev) : List Int := ((Xr.that 3 l).take 50).map (fun e => e.n5)
/-- Is a list the beginning of a trace? -/
def Xr.right {m n : Nat} (p : List (Pg.FT m n)) (l : List Ev) : Bool :=
  decide (Xr.chkL p l = 0) && decide (Xr.chkR p (Xr.inOf l) ((Xr.that 1 l).length : Nat) = 0) && decide (l.length ≤ (Xr.out p (Xr.inOf l) ((Xr.that 1 l).length : Nat)).length) && Xr.sameL l ((Xr.out p (Xr.inOf l) ((Xr.that 1 l).length : Nat)).take l.length)
theorem Cl.RE.takeN {w : World} {ad : Option Addr} {l : List Ev} (h : Cl.RE w ad l) (k : Nat) : Cl.RE w ad (l.take k) := ⟨fun i x hi => by
  rw [List.getElem?_take] at hi
  split at hi
  · exact h.at_ i x hi
  · cases hi⟩
theorem Xr.own_cap {W : World} {B n c : Nat} {a : Option Addr} {e : TypeId} {z : Nat} {xs : List Value} (h : W.ownsRow B e z (.slice a n c) n xs) : n ≤ c := by
  rcases h.2 with ⟨h1, h2⟩ | ⟨g, cap, cur, hv, _, _, hc, _⟩
  · omega
  · cases hv
    exact hc
theorem Xr.out_len {m n : Nat} (p : List (Pg.FT m n)) (inp : List Int) (fuel : Int) (W : World) {B c : Nat} {a : Option Addr} (h : W.ownsRow B 100 6 (.slice a (Xr.out p inp fuel).length c) (Xr.out p inp fuel).length (Xr.evC (Xr.out p inp fuel))) : (Xr.out p inp fuel).length ≤ 9223372036854775807 := by
  have h1 := Xr.own_cap h
  rcases h.2 with ⟨_, h2⟩ | ⟨g, cap, cur, hv, _, _, _, hc, _⟩
  · omega
  · cases hv
    unfold maxLen at hc
    omega

set_option maxRecDepth 100000 in
set_option maxHeartbeats 3200000 in
theorem Right_any {m n : Nat} (fs : Pg.Sl) (p : List (Pg.FT m n)) (l : List Ev) (ad : Option Addr) (cap : Nat) (w : World) (hp : Pg.RP w m n fs p) (hpf : Pg.parFit p) (hr : Cl.RE w ad l) (hl : l.length ≤ 35184372088832) :
    Calls Try.prog 27 #[.agg #[.slice fs.ad fs.len fs.cap], .slice ad l.length cap] w fun r w' => r = .returned (.tuple #[.bool (Xr.right p l), .int .i64 (Xr.chkL p l : Nat)]) ∧ Below w.heap.size w w' := by
  have hb0 := (Below.refl w.heap.size w).alloc (Nat.le_refl _) (Obj.cells #[.slice fs.ad fs.len fs.cap] 36)
  have q0 : (w.alloc (Obj.cells #[.slice fs.ad fs.len fs.cap] 36)).cell? ⟨w.heap.size, 0, none⟩ = some (.slice fs.ad fs.len fs.cap) := by go_simp
  have HCK := hide (Check_any fs p _ (Pg.RP.later hp hb0 (Nat.le_refl _)) hpf)
  have HRE := hide (fun (V : World) (hV : Below w.heap.size w V) => hr.later hV (Nat.le_refl _))
  have HRUN := hide (fun (V : World) (hV : Below w.heap.size w V) (ts : Pg.Sl) (inp : List Int) (fuel : Int) (hin : Pg.RN V ts inp) => Run_any fs p ts inp fuel V (Pg.RP.later hp hV (Nat.le_refl _)) hpf hin)
  have HB0 := hide hb0
  obtain ⟨R, hR⟩ : ∃ R, R = Xr.chkL p l := ⟨_, rfl⟩
  obtain ⟨B, hB⟩ : ∃ B, B = Xr.right p l := ⟨_, rfl⟩
  rw [← hR, ← hB]
  obtain ⟨nl, hnl⟩ : ∃ nl, nl = l.length := ⟨_, rfl⟩
  have HCL := hide (show R = if Pg.chkP p = 0 then (if 4000 < nl then 2 else 0) else Pg.chkP p by rw [hR, hnl]; rfl)
  have HBF := hide (show R ≠ 0 → B = false from fun h => by rw [hB]; unfold Xr.right; rw [← hR, decide_eq_false h]; rfl)
  have HBT := hide (show R = 0 → B = (decide (Xr.chkR p (Xr.inOf l) ((Xr.that 1 l).length : Nat) = 0) && decide (nl ≤ (Xr.out p (Xr.inOf l) ((Xr.that 1 l).length : Nat)).length) && Xr.sameL l ((Xr.out p (Xr.inOf l) ((Xr.that 1 l).length : Nat)).take nl)) from fun h => by rw [hB, hnl]; unfold Xr.right; rw [← hR, decide_eq_true h]; rfl)
  rw [← hnl] at hl ⊢
  have HNL := hide hnl
  clear hp hpf hr hb0 hR hB hnl
  go_enter Try.func27, Try.ntmps27
  go_wp2_with fail
  generalize w.alloc (Obj.cells #[.slice fs.ad fs.len fs.cap] 36) = W0 at *
  refine (unhide HCK).mono ?_
  rintro r w1 ⟨rfl, hb1⟩
  have r0 := (hb1.cell (p := ⟨w.heap.size, 0, none⟩) (World.block_lt_of_cell? _ _ q0)).trans q0
  have HB1 := hide ((unhide HB0).trans (hb1.mono (unhide HB0).size))
  clear hb1 q0
  by_cases hc : Pg.chkP p = 0
  case neg =>
    have HRR := hide (show R = Pg.chkP p by rw [unhide HCL, if_neg hc])
    generalize Pg.chkP p = CP at *
    have bc : (((CP : Nat) : Int) != 0) = true := by simp; exact hc
    have HC := hide hc
    clear hc
    go_wp2_with fail
    refine bodyPost_ret (v := .tuple #[.bool false, .int .i64 (CP : Nat)]) (by simp [results, Try.results27, go_sem]) rfl ?_
    rw [(unhide HBF) (by rw [unhide HRR]; exact unhide HC), unhide HRR]
    exact ⟨rfl, unhide HB1⟩
  case pos =>
    have HR2 := hide (show R = if 4000 < nl then 2 else 0 by rw [unhide HCL, if_pos hc])
    rw [hc]
    clear hc
    by_cases h4 : 4000 < nl
    · have g4 : (nl : Int) > 4000 := by omega
      have HRR := hide (show R = 2 by rw [unhide HR2, if_pos h4])
      clear h4
      go_wp2_with fail
      refine bodyPost_ret (v := .tuple #[.bool false, .int .i64 2]) (by simp [results, Try.results27, go_sem]) rfl ?_
      rw [(unhide HBF) (by rw [unhide HRR]; decide), unhide HRR]
      exact ⟨rfl, unhide HB1⟩
    · have g4 : (4000 < (nl : Int)) = False := by simp; omega
      have hn4 : nl ≤ 4000 := by omega
      have HRR := hide (show R = 0 by rw [unhide HR2, if_neg h4])
      have HBB := hide ((unhide HBT) (unhide HRR))
      have hl4 : l.length ≤ 4000 := by have := unhide HNL; omega
      have HST := hide (fun (V : World) (hV : Below w.heap.size w V) => show Calls Try.prog 48 #[.slice ad nl cap, .func (.func 49) #[] #[]] V _ from by rw [unhide HNL]; exact steps_any l ad cap V ((unhide HRE) V hV) hl4)
      have HRD := hide (fun (V : World) (hV : Below w.heap.size w V) => show Calls Try.prog 48 #[.slice ad nl cap, .func (.func 50) #[] #[]] V _ from by rw [unhide HNL]; exact reads_any l ad cap V ((unhide HRE) V hV) hl4)
      have hs4 : (Xr.that 1 l).length ≤ 4000 := Nat.le_trans (Xr.that_le 1 l) hl4
      have hr4 : (Xr.that 3 l).length ≤ 4000 := Nat.le_trans (Xr.that_le 3 l) hl4
      clear h4
      go_wp2_with fail
      refine ((unhide HST) _ (unhide HB1)).mono ?_
      rintro r w2 ⟨a2, c2, rfl, ho2, hb2⟩
      have r2 := (hb2.cell (p := ⟨w.heap.size, 0, none⟩) (World.block_lt_of_cell? _ _ r0)).trans r0
      have HB2 := hide ((unhide HB1).trans (hb2.mono (unhide HB1).size))
      clear hb2 ho2 r0
      go_wp2_with fail
      refine ((unhide HRD) _ (unhide HB2)).mono ?_
      rintro r w3 ⟨a3, c3, rfl, ho3, hb3⟩
      have r3 := (hb3.cell (p := ⟨w.heap.size, 0, none⟩) (World.block_lt_of_cell? _ _ r2)).trans r2
      have HB3 := hide ((unhide HB2).trans (hb3.mono (unhide HB2).size))
      have HRE3 := hide (Xr.re_own rfl ho3)
      have hc3 := Xr.own_cap ho3
      have HIN := hide (fun (V : World) (hV : Below w3.heap.size w3 V) => inputOf_any (Xr.that 3 l) a3 c3 V ((unhide HRE3).later hV (Nat.le_refl _)) hr4 hc3)
      have HIO := hide (show ((Xr.that 3 l).take 50).map (fun e => e.n5) = Xr.inOf l from rfl)
      rw [unhide HIO] at HIN
      have hbl3 := World.block_lt_of_cell? _ _ r3
      clear hb3 ho3 r2
      generalize Xr.inOf l = IN at *
      generalize (Xr.that 1 l).length = ST at *
      generalize (Xr.that 3 l).length = RD at *
      have HO := hide (Xr.out_len p IN (ST : Nat))
      generalize hO : Xr.out p IN ((ST : Nat) : Int) = O at *
      generalize hQ : Xr.chkR p IN ((ST : Nat) : Int) = Q at *
      have HRN := hide (fun (V : World) (hV : Below w3.heap.size w3 V) (ts : Pg.Sl) (hin : Pg.RN V ts IN) => show Calls Try.prog 25 #[.agg #[.slice fs.ad fs.len fs.cap], .slice ts.ad ts.len ts.cap, .int .i64 (ST : Nat)] V fun r w' => ∃ a c, r = .returned (.tuple #[.slice a O.length c, .int .i64 (Q : Nat)]) ∧ w'.ownsRow V.heap.size 100 6 (.slice a O.length c) O.length (Xr.evC O) ∧ Below V.heap.size V w' from by
        have := (unhide HRUN) V ((unhide HB3).trans (hV.mono (unhide HB3).size)) ts IN (ST : Nat) hin
        rw [hO, hQ] at this
        exact this)
      clear hO hQ
      go_upto_region 8 with fail
      have HKM := hide (show ∀ V : World, Below w3.heap.size w3 V → (V.cell? ⟨w.heap.size, 0, none⟩ = some (.slice fs.ad fs.len fs.cap) ∧ Below w3.heap.size w3 V) from fun V hV => ⟨(hV.cell (p := ⟨w.heap.size, 0, none⟩) hbl3).trans r3, hV⟩)
      clear r3
      go_cut [9, 10] (fun t9 t10 V => t10 = .int .i64 (Q : Nat) ∧ ∃ a6 c6, t9 = .slice a6 O.length c6 ∧ V.ownsRow w3.heap.size 100 6 (.slice a6 O.length c6) O.length (Xr.evC O) ∧ Below w3.heap.size w3 V)
      case first =>
        go_region_held3 (fun V => V.cell? ⟨w.heap.size, 0, none⟩ = some (.slice fs.ad fs.len fs.cap) ∧ Below w3.heap.size w3 V)
          (first | assumption | exact (unhide HKM) _ ((Below.refl _ _).drew) | exact (unhide HKM) _ (unhide HB6) | exact (unhide HKM) _ (unhide HB5))
          (first
            | (go_at_call 51; refine ((unhide HIN) _ ?_).mono ?_; exact (Below.refl _ _).drew; rintro r w5 ⟨a5, n5, c5, rfl, hrn5, hb5⟩; have HN5 := hide hrn5; have HB5 := hide (((Below.refl w3.heap.size w3).drew).trans (hb5.mono (Nat.le_refl _))); clear hrn5 hb5)
            | (go_at_call 25; refine ((unhide HRN) w5 (unhide HB5) ⟨a5, n5, c5⟩ (unhide HN5)).mono ?_; rintro r w6 ⟨a6, c6, rfl, ho6, hb6⟩; have HO6 := hide (Pg.ow_base ho6 (unhide HB5).size); have HB6 := hide ((unhide HB5).trans (hb6.mono (unhide HB5).size)); clear ho6 hb6))
        all_goals
          go_wp2_with fail
          go_meet
          case rel => exact ⟨rfl, _, _, rfl, unhide HO6, unhide HB6⟩
      case rest =>
        rename World => W4
        obtain ⟨rfl, a6, c6, rfl, ho6, hb6⟩ := hcut
        have HB4 := hide ((unhide HB3).trans (hb6.mono (unhide HB3).size))
        have hc6 := Xr.own_cap ho6
        have HRO := hide (Xr.re_own rfl ho6)
        clear ho6 hb6
        by_cases hQ0 : Q = 0
        case neg =>
          have HBX := hide (show B = false by rw [unhide HBB, decide_eq_false hQ0]; rfl)
          have bq : (((Q : Nat) : Int) == 0) = false := by simp; exact hQ0
          clear hQ0
          generalize O.length = NO at *
          go_wp2_with fail
          refine bodyPost_ret (v := .tuple #[.bool false, .int .i64 0]) (by simp [results, Try.results27, go_sem]) rfl ?_
          rw [unhide HBX, unhide HRR]
          exact ⟨rfl, unhide HB4⟩
        case pos =>
          have HB5 := hide (show B = (decide (nl ≤ O.length) && Xr.sameL l (O.take nl)) by rw [unhide HBB, decide_eq_true hQ0]; rfl)
          subst hQ0
          by_cases hno : nl ≤ O.length
          · have HBX := hide (show B = Xr.sameL l (O.take nl) by rw [unhide HB5, decide_eq_true hno]; rfl)
            have htl : (O.take nl).length = nl := by rw [List.length_take]; omega
            have HEQ := hide (show Calls Try.prog 52 #[.slice ad nl cap, .slice a6 nl c6] W4 fun e w' => e = .returned (.bool (Xr.sameL l (O.take nl))) ∧ Below W4.heap.size W4 w' from by
              have := Equal_any l (O.take nl) ad a6 cap c6 W4 ((unhide HRE) W4 (unhide HB4)) ((unhide HRO).takeN nl) hl4 (by omega)
              rw [htl, ← unhide HNL] at this
              exact this)
            generalize Xr.sameL l (O.take nl) = SB at *
            clear htl
            have g1 : (nl : Int) ≤ (O.length : Int) := by omega
            have g2 : (nl : Int) ≤ (c6 : Int) := by omega
            have g3 : (0 : Int) ≤ (nl : Int) := by omega
            generalize O.length = NO at *
            go_wp2_with fail
            refine (unhide HEQ).mono ?_
            rintro r w7 ⟨rfl, hb7⟩
            have HB7 := hide ((unhide HB4).trans (hb7.mono (unhide HB4).size))
            clear hb7
            go_wp2_with fail
            refine bodyPost_ret (v := .tuple #[.bool SB, .int .i64 0]) (by simp [results, Try.results27, go_sem]) rfl ?_
            rw [unhide HBX, unhide HRR]
            exact ⟨rfl, unhide HB7⟩
          · have HBX := hide (show B = false by rw [unhide HB5, decide_eq_false hno]; rfl)
            have g1 : ((nl : Int) ≤ (O.length : Int)) = False := by simp; omega
            have g2 : ¬ (nl : Int) ≤ (O.length : Int) := by omega
            clear hno
            generalize O.length = NO at *
            go_wp2_with fail
            refine bodyPost_ret (v := .tuple #[.bool false, .int .i64 0]) (by simp [results, Try.results27, go_sem]) rfl ?_
            rw [unhide HBX, unhide HRR]
            exact ⟨rfl, unhide HB4⟩
end Go.Proofs.Ytildjlaphkjegaa
