/-
  The law TraceMore, walked. By the verifier.
-/
import Derived.Test.YtcalcikclcmkaaaXGo
import Derived.Test.YtcalcikclcmkaaaXBegun
import Derived.Deep.RegionLawGrows
namespace Go.Proofs.Ytcalcikclcmkaaa
open Go.RowKit
set_option linter.unusedVariables false

theorem Xr.grown_below {W W' : World} (h : W.grownBy W' none) : Below W.heap.size W W' := (Below.refl _ _).grown h (Nat.le_refl _) (fun q hq => by cases hq)

abbrev Xr.S2 (b : Nat) (A : Value) (w3 V : World) : Prop := V.cell? ⟨b, 0, none⟩ = some A ∧ Below w3.heap.size w3 V
theorem Xr.S2.bel {b : Nat} {A : Value} {w3 V : World} (h : Xr.S2 b A w3 V) : Below w3.heap.size w3 V := h.2
theorem Xr.S2.below {b : Nat} {A : Value} {w3 V V' : World} (h : Xr.S2 b A w3 V) (hb : Below V.heap.size V V') : Xr.S2 b A w3 V' := ⟨(hb.cell (p := ⟨b, 0, none⟩) (World.block_lt_of_cell? _ _ h.1)).trans h.1, h.2.trans (hb.mono h.2.size)⟩
theorem Xr.one_e : ∀ (l : List Ev), ∀ u ∈ Xr.evC l, u.oneCell' = true
  | [], u, hu => by simp [Xr.evC] at hu
  | e :: r, u, hu => by
    have hu' : u ∈ e.cells ++ Xr.evC r := hu
    rcases List.mem_append.1 hu' with h | h
    · simp [Ev.cells] at h
      rcases h with rfl | rfl | rfl | rfl | rfl | rfl <;> rfl
    · exact Xr.one_e r u h
theorem Xr.at2 (A : Array Obj) (x y : Obj) : ((A.push x).push y)[A.size]? = some x := by
  rw [Array.getElem?_push, if_neg (by simp)]
  simp
theorem Xr.at3 (A : Array Obj) (x y : Obj) : ((A.push x).push y)[A.size + 1]? = some y := by
  rw [Array.getElem?_push, if_pos (by simp)]
def Xr.inCut (cut : Int) (k : Nat) : Bool := decide (0 ≤ cut) && decide (cut ≤ ((k + 1 : Nat) : Int))

set_option maxRecDepth 100000 in
set_option maxHeartbeats 3200000 in
theorem tmore_any {m n : Nat} (fs : Pg.Sl) (p : List (Pg.FT m n)) (ts : Pg.Sl) (inp : List Int) (fuel more cut : Int) (w : World) (hp : Pg.RP w m n fs p) (hpf : Pg.parFit p) (hin : Pg.RN w ts inp) :
    Calls Try.prog 6 #[.agg #[.slice fs.ad fs.len fs.cap], .slice ts.ad ts.len ts.cap, .int .i64 fuel, .int .i64 more, .int .i64 cut] w fun r w' => r = .returned (.bool true) ∧ Below w.heap.size w w' := by
  have hb0 := (Below.refl w.heap.size w).alloc (Nat.le_refl _) (Obj.cells #[.slice fs.ad fs.len fs.cap] 36)
  have q0 : (w.alloc (Obj.cells #[.slice fs.ad fs.len fs.cap] 36)).cell? ⟨w.heap.size, 0, none⟩ = some (.slice fs.ad fs.len fs.cap) := by go_simp
  have HR1 := hide (Run_len fs p ts inp fuel _ (Pg.RP.later hp hb0 (Nat.le_refl _)) hpf (hin.later hb0 (Nat.le_refl _)))
  have HR2 := hide (fun (V : World) (hV : Below w.heap.size w V) => Run_len fs p ts inp more V (Pg.RP.later hp hV (Nat.le_refl _)) hpf (hin.later hV (Nat.le_refl _)))
  have HRT := hide (fun (V : World) (hV : Below w.heap.size w V) (l : List Ev) (ad : Option Addr) (cap : Nat) (hr : Cl.RE V ad l) (hl : l.length ≤ 35184372088832) => Right_any fs p l ad cap V (Pg.RP.later hp hV (Nat.le_refl _)) hpf hr hl)
  have HB0 := hide hb0
  have HNO := hide (fun (h : Xr.chkR p inp fuel ≠ 0) => Xr.out_no h)
  have HOK := hide (fun (h : Xr.chkR p inp fuel = 0) => Xr.Ok.of h)
  have HOK2 := hide (fun (h : Xr.chkR p inp more = 0) => Xr.Ok.of h)
  have HEN := hide (fun (h : Xr.chkR p inp fuel = 0) => (Xr.Ok.of h).end_)
  have HRI := hide (fun (h : Xr.chkR p inp fuel = 0) (hl : (Xr.out p inp fuel).length ≤ 3901) => (Xr.Ok.of h).right hl)
  have HWR := hide (fun (h : Xr.chkR p inp fuel = 0) (hl : (Xr.out p inp fuel).length ≤ 3901) => (Xr.Ok.of h).wrong hl)
  have HMO := hide (fun (h : Xr.chkR p inp fuel = 0) (h2 : Xr.chkR p inp more = 0) (hf : fuel ≤ more) (r : List Ev) (e : Ev) (hr : Xr.out p inp fuel = r ++ [e]) => (Xr.Ok.of h).more (Xr.Ok.of h2) hf hr)
  generalize Xr.chkR p inp fuel = R1 at *
  generalize Xr.chkR p inp more = R2 at *
  generalize Xr.out p inp fuel = O1 at *
  generalize Xr.out p inp more = O2 at *
  clear hp hpf hin hb0
  go_enter Try.func6, Try.ntmps6
  go_wp2_with fail
  generalize w.alloc (Obj.cells #[.slice fs.ad fs.len fs.cap] 36) = W0 at *
  refine (unhide HR1).mono ?_
  rintro r w1 ⟨a1, c1, rfl, ho1, hb1, hl1⟩
  have q1 := (hb1.cell (p := ⟨w.heap.size, 0, none⟩) (World.block_lt_of_cell? _ _ q0)).trans q0
  have HB1 := hide ((unhide HB0).trans (hb1.mono (unhide HB0).size))
  have HO1 := hide ho1
  have HR2' := hide ((unhide HR2) w1 (unhide HB1))
  clear hb1 q0 ho1 HR1 HR2 HB0
  go_wp2_with fail
  refine (unhide HR2').mono ?_
  rintro r w2 ⟨a2, c2, rfl, ho2, hb2, hl2⟩
  have q2 := (hb2.cell (p := ⟨w.heap.size, 0, none⟩) (World.block_lt_of_cell? _ _ q1)).trans q1
  have HB2 := hide ((unhide HB1).trans (hb2.mono (unhide HB1).size))
  have HO12 := hide (Pg.ow_below (unhide HO1) hb2)
  have HO2 := hide ho2
  clear hb2 q1 ho2 HR2' HB1 HO1
  go_wp2_with fail
  refine (traceBegun_any _).mono ?_
  rintro r w3 ⟨rfl, hb3⟩
  have q3 := (hb3.cell (p := ⟨w.heap.size, 0, none⟩) (World.block_lt_of_cell? _ _ q2)).trans q2
  have hlt3 := World.block_lt_of_cell? _ _ q3
  have HB3 := hide ((unhide HB2).trans (hb3.mono (unhide HB2).size))
  have HO13 := hide (Pg.ow_below (unhide HO12) hb3)
  have HO23 := hide (Pg.ow_below (unhide HO2) hb3)
  clear hb3 q2 HB2 HO12 HO2
  by_cases hR : R1 = 0
  case neg =>
    have bc : (((R1 : Nat) : Int) != 0) = true := by simp; exact hR
    have hn : O1 = [] := (unhide HNO) hR
    subst hn
    clear hR
    rw [List.length_nil]
    go_wp2_with fail
    go_ret
    exact ⟨rfl, unhide HB3⟩
  case pos =>
    obtain ⟨rr, ee, hO, he7⟩ := (unhide HEN) hR
    have HRI2 := hide ((unhide HRI) hR hl1)
    have HWR2 := hide ((unhide HWR) hR hl1 ⟨1, 0, 0, 0, 0, 0⟩)
    have HMO2 := hide ((unhide HMO) hR)
    obtain ⟨k, hk⟩ : ∃ k, O1.length = k + 1 := ⟨rr.length, by rw [hO, List.length_append]; rfl⟩
    have hke : O1[k]? = some ee := by
      have : rr.length = k := by rw [hO, List.length_append] at hk; simp at hk; omega
      rw [hO, List.getElem?_append_right (by omega), this]
      simp
    have HRE := hide (Xr.re_own rfl (unhide HO13))
    obtain ⟨b1, o1, ha1, hbl1, d0, _, _, _, _, d5⟩ := (unhide HRE).at_ k ee hke
    subst ha1
    have HO := hide hO
    have HKE := hide hke
    rw [he7] at d0
    rw [hk]
    have HK := hide hk
    have hk9 : k ≤ 3900 := by omega
    have hi0 : (0 : Int) ≤ (k : Int) := by omega
    have hi1 : (k : Int) < ((k + 1 : Nat) : Int) := by omega
    have hcast : (((k + 1 : Nat) : Int) - 1) = (k : Int) := by omega
    subst hR
    clear hO hke hk HNO HOK HEN HRI HWR HMO he7
    have hcap := Xr.own_cap (unhide HO13)
    rw [unhide HK] at hcap
    have HKM := hide (show ∀ V : World, Below w3.heap.size w3 V → (V.cell? ⟨w.heap.size, 0, none⟩ = some (.slice fs.ad fs.len fs.cap) ∧ Below w3.heap.size w3 V) from fun V hV => ⟨(hV.cell (p := ⟨w.heap.size, 0, none⟩) hlt3).trans q3, hV⟩)
    go_upto_region 9 with fail
    go_cut [61] (fun v W => v = .bool (Xr.inCut cut k) ∧ W = w3)
    case first =>
      have HIC := hide (show Xr.inCut cut k = (decide (0 ≤ cut) && decide (cut ≤ ((k + 1 : Nat) : Int))) from rfl)
      by_cases hx0 : 0 ≤ cut
      · by_cases hx1 : cut ≤ (k : Int) + 1
        · go_wp2_with fail
          go_meet
          case rel => exact ⟨by rw [unhide HIC]; simp; omega, rfl⟩
        · go_wp2_with fail
          go_meet
          case rel => exact ⟨by rw [unhide HIC]; simp; omega, rfl⟩
      · go_wp2_with fail
        go_meet
        case rel => exact ⟨by rw [unhide HIC]; simp; omega, rfl⟩
    case rest =>
      rename World => wc
      obtain ⟨rfl, hwc⟩ := hcut
      have hwc2 := hwc.symm
      subst hwc2
      go_upto_if 61 with fail
      go_cut [] (fun W => Below w3.heap.size w3 W)
      case first =>
        cases hsel : Xr.inCut cut k
        · clear hsel
          go_wp2_with fail
          go_meet
          case rel => exact Below.refl _ _
        · obtain ⟨j, rfl, hj⟩ : ∃ j : Nat, cut = j ∧ j ≤ k + 1 := by
            unfold Xr.inCut at hsel
            simp only [Bool.and_eq_true, decide_eq_true_eq] at hsel
            exact ⟨cut.toNat, by omega, by omega⟩
          clear hsel
          have HRC := hide (fun (V : World) (hV : Below w3.heap.size w3 V) => show Calls Try.prog 16 #[.agg #[.slice fs.ad fs.len fs.cap], .slice (some ⟨b1, o1, none⟩) j c1] V fun r w' => r = .returned (.tuple #[.bool true, .int .i64 0]) ∧ Below V.heap.size V w' from by
            have htl : (O1.take j).length = j := by rw [List.length_take, unhide HK]; omega
            have h1 := (unhide HRT) V ((unhide HB3).trans (hV.mono (unhide HB3).size)) (O1.take j) (some ⟨b1, o1, none⟩) c1 (((unhide HRE).later hV (Nat.le_refl _)).takeN j) (by omega)
            obtain ⟨h2, h3⟩ := (unhide HRI2) j
            rw [h2, h3, htl] at h1
            exact h1)
          have g1 : (j : Int) ≤ (c1 : Int) := by omega
          have g3 : (0 : Int) ≤ (j : Int) := by omega
          go_wp2_with fail
          go_region_held3 (fun V => V.cell? ⟨w.heap.size, 0, none⟩ = some (.slice fs.ad fs.len fs.cap) ∧ Below w3.heap.size w3 V)
            (first | assumption | exact (unhide HKM) _ ((Below.refl _ _).drew) | exact (unhide HKM) _ (unhide HB6))
            (first
              | (go_at_call 16; refine ((unhide HRC) _ ?_).mono ?_; exact (Below.refl _ _).drew; rintro r w6 ⟨rfl, hb6⟩; have HB6 := hide (((Below.refl w3.heap.size w3).drew).trans (hb6.mono (Nat.le_refl _))); clear hb6))
          all_goals
            go_wp2_with fail
            go_meet
            case rel => exact unhide HB6
      case rest =>
        rename World => w4
        have HB4 := hide hcut
        have q4 := ((unhide HKM) w4 hcut).1
        have hsz4 := hcut.size
        have HS4 := hide (show Xr.S2 w.heap.size (.slice fs.ad fs.len fs.cap) w3 w4 from ⟨q4, hcut⟩)
        clear hcut
        obtain ⟨g1, cc1, hform, _, _⟩ := (unhide HO13).form (by have := unhide HK; omega)
        have ho1 : o1 = 0 := by cases hform; rfl
        subst ho1
        clear hform
        obtain ⟨i0, hi0', hz0, hz1', hz2⟩ := info_of Try.infoEv
        have HI := hide hi0'
        have HZ0 := hide hz0
        have HZ1 := hide hz1'
        have HZ2 := hide hz2
        clear hi0' hz0 hz1' hz2
        have HEL := hide (show (Xr.evC O1).length = (k + 1) * 6 by rw [Xr.evC_length, unhide HK])
        have HNW := hide (fun (V : World) (hV : Below w3.heap.size w3 V) (j : Nat) (u : Value) (hu : (Xr.evC O1)[j]? = some u) => show V.cell? ((⟨b1, 0, none⟩ : Addr).add j) = some u from by
          have h1 := (Pg.ow_below (unhide HO13) hV).cells (g := b1) rfl j u hu
          rw [Xr.add_at] at h1 ⊢
          exact h1)
        have HONE := hide (Xr.one_e O1)
        have HRW := hide (fun (V : World) (hV : Below w3.heap.size w3 V) (g c : Nat) (ho : V.ownsRow w3.heap.size 50 6 (.slice (some ⟨g, 0, none⟩) (k + 1 + 1) c) (k + 1 + 1) (Xr.evC O1 ++ [.int .i64 1, .int .i64 0, .int .i64 0, .int .i64 0, .int .i64 0, .int .i64 0])) => show Calls Try.prog 16 #[.agg #[.slice fs.ad fs.len fs.cap], .slice (some ⟨g, 0, none⟩) (k + 1 + 1) c] V fun r w' => r = .returned (.tuple #[.bool false, .int .i64 0]) ∧ Below V.heap.size V w' from by
          have hln : (O1 ++ [(⟨1, 0, 0, 0, 0, 0⟩ : Ev)]).length = k + 1 + 1 := by rw [List.length_append, unhide HK]; rfl
          have h1 := (unhide HRT) V ((unhide HB3).trans (hV.mono (unhide HB3).size)) (O1 ++ [(⟨1, 0, 0, 0, 0, 0⟩ : Ev)]) (some ⟨g, 0, none⟩) c (Xr.re_own hln (by rw [Xr.evC_snoc]; exact ho)) (by omega)
          obtain ⟨h2, h3⟩ := unhide HWR2
          rw [h2, h3, hln] at h1
          exact h1)
        go_upto_region 13 with fail
        go_cut [17, 18] (fun v17 v18 W => v17 = .bool false ∧ v18 = .int .i64 0 ∧ Below w3.heap.size w3 W)
        case first =>
          generalize Xr.evC O1 = XS at *
          go_region_held3 (fun V => V.cell? ⟨w.heap.size, 0, none⟩ = some (.slice fs.ad fs.len fs.cap) ∧ Below w3.heap.size w3 V)
            (first
              | assumption
              | exact unhide HS7
              | exact unhide HS6
              | exact unhide HS5
              | exact Xr.S2.below (by assumption) ((Below.refl _ _).alloc (Nat.le_refl _) _)
              | exact Xr.S2.below (unhide HS5) ((Below.refl _ _).alloc (Nat.le_refl _) _)
              | exact Xr.S2.below (unhide HS4) ((Below.refl _ _).drew)
              | exact Xr.S2.below (Xr.S2.below (unhide HS4) ((Below.refl _ _).drew)) ((Below.refl _ _).alloc (Nat.le_refl _) _))
            (first
              | (refine step_append_grows rfl (.tmp 78) (.tmp 79) 38 rfl 50 i0 _ 6 48 Try.underlying38 (unhide HI) (unhide HZ0) (unhide HZ1) (unhide HZ2) rfl (by omega) (some _) 0 0 [] rfl (fun h => by cases h) rfl (fun b hb j u hj => by simp at hj) ⟨b1, 0, none⟩ (k + 1) c1 XS rfl (unhide HEL) ((unhide HNW) _ (Xr.S2.bel (b := w.heap.size) (A := .slice fs.ad fs.len fs.cap) (w3 := w3) (by assumption))) (unhide HONE) (by omega) (by unfold maxLen; omega) (by omega) ?_; intro v' w5 hown hgrow; rw [Nat.zero_add, List.nil_append] at hown; obtain ⟨g5, c5, rfl, _, _⟩ := hown.form (by omega); have hb5 := Xr.grown_below hgrow; have HS5 := hide (Xr.S2.below (b := w.heap.size) (A := .slice fs.ad fs.len fs.cap) (w3 := w3) (by assumption) hb5); have HOW5 := hide (Pg.ow_base hown (Xr.S2.bel (b := w.heap.size) (A := .slice fs.ad fs.len fs.cap) (w3 := w3) (by assumption)).size); have HLT5 := hide (fun q hq => ((unhide HOW5).lt q hq).1); (first | (have HE5 := hide (show w5.heap[w4.heap.size]? = some (Obj.cells #[.int .i64 1, .int .i64 0, .int .i64 0, .int .i64 0, .int .i64 0, .int .i64 0] 50) from (hb5.block w4.heap.size (by simp <;> omega)).trans (Xr.at2 w4.heap (Obj.cells #[.int .i64 1, .int .i64 0, .int .i64 0, .int .i64 0, .int .i64 0, .int .i64 0] 50) (Obj.cells #[] 50)))) | (have HE5 := hide (show w5.heap[w4.heap.size + 1]? = some (Obj.cells #[.int .i64 1, .int .i64 0, .int .i64 0, .int .i64 0, .int .i64 0, .int .i64 0] 50) from (hb5.block (w4.heap.size + 1) (by simp <;> omega)).trans (Xr.at3 w4.heap (Obj.cells #[] 50) (Obj.cells #[.int .i64 1, .int .i64 0, .int .i64 0, .int .i64 0, .int .i64 0, .int .i64 0] 50)))) | skip); clear hown hgrow hb5)
              | (refine step_append_lies _ rfl (.tmp 80) (.tmp 82) 38 rfl w3.heap.size 50 i0 _ 6 48 Try.underlying38 (unhide HI) (unhide HZ0) (unhide HZ1) (unhide HZ2) rfl (by omega) (.slice (some ⟨g5, 0, none⟩) (k + 1) c5) (k + 1) XS rfl (by first | exact unhide HOW5 | exact Pg.ow_below (unhide HOW5) ((Below.refl _ _).alloc (Nat.le_refl _) _)) ⟨_, 0, none⟩ 1 1 [.int .i64 1, .int .i64 0, .int .i64 0, .int .i64 0, .int .i64 0, .int .i64 0] rfl rfl (by first | exact World.news_of_block (unhide HE5) | exact World.news_of_block (heap_alloc_new _ _)) (by simp [Value.oneCell']) (by omega) (by unfold maxLen; omega) (by omega) (Xr.S2.bel (b := w.heap.size) (A := .slice fs.ad fs.len fs.cap) (w3 := w3) (by assumption)).size _ rfl ?_; intro gA cA w6 hoA hgA hatA hltA; have HO6 := hide hoA; have HB6 := hide (Below.grown (Xr.S2.bel (b := w.heap.size) (A := .slice fs.ad fs.len fs.cap) (w3 := w3) (by assumption)) hgA (Xr.S2.bel (b := w.heap.size) (A := .slice fs.ad fs.len fs.cap) (w3 := w3) (by assumption)).size (unhide HLT5)); have HS6 := hide ((unhide HKM) w6 (unhide HB6)); clear hoA hgA hatA hltA)
              | (go_at_call 16; refine ((unhide HRW) w6 (unhide HB6) gA cA (unhide HO6)).mono ?_; rintro r w7 ⟨rfl, hb7⟩; have HB7 := hide ((unhide HB6).trans (hb7.mono (unhide HB6).size)); have HS7 := hide ((unhide HKM) w7 (unhide HB7)); clear hb7))
          all_goals
            go_wp2_with fail
            go_meet
            case rel => exact ⟨rfl, rfl, unhide HB7⟩
        case rest =>
          rename World => w8
          obtain ⟨rfl, rfl, hb8⟩ := hcut
          have HB8 := hide ((unhide HB3).trans (hb8.mono (unhide HB3).size))
          have HRE8 := hide ((unhide HRE).later hb8 (Nat.le_refl _))
          have HRF8 := hide ((Xr.re_own rfl (unhide HO23)).later hb8 (Nat.le_refl _))
          have e5 := (hb8.cell (p := ⟨b1, 0 + k * 6 + 5, none⟩) (by show b1 < w3.heap.size; exact hbl1)).trans d5
          rw [Nat.zero_add] at e5
          have hcap2 := Xr.own_cap (unhide HO23)
          clear hb8 HS4 HB4 q4 hsz4 HI HZ0 HZ1 HZ2 HEL HNW HONE HRW HKM d0 d5 HRT HO13 HO23 HRE HB3 HWR2 HRI2
          by_cases hR2 : R2 = 0
          case neg =>
            have bc : (((R2 : Nat) : Int) != 0) = true := by simp; exact hR2
            clear hR2
            go_wp2_with fail
            go_ret
            exact ⟨rfl, unhide HB8⟩
          case pos =>
            by_cases hmf : more < fuel
            · subst hR2
              go_wp2_with fail
              go_ret
              exact ⟨rfl, unhide HB8⟩
            · obtain ⟨hm1, hm2⟩ := (unhide HMO2) hR2 (by omega) rr ee (unhide HO)
              have hrk : rr.length = k := by have h1 := congrArg List.length (unhide HO); rw [List.length_append, unhide HK] at h1; simp at h1; omega
              have HM1 := hide hm1
              have HM2 := hide hm2
              have HRK := hide hrk
              subst hR2
              clear hm1 hm2 HMO2 hrk
              by_cases h5 : ee.n5 = 1
              · have hk2 : k ≤ O2.length := by have := (unhide HM2).length_le; have := unhide HRK; omega
                have HSE := hide (fun (V : World) (hV : Below w8.heap.size w8 V) => show Calls Try.prog 19 #[.slice (some ⟨b1, 0, none⟩) k c1, .slice a2 k c2] V fun e w' => e = .returned (.bool true) ∧ Below V.heap.size V w' from by
                  have e1 : O1.take k = rr := by rw [unhide HO, ← unhide HRK]; simp
                  have e2 : O2.take k = rr := by rw [← unhide HRK]; exact (List.prefix_iff_eq_take.1 (unhide HM2)).symm
                  have r1 := ((unhide HRE8).later hV (Nat.le_refl _)).takeN k
                  have r2 := ((unhide HRF8).later hV (Nat.le_refl _)).takeN k
                  rw [e1] at r1
                  rw [e2] at r2
                  have h1 := SameEvents_eq rr (some ⟨b1, 0, none⟩) a2 c1 c2 V r1 r2 (by have := unhide HRK; omega)
                  rw [unhide HRK] at h1
                  exact h1)
                rw [h5] at e5
                clear h5
                generalize O2.length = N2 at *
                have g1 : (k : Int) ≤ (N2 : Int) := by omega
                have g2 : (k : Int) ≤ (c1 : Int) := by omega
                have g3 : (k : Int) ≤ (c2 : Int) := by omega
                go_upto_region 21 with fail
                have HS8 := hide (Below.refl w8.heap.size w8)
                go_cut [10] (fun v W => v = .bool true ∧ Below w8.heap.size w8 W)
                case first =>
                  go_region_held3 (fun V => Below w8.heap.size w8 V)
                    (first | assumption | exact (unhide HS8).drew | exact unhide HB9)
                    (first
                      | (go_at_call 19; refine ((unhide HSE) _ ?_).mono ?_; exact (unhide HS8).drew; rintro r w9 ⟨rfl, hb9⟩; have HB9 := hide (((unhide HS8).drew).trans (hb9.mono (Nat.le_refl _))); clear hb9))
                  all_goals
                    go_wp2_with fail
                    go_meet
                    case rel => exact ⟨rfl, unhide HB9⟩
                case rest =>
                  obtain ⟨rfl, hb9⟩ := hcut
                  have HB9 := hide ((unhide HB8).trans (hb9.mono (unhide HB8).size))
                  clear hb9
                  go_wp2_with fail
                  go_ret
                  exact ⟨rfl, unhide HB9⟩
              · have hOO := (unhide HM1) h5
                have b5 : (ee.n5 != 1) = true := by simp; exact h5
                have HSE := hide (show Calls Try.prog 19 #[.slice (some ⟨b1, 0, none⟩) (k + 1) c1, .slice a2 (k + 1) c2] w8 fun e w' => e = .returned (.bool true) ∧ Below w8.heap.size w8 w' from by
                  have h1 := SameEvents_eq O1 (some ⟨b1, 0, none⟩) a2 c1 c2 w8 (unhide HRE8) (by rw [hOO]; exact unhide HRF8) (by have := unhide HK; omega)
                  rw [unhide HK] at h1
                  exact h1)
                have hN2 : O2.length = k + 1 := by rw [← hOO]; exact unhide HK
                rw [hN2]
                clear h5 hOO hN2 hcap2 hl2
                go_wp2_with fail
                refine (unhide HSE).mono ?_
                rintro r w9 ⟨rfl, hb9⟩
                have HB9 := hide ((unhide HB8).trans (hb9.mono (unhide HB8).size))
                clear hb9
                go_wp2_with fail
                go_ret
                exact ⟨rfl, unhide HB9⟩
end Go.Proofs.Ytcalcikclcmkaaa
