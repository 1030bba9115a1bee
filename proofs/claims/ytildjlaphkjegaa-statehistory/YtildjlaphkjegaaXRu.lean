/-
  Several texts in one: XRun, XRunF. By the verifier.
-/
import Derived.Test.YtildjlaphkjegaaXCall
import Derived.Test.YtildjlaphkjegaaPCheck
import Derived.Test.YtildjlaphkjegaaPInD
import Derived.Test.YtildjlaphkjegaaPHas
namespace Go.Proofs.Ytildjlaphkjegaa
open Go.RowKit
set_option linter.unusedVariables false

section
variable {m n : Nat} {w0 : World} {br : Nat} {fs : Pg.Sl} {p : List (Pg.FT m n)}
theorem call_ok (hpp : Xr.PP w0 fs p) : ∀ d, Xr.CallOk w0 br fs p d := by
  intro d
  induction d with
  | zero => exact xcall_any 0 hpp (fun e he => by cases he)
  | succ d ih =>
    refine xcall_any (d + 1) hpp (fun e he => ?_)
    cases he
    exact fun q x hx W s ev bf gv vb f h hsh hd hinv => function_any d hpp (cmds_ok d hpp ih) q x hx W s ev bf gv vb f h hsh hd hinv
theorem fn_ok (hpp : Xr.PP w0 fs p) (d : Nat) : Xr.FnOk w0 br fs p d := fun q x hx W s ev bf gv vb f h hsh hd hinv => function_any d hpp (cmds_ok d hpp (call_ok hpp d)) q x hx W s ev bf gv vb f h hsh hd hinv

/-- All that a run tells. -/
def Xr.Told (w0 : World) (l : List Ev) (ev : Value) (W : World) : Prop := W.ownsRow w0.heap.size 100 6 ev l.length (Xr.evC l)
theorem Xr.PP.of {w0 : World} {fs : Pg.Sl} {p : List (Pg.FT m n)} (hp : Pg.RP w0 m n fs p) (hc : Pg.chkP p = 0) : Xr.PP w0 fs p ∧ 0 < p.length := by
  unfold Pg.chkP at hc
  split at hc
  · cases hc
  rename_i h1
  split at hc
  · cases hc
  rename_i h2
  split at hc
  · cases hc
  rename_i h3
  refine ⟨⟨hp, fun i x hx => ?_, by omega, ?_⟩, by omega⟩
  · have h4 : (Pg.wfns p)[i]? = some (Pg.wfn p i x) := by unfold Pg.wfns; rw [List.getElem?_mapIdx, hx]; rfl
    exact Pg.first_zero hc _ (List.mem_of_getElem? h4)
  · have h5 : Pg.manyP p = false := by cases hm : Pg.manyP p with
      | false => rfl
      | true => exact absurd hm h3
    unfold Pg.manyP at h5
    rw [Bool.or_eq_false_iff, decide_eq_false_iff_not] at h5
    omega

set_option maxRecDepth 100000 in
set_option maxHeartbeats 3200000 in
theorem main_any (hpp : Xr.PP w0 fs p) (hp0 : 0 < p.length) (W : World) (inp : List Int) (fuel : Nat) (hf : fuel ≤ 500) (h : Xr.M w0 W br fs ⟨inp, fuel, 0, [], false⟩ (.slice none 0 0)) :
    Calls Try.prog 47 #[.pointer (some ⟨br, 0, none⟩)] W fun r W' => r = .returned (.tuple #[]) ∧ ∃ s ev, Xr.M w0 W' br fs s ev ∧ s.evs = Xr.main p inp fuel ∧ Below w0.heap.size w0 W' ∧ (Xr.main p inp fuel).length ≤ 3901 := by
  have hql : p.length - 1 < p.length := by omega
  have hxq := List.getElem?_eq_getElem hql
  generalize p[p.length - 1] = x at hxq
  obtain ⟨hwh, hwc, hwr⟩ := hpp.parts hxq
  obtain ⟨hd0, hd1, hd2, hd3⟩ := Xr.head_ok hwh
  obtain ⟨bq, oq, fq, hfs, hbq, hlq, hrq⟩ := hpp.rp.at_ _ x hxq
  have hlen := hpp.rp.len
  have hfew := hpp.few
  have HMN := hide (show Xr.main p inp fuel = (Xr.fin (Xr.fn p (Xr.call p 5) (p.length - 1) ⟨inp, fuel, 0, [], false⟩ (Xr.newF 0 0 x.sizes)).1 (Xr.fn p (Xr.call p 5) (p.length - 1) ⟨inp, fuel, 0, [], false⟩ (Xr.newF 0 0 x.sizes)).2 (-1) 0).evs by unfold Xr.main; rw [hxq])
  have HNF := hide (show Calls Try.prog 63 #[.int .i64 0, .int .i64 0, .slice fq.sizes.ad fq.sizes.len fq.sizes.cap] W fun r W' => ∃ gv vb, r = .returned (.pointer (some ⟨W.heap.size, 0, none⟩)) ∧ Xr.Fm w0 W' W.heap.size gv vb (Xr.newF 0 0 x.sizes) ∧ (∀ q ∈ Xr.own W.heap.size gv vb, W.heap.size ≤ q) ∧ Below W.heap.size W W' from newFrame_any (w0 := w0) 0 0 fq.sizes x.sizes W h.bel.size (hrq.sizes.later h.bel (Nat.le_refl _)) (by omega) (fun z hz => by have := hd3 z hz; omega))
  have l1 := (hlq.later h.bel (Nat.le_refl _) hbq).c1
  have HFN := hide (fun (V : World) (gv : Option Nat) (vb : List Nat) (hJ : Xr.J w0 V br fs ⟨inp, fuel, 0, [], false⟩ (.slice none 0 0) W.heap.size gv vb (Xr.newF 0 0 x.sizes)) => show Calls Try.prog 64 #[.pointer (some ⟨br, 0, none⟩), .pointer (some ⟨W.heap.size, 0, none⟩), .int .i64 ((fs.len : Int) - 1)] V (Xr.Post w0 br fs x.sizes W.heap.size gv vb V (.slice none 0 0) ⟨inp, fuel, 0, [], false⟩ (Xr.newF 0 0 x.sizes) (Xr.fn p (Xr.call p 5) (p.length - 1) ⟨inp, fuel, 0, [], false⟩ (Xr.newF 0 0 x.sizes))) from by
    rw [show (fs.len : Int) - 1 = ((p.length - 1 : Nat) : Int) by rw [hlen]; omega]
    exact fn_ok hpp 5 _ x hxq V _ _ _ _ _ _ hJ (Xr.Sh.new 0 0 x.sizes) rfl ⟨hf, by show 0 ≤ 700; omega, fun _ => ⟨by show 0 + fuel ≤ 600; omega, by show 0 + 7 * fuel + 0 ≤ 3900; omega⟩, by show 0 ≤ 3901; omega⟩)
  have HIV := hide (show Xr.Inv (⟨inp, fuel, 0, [], false⟩ : Xr.S) 0 from ⟨hf, by show 0 ≤ 700; omega, fun _ => ⟨by show 0 + fuel ≤ 600; omega, by show 0 + 7 * fuel + 0 ≤ 3900; omega⟩, by show 0 ≤ 3901; omega⟩)
  have HM := hide h
  generalize Xr.main p inp fuel = L at *
  generalize Xr.fn p (Xr.call p 5) (p.length - 1) ⟨inp, fuel, 0, [], false⟩ (Xr.newF 0 0 x.sizes) = T at *
  have c0 := h.c0
  obtain ⟨fa, fl, fc⟩ := fs
  have hfs' : fa = some ⟨bq, oq, none⟩ := hfs
  subst hfs'
  have hlen2 : fl = p.length := hlen
  obtain ⟨k, hk⟩ : ∃ k, p.length = k + 1 := ⟨p.length - 1, by omega⟩
  have hfk : fl = k + 1 := by omega
  have hk6 : k ≤ 5 := by omega
  rw [show p.length - 1 = k by omega] at l1
  subst hfk
  dsimp only at *
  have hcast : (((k + 1 : Nat) : Int) - 1) = (k : Int) := by omega
  rw [hcast] at HFN
  have hi0 : (0 : Int) ≤ (k : Int) := by omega
  have hi1 : (k : Int) < ((k + 1 : Nat) : Int) := by omega
  clear h hql hxq hwh hwc hwr hd0 hd1 hd2 hd3 hfs hbq hlq hrq hlen hfew hpp hp0 hlen2 hk hf hcast
  go_enter Try.func47, Try.ntmps47
  go_wp2_with fail
  refine (unhide HNF).mono ?_
  rintro r w1 ⟨gv, vb, rfl, hfm, hge, hb1⟩
  have hm1 := (unhide HM).below hb1
  have hJ1 : Xr.J w0 w1 br ⟨some ⟨bq, oq, none⟩, k + 1, fc⟩ ⟨inp, fuel, 0, [], false⟩ (.slice none 0 0) W.heap.size gv vb (Xr.newF 0 0 x.sizes) := ⟨hm1, hfm, fun e => by have := hge _ e; have := (unhide HM).lt; omega, fun q hq => by cases hq⟩
  have HF1 := hide ((unhide HFN) w1 gv vb hJ1)
  clear hfm hge hb1 hm1 hJ1
  go_wp2_with fail
  refine (unhide HF1).mono ?_
  rintro r w2 ⟨rfl, ev2, hJ2, hk2, hsh2, hin2, hdp2, hfu2⟩
  have HLN := hide (show L.length ≤ 3901 by rw [unhide HMN]; exact ((hin2 0 (unhide HIV)).fin _ _ _ 0).room)
  have HE := hide (end_any (-1) 0 w2 hJ2 ((hin2 0 (unhide HIV)).rm.le (by omega)))
  clear hJ2 hk2 hsh2 hin2 hdp2 hfu2
  go_wp2_with fail
  refine (unhide HE).mono ?_
  rintro r w3 ⟨rfl, ev3, hm3, hk3⟩
  have HP := hide (show ∃ s ev, Xr.M w0 w3 br ⟨some ⟨bq, oq, none⟩, k + 1, fc⟩ s ev ∧ s.evs = L ∧ Below w0.heap.size w0 w3 ∧ L.length ≤ 3901 from ⟨_, ev3, hm3, (unhide HMN).symm, hm3.bel, unhide HLN⟩)
  clear hm3 hk3
  go_wp2_with fail
  go_end0
  exact ⟨rfl, unhide HP⟩
end
end Go.Proofs.Ytildjlaphkjegaa
namespace Go.Proofs.Ytildjlaphkjegaa
open Go.RowKit
set_option linter.unusedVariables false

/-- What is wrong with a run. -/
def Xr.chkR {m n : Nat} (p : List (Pg.FT m n)) (inp : List Int) (fuel : Int) : Nat := if Pg.chkP p = 0 then Pg.chkIn inp fuel else Pg.chkP p
/-- What a run tells. -/
def Xr.out {m n : Nat} (p : List (Pg.FT m n)) (inp : List Int) (fuel : Int) : List Ev := if Xr.chkR p inp fuel = 0 then Xr.main p inp fuel.toNat else []

set_option maxRecDepth 100000 in
set_option maxHeartbeats 3200000 in
theorem Run_len {m n : Nat} (fs : Pg.Sl) (p : List (Pg.FT m n)) (ts : Pg.Sl) (inp : List Int) (fuel : Int) (w : World) (hp : Pg.RP w m n fs p) (hpf : Pg.parFit p) (hin : Pg.RN w ts inp) :
    Calls Try.prog 25 #[.agg #[.slice fs.ad fs.len fs.cap], .slice ts.ad ts.len ts.cap, .int .i64 fuel] w fun r w' => ∃ a c, r = .returned (.tuple #[.slice a (Xr.out p inp fuel).length c, .int .i64 (Xr.chkR p inp fuel : Nat)]) ∧ w'.ownsRow w.heap.size 100 6 (.slice a (Xr.out p inp fuel).length c) (Xr.out p inp fuel).length (Xr.evC (Xr.out p inp fuel)) ∧ Below w.heap.size w w' ∧ (Xr.out p inp fuel).length ≤ 3901 := by
  have hb0 := (Below.refl w.heap.size w).alloc (Nat.le_refl _) (Obj.cells #[.slice fs.ad fs.len fs.cap] 36)
  have q0 : (w.alloc (Obj.cells #[.slice fs.ad fs.len fs.cap] 36)).cell? ⟨w.heap.size, 0, none⟩ = some (.slice fs.ad fs.len fs.cap) := by go_simp
  have HCK := hide (Check_any fs p _ (Pg.RP.later hp hb0 (Nat.le_refl _)) hpf)
  have HRN := hide (fun (V : World) (hV : Below w.heap.size w V) => hin.later hV (Nat.le_refl _))
  have HRP := hide (fun (V : World) (hV : Below w.heap.size w V) => Pg.RP.later hp hV (Nat.le_refl _))
  have hlen := hin.len
  have hfew := hin.few
  rw [← hlen] at hfew
  have HB0 := hide hb0
  have HCR := hide (show Xr.chkR p inp fuel = if Pg.chkP p = 0 then Pg.chkIn inp fuel else Pg.chkP p from rfl)
  have HOU := hide (show Xr.out p inp fuel = if Xr.chkR p inp fuel = 0 then Xr.main p inp fuel.toNat else [] from rfl)
  have HCI := hide (show Pg.chkIn inp fuel = if 50 < ts.len then 2 else if inp.any Pg.beyond then 3 else if 0 ≤ fuel ∧ fuel ≤ 500 then 0 else 3 by rw [hlen]; rfl)
  have HNO := hide (show ∀ (R : Nat) (L : List Ev) (V : World), R ≠ 0 → R = Xr.chkR p inp fuel → L = Xr.out p inp fuel → Below w.heap.size w V → (∃ a c, Ending.returned (.tuple #[.slice none 0 0, .int .i64 (R : Nat)]) = .returned (.tuple #[.slice a L.length c, .int .i64 (R : Nat)]) ∧ V.ownsRow w.heap.size 100 6 (.slice a L.length c) L.length (Xr.evC L) ∧ Below w.heap.size w V ∧ L.length ≤ 3901) from fun R L V h0 h1 h2 h3 => by
    have hL : L = [] := by rw [h2, unhide HOU, if_neg (by rw [← h1]; exact h0)]
    subst hL
    exact ⟨none, 0, rfl, ⟨rfl, .inl ⟨rfl, rfl⟩⟩, h3, by show 0 ≤ 3901; omega⟩)
  obtain ⟨R, hR⟩ : ∃ R, R = Xr.chkR p inp fuel := ⟨_, rfl⟩
  obtain ⟨L, hL⟩ : ∃ L, L = Xr.out p inp fuel := ⟨_, rfl⟩
  rw [← hR, ← hL]
  have HR := hide hR
  have HL := hide hL
  clear hp hpf hin hb0 hlen hR hL
  obtain ⟨ta, tn, tc⟩ := ts
  dsimp only at *
  go_enter Try.func25, Try.ntmps25
  go_wp2_with fail
  generalize w.alloc (Obj.cells #[.slice fs.ad fs.len fs.cap] 36) = W0 at *
  refine (unhide HCK).mono ?_
  rintro r w1 ⟨rfl, hb1⟩
  have r0 := (hb1.cell (p := ⟨w.heap.size, 0, none⟩) (World.block_lt_of_cell? _ _ q0)).trans q0
  have HB1 := hide ((unhide HB0).trans (hb1.mono (unhide HB0).size))
  clear hb1 q0
  by_cases hc : Pg.chkP p = 0
  case neg =>
    have HRR := hide (show R = Pg.chkP p by rw [unhide HR, unhide HCR, if_neg hc])
    generalize Pg.chkP p = CP at *
    have bc : (((CP : Nat) : Int) != 0) = true := by simp; exact hc
    have HC := hide hc
    clear hc
    go_wp2_with fail
    refine bodyPost_ret (v := .tuple #[.slice none 0 0, .int .i64 (CP : Nat)]) (by simp [results, Try.results25, go_sem]) rfl ?_
    have h1 := (unhide HNO) R L w1 (by rw [unhide HRR]; exact unhide HC) (unhide HR) (unhide HL) (unhide HB1)
    rw [unhide HRR] at h1 ⊢
    exact h1
  case pos =>
    have HPP := hide (Xr.PP.of ((unhide HRP) w1 (unhide HB1)) hc)
    have HR2 := hide (show R = if 50 < tn then 2 else if inp.any Pg.beyond then 3 else if 0 ≤ fuel ∧ fuel ≤ 500 then 0 else 3 by rw [unhide HR, unhide HCR, if_pos hc, unhide HCI])
    have HBY := hide (isBeyond_contains ⟨ta, tn, tc⟩ inp w1 ((unhide HRN) w1 (unhide HB1)))
    rw [hc]
    clear hc
    by_cases h50 : 50 < tn
    · have g50 : (tn : Int) > 50 := by omega
      have HRR := hide (show R = 2 by rw [unhide HR2, if_pos h50])
      clear h50
      go_wp2_with fail
      refine bodyPost_ret (v := .tuple #[.slice none 0 0, .int .i64 2]) (by simp [results, Try.results25, go_sem]) rfl ?_
      have h1 := (unhide HNO) R L w1 (by rw [unhide HRR]; decide) (unhide HR) (unhide HL) (unhide HB1)
      rw [unhide HRR] at h1 ⊢
      exact h1
    · have g50 : (50 < (tn : Int)) = False := by simp; omega
      have HR3 := hide (show R = if inp.any Pg.beyond then 3 else if 0 ≤ fuel ∧ fuel ≤ 500 then 0 else 3 by rw [unhide HR2, if_neg h50])
      clear h50
      generalize inp.any Pg.beyond = BY at *
      go_wp2_with fail
      refine (unhide HBY).mono ?_
      rintro r w2 ⟨rfl, hw2⟩
      subst hw2
      cases BY
      case true =>
        have HRR := hide (show R = 3 by rw [unhide HR3]; rfl)
        go_wp2_with fail
        refine bodyPost_ret (v := .tuple #[.slice none 0 0, .int .i64 3]) (by simp [results, Try.results25, go_sem]) rfl ?_
        have h1 := (unhide HNO) R L w2 (by rw [unhide HRR]; decide) (unhide HR) (unhide HL) (unhide HB1)
        rw [unhide HRR] at h1 ⊢
        exact h1
      case false =>
        have HR4 := hide (show R = if 0 ≤ fuel ∧ fuel ≤ 500 then 0 else 3 by rw [unhide HR3]; rfl)
        by_cases hf0 : fuel < 0
        · have HRR := hide (show R = 3 by rw [unhide HR4, if_neg (by omega)])
          go_wp2_with fail
          refine bodyPost_ret (v := .tuple #[.slice none 0 0, .int .i64 3]) (by simp [results, Try.results25, go_sem]) rfl ?_
          have h1 := (unhide HNO) R L w2 (by rw [unhide HRR]; decide) (unhide HR) (unhide HL) (unhide HB1)
          rw [unhide HRR] at h1 ⊢
          exact h1
        · by_cases hf5 : fuel > 500
          · have HRR := hide (show R = 3 by rw [unhide HR4, if_neg (by omega)])
            go_wp2_with fail
            refine bodyPost_ret (v := .tuple #[.slice none 0 0, .int .i64 3]) (by simp [results, Try.results25, go_sem]) rfl ?_
            have h1 := (unhide HNO) R L w2 (by rw [unhide HRR]; decide) (unhide HR) (unhide HL) (unhide HB1)
            rw [unhide HRR] at h1 ⊢
            exact h1
          · obtain ⟨k, rfl⟩ : ∃ k : Nat, fuel = k := ⟨fuel.toNat, by omega⟩
            have HRR := hide (show R = 0 by rw [unhide HR4, if_pos (by omega)])
            have HLL := hide (show L = Xr.main p inp k by rw [unhide HL, unhide HOU, if_pos (by rw [← unhide HR, unhide HRR]), Int.toNat_natCast])
            have hk5 : k ≤ 500 := by omega
            have g0 : ((k : Int) < 0) = False := by simp
            have g5 : (500 < (k : Int)) = False := by simp; omega
            have hb8 := (Below.refl w2.heap.size w2).alloc (Nat.le_refl _) (Obj.cells #[.slice fs.ad fs.len fs.cap, .slice ta tn tc, .int .i64 (k : Nat), .int .i64 0, .slice none 0 0, .bool false] 97)
            have HMN := hide (main_any (br := w2.heap.size) (unhide HPP).1 (unhide HPP).2 _ inp k hk5 (show Xr.M w2 (w2.alloc (Obj.cells #[.slice fs.ad fs.len fs.cap, .slice ta tn tc, .int .i64 (k : Nat), .int .i64 0, .slice none 0 0, .bool false] 97)) w2.heap.size fs ⟨inp, k, 0, [], false⟩ (.slice none 0 0) from ⟨hb8, Nat.le_refl _, by go_simp, ⟨⟨ta, tn, tc⟩, by go_simp, (unhide HRN) w2 (unhide HB1)⟩, by go_simp, by go_simp, by go_simp, by go_simp, fun i => by go_simp, ⟨rfl, .inl ⟨rfl, rfl⟩⟩, fun q hq => by cases hq⟩))
            clear hf0 hf5 hb8
            go_wp2_with fail
            refine (unhide HMN).mono ?_
            rintro r w3 ⟨rfl, s3, ev3, hm3, hev, hb3, hln⟩
            obtain ⟨a3, c3, rfl⟩ := hm3.form
            have k4 := hm3.c4
            have HP := hide (show ∃ a c, Ending.returned (.tuple #[.slice a3 s3.evs.length c3, .int .i64 0]) = .returned (.tuple #[.slice a L.length c, .int .i64 (R : Nat)]) ∧ w3.ownsRow w.heap.size 100 6 (.slice a L.length c) L.length (Xr.evC L) ∧ Below w.heap.size w w3 ∧ L.length ≤ 3901 from by
              rw [unhide HLL, ← hev, unhide HRR]
              exact ⟨a3, c3, rfl, Pg.ow_base hm3.row (unhide HB1).size, (unhide HB1).trans (hb3.mono (unhide HB1).size), by rw [hev]; exact hln⟩)
            clear hm3 hev hb3 hln
            generalize s3.evs.length = n3 at *
            go_wp2_with fail
            refine bodyPost_ret (v := .tuple #[.slice a3 n3 c3, .int .i64 0]) (by simp [results, Try.results25, go_sem]) rfl ?_
            exact unhide HP
theorem Run_any {m n : Nat} (fs : Pg.Sl) (p : List (Pg.FT m n)) (ts : Pg.Sl) (inp : List Int) (fuel : Int) (w : World) (hp : Pg.RP w m n fs p) (hpf : Pg.parFit p) (hin : Pg.RN w ts inp) :
    Calls Try.prog 25 #[.agg #[.slice fs.ad fs.len fs.cap], .slice ts.ad ts.len ts.cap, .int .i64 fuel] w fun r w' => ∃ a c, r = .returned (.tuple #[.slice a (Xr.out p inp fuel).length c, .int .i64 (Xr.chkR p inp fuel : Nat)]) ∧ w'.ownsRow w.heap.size 100 6 (.slice a (Xr.out p inp fuel).length c) (Xr.out p inp fuel).length (Xr.evC (Xr.out p inp fuel)) ∧ Below w.heap.size w w' := by
  refine (Run_len fs p ts inp fuel w hp hpf hin).mono ?_
  rintro r w' ⟨a, c, h1, h2, h3, _⟩
  exact ⟨a, c, h1, h2, h3⟩
end Go.Proofs.Ytildjlaphkjegaa
