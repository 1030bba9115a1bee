/- For all two queries, every list of events and every number, the law QueryHangs returns true and leaves its arguments as they were: what held since holds on as long as the first one does, once is not all not, and what looks back at a beginning of a list looks back at the list; no condition. -/
import Derived.Test.YtfhlnelgnnkeoaaGreatDoorRows
import Derived.Test.YtfhlnelgnnkeoaaGreatDoorCards
import Derived.Test.YtfhlnelgnnkeoaaGreatDoorTie
import Derived.Test.YtfhlnelgnnkeoaaGreatDoorQGNo
import Derived.Test.YtfhlnelgnnkeoaaGreatDoorQGYes
import Derived.Test.YtfhlnelgnnkeoaaGreatDoorIArg
import Derived.Test.YtfhlnelgnnkeoaaGreatDoorQArg
import Derived.WalkKit
import Derived.ProofKit
import Derived.OpenShut
import Derived.ShutString
import Derived.SizedLaws
import Derived.LaidMore
import Derived.Stop.Joined
import Derived.SevenTiedAt
namespace Go.Proofs.YtfhlnelgnnkeoaaGreatDoor.queryHangs
open Go.ChangeShapes Go.WideShapes Go.ChangeAt Go.RowKit
open Go.ChangeMaps (open_string shut_string)
set_option linter.unusedVariables false

theorem own : ownKnob Tryz.prog.godebug = none := by kernel_rfl
theorem laidOut : laidOutB Tryz.prog = true := by kernel_rfl

theorem walk (n m : Nat) (e d : Qk.E) (x : Qk.AT n) (y : Qk.AT m) (l : List Ev) (ad : Option Addr) (cap : Nat) (cut : Int) (w : World) (h : Qk.RA w n e x) (hd : Qk.RA w m d y) (hr : Cl.RE w ad l) (hw : ∀ e ∈ l, e.wf) (hl : l.length ≤ 35184372088832) (hcap : l.length ≤ cap) (hnil : ad = none → cap = 0) :
    Calls Tryz.prog 7 #[.agg #[.int .i64 e.k, .int .i64 e.n, .slice e.args.ad e.args.len e.args.cap], .agg #[.int .i64 d.k, .int .i64 d.n, .slice d.args.ad d.args.len d.args.cap], .slice ad l.length cap, .int .i64 cut] w fun r w' => r = .returned (.bool true) ∧ Below w.heap.size w w' := by
  obtain ⟨x', h'⟩ := Qk.RA.to (N := n + m) (by omega) h
  obtain ⟨y', hd'⟩ := Qk.RA.to (N := n + m) (by omega) hd
  cases h0 : (decide (Qk.hErr (n + m + 1) (Qk.two 13 x' y') l.length = 0) && decide (Qk.hErr (n + m + 1) (Qk.two 9 x' x') l.length = 0) && decide (Qk.hErr (n + m + 1) (Qk.two 9 y' y') l.length = 0))
  · exact qhangs_no (n + m) e d x' y' l ad cap cut w h' hd' hr hw hl h0
  · rw [Bool.and_eq_true, Bool.and_eq_true, decide_eq_true_iff, decide_eq_true_iff, decide_eq_true_iff] at h0
    exact qhangs_yes (n + m) e d x' y' l ad cap cut w h' hd' hr hw hcap hnil h0.1.1 h0.1.2 h0.2

/-- The door's own heap meets the condition. -/
theorem door_met (os : Os) (args : Array Value) : laidMetH Tryz.prog Rows.queryHangsRow.laid ((World.doorLaid Tryz.prog 400 os).forCall (fun _ _ => 0) ⟨#[], args, []⟩).memory :=
  laidMetH_of_parts3 (fuel := 8) (laidMet_of_run' 8 (by kernel_rfl) (by kernel_rfl)) (by kernel_rfl) (by kernel_rfl)

set_option maxRecDepth 100000 in
set_option maxHeartbeats 1600000 in
theorem lifted (os : Os) (started : os.Started) (H : Type) (enc : TypeId × Value → H) :
    ReturnsInHanded {} Tryz.checked os 7 .any (fun w args => (Rows.queryHangsSpec.pre enc Tryz.prog Tryz.f7 [] false w args ∧ laidMetH Tryz.prog Rows.queryHangsRow.laid w) ∧ sizedMet enc Tryz.prog Tryz.f7 (OpenSpec.ofChange Rows.queryHangsSpec) false w args)
      (Rows.queryHangsSpec.post enc Tryz.prog Tryz.f7 false true false false) := by
  refine returnsInHanded_of_change_and (C := Tryz.checked) (X := fun w _ => laidMetH Tryz.prog Rows.queryHangsRow.laid w) (fun _ _ _ hh h => h.of_heap hh) own started (by kernel_rfl) Tryz.func7
    (ChangeSpec.witness_shaped (enc := enc) (C := Tryz.checked) (os := os) (X := fun w _ => laidMetH Tryz.prog Rows.queryHangsRow.laid w) false (World.doorLaid Tryz.prog 400 os) #[.agg #[.int .i64 0, .int .i64 0, .slice none 0 0], .agg #[.int .i64 0, .int .i64 0, .slice none 0 0], .slice none 0 0, .int .i64 0] 8 rfl (World.shaped_of_RefB (by kernel_rfl) (by kernel_rfl)) (by kernel_rfl) (by kernel_rfl) (by kernel_rfl) (door_met os _)) ?_
  intro W base args ds gs before hval0 hW hcnd hsz0 hL _
  have hsz : (DataW.weightsEach Tryz.prog (Tryz.f7.params.toList ++ Rows.queryHangsSpec.plain.varTypes Tryz.prog) (ds ++ gs)).all (· ≤ reachBytes) = true := hsz0
  have hval : ∀ (j : Nat) t v, Tryz.f7.params[j]? = some t → args[j]? = some v → Value.okWide Tryz.prog W .any base t v := hval0
  have hW' := hW
  obtain ⟨p, q, hA0, hV, rfl, hfz, hnd⟩ := hW
  have hA : DataW.TrodAll enc Tryz.prog W 0 (fun _ => true) true Tryz.f7.params.toList args.toList ds p := hA0
  rw [Tryz.params7] at hA hval hsz
  obtain ⟨v0, vs0, d0, ds0, p0, q0, hargs, rfl, rfl, h0, r0⟩ := trodAll_cons hA
  obtain ⟨v1, vs1, d1, ds1, p1, q1, rfl, rfl, rfl, h1, r1⟩ := trodAll_cons r0
  obtain ⟨v2, vs2, d2, ds2, p2, q2, rfl, rfl, rfl, h2, r2⟩ := trodAll_cons r1
  obtain ⟨v3, vs3, d3, ds3, p3, q3, rfl, rfl, rfl, h3, r3⟩ := trodAll_cons r2
  obtain ⟨rfl, rfl, rfl⟩ := trodAll_nil r3
  obtain rfl : args = #[v0, v1, v2, v3] := Array.ext' hargs
  obtain ⟨rfl, rfl⟩ := trodVars_none hV
  have h0k := h0
  have h1k := h1
  have h2k := h2
  have h3k := h3
  obtain ⟨cs0, rfl, hcs0⟩ := okWide_struct Tryz.underlying24 (hval 0 24 v0 rfl rfl)
  obtain ⟨fuel0, hf0⟩ := h0
  obtain ⟨e0, x0, hce0, hra0⟩ := Qk.open_ask fuel0 hf0
  obtain rfl : cs0 = #[.int .i64 e0.k, .int .i64 e0.n, .slice e0.args.ad e0.args.len e0.args.cap] := Array.ext' (by simpa [Value.cells] using hce0)
  obtain ⟨cs1, rfl, hcs1⟩ := okWide_struct Tryz.underlying24 (hval 1 24 v1 rfl rfl)
  obtain ⟨fuel1, hf1⟩ := h1
  obtain ⟨e1, x1, hce1, hra1⟩ := Qk.open_ask fuel1 hf1
  obtain rfl : cs1 = #[.int .i64 e1.k, .int .i64 e1.n, .slice e1.args.ad e1.args.len e1.args.cap] := Array.ext' (by simpa [Value.cells] using hce1)
  obtain ⟨a2, len2, cap2, rfl⟩ := okWide_slice Tryz.underlying37 (hval 2 37 v2 rfl rfl)
  obtain ⟨fuel2, hf2⟩ := h2
  obtain ⟨ad2, l2, cap2', hv2, hrd2, hwf2, hcap2, hnil2, hd2⟩ := Ix.open_events3 (by simpa [Value.cells] using hf2)
  cases hv2
  have hlen2 : l2.length ≤ 35184372088832 := by
    rcases hd2 with ⟨_, h0⟩ | ⟨elems, spare, rfl, he⟩
    · omega
    · have := sized_slice hsz (j := 2) (t := 37) (e := 71) rfl rfl Tryz.underlying37
      rw [Tryz.ibytesEv, he] at this
      have e : reachBytes = 140737488351232 := rfl
      omega
  obtain ⟨i3, rfl⟩ := okWide_int Tryz.underlying3 (hval 3 3 v3 rfl rfl)
  clear hA0 hval0
  simp only [List.append_nil] at hW'
  have hlt : ∀ x ∈ p0 ++ (p1 ++ (p2 ++ (p3))), x.block < W.heap.size := fun x hx => by simpa using hW'.lt x (by simpa using hx)
  refine (walk fuel0 fuel1 e0 e1 x0 x1 l2 _ _ i3 W hra0 hra1 hrd2 hwf2 hlen2 hcap2 hnil2).mono fun e W' ⟨he, bel⟩ => ?_
  subst he
  exact ⟨_, rfl, _, _, _, [], p0 ++ (p1 ++ (p2 ++ (p3 ++ []))), [], hW', trodAll_mk1 (shut_bool Tryz.underlying4 _), trodAll_cons_mk (Below.trod laidOut (by kernel_rfl) (of_decide_eq_true (by kernel_rfl)) h0k bel (fun x hx => hlt x (by simp [hx]))) (trodAll_cons_mk (Below.trod laidOut (by kernel_rfl) (of_decide_eq_true (by kernel_rfl)) h1k bel (fun x hx => hlt x (by simp [hx]))) (trodAll_cons_mk (Below.trod laidOut (by kernel_rfl) (of_decide_eq_true (by kernel_rfl)) h2k bel (fun x hx => hlt x (by simp [hx]))) (trodAll_cons_mk (Below.trod laidOut (by kernel_rfl) (of_decide_eq_true (by kernel_rfl)) h3k bel (fun x hx => hlt x (by simp [hx]))) (trodAll_mk0)))), rfl, bel.frame _, fun h => by cases h⟩

theorem over : Rows.queryHangsRow.holds Tryz.pinned (OpenSpec.ofChange Rows.queryHangsSpec) :=
  OpenClaim.holds_of_wide 7 Tryz.f7 rfl rfl rfl rfl rfl rfl rfl ⟨rfl, rfl, rfl, rfl, rfl⟩ rfl rfl rfl rfl rfl (by kernel_rfl) Tryz.func7 (by kernel_rfl)
    (of_decide_eq_true (by kernel_rfl)) (by unfold Func.isWrapper; first | (rw [if_pos (by decide +kernel)]; kernel_rfl) | (rw [if_neg (by decide +kernel)]; exact ⟨rfl, rfl⟩))
    (fun os started H enc _ => lifted os started H enc)

theorem proved : Rows.QueryHangsCardSaid :=
  Claim7.holds_tied_plain_at .later [] [.data, .data, .data, .sentinel, .sentinel] true (true, "4df121ed19f6036deee738927e9417c3a25506c4baa47ef25816039bfe6d5059") true
    over (fun _ h => by cases h) (by kernel_rfl) (fun _ h => by cases h) queryHangs_row_tie rfl ⟨rfl, rfl⟩ (by kernel_rfl) rfl
    (fun f fn hf hfn => by
      obtain rfl : f = 7 := Option.some.inj ((show Tryz.prog.funcNamed Tryz.f7.name = some 7 by kernel_rfl).symm.trans hf) |>.symm
      obtain rfl : fn = Tryz.f7 := (Option.some.inj (Tryz.func7.symm.trans hfn)).symm
      exact ⟨by kernel_rfl, fun j t ht => by
        rw [Tryz.params7] at ht
        have hm : t ∈ [24, 24, 37, 3] := by simpa using Array.mem_of_getElem? ht
        have hall : ([24, 24, 37, 3].all fun u => !Tryz.prog.wantsStandIn u) = true := by kernel_rfl
        exact (show Tryz.prog.wantsStandIn t = false by simpa using List.all_eq_true.1 hall t hm)⟩)
    (by kernel_rfl)
end Go.Proofs.YtfhlnelgnnkeoaaGreatDoor.queryHangs
