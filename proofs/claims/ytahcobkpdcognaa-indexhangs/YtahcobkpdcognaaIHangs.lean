/-
  The walk of IndexHangs. By the verifier.
-/
import Derived.Test.YtahcobkpdcognaaITells
import Derived.Deep.AppendSrc
namespace Go.Proofs.Ytahcobkpdcognaa
open Go.RowKit
set_option linter.unusedVariables false

theorem Ix.found_low (kind n c : Int) (l : List Ev) : Ix.found kind n 0 c l = (Ix.T kind n l l.length).filter (Ix.low c) := by
  unfold Ix.found
  refine List.filter_congr fun x hx => ?_
  have := Ix.T_mem hx
  simp [Ix.rng, Ix.low, this.1]
theorem Ix.found_high (kind n c : Int) (l : List Ev) : Ix.found kind n c (l.length : Int) l = (Ix.T kind n l l.length).filter (fun x => !Ix.low c x) := by
  unfold Ix.found
  refine List.filter_congr fun x hx => ?_
  have := Ix.T_mem hx
  rw [Bool.eq_iff_iff]
  simp [Ix.rng, Ix.low, this.2]
theorem Ix.found_two (kind n c : Int) (l : List Ev) : Ix.found kind n 0 c l ++ Ix.found kind n c (l.length : Int) l = Ix.T kind n l l.length := by
  rw [Ix.found_low, Ix.found_high]
  exact ((Ix.T_up kind n l l.length).part c).symm
theorem Ix.low_len (c : Int) (T : List Int) : (T.filter (Ix.low c)).length = Ix.cnt c T := rfl

theorem Ix.run_append_ints (ty : TypeId) (w : World) (base : Nat) (v : Value) (zs : List Int) (ho : w.ownsInts base 3 .i64 v zs) (ad : Option Addr) (c : Nat) (ys : List Int) (hr : Ix.RI w ad ys) (hy : ∀ y ∈ ys, Ix.wf y) (hs : zs.length + ys.length ≤ 10000) (hbase : base ≤ w.heap.size) :
    ∃ v' w', (Builtin.append_ #[23, 23] ty #[v, .slice ad ys.length c]).run Try.prog w = .ok v' w' ∧ w'.ownsInts base 3 .i64 v' (zs ++ ys) ∧ w.grownBy w' v.ownBlock := by
  obtain ⟨i0, hi, hz0, hz1, hz2⟩ := info_parts Try.info3
  cases ad with
  | none =>
    have hy0 : ys = [] := by
      cases ys with
      | nil => rfl
      | cons y r => obtain ⟨b, o, h, _⟩ := hr.at_ 0 y rfl; cases h
    subst hy0
    refine ⟨v, w, ?_, by simpa using ho, ⟨rfl, rfl, rfl, Nat.le_refl _, fun _ _ _ => rfl⟩⟩
    rcases ho.1.2 with ⟨rfl, _⟩ | ⟨g, cap, cur, rfl, _, hg, hn, _⟩
    · simp [Builtin.append_, run_underlying Try.underlying23, sizeOf, typeInfo, hi, Builtin.lenOf, Builtin.firstCells]
    · have := run_append_room_src (P := Try.prog) w 23 23 ty 3 i0 Try.underlying23 hi g 0 zs.length cap (.slice none 0 c) 0 [] (Src.ofNil w Try.underlying23 c) (by omega) (by simp) (by simp)
      simpa [World.setCells] using this
  | some a =>
    have hnews : ∀ j u, (ys.map (Value.int .i64))[j]? = some u → w.cell? (a.add j) = some u := fun j u hj => by
      rw [List.getElem?_map] at hj
      cases hyj : ys[j]? with
      | none => rw [hyj] at hj; cases hj
      | some y =>
        rw [hyj] at hj
        cases hj
        obtain ⟨b, o, he, hb, hc⟩ := hr.at_ j y hyj
        cases he
        rw [Go.WideShapes.add_plain]
        exact hc
    obtain ⟨v', w', h1, h2, h3, _⟩ := run_append_own_at (P := Try.prog) w base 23 ty 3 i0 (.int .i64 0) 1 8 Try.underlying23 hi hz0 hz1 hz2 rfl (by decide) v zs.length (zs.map (Value.int .i64)) ho.1 a ys.length c (ys.map (Value.int .i64)) (by simp) hnews (ints_oneCell .i64 ys) (by unfold maxLen; omega) (by omega) hbase
    refine ⟨v', w', h1, ⟨by simpa using h2, fun z hz => ?_⟩, h3⟩
    rcases List.mem_append.1 hz with hz | hz
    · exact ho.2 z hz
    · exact hy z hz
theorem Ix.owns_empty (w : World) : (w.alloc (Obj.cells #[] 3)).ownsInts w.heap.size 3 .i64 (.slice (some ⟨w.heap.size, 0, none⟩) 0 0) [] :=
  ⟨⟨rfl, .inr ⟨w.heap.size, 0, #[], rfl, Nat.le_refl _, heap_alloc_new w _, Nat.le_refl _, Nat.zero_le _, rfl, rfl⟩⟩, by simp⟩

/-- An append that stands behind a guard which holds, by what it does. -/
theorem Ix.wp_append_run {P : Program} {w w' : World} {ops : Array Oper} {rest : List Oper} {o : Oper} {a : Act} {Q : Exit → Act → World → Prop} (hw : Region.wanted o (yielded ops a.tmps) = true) (s x : Operand) (t : TypeId)
    (ho : o.op = .call { callee := .builtin .append, args := #[s, x], argTypes := #[t, t] }) (v u v' : Value) (hs : a.eval s = v) (hx : a.eval x = u) (hr : (Builtin.append_ #[t, t] o.type #[v, u]).run P w = .ok v' w')
    (h : wpList P ops Q rest (a.put o.dst v') w') : wpList P ops Q (o :: rest) a w := by
  refine wpList_step fun K hK => ?_
  rw [if_pos hw]
  unfold Oper.wp execOp
  simp only [ho, resolve, invoke, builtin, Sem.run_bind, Sem.run_pure, Result.andThen_ok, List.map_toArray, List.map_cons, List.map_nil, hs, hx, hr]
  exact hK _ _ h

set_option maxRecDepth 100000 in
set_option maxHeartbeats 1600000 in
theorem ihangs_err (ad : Option Addr) (len cap : Nat) (kind n cut : Int) (w : World) (hl : len ≤ 35184372088832) (h0 : Ix.chk len kind ≠ 0) :
    Calls Try.prog 4 #[.slice ad len cap, .int .i64 kind, .int .i64 n, .int .i64 cut] w fun e w' => e = .returned (.bool true) ∧ Below w.heap.size w w' := by
  have HF := hide (fun W => Find_err ad len cap kind n 0 (len : Int) W hl h0)
  have g0 : ((Ix.chk len kind : Int) != 0) = true := by simpa using h0
  clear h0
  generalize Ix.chk len kind = C at *
  go_enter Try.func4, Try.ntmps4
  go_wp2_with fail
  refine (indexBegun_any _).mono ?_
  rintro e w1 ⟨rfl, hb1⟩
  have HB1 := hide hb1
  clear hb1
  go_wp2_with fail
  refine ((unhide HF) _).mono ?_
  rintro e w2 ⟨rfl, hb2⟩
  have HB2 := hide ((unhide HB1).trans (hb2.mono (unhide HB1).size))
  clear hb2
  go_wp2_with fail
  go_ret
  exact ⟨rfl, unhide HB2⟩

set_option maxRecDepth 100000 in
set_option maxHeartbeats 1600000 in
theorem ihangs_ok (l : List Ev) (ad : Option Addr) (cap : Nat) (kind n cut : Int) (w : World) (hr : Cl.RE w ad l) (hw : ∀ e ∈ l, e.wf) (hn : Ix.wf n) (h0 : Ix.chk l.length kind = 0) :
    Calls Try.prog 4 #[.slice ad l.length cap, .int .i64 kind, .int .i64 n, .int .i64 cut] w fun e w' => e = .returned (.bool true) ∧ Below w.heap.size w w' := by
  have hl := Ix.chk_ok h0
  have HR := hide hr
  have HF := hide (fun W h => Find_ok l ad cap kind n 0 (l.length : Int) W h hw hn h0)
  have HF1 := hide (fun W h => Find_ok l ad cap kind n 0 cut W h hw hn h0)
  have HF2 := hide (fun W h => Find_ok l ad cap kind n cut (l.length : Int) W h hw hn h0)
  have HL := hide (fun W h => Last_ok l ad cap kind n cut W h hw hn h0)
  have HC := hide (fun W h => Count_ok l ad cap kind n W h hw hn h0)
  have hTl := Ix.T_length kind n l l.length
  have HTW := hide (show ∀ x ∈ Ix.T kind n l l.length, Ix.wf x from fun x hx => by
    have := Ix.T_mem hx
    exact WalkArith.wf_i64 (by omega))
  have HTU := hide (Ix.T_up kind n l l.length)
  have HTWO := hide (Ix.found_two kind n cut l)
  rw [Ix.found_whole] at HF
  rw [Ix.found_low] at HF1 HTWO
  have hb := Ix.found_len kind n cut (l.length : Int) l
  clear hr hw hn h0
  generalize Ix.found kind n cut (l.length : Int) l = G at *
  generalize Ix.T kind n l l.length = T at *
  have HLA := hide (fun c (h : Ix.cnt cut T = c + 1) => (unhide HTU).lastAt cut h)
  have HTK := hide ((unhide HTU).take cut)
  have HLN := hide (fun (h : Ix.cnt cut T = 0) => Ix.lastV_none h)
  have HFC := hide (show (T.filter (Ix.low cut)).length = Ix.cnt cut T from rfl)
  have HLB := hide (show Ix.lastB cut T = decide (0 < Ix.cnt cut T) from rfl)
  have hcl := Ix.cnt_le cut T
  generalize T.filter (Ix.low cut) = F at *
  generalize Ix.lastV cut T = V at *
  generalize Ix.lastB cut T = B at *
  have hFl : F.length ≤ T.length := by rw [unhide HFC]; exact hcl
  have g3 : ((T.length : Int) != (T.length : Int)) = false := by simp
  go_enter Try.func4, Try.ntmps4
  go_wp2_with fail
  refine (indexBegun_any _).mono ?_
  rintro e w0 ⟨rfl, hb0⟩
  have HB0 := hide hb0
  clear hb0
  go_wp2_with fail
  refine ((unhide HF) _ ((unhide HR).later (unhide HB0) (Nat.le_refl _))).mono ?_
  rintro e w1 ⟨a1, c1, rfl, hr1, hb1⟩
  have HR1 := hide hr1
  have HB1 := hide ((unhide HB0).trans (hb1.mono (unhide HB0).size))
  clear hr1 hb1
  go_wp2_with fail
  refine ((unhide HF1) _ ((unhide HR).later (unhide HB1) (Nat.le_refl _))).mono ?_
  rintro e w2 ⟨a2, c2, rfl, hr2, hb2⟩
  have HR12 := hide ((unhide HR1).later hb2 (Nat.le_refl _))
  have HR2 := hide hr2
  have HB2 := hide ((unhide HB1).trans (hb2.mono (unhide HB1).size))
  clear hr2 hb2
  go_wp2_with fail
  refine ((unhide HF2) _ ((unhide HR).later (unhide HB2) (Nat.le_refl _))).mono ?_
  rintro e w3 ⟨a3, c3, rfl, hr3, hb3⟩
  have HR13 := hide ((unhide HR12).later hb3 (Nat.le_refl _))
  have HR23 := hide ((unhide HR2).later hb3 (Nat.le_refl _))
  have HR3 := hide hr3
  have HB3 := hide ((unhide HB2).trans (hb3.mono (unhide HB2).size))
  clear hr3 hb3
  go_wp2_with fail
  refine ((unhide HL) _ ((unhide HR).later (unhide HB3) (Nat.le_refl _))).mono ?_
  rintro e w4 ⟨rfl, hb4⟩
  have HR14 := hide ((unhide HR13).later hb4 (Nat.le_refl _))
  have HR24 := hide ((unhide HR23).later hb4 (Nat.le_refl _))
  have HR34 := hide ((unhide HR3).later hb4 (Nat.le_refl _))
  have HB4 := hide ((unhide HB3).trans (hb4.mono (unhide HB3).size))
  clear hb4
  go_wp2_with fail
  refine ((unhide HC) _ ((unhide HR).later (unhide HB4) (Nat.le_refl _))).mono ?_
  rintro e w5 ⟨rfl, hb5⟩
  have HR15 := hide ((unhide HR14).later hb5 (Nat.le_refl _))
  have HR25 := hide ((unhide HR24).later hb5 (Nat.le_refl _))
  have HR35 := hide ((unhide HR34).later hb5 (Nat.le_refl _))
  have HB5 := hide ((unhide HB4).trans (hb5.mono (unhide HB4).size))
  clear hb5
  have HEND := hide (show B = false ∧ F.length = 0 ∧ V = 0 ∨ B = true ∧ ∃ c, F.length = c + 1 ∧ F[c]? = some V by
    rw [unhide HLB, unhide HFC]
    cases hc : Ix.cnt cut T with
    | zero => exact Or.inl ⟨rfl, rfl, (unhide HLN) hc⟩
    | succ c =>
      refine Or.inr ⟨by simp, c, rfl, ?_⟩
      rw [← unhide HTK, List.getElem?_take_of_lt (by omega)]
      exact (unhide HLA) c hc)
  clear HLA HTK HLN HLB HFC hcl HF HF1 HF2 HL HC HTU
  by_cases hc0 : 0 ≤ cut
  · by_cases hc1 : cut ≤ (l.length : Int)
    · have hF1 : ∀ y ∈ F, Ix.wf y := fun y hy => (unhide HTW) y (by rw [← unhide HTWO]; exact List.mem_append_left _ hy)
      have hG1 : ∀ y ∈ G, Ix.wf y := fun y hy => (unhide HTW) y (by rw [← unhide HTWO]; exact List.mem_append_right _ hy)
      have hA := (Below.refl w5.heap.size w5).alloc (Nat.le_refl _) (Obj.cells #[] 3)
      obtain ⟨v6, w6, hr6, ho6, hg6⟩ := Ix.run_append_ints 23 (w5.alloc (Obj.cells #[] 3)) w5.heap.size _ [] (Ix.owns_empty w5) a2 c2 F ((unhide HR25).later hA (Nat.le_refl _)) hF1 (by simp; omega) (by simp)
      rw [List.nil_append] at ho6
      have hB6 : Below w5.heap.size w5 w6 := hA.grown hg6 (by simp) (fun q hq => by cases hq; exact Nat.le_refl _)
      obtain ⟨v7, w7, hr7, ho7, hg7⟩ := Ix.run_append_ints 23 w6 w5.heap.size _ F ho6 a3 c3 G ((unhide HR35).later hB6 (Nat.le_refl _)) hG1 (by omega) hB6.size
      rw [unhide HTWO] at ho7
      have hlt6 := ho6.1.lt
      have hB7 : Below w5.heap.size w5 w7 := hB6.grown hg7 hB6.size (fun q hq => (hlt6 q hq).1)
      have HRUN6 := hide hr6
      have HRUN7 := hide hr7
      have HR17 := hide ((unhide HR15).later hB7 (Nat.le_refl _))
      have HR27 := hide ((unhide HR25).later hB7 (Nat.le_refl _))
      have HB7 := hide ((unhide HB5).trans (hB7.mono (unhide HB5).size))
      have HV7 := hide (show ∃ a c, v7 = .slice a T.length c ∧ Ix.RI w7 a T by
        rcases Ix.open_row ho7 with ⟨h1, h2⟩ | ⟨g, c, h1, _, _, h2⟩
        · exact ⟨none, 0, by rw [h1, h2]; rfl, by rw [h2]; exact Ix.RI.nil _ _⟩
        · exact ⟨_, c, h1, h2⟩)
      clear hr6 hr7 ho6 ho7 hg6 hg7 hB6 hB7 hlt6 hF1 hG1 hA
      obtain ⟨a7, c7, rfl, hri7⟩ := unhide HV7
      have HRI7 := hide hri7
      clear hri7 HV7
      have tok1 : True := trivial
      have tok2 : True := trivial
      go_wp2_with (first
        | (at_builtin; have _t := tok1; refine Ix.wp_append_run (by rfl) _ _ 23 rfl _ _ _ rfl rfl (unhide HRUN6) ?_; clear tok1 _t)
        | (at_builtin; have _t := tok2; refine Ix.wp_append_run (by rfl) _ _ 23 rfl _ _ _ rfl rfl (unhide HRUN7) ?_; clear tok2 _t))
      refine (SameInts_eq T a7 a1 c7 c1 _ (unhide HRI7) (unhide HR17) (by omega)).mono ?_
      rintro e w8 ⟨rfl, hb8⟩
      have HR28 := hide ((unhide HR27).later hb8 (Nat.le_refl _))
      have HB8 := hide ((unhide HB7).trans (hb8.mono (unhide HB7).size))
      clear hb8 HRUN6 HRUN7
      rcases unhide HEND with ⟨rfl, hf, rfl⟩ | ⟨rfl, c, hf, hv⟩
      · have hF0 : F = [] := List.length_eq_zero_iff.1 hf
        subst hF0
        clear HEND hf
        go_wp2_with fail
        go_ret
        exact ⟨rfl, unhide HB8⟩
      · obtain ⟨b, o, he, hbl, hcell⟩ := (unhide HR28).at_ c V hv
        cases he
        clear HEND hv
        have gV : (V == V) = true := by simp
        go_wp2_with fail
        go_ret
        exact ⟨rfl, unhide HB8⟩
    · have hc2 : ¬ cut ≤ (l.length : Int) := hc1
      rcases unhide HEND with ⟨rfl, hf, rfl⟩ | ⟨rfl, c, hf, hv⟩
      · have hF0 : F = [] := List.length_eq_zero_iff.1 hf
        subst hF0
        clear HEND hf
        go_wp2_with fail
        go_ret
        exact ⟨rfl, unhide HB5⟩
      · obtain ⟨b, o, he, hbl, hcell⟩ := (unhide HR25).at_ c V hv
        cases he
        clear HEND hv
        have gV : (V == V) = true := by simp
        go_wp2_with fail
        go_ret
        exact ⟨rfl, unhide HB5⟩
  · have hc2 : ¬ (0 : Int) ≤ cut := hc0
    rcases unhide HEND with ⟨rfl, hf, rfl⟩ | ⟨rfl, c, hf, hv⟩
    · have hF0 : F = [] := List.length_eq_zero_iff.1 hf
      subst hF0
      clear HEND hf
      go_wp2_with fail
      go_ret
      exact ⟨rfl, unhide HB5⟩
    · obtain ⟨b, o, he, hbl, hcell⟩ := (unhide HR25).at_ c V hv
      cases he
      clear HEND hv
      have gV : (V == V) = true := by simp
      go_wp2_with fail
      go_ret
      exact ⟨rfl, unhide HB5⟩
end Go.Proofs.Ytahcobkpdcognaa
