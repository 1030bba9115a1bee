/-
  Contracts of Spans and First of package when; and of all three, where something is wrong. By the verifier.
-/
import Derived.Test.YtkonaaldbeecoaaWTimes
namespace Go.Proofs.Ytkonaaldbeecoaa
open Go.RowKit Go.Shelf
attribute [local go_sem] Oper.semAt_some
set_option linter.unusedVariables false

theorem Try.info2i : (Try.prog.info? 41).map (fun i => (i.zero, i.size, i.bytes)) = some (some (.agg #[.int .i64 0, .int .i64 0]), 2, 16) := by kernel_rfl
theorem Wn.info_of {P : Program} {t : TypeId} {z : Option Value} {s b : Nat} (h : (P.info? t).map (fun i => (i.zero, i.size, i.bytes)) = some (z, s, b)) : ∃ i, P.info? t = some i ∧ i.zero = z ∧ i.size = s ∧ i.bytes = b := by
  cases hi : P.info? t with
  | none => rw [hi] at h; cases h
  | some i =>
    rw [hi] at h
    simp at h
    exact ⟨i, rfl, h.1, h.2.1, h.2.2⟩
/-- The cells of spans. -/
def Wn.cells (l : List (Nat × Nat)) : List Value := l.flatMap fun p => [.int .i64 (p.1 : Nat), .int .i64 (p.2 : Nat)]
theorem Wn.cells_snoc (l : List (Nat × Nat)) (p : Nat × Nat) : Wn.cells (l ++ [p]) = Wn.cells l ++ [.int .i64 (p.1 : Nat), .int .i64 (p.2 : Nat)] := by simp [Wn.cells]

set_option maxRecDepth 100000 in
set_option maxHeartbeats 2000000 in
theorem Spans_ok (n : Nat) (e : Qk.E) (x : Qk.AT n) (l : List Ev) (ad : Option Addr) (cap : Nat) (w : World) (h : Qk.RA w n e x) (hr : Cl.RE w ad l) (hw : ∀ e ∈ l, e.wf) (h0 : Qk.hErr n x l.length = 0) :
    Calls Try.prog 7 #[e.val, .slice ad l.length cap] w fun r w' => ∃ v, r = .returned (.tuple #[v, .int .i64 0]) ∧ w'.ownsRow w.heap.size 41 2 v (Wn.R (Qk.marks n x l) l.length).length (Wn.cells (Wn.R (Qk.marks n x l) l.length)) ∧ Below w.heap.size w w' := by
  have hl := (Qk.hErr_ok h0).2
  have HH := hide (fun (W : World) (h : Qk.RA W n e x) (h1 : Cl.RE W ad l) => Holds_ok n e x l ad cap W h h1 hw h0)
  obtain ⟨WB, hWB⟩ : ∃ WB, WB = w.alloc (.cells #[.int .i64 e.k, .int .i64 e.n, .slice e.args.ad e.args.len e.args.cap] 24) := ⟨_, rfl⟩
  have hBB : Below w.heap.size w WB := by rw [hWB]; exact (Below.refl _ _).alloc (Nat.le_refl _) _
  have HA := hide (h.later hBB (Nat.le_refl _))
  have HR := hide (hr.later hBB (Nat.le_refl _))
  have HBB := hide hBB
  obtain ⟨i0, hi, hz0, hz1, hz2⟩ := Wn.info_of Try.info2i
  have HI := hide hi
  have HZ0 := hide hz0
  have HZ1 := hide hz1
  have HZ2 := hide hz2
  clear h hr hw h0 hi hz0 hz1 hz2 hBB
  generalize Qk.marks n x l = b at *
  unfold Qk.E.val at HH ⊢
  refine (callsIn_wide (n := 3)).1 ?_
  refine callsIn_of_wp_marks Try.func7 rfl trivial ?_ rfl
  simp only [Try.ntmps7, List.size_toArray, List.length_cons, List.length_nil, Nat.reduceAdd, Nat.reduceSub, Array.replicate_succ, Array.replicate_zero, List.push_toArray, List.append_toArray, List.nil_append, List.cons_append]
  gi_wp2_with fail
  rw [← hWB]
  refine ⟨trivial, (callsIn_wide.2 ((unhide HH) _ (unhide HA) (unhide HR))).mono ?_⟩
  rintro r w1 ⟨g, rfl, hg, hrow, hln, hb1⟩
  have HB1 := hide ((unhide HBB).trans (hb1.mono (unhide HBB).size))
  have HROW := hide hrow
  have HLN := hide hln
  have hglt := hrow.lt
  clear hrow hln hb1 hWB
  gi_wp2_with fail
  refine ⟨trivial, (callsIn_wide.2 (spansOf_any _ _ _ _)).mono ?_⟩
  rintro r w2 ⟨rfl, rfl⟩
  obtain ⟨W2, hW2⟩ : ∃ W2, W2 = (w1.alloc (.cells #[.slice none 0 0] 32)).alloc (.cells #[.slice (some ⟨g, 0, none⟩) l.length l.length] 36) := ⟨_, rfl⟩
  have hsz2 : w1.heap.size + 2 ≤ W2.heap.size := by rw [hW2]; simp
  have hb2 : Below w1.heap.size w1 W2 := by rw [hW2]; exact ((Below.refl _ _).alloc (Nat.le_refl _) _).alloc (by simp) _
  have HBX := hide (show Boxed W2 w1.heap.size 32 (.slice none 0 0) by rw [hW2]; exact (Boxed.new w1 _ _).alloc _)
  have HST := hide (spans_stops 2 (by omega) (w1.heap.size + 1) W2.heap.size w1.heap.size g l.length b W2 (Nat.le_refl _) (by rw [hW2, unhide HLN]; go_simp) ((unhide HROW).kept (hb2.block g hglt)) (by rw [unhide HLN]; exact hl) (by omega) (by omega) (by omega) (by omega))
  have HB2 := hide ((unhide HB1).trans (hb2.mono (unhide HB1).size))
  clear hb2
  gi_wp2_with fail
  rw [← hW2]
  clear hW2
  refine wpIn_rangeFunc_ownF rfl (by omega) (gf := 22) (lb := #[.pointer (some ⟨w1.heap.size + 1, 0, none⟩)]) rfl trivial Try.call22
    (unhide HST) Wn.but_t (Wn.but_b (Nat.le_refl _)) (Below.refl _ _) (fun _ => rfl)
    (fun pre W => (∃ v, Boxed W w1.heap.size 32 v ∧ W.ownsRow W2.heap.size 41 2 v pre.length (Wn.cells (pre.map Subtype.val)) ∧ True) ∧ Qk.But1 w1.heap.size W2.heap.size W2 W)
    (fun _ _ _ => False)
    (OwnFrom.and (Own.from (holdsRow_own W2.heap.size w1.heap.size 32 41 2 (fun (pre : List Wn.P) => pre.length) (fun pre => Wn.cells (pre.map Subtype.val)) (fun _ _ => True)) _) (Wn.own_but (Nat.le_refl _) (Nat.le_refl _)))
    (fun _ _ _ _ _ hs _ _ => hs)
    ⟨⟨_, unhide HBX, World.ownsRow_nil _ _ _ _, trivial⟩, Qk.But1.refl _ _ _⟩
    (fun x => { tmps := #[.agg #[.int .i64 e.k, .int .i64 e.n, .slice e.args.ad e.args.len e.args.cap], .slice ad l.length cap, .pointer (some ⟨w.heap.size, 0, none⟩), undef, .slice none 0 0, .int .i64 0, .slice (some ⟨g, 0, none⟩) l.length l.length, .int .i64 0, .pointer (some ⟨w1.heap.size, 0, none⟩), .int .i64 (x.1.1 : Nat), .int .i64 (x.1.2 : Nat), .tuple #[.slice (some ⟨g, 0, none⟩) l.length l.length, .int .i64 0], .agg #[.int .i64 e.k, .int .i64 e.n, .slice e.args.ad e.args.len e.args.cap], .slice ad l.length cap, .tuple #[.slice (some ⟨g, 0, none⟩) l.length l.length, .int .i64 0], .slice (some ⟨g, 0, none⟩) l.length l.length, .int .i64 0, .int .i64 0, .bool false, undef, .slice (some ⟨g, 0, none⟩) l.length l.length, .func (.func 22) #[] #[.pointer (some ⟨w1.heap.size + 1, 0, none⟩)], .int .i64 (x.1.1 : Nat), .int .i64 (x.1.2 : Nat), undef, undef, undef, undef, undef, undef, undef], defers := [] }) ?assign ?body ?done ?stop
  case assign =>
    intro l x W K hK
    unfold Wn.enc
    gi_wp2
    exact hK
  case body =>
    rintro l pre ⟨⟨bg, en⟩, hx1, hx2⟩ W ⟨⟨v, hv, hrow, _⟩, hbut⟩ hlen
    have c0 := hv.cell
    obtain ⟨cp, hcp⟩ : ∃ cp, cp = Wn.cells (pre.map Subtype.val) := ⟨_, rfl⟩
    rw [← hcp] at hrow
    have HCS := hide (show Wn.cells ((pre ++ [(⟨(bg, en), hx1, hx2⟩ : Wn.P)]).map Subtype.val) = cp ++ [.int .i64 (bg : Nat), .int .i64 (en : Nat)] by rw [List.map_append, hcp]; exact Wn.cells_snoc _ _)
    have HLE := hide (show (pre ++ [(⟨(bg, en), hx1, hx2⟩ : Wn.P)]).length = pre.length + 1 by simp)
    have HBUT := hide hbut
    have HV := hide hv
    have HROWV := hide hrow
    have hz8 := hbut.size
    have HBK := hide (heap_alloc_new W (Obj.cells #[.int .i64 (bg : Nat), .int .i64 (en : Nat)] 41))
    clear hrow hcp hbut hv
    have tok1 : True := trivial
    gi_wp2_with (gi_at_builtin; have _t := tok1; clear tok1 _t; refine wpListIn_append_own _ rfl _ _ 32 rfl W2.heap.size 41 i0 (.agg #[.int .i64 0, .int .i64 0]) 2 16 Try.underlying32 (unhide HI) (unhide HZ0) (unhide HZ1) (unhide HZ2) rfl (by decide) _ _ _ rfl ((unhide HROWV).alloc _) ⟨W.heap.size, 0, none⟩ 1 1 [.int .i64 (bg : Nat), .int .i64 (en : Nat)] rfl rfl (World.news_of_block (unhide HBK)) (by simp [Value.oneCell']) (by unfold maxLen; omega) (by omega) (by simp; omega) ?_; intro v' w3 hown' hgrow _; obtain ⟨g', cap', rfl⟩ := ownsRow_succ hown'; obtain ⟨hv1, hv2, hr2, hk2, hb2⟩ := Wn.appended (unhide HV) (by decide) (unhide HROWV) (by omega) hown' hgrow; have hc1 := hv1.cell; have hf1 := hv1.frozen; have HV2 := hide hv2; have HR2 := hide hr2; have HK2 := hide hk2; have HB3 := hide hb2; clear hv1 hv2 hr2 hk2 hb2 hown' hgrow)
    exact ⟨unhide HK2, unhide HB3, ⟨_, unhide HV2, by rw [unhide HCS, unhide HLE]; exact unhide HR2⟩, (unhide HBUT).trans (unhide HB3)⟩
  case done =>
    rintro D ys W hD hys ⟨⟨v, hv, hrow, _⟩, hbut⟩ hK
    have hc := hv.cell
    have HT := hide (show ys.map Subtype.val = Wn.R b l.length by rw [hys, unhide HLN])
    have HTL := hide (show ys.length = (Wn.R b l.length).length by rw [← unhide HT, List.length_map])
    have HROWV := hide hrow
    have HBUT := hide hbut
    clear hys hrow hbut
    gi_wp2
    refine ⟨by simp, .inl ⟨_, _, rfl, run_takeDeferred hK, ?_⟩⟩
    have hzw := (unhide HB2).size
    refine ⟨.tuple #[v, .int .i64 0], by simp [results, Try.results7, go_sem], v, rfl, ?_, ((unhide HB2).trans (Wn.but_below (unhide HBUT) (unhide HB1).size hzw)).trans (belowK_b (w := w) (Nat.le_refl _) W D _ _ (by omega) hK rfl rfl)⟩
    rw [← unhide HT, List.length_map]
    exact Wn.row_base (ownsRow_putObj (unhide HROWV) _ hK rfl) hzw
  case stop =>
    rintro D c pre W _ _ h _
    exact h.elim

theorem Wn.x3_new (w : World) (o : Obj) : Boxed ((((w.alloc o).alloc (.cells #[.int .i64 0] 3)).alloc (.cells #[.bool false] 4)).alloc (.cells #[.int .i64 0] 27)) (w.heap.size + 1) 3 (.int .i64 0) ∧ Boxed ((((w.alloc o).alloc (.cells #[.int .i64 0] 3)).alloc (.cells #[.bool false] 4)).alloc (.cells #[.int .i64 0] 27)) (w.heap.size + 2) 4 (.bool false) ∧ Boxed ((((w.alloc o).alloc (.cells #[.int .i64 0] 3)).alloc (.cells #[.bool false] 4)).alloc (.cells #[.int .i64 0] 27)) (w.heap.size + 3) 27 (.int .i64 0) := by
  refine ⟨?_, ?_, ?_⟩
  · have := ((Boxed.new (w.alloc o) 3 (.int .i64 0)).alloc (.cells #[.bool false] 4)).alloc (.cells #[.int .i64 0] 27)
    rw [World.size_alloc] at this
    exact this
  · have := (Boxed.new ((w.alloc o).alloc (.cells #[.int .i64 0] 3)) 4 (.bool false)).alloc (.cells #[.int .i64 0] 27)
    rw [World.size_alloc, World.size_alloc] at this
    exact this
  · have := Boxed.new (((w.alloc o).alloc (.cells #[.int .i64 0] 3)).alloc (.cells #[.bool false] 4)) 27 (.int .i64 0)
    rw [World.size_alloc, World.size_alloc, World.size_alloc] at this
    exact this

theorem Wn.x3_set {W w : World} {B : Nat} {v1 v2 v3 : Value} (u1 u2 u3 : Value) (b1 : Boxed W (B + 1) 3 v1) (b2 : Boxed W (B + 2) 4 v2) (b3 : Boxed W (B + 3) 27 v3) (hB : Below B w W) :
    Boxed (((W.setCell ⟨B + 1, 0, none⟩ u1).setCell ⟨B + 1 + 1, 0, none⟩ u2).setCell ⟨B + 1 + 1 + 1, 0, none⟩ u3) (B + 1) 3 u1 ∧ Boxed (((W.setCell ⟨B + 1, 0, none⟩ u1).setCell ⟨B + 1 + 1, 0, none⟩ u2).setCell ⟨B + 1 + 1 + 1, 0, none⟩ u3) (B + 2) 4 u2 ∧ Boxed (((W.setCell ⟨B + 1, 0, none⟩ u1).setCell ⟨B + 1 + 1, 0, none⟩ u2).setCell ⟨B + 1 + 1 + 1, 0, none⟩ u3) (B + 3) 27 u3 ∧
      KeepsOthers W (((W.setCell ⟨B + 1, 0, none⟩ u1).setCell ⟨B + 1 + 1, 0, none⟩ u2).setCell ⟨B + 1 + 1 + 1, 0, none⟩ u3) ∧ Below B w (((W.setCell ⟨B + 1, 0, none⟩ u1).setCell ⟨B + 1 + 1, 0, none⟩ u2).setCell ⟨B + 1 + 1 + 1, 0, none⟩ u3) :=
  ⟨((b1.set u1).other (by omega) _).other (by omega) _, (((b2.other (by omega) _).set u2).other (by omega) _), ((b3.other (by omega) _).other (by omega) _).set u3,
    ((KeepsOthers.setCell _ _ _).trans (KeepsOthers.setCell _ _ _)).trans (KeepsOthers.setCell _ _ _), ((hB.setCell (p := ⟨B + 1, 0, none⟩) (by show B ≤ B + 1; omega) _).setCell (p := ⟨B + 1 + 1, 0, none⟩) (by show B ≤ B + 1 + 1; omega) _).setCell (p := ⟨B + 1 + 1 + 1, 0, none⟩) (by show B ≤ B + 1 + 1 + 1; omega) _⟩

/-- The first span's begin; 0, if there is none. -/
def Wn.fst (l : List (Nat × Nat)) : Int := ((l.head?.map fun p => ((p.1 : Nat) : Int))).getD 0

set_option maxRecDepth 100000 in
set_option maxHeartbeats 2000000 in
theorem First_ok (n : Nat) (e : Qk.E) (x : Qk.AT n) (l : List Ev) (ad : Option Addr) (cap : Nat) (w : World) (h : Qk.RA w n e x) (hr : Cl.RE w ad l) (hw : ∀ e ∈ l, e.wf) (h0 : Qk.hErr n x l.length = 0) :
    Calls Try.prog 6 #[e.val, .slice ad l.length cap] w fun r w' => r = .returned (.tuple #[.int .i64 (Wn.fst (Wn.R (Qk.marks n x l) l.length)), .bool (decide (0 < (Wn.R (Qk.marks n x l) l.length).length)), .int .i64 0]) ∧ Below w.heap.size w w' := by
  have hl := (Qk.hErr_ok h0).2
  have HH := hide (fun (W : World) (h : Qk.RA W n e x) (h1 : Cl.RE W ad l) => Holds_ok n e x l ad cap W h h1 hw h0)
  obtain ⟨WB, hWB⟩ : ∃ WB, WB = (((w.alloc (.cells #[.int .i64 e.k, .int .i64 e.n, .slice e.args.ad e.args.len e.args.cap] 24)).alloc (.cells #[.int .i64 0] 3)).alloc (.cells #[.bool false] 4)).alloc (.cells #[.int .i64 0] 27) := ⟨_, rfl⟩
  have hBB : Below w.heap.size w WB := by rw [hWB]; exact ((((Below.refl _ _).alloc (Nat.le_refl _) _).alloc (by simp) _).alloc (by simp; omega) _).alloc (by simp; omega) _
  have hsB : w.heap.size + 4 ≤ WB.heap.size := by rw [hWB]; simp
  have HA := hide (h.later hBB (Nat.le_refl _))
  have HR := hide (hr.later hBB (Nat.le_refl _))
  have HX1 := hide (show Boxed WB (w.heap.size + 1) 3 (.int .i64 0) ∧ Boxed WB (w.heap.size + 2) 4 (.bool false) ∧ Boxed WB (w.heap.size + 3) 27 (.int .i64 0) by
    rw [hWB]
    exact Wn.x3_new w _)
  have HBB := hide hBB
  clear h hr hw h0 hBB
  generalize Qk.marks n x l = b at *
  unfold Qk.E.val at HH ⊢
  refine (callsIn_wide (n := 3)).1 ?_
  refine callsIn_of_wp_marks Try.func6 rfl trivial ?_ rfl
  simp only [Try.ntmps6, List.size_toArray, List.length_cons, List.length_nil, Nat.reduceAdd, Nat.reduceSub, Array.replicate_succ, Array.replicate_zero, List.push_toArray, List.append_toArray, List.nil_append, List.cons_append]
  gi_wp2_with fail
  rw [← hWB]
  refine ⟨trivial, (callsIn_wide.2 ((unhide HH) _ (unhide HA) (unhide HR))).mono ?_⟩
  rintro r w1 ⟨g, rfl, hg, hrow, hln, hb1⟩
  have hz1 := hb1.size
  have HB1 := hide ((unhide HBB).trans (hb1.mono (unhide HBB).size))
  have HX2 := hide (show Boxed w1 (w.heap.size + 1) 3 (.int .i64 0) ∧ Boxed w1 (w.heap.size + 2) 4 (.bool false) ∧ Boxed w1 (w.heap.size + 3) 27 (.int .i64 0) from ⟨Eq.trans (hb1.block _ (by omega)) (unhide HX1).1, Eq.trans (hb1.block _ (by omega)) (unhide HX1).2.1, Eq.trans (hb1.block _ (by omega)) (unhide HX1).2.2⟩)
  have HROW := hide hrow
  have HLN := hide hln
  have hglt := hrow.lt
  clear hrow hln hb1 hWB
  gi_wp2_with fail
  refine ⟨trivial, (callsIn_wide.2 (spansOf_any _ _ _ _)).mono ?_⟩
  rintro r w2 ⟨rfl, rfl⟩
  obtain ⟨W2, hW2⟩ : ∃ W2, W2 = w1.alloc (.cells #[.slice (some ⟨g, 0, none⟩) l.length l.length] 36) := ⟨_, rfl⟩
  have hsz2 : w1.heap.size + 1 ≤ W2.heap.size := by rw [hW2]; simp
  have hb2 : Below w1.heap.size w1 W2 := by rw [hW2]; exact (Below.refl _ _).alloc (Nat.le_refl _) _
  have HX3 := hide (show Boxed W2 (w.heap.size + 1) 3 (.int .i64 0) ∧ Boxed W2 (w.heap.size + 2) 4 (.bool false) ∧ Boxed W2 (w.heap.size + 3) 27 (.int .i64 0) from ⟨Eq.trans (hb2.block _ (by omega)) (unhide HX2).1, Eq.trans (hb2.block _ (by omega)) (unhide HX2).2.1, Eq.trans (hb2.block _ (by omega)) (unhide HX2).2.2⟩)
  have HST := hide (spans_stops 2 (by omega) w1.heap.size W2.heap.size (w.heap.size + 1) g l.length b W2 (Nat.le_refl _) (by rw [hW2, unhide HLN]; go_simp) ((unhide HROW).kept (hb2.block g hglt)) (by rw [unhide HLN]; exact hl) (by omega) (by omega) (by omega) (by omega))
  have HB2 := hide ((unhide HB1).trans (hb2.mono (unhide HB1).size))
  clear hb2
  gi_wp2_with fail
  rw [← hW2]
  clear hW2
  refine wpIn_rangeFunc_ownF rfl (by omega) (gf := 22) (lb := #[.pointer (some ⟨w1.heap.size, 0, none⟩)]) rfl trivial Try.call22
    (unhide HST) Wn.but_t (Wn.but_b (Nat.le_refl _)) (Below.refl _ _) (fun _ => rfl)
    (fun pre W => pre = [] ∧ (Boxed W (w.heap.size + 1) 3 (.int .i64 0) ∧ (Boxed W (w.heap.size + 2) 4 (.bool false) ∧ (Boxed W (w.heap.size + 3) 27 (.int .i64 0) ∧ Below w.heap.size w W))))
    (fun c pre W => (c = .ret ∧ pre.length = 1) ∧ (Boxed W (w.heap.size + 1) 3 (.int .i64 (Wn.fst (pre.map Subtype.val))) ∧ (Boxed W (w.heap.size + 2) 4 (.bool true) ∧ (Boxed W (w.heap.size + 3) 27 (.int .i64 0) ∧ Below w.heap.size w W))))
    (OwnFrom.and (ownFrom_pure _ (fun (pre : List Wn.P) => pre = [])) (OwnFrom.and (Own.from (boxed_own _ _ (fun _ => .int .i64 0)) _) (OwnFrom.and (Own.from (boxed_own _ _ (fun _ => .bool false)) _) (OwnFrom.and (Own.from (boxed_own _ _ (fun _ => .int .i64 0)) _) (ownFrom_below (Nat.le_refl _) (unhide HB2).size)))))
    (fun c => OwnFrom.and (ownFrom_pure _ (fun (pre : List Wn.P) => c = .ret ∧ pre.length = 1)) (OwnFrom.and (Own.from (boxed_own _ _ (fun (pre : List Wn.P) => .int .i64 (Wn.fst (pre.map Subtype.val)))) _) (OwnFrom.and (Own.from (boxed_own _ _ (fun _ => .bool true)) _) (OwnFrom.and (Own.from (boxed_own _ _ (fun _ => .int .i64 0)) _) (ownFrom_below (Nat.le_refl _) (unhide HB2).size)))))
    ⟨rfl, (unhide HX3).1, (unhide HX3).2.1, (unhide HX3).2.2, unhide HB2⟩
    (fun x => { tmps := #[.agg #[.int .i64 e.k, .int .i64 e.n, .slice e.args.ad e.args.len e.args.cap], .slice ad l.length cap, .pointer (some ⟨w.heap.size, 0, none⟩), undef, .pointer (some ⟨w.heap.size + 1, 0, none⟩), .pointer (some ⟨w.heap.size + 1 + 1, 0, none⟩), .pointer (some ⟨w.heap.size + 1 + 1 + 1, 0, none⟩), .slice (some ⟨g, 0, none⟩) l.length l.length, .int .i64 0, .int .i64 (x.1.1 : Nat), .tuple #[.slice (some ⟨g, 0, none⟩) l.length l.length, .int .i64 0], .agg #[.int .i64 e.k, .int .i64 e.n, .slice e.args.ad e.args.len e.args.cap], .slice ad l.length cap, .tuple #[.slice (some ⟨g, 0, none⟩) l.length l.length, .int .i64 0], .slice (some ⟨g, 0, none⟩) l.length l.length, .int .i64 0, .int .i64 0, .bool false, undef, .slice (some ⟨g, 0, none⟩) l.length l.length, .func (.func 22) #[] #[.pointer (some ⟨w1.heap.size, 0, none⟩)], .int .i64 (x.1.1 : Nat), .int .i64 (x.1.2 : Nat), undef], defers := [] }) ?assign ?body ?done ?stop
  case assign =>
    intro l x W K hK
    unfold Wn.enc
    gi_wp2
    exact hK
  case body =>
    rintro l pre ⟨⟨bg, en⟩, hx1, hx2⟩ W ⟨hp, b1, b2, b3, hB⟩ hlen
    have c1 := b1.cell
    have c2 := b2.cell
    have c3 := b3.cell
    have f1 := b1.frozen
    have f2 := b2.frozen
    have f3 := b3.frozen
    have HFS := hide (show Wn.fst ((pre ++ [(⟨(bg, en), hx1, hx2⟩ : Wn.P)]).map Subtype.val) = (bg : Nat) by rw [hp]; rfl)
    have HLE := hide (show (pre ++ [(⟨(bg, en), hx1, hx2⟩ : Wn.P)]).length = 1 by rw [hp]; rfl)
    have HX := hide (And.intro b1 (And.intro b2 (And.intro b3 hB)))
    clear b1 b2 b3 hB hp
    gi_wp2_with fail
    obtain ⟨k1, k2, k3, k4, k5⟩ := Wn.x3_set (.int .i64 (bg : Nat)) (.bool true) (.int .i64 0) (unhide HX).1 (unhide HX).2.1 (unhide HX).2.2.1 (unhide HX).2.2.2
    exact ⟨k4, ⟨rfl, unhide HLE⟩, by rw [unhide HFS]; exact k1, k2, k3, k5⟩
  case done =>
    rintro D ys W hD hys ⟨hp, b1, b2, b3, hB⟩ hK
    have HT := hide (show Wn.R b l.length = [] by rw [← unhide HLN, ← hys, hp]; rfl)
    have c1 := b1.cell
    have c2 := b2.cell
    have c3 := b3.cell
    have f1 := b1.frozen
    have f2 := b2.frozen
    have f3 := b3.frozen
    have HX := hide (And.intro b1 (And.intro b2 (And.intro b3 hB)))
    clear b1 b2 b3 hB hp hys
    gi_wp2
    obtain ⟨k1, k2, k3, k4, k5⟩ := Wn.x3_set (.int .i64 0) (.bool false) (.int .i64 0) (unhide HX).1 (unhide HX).2.1 (unhide HX).2.2.1 (unhide HX).2.2.2
    have hK' := k4.same D _ hK rfl
    refine ⟨by simp, .inl ⟨_, _, rfl, run_takeDeferred hK', ?_⟩⟩
    have e1 := cell_kept k1.cell (grownBy_putObj' _ D (.deferred none)) (fun r e => by cases e; exact ⟨_, hK', rfl⟩)
    have e2 := cell_kept k2.cell (grownBy_putObj' _ D (.deferred none)) (fun r e => by cases e; exact ⟨_, hK', rfl⟩)
    have e3 := cell_kept k3.cell (grownBy_putObj' _ D (.deferred none)) (fun r e => by cases e; exact ⟨_, hK', rfl⟩)
    refine ⟨.tuple #[.int .i64 0, .bool false, .int .i64 0], ?_, by rw [unhide HT]; rfl, k5.trans (belowK_b (w := w) (Nat.le_refl _) _ D _ _ (by have := (unhide HB2).size; omega) hK' rfl rfl)⟩
    simp [results, Try.results6, go_sem, e1, e2, e3]
  case stop =>
    rintro D c pre W hD ⟨rest, hrest⟩ ⟨⟨rfl, hp⟩, b1, b2, b3, hB⟩ hK
    have HT := hide (show Wn.fst (pre.map Subtype.val) = Wn.fst (Wn.R b l.length) ∧ 0 < (Wn.R b l.length).length by
      rw [← unhide HLN, hrest]
      match pre, hp with
      | [p], _ => exact ⟨rfl, by simp⟩)
    have c1 := b1.cell
    have c2 := b2.cell
    have c3 := b3.cell
    have HX := hide hB
    have e1 := cell_kept c1 (grownBy_putObj' _ D (.deferred none)) (fun r e => by cases e; exact ⟨_, hK, rfl⟩)
    have e2 := cell_kept c2 (grownBy_putObj' _ D (.deferred none)) (fun r e => by cases e; exact ⟨_, hK, rfl⟩)
    have e3 := cell_kept c3 (grownBy_putObj' _ D (.deferred none)) (fun r e => by cases e; exact ⟨_, hK, rfl⟩)
    have E := hide (And.intro e1 (And.intro e2 e3))
    clear hrest hp hB c1 c2 c3 e1 e2 e3 b1 b2 b3
    gi_wp2
    refine ⟨by simp, .inl ⟨_, _, rfl, run_takeDeferred hK, ?_⟩⟩
    obtain ⟨e1, e2, e3⟩ := unhide E
    refine ⟨.tuple #[.int .i64 (Wn.fst (pre.map Subtype.val)), .bool true, .int .i64 0], ?_, by rw [(unhide HT).1, decide_eq_true (unhide HT).2], (unhide HX).trans (belowK_b (w := w) (Nat.le_refl _) _ D _ _ (by have := (unhide HB2).size; omega) hK rfl rfl)⟩
    simp [results, Try.results6, go_sem, e1, e2, e3]

set_option maxHeartbeats 400000 in
theorem Times_err (n : Nat) (e : Qk.E) (x : Qk.AT n) (len : Nat) (ad : Option Addr) (cap : Nat) (f t : Int) (w : World) (h : Qk.RA w n e x) (hf : len ≤ 35184372088832) (h0 : Qk.hErr n x len ≠ 0) :
    Calls Try.prog 5 #[e.val, .slice ad len cap, .int .i64 f, .int .i64 t] w fun r w' => r = .returned (.tuple #[.slice none 0 0, .int .i64 (Qk.hErr n x len : Nat)]) ∧ Below w.heap.size w w' := by
  have HH := hide (fun (W : World) (h : Qk.RA W n e x) => Holds_err n e x len ad cap W h hf h0)
  have HA := hide h
  generalize Qk.hErr n x len = C at *
  have g0 : ((C : Int) != 0) = true := by simpa using h0
  clear h h0
  unfold Qk.E.val at HH ⊢
  go_enter Try.func5, Try.ntmps5
  go_wp2_with fail
  refine ((unhide HH) _ ?_).mono ?_
  · exact (((unhide HA).alloc _).alloc _).alloc _
  rintro r w1 ⟨rfl, hb1⟩
  have HB1 := hide (((((Below.refl w.heap.size w).alloc (Nat.le_refl _) _).alloc (by simp) _).alloc (by simp; omega) _).trans (hb1.mono (by simp; omega)))
  clear hb1
  go_wp2_with fail
  go_ret2
  exact ⟨rfl, unhide HB1⟩

set_option maxHeartbeats 400000 in
theorem Spans_err (n : Nat) (e : Qk.E) (x : Qk.AT n) (len : Nat) (ad : Option Addr) (cap : Nat) (w : World) (h : Qk.RA w n e x) (hf : len ≤ 35184372088832) (h0 : Qk.hErr n x len ≠ 0) :
    Calls Try.prog 7 #[e.val, .slice ad len cap] w fun r w' => r = .returned (.tuple #[.slice none 0 0, .int .i64 (Qk.hErr n x len : Nat)]) ∧ Below w.heap.size w w' := by
  have HH := hide (fun (W : World) (h : Qk.RA W n e x) => Holds_err n e x len ad cap W h hf h0)
  have HA := hide h
  generalize Qk.hErr n x len = C at *
  have g0 : ((C : Int) != 0) = true := by simpa using h0
  clear h h0
  unfold Qk.E.val at HH ⊢
  go_enter Try.func7, Try.ntmps7
  go_wp2_with fail
  refine ((unhide HH) _ ?_).mono ?_
  · exact (unhide HA).alloc _
  rintro r w1 ⟨rfl, hb1⟩
  have HB1 := hide (below_two hb1)
  clear hb1
  go_wp2_with fail
  go_ret2
  exact ⟨rfl, unhide HB1⟩

set_option maxHeartbeats 400000 in
theorem First_err (n : Nat) (e : Qk.E) (x : Qk.AT n) (len : Nat) (ad : Option Addr) (cap : Nat) (w : World) (h : Qk.RA w n e x) (hf : len ≤ 35184372088832) (h0 : Qk.hErr n x len ≠ 0) :
    Calls Try.prog 6 #[e.val, .slice ad len cap] w fun r w' => r = .returned (.tuple #[.int .i64 0, .bool false, .int .i64 (Qk.hErr n x len : Nat)]) ∧ Below w.heap.size w w' := by
  have HH := hide (fun (W : World) (h : Qk.RA W n e x) => Holds_err n e x len ad cap W h hf h0)
  have HA := hide h
  generalize Qk.hErr n x len = C at *
  have g0 : ((C : Int) != 0) = true := by simpa using h0
  clear h h0
  unfold Qk.E.val at HH ⊢
  go_enter Try.func6, Try.ntmps6
  go_wp2_with fail
  refine ((unhide HH) _ ?_).mono ?_
  · exact ((((unhide HA).alloc _).alloc _).alloc _).alloc _
  rintro r w1 ⟨rfl, hb1⟩
  obtain ⟨x1, x2, x3⟩ := Wn.x3_new w (.cells #[.int .i64 e.k, .int .i64 e.n, .slice e.args.ad e.args.len e.args.cap] 24)
  have b1 : Boxed w1 (w.heap.size + 1) 3 (.int .i64 0) := Eq.trans (hb1.block _ (by simp)) x1
  have b2 : Boxed w1 (w.heap.size + 2) 4 (.bool false) := Eq.trans (hb1.block _ (by simp)) x2
  have b3 : Boxed w1 (w.heap.size + 3) 27 (.int .i64 0) := Eq.trans (hb1.block _ (by simp)) x3
  have d1 := b1.cell
  have d2 := b2.cell
  have d3 := b3.cell
  have f1 := b1.frozen
  have f2 := b2.frozen
  have f3 := b3.frozen
  have HB1 := hide ((((((Below.refl w.heap.size w).alloc (Nat.le_refl _) _).alloc (by simp) _).alloc (by simp; omega) _).alloc (by simp; omega) _).trans (hb1.mono (by simp; omega)))
  have HX := hide (Wn.x3_set (.int .i64 0) (.bool false) (.int .i64 (C : Nat)) b1 b2 b3 (unhide HB1))
  clear hb1 x1 x2 x3 b1 b2 b3
  go_wp2_with fail
  obtain ⟨k1, k2, k3, k4, k5⟩ := unhide HX
  refine bodyPost_ret (v := .tuple #[.int .i64 0, .bool false, .int .i64 (C : Nat)]) (by simp [results, Try.results6, go_sem, k1.cell, k2.cell, k3.cell]) rfl ?_
  exact ⟨rfl, k5⟩

end Go.Proofs.Ytkonaaldbeecoaa
