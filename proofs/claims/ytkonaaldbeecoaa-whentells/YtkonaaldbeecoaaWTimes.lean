/-
  Contracts of Times, First and Spans of package when. By the verifier.
-/
import Derived.Test.YtkonaaldbeecoaaWIter
import Derived.Test.YtkonaaldbeecoaaQHolds
namespace Go.Proofs.Ytkonaaldbeecoaa
open Go.RowKit Go.Shelf
attribute [local go_sem] Oper.semAt_some
set_option linter.unusedVariables false

/-- 'out = append(out, ..)' where the box lies below n₀ and the row does not. -/
theorem Wn.appended {W w1 : World} {n₀ B : Nat} {t e : TypeId} {size : Nat} {v v' : Value} {k m : Nat} {xs ys : List Value} {tmp : Obj}
    (hv : Boxed W B t v) (hte : t ≠ e) (hrow : W.ownsRow n₀ e size v k xs) (hn₀ : n₀ ≤ W.heap.size) (hown' : w1.ownsRow n₀ e size v' m ys) (hgrow : (W.alloc tmp).grownBy w1 v.ownBlock) :
    Boxed w1 B t v ∧ Boxed (w1.setCell ⟨B, 0, none⟩ v') B t v' ∧ (w1.setCell ⟨B, 0, none⟩ v').ownsRow n₀ e size v' m ys ∧ KeepsOthers W (w1.setCell ⟨B, 0, none⟩ v') ∧ Qk.But1 B n₀ W (w1.setCell ⟨B, 0, none⟩ v') := by
  have hv1 : Boxed w1 B t v := (hv.alloc tmp).kept hgrow (hv.not_row hte hrow)
  refine ⟨hv1, hv1.set v', hown'.kept (grownBy_setCell' w1 B v') (.inr (hv1.not_row hte hown').symm), ?_, ?_⟩
  · refine ((KeepsOthers.alloc W tmp).trans (KeepsOthers.of_grownBy hgrow fun j o ej hj => ?_)).trans (KeepsOthers.setCell _ _ _)
    rcases (hrow.alloc tmp).2 with ⟨rfl, _⟩ | ⟨g, cap, cur, rfl, _, hgb, _⟩
    · simp [Value.ownBlock] at ej
    · obtain rfl : g = j := by simpa [Value.ownBlock] using ej
      rw [hgb] at hj; cases hj; rfl
  · have hb := ((Below.refl n₀ W).alloc hn₀ tmp).grown hgrow (by simp; omega) fun j ej => by
      rcases hrow.2 with ⟨rfl, _⟩ | ⟨g, cap, cur, rfl, hb, _, _⟩
      · simp [Value.ownBlock] at ej
      · obtain rfl : g = j := by simpa [Value.ownBlock] using ej
        exact hb
    exact ((Qk.But1.refl B n₀ W).below hb).set _
theorem Wn.own_but {β : Type} {p n₀ B : Nat} {w₀ : World} (hn : n₀ ≤ w₀.heap.size) (hB : n₀ ≤ B) : OwnFrom B (fun (_ : β) W => Qk.But1 p n₀ w₀ W) :=
  fun _ X Y row hs hg hr => ⟨hg.os.trans hs.os, hg.tape.trans hs.tape, hg.output.trans hs.output, Nat.le_trans hs.size hg.size, fun q h1 h2 => (hg.block q (by have := hs.size; omega) (fun e => by have := (hr q e.symm).1; omega)).trans (hs.block q h1 h2)⟩
theorem Wn.but_below {p n₀ m : Nat} {W W' : World} (h : Qk.But1 p n₀ W W') (hp : m ≤ p) (hn : m ≤ n₀) : Below m W W' := ⟨h.os, h.tape, h.output, h.size, fun q hq => h.block q (by omega) (by omega)⟩

theorem Wn.row_base {W : World} {B B' : Nat} {e : TypeId} {size : Nat} {v : Value} {k : Nat} {xs : List Value} (h : W.ownsRow B e size v k xs) (hb : B' ≤ B) : W.ownsRow B' e size v k xs := by
  refine ⟨h.1, ?_⟩
  rcases h.2 with h | ⟨g, cap, cur, h1, h2, h3⟩
  · exact Or.inl h
  · exact Or.inr ⟨g, cap, cur, h1, by omega, h3⟩

theorem Wn.cuts_length (f t : Int) : ∀ (l : List Wn.P), (Wn.cuts f t (l.map Subtype.val)).length ≤ 4000 * l.length
  | [] => by simp [Wn.cuts]
  | x :: r => by
    have ih := Wn.cuts_length f t r
    have h1 := Wn.cut_length f t x.1
    have h2 := x.2.2
    simp only [Wn.cuts, List.map_cons, List.flatMap_cons, List.length_append, List.length_cons] at ih ⊢
    omega

set_option maxRecDepth 100000 in
set_option maxHeartbeats 2000000 in
theorem Times_ok (n : Nat) (e : Qk.E) (x : Qk.AT n) (l : List Ev) (ad : Option Addr) (cap : Nat) (f t : Int) (w : World) (h : Qk.RA w n e x) (hr : Cl.RE w ad l) (hw : ∀ e ∈ l, e.wf) (h0 : Qk.hErr n x l.length = 0) :
    Calls Try.prog 5 #[e.val, .slice ad l.length cap, .int .i64 f, .int .i64 t] w fun r w' => ∃ v, r = .returned (.tuple #[v, .int .i64 0]) ∧ w'.ownsRow w.heap.size 3 1 v (Wn.T (Qk.marks n x l) f t l.length).length ((Wn.T (Qk.marks n x l) f t l.length).map (Value.int .i64)) ∧ Below w.heap.size w w' := by
  have hl := (Qk.hErr_ok h0).2
  have HH := hide (fun (W : World) (h : Qk.RA W n e x) (h1 : Cl.RE W ad l) => Holds_ok n e x l ad cap W h h1 hw h0)
  obtain ⟨WB, hWB⟩ : ∃ WB, WB = ((w.alloc (.cells #[.int .i64 e.k, .int .i64 e.n, .slice e.args.ad e.args.len e.args.cap] 24)).alloc (.cells #[.int .i64 f] 3)).alloc (.cells #[.int .i64 t] 3) := ⟨_, rfl⟩
  have hBB : Below w.heap.size w WB := by rw [hWB]; exact (((Below.refl _ _).alloc (Nat.le_refl _) _).alloc (by simp) _).alloc (by simp; omega) _
  have hsB : WB.heap.size = w.heap.size + 3 := by rw [hWB]; simp
  have HA := hide (h.later hBB (Nat.le_refl _))
  have HR := hide (hr.later hBB (Nat.le_refl _))
  have HF1 := hide (show WB.cell? ⟨w.heap.size + 1, 0, none⟩ = some (.int .i64 f) by rw [hWB]; go_simp)
  have HF2 := hide (show WB.cell? ⟨w.heap.size + 2, 0, none⟩ = some (.int .i64 t) by rw [hWB]; go_simp)
  have HBB := hide hBB
  obtain ⟨i0, hi, hz0, hz1, hz2⟩ := info_parts Try.info3
  have HI := hide hi
  have HZ0 := hide hz0
  have HZ1 := hide hz1
  have HZ2 := hide hz2
  clear h hr hw h0 hi hz0 hz1 hz2 hBB
  generalize Qk.marks n x l = b at *
  unfold Qk.E.val at HH ⊢
  refine (callsIn_wide (n := 3)).1 ?_
  refine callsIn_of_wp_marks Try.func5 rfl trivial ?_ rfl
  simp only [Try.ntmps5, List.size_toArray, List.length_cons, List.length_nil, Nat.reduceAdd, Nat.reduceSub, Array.replicate_succ, Array.replicate_zero, List.push_toArray, List.append_toArray, List.nil_append, List.cons_append]
  gi_wp2_with fail
  rw [← hWB]
  refine ⟨trivial, (callsIn_wide.2 ((unhide HH) _ (unhide HA) (unhide HR))).mono ?_⟩
  rintro r w1 ⟨g, rfl, hg, hrow, hln, hb1⟩
  have hz1 := hb1.size
  have HC1 := hide (show w1.cell? ⟨w.heap.size + 1, 0, none⟩ = some (.int .i64 f) ∧ w1.cell? ⟨w.heap.size + 2, 0, none⟩ = some (.int .i64 t) from ⟨(hb1.cell (p := ⟨w.heap.size + 1, 0, none⟩) (by show w.heap.size + 1 < _; omega)).trans (unhide HF1), (hb1.cell (p := ⟨w.heap.size + 2, 0, none⟩) (by show w.heap.size + 2 < _; omega)).trans (unhide HF2)⟩)
  have HB1 := hide ((unhide HBB).trans (hb1.mono (unhide HBB).size))
  have HROW := hide hrow
  have HLN := hide hln
  have hglt := hrow.lt
  clear hrow hln hb1 hWB
  gi_wp2_with fail
  refine ⟨trivial, (callsIn_wide.2 (spansOf_any _ _ _ _)).mono ?_⟩
  rintro r w2 ⟨rfl, rfl⟩
  obtain ⟨W2, hW2⟩ : ∃ W2, W2 = (w1.alloc (.cells #[.slice none 0 0] 26)).alloc (.cells #[.slice (some ⟨g, 0, none⟩) l.length l.length] 36) := ⟨_, rfl⟩
  have hsz2 : w1.heap.size + 2 ≤ W2.heap.size := by rw [hW2]; simp
  have hb2 : Below w1.heap.size w1 W2 := by rw [hW2]; exact ((Below.refl _ _).alloc (Nat.le_refl _) _).alloc (by simp) _
  have HBX := hide (show Boxed W2 w1.heap.size 26 (.slice none 0 0) by rw [hW2]; exact (Boxed.new w1 _ _).alloc _)
  have HST := hide (spans_stops 2 (by omega) (w1.heap.size + 1) W2.heap.size w1.heap.size g l.length b W2 (Nat.le_refl _) (by rw [hW2, unhide HLN]; go_simp) ((unhide HROW).kept (hb2.block g hglt)) (by rw [unhide HLN]; exact hl) (by omega) (by omega) (by omega) (by omega))
  have HC2 := hide (show W2.cell? ⟨w.heap.size + 1, 0, none⟩ = some (.int .i64 f) ∧ W2.cell? ⟨w.heap.size + 2, 0, none⟩ = some (.int .i64 t) from ⟨(hb2.cell (p := ⟨w.heap.size + 1, 0, none⟩) (by show w.heap.size + 1 < _; omega)).trans (unhide HC1).1, (hb2.cell (p := ⟨w.heap.size + 2, 0, none⟩) (by show w.heap.size + 2 < _; omega)).trans (unhide HC1).2⟩)
  have HB2 := hide ((unhide HB1).trans (hb2.mono (unhide HB1).size))
  clear hb2
  gi_wp2_with fail
  rw [← hW2]
  clear hW2
  refine wpIn_rangeFunc_ownF rfl (by omega) (gf := 22) (lb := #[.pointer (some ⟨w1.heap.size + 1, 0, none⟩)]) rfl trivial Try.call22
    (unhide HST) Wn.but_t (Wn.but_b (Nat.le_refl _)) (Below.refl _ _) (fun _ => rfl)
    (fun pre W => (∃ v, Boxed W w1.heap.size 26 v ∧ W.ownsRow W2.heap.size 3 1 v (Wn.cuts f t (pre.map Subtype.val)).length ((Wn.cuts f t (pre.map Subtype.val)).map (Value.int .i64)) ∧ True) ∧ Qk.But1 w1.heap.size W2.heap.size W2 W)
    (fun _ _ _ => False)
    (OwnFrom.and (Own.from (holdsRow_own W2.heap.size w1.heap.size 26 3 1 (fun (pre : List Wn.P) => (Wn.cuts f t (pre.map Subtype.val)).length) (fun pre => (Wn.cuts f t (pre.map Subtype.val)).map (Value.int .i64)) (fun _ _ => True)) _) (Wn.own_but (Nat.le_refl _) (Nat.le_refl _)))
    (fun _ _ _ _ _ hs _ _ => hs)
    ⟨⟨_, unhide HBX, World.ownsRow_nil _ _ _ _, trivial⟩, Qk.But1.refl _ _ _⟩
    (fun x => { tmps := #[.agg #[.int .i64 e.k, .int .i64 e.n, .slice e.args.ad e.args.len e.args.cap], .slice ad l.length cap, .int .i64 f, .int .i64 t, .pointer (some ⟨w.heap.size, 0, none⟩), undef, .pointer (some ⟨w.heap.size + 1, 0, none⟩), .pointer (some ⟨w.heap.size + 1 + 1, 0, none⟩), .slice none 0 0, .int .i64 0, .slice (some ⟨g, 0, none⟩) l.length l.length, .int .i64 0, .pointer (some ⟨w1.heap.size, 0, none⟩), .int .i64 (x.1.1 : Nat), .int .i64 (x.1.2 : Nat), undef, .tuple #[.slice (some ⟨g, 0, none⟩) l.length l.length, .int .i64 0], .agg #[.int .i64 e.k, .int .i64 e.n, .slice e.args.ad e.args.len e.args.cap], .slice ad l.length cap, .tuple #[.slice (some ⟨g, 0, none⟩) l.length l.length, .int .i64 0], .slice (some ⟨g, 0, none⟩) l.length l.length, .int .i64 0, .int .i64 0, .bool false, undef, .slice (some ⟨g, 0, none⟩) l.length l.length, .func (.func 22) #[] #[.pointer (some ⟨w1.heap.size + 1, 0, none⟩)], .int .i64 (x.1.1 : Nat), .int .i64 (x.1.2 : Nat), undef, undef, undef, undef, undef, undef, undef, undef, undef, undef, undef, undef, undef, undef, undef], defers := [] }) ?assign ?body ?done ?stop
  case assign =>
    intro l x W K hK
    unfold Wn.enc
    gi_wp2
    exact hK
  case body =>
    rintro l pre ⟨⟨bg, en⟩, hx1, hx2⟩ W ⟨⟨v, hv, hrow, _⟩, hbut⟩ hlen
    have c0 := hv.cell
    have c1 := (hbut.cell (o := 0) (show w.heap.size + 1 < W2.heap.size by omega) (by omega)).trans (unhide HC2).1
    have c2 := (hbut.cell (o := 0) (show w.heap.size + 2 < W2.heap.size by omega) (by omega)).trans (unhide HC2).2
    have hcl := Wn.cuts_length f t pre
    obtain ⟨cp, hcp⟩ : ∃ cp, cp = Wn.cuts f t (pre.map Subtype.val) := ⟨_, rfl⟩
    rw [← hcp] at hrow hcl
    have HCP := hide hcp
    have HBUT := hide hbut
    have HROWV := hide hrow
    have hz8 := hbut.size
    simp only at hx1 hx2
    clear hrow hcp hbut
    by_cases hm : ((bg : Nat) : Int) < f
    · have HLO := hide (show max ((bg : Nat) : Int) f = f by omega)
      gi_wp2_with fail
      gi_loopw [15] (fun tv wr => ∃ (τ : Int) (v : Value), f ≤ τ ∧ τ ≤ max (f) (min ((en : Nat) : Int) t) ∧ tv = .int .i64 τ ∧ Boxed wr w1.heap.size 26 v ∧ wr.ownsRow W2.heap.size 3 1 v (cp ++ Wn.upTo (f) τ).length ((cp ++ Wn.upTo (f) τ).map (Value.int .i64)) ∧ KeepsOthers W wr ∧ Qk.But1 w1.heap.size W2.heap.size W wr) (fun tv _ => (max (f) (min ((en : Nat) : Int) t) - intOf tv).toNat)
      case atStart => exact ⟨f, v, by omega, by omega, rfl, hv, by rw [Wn.upTo_nil (Int.le_refl _), List.append_nil]; exact unhide HROWV, KeepsOthers.refl _, Qk.But1.refl _ _ _⟩
      case round =>
        obtain ⟨τ, v, h1, h2, rfl, hv, hrow, hko, hbu⟩ := hrel
        have d1 := hv.cell
        have d2 := (hbu.cell (o := 0) (show w.heap.size + 2 < W2.heap.size by omega) (by omega)).trans c2
        have hz9 := hbu.size
        have hul : (Wn.upTo (f) τ).length ≤ 4000 := by rw [Wn.upTo_length]; omega
        obtain ⟨zs, hzs⟩ : ∃ zs, zs = cp ++ Wn.upTo (f) τ := ⟨_, rfl⟩
        have hzl : zs.length ≤ 4000 * pre.length + 4000 := by rw [hzs, List.length_append]; omega
        rw [← hzs] at hrow
        have HZS := hide hzs
        clear hzs hul
        have HV := hide hv
        have HRW := hide hrow
        have HKO := hide hko
        have HBU := hide hbu
        clear hrow hko hbu
        by_cases hlt : τ < min ((en : Nat) : Int) t
        · have HUP := hide (Wn.upTo_snoc (lo := f) (hi := τ) (by omega))
          by_cases hte : t < ((en : Nat) : Int)
          · have hk : τ < t := by omega
            have tok1 : True := trivial
            gi_wp2_with (gi_at_builtin; have _t := tok1; clear tok1 _t; refine wpListIn_append_own _ rfl _ _ 26 rfl W2.heap.size 3 i0 (.int .i64 0) 1 8 Try.underlying26 (unhide HI) (unhide HZ0) (unhide HZ1) (unhide HZ2) rfl (by decide) _ _ _ rfl ((unhide HRW).alloc _) ⟨wr.heap.size, 0, none⟩ 1 1 [.int .i64 τ] rfl rfl (cell_one_new _ _ _) (by simp [Value.oneCell']) (by unfold maxLen; omega) (by omega) (by simp; omega) ?_; intro v' w3 hown' hgrow _; obtain ⟨g', cap', rfl⟩ := ownsRow_succ hown'; obtain ⟨hv1, hv2, hr2, hk2, hb2⟩ := Wn.appended (unhide HV) (by decide) (unhide HRW) (by omega) hown' hgrow; have hc1 := hv1.cell; have hf1 := hv1.frozen; have HV2 := hide hv2; have HR2 := hide hr2; have HK2 := hide hk2; have HB2 := hide hb2; clear hv1 hv2 hr2 hk2 hb2 hown' hgrow)
            go_roundw
            case rel => exact ⟨τ + 1, _, by omega, by omega, by go_num, unhide HV2, by rw [unhide HUP, ← List.append_assoc, ← unhide HZS, List.length_append, List.map_append]; exact unhide HR2, (unhide HKO).trans (unhide HK2), (unhide HBU).trans (unhide HB2)⟩
            case measure => simp [intOf]; omega
          · have hk : τ < ((en : Nat) : Int) := by omega
            have tok1 : True := trivial
            gi_wp2_with (gi_at_builtin; have _t := tok1; clear tok1 _t; refine wpListIn_append_own _ rfl _ _ 26 rfl W2.heap.size 3 i0 (.int .i64 0) 1 8 Try.underlying26 (unhide HI) (unhide HZ0) (unhide HZ1) (unhide HZ2) rfl (by decide) _ _ _ rfl ((unhide HRW).alloc _) ⟨wr.heap.size, 0, none⟩ 1 1 [.int .i64 τ] rfl rfl (cell_one_new _ _ _) (by simp [Value.oneCell']) (by unfold maxLen; omega) (by omega) (by simp; omega) ?_; intro v' w3 hown' hgrow _; obtain ⟨g', cap', rfl⟩ := ownsRow_succ hown'; obtain ⟨hv1, hv2, hr2, hk2, hb2⟩ := Wn.appended (unhide HV) (by decide) (unhide HRW) (by omega) hown' hgrow; have hc1 := hv1.cell; have hf1 := hv1.frozen; have HV2 := hide hv2; have HR2 := hide hr2; have HK2 := hide hk2; have HB2 := hide hb2; clear hv1 hv2 hr2 hk2 hb2 hown' hgrow)
            go_roundw
            case rel => exact ⟨τ + 1, _, by omega, by omega, by go_num, unhide HV2, by rw [unhide HUP, ← List.append_assoc, ← unhide HZS, List.length_append, List.map_append]; exact unhide HR2, (unhide HKO).trans (unhide HK2), (unhide HBU).trans (unhide HB2)⟩
            case measure => simp [intOf]; omega
        · have HCT := hide (show zs = Wn.cuts f t ((pre ++ [(⟨(bg, en), hx1, hx2⟩ : Wn.P)]).map Subtype.val) by
            rw [unhide HZS, List.map_append, List.map_cons, List.map_nil, Wn.cuts_snoc, ← unhide HCP]
            congr 1
            unfold Wn.cut
            show Wn.upTo (f) τ = Wn.upTo (max ((bg : Nat) : Int) f) (min ((en : Nat) : Int) t)
            rw [unhide HLO]
            rcases Int.lt_or_le (min ((en : Nat) : Int) t) (f) with h | h
            · rw [Wn.upTo_nil (by omega), Wn.upTo_nil (by omega)]
            · rw [show τ = min ((en : Nat) : Int) t by omega])
          by_cases hte : t < ((en : Nat) : Int)
          · have hk : ¬ τ < t := by omega
            gi_wp2_with fail
            exact ⟨unhide HKO, unhide HBU, ⟨v, unhide HV, by rw [← unhide HCT]; exact unhide HRW⟩, (unhide HBUT).trans (unhide HBU)⟩
          · have hk : ¬ τ < ((en : Nat) : Int) := by omega
            gi_wp2_with fail
            exact ⟨unhide HKO, unhide HBU, ⟨v, unhide HV, by rw [← unhide HCT]; exact unhide HRW⟩, (unhide HBUT).trans (unhide HBU)⟩
    · have HLO := hide (show max ((bg : Nat) : Int) f = ((bg : Nat) : Int) by omega)
      gi_wp2_with fail
      gi_loopw [15] (fun tv wr => ∃ (τ : Int) (v : Value), ((bg : Nat) : Int) ≤ τ ∧ τ ≤ max (((bg : Nat) : Int)) (min ((en : Nat) : Int) t) ∧ tv = .int .i64 τ ∧ Boxed wr w1.heap.size 26 v ∧ wr.ownsRow W2.heap.size 3 1 v (cp ++ Wn.upTo (((bg : Nat) : Int)) τ).length ((cp ++ Wn.upTo (((bg : Nat) : Int)) τ).map (Value.int .i64)) ∧ KeepsOthers W wr ∧ Qk.But1 w1.heap.size W2.heap.size W wr) (fun tv _ => (max (((bg : Nat) : Int)) (min ((en : Nat) : Int) t) - intOf tv).toNat)
      case atStart => exact ⟨((bg : Nat) : Int), v, by omega, by omega, rfl, hv, by rw [Wn.upTo_nil (Int.le_refl _), List.append_nil]; exact unhide HROWV, KeepsOthers.refl _, Qk.But1.refl _ _ _⟩
      case round =>
        obtain ⟨τ, v, h1, h2, rfl, hv, hrow, hko, hbu⟩ := hrel
        have d1 := hv.cell
        have d2 := (hbu.cell (o := 0) (show w.heap.size + 2 < W2.heap.size by omega) (by omega)).trans c2
        have hz9 := hbu.size
        have hul : (Wn.upTo (((bg : Nat) : Int)) τ).length ≤ 4000 := by rw [Wn.upTo_length]; omega
        obtain ⟨zs, hzs⟩ : ∃ zs, zs = cp ++ Wn.upTo (((bg : Nat) : Int)) τ := ⟨_, rfl⟩
        have hzl : zs.length ≤ 4000 * pre.length + 4000 := by rw [hzs, List.length_append]; omega
        rw [← hzs] at hrow
        have HZS := hide hzs
        clear hzs hul
        have HV := hide hv
        have HRW := hide hrow
        have HKO := hide hko
        have HBU := hide hbu
        clear hrow hko hbu
        by_cases hlt : τ < min ((en : Nat) : Int) t
        · have HUP := hide (Wn.upTo_snoc (lo := ((bg : Nat) : Int)) (hi := τ) (by omega))
          by_cases hte : t < ((en : Nat) : Int)
          · have hk : τ < t := by omega
            have tok1 : True := trivial
            gi_wp2_with (gi_at_builtin; have _t := tok1; clear tok1 _t; refine wpListIn_append_own _ rfl _ _ 26 rfl W2.heap.size 3 i0 (.int .i64 0) 1 8 Try.underlying26 (unhide HI) (unhide HZ0) (unhide HZ1) (unhide HZ2) rfl (by decide) _ _ _ rfl ((unhide HRW).alloc _) ⟨wr.heap.size, 0, none⟩ 1 1 [.int .i64 τ] rfl rfl (cell_one_new _ _ _) (by simp [Value.oneCell']) (by unfold maxLen; omega) (by omega) (by simp; omega) ?_; intro v' w3 hown' hgrow _; obtain ⟨g', cap', rfl⟩ := ownsRow_succ hown'; obtain ⟨hv1, hv2, hr2, hk2, hb2⟩ := Wn.appended (unhide HV) (by decide) (unhide HRW) (by omega) hown' hgrow; have hc1 := hv1.cell; have hf1 := hv1.frozen; have HV2 := hide hv2; have HR2 := hide hr2; have HK2 := hide hk2; have HB2 := hide hb2; clear hv1 hv2 hr2 hk2 hb2 hown' hgrow)
            go_roundw
            case rel => exact ⟨τ + 1, _, by omega, by omega, by go_num, unhide HV2, by rw [unhide HUP, ← List.append_assoc, ← unhide HZS, List.length_append, List.map_append]; exact unhide HR2, (unhide HKO).trans (unhide HK2), (unhide HBU).trans (unhide HB2)⟩
            case measure => simp [intOf]; omega
          · have hk : τ < ((en : Nat) : Int) := by omega
            have tok1 : True := trivial
            gi_wp2_with (gi_at_builtin; have _t := tok1; clear tok1 _t; refine wpListIn_append_own _ rfl _ _ 26 rfl W2.heap.size 3 i0 (.int .i64 0) 1 8 Try.underlying26 (unhide HI) (unhide HZ0) (unhide HZ1) (unhide HZ2) rfl (by decide) _ _ _ rfl ((unhide HRW).alloc _) ⟨wr.heap.size, 0, none⟩ 1 1 [.int .i64 τ] rfl rfl (cell_one_new _ _ _) (by simp [Value.oneCell']) (by unfold maxLen; omega) (by omega) (by simp; omega) ?_; intro v' w3 hown' hgrow _; obtain ⟨g', cap', rfl⟩ := ownsRow_succ hown'; obtain ⟨hv1, hv2, hr2, hk2, hb2⟩ := Wn.appended (unhide HV) (by decide) (unhide HRW) (by omega) hown' hgrow; have hc1 := hv1.cell; have hf1 := hv1.frozen; have HV2 := hide hv2; have HR2 := hide hr2; have HK2 := hide hk2; have HB2 := hide hb2; clear hv1 hv2 hr2 hk2 hb2 hown' hgrow)
            go_roundw
            case rel => exact ⟨τ + 1, _, by omega, by omega, by go_num, unhide HV2, by rw [unhide HUP, ← List.append_assoc, ← unhide HZS, List.length_append, List.map_append]; exact unhide HR2, (unhide HKO).trans (unhide HK2), (unhide HBU).trans (unhide HB2)⟩
            case measure => simp [intOf]; omega
        · have HCT := hide (show zs = Wn.cuts f t ((pre ++ [(⟨(bg, en), hx1, hx2⟩ : Wn.P)]).map Subtype.val) by
            rw [unhide HZS, List.map_append, List.map_cons, List.map_nil, Wn.cuts_snoc, ← unhide HCP]
            congr 1
            unfold Wn.cut
            show Wn.upTo (((bg : Nat) : Int)) τ = Wn.upTo (max ((bg : Nat) : Int) f) (min ((en : Nat) : Int) t)
            rw [unhide HLO]
            rcases Int.lt_or_le (min ((en : Nat) : Int) t) (((bg : Nat) : Int)) with h | h
            · rw [Wn.upTo_nil (by omega), Wn.upTo_nil (by omega)]
            · rw [show τ = min ((en : Nat) : Int) t by omega])
          by_cases hte : t < ((en : Nat) : Int)
          · have hk : ¬ τ < t := by omega
            gi_wp2_with fail
            exact ⟨unhide HKO, unhide HBU, ⟨v, unhide HV, by rw [← unhide HCT]; exact unhide HRW⟩, (unhide HBUT).trans (unhide HBU)⟩
          · have hk : ¬ τ < ((en : Nat) : Int) := by omega
            gi_wp2_with fail
            exact ⟨unhide HKO, unhide HBU, ⟨v, unhide HV, by rw [← unhide HCT]; exact unhide HRW⟩, (unhide HBUT).trans (unhide HBU)⟩
  case done =>
    rintro D ys W hD hys ⟨⟨v, hv, hrow, _⟩, hbut⟩ hK
    have hc := hv.cell
    have HT := hide (show Wn.cuts f t (ys.map Subtype.val) = Wn.T b f t l.length by rw [hys, unhide HLN, Wn.cuts_R])
    have HROWV := hide hrow
    have HBUT := hide hbut
    clear hys hrow hbut
    gi_wp2
    refine ⟨by simp, .inl ⟨_, _, rfl, run_takeDeferred hK, ?_⟩⟩
    have hzw := (unhide HB2).size
    refine ⟨.tuple #[v, .int .i64 0], by simp [results, Try.results5, go_sem], v, rfl, ?_, ((unhide HB2).trans (Wn.but_below (unhide HBUT) (by have := (unhide HB1).size; omega) hzw)).trans (belowK_b (w := w) (Nat.le_refl _) W D _ _ (by omega) hK rfl rfl)⟩
    rw [← unhide HT]
    exact Wn.row_base (ownsRow_putObj (unhide HROWV) _ hK rfl) hzw
  case stop =>
    rintro D c pre W _ _ h _
    exact h.elim
end Go.Proofs.Ytkonaaldbeecoaa
