/-
  Several texts in one: XSaF, XAhP, XNum. By the verifier.
-/
import Derived.Test.YtildjlaphkjegaaXAt
import Derived.Test.YtildjlaphkjegaaXSmS
namespace Go.Proofs.Ytildjlaphkjegaa
open Go.RowKit
set_option linter.unusedVariables false

set_option maxRecDepth 100000 in
set_option maxHeartbeats 1600000 in
theorem xSameInts_eq (l : List Int) (s t : Pg.Sl) (w : World) (hr : Pg.RN w s l) (hr2 : Pg.RN w t l) :
    Calls Try.prog 13 #[.slice s.ad s.len s.cap, .slice t.ad t.len t.cap] w fun e w' => e = .returned (.bool true) ∧ Below w.heap.size w w' := by
  obtain ⟨sa, sl, sc⟩ := s
  obtain ⟨ta, tl, tc⟩ := t
  have h1 : sl = l.length := hr.len
  have h2 : tl = l.length := hr2.len
  have hfew := hr.few
  have HR := hide hr
  have HR2 := hide hr2
  have hst : tl = sl := by omega
  have HLN := hide h1
  have hf2 : sl ≤ 35184372088832 := by omega
  subst hst
  clear hr hr2 h1 h2 hfew
  dsimp only
  go_enter Try.func13, Try.ntmps13
  go_wp2_with fail
  go_loopw [5] (fun v wr => ∃ k : Nat, k ≤ tl ∧ v = .int .i64 (k : Nat) ∧ Below w.heap.size w wr) (fun v _ => tl - (intOf v).toNat)
  case atStart => exact ⟨0, by omega, rfl, Below.refl _ _⟩
  case round =>
    obtain ⟨k, hk, rfl, hbe⟩ := hrel
    have HBE := hide hbe
    clear hbe
    by_cases hlt : k < tl
    · have hlt2 : k < l.length := by have := unhide HLN; omega
      have hy := List.getElem?_eq_getElem hlt2
      obtain ⟨b, o, hd1, hb, c0⟩ := ((unhide HR).later (unhide HBE) (Nat.le_refl _)).at_ k _ hy
      obtain ⟨b', o', hd2, hb', d0⟩ := ((unhide HR2).later (unhide HBE) (Nat.le_refl _)).at_ k _ hy
      have hd1' : sa = some ⟨b, o, none⟩ := hd1
      have hd2' : ta = some ⟨b', o', none⟩ := hd2
      subst hd1' hd2'
      generalize l[k] = z at *
      clear hy hd1 hd2 hlt2
      have hk1 : (0 : Int) ≤ (k : Int) := by omega
      have hk2 : (k : Int) < (tl : Int) := by omega
      go_wp2_with fail
      go_quiet (fail)
      go_wp2_with fail
      exact ⟨⟨k + 1, by omega, by go_num, below_drewN (unhide HBE) _⟩, by simp [intOf]; omega⟩
    · have hk2 : ¬ (k : Int) < (tl : Int) := by omega
      go_wp2_with fail
      go_ret
      exact ⟨rfl, unhide HBE⟩

set_option maxRecDepth 100000 in
set_option maxHeartbeats 1600000 in
theorem xSameLists_eq (vs : List (List Int)) (s t : Pg.Sl) (w : World) (hr : Pg.RV w s vs) (hr2 : Pg.RV w t vs) :
    Calls Try.prog 53 #[.slice s.ad s.len s.cap, .slice t.ad t.len t.cap] w fun e w' => e = .returned (.bool true) ∧ Below w.heap.size w w' := by
  obtain ⟨sa, sl, sc⟩ := s
  obtain ⟨ta, tl, tc⟩ := t
  have h1 : sl = vs.length := hr.len
  have h2 : tl = vs.length := hr2.len
  have hfew := hr.few
  have HR := hide hr
  have HR2 := hide hr2
  have hst : tl = sl := by omega
  have HLN := hide h1
  have hf2 : sl ≤ 35184372088832 := by omega
  subst hst
  clear hr hr2 h1 h2 hfew
  dsimp only
  go_enter Try.func53, Try.ntmps53
  go_wp2_with fail
  go_loopw [5] (fun v wr => ∃ k : Nat, k ≤ tl ∧ v = .int .i64 (k : Nat) ∧ Below w.heap.size w wr) (fun v _ => tl - (intOf v).toNat)
  case atStart => exact ⟨0, by omega, rfl, Below.refl _ _⟩
  case round =>
    obtain ⟨k, hk, rfl, hbe⟩ := hrel
    have HBE := hide hbe
    clear hbe
    by_cases hlt : k < tl
    · have hlt2 : k < vs.length := by have := unhide HLN; omega
      have hy := List.getElem?_eq_getElem hlt2
      obtain ⟨b, o, s1, hd1, hb, c0, hn1⟩ := ((unhide HR).later (unhide HBE) (Nat.le_refl _)).at_ k _ hy
      obtain ⟨b', o', t1, hd2, hb', d0, hn2⟩ := ((unhide HR2).later (unhide HBE) (Nat.le_refl _)).at_ k _ hy
      have hd1' : sa = some ⟨b, o, none⟩ := hd1
      have hd2' : ta = some ⟨b', o', none⟩ := hd2
      subst hd1' hd2'
      have HSI := hide (fun (V : World) (hV : Below wr.heap.size wr V) => xSameInts_eq vs[k] s1 t1 V (hn1.later hV (Nat.le_refl _)) (hn2.later hV (Nat.le_refl _)))
      have HKM := hide (show ∀ V : World, Below wr.heap.size wr V → (V.cell? ⟨b, o + k, none⟩ = some (.slice s1.ad s1.len s1.cap) ∧ V.cell? ⟨b', o' + k, none⟩ = some (.slice t1.ad t1.len t1.cap) ∧ Below wr.heap.size wr V) from fun V hV => ⟨(hV.cell (p := ⟨b, o + k, none⟩) hb).trans c0, (hV.cell (p := ⟨b', o' + k, none⟩) hb').trans d0, hV⟩)
      generalize vs[k] = z at *
      clear hy hd1 hd2 hlt2 hn1 hn2
      have hk1 : (0 : Int) ≤ (k : Int) := by omega
      have hk2 : (k : Int) < (tl : Int) := by omega
      go_upto_region 6 with fail
      go_region_held3 (fun V => V.cell? ⟨b, o + k, none⟩ = some (.slice s1.ad s1.len s1.cap) ∧ V.cell? ⟨b', o' + k, none⟩ = some (.slice t1.ad t1.len t1.cap) ∧ Below wr.heap.size wr V)
        (first | assumption | exact (unhide HKM) _ ((Below.refl _ _).drew) | exact (unhide HKM) _ (unhide HB6))
        (first
          | (go_at_call 13; refine ((unhide HSI) _ ?_).mono ?_; exact (Below.refl _ _).drew; rintro r w6 ⟨rfl, hb6⟩; have HB6 := hide (((Below.refl wr.heap.size wr).drew).trans (hb6.mono (Nat.le_refl _))); clear hb6))
      all_goals
        go_wp2_with fail
        exact ⟨⟨k + 1, by omega, by go_num, (unhide HBE).trans ((unhide HB6).mono (unhide HBE).size)⟩, by simp [intOf]; omega⟩
    · have hk2 : ¬ (k : Int) < (tl : Int) := by omega
      go_wp2_with fail
      go_ret
      exact ⟨rfl, unhide HBE⟩

/-- A slice of frames, as it is read. -/
structure Xr.RFr (w : World) (s : Pg.Sl) (st : List Xr.Fr) : Prop where
  len : s.len = st.length
  few : st.length ≤ 35184372088832
  at_ : ∀ i fr, st[i]? = some fr → ∃ (b o : Nat) (t : Pg.Sl), s.ad = some ⟨b, o, none⟩ ∧ b < w.heap.size ∧ w.cell? ⟨b, o + i * 3, none⟩ = some (.int .i64 fr.num) ∧ w.cell? ⟨b, o + i * 3 + 1, none⟩ = some (.int .i64 fr.fn) ∧ w.cell? ⟨b, o + i * 3 + 2, none⟩ = some (.slice t.ad t.len t.cap) ∧ Pg.RV w t fr.vs
theorem Xr.RFr.later {w w' : World} {B : Nat} {s : Pg.Sl} {st : List Xr.Fr} (h : Xr.RFr w s st) (hb : Below B w w') (hB : w.heap.size ≤ B) : Xr.RFr w' s st :=
  ⟨h.len, h.few, fun i fr hi => by
    obtain ⟨b, o, t, h1, h2, h3, h4, h5, h6⟩ := h.at_ i fr hi
    have hz := hb.size
    have hc : ∀ j, w'.cell? ⟨b, j, none⟩ = w.cell? ⟨b, j, none⟩ := fun j => hb.cell (p := ⟨b, j, none⟩) (by show b < B; omega)
    exact ⟨b, o, t, h1, by omega, (hc _).trans h3, (hc _).trans h4, (hc _).trans h5, h6.later hb hB⟩⟩
theorem Xr.Zf.rv {W : World} {lo : Nat} {gv : Option Nat} {vb : List Nat} {c : Nat} {vs : List (List Int)} (h : Xr.Zf W lo gv vb c vs) : Pg.RV W ⟨gv.map fun g => ⟨g, 0, none⟩, vs.length, c⟩ vs := by
  refine ⟨rfl, h.cap, by have := h.few; omega, fun i l hl => ?_⟩
  have hi : i < vb.length := by rw [h.len]; exact (List.getElem?_eq_some_iff.1 hl).1
  obtain ⟨g, c', e1, e2, e3, e4, e5, e6⟩ := h.at_ i vb[i] l (List.getElem?_eq_getElem hi) hl
  have hbl := (h.ge vb[i] (List.mem_append_right _ (List.getElem_mem hi))).2
  exact ⟨g, 0, ⟨some ⟨vb[i], 0, none⟩, l.length, c'⟩, by rw [e1]; rfl, World.block_lt_of_cell? W _ e2, by rw [Nat.zero_add]; exact e2, ⟨rfl, e3, by omega, fun j z hz => ⟨vb[i], 0, rfl, hbl, by rw [Nat.zero_add]; exact e5 j z hz⟩⟩⟩
theorem Xr.frC_at : ∀ (ms : List (Xr.Fr × Xr.Mf)) (i : Nat) (m : Xr.Fr × Xr.Mf) (j : Nat) (v : Value), ms[i]? = some m → (Xr.mC m)[j]? = some v → (Xr.frC ms)[i * 3 + j]? = some v
  | [], i, m, j, v, h, _ => by simp at h
  | e :: r, 0, m, j, v, h, hv => by
    simp at h
    subst h
    show (Xr.mC e ++ Xr.frC r)[0 * 3 + j]? = _
    have hj := (List.getElem?_eq_some_iff.1 hv).1
    rw [Nat.zero_mul, Nat.zero_add, List.getElem?_append_left hj]
    exact hv
  | e :: r, i + 1, m, j, v, h, hv => by
    show (Xr.mC e ++ Xr.frC r)[(i + 1) * 3 + j]? = _
    have e3 : (Xr.mC e).length = 3 := rfl
    rw [List.getElem?_append_right (by rw [e3]; omega), e3, show (i + 1) * 3 + j - 3 = i * 3 + j by omega]
    exact Xr.frC_at r i m j v (by simpa using h) hv
theorem Xr.Sk.rd {W0 W : World} {a : Option Addr} {nf c : Nat} {ms : List (Xr.Fr × Xr.Mf)} (h : Xr.Sk W0 W (.slice a nf c) ms) (hn : ms.length = nf) (hf : nf ≤ 35184372088832) : Xr.RFr W ⟨a, nf, c⟩ (ms.map Prod.fst) := by
  refine ⟨by rw [List.length_map]; exact hn.symm, by rw [List.length_map]; omega, fun i fr hi => ?_⟩
  rw [List.getElem?_map] at hi
  cases hm : ms[i]? with
  | none => rw [hm] at hi; cases hi
  | some m =>
    rw [hm] at hi
    cases hi
    have hlt : i < ms.length := (List.getElem?_eq_some_iff.1 hm).1
    have hrow := h.row
    rw [hn] at hrow
    obtain ⟨g, cc, hform, _, hgl⟩ := hrow.form (by omega)
    have ha : a = some ⟨g, 0, none⟩ := by cases hform; rfl
    subst ha
    have cl : ∀ j v, (Xr.mC m)[j]? = some v → W.cell? ⟨g, 0 + i * 3 + j, none⟩ = some v := fun j v hv => by
      have h1 := hrow.cells (g := g) rfl (i * 3 + j) v (Xr.frC_at ms i m j v hm hv)
      rw [Xr.add_at] at h1
      rw [Nat.zero_add]
      exact h1
    exact ⟨g, 0, ⟨m.2.gv.map fun g => ⟨g, 0, none⟩, m.1.vs.length, m.2.c⟩, rfl, hgl, cl 0 _ rfl, cl 1 _ rfl, cl 2 _ rfl, (h.zf m (List.mem_of_getElem? hm)).rv⟩

set_option maxRecDepth 100000 in
set_option maxHeartbeats 3200000 in
theorem SameFrames_eq (st : List Xr.Fr) (s t : Pg.Sl) (w : World) (hr : Xr.RFr w s st) (hr2 : Xr.RFr w t st) :
    Calls Try.prog 30 #[.slice s.ad s.len s.cap, .slice t.ad t.len t.cap] w fun e w' => e = .returned (.bool true) ∧ Below w.heap.size w w' := by
  obtain ⟨sa, sl, sc⟩ := s
  obtain ⟨ta, tl, tc⟩ := t
  have h1 : sl = st.length := hr.len
  have h2 : tl = st.length := hr2.len
  have hfew := hr.few
  have HR := hide hr
  have HR2 := hide hr2
  have hst : tl = sl := by omega
  have HLN := hide h1
  have hf2 : sl ≤ 35184372088832 := by omega
  subst hst
  clear hr hr2 h1 h2 hfew
  dsimp only
  go_enter Try.func30, Try.ntmps30
  go_wp2_with fail
  go_loopw [5] (fun v wr => ∃ k : Nat, k ≤ tl ∧ v = .int .i64 (k : Nat) ∧ Below w.heap.size w wr) (fun v _ => tl - (intOf v).toNat)
  case atStart => exact ⟨0, by omega, rfl, Below.refl _ _⟩
  case round =>
    obtain ⟨k, hk, rfl, hbe⟩ := hrel
    have HBE := hide hbe
    clear hbe
    by_cases hlt : k < tl
    · have hlt2 : k < st.length := by have := unhide HLN; omega
      have hy := List.getElem?_eq_getElem hlt2
      obtain ⟨b, o, s1, hd1, hb, c0, c1, c2, hn1⟩ := ((unhide HR).later (unhide HBE) (Nat.le_refl _)).at_ k _ hy
      obtain ⟨b', o', t1, hd2, hb', d0, d1, d2, hn2⟩ := ((unhide HR2).later (unhide HBE) (Nat.le_refl _)).at_ k _ hy
      have hd1' : sa = some ⟨b, o, none⟩ := hd1
      have hd2' : ta = some ⟨b', o', none⟩ := hd2
      subst hd1' hd2'
      have HSL := hide (fun (V : World) (hV : Below wr.heap.size wr V) => xSameLists_eq st[k].vs s1 t1 V (hn1.later hV (Nat.le_refl _)) (hn2.later hV (Nat.le_refl _)))
      generalize st[k] = fr at *
      have HKM := hide (show ∀ V : World, Below wr.heap.size wr V → (V.cell? ⟨b, o + k * 3, none⟩ = some (.int .i64 fr.num) ∧ V.cell? ⟨b, o + k * 3 + 1, none⟩ = some (.int .i64 fr.fn) ∧ V.cell? ⟨b, o + k * 3 + 2, none⟩ = some (.slice s1.ad s1.len s1.cap) ∧ V.cell? ⟨b', o' + k * 3, none⟩ = some (.int .i64 fr.num) ∧ V.cell? ⟨b', o' + k * 3 + 1, none⟩ = some (.int .i64 fr.fn) ∧ V.cell? ⟨b', o' + k * 3 + 2, none⟩ = some (.slice t1.ad t1.len t1.cap) ∧ Below wr.heap.size wr V) from fun V hV => ⟨(hV.cell (p := ⟨b, o + k * 3, none⟩) hb).trans c0, (hV.cell (p := ⟨b, o + k * 3 + 1, none⟩) hb).trans c1, (hV.cell (p := ⟨b, o + k * 3 + 2, none⟩) hb).trans c2, (hV.cell (p := ⟨b', o' + k * 3, none⟩) hb').trans d0, (hV.cell (p := ⟨b', o' + k * 3 + 1, none⟩) hb').trans d1, (hV.cell (p := ⟨b', o' + k * 3 + 2, none⟩) hb').trans d2, hV⟩)
      clear hy hd1 hd2 hlt2 hn1 hn2
      have hk1 : (0 : Int) ≤ (k : Int) := by omega
      have hk2 : (k : Int) < (tl : Int) := by omega
      have bn : (fr.num != fr.num) = false := by simp
      have bf : (fr.fn != fr.fn) = false := by simp
      go_upto_region 6 with fail
      clear c0 c1 c2 d0 d1 d2
      go_cut [54] (fun v V => v = .bool false ∧ Below wr.heap.size wr V)
      case first =>
        go_region_held3 (fun V => V.cell? ⟨b, o + k * 3, none⟩ = some (.int .i64 fr.num) ∧ V.cell? ⟨b, o + k * 3 + 1, none⟩ = some (.int .i64 fr.fn) ∧ V.cell? ⟨b, o + k * 3 + 2, none⟩ = some (.slice s1.ad s1.len s1.cap) ∧ V.cell? ⟨b', o' + k * 3, none⟩ = some (.int .i64 fr.num) ∧ V.cell? ⟨b', o' + k * 3 + 1, none⟩ = some (.int .i64 fr.fn) ∧ V.cell? ⟨b', o' + k * 3 + 2, none⟩ = some (.slice t1.ad t1.len t1.cap) ∧ Below wr.heap.size wr V)
          (first | assumption | exact (unhide HKM) _ ((Below.refl _ _).drew) | exact (unhide HKM) _ (unhide HB6))
          (first
            | (go_at_call 53; refine ((unhide HSL) _ ?_).mono ?_; exact (Below.refl _ _).drew; rintro r w6 ⟨rfl, hb6⟩; have HB6 := hide (((Below.refl wr.heap.size wr).drew).trans (hb6.mono (Nat.le_refl _))); clear hb6))
        all_goals
          go_wp2_with fail
          go_meet
          case rel => exact ⟨rfl, unhide HB6⟩
      case rest =>
        obtain ⟨rfl, hbx⟩ := hcut
        have HBX := hide ((unhide HBE).trans (hbx.mono (unhide HBE).size))
        clear hbx
        go_wp2_with fail
        exact ⟨⟨k + 1, by omega, by go_num, unhide HBX⟩, by simp [intOf]; omega⟩
    · have hk2 : ¬ (k : Int) < (tl : Int) := by omega
      go_wp2_with fail
      go_ret
      exact ⟨rfl, unhide HBE⟩
end Go.Proofs.Ytildjlaphkjegaa
namespace Go.Proofs.Ytildjlaphkjegaa
open Go.RowKit
set_option linter.unusedVariables false

section
variable {m n : Nat} {p : List (Pg.FT m n)}
/-- Each beginning of a run that is not too long is Right. -/
theorem Xr.Ok.right_pre {inp : List Int} {fuel : Int} (h : Xr.Ok p inp fuel) {c : List Ev} (hc : c <+: Xr.out p inp fuel) (hl : c.length ≤ 4000) : Xr.chkL p c = 0 ∧ Xr.right p c = true := by
  have ha := h.again hc
  obtain ⟨x, hx⟩ := Xr.last_of h.chk
  have hp := hc
  rw [h.out] at hp
  have hm := Xr.main_pre hx h.few hp
  have h0 : Xr.chkL p c = 0 := by
    unfold Xr.chkL
    rw [if_pos h.chk, if_neg (by omega)]
  refine ⟨h0, ?_⟩
  unfold Xr.right
  have ho : Xr.out p (Xr.inOf c) (((Xr.that 1 c).length : Nat) : Int) = Xr.main p (Xr.inOf c) (Xr.stp c) := ha.out
  have hk : Xr.chkR p (Xr.inOf c) (((Xr.that 1 c).length : Nat) : Int) = 0 := ha.chkR
  rw [ho, hk, h0]
  have h1 := hm.length_le
  have h2 : Xr.sameL c ((Xr.main p (Xr.inOf c) (Xr.stp c)).take c.length) = true := (Xr.sameL_iff _ _).2 (List.prefix_iff_eq_take.1 hm)
  simp [h1, h2]
/-- A beginning of a trace's beginning is one. -/
theorem Xr.StOk.take {l : List Ev} (h : Xr.StOk p l) (t : Nat) : Xr.stE p (l.take t) = 0 := by
  have hc : l.take t <+: Xr.out p (Xr.inOf l) ((Xr.stp l : Nat) : Int) := by
    rw [h.ok.out, Int.toNat_natCast]
    exact (List.take_prefix _ _).trans h.pre
  obtain ⟨h1, h2⟩ := h.ok.right_pre hc (by rw [List.length_take]; have := h.few; omega)
  unfold Xr.stE
  rw [h1, h2]
  rfl
/-- There is a frame at each time. -/
theorem Xr.good_some {s0 : List Xr.Fr} (h0 : s0 ≠ []) : ∀ (r : List Ev) (l : List Ev), l = r.reverse → Xr.good p s0 l → Xr.reps p s0 l ≠ []
  | [], l, hl, _ => by subst hl; exact h0
  | e :: r, l, hl, hg => by
    rw [List.reverse_cons] at hl
    subst hl
    obtain ⟨st0, t, hst, _, _, h6⟩ := hg r.reverse e [] rfl
    rw [Xr.reps_snoc, hst]
    by_cases k5 : e.n0 = 5
    · rw [Xr.rep1_call _ k5]
      simp
    · by_cases k6 : e.n0 = 6
      · rw [Xr.rep1_back _ _ k6]
        exact (h6 k6).2
      · by_cases k2 : e.n0 = 2
        · rw [Xr.rep1_wr _ _ k2]
          simp
        · rw [Xr.rep1_no _ k5 k6 k2]
          simp
theorem Xr.StOk.there {l : List Ev} (h : Xr.StOk p l) (t : Nat) : Xr.reps p (Xr.ini p) (l.take t) ≠ [] :=
  Xr.good_some (by unfold Xr.ini; simp) (l.take t).reverse _ (List.reverse_reverse _).symm (Xr.good_pre h.good (List.take_prefix _ _))
/-- A write is what is there behind it. -/
theorem Xr.StOk.wrote {l : List Ev} (h : Xr.StOk p l) {t : Nat} {e : Ev} (he : l[t]? = some e) (h2 : e.n0 = 2) : ∃ (st0 : List Xr.Fr) (fr : Xr.Fr) (v i : Nat) (lv : List Int), Xr.reps p (Xr.ini p) (l.take (t + 1)) = st0 ++ [fr] ∧ e.n1 = fr.num ∧ e.n3 = v ∧ e.n4 = i ∧ fr.vs[v]? = some lv ∧ lv[i]? = some e.n5 := by
  obtain ⟨hlt, hle⟩ := List.getElem?_eq_some_iff.1 he
  obtain ⟨st0, tt, hst, g2, _, _⟩ := h.good (l.take t) e (l.drop (t + 1)) (by rw [← hle, ← List.drop_eq_getElem_cons hlt, List.take_append_drop])
  obtain ⟨h3, v, i, lv, h4, h5, h6, h7⟩ := g2 h2
  refine ⟨st0, ⟨tt.num, tt.fn, Xr.upd tt.vs v i e.n5⟩, v, i, lv.set i e.n5, ?_, h3, h4, h5, ?_, ?_⟩
  · rw [List.take_succ_eq_append_getElem hlt, hle, Xr.reps_snoc, hst, Xr.rep1_wr _ _ h2, h4, h5, Int.toNat_natCast, Int.toNat_natCast]
  · show (Xr.upd tt.vs v i e.n5)[v]? = _
    rw [Xr.upd_at h6, if_pos rfl]
  · rw [List.getElem?_set, if_pos rfl, if_pos h7]
end
theorem Xr.small_st : Xr.stE Xr.small Xr.tr = 0 := by kernel_rfl
theorem Xr.small_at : Xr.reps Xr.small (Xr.ini Xr.small) (Xr.tr.take 3) = [⟨0, 0, [[7]]⟩] := by kernel_rfl
theorem Xr.small_atE : Xr.atE Xr.small Xr.tr 3 = 0 := by kernel_rfl
end Go.Proofs.Ytildjlaphkjegaa
namespace Go.Proofs.Ytildjlaphkjegaa
open Go.RowKit
set_option linter.unusedVariables false

def Xr.callsIn (l : List Ev) : List Ev := l.filter fun e => decide (e.n0 = 5)
/-- The functions of the frames, as they are numbered. -/
def Xr.fnsTo (main : Int) (l : List Ev) : List Int := main :: (Xr.callsIn l).map fun e => e.n3
def Xr.numd (l : List Ev) : Prop := ∀ l1 e l2, l = l1 ++ e :: l2 → e.n0 = 5 → e.n5 = (((Xr.callsIn l1).length + 1 : Nat) : Int)
theorem Xr.callsIn_yes (l : List Ev) {e : Ev} (h : e.n0 = 5) : Xr.callsIn (l ++ [e]) = Xr.callsIn l ++ [e] := by
  unfold Xr.callsIn
  rw [List.filter_append]
  simp [h]
theorem Xr.callsIn_no (l : List Ev) {e : Ev} (h : e.n0 ≠ 5) : Xr.callsIn (l ++ [e]) = Xr.callsIn l := by
  unfold Xr.callsIn
  rw [List.filter_append]
  simp [h]
theorem Xr.snoc_ind {P : List Ev → Prop} (h0 : P []) (hs : ∀ l e, P l → P (l ++ [e])) (l : List Ev) : P l := by
  have h : ∀ r : List Ev, P r.reverse := by
    intro r
    induction r with
    | nil => exact h0
    | cons e r ih => rw [List.reverse_cons]; exact hs _ _ ih
  have := h l.reverse
  rwa [List.reverse_reverse] at this
theorem Xr.numd_nil : Xr.numd [] := fun l1 e l2 h => absurd (congrArg List.length h) (by simp)
theorem Xr.numd_snoc {l : List Ev} {e : Ev} (h : Xr.numd l) (he : e.n0 = 5 → e.n5 = (((Xr.callsIn l).length + 1 : Nat) : Int)) : Xr.numd (l ++ [e]) := by
  intro l1 d l2 hl
  by_cases h2 : l2 = []
  · subst h2
    obtain ⟨h3, h4⟩ := List.append_inj' hl rfl
    cases h4
    rw [← h3]
    exact he
  · obtain ⟨r, y, rfl⟩ : ∃ r y, l2 = r ++ [y] := ⟨l2.dropLast, l2.getLast h2, (List.dropLast_concat_getLast h2).symm⟩
    rw [← List.cons_append, ← List.append_assoc] at hl
    obtain ⟨h3, h4⟩ := List.append_inj' hl rfl
    exact h l1 d r h3
theorem Xr.numd_pre {l r : List Ev} (h : Xr.numd r) (hl : l <+: r) : Xr.numd l := by
  obtain ⟨t, rfl⟩ := hl
  intro l1 e l2 hh
  exact h l1 e (l2 ++ t) (by rw [hh, List.append_assoc]; rfl)
def Xr.Nm (s : Xr.S) : Prop := Xr.numd s.evs ∧ (s.ended = false → s.made = (Xr.callsIn s.evs).length)
theorem Xr.Nm.tell {s : Xr.S} (h : Xr.Nm s) (e : Ev) (he : e.n0 ≠ 5) : Xr.Nm (Xr.tell s e) := by
  cases hs : s.ended with
  | true => rw [Xr.tell_yes hs]; exact h
  | false =>
    rw [Xr.tell_no hs]
    refine ⟨Xr.numd_snoc h.1 (fun h5 => absurd h5 he), fun _ => ?_⟩
    show s.made = (Xr.callsIn (s.evs ++ [e])).length
    rw [Xr.callsIn_no _ he]
    exact h.2 hs
theorem Xr.Nm.fin {s : Xr.S} (h : Xr.Nm s) (f : Xr.F) (a how : Int) : Xr.Nm (Xr.fin s f a how) :=
  ⟨(h.tell ⟨7, f.num, a, 0, 0, how⟩ (by show (7 : Int) ≠ 5; omega)).1, fun h2 => by cases h2⟩
theorem Xr.cl_nm : Xr.Cl Xr.Nm := by
  refine ⟨fun s e he h => h.tell e (by rcases he with h1 | h1 | h1 <;> omega), fun s f a how h => h.fin f a how, fun s f a h => ?_, fun s f h => ?_, fun s f q h => ?_⟩
  · unfold Xr.stepS
    split
    · exact h.fin _ _ _
    · exact Xr.Nm.tell (s := { s with fuel := s.fuel - 1 }) ⟨h.1, h.2⟩ _ (by show (1 : Int) ≠ 5; omega)
  · exact Xr.Nm.tell (s := Xr.inS s) ⟨h.1, h.2⟩ _ (by show (3 : Int) ≠ 5; omega)
  · rcases Bool.eq_false_or_eq_true s.ended with hs | hs
    · have e1 : Xr.beg s f q = { s with made := s.made + 1 } := Xr.tell_yes (s := { s with made := s.made + 1 }) hs _
      rw [e1]
      exact ⟨h.1, fun h2 => by rw [show ({ s with made := s.made + 1 } : Xr.S).ended = s.ended from rfl, hs] at h2; cases h2⟩
    · have e1 : Xr.beg s f q = { s with made := s.made + 1, evs := s.evs ++ [⟨5, f.num, f.at_, q, 0, ((s.made + 1 : Nat) : Int)⟩] } := Xr.tell_no (s := { s with made := s.made + 1 }) hs _
      rw [e1]
      have hm := h.2 hs
      refine ⟨Xr.numd_snoc h.1 (fun _ => ?_), fun _ => ?_⟩
      · show ((s.made + 1 : Nat) : Int) = _
        rw [hm]
      · show s.made + 1 = (Xr.callsIn (s.evs ++ [_])).length
        rw [Xr.callsIn_yes _ rfl, List.length_append, hm]
        rfl
section
variable {m n : Nat} {p : List (Pg.FT m n)}
theorem Xr.main_numd {x : Pg.FT m n} (hx : p[p.length - 1]? = some x) (inp : List Int) (fuel : Nat) : Xr.numd (Xr.main p inp fuel) := by
  obtain ⟨s, h1, _, h3⟩ := Xr.cl_nm.all hx inp fuel ⟨Xr.numd_nil, fun _ => rfl⟩
  rw [← h3]
  exact h1.1
theorem Xr.StOk.numd {l : List Ev} (h : Xr.StOk p l) : Xr.numd l := by
  obtain ⟨x, hx, _⟩ := h.last
  exact Xr.numd_pre (Xr.main_numd hx _ _) h.pre
/-- The frames that there are, by their numbers. -/
structure Xr.Nq (main : Int) (l : List Ev) (st : List Xr.Fr) : Prop where
  fn : ∀ fr ∈ st, ∃ q : Nat, fr.num = q ∧ (Xr.fnsTo main l)[q]? = some fr.fn
  up : st.Pairwise fun a b => a.num < b.num
theorem Xr.fnsTo_yes (main : Int) (l : List Ev) {e : Ev} (h : e.n0 = 5) : Xr.fnsTo main (l ++ [e]) = Xr.fnsTo main l ++ [e.n3] := by
  unfold Xr.fnsTo
  rw [Xr.callsIn_yes l h, List.map_append]
  rfl
theorem Xr.fnsTo_no (main : Int) (l : List Ev) {e : Ev} (h : e.n0 ≠ 5) : Xr.fnsTo main (l ++ [e]) = Xr.fnsTo main l := by
  unfold Xr.fnsTo
  rw [Xr.callsIn_no l h]
theorem Xr.fnsTo_len (main : Int) (l : List Ev) : (Xr.fnsTo main l).length = (Xr.callsIn l).length + 1 := by
  unfold Xr.fnsTo
  rw [List.length_cons, List.length_map]
theorem Xr.Nq.less {main : Int} {l : List Ev} {st : List Xr.Fr} (h : Xr.Nq main l st) {fr : Xr.Fr} (hf : fr ∈ st) : 0 ≤ fr.num ∧ fr.num < (((Xr.callsIn l).length + 1 : Nat) : Int) := by
  obtain ⟨q, h1, h2⟩ := h.fn fr hf
  have h3 := (List.getElem?_eq_some_iff.1 h2).1
  rw [Xr.fnsTo_len] at h3
  omega
theorem Xr.Nq.step {main : Int} {l : List Ev} {st : List Xr.Fr} {e : Ev} (h : Xr.Nq main l st) (hg : Xr.good1 p st e) (hn : e.n0 = 5 → e.n5 = (((Xr.callsIn l).length + 1 : Nat) : Int)) : Xr.Nq main (l ++ [e]) (Xr.rep1 p st e) := by
  obtain ⟨st0, t, rfl, _, _, _⟩ := hg
  by_cases k5 : e.n0 = 5
  · rw [Xr.rep1_call _ k5]
    have h5 := hn k5
    refine ⟨fun fr hf => ?_, ?_⟩
    · rw [Xr.fnsTo_yes _ _ k5]
      rcases List.mem_append.1 hf with h1 | h1
      · obtain ⟨q, h2, h3⟩ := h.fn fr h1
        exact ⟨q, h2, by rw [List.getElem?_append_left (List.getElem?_eq_some_iff.1 h3).1]; exact h3⟩
      · rw [List.mem_singleton] at h1
        subst h1
        refine ⟨(Xr.callsIn l).length + 1, h5, ?_⟩
        rw [List.getElem?_append_right (by rw [Xr.fnsTo_len]; omega), Xr.fnsTo_len, Nat.sub_self]
        rfl
    · refine List.pairwise_append.2 ⟨h.up, by simp, fun a ha b hb => ?_⟩
      rw [List.mem_singleton] at hb
      subst hb
      have := (h.less ha).2
      show a.num < e.n5
      omega
  · by_cases k6 : e.n0 = 6
    · rw [Xr.rep1_back _ _ k6]
      refine ⟨fun fr hf => ?_, (List.pairwise_append.1 h.up).1⟩
      rw [Xr.fnsTo_no _ _ k5]
      exact h.fn fr (List.mem_append_left _ hf)
    · by_cases k2 : e.n0 = 2
      · rw [Xr.rep1_wr _ _ k2]
        refine ⟨fun fr hf => ?_, ?_⟩
        · rw [Xr.fnsTo_no _ _ k5]
          rcases List.mem_append.1 hf with h1 | h1
          · exact h.fn fr (List.mem_append_left _ h1)
          · rw [List.mem_singleton] at h1
            subst h1
            exact h.fn t (List.mem_append_right _ (List.mem_singleton.2 rfl))
        · obtain ⟨h1, h2, h3⟩ := List.pairwise_append.1 h.up
          refine List.pairwise_append.2 ⟨h1, by simp, fun a ha b hb => ?_⟩
          rw [List.mem_singleton] at hb
          subst hb
          exact h3 a ha t (List.mem_singleton.2 rfl)
      · rw [Xr.rep1_no _ k5 k6 k2]
        refine ⟨fun fr hf => ?_, h.up⟩
        rw [Xr.fnsTo_no _ _ k5]
        exact h.fn fr hf
theorem Xr.Nq.of : ∀ (l : List Ev), Xr.good p (Xr.ini p) l → Xr.numd l → Xr.Nq ((p.length - 1 : Nat) : Int) l (Xr.reps p (Xr.ini p) l) := by
  refine Xr.snoc_ind (fun _ _ => ⟨fun fr hf => ?_, ?_⟩) (fun l e ih hg hn => ?_)
  · have : fr = ⟨0, ((p.length - 1 : Nat) : Int), Xr.zeros (Xr.szOf p ((p.length - 1 : Nat) : Int))⟩ := List.mem_singleton.1 hf
    subst this
    exact ⟨0, rfl, rfl⟩
  · show (Xr.ini p).Pairwise _
    unfold Xr.ini
    simp
  · rw [Xr.reps_snoc]
    exact (ih (Xr.good_pre hg (List.prefix_append _ _)) (Xr.numd_pre hn (List.prefix_append _ _))).step (hg l e [] rfl) (hn l e [] rfl)
/-- A write is in a frame that is numbered. -/
theorem Xr.StOk.wrote_in {l : List Ev} (h : Xr.StOk p l) {t : Nat} {e : Ev} (he : l[t]? = some e) (h2 : e.n0 = 2) : ∃ q : Nat, e.n1 = q ∧ q < (Xr.fnsTo ((p.length - 1 : Nat) : Int) (l.take t)).length := by
  obtain ⟨hlt, hle⟩ := List.getElem?_eq_some_iff.1 he
  obtain ⟨st0, tt, hst, g2, _, _⟩ := h.good (l.take t) e (l.drop (t + 1)) (by rw [← hle, ← List.drop_eq_getElem_cons hlt, List.take_append_drop])
  have hnf := Xr.Nq.of (l.take t) (Xr.good_pre h.good (List.take_prefix _ _)) (Xr.numd_pre h.numd (List.take_prefix _ _))
  obtain ⟨q, h3, h4⟩ := hnf.fn tt (by rw [hst]; simp)
  exact ⟨q, (g2 h2).1.trans h3, (List.getElem?_eq_some_iff.1 h4).1⟩
end
end Go.Proofs.Ytildjlaphkjegaa
