/-
  Several texts in one: XGoes, XTMoreP. By the verifier.
-/
import Derived.Test.YtildjlaphkjegaaXMore
import Derived.Test.YtildjlaphkjegaaXRight
namespace Go.Proofs.Ytildjlaphkjegaa
open Go.RowKit
set_option linter.unusedVariables false

theorem Xr.tell_no {s : Xr.S} (h : s.ended = false) (e : Ev) : Xr.tell s e = { s with evs := s.evs ++ [e] } := by
  unfold Xr.tell
  rw [if_neg (by simp [h])]
theorem Xr.tell_yes {s : Xr.S} (h : s.ended = true) (e : Ev) : Xr.tell s e = s := by
  unfold Xr.tell
  rw [if_pos h]
/-- All moves are moves of the events, and of the rest. -/
theorem Xr.cl_evs {U : List Ev → Bool → Prop} (h1 : ∀ l e, e.n0 ≠ 7 → U l false → U (l ++ [e]) false) (h2 : ∀ l e, e.n0 = 7 → U l false → U (l ++ [e]) true) : Xr.Cl (fun s => U s.evs s.ended) := by
  have ht : ∀ (s : Xr.S) (e : Ev), e.n0 ≠ 7 → U s.evs s.ended → U (Xr.tell s e).evs (Xr.tell s e).ended := fun s e he hu => by
    cases hs : s.ended with
    | true => rw [Xr.tell_yes hs]; exact hu
    | false => rw [Xr.tell_no hs]; show U (s.evs ++ [e]) s.ended; rw [hs] at hu ⊢; exact h1 _ _ he hu
  have hf : ∀ (s : Xr.S) (f : Xr.F) (a how : Int), U s.evs s.ended → U (Xr.fin s f a how).evs (Xr.fin s f a how).ended := fun s f a how hu => by
    show U (Xr.tell s _).evs true
    cases hs : s.ended with
    | true => rw [Xr.tell_yes hs]; rw [hs] at hu; exact hu
    | false => rw [Xr.tell_no hs]; rw [hs] at hu; exact h2 _ _ rfl hu
  refine ⟨fun s e he hu => ht s e (by rcases he with h | h | h <;> omega) hu, hf, fun s f a hu => ?_, fun s f hu => ht _ _ (by show (3 : Int) ≠ 7; omega) hu, fun s f q hu => ht _ _ (by show (5 : Int) ≠ 7; omega) hu⟩
  show U (Xr.stepS s f a).evs (Xr.stepS s f a).ended
  unfold Xr.stepS
  split
  · exact hf _ _ _ _ hu
  · exact ht _ _ (by show (1 : Int) ≠ 7; omega) hu

/-! ### The end stands behind all, and nowhere else -/
def Xr.Ended (l : List Ev) (b : Bool) : Prop := if b then ∃ r e, l = r ++ [e] ∧ e.n0 = 7 ∧ ∀ x ∈ r, x.n0 ≠ 7 else ∀ x ∈ l, x.n0 ≠ 7
theorem Xr.cl_ended : Xr.Cl (fun s => Xr.Ended s.evs s.ended) := by
  refine Xr.cl_evs (fun l e he hu => ?_) (fun l e he hu => ?_)
  · have hu' : ∀ x ∈ l, x.n0 ≠ 7 := by simpa [Xr.Ended] using hu
    show if false then _ else ∀ x ∈ l ++ [e], x.n0 ≠ 7
    simp only [Bool.false_eq_true, if_false]
    intro x hx
    rcases List.mem_append.1 hx with h | h
    · exact hu' x h
    · simp at h; rw [h]; exact he
  · have hu' : ∀ x ∈ l, x.n0 ≠ 7 := by simpa [Xr.Ended] using hu
    show if true then ∃ r e', l ++ [e] = r ++ [e'] ∧ e'.n0 = 7 ∧ ∀ x ∈ r, x.n0 ≠ 7 else _
    simp only [if_true]
    exact ⟨l, e, rfl, he, hu'⟩
section
variable {m n : Nat} {p : List (Pg.FT m n)} {x : Pg.FT m n}
theorem Xr.main_end (hx : p[p.length - 1]? = some x) (inp : List Int) (fuel : Nat) : ∃ r e, Xr.main p inp fuel = r ++ [e] ∧ e.n0 = 7 ∧ ∀ y ∈ r, y.n0 ≠ 7 := by
  obtain ⟨s, h1, h2, h3⟩ := Xr.cl_ended.all hx inp fuel (by show Xr.Ended [] false; simp [Xr.Ended])
  rw [h2, h3] at h1
  simpa [Xr.Ended] using h1
/-- Nothing may stand behind the end of a run. -/
theorem Xr.main_last (hx : p[p.length - 1]? = some x) (inp inp' : List Int) (fuel fuel' : Nat) (e : Ev) : ¬ (Xr.main p inp fuel ++ [e] <+: Xr.main p inp' fuel') := by
  intro h
  obtain ⟨r, d, h1, h2, h3⟩ := Xr.main_end hx inp fuel
  obtain ⟨r', d', h1', h2', h3'⟩ := Xr.main_end hx inp' fuel'
  rw [h1, h1'] at h
  obtain ⟨t, ht⟩ := h
  have hl := congrArg List.length ht
  simp only [List.length_append, List.length_cons, List.length_nil] at hl
  have hm : d ∈ r' := by
    have hg : (r ++ [d] ++ [e] ++ t)[r.length]? = some d := by simp
    rw [ht, List.getElem?_append_left (by omega)] at hg
    exact List.mem_of_getElem? hg
  exact h3' d hm h2

/-! ### With more fuel -/
def Xr.moreB (s t : Xr.S) : Prop := s.ended = false ∧ t.ended = false ∧ s.evs = t.evs ∧ s.inp = t.inp ∧ s.made = t.made ∧ s.fuel ≤ t.fuel
def Xr.moreU (s t : Xr.S) : Prop := s.ended = true ∧ ((t.ended = true ∧ s.evs = t.evs) ∨ ∃ l e, s.evs = l ++ [e] ∧ e.n5 = 1 ∧ l <+: t.evs)
theorem Xr.cl_same (L : List Ev) : Xr.Cl (fun s => s.ended = true ∧ s.evs = L) := by
  have ht : ∀ (s : Xr.S) (e : Ev), s.ended = true ∧ s.evs = L → (Xr.tell s e).ended = true ∧ (Xr.tell s e).evs = L := fun s e hu => by rw [Xr.tell_yes hu.1]; exact hu
  refine ⟨fun s e _ hu => ht s e hu, fun s f a how hu => ⟨rfl, (ht s _ hu).2⟩, fun s f a hu => ?_, fun s f hu => ht _ _ hu, fun s f q hu => ht _ _ hu⟩
  show (Xr.stepS s f a).ended = true ∧ (Xr.stepS s f a).evs = L
  unfold Xr.stepS
  split
  · exact ⟨rfl, (ht s _ hu).2⟩
  · exact ht _ _ hu
theorem Xr.cl_grows (L : List Ev) : Xr.Cl (fun s => L <+: s.evs) := by
  refine Xr.cl_evs (U := fun l _ => L <+: l) (fun l e _ hu => ?_) (fun l e _ hu => ?_)
  · exact hu.trans (List.prefix_append _ _)
  · exact hu.trans (List.prefix_append _ _)
/-- Where each of two is closed, so is one of them, and both. -/
theorem Xr.Cl.or {U V : Xr.S → Prop} (h1 : Xr.Cl U) (h2 : Xr.Cl V) : Xr.Cl (fun s => U s ∨ V s) :=
  ⟨fun s e he hu => hu.imp (h1.tell s e he) (h2.tell s e he), fun s f a how hu => hu.imp (h1.fin s f a how) (h2.fin s f a how), fun s f a hu => hu.imp (h1.step s f a) (h2.step s f a), fun s f hu => hu.imp (h1.read s f) (h2.read s f), fun s f q hu => hu.imp (h1.call s f q) (h2.call s f q)⟩
theorem Xr.Cl.and {U V : Xr.S → Prop} (h1 : Xr.Cl U) (h2 : Xr.Cl V) : Xr.Cl (fun s => U s ∧ V s) :=
  ⟨fun s e he hu => ⟨h1.tell s e he hu.1, h2.tell s e he hu.2⟩, fun s f a how hu => ⟨h1.fin s f a how hu.1, h2.fin s f a how hu.2⟩, fun s f a hu => ⟨h1.step s f a hu.1, h2.step s f a hu.2⟩, fun s f hu => ⟨h1.read s f hu.1, h2.read s f hu.2⟩, fun s f q hu => ⟨h1.call s f q hu.1, h2.call s f q hu.2⟩⟩
theorem Xr.Cl.const (c : Prop) : Xr.Cl (fun _ => c) := ⟨fun _ _ _ h => h, fun _ _ _ _ h => h, fun _ _ _ h => h, fun _ _ h => h, fun _ _ _ h => h⟩
theorem Xr.Cl.iff {U V : Xr.S → Prop} (h : Xr.Cl U) (he : ∀ s, V s ↔ U s) : Xr.Cl V :=
  ⟨fun s e hp hu => (he _).2 (h.tell s e hp ((he _).1 hu)), fun s f a how hu => (he _).2 (h.fin s f a how ((he _).1 hu)), fun s f a hu => (he _).2 (h.step s f a ((he _).1 hu)), fun s f hu => (he _).2 (h.read s f ((he _).1 hu)), fun s f q hu => (he _).2 (h.call s f q ((he _).1 hu))⟩
theorem Xr.more_bi : Xr.Bi Xr.moreB Xr.moreU := by
  refine ⟨fun s t hb => ⟨hb.1, hb.2.1⟩, fun s t e he hb => ?_, fun s t f a how hb => ?_, fun s t f a hb => ?_, fun s t f hb => ?_, fun s t f q hb => ?_, fun t => ?_, fun s => ?_⟩
  · obtain ⟨h1, h2, h3, h4, h5, h6⟩ := hb
    rw [Xr.tell_no h1, Xr.tell_no h2]
    exact .inl ⟨h1, h2, by show s.evs ++ [e] = t.evs ++ [e]; rw [h3], h4, h5, h6⟩
  · obtain ⟨h1, h2, h3, h4, h5, h6⟩ := hb
    refine ⟨rfl, .inl ⟨rfl, ?_⟩⟩
    show (Xr.tell s _).evs = (Xr.tell t _).evs
    rw [Xr.tell_no h1, Xr.tell_no h2]
    show s.evs ++ [_] = t.evs ++ [_]
    rw [h3]
  · obtain ⟨h1, h2, h3, h4, h5, h6⟩ := hb
    unfold Xr.stepS
    by_cases hs : s.fuel = 0
    · rw [if_pos hs]
      by_cases ht : t.fuel = 0
      · rw [if_pos ht]
        refine .inr ⟨rfl, .inl ⟨rfl, ?_⟩⟩
        show (Xr.tell s _).evs = (Xr.tell t _).evs
        rw [Xr.tell_no h1, Xr.tell_no h2]
        show s.evs ++ [_] = t.evs ++ [_]
        rw [h3]
      · rw [if_neg ht]
        refine .inr ⟨rfl, .inr ⟨s.evs, ⟨7, f.num, a, 0, 0, 1⟩, ?_, rfl, ?_⟩⟩
        · show (Xr.tell s _).evs = _
          rw [Xr.tell_no h1]
        · rw [Xr.tell_no (show ({ t with fuel := t.fuel - 1 } : Xr.S).ended = false from h2), h3]
          exact List.prefix_append _ _
    · rw [if_neg hs, if_neg (show ¬ t.fuel = 0 by omega)]
      refine .inl ⟨?_, hs, by omega⟩
      rw [Xr.tell_no (show ({ t with fuel := t.fuel - 1 } : Xr.S).ended = false from h2), Xr.tell_no (show ({ s with fuel := s.fuel - 1 } : Xr.S).ended = false from h1)]
      exact ⟨h1, h2, by show s.evs ++ [_] = t.evs ++ [_]; rw [h3], h4, h5, by show s.fuel - 1 ≤ t.fuel - 1; omega⟩
  · obtain ⟨h1, h2, h3, h4, h5, h6⟩ := hb
    have hz : Xr.inZ s = Xr.inZ t := by unfold Xr.inZ; rw [h4]
    unfold Xr.rdS
    rw [hz, Xr.tell_no (show (Xr.inS s).ended = false from h1), Xr.tell_no (show (Xr.inS t).ended = false from h2)]
    exact .inl ⟨⟨h1, h2, by show s.evs ++ [_] = t.evs ++ [_]; rw [h3], by show s.inp.tail = t.inp.tail; rw [h4], h5, h6⟩, rfl⟩
  · obtain ⟨h1, h2, h3, h4, h5, h6⟩ := hb
    unfold Xr.beg
    rw [h5, Xr.tell_no (show ({ s with made := t.made + 1 } : Xr.S).ended = false from h1), Xr.tell_no (show ({ t with made := t.made + 1 } : Xr.S).ended = false from h2)]
    exact .inl ⟨⟨h1, h2, by show s.evs ++ [_] = t.evs ++ [_]; rw [h3], h4, rfl, h6⟩, rfl⟩
  · refine Xr.Cl.iff (U := fun s => (t.ended = true ∧ (s.ended = true ∧ s.evs = t.evs)) ∨ ∃ L, (s.ended = true ∧ s.evs = L) ∧ ∃ l e, L = l ++ [e] ∧ e.n5 = 1 ∧ l <+: t.evs) ?_ (fun s => ?_)
    · refine Xr.Cl.or ((Xr.Cl.const _).and (Xr.cl_same _)) ?_
      have hk := fun L => (Xr.cl_same L).and (Xr.Cl.const (∃ l e, L = l ++ [e] ∧ e.n5 = 1 ∧ l <+: t.evs))
      exact ⟨fun s e he ⟨L, hu⟩ => ⟨L, (hk L).tell s e he hu⟩, fun s f a how ⟨L, hu⟩ => ⟨L, (hk L).fin s f a how hu⟩, fun s f a ⟨L, hu⟩ => ⟨L, (hk L).step s f a hu⟩, fun s f ⟨L, hu⟩ => ⟨L, (hk L).read s f hu⟩, fun s f q ⟨L, hu⟩ => ⟨L, (hk L).call s f q hu⟩⟩
    · constructor
      · rintro ⟨h1, h2 | ⟨l, e, h2⟩⟩
        · exact .inl ⟨h2.1, h1, h2.2⟩
        · exact .inr ⟨s.evs, ⟨h1, rfl⟩, l, e, h2⟩
      · rintro (⟨h1, h2, h3⟩ | ⟨L, ⟨h1, h2⟩, l, e, h3⟩)
        · exact ⟨h2, .inl ⟨h1, h3⟩⟩
        · exact ⟨h1, .inr ⟨l, e, by rw [h2]; exact h3⟩⟩
  · refine Xr.Cl.iff (U := fun t => (s.ended = true ∧ (t.ended = true ∧ t.evs = s.evs)) ∨ ∃ l, l <+: t.evs ∧ (s.ended = true ∧ ∃ e, s.evs = l ++ [e] ∧ e.n5 = 1)) ?_ (fun t => ?_)
    · refine Xr.Cl.or ((Xr.Cl.const _).and (Xr.cl_same _)) ?_
      have hk := fun l => (Xr.cl_grows l).and (Xr.Cl.const (s.ended = true ∧ ∃ e, s.evs = l ++ [e] ∧ e.n5 = 1))
      exact ⟨fun s e he ⟨L, hu⟩ => ⟨L, (hk L).tell s e he hu⟩, fun s f a how ⟨L, hu⟩ => ⟨L, (hk L).fin s f a how hu⟩, fun s f a ⟨L, hu⟩ => ⟨L, (hk L).step s f a hu⟩, fun s f ⟨L, hu⟩ => ⟨L, (hk L).read s f hu⟩, fun s f q ⟨L, hu⟩ => ⟨L, (hk L).call s f q hu⟩⟩
    · constructor
      · rintro ⟨h1, h2 | ⟨l, e, h2, h3, h4⟩⟩
        · exact .inl ⟨h1, h2.1, h2.2.symm⟩
        · exact .inr ⟨l, h4, h1, e, h2, h3⟩
      · rintro (⟨h1, h2, h3⟩ | ⟨l, h1, h2, e, h3, h4⟩)
        · exact ⟨h1, .inl ⟨h2, h3.symm⟩⟩
        · exact ⟨h2, .inr ⟨l, e, h3, h4, h1⟩⟩
/-- With more fuel a run is the same, or goes on where it ended for want of it. -/
theorem Xr.main_more (hx : p[p.length - 1]? = some x) (inp : List Int) {fuel more : Nat} (hf : fuel ≤ more) : Xr.main p inp fuel = Xr.main p inp more ∨ ∃ l e, Xr.main p inp fuel = l ++ [e] ∧ e.n5 = 1 ∧ l <+: Xr.main p inp more := by
  obtain ⟨s, t, h1, h2, h3, h4, h5⟩ := Xr.more_bi.all hx inp inp fuel more ⟨rfl, rfl, rfl, rfl, rfl, hf⟩
  rw [← h4, ← h5]
  rcases h1.2 with h | h
  · exact .inl h.2
  · exact .inr h

/-! ### With the input that was read -/
theorem Xr.that_snoc (k : Int) (l : List Ev) (e : Ev) : Xr.that k (l ++ [e]) = if e.n0 == k then Xr.that k l ++ [e] else Xr.that k l := by
  unfold Xr.that
  rw [List.filter_append]
  cases h : (e.n0 == k) <;> simp [h]
theorem Xr.that_pre (k : Int) {l r : List Ev} (h : l <+: r) : Xr.that k l <+: Xr.that k r := by
  obtain ⟨t, rfl⟩ := h
  unfold Xr.that
  rw [List.filter_append]
  exact List.prefix_append _ _
/-- One more event: still a beginning of c; or c is all there was; or it is no beginning of O. -/
theorem Xr.pre_step {l c O : List Ev} (h : l <+: c) (hc : c <+: O) (e : Ev) : (l ++ [e] <+: c) ∨ c = l ∨ ¬ (l ++ [e] <+: O) := by
  by_cases h1 : c.length ≤ l.length
  · exact .inr (.inl (h.eq_of_length (Nat.le_antisymm h.length_le h1)).symm)
  · by_cases h2 : l ++ [e] <+: O
    · exact .inl (List.prefix_of_prefix_length_le h2 hc (by rw [List.length_append]; simp; omega))
    · exact .inr (.inr h2)
def Xr.stp (l : List Ev) : Nat := (Xr.that 1 l).length
def Xr.rds (l : List Ev) : Nat := (Xr.that 3 l).length
def Xr.readB (O c : List Ev) (s t : Xr.S) : Prop := s.ended = false ∧ t.ended = false ∧ s.evs = t.evs ∧ s.made = t.made ∧ s.evs <+: c ∧ t.inp = (Xr.inOf c).drop (Xr.rds s.evs) ∧ s.inp.length ≤ 50 - Xr.rds s.evs ∧ t.fuel + Xr.stp s.evs = Xr.stp c
def Xr.readU (O c : List Ev) (s t : Xr.S) : Prop := ¬ (s.evs <+: O) ∨ c <+: t.evs ∨ (s.ended = true ∧ t.ended = true ∧ s.evs = t.evs) ∨ (s.ended = true ∧ s.evs ≠ O)
theorem Xr.read_left (O c : List Ev) (t : Xr.S) : Xr.Cl (fun s => Xr.readU O c s t) := by
  have h1 : Xr.Cl (fun s => ¬ (s.evs <+: O)) := Xr.cl_evs (U := fun l _ => ¬ (l <+: O)) (fun l e _ hu h => hu ((List.prefix_append _ _).trans h)) (fun l e _ hu h => hu ((List.prefix_append _ _).trans h))
  refine Xr.Cl.iff (h1.or ((Xr.Cl.const (c <+: t.evs)).or (((Xr.Cl.const (t.ended = true)).and (Xr.cl_same t.evs)).or ?_))) (U := fun s => ¬ (s.evs <+: O) ∨ c <+: t.evs ∨ (t.ended = true ∧ s.ended = true ∧ s.evs = t.evs) ∨ ∃ L, (s.ended = true ∧ s.evs = L) ∧ L ≠ O) (fun s => ?_)
  · have hk := fun L => (Xr.cl_same L).and (Xr.Cl.const (L ≠ O))
    exact ⟨fun s e he ⟨L, hu⟩ => ⟨L, (hk L).tell s e he hu⟩, fun s f a how ⟨L, hu⟩ => ⟨L, (hk L).fin s f a how hu⟩, fun s f a ⟨L, hu⟩ => ⟨L, (hk L).step s f a hu⟩, fun s f ⟨L, hu⟩ => ⟨L, (hk L).read s f hu⟩, fun s f q ⟨L, hu⟩ => ⟨L, (hk L).call s f q hu⟩⟩
  · constructor
    · rintro (h | h | ⟨h, h', h''⟩ | ⟨h, h'⟩)
      · exact .inl h
      · exact .inr (.inl h)
      · exact .inr (.inr (.inl ⟨h', h, h''⟩))
      · exact .inr (.inr (.inr ⟨s.evs, ⟨h, rfl⟩, h'⟩))
    · rintro (h | h | ⟨h, h', h''⟩ | ⟨L, ⟨h, h'⟩, h''⟩)
      · exact .inl h
      · exact .inr (.inl h)
      · exact .inr (.inr (.inl ⟨h', h, h''⟩))
      · exact .inr (.inr (.inr ⟨h, by rw [h']; exact h''⟩))
theorem Xr.read_right (O c : List Ev) (s : Xr.S) : Xr.Cl (fun t => Xr.readU O c s t) := by
  refine Xr.Cl.iff ((Xr.Cl.const (¬ (s.evs <+: O))).or ((Xr.cl_grows c).or (((Xr.Cl.const (s.ended = true)).and (Xr.cl_same s.evs)).or (Xr.Cl.const (s.ended = true ∧ s.evs ≠ O))))) (fun t => ?_)
  constructor
  · rintro (h | h | ⟨h, h', h''⟩ | h)
    · exact .inl h
    · exact .inr (.inl h)
    · exact .inr (.inr (.inl ⟨h, h', h''.symm⟩))
    · exact .inr (.inr (.inr h))
  · rintro (h | h | ⟨h, h', h''⟩ | h)
    · exact .inl h
    · exact .inr (.inl h)
    · exact .inr (.inr (.inl ⟨h, h', h''.symm⟩))
    · exact .inr (.inr (.inr h))
theorem Xr.read_bi {O c : List Ev} (hc : c <+: O) : Xr.Bi (Xr.readB O c) (Xr.readU O c) := by
  refine ⟨fun s t hb => ⟨hb.1, hb.2.1⟩, fun s t e he hb => ?_, fun s t f a how hb => ?_, fun s t f a hb => ?_, fun s t f hb => ?_, fun s t f q hb => ?_, Xr.read_left O c, Xr.read_right O c⟩
  · obtain ⟨h1, h2, h3, h4, h5, h6, h7, h8⟩ := hb
    have hk : (e.n0 == (1 : Int)) = false ∧ (e.n0 == (3 : Int)) = false := by rcases he with h | h | h <;> rw [h] <;> exact ⟨rfl, rfl⟩
    rw [Xr.tell_no h1, Xr.tell_no h2]
    rcases Xr.pre_step h5 hc e with q | q | q
    · refine .inl ⟨h1, h2, by show s.evs ++ [e] = t.evs ++ [e]; rw [h3], h4, q, ?_, ?_, ?_⟩
      · show t.inp = (Xr.inOf c).drop (Xr.rds (s.evs ++ [e]))
        unfold Xr.rds; rw [Xr.that_snoc, if_neg (by simp [hk.2])]; exact h6
      · show s.inp.length ≤ 50 - Xr.rds (s.evs ++ [e])
        unfold Xr.rds; rw [Xr.that_snoc, if_neg (by simp [hk.2])]; exact h7
      · show t.fuel + Xr.stp (s.evs ++ [e]) = Xr.stp c
        unfold Xr.stp; rw [Xr.that_snoc, if_neg (by simp [hk.1])]; exact h8
    · exact .inr (.inr (.inl (by show c <+: t.evs ++ [e]; rw [q, h3]; exact List.prefix_append _ _)))
    · exact .inr (.inl q)
  · obtain ⟨h1, h2, h3, h4, h5, h6, h7, h8⟩ := hb
    refine .inr (.inr (.inl ⟨rfl, rfl, ?_⟩))
    show (Xr.tell s _).evs = (Xr.tell t _).evs
    rw [Xr.tell_no h1, Xr.tell_no h2]
    show s.evs ++ [_] = t.evs ++ [_]
    rw [h3]
  · obtain ⟨h1, h2, h3, h4, h5, h6, h7, h8⟩ := hb
    unfold Xr.stepS
    by_cases hs : s.fuel = 0
    · rw [if_pos hs]
      by_cases ht : t.fuel = 0
      · rw [if_pos ht]
        refine .inr (.inr (.inr (.inl ⟨rfl, rfl, ?_⟩)))
        show (Xr.tell s _).evs = (Xr.tell t _).evs
        rw [Xr.tell_no h1, Xr.tell_no h2]
        show s.evs ++ [_] = t.evs ++ [_]
        rw [h3]
      · rw [if_neg ht]
        refine .inr (.inr (.inr (.inr ⟨rfl, fun hO => ?_⟩)))
        have hO' : s.evs ++ [⟨7, f.num, a, 0, 0, 1⟩] = O := by rw [← hO]; show _ = (Xr.tell s _).evs; rw [Xr.tell_no h1]
        have hp := (Xr.that_pre 1 hc).length_le
        rw [← hO', Xr.that_snoc, if_neg (by simp)] at hp
        have : Xr.stp c ≤ Xr.stp s.evs := hp
        omega
    · rw [if_neg hs]
      have hst : Xr.stp (s.evs ++ [⟨1, f.num, a, 0, 0, 0⟩]) = Xr.stp s.evs + 1 := by
        unfold Xr.stp; rw [Xr.that_snoc, if_pos (by simp), List.length_append]; rfl
      have hrd : Xr.rds (s.evs ++ [⟨1, f.num, a, 0, 0, 0⟩]) = Xr.rds s.evs := by
        unfold Xr.rds; rw [Xr.that_snoc, if_neg (by simp)]
      rw [Xr.tell_no (show ({ s with fuel := s.fuel - 1 } : Xr.S).ended = false from h1)]
      rcases Xr.pre_step h5 hc ⟨1, f.num, a, 0, 0, 0⟩ with q | q | q
      · have hp : Xr.stp (s.evs ++ [⟨1, f.num, a, 0, 0, 0⟩]) ≤ Xr.stp c := (Xr.that_pre 1 q).length_le
        have ht : ¬ t.fuel = 0 := by omega
        rw [if_neg ht, Xr.tell_no (show ({ t with fuel := t.fuel - 1 } : Xr.S).ended = false from h2)]
        refine .inl ⟨⟨h1, h2, by show s.evs ++ [_] = t.evs ++ [_]; rw [h3], h4, q, ?_, ?_, ?_⟩, hs, ht⟩
        · show t.inp = (Xr.inOf c).drop (Xr.rds (s.evs ++ [_])); rw [hrd]; exact h6
        · show s.inp.length ≤ 50 - Xr.rds (s.evs ++ [_]); rw [hrd]; exact h7
        · show t.fuel - 1 + Xr.stp (s.evs ++ [_]) = Xr.stp c; rw [hst]; omega
      · refine .inr ((Xr.read_right O c _).step t f a (.inr (.inl ?_)))
        rw [q, h3]; exact List.prefix_refl _
      · exact .inr (.inl q)
  · obtain ⟨h1, h2, h3, h4, h5, h6, h7, h8⟩ := hb
    have hst : Xr.stp (s.evs ++ [⟨3, f.num, f.at_, 0, 0, Xr.inZ s⟩]) = Xr.stp s.evs := by
      unfold Xr.stp; rw [Xr.that_snoc, if_neg (by simp)]
    have hth : Xr.that 3 (s.evs ++ [⟨3, f.num, f.at_, 0, 0, Xr.inZ s⟩]) = Xr.that 3 s.evs ++ [⟨3, f.num, f.at_, 0, 0, Xr.inZ s⟩] := by
      rw [Xr.that_snoc, if_pos (by simp)]
    have hrd : Xr.rds (s.evs ++ [⟨3, f.num, f.at_, 0, 0, Xr.inZ s⟩]) = Xr.rds s.evs + 1 := by
      unfold Xr.rds; rw [hth, List.length_append]; rfl
    unfold Xr.rdS
    rw [Xr.tell_no (show (Xr.inS s).ended = false from h1)]
    rcases Xr.pre_step h5 hc ⟨3, f.num, f.at_, 0, 0, Xr.inZ s⟩ with q | q | q
    · have hp := Xr.that_pre 3 q
      rw [hth] at hp
      have hg : (Xr.that 3 c)[Xr.rds s.evs]? = some ⟨3, f.num, f.at_, 0, 0, Xr.inZ s⟩ := by
        obtain ⟨r, hr⟩ := hp
        show (Xr.that 3 c)[(Xr.that 3 s.evs).length]? = _
        rw [← hr, List.append_assoc, List.getElem?_append_right (Nat.le_refl _)]
        simp
      have hz : Xr.inZ t = Xr.inZ s := by
        unfold Xr.inZ
        rw [h6]
        by_cases h50 : Xr.rds s.evs < 50
        · have hi : (Xr.inOf c)[Xr.rds s.evs]? = some (Xr.inZ s) := by
            unfold Xr.inOf
            rw [List.getElem?_map, List.getElem?_take, if_pos h50, hg]
            rfl
          have hlt := (List.getElem?_eq_some_iff.1 hi).1
          rw [List.drop_eq_getElem_cons hlt, (List.getElem?_eq_some_iff.1 hi).2]
          rfl
        · have hn : s.inp = [] := List.eq_nil_of_length_eq_zero (by omega)
          have hl : (Xr.inOf c).length ≤ 50 := by
            unfold Xr.inOf
            rw [List.length_map, List.length_take]
            omega
          rw [hn, List.drop_eq_nil_of_le (by omega)]
      rw [Xr.tell_no (show (Xr.inS t).ended = false from h2), hz]
      refine .inl ⟨⟨h1, h2, by show s.evs ++ [_] = t.evs ++ [_]; rw [h3], h4, q, ?_, ?_, ?_⟩, rfl⟩
      · show t.inp.tail = (Xr.inOf c).drop (Xr.rds (s.evs ++ [_]))
        rw [hrd, h6, List.tail_drop]
      · show s.inp.tail.length ≤ 50 - Xr.rds (s.evs ++ [_])
        rw [hrd, List.length_tail]
        omega
      · show t.fuel + Xr.stp (s.evs ++ [_]) = Xr.stp c
        rw [hst]; exact h8
    · refine .inr ((Xr.read_right O c _).read t f (.inr (.inl ?_)))
      rw [q, h3]; exact List.prefix_refl _
    · exact .inr (.inl q)
  · obtain ⟨h1, h2, h3, h4, h5, h6, h7, h8⟩ := hb
    unfold Xr.beg
    rw [h4, Xr.tell_no (show ({ s with made := t.made + 1 } : Xr.S).ended = false from h1), Xr.tell_no (show ({ t with made := t.made + 1 } : Xr.S).ended = false from h2)]
    rcases Xr.pre_step h5 hc ⟨5, f.num, f.at_, q, 0, ((t.made + 1 : Nat) : Int)⟩ with q | q | q
    · refine .inl ⟨⟨h1, h2, by show s.evs ++ [_] = t.evs ++ [_]; rw [h3], rfl, q, ?_, ?_, ?_⟩, rfl⟩
      · show t.inp = (Xr.inOf c).drop (Xr.rds (s.evs ++ [_]))
        unfold Xr.rds; rw [Xr.that_snoc, if_neg (by simp)]; exact h6
      · show s.inp.length ≤ 50 - Xr.rds (s.evs ++ [_])
        unfold Xr.rds; rw [Xr.that_snoc, if_neg (by simp)]; exact h7
      · show t.fuel + Xr.stp (s.evs ++ [_]) = Xr.stp c
        unfold Xr.stp; rw [Xr.that_snoc, if_neg (by simp)]; exact h8
    · exact .inr (.inr (.inl (by show c <+: t.evs ++ [_]; rw [q, h3]; exact List.prefix_append _ _)))
    · exact .inr (.inl q)
/-- A beginning of a run is one of the run with what it has read, and fuel for its steps. -/
theorem Xr.main_pre (hx : p[p.length - 1]? = some x) {inp : List Int} (hi : inp.length ≤ 50) {fuel : Nat} {c : List Ev} (hc : c <+: Xr.main p inp fuel) : c <+: Xr.main p (Xr.inOf c) (Xr.stp c) := by
  obtain ⟨s, t, h1, h2, h3, h4, h5⟩ := (Xr.read_bi hc).all hx inp (Xr.inOf c) fuel (Xr.stp c) ⟨rfl, rfl, rfl, rfl, List.nil_prefix, rfl, by show inp.length ≤ 50 - 0; omega, rfl⟩
  rw [← h5]
  rcases h1 with h | h | ⟨_, _, h⟩ | ⟨_, h⟩
  · exact absurd (by rw [h4]; exact List.prefix_refl _) h
  · exact h
  · rw [← h, h4]; exact hc
  · exact absurd h4 h
/-- What a run has read can come in, and its steps are no more than its fuel. -/
theorem Xr.main_reads (hx : p[p.length - 1]? = some x) {inp : List Int} (hi : inp.any Pg.beyond = false) {fuel : Nat} : (∀ e ∈ Xr.main p inp fuel, e.n0 = 3 → Pg.beyond e.n5 = false) ∧ Xr.stp (Xr.main p inp fuel) ≤ fuel := by
  have hcl : Xr.Cl (fun s => (∀ z ∈ s.inp, Pg.beyond z = false) ∧ (∀ e ∈ s.evs, e.n0 = 3 → Pg.beyond e.n5 = false) ∧ Xr.stp s.evs + s.fuel ≤ fuel) := by
    have ht : ∀ (s : Xr.S) (e : Ev) (k : Nat), (e.n0 = 3 → Pg.beyond e.n5 = false) → (e.n0 = 1 → k = 1) → ((∀ z ∈ s.inp, Pg.beyond z = false) ∧ (∀ e ∈ s.evs, e.n0 = 3 → Pg.beyond e.n5 = false) ∧ Xr.stp s.evs + s.fuel + k ≤ fuel) → ((∀ z ∈ (Xr.tell s e).inp, Pg.beyond z = false) ∧ (∀ d ∈ (Xr.tell s e).evs, d.n0 = 3 → Pg.beyond d.n5 = false) ∧ Xr.stp (Xr.tell s e).evs + (Xr.tell s e).fuel ≤ fuel) := fun s e k he hk hu => by
      cases hs : s.ended with
      | true => rw [Xr.tell_yes hs]; exact ⟨hu.1, hu.2.1, by omega⟩
      | false =>
        rw [Xr.tell_no hs]
        refine ⟨hu.1, fun d hd => ?_, ?_⟩
        · rcases List.mem_append.1 hd with h | h
          · exact hu.2.1 d h
          · simp at h; rw [h]; exact he
        · show Xr.stp (s.evs ++ [e]) + s.fuel ≤ fuel
          have h3 := hu.2.2
          unfold Xr.stp at h3 ⊢
          rw [Xr.that_snoc]
          split
          · rename_i h
            rw [List.length_append]
            have := hk (by simpa using h)
            simp
            omega
          · omega
    refine ⟨fun s e he hu => ht s e 0 (fun h => by rcases he with h' | h' | h' <;> omega) (fun h => by rcases he with h' | h' | h' <;> omega) hu, fun s f a how hu => ?_, fun s f a hu => ?_, fun s f hu => ?_, fun s f q hu => ?_⟩
    · exact ht s ⟨7, f.num, a, 0, 0, how⟩ 0 (fun h => by cases h) (fun h => by cases h) hu
    · unfold Xr.stepS
      by_cases hs : s.fuel = 0
      · simp only [if_pos hs]
        exact ht s ⟨7, f.num, a, 0, 0, 1⟩ 0 (fun h => by cases h) (fun h => by cases h) hu
      · simp only [if_neg hs]
        exact ht { s with fuel := s.fuel - 1 } ⟨1, f.num, a, 0, 0, 0⟩ 1 (fun h => by cases h) (fun _ => rfl) ⟨hu.1, hu.2.1, by show Xr.stp s.evs + (s.fuel - 1) + 1 ≤ fuel; have := hu.2.2; omega⟩
    · refine ht (Xr.inS s) ⟨3, f.num, f.at_, 0, 0, Xr.inZ s⟩ 0 (fun _ => ?_) (fun h => by cases h) ⟨fun z hz => hu.1 z (List.mem_of_mem_tail hz), hu.2⟩
      show Pg.beyond (s.inp.headD 0) = false
      cases hs : s.inp with
      | nil => rfl
      | cons z r => exact hu.1 z (by rw [hs]; exact List.mem_cons_self)
    · exact ht { s with made := s.made + 1 } ⟨5, f.num, f.at_, q, 0, ((s.made + 1 : Nat) : Int)⟩ 0 (fun h => by cases h) (fun h => by cases h) hu
  have h0 : ∀ z ∈ inp, Pg.beyond z = false := fun z hz => by
    cases hb : Pg.beyond z with
    | false => rfl
    | true => have := List.any_eq_true.2 ⟨z, hz, hb⟩; rw [hi] at this; cases this
  obtain ⟨s, h1, h2, h3⟩ := hcl.all hx inp fuel ⟨h0, fun e he => absurd he (by simp), by show 0 + fuel ≤ fuel; omega⟩
  rw [← h3]
  exact ⟨h1.2.1, by have := h1.2.2; omega⟩
end
end Go.Proofs.Ytildjlaphkjegaa
namespace Go.Proofs.Ytildjlaphkjegaa
open Go.RowKit
set_option linter.unusedVariables false

section
variable {m n : Nat} {p : List (Pg.FT m n)}
theorem Xr.last_of (h : Pg.chkP p = 0) : ∃ x, p[p.length - 1]? = some x := by
  unfold Pg.chkP at h
  split at h
  · cases h
  · rename_i h0
    exact ⟨p[p.length - 1]'(by omega), List.getElem?_eq_getElem (by omega)⟩
/-- A run that may begin. -/
structure Xr.Ok (p : List (Pg.FT m n)) (inp : List Int) (fuel : Int) : Prop where
  chk : Pg.chkP p = 0
  few : inp.length ≤ 50
  fit : inp.any Pg.beyond = false
  lo : 0 ≤ fuel
  hi : fuel ≤ 500
theorem Xr.Ok.of {inp : List Int} {fuel : Int} (h : Xr.chkR p inp fuel = 0) : Xr.Ok p inp fuel := by
  unfold Xr.chkR at h
  split at h
  · rename_i h0
    unfold Pg.chkIn at h
    split at h
    · cases h
    rename_i h1
    split at h
    · cases h
    rename_i h2
    split at h
    · rename_i h3
      exact ⟨h0, by omega, by simpa using h2, h3.1, h3.2⟩
    · cases h
  · rename_i h0
    exact absurd h h0
theorem Xr.Ok.chkR {inp : List Int} {fuel : Int} (h : Xr.Ok p inp fuel) : Xr.chkR p inp fuel = 0 := by
  unfold Xr.chkR Pg.chkIn
  rw [if_pos h.chk, if_neg (by have := h.few; omega), if_neg (by simp [h.fit]), if_pos ⟨h.lo, h.hi⟩]
theorem Xr.Ok.out {inp : List Int} {fuel : Int} (h : Xr.Ok p inp fuel) : Xr.out p inp fuel = Xr.main p inp fuel.toNat := by
  unfold Xr.out
  rw [if_pos h.chkR]
theorem Xr.out_no {inp : List Int} {fuel : Int} (h : Xr.chkR p inp fuel ≠ 0) : Xr.out p inp fuel = [] := by
  unfold Xr.out
  rw [if_neg h]
/-- It ends, and with nothing else. -/
theorem Xr.Ok.end_ {inp : List Int} {fuel : Int} (h : Xr.Ok p inp fuel) : ∃ r e, Xr.out p inp fuel = r ++ [e] ∧ e.n0 = 7 := by
  obtain ⟨x, hx⟩ := Xr.last_of h.chk
  obtain ⟨r, e, h1, h2, _⟩ := Xr.main_end hx inp fuel.toNat
  exact ⟨r, e, by rw [h.out]; exact h1, h2⟩
/-- The run of what was read, with fuel for the steps, may begin. -/
theorem Xr.Ok.again {inp : List Int} {fuel : Int} (h : Xr.Ok p inp fuel) {c : List Ev} (hc : c <+: Xr.out p inp fuel) : Xr.Ok p (Xr.inOf c) ((Xr.stp c : Nat) : Int) := by
  obtain ⟨x, hx⟩ := Xr.last_of h.chk
  rw [h.out] at hc
  obtain ⟨h1, h2⟩ := Xr.main_reads hx h.fit (fuel := fuel.toNat)
  have h3 : Xr.stp c ≤ Xr.stp (Xr.main p inp fuel.toNat) := (Xr.that_pre 1 hc).length_le
  refine ⟨h.chk, ?_, ?_, by omega, by have := h.hi; omega⟩
  · unfold Xr.inOf
    rw [List.length_map, List.length_take]
    omega
  · rw [Bool.eq_false_iff]
    intro ha
    obtain ⟨z, hz, hb⟩ := List.any_eq_true.1 ha
    unfold Xr.inOf at hz
    obtain ⟨e, he, rfl⟩ := List.mem_map.1 hz
    have he2 := List.mem_filter.1 (List.mem_of_mem_take he)
    have := h1 e (hc.subset he2.1) (by simpa using he2.2)
    rw [this] at hb
    cases hb
/-- Each beginning is Right. -/
theorem Xr.Ok.right {inp : List Int} {fuel : Int} (h : Xr.Ok p inp fuel) (hl : (Xr.out p inp fuel).length ≤ 3901) (j : Nat) : Xr.chkL p ((Xr.out p inp fuel).take j) = 0 ∧ Xr.right p ((Xr.out p inp fuel).take j) = true := by
  have hc : (Xr.out p inp fuel).take j <+: Xr.out p inp fuel := List.take_prefix _ _
  have ha := h.again hc
  obtain ⟨x, hx⟩ := Xr.last_of h.chk
  have hlen := hc.length_le
  have hp := hc
  rw [h.out] at hp
  have hm := Xr.main_pre hx h.few hp
  have h0 : Xr.chkL p ((Xr.out p inp fuel).take j) = 0 := by
    unfold Xr.chkL
    rw [if_pos h.chk, if_neg (by omega)]
  refine ⟨h0, ?_⟩
  rw [← h.out] at hm
  generalize (Xr.out p inp fuel).take j = c at *
  unfold Xr.right
  have ho : Xr.out p (Xr.inOf c) (((Xr.that 1 c).length : Nat) : Int) = Xr.main p (Xr.inOf c) (Xr.stp c) := ha.out
  have hk : Xr.chkR p (Xr.inOf c) (((Xr.that 1 c).length : Nat) : Int) = 0 := ha.chkR
  rw [ho, hk, h0]
  have h1 := hm.length_le
  have h2 : Xr.sameL c ((Xr.main p (Xr.inOf c) (Xr.stp c)).take c.length) = true := (Xr.sameL_iff _ _).2 (List.prefix_iff_eq_take.1 hm)
  simp [h1, h2]
/-- With another event behind its end it is not. -/
theorem Xr.Ok.wrong {inp : List Int} {fuel : Int} (h : Xr.Ok p inp fuel) (hl : (Xr.out p inp fuel).length ≤ 3901) (e : Ev) : Xr.chkL p (Xr.out p inp fuel ++ [e]) = 0 ∧ Xr.right p (Xr.out p inp fuel ++ [e]) = false := by
  obtain ⟨x, hx⟩ := Xr.last_of h.chk
  have h0 : Xr.chkL p (Xr.out p inp fuel ++ [e]) = 0 := by
    unfold Xr.chkL
    rw [if_pos h.chk, if_neg (by rw [List.length_append]; simp; omega)]
  refine ⟨h0, ?_⟩
  rw [Bool.eq_false_iff]
  intro hr
  unfold Xr.right at hr
  simp only [Bool.and_eq_true, decide_eq_true_eq] at hr
  obtain ⟨⟨⟨_, h1⟩, h2⟩, h3⟩ := hr
  have ha := Xr.Ok.of h1
  rw [ha.out] at h3
  have h4 := (Xr.sameL_iff _ _).1 h3
  have h5 := List.prefix_iff_eq_take.2 h4
  rw [h.out] at h5
  exact Xr.main_last hx _ _ _ _ e h5
/-- With more fuel. -/
theorem Xr.Ok.more {inp : List Int} {fuel more : Int} (h : Xr.Ok p inp fuel) (h2 : Xr.Ok p inp more) (hf : fuel ≤ more) {r : List Ev} {e : Ev} (hr : Xr.out p inp fuel = r ++ [e]) : (e.n5 ≠ 1 → Xr.out p inp fuel = Xr.out p inp more) ∧ r <+: Xr.out p inp more := by
  obtain ⟨x, hx⟩ := Xr.last_of h.chk
  have hm := Xr.main_more hx inp (show fuel.toNat ≤ more.toNat by have := h.lo; omega)
  rw [← h.out, ← h2.out] at hm
  rcases hm with hm | ⟨l, d, h3, h4, h5⟩
  · exact ⟨fun _ => hm, by rw [← hm, hr]; exact List.prefix_append _ _⟩
  · rw [hr] at h3
    obtain ⟨rfl, h6⟩ := List.append_inj' h3 rfl
    cases h6
    exact ⟨fun h7 => absurd h4 h7, h5⟩
end
end Go.Proofs.Ytildjlaphkjegaa
