/-
  What a run tells, told again: frames made out of its events alone. By the verifier.
-/
import Derived.Test.YtildjlaphkjegaaXGo
namespace Go.Proofs.Ytildjlaphkjegaa
open Go.RowKit
set_option linter.unusedVariables false

/-- A frame as events tell it. -/
structure Xr.Fr where
  num : Int
  fn : Int
  vs : List (List Int)
def Xr.zeros (sz : List Int) : List (List Int) := sz.map fun n => List.replicate (max n 1).toNat 0
def Xr.szOf {m n : Nat} (p : List (Pg.FT m n)) (q : Int) : List Int := ((p[q.toNat]?).map (fun x => x.sizes)).getD []
/-- One event more. -/
def Xr.rep1 {m n : Nat} (p : List (Pg.FT m n)) (st : List Xr.Fr) (e : Ev) : List Xr.Fr :=
  if e.n0 = 5 then st ++ [⟨e.n5, e.n3, Xr.zeros (Xr.szOf p e.n3)⟩]
  else if e.n0 = 6 then st.dropLast
  else if e.n0 = 2 then (match st.getLast? with
    | none => st
    | some t => st.dropLast ++ [⟨t.num, t.fn, Xr.upd t.vs e.n3.toNat e.n4.toNat e.n5⟩])
  else st
def Xr.reps {m n : Nat} (p : List (Pg.FT m n)) (st : List Xr.Fr) (l : List Ev) : List Xr.Fr := l.foldl (Xr.rep1 p) st
/-- An event that can be told of these frames. -/
def Xr.good1 {m n : Nat} (p : List (Pg.FT m n)) (st : List Xr.Fr) (e : Ev) : Prop :=
  ∃ st0 t, st = st0 ++ [t] ∧ (e.n0 = 2 → e.n1 = t.num ∧ ∃ (v i : Nat) (l : List Int), e.n3 = v ∧ e.n4 = i ∧ t.vs[v]? = some l ∧ i < l.length) ∧ (e.n0 = 5 → e.n1 = t.num ∧ ∃ (q : Nat) (x : Pg.FT m n), e.n3 = q ∧ p[q]? = some x) ∧ (e.n0 = 6 → e.n1 = t.num ∧ st0 ≠ [])
def Xr.good {m n : Nat} (p : List (Pg.FT m n)) (st : List Xr.Fr) (l : List Ev) : Prop := ∀ l1 e l2, l = l1 ++ e :: l2 → Xr.good1 p (Xr.reps p st l1) e
section
variable {m n : Nat} {p : List (Pg.FT m n)}
theorem Xr.reps_snoc (st : List Xr.Fr) (l : List Ev) (e : Ev) : Xr.reps p st (l ++ [e]) = Xr.rep1 p (Xr.reps p st l) e := by
  unfold Xr.reps
  rw [List.foldl_append]
  rfl
theorem Xr.good_snoc {st : List Xr.Fr} {l : List Ev} {e : Ev} (h : Xr.good p st l) (he : Xr.good1 p (Xr.reps p st l) e) : Xr.good p st (l ++ [e]) := by
  intro l1 d l2 hl
  by_cases h2 : l2 = []
  · subst h2
    obtain ⟨h3, h4⟩ := List.append_inj' hl rfl
    cases h4
    rw [← h3]
    exact he
  · obtain ⟨r, y, rfl⟩ : ∃ r y, l2 = r ++ [y] := ⟨l2.dropLast, l2.getLast h2, (List.dropLast_concat_getLast h2).symm⟩
    rw [← List.cons_append, ← List.append_assoc] at hl
    obtain ⟨h3, h4⟩ := List.append_inj' hl rfl
    exact h l1 d r h3
theorem Xr.rep1_wr (st : List Xr.Fr) (t : Xr.Fr) {e : Ev} (h : e.n0 = 2) : Xr.rep1 p (st ++ [t]) e = st ++ [⟨t.num, t.fn, Xr.upd t.vs e.n3.toNat e.n4.toNat e.n5⟩] := by
  unfold Xr.rep1
  rw [if_neg (by omega), if_neg (by omega), if_pos h]
  simp
theorem Xr.rep1_call (st : List Xr.Fr) {e : Ev} (h : e.n0 = 5) : Xr.rep1 p st e = st ++ [⟨e.n5, e.n3, Xr.zeros (Xr.szOf p e.n3)⟩] := by
  unfold Xr.rep1
  rw [if_pos h]
theorem Xr.rep1_back (st : List Xr.Fr) (t : Xr.Fr) {e : Ev} (h : e.n0 = 6) : Xr.rep1 p (st ++ [t]) e = st := by
  unfold Xr.rep1
  rw [if_neg (by omega), if_pos h]
  simp
theorem Xr.rep1_no (st : List Xr.Fr) {e : Ev} (h5 : e.n0 ≠ 5) (h6 : e.n0 ≠ 6) (h2 : e.n0 ≠ 2) : Xr.rep1 p st e = st := by
  unfold Xr.rep1
  rw [if_neg h5, if_neg h6, if_neg h2]

/-- The events so far are told of frames, the last of which is the one at hand. -/
structure Xr.Iv (p : List (Pg.FT m n)) (s0 st : List Xr.Fr) (q : Nat) (s : Xr.S) (f : Xr.F) : Prop where
  good : Xr.good p s0 s.evs
  rep : s.ended = false → Xr.reps p s0 s.evs = st ++ [⟨f.num, q, f.vs⟩]
variable {s0 st : List Xr.Fr} {q : Nat} {s : Xr.S} {f : Xr.F}
theorem Xr.Iv.tell (h : Xr.Iv p s0 st q s f) (e : Ev) {st' : List Xr.Fr} {q' : Nat} {f' : Xr.F} (hg : Xr.good1 p (st ++ [⟨f.num, q, f.vs⟩]) e) (hr : Xr.rep1 p (st ++ [⟨f.num, q, f.vs⟩]) e = st' ++ [⟨f'.num, q', f'.vs⟩]) : Xr.Iv p s0 st' q' (Xr.tell s e) f' := by
  cases hs : s.ended with
  | true =>
    rw [Xr.tell_yes hs]
    exact ⟨h.good, fun h2 => by rw [hs] at h2; cases h2⟩
  | false =>
    rw [Xr.tell_no hs]
    refine ⟨Xr.good_snoc h.good (by rw [h.rep hs]; exact hg), fun _ => ?_⟩
    show Xr.reps p s0 (s.evs ++ [e]) = _
    rw [Xr.reps_snoc, h.rep hs]
    exact hr
/-- Where all has ended, any frame is at hand. -/
theorem Xr.Iv.over (h : Xr.Iv p s0 st q s f) (hs : s.ended = true) (st' : List Xr.Fr) (q' : Nat) (f' : Xr.F) : Xr.Iv p s0 st' q' s f' := ⟨h.good, fun h2 => by rw [hs] at h2; cases h2⟩
theorem Xr.good1_plain (st : List Xr.Fr) (t : Xr.Fr) {e : Ev} (h2 : e.n0 ≠ 2) (h5 : e.n0 ≠ 5) (h6 : e.n0 ≠ 6) : Xr.good1 p (st ++ [t]) e := ⟨st, t, rfl, fun h => absurd h h2, fun h => absurd h h5, fun h => absurd h h6⟩
theorem Xr.Iv.plain (h : Xr.Iv p s0 st q s f) (e : Ev) (h2 : e.n0 ≠ 2) (h5 : e.n0 ≠ 5) (h6 : e.n0 ≠ 6) {f' : Xr.F} (hn : f'.num = f.num) (hv : f'.vs = f.vs) : Xr.Iv p s0 st q (Xr.tell s e) f' :=
  h.tell e (Xr.good1_plain _ _ h2 h5 h6) (by rw [Xr.rep1_no _ h5 h6 h2, hn, hv])
theorem Xr.Iv.fin (h : Xr.Iv p s0 st q s f) (a how : Int) (st' : List Xr.Fr) (q' : Nat) (f' g : Xr.F) : Xr.Iv p s0 st' q' (Xr.fin s g a how) f' := by
  have h1 := h.plain ⟨7, g.num, a, 0, 0, how⟩ (by show (7 : Int) ≠ 2; omega) (by show (7 : Int) ≠ 5; omega) (by show (7 : Int) ≠ 6; omega) (f' := f) rfl rfl
  exact ⟨h1.good, fun h2 => by cases h2⟩
theorem Xr.Iv.val (h : Xr.Iv p s0 st q s f) {k : Nat} (x : Pg.XT k) : Xr.Iv p s0 st q (Xr.valS s f x) f := by
  unfold Xr.valS
  split
  · exact h
  · split
    · exact h
    · exact h.fin _ _ _ _ _ _
theorem Xr.Iv.step (h : Xr.Iv p s0 st q s f) (a : Int) : Xr.Iv p s0 st q (Xr.stepS s f a) (Xr.stepF s f a) := by
  unfold Xr.stepS Xr.stepF
  split
  · exact h.fin _ _ _ _ _ _
  · exact Xr.Iv.plain (s := { s with fuel := s.fuel - 1 }) (f := f) ⟨h.good, h.rep⟩ _ (by show (1 : Int) ≠ 2; omega) (by show (1 : Int) ≠ 5; omega) (by show (1 : Int) ≠ 6; omega) rfl rfl
theorem Xr.Iv.wr (h : Xr.Iv p s0 st q s f) (a v i z : Int) (hv : ∃ (vn k : Nat) (l : List Int), v = vn ∧ i = k ∧ f.vs[vn]? = some l ∧ k < l.length) : Xr.Iv p s0 st q (Xr.wrS s f a v i z) (Xr.wrF f v i z) := by
  obtain ⟨vn, k, l, rfl, rfl, h1, h2⟩ := hv
  exact h.tell _ ⟨st, _, rfl, fun _ => ⟨rfl, vn, k, l, rfl, rfl, h1, h2⟩, fun h5 => (by cases h5), fun h6 => (by cases h6)⟩ (by rw [Xr.rep1_wr _ _ rfl]; rfl)
theorem Xr.Iv.put (h : Xr.Iv p s0 st q s f) {k : Nat} (v : Int) (ix ex : Pg.XT k) (hv : 0 ≤ v) : Xr.Iv p s0 st q (Xr.putS s f v ix ex) (Xr.putF s f v ix ex) := by
  unfold Xr.putS Xr.putF
  split
  · rename_i hc
    refine ((h.val ix).val ex).wr _ _ _ _ ?_
    cases hl : f.vs[v.toNat]? with
    | none => rw [hl] at hc; have h1 : ((none : Option (List Int)).getD []).length = 0 := rfl; rw [h1] at hc; omega
    | some l =>
      rw [hl] at hc
      have h1 : ((some l).getD []).length = l.length := rfl
      rw [h1] at hc
      exact ⟨v.toNat, (Xr.valV s f ix).toNat, l, by omega, by omega, hl, by omega⟩
  · exact ((h.val ix).val ex).fin _ _ _ _ _ _
theorem Xr.Iv.read (h : Xr.Iv p s0 st q s f) (v : Int) (hv : ∃ (vn : Nat) (l : List Int), v = vn ∧ f.vs[vn]? = some l ∧ 0 < l.length) : Xr.Iv p s0 st q (Xr.readS s f v) (Xr.readF s f v) := by
  obtain ⟨vn, l, h1, h2, h3⟩ := hv
  exact Xr.Iv.wr (Xr.Iv.plain (s := Xr.inS s) (f := f) ⟨h.good, h.rep⟩ _ (by show (3 : Int) ≠ 2; omega) (by show (3 : Int) ≠ 5; omega) (by show (3 : Int) ≠ 6; omega) rfl rfl) _ _ _ _ ⟨vn, 0, l, h1, rfl, h2, h3⟩
theorem Xr.Iv.arg {k : Nat} : ∀ (l : List (Pg.XT k)) {s : Xr.S}, Xr.Iv p s0 st q s f → Xr.Iv p s0 st q (Xr.argS f l s) f
  | [], s, h => h
  | x :: r, s, h => Xr.Iv.arg r (h.val x)
theorem Xr.Iv.par : ∀ (zs : List Int) (i : Nat) (s : Xr.S) (g : Xr.F) (a : Int), Xr.Iv p s0 st q s g → (∀ k, i ≤ k → k < i + zs.length → ∃ l, g.vs[k]? = some l ∧ 0 < l.length) → Xr.Iv p s0 st q (Xr.parS g a i zs s) (Xr.parF i zs g)
  | [], i, s, g, a, h, _ => h
  | z :: r, i, s, g, a, h, hv => by
    obtain ⟨l, h1, h2⟩ := hv i (Nat.le_refl _) (by rw [List.length_cons]; omega)
    have hw := h.wr a (i : Nat) 0 z ⟨i, 0, l, rfl, rfl, h1, h2⟩
    have hn : ∀ (k : Nat) (zs : List Int) (s : Xr.S) (g g' : Xr.F), g.num = g'.num → Xr.parS g a k zs s = Xr.parS g' a k zs s := by
      intro k zs
      induction zs generalizing k with
      | nil => intro s g g' _; rfl
      | cons y t ih =>
        intro s g g' hg
        show Xr.parS g a (k + 1) t (Xr.wrS s g a (k : Nat) 0 y) = Xr.parS g' a (k + 1) t (Xr.wrS s g' a (k : Nat) 0 y)
        have e1 : Xr.wrS s g a (k : Nat) 0 y = Xr.wrS s g' a (k : Nat) 0 y := by unfold Xr.wrS; rw [hg]
        rw [e1]
        exact ih (k + 1) _ g g' hg
    show Xr.Iv p s0 st q (Xr.parS g a (i + 1) r (Xr.wrS s g a (i : Nat) 0 z)) (Xr.parF (i + 1) r (Xr.wrF g (i : Nat) 0 z))
    rw [hn (i + 1) r _ g (Xr.wrF g (i : Nat) 0 z) rfl]
    refine Xr.Iv.par r (i + 1) _ _ a hw (fun k hk1 hk2 => ?_)
    obtain ⟨l', h3, h4⟩ := hv k (by omega) (by rw [List.length_cons]; omega)
    refine ⟨l', ?_, h4⟩
    show (Xr.upd g.vs _ _ z)[k]? = _
    rw [show ((i : Nat) : Int).toNat = i from rfl, Xr.upd_at h1, if_neg (by omega)]
    exact h3
end

/-! ### The run -/
section
variable {m n : Nat} {p : List (Pg.FT m n)} {s0 : List Xr.Fr}
/-- A piece of a run that keeps it, in the function of that number. -/
def Xr.Keeps (p : List (Pg.FT m n)) (s0 st : List Xr.Fr) (now : Nat) (x : Pg.FT m n) (g : Xr.S → Xr.F → Xr.T) : Prop :=
  ∀ s f, Xr.Iv p s0 st now s f → Xr.Sh f.vs x.sizes → Xr.Iv p s0 st now (g s f).1 (g s f).2 ∧ Xr.Sh (g s f).2.vs x.sizes
variable {st : List Xr.Fr} {now : Nat} {x : Pg.FT m n}
theorem Xr.Keeps.loop {k : Nat} {body : Xr.S → Xr.F → Xr.T} (hb : Xr.Keeps p s0 st now x body) (ex : Pg.XT k) (a : Int) : ∀ (c : Nat), Xr.Keeps p s0 st now x (fun s f => Xr.loop body ex a c s f)
  | 0, s, f, h, hs => ⟨h, hs⟩
  | c + 1, s, f, h, hs => by
    show Xr.Iv p s0 st now (if Xr.valV s f ex = 0 then (Xr.valS s f ex, f) else Xr.loop body ex a c (Xr.stepS (body (Xr.valS s f ex) f).1 (body (Xr.valS s f ex) f).2 a) (Xr.stepF (body (Xr.valS s f ex) f).1 (body (Xr.valS s f ex) f).2 a)).1 (if Xr.valV s f ex = 0 then (Xr.valS s f ex, f) else Xr.loop body ex a c (Xr.stepS (body (Xr.valS s f ex) f).1 (body (Xr.valS s f ex) f).2 a) (Xr.stepF (body (Xr.valS s f ex) f).1 (body (Xr.valS s f ex) f).2 a)).2 ∧ Xr.Sh (if Xr.valV s f ex = 0 then (Xr.valS s f ex, f) else Xr.loop body ex a c (Xr.stepS (body (Xr.valS s f ex) f).1 (body (Xr.valS s f ex) f).2 a) (Xr.stepF (body (Xr.valS s f ex) f).1 (body (Xr.valS s f ex) f).2 a)).2.vs x.sizes
    split
    · exact ⟨h.val ex, hs⟩
    · obtain ⟨h1, h2⟩ := hb _ f (h.val ex) hs
      refine Xr.Keeps.loop hb ex a c _ _ (h1.step a) ?_
      have : (Xr.stepF (body (Xr.valS s f ex) f).1 (body (Xr.valS s f ex) f).2 a).vs = (body (Xr.valS s f ex) f).2.vs := by unfold Xr.stepF; split <;> rfl
      rw [this]
      exact h2
/-- What a handler of calls must keep. -/
def Xr.CallKeeps (p : List (Pg.FT m n)) (s0 : List Xr.Fr) (hc : Xr.S → Xr.F → Int → Int → List (Pg.XT m) → Xr.T) : Prop :=
  ∀ (st : List Xr.Fr) (now j : Nat) (x : Pg.FT m n) (y : Pg.CT m (j + 1)), p[now]? = some x → Pg.wcm p now x y = 0 → y.1.1 = 3 → Xr.Keeps p s0 st now x (fun s f => hc s f y.1.2.1 y.1.2.2 y.2.1.2.2)
theorem Xr.keeps_cmdT {j : Nat} {hc : Xr.S → Xr.F → Int → Int → List (Pg.XT m) → Xr.T} {cs : List (Pg.CT m j) → Nat → Xr.S → Xr.F → Xr.T} (hx : p[now]? = some x) (h1 : Xr.CallKeeps p s0 hc) (h2 : ∀ l a, Pg.wcs p now x j l = 0 → Xr.Keeps p s0 st now x (fun s f => cs l a s f)) (c : Pg.CT m (j + 1)) (a : Nat) (hw : Pg.wcm p now x c = 0) (ht : Pg.wcs p now x j c.2.2.1 = 0) (he : Pg.wcs p now x j c.2.2.2 = 0) : Xr.Keeps p s0 st now x (fun s f => Xr.cmdT hc cs c a s f) := by
  intro s f h hs
  obtain ⟨hk, hva, hmy, _, _, _⟩ := Xr.wc_ok (show Pg.wc c.1.1 (Pg.at? x.sizes c.1.2.1) _ _ _ _ _ _ = 0 from hw)
  have hvar : c.1.1 ≤ 4 → ∃ (vn : Nat) (l : List Int), c.1.2.1 = vn ∧ f.vs[vn]? = some l ∧ 0 < l.length := fun h4 => by
    obtain ⟨z, hz⟩ := hva h4
    obtain ⟨i, l, e1, e2, e3, _⟩ := hs.var hz
    exact ⟨i, l, e1, e2, e3⟩
  show Xr.Iv p s0 st now (Xr.cmdT hc cs c a s f).1 (Xr.cmdT hc cs c a s f).2 ∧ Xr.Sh (Xr.cmdT hc cs c a s f).2.vs x.sizes
  unfold Xr.cmdT
  split
  · rename_i h0
    obtain ⟨vn, l, e1, e2, e3⟩ := hvar (by omega)
    exact ⟨(h.val _).wr _ _ _ _ ⟨vn, 0, l, e1, rfl, e2, e3⟩, hs.upd _ _ _⟩
  split
  · rename_i h0
    obtain ⟨vn, l, e1, e2, e3⟩ := hvar (by omega)
    refine ⟨h.put _ _ _ (by omega), ?_⟩
    show Xr.Sh (Xr.putF s f c.1.2.1 c.2.1.1 c.2.1.2.1).vs x.sizes
    unfold Xr.putF
    split
    · exact hs.upd _ _ _
    · exact hs
  split
  · rename_i h0
    exact h1 st now j x c hx hw h0 s f h hs
  split
  · rename_i h0
    exact ⟨h.read _ (hvar (by omega)), hs.upd _ _ _⟩
  split
  · exact ⟨(h.val _).plain _ (by show (4 : Int) ≠ 2; omega) (by show (4 : Int) ≠ 5; omega) (by show (4 : Int) ≠ 6; omega) rfl rfl, hs⟩
  split
  · split
    · exact h2 _ _ ht _ f (h.val _) hs
    · exact h2 _ _ he _ f (h.val _) hs
  · exact Xr.Keeps.loop (h2 _ _ ht) _ _ _ s f h hs
theorem Xr.keeps_cmds {hc : Xr.S → Xr.F → Int → Int → List (Pg.XT m) → Xr.T} (hx : p[now]? = some x) (h1 : Xr.CallKeeps p s0 hc) : ∀ (j : Nat) (l : List (Pg.CT m j)) (a : Nat), Pg.wcs p now x j l = 0 → Xr.Keeps p s0 st now x (fun s f => Xr.cmds hc j l a s f)
  | 0, l, a, _ => fun s f h hs => ⟨h, hs⟩
  | j + 1, l, a, hw => by
    have hall := Xr.wcs_ok hw
    have key : ∀ (l : List (Pg.CT m (j + 1))) (a : Nat), (∀ y ∈ l, Pg.wcm p now x y = 0 ∧ Pg.wcs p now x j y.2.2.1 = 0 ∧ Pg.wcs p now x j y.2.2.2 = 0) → Xr.Keeps p s0 st now x (fun s f => Xr.walk (Xr.cmd hc (Xr.cmds hc j)) (Pg.cnt (j + 1)) l a s f) := by
      intro l
      induction l with
      | nil => intro a _ s f h hs; exact ⟨h, hs⟩
      | cons c r ih =>
        intro a hr s f h hs
        show Xr.Iv p s0 st now (if s.ended then (s, f) else Xr.walk (Xr.cmd hc (Xr.cmds hc j)) (Pg.cnt (j + 1)) r (a + Pg.cnt (j + 1) c) (Xr.cmd hc (Xr.cmds hc j) c a s f).1 (Xr.cmd hc (Xr.cmds hc j) c a s f).2).1 (if s.ended then (s, f) else Xr.walk (Xr.cmd hc (Xr.cmds hc j)) (Pg.cnt (j + 1)) r (a + Pg.cnt (j + 1) c) (Xr.cmd hc (Xr.cmds hc j) c a s f).1 (Xr.cmd hc (Xr.cmds hc j) c a s f).2).2 ∧ Xr.Sh (if s.ended then (s, f) else Xr.walk (Xr.cmd hc (Xr.cmds hc j)) (Pg.cnt (j + 1)) r (a + Pg.cnt (j + 1) c) (Xr.cmd hc (Xr.cmds hc j) c a s f).1 (Xr.cmd hc (Xr.cmds hc j) c a s f).2).2.vs x.sizes
        split
        · exact ⟨h, hs⟩
        · obtain ⟨w1, w2, w3⟩ := hr c List.mem_cons_self
          have hst : (Xr.stepF s f (a : Nat)).vs = f.vs := by unfold Xr.stepF; split <;> rfl
          obtain ⟨i1, i2⟩ := Xr.keeps_cmdT hx h1 (fun l a hl => Xr.keeps_cmds hx h1 j l a hl) c a w1 w2 w3 (Xr.stepS s f (a : Nat)) (Xr.stepF s f (a : Nat)) (h.step _) (by rw [hst]; exact hs)
          exact ih _ (fun y hy => hr y (List.mem_cons_of_mem _ hy)) _ _ i1 i2
    exact key l a hall
/-- All functions of a program pass. -/
def Xr.Fine (p : List (Pg.FT m n)) : Prop := ∀ (i : Nat) (x : Pg.FT m n), p[i]? = some x → Pg.wfn p i x = 0
theorem Xr.fine_of (h : Pg.chkP p = 0) : Xr.Fine p := by
  unfold Pg.chkP at h
  split at h
  · cases h
  split at h
  · cases h
  split at h
  · cases h
  intro i x hx
  have h4 : (Pg.wfns p)[i]? = some (Pg.wfn p i x) := by unfold Pg.wfns; rw [List.getElem?_mapIdx, hx]; rfl
  exact Pg.first_zero h _ (List.mem_of_getElem? h4)
theorem Xr.keeps_call (hf : Xr.Fine p) : ∀ (d : Nat), Xr.CallKeeps p s0 (Xr.call p d)
  | 0 => fun st now j x y hx hw h3 s f h hs => ⟨(h.arg _).fin _ _ _ _ _ _, hs⟩
  | d + 1 => fun st now j x y hx hw h3 s f h hs => by
    show Xr.Iv p s0 st now (Xr.call p (d + 1) s f y.1.2.1 y.1.2.2 y.2.1.2.2).1 (Xr.call p (d + 1) s f y.1.2.1 y.1.2.2 y.2.1.2.2).2 ∧ Xr.Sh (Xr.call p (d + 1) s f y.1.2.1 y.1.2.2 y.2.1.2.2).2.vs x.sizes
    obtain ⟨_, hva, hmy, _, _, _⟩ := Xr.wc_ok (show Pg.wc y.1.1 (Pg.at? x.sizes y.1.2.1) (Pg.may now p.length y.1.2.2) _ (decide ((y.2.1.2.2.length : Int) = Pg.parOf p y.1.2.2)) _ _ _ = 0 from hw)
    obtain ⟨hmay, hpar⟩ := hmy h3
    obtain ⟨z, hz⟩ := hva (by omega)
    obtain ⟨vn, lv, e1, e2, e3, _⟩ := hs.var hz
    unfold Xr.call
    split
    · exact ⟨h, hs⟩
    · rename_i xq hxq
      have hq : 0 ≤ y.1.2.2 := by
        have := of_decide_eq_true (show decide (0 ≤ y.1.2.2 ∧ y.1.2.2 ≤ (now : Int) ∧ y.1.2.2 < (p.length : Int) - 1) = true from hmay)
        omega
      have hpn : (y.2.1.2.2.length : Int) = xq.params := by
        have h5 := of_decide_eq_true hpar
        unfold Pg.parOf at h5
        rw [hxq] at h5
        exact h5
      obtain ⟨hw1, hw2⟩ := Pg.orW_zero (show Pg.orW _ (Pg.orW _ _) = 0 from hf _ xq hxq)
      obtain ⟨hw3, _⟩ := Pg.orW_zero hw2
      obtain ⟨k1, k2, _, _⟩ := Xr.head_ok hw1
      have ha := h.arg y.2.1.2.2
      generalize Xr.argS f y.2.1.2.2 s = s1 at *
      have hzl := Xr.argV_len f y.2.1.2.2 s
      generalize Xr.argV f y.2.1.2.2 s = zs at *
      have hsz : Xr.szOf p ((y.1.2.2.toNat : Nat) : Int) = xq.sizes := by
        unfold Xr.szOf
        rw [Int.toNat_natCast, hxq]
        rfl
      have hq2 : ((y.1.2.2.toNat : Nat) : Int) = y.1.2.2 := by omega
      have hb : Xr.Iv p s0 (st ++ [⟨f.num, now, f.vs⟩]) y.1.2.2.toNat (Xr.beg s1 f (y.1.2.2.toNat : Nat)) (Xr.newF (s1.made + 1) (f.deep + 1) xq.sizes) := by
        unfold Xr.beg
        refine Xr.Iv.tell (s := { s1 with made := s1.made + 1 }) (f := f) (st := st) (q := now) ⟨ha.good, ha.rep⟩ _ ⟨st, _, rfl, fun h2 => (by cases h2), fun _ => ⟨rfl, y.1.2.2.toNat, xq, rfl, hxq⟩, fun h6 => (by cases h6)⟩ ?_
        rw [Xr.rep1_call _ rfl]
        show _ ++ [(⟨((s1.made + 1 : Nat) : Int), ((y.1.2.2.toNat : Nat) : Int), Xr.zeros (Xr.szOf p ((y.1.2.2.toNat : Nat) : Int))⟩ : Xr.Fr)] = _
        rw [hsz]
        rfl
      have hnew : Xr.Sh (Xr.newF (s1.made + 1) (f.deep + 1) xq.sizes).vs xq.sizes := Xr.Sh.new _ _ _
      have hp : Xr.Iv p s0 (st ++ [⟨f.num, now, f.vs⟩]) y.1.2.2.toNat (Xr.parS (Xr.newF (s1.made + 1) (f.deep + 1) xq.sizes) f.at_ 0 zs (Xr.beg s1 f (y.1.2.2.toNat : Nat))) (Xr.parF 0 zs (Xr.newF (s1.made + 1) (f.deep + 1) xq.sizes)) := by
        refine Xr.Iv.par zs 0 _ _ _ hb (fun k _ hk => ?_)
        have hlt : k < (Xr.newF (s1.made + 1) (f.deep + 1) xq.sizes).vs.length := by rw [hnew.len]; omega
        exact ⟨_, List.getElem?_eq_getElem hlt, hnew.pos k _ (List.getElem?_eq_getElem hlt)⟩
      have hsp : Xr.Sh (Xr.parF 0 zs (Xr.newF (s1.made + 1) (f.deep + 1) xq.sizes)).vs xq.sizes := by
        have key : ∀ (zs : List Int) (i : Nat) (g : Xr.F), Xr.Sh g.vs xq.sizes → Xr.Sh (Xr.parF i zs g).vs xq.sizes := by
          intro zs
          induction zs with
          | nil => intro i g hg; exact hg
          | cons z r ih => intro i g hg; exact ih _ _ (hg.upd _ _ _)
        exact key zs 0 _ hnew
      have hfn := Xr.keeps_cmds (st := st ++ [⟨f.num, now, f.vs⟩]) hxq (Xr.keeps_call hf d) n xq.cmds (Xr.firstOf p y.1.2.2.toNat) hw3 _ _ hp hsp
      have hfe : Xr.fn p (Xr.call p d) y.1.2.2.toNat (Xr.parS (Xr.newF (s1.made + 1) (f.deep + 1) xq.sizes) f.at_ 0 zs (Xr.beg s1 f (y.1.2.2.toNat : Nat))) (Xr.parF 0 zs (Xr.newF (s1.made + 1) (f.deep + 1) xq.sizes)) = Xr.cmds (Xr.call p d) n xq.cmds (Xr.firstOf p y.1.2.2.toNat) (Xr.parS (Xr.newF (s1.made + 1) (f.deep + 1) xq.sizes) f.at_ 0 zs (Xr.beg s1 f (y.1.2.2.toNat : Nat))) (Xr.parF 0 zs (Xr.newF (s1.made + 1) (f.deep + 1) xq.sizes)) := by
        unfold Xr.fn
        rw [hxq]
      dsimp only at hfn
      rw [← hfe] at hfn
      obtain ⟨t, ht⟩ : ∃ t, t = Xr.fn p (Xr.call p d) y.1.2.2.toNat (Xr.parS (Xr.newF (s1.made + 1) (f.deep + 1) xq.sizes) f.at_ 0 zs (Xr.beg s1 f (y.1.2.2.toNat : Nat))) (Xr.parF 0 zs (Xr.newF (s1.made + 1) (f.deep + 1) xq.sizes)) := ⟨_, rfl⟩
      rw [← ht] at hfn
      have hcb : Xr.callB p (Xr.call p d) xq y.1.2.2.toNat zs y.1.2.1 s1 f = (Xr.wrS (Xr.tell (Xr.valS t.1 t.2 xq.res) ⟨6, t.2.num, f.at_, 0, 0, Xr.valV t.1 t.2 xq.res⟩) f f.at_ y.1.2.1 0 (Xr.valV t.1 t.2 xq.res), Xr.wrF f y.1.2.1 0 (Xr.valV t.1 t.2 xq.res)) := by
        rw [ht]
        rfl
      show Xr.Iv p s0 st now (Xr.callB p (Xr.call p d) xq y.1.2.2.toNat zs y.1.2.1 s1 f).1 (Xr.callB p (Xr.call p d) xq y.1.2.2.toNat zs y.1.2.1 s1 f).2 ∧ Xr.Sh (Xr.callB p (Xr.call p d) xq y.1.2.2.toNat zs y.1.2.1 s1 f).2.vs x.sizes
      rw [hcb]
      have hbk : Xr.Iv p s0 st now (Xr.tell (Xr.valS t.1 t.2 xq.res) ⟨6, t.2.num, f.at_, 0, 0, Xr.valV t.1 t.2 xq.res⟩) f := by
        refine Xr.Iv.tell (hfn.1.val xq.res) _ ⟨st ++ [⟨f.num, now, f.vs⟩], _, rfl, fun h2 => (by cases h2), fun h5 => (by cases h5), fun _ => ⟨rfl, by simp⟩⟩ ?_
        rw [Xr.rep1_back _ _ rfl]
      exact ⟨hbk.wr _ _ _ _ ⟨vn, 0, lv, e1, rfl, e2, e3⟩, hs.upd _ _ _⟩
/-- A run's events are told of its frames, one behind the other. -/
theorem Xr.main_good (hc : Pg.chkP p = 0) {x : Pg.FT m n} (hx : p[p.length - 1]? = some x) (inp : List Int) (fuel : Nat) : Xr.good p [⟨0, ((p.length - 1 : Nat) : Int), Xr.zeros x.sizes⟩] (Xr.main p inp fuel) := by
  have hf := Xr.fine_of hc
  obtain ⟨hw1, hw2⟩ := Pg.orW_zero (show Pg.orW _ (Pg.orW _ _) = 0 from hf _ x hx)
  obtain ⟨hw3, _⟩ := Pg.orW_zero hw2
  have h0 : Xr.Iv p [⟨0, ((p.length - 1 : Nat) : Int), Xr.zeros x.sizes⟩] [] (p.length - 1) ⟨inp, fuel, 0, [], false⟩ (Xr.newF 0 0 x.sizes) := ⟨fun l1 e l2 h => absurd (congrArg List.length h) (by simp), fun _ => rfl⟩
  obtain ⟨h1, _⟩ := Xr.keeps_cmds (st := []) hx (Xr.keeps_call hf 5) n x.cmds (Xr.firstOf p (p.length - 1)) hw3 _ _ h0 (Xr.Sh.new 0 0 x.sizes)
  have hm : Xr.main p inp fuel = (Xr.fin (Xr.cmds (Xr.call p 5) n x.cmds (Xr.firstOf p (p.length - 1)) ⟨inp, fuel, 0, [], false⟩ (Xr.newF 0 0 x.sizes)).1 (Xr.cmds (Xr.call p 5) n x.cmds (Xr.firstOf p (p.length - 1)) ⟨inp, fuel, 0, [], false⟩ (Xr.newF 0 0 x.sizes)).2 (-1) 0).evs := by
    unfold Xr.main Xr.fn
    rw [hx]
  rw [hm]
  exact (h1.fin (-1) 0 [] 0 (Xr.newF 0 0 x.sizes) _).good
end
end Go.Proofs.Ytildjlaphkjegaa
