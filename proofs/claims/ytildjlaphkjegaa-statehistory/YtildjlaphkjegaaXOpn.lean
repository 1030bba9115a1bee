/-
  The frames at a time are those whose calls began and did not end: in plain words. By the verifier.
-/
import Derived.Test.YtildjlaphkjegaaXAtF
import Derived.Test.YtildjlaphkjegaaXCl
namespace Go.Proofs.Ytildjlaphkjegaa
open Go.RowKit
set_option linter.unusedVariables false

/-- Has a frame ended? -/
def Xr.bk (l : List Ev) (q : Int) : Bool := l.any fun e => decide (e.n0 = 6) && decide (e.n1 = q)
/-- The frames that began and did not end, with who called. -/
def Xr.opn (main : Int) (l : List Ev) : List (Int × Int × Int) := ((0, main, -1) :: (Xr.callsIn l).map fun e => (e.n5, e.n3, e.n1)).filter fun x => !Xr.bk l x.1
/-- Each is called by the one ahead. -/
def Xr.chn (L : List (Int × Int × Int)) : Prop := ∀ (i : Nat) a b, L[i]? = some a → L[i + 1]? = some b → b.2.2 = a.1
theorem Xr.bk_snoc (l : List Ev) (e : Ev) (q : Int) : Xr.bk (l ++ [e]) q = (Xr.bk l q || (decide (e.n0 = 6) && decide (e.n1 = q))) := by
  unfold Xr.bk
  rw [List.any_append]
  simp
theorem Xr.bk_no (l : List Ev) {e : Ev} (h : e.n0 ≠ 6) (q : Int) : Xr.bk (l ++ [e]) q = Xr.bk l q := by
  rw [Xr.bk_snoc]
  simp [h]
theorem Xr.bk_yes (l : List Ev) {e : Ev} (h : e.n0 = 6) (q : Int) : Xr.bk (l ++ [e]) q = (Xr.bk l q || decide (e.n1 = q)) := by
  rw [Xr.bk_snoc]
  simp [h]
theorem Xr.opn_no (main : Int) (l : List Ev) {e : Ev} (h5 : e.n0 ≠ 5) (h6 : e.n0 ≠ 6) : Xr.opn main (l ++ [e]) = Xr.opn main l := by
  unfold Xr.opn
  rw [Xr.callsIn_no l h5]
  exact List.filter_congr fun x _ => by rw [Xr.bk_no l h6]
theorem Xr.opn_call (main : Int) (l : List Ev) {e : Ev} (h5 : e.n0 = 5) (hb : Xr.bk l e.n5 = false) : Xr.opn main (l ++ [e]) = Xr.opn main l ++ [(e.n5, e.n3, e.n1)] := by
  unfold Xr.opn
  rw [Xr.callsIn_yes l h5, List.map_append, ← List.cons_append, List.filter_append]
  have h6 : e.n0 ≠ 6 := by omega
  rw [List.filter_congr (q := fun x => !Xr.bk l x.1) fun x _ => by rw [Xr.bk_no l h6]]
  congr 1
  simp [Xr.bk_no l h6, hb]
theorem Xr.opn_back (main : Int) (l : List Ev) {e : Ev} (h6 : e.n0 = 6) : Xr.opn main (l ++ [e]) = (Xr.opn main l).filter fun x => !decide (e.n1 = x.1) := by
  unfold Xr.opn
  rw [Xr.callsIn_no l (by omega), List.filter_filter]
  exact List.filter_congr fun x _ => by rw [Xr.bk_yes l h6, Bool.not_or, Bool.and_comm]
theorem Xr.chn_snoc {L : List (Int × Int × Int)} {x y : Int × Int × Int} (h : Xr.chn (L ++ [x])) (hy : y.2.2 = x.1) : Xr.chn (L ++ [x] ++ [y]) := by
  intro i a b ha hb
  by_cases hi : i + 1 < (L ++ [x]).length
  · rw [List.getElem?_append_left hi] at hb
    rw [List.getElem?_append_left (by omega)] at ha
    exact h i a b ha hb
  · have h1 := (List.getElem?_eq_some_iff.1 hb).1
    rw [List.length_append] at h1
    have h2 : [y].length = 1 := rfl
    have h3 : (L ++ [x]).length = L.length + 1 := by rw [List.length_append]; rfl
    have hil : i = L.length := by omega
    subst hil
    rw [List.getElem?_append_right (by omega), h3, Nat.sub_self] at hb
    rw [List.getElem?_append_left (by omega), List.getElem?_append_right (Nat.le_refl _), Nat.sub_self] at ha
    cases ha
    cases hb
    exact hy
theorem Xr.chn_pre {L : List (Int × Int × Int)} {x : Int × Int × Int} (h : Xr.chn (L ++ [x])) : Xr.chn L := by
  intro i a b ha hb
  have h1 := (List.getElem?_eq_some_iff.1 ha).1
  have h2 := (List.getElem?_eq_some_iff.1 hb).1
  exact h i a b (by rw [List.getElem?_append_left h1]; exact ha) (by rw [List.getElem?_append_left h2]; exact hb)
section
variable {m n : Nat} {p : List (Pg.FT m n)}
structure Xr.Opk (p : List (Pg.FT m n)) (l : List Ev) : Prop where
  same : (Xr.opn ((p.length - 1 : Nat) : Int) l).map (fun x => (x.1, x.2.1)) = (Xr.reps p (Xr.ini p) l).map fun fr => (fr.num, fr.fn)
  chain : Xr.chn (Xr.opn ((p.length - 1 : Nat) : Int) l)
  less : ∀ q, Xr.bk l q = true → 0 < q ∧ q ≤ (((Xr.callsIn l).length : Nat) : Int)
theorem Xr.Opk.of : ∀ (l : List Ev), Xr.good p (Xr.ini p) l → Xr.numd l → Xr.Opk p l := by
  refine Xr.snoc_ind (fun _ _ => ⟨rfl, ?_, ?_⟩) (fun l e ih hg hn => ?_)
  · intro i a b ha hb
    have h1 := (List.getElem?_eq_some_iff.1 hb).1
    have h2 : (Xr.opn ((p.length - 1 : Nat) : Int) []).length = 1 := rfl
    omega
  · intro q hq
    cases hq
  · have hg0 := Xr.good_pre hg (List.prefix_append l [e])
    have hn0 := Xr.numd_pre hn (List.prefix_append l [e])
    obtain ⟨i1, i2, i3⟩ := ih hg0 hn0
    have hq := Xr.Nq.of l hg0 hn0
    obtain ⟨st0, t, hst, _, g5, g6⟩ := hg l e [] rfl
    rw [hst, List.map_append] at i1
    obtain ⟨O0, O1, ho, h1, h2⟩ := List.map_eq_append_iff.1 i1
    obtain ⟨o, O2, rfl, h3, h4⟩ := List.map_eq_cons_iff.1 h2
    have hO2 : O2 = [] := List.map_eq_nil_iff.1 h4
    subst hO2
    have h3a : o.1 = t.num := congrArg Prod.fst h3
    have h3b : o.2.1 = t.fn := congrArg Prod.snd h3
    have htl := hq.less (fr := t) (by rw [hst]; simp)
    by_cases k5 : e.n0 = 5
    · have h5 := hn l e [] rfl k5
      have hb : Xr.bk l e.n5 = false := by
        cases hbk : Xr.bk l e.n5 with
        | false => rfl
        | true => have := (i3 _ hbk).2; omega
      have hop := Xr.opn_call ((p.length - 1 : Nat) : Int) l k5 hb
      refine ⟨?_, ?_, ?_⟩
      · rw [hop, Xr.reps_snoc, hst, Xr.rep1_call _ k5, ho, List.map_append, List.map_append, h1]
        simp [h3a, h3b]
      · rw [hop, ho]
        rw [ho] at i2
        exact Xr.chn_snoc i2 (by rw [h3a]; exact (g5 k5).1)
      · intro q hbq
        rw [Xr.bk_no l (by omega)] at hbq
        rw [Xr.callsIn_yes l k5, List.length_append]
        have := i3 q hbq
        show 0 < q ∧ q ≤ (((Xr.callsIn l).length + 1 : Nat) : Int)
        omega
    · by_cases k6 : e.n0 = 6
      · obtain ⟨g6a, g6b⟩ := g6 k6
        have hup := List.pairwise_append.1 (by rw [← hst]; exact hq.up)
        have hop : Xr.opn ((p.length - 1 : Nat) : Int) (l ++ [e]) = O0 := by
          rw [Xr.opn_back _ l k6, ho, List.filter_append]
          have e1 : [o].filter (fun x => !decide (e.n1 = x.1)) = [] := by simp [h3a, g6a]
          rw [e1, List.append_nil]
          refine List.filter_eq_self.2 fun x hx => ?_
          have hm : (x.1, x.2.1) ∈ st0.map fun fr => (fr.num, fr.fn) := by rw [← h1]; exact List.mem_map.2 ⟨x, hx, rfl⟩
          obtain ⟨fr, hf, he⟩ := List.mem_map.1 hm
          have h9 := hup.2.2 fr hf t (List.mem_singleton.2 rfl)
          have h8 : fr.num = x.1 := congrArg Prod.fst he
          have h7 : ¬ e.n1 = x.1 := by omega
          simp [h7]
        refine ⟨?_, ?_, ?_⟩
        · rw [hop, Xr.reps_snoc, hst, Xr.rep1_back _ _ k6]
          exact h1
        · rw [hop]
          rw [ho] at i2
          exact Xr.chn_pre i2
        · intro q hbq
          rw [Xr.bk_yes l k6] at hbq
          rw [Xr.callsIn_no l k5]
          rcases Bool.or_eq_true _ _ |>.mp hbq with h9 | h9
          · exact i3 q h9
          · have h8 : e.n1 = q := of_decide_eq_true h9
            obtain ⟨f0, hf0⟩ := List.exists_mem_of_ne_nil _ g6b
            have h7 := hup.2.2 f0 hf0 t (List.mem_singleton.2 rfl)
            have h6 := hq.less (fr := f0) (by rw [hst]; simp [hf0])
            omega
      · have hop := Xr.opn_no ((p.length - 1 : Nat) : Int) l k5 k6
        refine ⟨?_, by rw [hop]; exact i2, ?_⟩
        · rw [hop, Xr.reps_snoc, hst, ho, List.map_append, h1]
          by_cases k2 : e.n0 = 2
          · rw [Xr.rep1_wr _ _ k2, List.map_append]
            simp [h3a, h3b]
          · rw [Xr.rep1_no _ k5 k6 k2, List.map_append]
            simp [h3a, h3b]
        · intro q hbq
          rw [Xr.bk_no l k6] at hbq
          rw [Xr.callsIn_no l k5]
          exact i3 q hbq
/-- No frame ends twice. -/
theorem Xr.back_once {l : List Ev} (hg : Xr.good p (Xr.ini p) l) (hn : Xr.numd l) {u : Nat} {e : Ev} (hu : l[u]? = some e) (h6 : e.n0 = 6) : Xr.bk (l.take u) e.n1 = false := by
  obtain ⟨hlt, hle⟩ := List.getElem?_eq_some_iff.1 hu
  obtain ⟨st0, tt, hst, _, _, g6⟩ := hg (l.take u) e (l.drop (u + 1)) (by rw [← hle, ← List.drop_eq_getElem_cons hlt, List.take_append_drop])
  have ho := Xr.Opk.of (p := p) (l.take u) (Xr.good_pre hg (List.take_prefix _ _)) (Xr.numd_pre hn (List.take_prefix _ _))
  have h1 : (tt.num, tt.fn) ∈ (Xr.opn ((p.length - 1 : Nat) : Int) (l.take u)).map fun x => (x.1, x.2.1) := by
    rw [ho.same, hst]
    simp
  obtain ⟨x, hx, he⟩ := List.mem_map.1 h1
  have h2 := (List.mem_filter.1 hx).2
  have h3 : x.1 = e.n1 := (congrArg Prod.fst he).trans (g6 h6).1.symm
  rw [h3] at h2
  simpa using h2
end
/-- When a frame ended. -/
theorem Xr.endsTo_is (l : List Ev) {q : Int} (hq : q ≠ 0) : ∀ k : Nat, (Xr.endsTo l k q = none ∧ Xr.bk (l.take k) q = false) ∨ ∃ (u : Nat) (e : Ev), u < k ∧ l[u]? = some e ∧ e.n0 = 6 ∧ e.n1 = q ∧ Xr.endsTo l k q = some (((u : Nat) : Int), e.n5)
  | 0 => Or.inl ⟨rfl, rfl⟩
  | k + 1 => by
    have ih := Xr.endsTo_is l hq k
    cases hk : l[k]? with
    | none =>
      have h1 : Xr.endsTo l (k + 1) = Xr.endsTo l k := by
        show (match l[k]? with | none => Xr.endsTo l k | some e => Xr.end1 (Xr.endsTo l k) (k : Nat) e) = _
        rw [hk]
      have h2 : l.take (k + 1) = l.take k := by
        have := List.getElem?_eq_none_iff.1 hk
        rw [List.take_of_length_le (by omega), List.take_of_length_le this]
      rw [h1, h2]
      rcases ih with h | ⟨u, e, h3, h4⟩
      · exact Or.inl h
      · exact Or.inr ⟨u, e, by omega, h4⟩
    | some e =>
      obtain ⟨hlt, hle⟩ := List.getElem?_eq_some_iff.1 hk
      have h1 : Xr.endsTo l (k + 1) = Xr.end1 (Xr.endsTo l k) (k : Nat) e := by
        show (match l[k]? with | none => Xr.endsTo l k | some e => Xr.end1 (Xr.endsTo l k) (k : Nat) e) = _
        rw [hk]
      have h2 : l.take (k + 1) = l.take k ++ [e] := by rw [List.take_succ_eq_append_getElem hlt, hle]
      rw [h1, h2]
      unfold Xr.end1
      by_cases k6 : e.n0 = 6
      · rw [if_pos k6, Xr.bk_yes _ k6]
        by_cases hn : q = e.n1
        · refine Or.inr ⟨k, e, by omega, hk, k6, hn.symm, ?_⟩
          show (if q = e.n1 then _ else _) = _
          rw [if_pos hn]
        · have h3 : decide (e.n1 = q) = false := decide_eq_false (fun h => hn h.symm)
          show ((if q = e.n1 then _ else Xr.endsTo l k q) = none ∧ _) ∨ ∃ u d, _ ∧ _ ∧ _ ∧ _ ∧ (if q = e.n1 then _ else Xr.endsTo l k q) = _
          rw [if_neg hn, h3, Bool.or_false]
          rcases ih with h | ⟨u, d, h3, h4⟩
          · exact Or.inl h
          · exact Or.inr ⟨u, d, by omega, h4⟩
      · rw [if_neg k6, Xr.bk_no _ k6]
        by_cases k7 : e.n0 = 7 ∧ e.n5 = 0
        · rw [if_pos k7]
          show ((if q = 0 then _ else Xr.endsTo l k q) = none ∧ _) ∨ ∃ u d, _ ∧ _ ∧ _ ∧ _ ∧ (if q = 0 then _ else Xr.endsTo l k q) = _
          rw [if_neg hq]
          rcases ih with h | ⟨u, d, h3, h4⟩
          · exact Or.inl h
          · exact Or.inr ⟨u, d, by omega, h4⟩
        · rw [if_neg k7]
          rcases ih with h | ⟨u, d, h3, h4⟩
          · exact Or.inl h
          · exact Or.inr ⟨u, d, by omega, h4⟩
/-- Is a span open at a time? -/
def Xr.opS (t : Int) (s : Xr.Sp) : Bool := decide (s.frame = 0) || (decide (s.from_ < t) && (decide (s.to_ < 0) || decide (t ≤ s.to_)))
theorem Xr.bk_at {l : List Ev} {u : Nat} {e : Ev} (hu : l[u]? = some e) (h6 : e.n0 = 6) {t : Nat} (ht : u < t) : Xr.bk (l.take t) e.n1 = true := by
  unfold Xr.bk
  refine List.any_eq_true.2 ⟨e, ?_, by simp [h6]⟩
  exact List.mem_of_getElem? (i := u) (by rw [List.getElem?_take_of_lt ht]; exact hu)
section
variable {m n : Nat} {p : List (Pg.FT m n)}
theorem Xr.opS_call {l : List Ev} (hg : Xr.good p (Xr.ini p) l) (hn : Xr.numd l) {q : Int} (hq : 0 < q) (fn by_ : Int) (k t : Nat) : Xr.opS (t : Nat) (Xr.spOf (Xr.endsTo l l.length) q fn by_ (k : Nat)) = (decide (k < t) && !Xr.bk (l.take t) q) := by
  have hq0 : decide (q = 0) = false := decide_eq_false (by omega)
  have hk : decide (((k : Nat) : Int) < ((t : Nat) : Int)) = decide (k < t) := by by_cases h : k < t <;> simp [h]
  show (decide (q = 0) || (decide (((k : Nat) : Int) < ((t : Nat) : Int)) && (decide ((match Xr.endsTo l l.length q with | none => (-1 : Int) | some p => p.1) < 0) || decide (((t : Nat) : Int) ≤ (match Xr.endsTo l l.length q with | none => (-1 : Int) | some p => p.1))))) = _
  rw [hq0, hk, Bool.false_or]
  congr 1
  rcases Xr.endsTo_is l (q := q) (by omega) l.length with ⟨h1, h2⟩ | ⟨u, e, h1, h2, h3, h4, h5⟩
  · rw [h1]
    have h6 : Xr.bk (l.take t) q = false := by
      cases hb : Xr.bk (l.take t) q with
      | false => rfl
      | true =>
        obtain ⟨e, he, hh⟩ := List.any_eq_true.1 hb
        rw [List.take_length] at h2
        have : Xr.bk l q = true := List.any_eq_true.2 ⟨e, List.mem_of_mem_take he, hh⟩
        rw [h2] at this
        cases this
    rw [h6]
    rfl
  · rw [h5]
    dsimp only
    have h7 : decide (((u : Nat) : Int) < 0) = false := decide_eq_false (by omega)
    rw [h7, Bool.false_or]
    by_cases hut : u < t
    · have h8 := Xr.bk_at h2 h3 hut
      rw [h4] at h8
      rw [h8, decide_eq_false (by omega)]
      rfl
    · have h8 : Xr.bk (l.take t) q = false := by
        cases hb : Xr.bk (l.take t) q with
        | false => rfl
        | true =>
          obtain ⟨d, hd, hh⟩ := List.any_eq_true.1 hb
          have h9 := Xr.back_once hg hn h2 h3
          rw [h4] at h9
          have h10 : l.take t <+: l.take u := List.take_prefix_take_left (by omega)
          have : Xr.bk (l.take u) q = true := List.any_eq_true.2 ⟨d, h10.subset hd, hh⟩
          rw [h9] at this
          cases this
      rw [h8, decide_eq_true (by omega)]
      rfl
theorem Xr.spTo_step (main : Int) (g : Int → Option (Int × Int)) {l : List Ev} {k : Nat} {e : Ev} (hk : l[k]? = some e) : Xr.spTo main g l (k + 1) = if e.n0 = 5 then Xr.spTo main g l k ++ [Xr.spOf g e.n5 e.n3 e.n1 (k : Nat)] else Xr.spTo main g l k := by
  show (match l[k]? with | none => Xr.spTo main g l k | some e => _) = _
  rw [hk]
/-- The spans that are open at a time are the frames that there are. -/
theorem Xr.open_is {l : List Ev} (hg : Xr.good p (Xr.ini p) l) (hn : Xr.numd l) (t : Nat) : ∀ k : Nat, k ≤ l.length → ((Xr.spTo ((p.length - 1 : Nat) : Int) (Xr.endsTo l l.length) l k).filter (Xr.opS (t : Nat))).map (fun s => (s.frame, s.fn, s.by_)) = ((0, ((p.length - 1 : Nat) : Int), -1) :: (Xr.callsIn (l.take (min k t))).map fun e => (e.n5, e.n3, e.n1)).filter fun x => !Xr.bk (l.take t) x.1
  | 0, _ => by
    have hb : Xr.bk (l.take t) 0 = false := by
      cases hb : Xr.bk (l.take t) 0 with
      | false => rfl
      | true => have := ((Xr.Opk.of (p := p) (l.take t) (Xr.good_pre hg (List.take_prefix _ _)) (Xr.numd_pre hn (List.take_prefix _ _))).less 0 hb).1; omega
    have h1 : Xr.callsIn (l.take (min 0 t)) = [] := by rw [Nat.zero_min]; rfl
    rw [h1]
    simp [Xr.spTo, Xr.spOf, Xr.opS, hb]
  | k + 1, hk => by
    have ih := Xr.open_is hg hn t k (by omega)
    have hlt : k < l.length := by omega
    have hy := List.getElem?_eq_getElem hlt
    rw [Xr.spTo_step _ _ hy]
    by_cases hkt : k < t
    · have h1 : min (k + 1) t = k + 1 := by omega
      have h2 : min k t = k := by omega
      rw [h2] at ih
      rw [h1, List.take_succ_eq_append_getElem hlt]
      by_cases k5 : l[k].n0 = 5
      · have h5 := hn (l.take k) l[k] (l.drop (k + 1)) (by rw [← List.drop_eq_getElem_cons hlt, List.take_append_drop]) k5
        rw [if_pos k5, Xr.callsIn_yes _ k5, List.map_append, ← List.cons_append, List.filter_append, List.filter_append, List.map_append, ih]
        congr 1
        have h6 := Xr.opS_call hg hn (q := l[k].n5) (by omega) l[k].n3 l[k].n1 k t
        rw [decide_eq_true hkt, Bool.true_and] at h6
        cases hb : Xr.bk (l.take t) l[k].n5 with
        | false =>
          rw [hb] at h6
          have h7 : [Xr.spOf (Xr.endsTo l l.length) l[k].n5 l[k].n3 l[k].n1 (k : Nat)].filter (Xr.opS (t : Nat)) = [Xr.spOf (Xr.endsTo l l.length) l[k].n5 l[k].n3 l[k].n1 (k : Nat)] := by simp [h6]
          rw [h7]
          simp [hb, Xr.spOf]
        | true =>
          rw [hb] at h6
          have h7 : [Xr.spOf (Xr.endsTo l l.length) l[k].n5 l[k].n3 l[k].n1 (k : Nat)].filter (Xr.opS (t : Nat)) = [] := by simp [h6]
          rw [h7]
          simp [hb]
      · rw [if_neg k5, Xr.callsIn_no _ k5]
        exact ih
    · have h1 : min (k + 1) t = t := by omega
      have h2 : min k t = t := by omega
      rw [h2] at ih
      rw [h1]
      by_cases k5 : l[k].n0 = 5
      · have h5 := hn (l.take k) l[k] (l.drop (k + 1)) (by rw [← List.drop_eq_getElem_cons hlt, List.take_append_drop]) k5
        have h6 := Xr.opS_call hg hn (q := l[k].n5) (by omega) l[k].n3 l[k].n1 k t
        rw [decide_eq_false hkt, Bool.false_and] at h6
        have h7 : [Xr.spOf (Xr.endsTo l l.length) l[k].n5 l[k].n3 l[k].n1 (k : Nat)].filter (Xr.opS (t : Nat)) = [] := by simp [h6]
        rw [if_pos k5, List.filter_append, h7, List.append_nil]
        exact ih
      · rw [if_neg k5]
        exact ih
/-- Spans are numbered. -/
theorem Xr.spTo_num {l : List Ev} (hn : Xr.numd l) (main : Int) (g : Int → Option (Int × Int)) : ∀ k : Nat, k ≤ l.length → (Xr.spTo main g l k).length = (Xr.callsIn (l.take k)).length + 1 ∧ ∀ (i : Nat) s, (Xr.spTo main g l k)[i]? = some s → s.frame = (i : Nat)
  | 0, _ => ⟨rfl, fun i s hi => by
      match i, hi with
      | 0, hi => cases hi; rfl
      | _ + 1, hi => simp [Xr.spTo] at hi⟩
  | k + 1, hk => by
    obtain ⟨i1, i2⟩ := Xr.spTo_num hn main g k (by omega)
    have hlt : k < l.length := by omega
    have hy := List.getElem?_eq_getElem hlt
    rw [Xr.spTo_step _ _ hy, List.take_succ_eq_append_getElem hlt]
    by_cases k5 : l[k].n0 = 5
    · have h5 := hn (l.take k) l[k] (l.drop (k + 1)) (by rw [← List.drop_eq_getElem_cons hlt, List.take_append_drop]) k5
      rw [if_pos k5, Xr.callsIn_yes _ k5]
      refine ⟨by rw [List.length_append, List.length_append, i1]; rfl, fun i s hi => ?_⟩
      by_cases hil : i < (Xr.spTo main g l k).length
      · rw [List.getElem?_append_left hil] at hi
        exact i2 i s hi
      · have h6 := (List.getElem?_eq_some_iff.1 hi).1
        rw [List.length_append] at h6
        have h7 : ∀ x : Xr.Sp, [x].length = 1 := fun _ => rfl
        rw [h7] at h6
        have hie : i = (Xr.spTo main g l k).length := by omega
        rw [List.getElem?_append_right (by omega), hie, Nat.sub_self] at hi
        cases hi
        show l[k].n5 = _
        rw [h5, hie, i1]
    · rw [if_neg k5, Xr.callsIn_no _ k5]
      exact ⟨i1, i2⟩
/-- All of it. -/
structure Xr.OpIs (O : List Xr.Sp) (st : List Xr.Fr) : Prop where
  len : O.length = st.length
  same : ∀ (i : Nat) s fr, O[i]? = some s → st[i]? = some fr → fr.num = s.frame ∧ fr.fn = s.fn
  by_ : ∀ (i : Nat) s fr, O[i + 1]? = some s → st[i]? = some fr → s.by_ = fr.num
theorem Xr.StOk.opens {l : List Ev} (h : Xr.StOk p l) {t : Nat} (ht : t ≤ l.length) : Xr.OpIs ((Xr.spAll p l).filter (Xr.opS (t : Nat))) (Xr.reps p (Xr.ini p) (l.take t)) := by
  have h1 := Xr.open_is h.good h.numd t l.length (Nat.le_refl _)
  rw [Nat.min_eq_right ht] at h1
  have ho := Xr.Opk.of (p := p) (l.take t) (Xr.good_pre h.good (List.take_prefix _ _)) (Xr.numd_pre h.numd (List.take_prefix _ _))
  have h2 : ((Xr.spAll p l).filter (Xr.opS (t : Nat))).map (fun s => (s.frame, s.fn, s.by_)) = Xr.opn ((p.length - 1 : Nat) : Int) (l.take t) := h1
  generalize (Xr.spAll p l).filter (Xr.opS (t : Nat)) = O at *
  have hs := ho.same
  have hc := ho.chain
  rw [← h2] at hs hc
  rw [List.map_map] at hs
  have hsm : ∀ (i : Nat) s fr, O[i]? = some s → (Xr.reps p (Xr.ini p) (l.take t))[i]? = some fr → fr.num = s.frame ∧ fr.fn = s.fn := by
    intro i s fr hi hf
    have h3 := congrArg (fun L => L[i]?) hs
    simp only [List.getElem?_map, hi, hf, Option.map_some, Option.some.injEq] at h3
    exact ⟨(congrArg Prod.fst h3).symm, (congrArg Prod.snd h3).symm⟩
  refine ⟨by have := congrArg List.length hs; rwa [List.length_map, List.length_map] at this, hsm, fun i s fr hi hf => ?_⟩
  have hlt : i < O.length := by have := (List.getElem?_eq_some_iff.1 hi).1; omega
  have h4 := List.getElem?_eq_getElem hlt
  have h5 := hc i (O[i].frame, O[i].fn, O[i].by_) (s.frame, s.fn, s.by_) (by rw [List.getElem?_map, h4]; rfl) (by rw [List.getElem?_map, hi]; rfl)
  rw [(hsm i _ fr h4 hf).1]
  exact h5
theorem Xr.StOk.spNum {l : List Ev} (h : Xr.StOk p l) : ∀ (i : Nat) s, (Xr.spAll p l)[i]? = some s → s.frame = (i : Nat) := (Xr.spTo_num h.numd _ _ l.length (Nat.le_refl _)).2
theorem Xr.StOk.spLen {l : List Ev} (h : Xr.StOk p l) : (Xr.spAll p l).length ≤ 4001 := by
  have h1 := (Xr.spTo_num h.numd ((p.length - 1 : Nat) : Int) (Xr.endsTo l l.length) l.length (Nat.le_refl _)).1
  have h2 : (Xr.callsIn (l.take l.length)).length ≤ l.length := by
    rw [List.take_length]
    exact List.length_filter_le _ _
  have := h.few
  show (Xr.spTo _ _ _ _).length ≤ _
  omega
end
end Go.Proofs.Ytildjlaphkjegaa
