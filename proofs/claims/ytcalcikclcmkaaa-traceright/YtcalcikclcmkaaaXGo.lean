/-
  Several texts in one: XGoes, XTMoreP. By the verifier.
-/
import Derived.Test.YtcalcikclcmkaaaXMore
import Derived.Test.YtcalcikclcmkaaaJA
namespace Go.Proofs.Ytcalcikclcmkaaa
open Go.RowKit
set_option linter.unusedVariables false
section
variable {m n : Nat} {p : List (Pg.FT m n)} {x : Pg.FT m n}
theorem Xr.Cl.or {U V : Xr.S → Prop} (h1 : Xr.Cl U) (h2 : Xr.Cl V) : Xr.Cl (fun s => U s ∨ V s) :=
 ⟨fun s e he hu => hu.imp (h1.tell s e he) (h2.tell s e he), fun s f a how hu => hu.imp (h1.fin s f a how) (h2.fin s f a how), fun s f a hu => hu.imp (h1.step s f a) (h2.step s f a), fun s f hu => hu.imp (h1.read s f) (h2.read s f), fun s f q hu => hu.imp (h1.call s f q) (h2.call s f q)⟩
theorem Xr.Cl.and {U V : Xr.S → Prop} (h1 : Xr.Cl U) (h2 : Xr.Cl V) : Xr.Cl (fun s => U s ∧ V s) :=
 ⟨fun s e he hu => ⟨h1.tell s e he hu.1, h2.tell s e he hu.2⟩, fun s f a how hu => ⟨h1.fin s f a how hu.1, h2.fin s f a how hu.2⟩, fun s f a hu => ⟨h1.step s f a hu.1, h2.step s f a hu.2⟩, fun s f hu => ⟨h1.read s f hu.1, h2.read s f hu.2⟩, fun s f q hu => ⟨h1.call s f q hu.1, h2.call s f q hu.2⟩⟩
theorem Xr.Cl.const (c : Prop) : Xr.Cl (fun _ => c) := ⟨fun _ _ _ h => h, fun _ _ _ _ h => h, fun _ _ _ h => h, fun _ _ h => h, fun _ _ _ h => h⟩
theorem Xr.Cl.iff {U V : Xr.S → Prop} (h : Xr.Cl U) (he : ∀ s, V s ↔ U s) : Xr.Cl V :=
 ⟨fun s e hp hu => (he _).2 (h.tell s e hp ((he _).1 hu)), fun s f a how hu => (he _).2 (h.fin s f a how ((he _).1 hu)), fun s f a hu => (he _).2 (h.step s f a ((he _).1 hu)), fun s f hu => (he _).2 (h.read s f ((he _).1 hu)), fun s f q hu => (he _).2 (h.call s f q ((he _).1 hu))⟩
theorem Xr.that_snoc (k : Int) (l : List Ev) (e : Ev) : Xr.that k (l ++ [e]) = if e.n0 == k then Xr.that k l ++ [e] else Xr.that k l := by
 unfold Xr.that
 rw [List.filter_append]
 cases h : (e.n0 == k) <;> simp [h]
theorem Xr.that_pre (k : Int) {l r : List Ev} (h : l <+: r) : Xr.that k l <+: Xr.that k r := by
 obtain ⟨t, rfl⟩ := h
 unfold Xr.that
 rw [List.filter_append]
 exact List.prefix_append _ _
theorem Xr.pre_step {l c O : List Ev} (h : l <+: c) (hc : c <+: O) (e : Ev) : (l ++ [e] <+: c) ∨ c = l ∨ ¬ (l ++ [e] <+: O) := by
 by_cases h1 : c.length ≤ l.length
 · exact .inr (.inl (h.eq_of_length (Nat.le_antisymm h.length_le h1)).symm)
 · by_cases h2 : l ++ [e] <+: O
   · exact .inl (List.prefix_of_prefix_length_le h2 hc (by rw [List.length_append]; simp; omega))
   · exact .inr (.inr h2)
def Xr.stp (l : List Ev) : Nat := (Xr.that 1 l).length
def Xr.rds (l : List Ev) : Nat := (Xr.that 3 l).length
def Xr.readB (O c : List Ev) (s t : Xr.S) : Prop := s.ended = false ∧ t.ended = false ∧ s.evs = t.evs ∧ s.made = t.made ∧ s.evs <+: c ∧ t.inp = (Xr.inOf c).drop (Xr.rds s.evs) ∧ s.inp.length ≤ 50 - Xr.rds s.evs ∧ t.fuel + Xr.stp s.evs = Xr.stp c
def Xr.readU (O c : List Ev) (s t : Xr.S) : Prop := ¬ (s.evs <+: O) ∨ c <+: t.evs ∨ (s.ended = true ∧ t.ended = true ∧ s.evs = t.evs) ∨ (s.ended = true ∧ s.evs ≠ O)
theorem Xr.read_left (O c : List Ev) (t : Xr.S) : Xr.Cl (fun s => Xr.readU O c s t) := by
 have h1 : Xr.Cl (fun s => ¬ (s.evs <+: O)) := Xr.cl_evs (U := fun l _ => ¬ (l <+: O)) (fun l e _ hu h => hu ((List.prefix_append _ _).trans h)) (fun l e _ hu h => hu ((List.prefix_append _ _).trans h))
 refine Xr.Cl.iff (h1.or ((Xr.Cl.const (c <+: t.evs)).or (((Xr.Cl.const (t.ended = true)).and (Xr.cl_same t.evs)).or ?_))) (U := fun s => ¬ (s.evs <+: O) ∨ c <+: t.evs ∨ (t.ended = true ∧ s.ended = true ∧ s.evs = t.evs) ∨ ∃ L, (s.ended = true ∧ s.evs = L) ∧ L ≠ O) (fun s => ?_)
 · have hk := fun L => (Xr.cl_same L).and (Xr.Cl.const (L ≠ O))
   exact ⟨fun s e he ⟨L, hu⟩ => ⟨L, (hk L).tell s e he hu⟩, fun s f a how ⟨L, hu⟩ => ⟨L, (hk L).fin s f a how hu⟩, fun s f a ⟨L, hu⟩ => ⟨L, (hk L).step s f a hu⟩, fun s f ⟨L, hu⟩ => ⟨L, (hk L).read s f hu⟩, fun s f q ⟨L, hu⟩ => ⟨L, (hk L).call s f q hu⟩⟩
 · constructor
   · rintro (h | h | ⟨h, h', h''⟩ | ⟨h, h'⟩)
     · exact .inl h
     · exact .inr (.inl h)
     · exact .inr (.inr (.inl ⟨h', h, h''⟩))
     · exact .inr (.inr (.inr ⟨s.evs, ⟨h, rfl⟩, h'⟩))
   · rintro (h | h | ⟨h, h', h''⟩ | ⟨L, ⟨h, h'⟩, h''⟩)
     · exact .inl h
     · exact .inr (.inl h)
     · exact .inr (.inr (.inl ⟨h', h, h''⟩))
     · exact .inr (.inr (.inr ⟨h, by rw [h']; exact h''⟩))
theorem Xr.read_right (O c : List Ev) (s : Xr.S) : Xr.Cl (fun t => Xr.readU O c s t) := by
 refine Xr.Cl.iff ((Xr.Cl.const (¬ (s.evs <+: O))).or ((Xr.cl_grows c).or (((Xr.Cl.const (s.ended = true)).and (Xr.cl_same s.evs)).or (Xr.Cl.const (s.ended = true ∧ s.evs ≠ O))))) (fun t => ?_)
 constructor
 · rintro (h | h | ⟨h, h', h''⟩ | h)
   · exact .inl h
   · exact .inr (.inl h)
   · exact .inr (.inr (.inl ⟨h, h', h''.symm⟩))
   · exact .inr (.inr (.inr h))
 · rintro (h | h | ⟨h, h', h''⟩ | h)
   · exact .inl h
   · exact .inr (.inl h)
   · exact .inr (.inr (.inl ⟨h, h', h''.symm⟩))
   · exact .inr (.inr (.inr h))
theorem Xr.read_bi {O c : List Ev} (hc : c <+: O) : Xr.Bi (Xr.readB O c) (Xr.readU O c) := by
 refine ⟨fun s t hb => ⟨hb.1, hb.2.1⟩, fun s t e he hb => ?_, fun s t f a how hb => ?_, fun s t f a hb => ?_, fun s t f hb => ?_, fun s t f q hb => ?_, Xr.read_left O c, Xr.read_right O c⟩
 · obtain ⟨h1, h2, h3, h4, h5, h6, h7, h8⟩ := hb
   have hk : (e.n0 == (1 : Int)) = false ∧ (e.n0 == (3 : Int)) = false := by rcases he with h | h | h <;> rw [h] <;> exact ⟨rfl, rfl⟩
   rw [Xr.tell_no h1, Xr.tell_no h2]
   rcases Xr.pre_step h5 hc e with q | q | q
   · refine .inl ⟨h1, h2, by show s.evs ++ [e] = t.evs ++ [e]; rw [h3], h4, q, ?_, ?_, ?_⟩
     · show t.inp = (Xr.inOf c).drop (Xr.rds (s.evs ++ [e]))
       unfold Xr.rds; rw [Xr.that_snoc, if_neg (by simp [hk.2])]; exact h6
     · show s.inp.length ≤ 50 - Xr.rds (s.evs ++ [e])
       unfold Xr.rds; rw [Xr.that_snoc, if_neg (by simp [hk.2])]; exact h7
     · show t.fuel + Xr.stp (s.evs ++ [e]) = Xr.stp c
       unfold Xr.stp; rw [Xr.that_snoc, if_neg (by simp [hk.1])]; exact h8
   · exact .inr (.inr (.inl (by show c <+: t.evs ++ [e]; rw [q, h3]; exact List.prefix_append _ _)))
   · exact .inr (.inl q)
 · obtain ⟨h1, h2, h3, h4, h5, h6, h7, h8⟩ := hb
   refine .inr (.inr (.inl ⟨rfl, rfl, ?_⟩))
   show (Xr.tell s _).evs = (Xr.tell t _).evs
   rw [Xr.tell_no h1, Xr.tell_no h2]
   show s.evs ++ [_] = t.evs ++ [_]
   rw [h3]
 · obtain ⟨h1, h2, h3, h4, h5, h6, h7, h8⟩ := hb
   unfold Xr.stepS
   by_cases hs : s.fuel = 0
   · rw [if_pos hs]
     by_cases ht : t.fuel = 0
     · rw [if_pos ht]
       refine .inr (.inr (.inr (.inl ⟨rfl, rfl, ?_⟩)))
       show (Xr.tell s _).evs = (Xr.tell t _).evs
       rw [Xr.tell_no h1, Xr.tell_no h2]
       show s.evs ++ [_] = t.evs ++ [_]
       rw [h3]
     · rw [if_neg ht]
       refine .inr (.inr (.inr (.inr ⟨rfl, fun hO => ?_⟩)))
       have hO' : s.evs ++ [⟨7, f.num, a, 0, 0, 1⟩] = O := by rw [← hO]; show _ = (Xr.tell s _).evs; rw [Xr.tell_no h1]
       have hp := (Xr.that_pre 1 hc).length_le
       rw [← hO', Xr.that_snoc, if_neg (by simp)] at hp
       have : Xr.stp c ≤ Xr.stp s.evs := hp
       omega
   · rw [if_neg hs]
     have hst : Xr.stp (s.evs ++ [⟨1, f.num, a, 0, 0, 0⟩]) = Xr.stp s.evs + 1 := by
      unfold Xr.stp; rw [Xr.that_snoc, if_pos (by simp), List.length_append]; rfl
     have hrd : Xr.rds (s.evs ++ [⟨1, f.num, a, 0, 0, 0⟩]) = Xr.rds s.evs := by
      unfold Xr.rds; rw [Xr.that_snoc, if_neg (by simp)]
     rw [Xr.tell_no (show ({ s with fuel := s.fuel - 1 } : Xr.S).ended = false from h1)]
     rcases Xr.pre_step h5 hc ⟨1, f.num, a, 0, 0, 0⟩ with q | q | q
     · have hp : Xr.stp (s.evs ++ [⟨1, f.num, a, 0, 0, 0⟩]) ≤ Xr.stp c := (Xr.that_pre 1 q).length_le
       have ht : ¬ t.fuel = 0 := by omega
       rw [if_neg ht, Xr.tell_no (show ({ t with fuel := t.fuel - 1 } : Xr.S).ended = false from h2)]
       refine .inl ⟨⟨h1, h2, by show s.evs ++ [_] = t.evs ++ [_]; rw [h3], h4, q, ?_, ?_, ?_⟩, hs, ht⟩
       · show t.inp = (Xr.inOf c).drop (Xr.rds (s.evs ++ [_])); rw [hrd]; exact h6
       · show s.inp.length ≤ 50 - Xr.rds (s.evs ++ [_]); rw [hrd]; exact h7
       · show t.fuel - 1 + Xr.stp (s.evs ++ [_]) = Xr.stp c; rw [hst]; omega
     · refine .inr ((Xr.read_right O c _).step t f a (.inr (.inl ?_)))
       rw [q, h3]; exact List.prefix_refl _
     · exact .inr (.inl q)
 · obtain ⟨h1, h2, h3, h4, h5, h6, h7, h8⟩ := hb
   have hst : Xr.stp (s.evs ++ [⟨3, f.num, f.at_, 0, 0, Xr.inZ s⟩]) = Xr.stp s.evs := by
    unfold Xr.stp; rw [Xr.that_snoc, if_neg (by simp)]
   have hth : Xr.that 3 (s.evs ++ [⟨3, f.num, f.at_, 0, 0, Xr.inZ s⟩]) = Xr.that 3 s.evs ++ [⟨3, f.num, f.at_, 0, 0, Xr.inZ s⟩] := by
    rw [Xr.that_snoc, if_pos (by simp)]
   have hrd : Xr.rds (s.evs ++ [⟨3, f.num, f.at_, 0, 0, Xr.inZ s⟩]) = Xr.rds s.evs + 1 := by
    unfold Xr.rds; rw [hth, List.length_append]; rfl
   unfold Xr.rdS
   rw [Xr.tell_no (show (Xr.inS s).ended = false from h1)]
   rcases Xr.pre_step h5 hc ⟨3, f.num, f.at_, 0, 0, Xr.inZ s⟩ with q | q | q
   · have hp := Xr.that_pre 3 q
     rw [hth] at hp
     have hg : (Xr.that 3 c)[Xr.rds s.evs]? = some ⟨3, f.num, f.at_, 0, 0, Xr.inZ s⟩ := by
      obtain ⟨r, hr⟩ := hp
      show (Xr.that 3 c)[(Xr.that 3 s.evs).length]? = _
      rw [← hr, List.append_assoc, List.getElem?_append_right (Nat.le_refl _)]
      simp
     have hz : Xr.inZ t = Xr.inZ s := by
      unfold Xr.inZ
      rw [h6]
      by_cases h50 : Xr.rds s.evs < 50
      · have hi : (Xr.inOf c)[Xr.rds s.evs]? = some (Xr.inZ s) := by
         unfold Xr.inOf
         rw [List.getElem?_map, List.getElem?_take, if_pos h50, hg]
         rfl
        have hlt := (List.getElem?_eq_some_iff.1 hi).1
        rw [List.drop_eq_getElem_cons hlt, (List.getElem?_eq_some_iff.1 hi).2]
        rfl
      · have hn : s.inp = [] := List.eq_nil_of_length_eq_zero (by omega)
        have hl : (Xr.inOf c).length ≤ 50 := by
         unfold Xr.inOf
         rw [List.length_map, List.length_take]
         omega
        rw [hn, List.drop_eq_nil_of_le (by omega)]
     rw [Xr.tell_no (show (Xr.inS t).ended = false from h2), hz]
     refine .inl ⟨⟨h1, h2, by show s.evs ++ [_] = t.evs ++ [_]; rw [h3], h4, q, ?_, ?_, ?_⟩, rfl⟩
     · show t.inp.tail = (Xr.inOf c).drop (Xr.rds (s.evs ++ [_]))
       rw [hrd, h6, List.tail_drop]
     · show s.inp.tail.length ≤ 50 - Xr.rds (s.evs ++ [_])
       rw [hrd, List.length_tail]
       omega
     · show t.fuel + Xr.stp (s.evs ++ [_]) = Xr.stp c
       rw [hst]; exact h8
   · refine .inr ((Xr.read_right O c _).read t f (.inr (.inl ?_)))
     rw [q, h3]; exact List.prefix_refl _
   · exact .inr (.inl q)
 · obtain ⟨h1, h2, h3, h4, h5, h6, h7, h8⟩ := hb
   unfold Xr.beg
   rw [h4, Xr.tell_no (show ({ s with made := t.made + 1 } : Xr.S).ended = false from h1), Xr.tell_no (show ({ t with made := t.made + 1 } : Xr.S).ended = false from h2)]
   rcases Xr.pre_step h5 hc ⟨5, f.num, f.at_, q, 0, ((t.made + 1 : Nat) : Int)⟩ with q | q | q
   · refine .inl ⟨⟨h1, h2, by show s.evs ++ [_] = t.evs ++ [_]; rw [h3], rfl, q, ?_, ?_, ?_⟩, rfl⟩
     · show t.inp = (Xr.inOf c).drop (Xr.rds (s.evs ++ [_]))
       unfold Xr.rds; rw [Xr.that_snoc, if_neg (by simp)]; exact h6
     · show s.inp.length ≤ 50 - Xr.rds (s.evs ++ [_])
       unfold Xr.rds; rw [Xr.that_snoc, if_neg (by simp)]; exact h7
     · show t.fuel + Xr.stp (s.evs ++ [_]) = Xr.stp c
       unfold Xr.stp; rw [Xr.that_snoc, if_neg (by simp)]; exact h8
   · exact .inr (.inr (.inl (by show c <+: t.evs ++ [_]; rw [q, h3]; exact List.prefix_append _ _)))
   · exact .inr (.inl q)
theorem Xr.main_pre (hx : p[p.length - 1]? = some x) {inp : List Int} (hi : inp.length ≤ 50) {fuel : Nat} {c : List Ev} (hc : c <+: Xr.main p inp fuel) : c <+: Xr.main p (Xr.inOf c) (Xr.stp c) := by
 obtain ⟨s, t, h1, h2, h3, h4, h5⟩ := (Xr.read_bi hc).all hx inp (Xr.inOf c) fuel (Xr.stp c) ⟨rfl, rfl, rfl, rfl, List.nil_prefix, rfl, by show inp.length ≤ 50 - 0; omega, rfl⟩
 rw [← h5]
 rcases h1 with h | h | ⟨_, _, h⟩ | ⟨_, h⟩
 · exact absurd (by rw [h4]; exact List.prefix_refl _) h
 · exact h
 · rw [← h, h4]; exact hc
 · exact absurd h4 h
theorem Xr.main_reads (hx : p[p.length - 1]? = some x) {inp : List Int} (hi : inp.any Pg.beyond = false) {fuel : Nat} : (∀ e ∈ Xr.main p inp fuel, e.n0 = 3 → Pg.beyond e.n5 = false) ∧ Xr.stp (Xr.main p inp fuel) ≤ fuel := by
 have hcl : Xr.Cl (fun s => (∀ z ∈ s.inp, Pg.beyond z = false) ∧ (∀ e ∈ s.evs, e.n0 = 3 → Pg.beyond e.n5 = false) ∧ Xr.stp s.evs + s.fuel ≤ fuel) := by
  have ht : ∀ (s : Xr.S) (e : Ev) (k : Nat), (e.n0 = 3 → Pg.beyond e.n5 = false) → (e.n0 = 1 → k = 1) → ((∀ z ∈ s.inp, Pg.beyond z = false) ∧ (∀ e ∈ s.evs, e.n0 = 3 → Pg.beyond e.n5 = false) ∧ Xr.stp s.evs + s.fuel + k ≤ fuel) → ((∀ z ∈ (Xr.tell s e).inp, Pg.beyond z = false) ∧ (∀ d ∈ (Xr.tell s e).evs, d.n0 = 3 → Pg.beyond d.n5 = false) ∧ Xr.stp (Xr.tell s e).evs + (Xr.tell s e).fuel ≤ fuel) := fun s e k he hk hu => by
   cases hs : s.ended with
   | true => rw [Xr.tell_yes hs]; exact ⟨hu.1, hu.2.1, by omega⟩
   | false =>
    rw [Xr.tell_no hs]
    refine ⟨hu.1, fun d hd => ?_, ?_⟩
    · rcases List.mem_append.1 hd with h | h
      · exact hu.2.1 d h
      · simp at h; rw [h]; exact he
    · show Xr.stp (s.evs ++ [e]) + s.fuel ≤ fuel
      have h3 := hu.2.2
      unfold Xr.stp at h3 ⊢
      rw [Xr.that_snoc]
      split
      · rename_i h
        rw [List.length_append]
        have := hk (by simpa using h)
        simp
        omega
      · omega
  refine ⟨fun s e he hu => ht s e 0 (fun h => by rcases he with h' | h' | h' <;> omega) (fun h => by rcases he with h' | h' | h' <;> omega) hu, fun s f a how hu => ?_, fun s f a hu => ?_, fun s f hu => ?_, fun s f q hu => ?_⟩
  · exact ht s ⟨7, f.num, a, 0, 0, how⟩ 0 (fun h => by cases h) (fun h => by cases h) hu
  · unfold Xr.stepS
    by_cases hs : s.fuel = 0
    · simp only [if_pos hs]
      exact ht s ⟨7, f.num, a, 0, 0, 1⟩ 0 (fun h => by cases h) (fun h => by cases h) hu
    · simp only [if_neg hs]
      exact ht { s with fuel := s.fuel - 1 } ⟨1, f.num, a, 0, 0, 0⟩ 1 (fun h => by cases h) (fun _ => rfl) ⟨hu.1, hu.2.1, by show Xr.stp s.evs + (s.fuel - 1) + 1 ≤ fuel; have := hu.2.2; omega⟩
  · refine ht (Xr.inS s) ⟨3, f.num, f.at_, 0, 0, Xr.inZ s⟩ 0 (fun _ => ?_) (fun h => by cases h) ⟨fun z hz => hu.1 z (List.mem_of_mem_tail hz), hu.2⟩
    show Pg.beyond (s.inp.headD 0) = false
    cases hs : s.inp with
    | nil => rfl
    | cons z r => exact hu.1 z (by rw [hs]; exact List.mem_cons_self)
  · exact ht { s with made := s.made + 1 } ⟨5, f.num, f.at_, q, 0, ((s.made + 1 : Nat) : Int)⟩ 0 (fun h => by cases h) (fun h => by cases h) hu
 have h0 : ∀ z ∈ inp, Pg.beyond z = false := fun z hz => by
  cases hb : Pg.beyond z with
  | false => rfl
  | true => have := List.any_eq_true.2 ⟨z, hz, hb⟩; rw [hi] at this; cases this
 obtain ⟨s, h1, h2, h3⟩ := hcl.all hx inp fuel ⟨h0, fun e he => absurd he (by simp), by show 0 + fuel ≤ fuel; omega⟩
 rw [← h3]
 exact ⟨h1.2.1, by have := h1.2.2; omega⟩
end
end Go.Proofs.Ytcalcikclcmkaaa
namespace Go.Proofs.Ytcalcikclcmkaaa
open Go.RowKit
set_option linter.unusedVariables false
section
variable {m n : Nat} {p : List (Pg.FT m n)}
theorem Xr.last_of (h : Pg.chkP p = 0) : ∃ x, p[p.length - 1]? = some x := by
 unfold Pg.chkP at h
 split at h
 · cases h
 · rename_i h0
   exact ⟨p[p.length - 1]'(by omega), List.getElem?_eq_getElem (by omega)⟩
structure Xr.Ok (p : List (Pg.FT m n)) (inp : List Int) (fuel : Int) : Prop where
 chk : Pg.chkP p = 0
 few : inp.length ≤ 50
 fit : inp.any Pg.beyond = false
 lo : 0 ≤ fuel
 hi : fuel ≤ 500
theorem Xr.Ok.of {inp : List Int} {fuel : Int} (h : Xr.chkR p inp fuel = 0) : Xr.Ok p inp fuel := by
 unfold Xr.chkR at h
 split at h
 · rename_i h0
   unfold Pg.chkIn at h
   split at h
   · cases h
   rename_i h1
   split at h
   · cases h
   rename_i h2
   split at h
   · rename_i h3
     exact ⟨h0, by omega, by simpa using h2, h3.1, h3.2⟩
   · cases h
 · rename_i h0
   exact absurd h h0
theorem Xr.Ok.chkR {inp : List Int} {fuel : Int} (h : Xr.Ok p inp fuel) : Xr.chkR p inp fuel = 0 := by
 unfold Xr.chkR Pg.chkIn
 rw [if_pos h.chk, if_neg (by have := h.few; omega), if_neg (by simp [h.fit]), if_pos ⟨h.lo, h.hi⟩]
theorem Xr.Ok.out {inp : List Int} {fuel : Int} (h : Xr.Ok p inp fuel) : Xr.out p inp fuel = Xr.main p inp fuel.toNat := by
 unfold Xr.out
 rw [if_pos h.chkR]
theorem Xr.Ok.again {inp : List Int} {fuel : Int} (h : Xr.Ok p inp fuel) {c : List Ev} (hc : c <+: Xr.out p inp fuel) : Xr.Ok p (Xr.inOf c) ((Xr.stp c : Nat) : Int) := by
 obtain ⟨x, hx⟩ := Xr.last_of h.chk
 rw [h.out] at hc
 obtain ⟨h1, h2⟩ := Xr.main_reads hx h.fit (fuel := fuel.toNat)
 have h3 : Xr.stp c ≤ Xr.stp (Xr.main p inp fuel.toNat) := (Xr.that_pre 1 hc).length_le
 refine ⟨h.chk, ?_, ?_, by omega, by have := h.hi; omega⟩
 · unfold Xr.inOf
   rw [List.length_map, List.length_take]
   omega
 · rw [Bool.eq_false_iff]
   intro ha
   obtain ⟨z, hz, hb⟩ := List.any_eq_true.1 ha
   unfold Xr.inOf at hz
   obtain ⟨e, he, rfl⟩ := List.mem_map.1 hz
   have he2 := List.mem_filter.1 (List.mem_of_mem_take he)
   have := h1 e (hc.subset he2.1) (by simpa using he2.2)
   rw [this] at hb
   cases hb
end
end Go.Proofs.Ytcalcikclcmkaaa
