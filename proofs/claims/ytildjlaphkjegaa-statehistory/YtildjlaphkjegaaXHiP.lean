/-
  The last write of a variable is what it is: in plain words. By the verifier.
-/
import Derived.Test.YtildjlaphkjegaaXHi
namespace Go.Proofs.Ytildjlaphkjegaa
open Go.RowKit
set_option linter.unusedVariables false

/-- Cells, behind the writes of one frame ahead of a time. -/
def Xr.wrs (h : List Xr.Vl) (num t : Int) (c : List Int) : List Int := h.foldl (fun c x => if x.frame = num ∧ x.time < t then c.set x.index.toNat x.value else c) c
theorem Xr.wrs_snoc (h : List Xr.Vl) (num t : Int) (c : List Int) (x : Xr.Vl) : Xr.wrs (h ++ [x]) num t c = if x.frame = num ∧ x.time < t then (Xr.wrs h num t c).set x.index.toNat x.value else Xr.wrs h num t c := by
  unfold Xr.wrs
  rw [List.foldl_append]
  rfl
theorem Xr.wrs_none (h : List Xr.Vl) (num t : Int) (c : List Int) (hn : ∀ x ∈ h, ¬ (x.frame = num ∧ x.time < t)) : Xr.wrs h num t c = c := by
  induction h with
  | nil => rfl
  | cons x r ih =>
    show Xr.wrs r num t (if x.frame = num ∧ x.time < t then _ else c) = c
    rw [if_neg (hn x (List.mem_cons_self ..))]
    exact ih fun y hy => hn y (List.mem_cons_of_mem _ hy)
theorem Xr.wrs_len (h : List Xr.Vl) (num t : Int) : ∀ c : List Int, (Xr.wrs h num t c).length = c.length := by
  induction h with
  | nil => intro c; rfl
  | cons x r ih =>
    intro c
    show (Xr.wrs r num t (if x.frame = num ∧ x.time < t then _ else c)).length = c.length
    rw [ih]
    split
    · rw [List.length_set]
    · rfl
theorem Xr.wrs_mono (h : List Xr.Vl) (num t t' : Int) (c : List Int) (hh : ∀ x ∈ h, x.time < t ∧ x.time < t') : Xr.wrs h num t c = Xr.wrs h num t' c := by
  induction h generalizing c with
  | nil => rfl
  | cons x r ih =>
    have h1 := hh x (List.mem_cons_self ..)
    show Xr.wrs r num t (if x.frame = num ∧ x.time < t then _ else c) = Xr.wrs r num t' (if x.frame = num ∧ x.time < t' then _ else c)
    have h2 : (x.frame = num ∧ x.time < t) = (x.frame = num ∧ x.time < t') := propext ⟨fun h => ⟨h.1, h1.2⟩, fun h => ⟨h.1, h1.1⟩⟩
    simp only [h2]
    exact ih _ fun y hy => hh y (List.mem_cons_of_mem _ hy)
theorem Xr.histTo_step (main : Int) {l : List Ev} {k : Nat} {e : Ev} (hk : l[k]? = some e) (f u : Int) : Xr.histTo main l (k + 1) f u = if e.n0 = 2 ∧ f = ((Xr.fnsTo main (l.take k))[e.n1.toNat]?).getD 0 ∧ u = e.n3 then Xr.histTo main l k f u ++ [⟨(k : Nat), e.n1, e.n4, e.n5⟩] else Xr.histTo main l k f u := by
  show (match l[k]? with | none => Xr.histTo main l k | some e => _) f u = _
  rw [hk]
  dsimp only
  by_cases h2 : e.n0 = 2
  · rw [if_pos h2]
    by_cases h3 : f = ((Xr.fnsTo main (l.take k))[e.n1.toNat]?).getD 0 ∧ u = e.n3
    · rw [if_pos h3, if_pos ⟨h2, h3⟩, ← h3.1, ← h3.2]
    · rw [if_neg h3, if_neg (fun h => h3 h.2)]
  · rw [if_neg h2, if_neg (fun h => h2 h.1)]
theorem Xr.histTo_time (main : Int) (l : List Ev) : ∀ (k : Nat), k ≤ l.length → ∀ (f u : Int) x, x ∈ Xr.histTo main l k f u → x.time < (k : Nat)
  | 0, _, f, u, x, hx => by cases hx
  | k + 1, hk, f, u, x, hx => by
    rw [Xr.histTo_step main (List.getElem?_eq_getElem (show k < l.length by omega))] at hx
    split at hx
    · rcases List.mem_append.1 hx with h | h
      · have := Xr.histTo_time main l k (by omega) f u x h; omega
      · rw [List.mem_singleton] at h; subst h; show ((k : Nat) : Int) < _; omega
    · have := Xr.histTo_time main l k (by omega) f u x hx; omega
/-- What comes behind a time does not count. -/
theorem Xr.wrs_upto (main : Int) (l : List Ev) (f u num : Int) (t : Nat) (c : List Int) : ∀ (d : Nat), t + d ≤ l.length → Xr.wrs (Xr.histTo main l (t + d) f u) num (t : Nat) c = Xr.wrs (Xr.histTo main l t f u) num (t : Nat) c
  | 0, _ => rfl
  | d + 1, hd => by
    rw [← Xr.wrs_upto main l f u num t c d (by omega)]
    rw [← Nat.add_assoc, Xr.histTo_step main (List.getElem?_eq_getElem (show t + d < l.length by omega))]
    split
    · rw [Xr.wrs_snoc, if_neg (fun h => by have := h.2; dsimp only at this; omega)]
    · rfl
theorem Xr.histTo_mem (main : Int) (l : List Ev) (f u : Int) (t : Nat) {x : Xr.Vl} (ht : x.time < (t : Nat)) : ∀ (d : Nat), t + d ≤ l.length → x ∈ Xr.histTo main l (t + d) f u → x ∈ Xr.histTo main l t f u
  | 0, _, hx => hx
  | d + 1, hd, hx => by
    rw [← Nat.add_assoc, Xr.histTo_step main (List.getElem?_eq_getElem (show t + d < l.length by omega))] at hx
    split at hx
    · rcases List.mem_append.1 hx with h | h
      · exact Xr.histTo_mem main l f u t ht d (by omega) h
      · rw [List.mem_singleton] at h; rw [h] at ht; dsimp only at ht; omega
    · exact Xr.histTo_mem main l f u t ht d (by omega) hx
section
variable {m n : Nat} {p : List (Pg.FT m n)}
/-- What a frame's variables are, by its history. -/
structure Xr.Hq (p : List (Pg.FT m n)) (l : List Ev) (t : Nat) (fr : Xr.Fr) : Prop where
  len : fr.vs.length = (Xr.szOf p fr.fn).length
  at_ : ∀ (v : Nat) (z : Int), (Xr.szOf p fr.fn)[v]? = some z → fr.vs[v]? = some (Xr.wrs (Xr.histTo ((p.length - 1 : Nat) : Int) l t fr.fn (v : Nat)) fr.num (t : Nat) (List.replicate (max z 1).toNat 0))
  in_ : ∀ (v : Nat) (z : Int), (Xr.szOf p fr.fn)[v]? = some z → ∀ x ∈ Xr.histTo ((p.length - 1 : Nat) : Int) l t fr.fn (v : Nat), x.frame = fr.num → 0 ≤ x.index ∧ x.index.toNat < (max z 1).toNat
theorem Xr.zeros_at (sz : List Int) {v : Nat} {z : Int} (h : sz[v]? = some z) : (Xr.zeros sz)[v]? = some (List.replicate (max z 1).toNat 0) := by
  unfold Xr.zeros
  rw [List.getElem?_map, h]
  rfl
theorem Xr.Hq.keep {l : List Ev} {t : Nat} {fr : Xr.Fr} (h : Xr.Hq p l t fr) (ht : t < l.length) (hn : l[t].n0 = 2 → l[t].n1 ≠ fr.num) : Xr.Hq p l (t + 1) fr := by
  have hs := fun (v : Nat) => Xr.histTo_step ((p.length - 1 : Nat) : Int) (List.getElem?_eq_getElem ht) fr.fn (v : Nat)
  have hm := fun (v : Nat) (c : List Int) => Xr.wrs_mono (Xr.histTo ((p.length - 1 : Nat) : Int) l t fr.fn (v : Nat)) fr.num (t : Nat) ((t + 1 : Nat) : Int) c (fun x hx => by have := Xr.histTo_time _ l t (by omega) _ _ x hx; omega)
  refine ⟨h.len, fun v z hz => ?_, fun v z hz x hx hf => ?_⟩
  · rw [h.at_ v z hz, hs v]
    split
    · rename_i hc
      rw [Xr.wrs_snoc, if_neg (fun hh => hn hc.1 hh.1), ← hm]
    · rw [← hm]
  · rw [hs v] at hx
    split at hx
    · rename_i hc
      rcases List.mem_append.1 hx with h1 | h1
      · exact h.in_ v z hz x h1 hf
      · rw [List.mem_singleton] at h1
        subst h1
        exact absurd hf (hn hc.1)
    · exact h.in_ v z hz x hx hf
theorem Xr.StOk.hist {l : List Ev} (h : Xr.StOk p l) : ∀ t : Nat, t ≤ l.length → ∀ fr ∈ Xr.reps p (Xr.ini p) (l.take t), Xr.Hq p l t fr
  | 0, _, fr, hf => by
    have : fr = ⟨0, ((p.length - 1 : Nat) : Int), Xr.zeros (Xr.szOf p ((p.length - 1 : Nat) : Int))⟩ := List.mem_singleton.1 hf
    subst this
    refine ⟨by show (Xr.zeros _).length = _; unfold Xr.zeros; rw [List.length_map], fun v z hz => Xr.zeros_at _ hz, fun v z hz x hx => by cases hx⟩
  | t + 1, ht, fr, hf => by
    have ih := Xr.StOk.hist h t (by omega)
    have hlt : t < l.length := by omega
    have hy := List.getElem?_eq_getElem hlt
    obtain ⟨st0, tt, hst, g2, g5, g6⟩ := h.good (l.take t) l[t] (l.drop (t + 1)) (by rw [← List.drop_eq_getElem_cons hlt, List.take_append_drop])
    have hnq := Xr.Nq.of (p := p) (l.take t) (Xr.good_pre h.good (List.take_prefix _ _)) (Xr.numd_pre h.numd (List.take_prefix _ _))
    rw [List.take_succ_eq_append_getElem hlt, Xr.reps_snoc] at hf
    rw [hst] at hf ih hnq
    by_cases k5 : l[t].n0 = 5
    · rw [Xr.rep1_call _ k5] at hf
      rcases List.mem_append.1 hf with h1 | h1
      · exact (ih fr h1).keep hlt (fun h2 => by omega)
      · rw [List.mem_singleton] at h1
        subst h1
        have h5 := h.numd (l.take t) l[t] (l.drop (t + 1)) (by rw [← List.drop_eq_getElem_cons hlt, List.take_append_drop]) k5
        have hno : ∀ (k : Nat), k ≤ t → ∀ (f u : Int) x, x ∈ Xr.histTo ((p.length - 1 : Nat) : Int) l k f u → x.frame < l[t].n5 := by
          intro k
          induction k with
          | zero => intro _ f u x hx; cases hx
          | succ k ihk =>
            intro hk f u x hx
            have hkl : k < l.length := by omega
            rw [Xr.histTo_step _ (List.getElem?_eq_getElem hkl)] at hx
            split at hx
            · rename_i hc
              rcases List.mem_append.1 hx with h2 | h2
              · exact ihk (by omega) f u x h2
              · rw [List.mem_singleton] at h2
                subst h2
                obtain ⟨q, hq1, hq2⟩ := h.wrote_in (List.getElem?_eq_getElem hkl) hc.1
                rw [Xr.fnsTo_len] at hq2
                have h8 : (Xr.callsIn (l.take k)).length ≤ (Xr.callsIn (l.take t)).length := by
                  unfold Xr.callsIn
                  exact ((List.take_prefix_take_left (l := l) (by omega : k ≤ t)).filter _).length_le
                show l[k].n1 < _
                omega
            · exact ihk (by omega) f u x hx
        have hs := fun (v : Nat) => Xr.histTo_step ((p.length - 1 : Nat) : Int) hy l[t].n3 (v : Nat)
        have hs' : ∀ v : Nat, Xr.histTo ((p.length - 1 : Nat) : Int) l (t + 1) l[t].n3 (v : Nat) = Xr.histTo ((p.length - 1 : Nat) : Int) l t l[t].n3 (v : Nat) := fun v => by rw [hs v, if_neg (fun hh => by omega)]
        refine ⟨by show (Xr.zeros _).length = _; unfold Xr.zeros; rw [List.length_map], fun v z hz => ?_, fun v z hz x hx hfx => ?_⟩
        · have hz' : (Xr.szOf p l[t].n3)[v]? = some z := hz
          show (Xr.zeros (Xr.szOf p l[t].n3))[v]? = some (Xr.wrs (Xr.histTo ((p.length - 1 : Nat) : Int) l (t + 1) l[t].n3 (v : Nat)) l[t].n5 ((t + 1 : Nat) : Int) _)
          rw [Xr.zeros_at _ hz', hs' v, Xr.wrs_none _ _ _ _ (fun x hx hh => by have := hno t (Nat.le_refl _) _ _ x hx; omega)]
        · have hx' : x ∈ Xr.histTo ((p.length - 1 : Nat) : Int) l (t + 1) l[t].n3 (v : Nat) := hx
          rw [hs' v] at hx'
          have := hno t (Nat.le_refl _) _ _ x hx'
          have hfx' : x.frame = l[t].n5 := hfx
          omega
    · by_cases k6 : l[t].n0 = 6
      · rw [Xr.rep1_back _ _ k6] at hf
        exact (ih fr (List.mem_append_left _ hf)).keep hlt (fun h2 => by omega)
      · by_cases k2 : l[t].n0 = 2
        · rw [Xr.rep1_wr _ _ k2] at hf
          obtain ⟨g2a, v0, i0, lv, g2b, g2c, g2d, g2e⟩ := g2 k2
          have hup := List.pairwise_append.1 hnq.up
          rcases List.mem_append.1 hf with h1 | h1
          · have := hup.2.2 fr h1 tt (List.mem_singleton.2 rfl)
            exact (ih fr (List.mem_append_left _ h1)).keep hlt (fun _ => by omega)
          · rw [List.mem_singleton] at h1
            subst h1
            have hT := ih tt (List.mem_append_right _ (List.mem_singleton.2 rfl))
            obtain ⟨q, hq1, hq2⟩ := hnq.fn tt (List.mem_append_right _ (List.mem_singleton.2 rfl))
            have hfn : ((Xr.fnsTo ((p.length - 1 : Nat) : Int) (l.take t))[l[t].n1.toNat]?).getD 0 = tt.fn := by
              rw [g2a, hq1, Int.toNat_natCast, hq2]
              rfl
            have hm := fun (v : Nat) (c : List Int) => Xr.wrs_mono (Xr.histTo ((p.length - 1 : Nat) : Int) l t tt.fn (v : Nat)) tt.num (t : Nat) ((t + 1 : Nat) : Int) c (fun x hx => by have := Xr.histTo_time _ l t (by omega) _ _ x hx; omega)
            have hs : ∀ v : Nat, Xr.histTo ((p.length - 1 : Nat) : Int) l (t + 1) tt.fn (v : Nat) = if v = v0 then Xr.histTo ((p.length - 1 : Nat) : Int) l t tt.fn (v : Nat) ++ [⟨(t : Nat), tt.num, (i0 : Nat), l[t].n5⟩] else Xr.histTo ((p.length - 1 : Nat) : Int) l t tt.fn (v : Nat) := fun v => by
              rw [Xr.histTo_step _ hy, hfn, g2a, g2c]
              by_cases hv : v = v0
              · rw [if_pos ⟨k2, rfl, by rw [g2b, hv]⟩, if_pos hv]
              · rw [if_neg (fun hh => hv (by have := hh.2.2; omega)), if_neg hv]
            rw [g2b, g2c, Int.toNat_natCast, Int.toNat_natCast]
            have hat := fun (v : Nat) (z : Int) (hz : (Xr.szOf p tt.fn)[v]? = some z) => hT.at_ v z hz
            refine ⟨?_, fun v z hz => ?_, fun v z hz x hx hfx => ?_⟩
            · show (Xr.upd tt.vs v0 i0 l[t].n5).length = _
              unfold Xr.upd
              rw [List.length_set]
              exact hT.len
            · have hz' : (Xr.szOf p tt.fn)[v]? = some z := hz
              show (Xr.upd tt.vs v0 i0 l[t].n5)[v]? = some (Xr.wrs (Xr.histTo ((p.length - 1 : Nat) : Int) l (t + 1) tt.fn (v : Nat)) tt.num ((t + 1 : Nat) : Int) _)
              rw [Xr.upd_at g2d, hs v]
              by_cases hv : v = v0
              · subst hv
                rw [if_pos rfl, if_pos rfl, Xr.wrs_snoc, if_pos ⟨rfl, by show ((t : Nat) : Int) < _; omega⟩, ← hm]
                have h3 := hat v z hz'
                rw [g2d] at h3
                rw [Option.some.inj h3]
                rfl
              · rw [if_neg hv, if_neg hv, ← hm]
                exact hat v z hz'
            · have hz' : (Xr.szOf p tt.fn)[v]? = some z := hz
              have hx' : x ∈ Xr.histTo ((p.length - 1 : Nat) : Int) l (t + 1) tt.fn (v : Nat) := hx
              rw [hs v] at hx'
              by_cases hv : v = v0
              · rw [if_pos hv] at hx'
                rcases List.mem_append.1 hx' with h3 | h3
                · exact hT.in_ v z hz' x h3 hfx
                · rw [List.mem_singleton] at h3
                  subst h3
                  have h4 := hat v z hz'
                  rw [hv, g2d] at h4
                  have h5 : lv.length = (max z 1).toNat := by
                    rw [Option.some.inj h4, Xr.wrs_len, List.length_replicate]
                  refine ⟨by show (0 : Int) ≤ (i0 : Nat); omega, ?_⟩
                  show ((i0 : Nat) : Int).toNat < _
                  rw [Int.toNat_natCast, ← h5]
                  exact g2e
              · rw [if_neg hv] at hx'
                exact hT.in_ v z hz' x hx' hfx
        · rw [Xr.rep1_no _ k5 k6 k2] at hf
          exact (ih fr hf).keep hlt (fun h2 => absurd h2 k2)
/-- What the law StateHistory asks of a frame. -/
theorem Xr.StOk.hist_at {l : List Ev} (h : Xr.StOk p l) {t : Nat} (ht : t ≤ l.length) {fr : Xr.Fr} (hf : fr ∈ Xr.reps p (Xr.ini p) (l.take t)) {v : Nat} (hv : v < (Xr.szOf p fr.fn).length) :
    ∃ lv, fr.vs[v]? = some lv ∧ Xr.wrs (Xr.hiAll p l fr.fn (v : Nat)) fr.num (t : Nat) (List.replicate lv.length 0) = lv ∧ ∀ x ∈ Xr.hiAll p l fr.fn (v : Nat), x.frame = fr.num → x.time < (t : Nat) → 0 ≤ x.index ∧ x.index < (lv.length : Int) := by
  have hq := h.hist t ht fr hf
  have hz := List.getElem?_eq_getElem hv
  have h1 := hq.at_ v _ hz
  have hlen : (Xr.wrs (Xr.histTo ((p.length - 1 : Nat) : Int) l t fr.fn (v : Nat)) fr.num (t : Nat) (List.replicate (max (Xr.szOf p fr.fn)[v] 1).toNat 0)).length = (max (Xr.szOf p fr.fn)[v] 1).toNat := by rw [Xr.wrs_len, List.length_replicate]
  refine ⟨_, h1, ?_, fun x hx hfr htm => ?_⟩
  · rw [hlen]
    have h2 := Xr.wrs_upto ((p.length - 1 : Nat) : Int) l fr.fn (v : Nat) fr.num t (List.replicate (max (Xr.szOf p fr.fn)[v] 1).toNat 0) (l.length - t) (by omega)
    rw [show t + (l.length - t) = l.length by omega] at h2
    exact h2
  · rw [hlen]
    have h2 := Xr.histTo_mem ((p.length - 1 : Nat) : Int) l fr.fn (v : Nat) t htm (l.length - t) (by omega) (by rw [show t + (l.length - t) = l.length by omega]; exact hx)
    have h3 := hq.in_ v _ hz x h2 hfr
    omega
end
end Go.Proofs.Ytildjlaphkjegaa
