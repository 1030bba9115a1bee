/-
  VCx, XClo, VCr, VCg, VCm. By the verifier.
-/
import Derived.Test.YtpfogjplnodacaaGreatLE
namespace Go.Proofs.YtpfogjplnodacaaGreat
open Go.RowKit
set_option linter.unusedVariables false
def Vd.Lies (L : List Kd.I) (o : Nat) (c : List Kd.I) : Prop := ∀ (i : Nat) (x : Kd.I), c[i]? = some x → L[o + i]? = some x
theorem Vd.Lies.fst {L : List Kd.I} {o : Nat} {a b : List Kd.I} (h : Vd.Lies L o (a ++ b)) : Vd.Lies L o a := fun i x hx => h i x (by rw [List.getElem?_append_left (List.getElem?_eq_some_iff.1 hx).1]; exact hx)
theorem Vd.Lies.snd {L : List Kd.I} {o : Nat} {a b : List Kd.I} (h : Vd.Lies L o (a ++ b)) : Vd.Lies L (o + a.length) b := fun i x hx => by
 rw [Nat.add_assoc]
 exact h (a.length + i) x (by rw [List.getElem?_append_right (by omega), Nat.add_sub_cancel_left]; exact hx)
theorem Vd.Lies.head {L : List Kd.I} {o : Nat} {x : Kd.I} {r : List Kd.I} (h : Vd.Lies L o (x :: r)) : L[o]? = some x := h 0 x rfl
theorem Vd.Lies.tail {L : List Kd.I} {o : Nat} {x : Kd.I} {r : List Kd.I} (h : Vd.Lies L o (x :: r)) : Vd.Lies L (o + 1) r := Vd.Lies.snd (a := [x]) h
section
variable {L : List Kd.I} {fs : List Int} {ss : List (List Int)}
theorem Vd.stp {s : Xr.S} {f : Vd.F} {r : List Vd.F} {x : Kd.I} (he : s.ended = false) (hx : L[f.pc]? = some x) : Vd.go L fs ss 1 ⟨s, f :: r, false⟩ = Vd.does fs ss x s { f with pc := f.pc + 1 } r := by
 rw [Vd.go_more (k := 0) (by show (s.ended || false) = false; rw [he]; rfl)]
 show Vd.do1 L fs ss ⟨s, f :: r, false⟩ = _
 unfold Vd.do1
 dsimp only
 rw [hx]
def Vd.Rc (L : List Kd.I) (fs : List Int) (ss : List (List Int)) (t : Vd.St) (n : Nat) (t' : Vd.St) : Prop := ∃ k, k ≤ n ∧ Vd.go L fs ss k t = t'
theorem Vd.Rc.refl (t : Vd.St) : Vd.Rc L fs ss t 0 t := ⟨0, Nat.le_refl _, rfl⟩
theorem Vd.Rc.trans {t t1 t2 : Vd.St} {n m : Nat} (h1 : Vd.Rc L fs ss t n t1) (h2 : Vd.Rc L fs ss t1 m t2) : Vd.Rc L fs ss t (n + m) t2 := by
 obtain ⟨k, hk, e⟩ := h1
 obtain ⟨l, hl, e2⟩ := h2
 exact ⟨k + l, by omega, by rw [Vd.go_add, e, e2]⟩
theorem Vd.Rc.more {t t1 : Vd.St} {n m : Nat} (h : Vd.Rc L fs ss t n t1) (hn : n ≤ m) : Vd.Rc L fs ss t m t1 := by
 obtain ⟨k, hk, e⟩ := h
 exact ⟨k, by omega, e⟩
theorem Vd.Rc.one {s : Xr.S} {f : Vd.F} {r : List Vd.F} {x : Kd.I} (he : s.ended = false) (hx : L[f.pc]? = some x) : Vd.Rc L fs ss ⟨s, f :: r, false⟩ 1 (Vd.does fs ss x s { f with pc := f.pc + 1 } r) := ⟨1, Nat.le_refl _, Vd.stp he hx⟩
def Vd.res (s : Xr.S) (fr : Xr.F) (fn o : Nat) (r : List Vd.F) (q : List Int) (v : Int × Int) : Vd.St := if v.2 = 0 then ⟨s, ⟨fr, fn, o, v.1 :: q⟩ :: r, false⟩ else Vd.over (Xr.fin s fr fr.at_ v.2)
def Vd.resL (s : Xr.S) (fr : Xr.F) (fn o : Nat) (r : List Vd.F) (q : List Int) : Except Int (List Int) → Vd.St
 | .ok ls => ⟨s, ⟨fr, fn, o, ls.reverse ++ q⟩ :: r, false⟩
 | .error h => Vd.over (Xr.fin s fr fr.at_ h)
theorem Vd.evs_len {α : Type} (f : α → Int × Int) : ∀ (l : List α) (ls : List Int), Pg.evs f l = .ok ls → ls.length = l.length
 | [], ls, h => by cases h; rfl
 | y :: r, ls, h => by
  unfold Pg.evs at h
  split at h
  · cases he : Pg.evs f r with
    | error e => rw [he] at h; cases h
    | ok b =>
     rw [he] at h
     cases h
     rw [List.length_append, Vd.evs_len f r b he]
     simp
     omega
  · cases h
theorem Vd.evs_err {α : Type} (f : α → Int × Int) : ∀ (l : List α) (h : Int), Pg.evs f l = .error h → h ≠ 0
 | [], h, e => by cases e
 | y :: r, h, e => by
  unfold Pg.evs at e
  split at e
  · cases he : Pg.evs f r with
    | error b =>
     rw [he] at e
     cases e
     exact Vd.evs_err f r h he
    | ok b => rw [he] at e; cases e
  · rename_i h0
    cases e
    exact h0
theorem Vd.at_nat {sz : List Int} {n z : Int} (h : Pg.at? sz n = some z) : ∃ v : Nat, n = v ∧ sz[v]? = some z := by
 unfold Pg.at? at h
 split at h
 · exact ⟨n.toNat, by omega, h⟩
 · cases h
theorem Vd.var_len {vs : List (List Int)} {sz : List Int} (h : vs.map List.length = sz.map fun n => (max n 1).toNat) {v : Nat} {z : Int} (hz : sz[v]? = some z) : ∃ l, vs[v]? = some l ∧ l.length = (max z 1).toNat := by
 have h1 : (vs.map List.length)[v]? = (sz.map fun n => (max n 1).toNat)[v]? := by rw [h]
 rw [List.getElem?_map, List.getElem?_map, hz] at h1
 cases hv : vs[v]? with
 | none => rw [hv] at h1; cases h1
 | some l => rw [hv] at h1; exact ⟨l, rfl, by simpa using h1⟩
theorem Vd.parts_pos : ∀ (m : Nat) (x : Pg.XT m), 1 ≤ Pg.parts m x
 | 0, x => Empty.elim x
 | m + 1, x => Nat.le_add_right 1 _
variable {s : Xr.S} {fr : Xr.F} {fn : Nat} {r : List Vd.F}
theorem Vd.exs_go (he : s.ended = false) {m : Nat} (ih : ∀ (x : Pg.XT m) (o : Nat) (q : List Int), Pg.wx (ss[fn]?.getD []) m x = 0 → Vd.Lies L o (Kd.ex m x) → q.length + Pg.parts m x ≤ 64 → Vd.Rc L fs ss ⟨s, ⟨fr, fn, o, q⟩ :: r, false⟩ (Pg.parts m x) (Vd.res s fr fn (o + Pg.parts m x) r q (Pg.val fr.vs m x))) :
  ∀ (l : List (Pg.XT m)) (o : Nat) (q : List Int), (∀ y ∈ l, Pg.wx (ss[fn]?.getD []) m y = 0) → Vd.Lies L o (Kd.exs l) → q.length + (Kd.exs l).length ≤ 64 → Vd.Rc L fs ss ⟨s, ⟨fr, fn, o, q⟩ :: r, false⟩ (Kd.exs l).length (Vd.resL s fr fn (o + (Kd.exs l).length) r q (Pg.evs (Pg.val fr.vs m) l))
 | [], o, q, _, _, _ => Vd.Rc.refl _
 | y :: t, o, q, hw, hl, hq => by
  have e : Kd.exs (y :: t) = Kd.ex m y ++ Kd.exs t := List.flatMap_cons
  have hlen : (Kd.exs (y :: t)).length = Pg.parts m y + (Kd.exs t).length := by rw [e, List.length_append, Kd.ex_len]
  rw [hlen] at hq ⊢
  rw [e] at hl
  have h1 := ih y o q (hw y List.mem_cons_self) hl.fst (by omega)
  have hp := Vd.parts_pos m y
  unfold Pg.evs
  unfold Vd.res at h1
  split
  · rename_i h0
    rw [if_pos h0] at h1
    have hl2 := hl.snd
    rw [Kd.ex_len] at hl2
    have h2 := Vd.exs_go he ih t (o + Pg.parts m y) ((Pg.val fr.vs m y).1 :: q) (fun z hz => hw z (List.mem_cons_of_mem _ hz)) hl2 (by rw [List.length_cons]; omega)
    have h3 := h1.trans h2
    cases hv : Pg.evs (Pg.val fr.vs m) t with
    | error h =>
     rw [hv] at h3
     exact h3
    | ok ls =>
     rw [hv] at h3
     unfold Vd.resL at h3 ⊢
     unfold Pg.cont
     dsimp only at h3 ⊢
     rw [List.reverse_append, List.append_assoc, ← Nat.add_assoc]
     exact h3
  · rename_i h0
    rw [if_neg h0] at h1
    exact h1.more (by omega)
theorem Vd.ex_go (he : s.ended = false) (hsh : fr.vs.map List.length = (ss[fn]?.getD []).map fun n => (max n 1).toNat) (hnn : ∀ z ∈ ss[fn]?.getD [], 0 ≤ z) : ∀ (m : Nat) (x : Pg.XT m) (o : Nat) (q : List Int), Pg.wx (ss[fn]?.getD []) m x = 0 → Vd.Lies L o (Kd.ex m x) → q.length + Pg.parts m x ≤ 64 → Vd.Rc L fs ss ⟨s, ⟨fr, fn, o, q⟩ :: r, false⟩ (Pg.parts m x) (Vd.res s fr fn (o + Pg.parts m x) r q (Pg.val fr.vs m x))
 | 0, x, _, _, _, _, _ => Empty.elim x
 | m + 1, x, o, q, hw, hl, hq => by
  have hpl : Pg.parts (m + 1) x = (Kd.exs x.2).length + 1 := by
   have := Kd.ex_len (m + 1) x
   rw [← this]
   show (Kd.exs x.2 ++ [_]).length = _
   rw [List.length_append]
   rfl
  have hw2 := Pg.orW_zero (show Pg.orW (Pg.wx1 (ss[fn]?.getD []) x.1.1 x.1.2 x.2.length) (Pg.first (x.2.map (Pg.wx (ss[fn]?.getD []) m))) = 0 from hw)
  have hl1 : Vd.Lies L o (Kd.exs x.2 ++ [Kd.one x.1.1 x.1.2]) := hl
  have h1 := Vd.exs_go he (fun y o q h1 h2 h3 => Vd.ex_go he hsh hnn m y o q h1 h2 h3) x.2 o q (fun y hy => Pg.first_zero hw2.2 _ (List.mem_map_of_mem hy)) hl1.fst (by omega)
  have hlx := hl1.snd.head
  rw [hpl]
  have hval : Pg.val fr.vs (m + 1) x = match Pg.evs (Pg.val fr.vs m) x.2 with
   | .error h => (0, h)
   | .ok ls => Pg.fin fr.vs x.1.1 x.1.2 ls := rfl
  rw [hval]
  cases hv : Pg.evs (Pg.val fr.vs m) x.2 with
  | error h =>
   rw [hv] at h1
   have hne := Vd.evs_err _ _ _ hv
   unfold Vd.res
   dsimp only
   rw [if_neg hne]
   exact h1.more (by omega)
  | ok ls =>
   rw [hv] at h1
   have hll := Vd.evs_len _ _ _ hv
   dsimp only
   refine h1.trans ?_
   have hx1 : L[(⟨fr, fn, o + (Kd.exs x.2).length, ls.reverse ++ q⟩ : Vd.F).pc]? = some (Kd.one x.1.1 x.1.2) := hlx
   have h2 := Vd.Rc.one (fs := fs) (ss := ss) (r := r) he hx1
   have hw1 := hw2.1
   unfold Pg.wx1 at hw1
   split at hw1
   · rename_i hK
     split at hw1
     · rename_i hA
       rw [hA] at hll
       unfold Kd.one at h2
       have key : Vd.does fs ss (if x.1.1 = 1 then ⟨2, x.1.2, 0⟩ else if x.1.1 = 2 then ⟨3, x.1.2, 0⟩ else if x.1.1 = 3 then ⟨4, x.1.2, 0⟩ else ⟨5, x.1.1, 0⟩) s { (⟨fr, fn, o + (Kd.exs x.2).length, ls.reverse ++ q⟩ : Vd.F) with pc := o + (Kd.exs x.2).length + 1 } r = Vd.res s fr fn (o + ((Kd.exs x.2).length + 1)) r q (Pg.fin fr.vs x.1.1 x.1.2 ls) := by
        rw [← Nat.add_assoc]
        by_cases k1 : x.1.1 = 1
        · rw [if_pos k1]
          have hl0 : ls = [] := List.eq_nil_of_length_eq_zero (by rw [hll]; unfold Pg.argsN; rw [if_pos (.inl k1)])
          subst hl0
          rw [Vd.d2, if_pos (by show ([] ++ q).length < 64; rw [List.nil_append]; omega)]
          unfold Vd.res Pg.fin
          rw [if_pos k1]
          rfl
        · by_cases k2 : x.1.1 = 2
          · rw [if_neg k1, if_pos k2]
            have hl0 : ls = [] := List.eq_nil_of_length_eq_zero (by rw [hll]; unfold Pg.argsN; rw [if_pos (.inr k2)])
            subst hl0
            cases ha : Pg.at? (ss[fn]?.getD []) x.1.2 with
            | none => rw [Pg.wx0_none (.inl k2) ha] at hw1; cases hw1
            | some z =>
             rw [Pg.wx0_some (.inl k2) ha] at hw1
             have hz : z = 0 := by
              split at hw1
              · rename_i h0
                by_cases hz : z = 0
                · exact hz
                · have := h0.1 hz; omega
              · cases hw1
             obtain ⟨v, hv0, hv1⟩ := Vd.at_nat ha
             rw [hv0]
             rw [Vd.d3, if_pos ⟨by show ([] ++ q).length < 64; rw [List.nil_append]; omega, by unfold Vd.plain; rw [Int.toNat_natCast, hv1, hz]; rfl⟩]
             unfold Vd.res Pg.fin
             rw [if_neg k1, if_pos k2]
             rfl
          · by_cases k3 : x.1.1 = 3
            · rw [if_neg k1, if_neg k2, if_pos k3]
              obtain ⟨i, hi⟩ : ∃ i, ls = [i] := by
               have : ls.length = 1 := by rw [hll]; unfold Pg.argsN; rw [if_neg (by omega), if_pos k3]
               match ls, this with
               | [i], _ => exact ⟨i, rfl⟩
              subst hi
              cases ha : Pg.at? (ss[fn]?.getD []) x.1.2 with
              | none => rw [Pg.wx0_none (.inr k3) ha] at hw1; cases hw1
              | some z =>
               rw [Pg.wx0_some (.inr k3) ha] at hw1
               have hz : z ≠ 0 := by
                split at hw1
                · rename_i h0
                  exact h0.2 k3
                · cases hw1
               obtain ⟨v, hv0, hv1⟩ := Vd.at_nat ha
               rw [hv0]
               have hzn := hnn z (List.mem_of_getElem? hv1)
               obtain ⟨l, hvl, hlz⟩ := Vd.var_len hsh hv1
               have hlen : (l.length : Int) = z := by rw [hlz]; omega
               rw [Vd.d4 (n := i) (q := q) _ _ rfl, if_pos (by unfold Vd.arr Vd.plain; rw [Int.toNat_natCast, hv1, Bool.and_eq_true]; exact ⟨decide_eq_true (List.getElem?_eq_some_iff.1 hv1).1, by simp [hz]⟩)]
               have hvar : Pg.var? fr.vs (v : Nat) = some l := by unfold Pg.var?; rw [if_pos (by omega), Int.toNat_natCast]; exact hvl
               have hfin : ∀ y, Pg.at? l i = some y → Pg.fin fr.vs x.1.1 (v : Nat) [i] = (y, 0) := fun y hy => by
                unfold Pg.fin
                rw [if_neg k1, if_neg k2, if_pos k3, hvar]
                show (match Pg.at? l i with | .none => ((0 : Int), (3 : Int)) | .some v => (v, 0)) = _
                rw [hy]
               have hfin0 : Pg.at? l i = Option.none → Pg.fin fr.vs x.1.1 (v : Nat) [i] = (0, 3) := fun hy => by
                unfold Pg.fin
                rw [if_neg k1, if_neg k2, if_pos k3, hvar]
                show (match Pg.at? l i with | .none => ((0 : Int), (3 : Int)) | .some v => (v, 0)) = _
                rw [hy]
               show (if Vd.has (ss[fn]?.getD []) (v : Nat) i = true then _ else _) = _
               have hhas : Vd.has (ss[fn]?.getD []) (v : Nat) i = decide (0 ≤ i ∧ i < z) := by unfold Vd.has; rw [Int.toNat_natCast, hv1]; rfl
               rw [hhas]
               by_cases hin : 0 ≤ i ∧ i < z
               · rw [if_pos (decide_eq_true hin)]
                 obtain ⟨j, rfl⟩ : ∃ j : Nat, i = j := ⟨i.toNat, by omega⟩
                 have hj : j < l.length := by omega
                 have hat : Pg.at? l (j : Nat) = some l[j] := by unfold Pg.at?; rw [if_pos (by omega), Int.toNat_natCast]; exact List.getElem?_eq_getElem hj
                 rw [hfin _ hat]
                 have hcell : Vd.cellOf { (⟨fr, fn, o + (Kd.exs x.2).length, [(j : Int)].reverse ++ q⟩ : Vd.F) with pc := o + (Kd.exs x.2).length + 1 } (v : Nat) (j : Nat) = l[j] := by
                  unfold Vd.cellOf
                  rw [Int.toNat_natCast, Int.toNat_natCast]
                  show ((fr.vs[v]?.getD [])[j]?).getD 0 = _
                  rw [hvl]
                  show (l[j]?).getD 0 = _
                  rw [List.getElem?_eq_getElem hj]
                  rfl
                 rw [hcell]
                 rfl
               · rw [if_neg (by simpa using hin)]
                 have hat : Pg.at? l i = Option.none := by
                  unfold Pg.at?
                  split
                  · exact List.getElem?_eq_none_iff.2 (by omega)
                  · rfl
                 rw [hfin0 hat]
                 rfl
            · rw [if_neg k1, if_neg k2, if_neg k3]
              obtain ⟨i, n, hi⟩ : ∃ i n, ls = [i, n] := by
               have : ls.length = 2 := by rw [hll]; unfold Pg.argsN; rw [if_neg (by omega), if_neg k3]
               match ls, this with
               | [i, n], _ => exact ⟨i, n, rfl⟩
              subst hi
              rw [Vd.d5 (n := n) (i := i) (q := q) _ _ rfl]
              unfold Vd.res Pg.fin
              rw [if_neg k1, if_neg k2, if_neg k3]
              rfl
       rw [← key]
       exact h2
     · cases hw1
   · cases hw1
end
end Go.Proofs.YtpfogjplnodacaaGreat
namespace Go.Proofs.YtpfogjplnodacaaGreat
open Go.RowKit
set_option linter.unusedVariables false
def Xr.plain (e : Ev) : Prop := e.n0 = 2 ∨ e.n0 = 4 ∨ e.n0 = 6
def Xr.rdS (s : Xr.S) (f : Xr.F) : Xr.S := Xr.tell (Xr.inS s) ⟨3, f.num, f.at_, 0, 0, Xr.inZ s⟩
def Xr.beg (s : Xr.S) (f : Xr.F) (q : Int) : Xr.S := Xr.tell { s with made := s.made + 1 } ⟨5, f.num, f.at_, q, 0, ((s.made + 1 : Nat) : Int)⟩
structure Xr.Cl (U : Xr.S → Prop) : Prop where
 tell : ∀ (s : Xr.S) (e : Ev), Xr.plain e → U s → U (Xr.tell s e)
 fin : ∀ (s : Xr.S) (f : Xr.F) (a how : Int), U s → U (Xr.fin s f a how)
 step : ∀ (s : Xr.S) (f : Xr.F) (a : Int), U s → U (Xr.stepS s f a)
 read : ∀ (s : Xr.S) (f : Xr.F), U s → U (Xr.rdS s f)
 call : ∀ (s : Xr.S) (f : Xr.F) (q : Int), U s → U (Xr.beg s f q)
theorem Xr.walk_u {U : Xr.S → Prop} {α : Type} {g : α → Nat → Xr.S → Xr.F → Xr.T} (hg : ∀ c a s f, U s → U (g c a s f).1) (cn : α → Nat) : ∀ (l : List α) (a : Nat) (s : Xr.S) (f : Xr.F), U s → U (Xr.walk g cn l a s f).1
 | [], a, s, f, hu => hu
 | c :: r, a, s, f, hu => by
  show U (if s.ended then (s, f) else Xr.walk g cn r (a + cn c) (g c a s f).1 (g c a s f).2).1
  split
  · exact hu
  · exact Xr.walk_u hg cn r _ _ _ (hg c a s f hu)
section
variable {U : Xr.S → Prop}
theorem Xr.Cl.val (h : Xr.Cl U) {n : Nat} (s : Xr.S) (f : Xr.F) (x : Pg.XT n) (hu : U s) : U (Xr.valS s f x) := by
 unfold Xr.valS
 split
 · exact hu
 · split
   · exact hu
   · exact h.fin _ _ _ _ hu
theorem Xr.Cl.wr (h : Xr.Cl U) (s : Xr.S) (f : Xr.F) (a v i z : Int) (hu : U s) : U (Xr.wrS s f a v i z) := h.tell _ _ (Or.inl rfl) hu
theorem Xr.Cl.put (h : Xr.Cl U) {m : Nat} (s : Xr.S) (f : Xr.F) (v : Int) (ix ex : Pg.XT m) (hu : U s) : U (Xr.putS s f v ix ex) := by
 unfold Xr.putS
 split
 · exact h.wr _ _ _ _ _ _ (h.val _ _ _ (h.val _ _ _ hu))
 · exact h.fin _ _ _ _ (h.val _ _ _ (h.val _ _ _ hu))
theorem Xr.Cl.rd (h : Xr.Cl U) (s : Xr.S) (f : Xr.F) (v : Int) (hu : U s) : U (Xr.readS s f v) := h.wr _ _ _ _ _ _ (h.read s f hu)
theorem Xr.Cl.arg (h : Xr.Cl U) {m : Nat} (f : Xr.F) : ∀ (l : List (Pg.XT m)) (s : Xr.S), U s → U (Xr.argS f l s)
 | [], s, hu => hu
 | x :: r, s, hu => Xr.Cl.arg h f r _ (h.val s f x hu)
theorem Xr.Cl.par (h : Xr.Cl U) (g : Xr.F) (a : Int) : ∀ (zs : List Int) (i : Nat) (s : Xr.S), U s → U (Xr.parS g a i zs s)
 | [], i, s, hu => hu
 | z :: r, i, s, hu => Xr.Cl.par h g a r (i + 1) _ (h.wr _ _ _ _ _ _ hu)
theorem Xr.Cl.loop (h : Xr.Cl U) {m : Nat} {body : Xr.S → Xr.F → Xr.T} (hb : ∀ s f, U s → U (body s f).1) (ex : Pg.XT m) (a : Int) : ∀ (k : Nat) (s : Xr.S) (f : Xr.F), U s → U (Xr.loop body ex a k s f).1
 | 0, s, f, hu => hu
 | k + 1, s, f, hu => by
  show U (if Xr.valV s f ex = 0 then (Xr.valS s f ex, f) else Xr.loop body ex a k (Xr.stepS (body (Xr.valS s f ex) f).1 (body (Xr.valS s f ex) f).2 a) (Xr.stepF (body (Xr.valS s f ex) f).1 (body (Xr.valS s f ex) f).2 a)).1
  split
  · exact h.val s f ex hu
  · exact Xr.Cl.loop h hb ex a k _ _ (h.step _ _ _ (hb _ _ (h.val s f ex hu)))
theorem Xr.Cl.cmdT (h : Xr.Cl U) {m j : Nat} {hc : Xr.S → Xr.F → Int → Int → List (Pg.XT m) → Xr.T} {cs : List (Pg.CT m j) → Nat → Xr.S → Xr.F → Xr.T} (h1 : ∀ s f v q l, U s → U (hc s f v q l).1) (h2 : ∀ l a s f, U s → U (cs l a s f).1) (c : Pg.CT m (j + 1)) (a : Nat) (s : Xr.S) (f : Xr.F) (hu : U s) : U (Xr.cmdT hc cs c a s f).1 := by
 unfold Xr.cmdT
 split
 · exact h.wr _ _ _ _ _ _ (h.val _ _ _ hu)
 split
 · exact h.put _ _ _ _ _ hu
 split
 · exact h1 _ _ _ _ _ hu
 split
 · exact h.rd _ _ _ hu
 split
 · exact h.tell _ _ (Or.inr (Or.inl rfl)) (h.val _ _ _ hu)
 split
 · split
   · exact h2 _ _ _ _ (h.val _ _ _ hu)
   · exact h2 _ _ _ _ (h.val _ _ _ hu)
 · exact h.loop (fun s f hu => h2 _ _ s f hu) _ _ _ _ _ hu
theorem Xr.Cl.cmds (h : Xr.Cl U) {m : Nat} {hc : Xr.S → Xr.F → Int → Int → List (Pg.XT m) → Xr.T} (h1 : ∀ s f v q l, U s → U (hc s f v q l).1) : ∀ (j : Nat) (l : List (Pg.CT m j)) (a : Nat) (s : Xr.S) (f : Xr.F), U s → U (Xr.cmds hc j l a s f).1
 | 0, l, a, s, f, hu => hu
 | j + 1, l, a, s, f, hu => Xr.walk_u (fun c a s f hu => h.cmdT h1 (Xr.Cl.cmds h h1 j) c a _ _ (h.step _ _ _ hu)) _ l a s f hu
theorem Xr.Cl.fn (h : Xr.Cl U) {m n : Nat} (p : List (Pg.FT m n)) {hc : Xr.S → Xr.F → Int → Int → List (Pg.XT m) → Xr.T} (h1 : ∀ s f v q l, U s → U (hc s f v q l).1) (q : Nat) (s : Xr.S) (g : Xr.F) (hu : U s) : U (Xr.fn p hc q s g).1 := by
 unfold Xr.fn
 split
 · exact hu
 · exact h.cmds h1 _ _ _ _ _ hu
theorem Xr.Cl.callB (h : Xr.Cl U) {m n : Nat} (p : List (Pg.FT m n)) {hc : Xr.S → Xr.F → Int → Int → List (Pg.XT m) → Xr.T} (h1 : ∀ s f v q l, U s → U (hc s f v q l).1) (x : Pg.FT m n) (q : Nat) (zs : List Int) (v : Int) (s : Xr.S) (f : Xr.F) (hu : U s) : U (Xr.callB p hc x q zs v s f).1 :=
 h.wr _ _ _ _ _ _ (h.tell _ _ (Or.inr (Or.inr rfl)) (h.val _ _ _ (h.fn p h1 _ _ _ (h.par _ _ _ _ _ (h.call s f q hu)))))
theorem Xr.Cl.calls (h : Xr.Cl U) {m n : Nat} (p : List (Pg.FT m n)) : ∀ (d : Nat) (s : Xr.S) (f : Xr.F) (v q : Int) (l : List (Pg.XT m)), U s → U (Xr.call p d s f v q l).1
 | 0, s, f, v, q, l, hu => h.fin _ _ _ _ (h.arg f l s hu)
 | d + 1, s, f, v, q, l, hu => by
  unfold Xr.call
  split
  · exact hu
  · exact h.callB p (Xr.Cl.calls h p d) _ _ _ _ _ _ (h.arg f l s hu)
theorem Xr.Cl.all (h : Xr.Cl U) {m n : Nat} {p : List (Pg.FT m n)} {x : Pg.FT m n} (hx : p[p.length - 1]? = some x) (inp : List Int) (fuel : Nat) (hu : U ⟨inp, fuel, 0, [], false⟩) : ∃ s, U s ∧ s.ended = true ∧ s.evs = Xr.main p inp fuel := by
 have h1 := h.fin _ (Xr.fn p (Xr.call p 5) (p.length - 1) ⟨inp, fuel, 0, [], false⟩ (Xr.newF 0 0 x.sizes)).2 (-1) 0 (h.fn p (h.calls p 5) (p.length - 1) ⟨inp, fuel, 0, [], false⟩ (Xr.newF 0 0 x.sizes) hu)
 refine ⟨_, h1, rfl, ?_⟩
 unfold Xr.main
 rw [hx]
end
theorem Xr.tell_no {s : Xr.S} (h : s.ended = false) (e : Ev) : Xr.tell s e = { s with evs := s.evs ++ [e] } := by
 unfold Xr.tell
 rw [if_neg (by simp [h])]
theorem Xr.tell_yes {s : Xr.S} (h : s.ended = true) (e : Ev) : Xr.tell s e = s := by
 unfold Xr.tell
 rw [if_pos h]
theorem Xr.cl_evs {U : List Ev → Bool → Prop} (h1 : ∀ l e, e.n0 ≠ 7 → U l false → U (l ++ [e]) false) (h2 : ∀ l e, e.n0 = 7 → U l false → U (l ++ [e]) true) : Xr.Cl (fun s => U s.evs s.ended) := by
 have ht : ∀ (s : Xr.S) (e : Ev), e.n0 ≠ 7 → U s.evs s.ended → U (Xr.tell s e).evs (Xr.tell s e).ended := fun s e he hu => by
  cases hs : s.ended with
  | true => rw [Xr.tell_yes hs]; exact hu
  | false => rw [Xr.tell_no hs]; show U (s.evs ++ [e]) s.ended; rw [hs] at hu ⊢; exact h1 _ _ he hu
 have hf : ∀ (s : Xr.S) (f : Xr.F) (a how : Int), U s.evs s.ended → U (Xr.fin s f a how).evs (Xr.fin s f a how).ended := fun s f a how hu => by
  show U (Xr.tell s _).evs true
  cases hs : s.ended with
  | true => rw [Xr.tell_yes hs]; rw [hs] at hu; exact hu
  | false => rw [Xr.tell_no hs]; rw [hs] at hu; exact h2 _ _ rfl hu
 refine ⟨fun s e he hu => ht s e (by rcases he with h | h | h <;> omega) hu, hf, fun s f a hu => ?_, fun s f hu => ht _ _ (by show (3 : Int) ≠ 7; omega) hu, fun s f q hu => ht _ _ (by show (5 : Int) ≠ 7; omega) hu⟩
 show U (Xr.stepS s f a).evs (Xr.stepS s f a).ended
 unfold Xr.stepS
 split
 · exact hf _ _ _ _ hu
 · exact ht _ _ (by show (1 : Int) ≠ 7; omega) hu
theorem Xr.cl_same (L : List Ev) : Xr.Cl (fun s => s.ended = true ∧ s.evs = L) := by
 have ht : ∀ (s : Xr.S) (e : Ev), s.ended = true ∧ s.evs = L → (Xr.tell s e).ended = true ∧ (Xr.tell s e).evs = L := fun s e hu => by rw [Xr.tell_yes hu.1]; exact hu
 refine ⟨fun s e _ hu => ht s e hu, fun s f a how hu => ⟨rfl, (ht s _ hu).2⟩, fun s f a hu => ?_, fun s f hu => ht _ _ hu, fun s f q hu => ht _ _ hu⟩
 show (Xr.stepS s f a).ended = true ∧ (Xr.stepS s f a).evs = L
 unfold Xr.stepS
 split
 · exact ⟨rfl, (ht s _ hu).2⟩
 · exact ht _ _ hu
theorem Xr.cl_grows (L : List Ev) : Xr.Cl (fun s => L <+: s.evs) := by
 refine Xr.cl_evs (U := fun l _ => L <+: l) (fun l e _ hu => ?_) (fun l e _ hu => ?_)
 · exact hu.trans (List.prefix_append _ _)
 · exact hu.trans (List.prefix_append _ _)
end Go.Proofs.YtpfogjplnodacaaGreat
namespace Go.Proofs.YtpfogjplnodacaaGreat
open Go.RowKit
set_option linter.unusedVariables false
def Vd.Rch (L : List Kd.I) (fs : List Int) (ss : List (List Int)) (t : Vd.St) (c : Nat) (s : Xr.S) (gs : List Vd.F) : Prop :=
 ∃ k, (s.ended = false → k + 70 * s.fuel ≤ 70 * t.s.fuel + c) ∧ (s.ended = true → k ≤ 70 * t.s.fuel + c + 1 ∧ (Vd.go L fs ss k t).lost = false) ∧ (Vd.go L fs ss k t).s.ended = s.ended ∧ (Vd.go L fs ss k t).s.evs = s.evs ∧ (s.ended = false → Vd.go L fs ss k t = ⟨s, gs, false⟩)
section
variable {L : List Kd.I} {fs : List Int} {ss : List (List Int)}
theorem Vd.Rch.refl {s : Xr.S} {gs : List Vd.F} {c : Nat} : Vd.Rch L fs ss ⟨s, gs, false⟩ c s gs := ⟨0, fun _ => by show 0 + 70 * s.fuel ≤ 70 * s.fuel + c; omega, fun _ => ⟨by omega, rfl⟩, rfl, rfl, fun _ => rfl⟩
theorem Vd.Rch.more {t : Vd.St} {s : Xr.S} {gs : List Vd.F} {c d : Nat} (h : Vd.Rch L fs ss t c s gs) (hc : c ≤ d) : Vd.Rch L fs ss t d s gs := by
 obtain ⟨k, h1, h2, r⟩ := h
 exact ⟨k, fun e => by have := h1 e; omega, fun e => ⟨by have := (h2 e).1; omega, (h2 e).2⟩, r⟩
theorem Vd.Rch.over {t : Vd.St} {s1 s2 : Xr.S} {gs : List Vd.F} {n c : Nat} (h : Vd.Rc L fs ss t n (Vd.over s1)) (h1 : s1.ended = true) (h2 : s2.ended = true ∧ s2.evs = s1.evs) (hn : n ≤ c + 1) : Vd.Rch L fs ss t c s2 gs := by
 obtain ⟨k, hk, e⟩ := h
 exact ⟨k, fun e => (by rw [h2.1] at e; cases e), fun _ => ⟨by omega, by rw [e]; rfl⟩, by rw [e]; exact h1.trans h2.1.symm, by rw [e]; exact h2.2.symm, fun e => (by rw [h2.1] at e; cases e)⟩
theorem Vd.Rch.ahead {t : Vd.St} {s1 s2 : Xr.S} {g1 gs : List Vd.F} {n c : Nat} (h : Vd.Rc L fs ss t n ⟨s1, g1, false⟩) (h2 : Vd.Rch L fs ss ⟨s1, g1, false⟩ c s2 gs) {d : Nat} (hd : n + 70 * s1.fuel + c ≤ 70 * t.s.fuel + d) : Vd.Rch L fs ss t d s2 gs := by
 obtain ⟨k, hk, e⟩ := h
 obtain ⟨l, a1, a2, a3, a4, a5⟩ := h2
 have hg : Vd.go L fs ss (k + l) t = Vd.go L fs ss l ⟨s1, g1, false⟩ := by rw [Vd.go_add, e]
 refine ⟨k + l, fun e => ?_, fun e => ⟨?_, by rw [hg]; exact (a2 e).2⟩, by rw [hg]; exact a3, by rw [hg]; exact a4, fun e => by rw [hg]; exact a5 e⟩
 · have := a1 e
   dsimp only at this
   omega
 · have := (a2 e).1
   dsimp only at this
   omega
theorem Vd.Rch.trans {t : Vd.St} {s1 s2 : Xr.S} {g1 gs : List Vd.F} {c1 c2 : Nat} (h : Vd.Rch L fs ss t c1 s1 g1) (h1 : s1.ended = false → Vd.Rch L fs ss ⟨s1, g1, false⟩ c2 s2 gs) (h2 : s1.ended = true → s2.ended = true ∧ s2.evs = s1.evs) : Vd.Rch L fs ss t (c1 + c2) s2 gs := by
 obtain ⟨k, a1, a2, a3, a4, a5⟩ := h
 cases he : s1.ended with
 | true =>
  obtain ⟨b1, b2⟩ := h2 he
  have := (a2 he).1
  exact ⟨k, fun e => (by rw [b1] at e; cases e), fun _ => ⟨by omega, (a2 he).2⟩, by rw [a3, he, b1], by rw [a4, b2], fun e => (by rw [b1] at e; cases e)⟩
 | false =>
  have := a1 he
  exact Vd.Rch.ahead ⟨k, Nat.le_refl _, a5 he⟩ (h1 he) (by omega)
theorem Vd.ex_then {s : Xr.S} {fr : Xr.F} {now : Nat} {r : List Vd.F} (he : s.ended = false) (hsh : fr.vs.map List.length = (ss[now]?.getD []).map fun n => (max n 1).toNat) (hnn : ∀ z ∈ ss[now]?.getD [], 0 ≤ z) {m : Nat} (x : Pg.XT m) (o : Nat) (q : List Int) (hx : Pg.chkX (ss[now]?.getD []) m x = 0) (hl : Vd.Lies L o (Kd.ex m x)) (hq : q.length ≤ 49) {c : Nat} {s2 : Xr.S} {gs : List Vd.F}
  (h1 : (Pg.val fr.vs m x).2 = 0 → Vd.Rch L fs ss ⟨s, ⟨fr, now, o + (Kd.ex m x).length, (Pg.val fr.vs m x).1 :: q⟩ :: r, false⟩ c s2 gs) (h2 : (Pg.val fr.vs m x).2 ≠ 0 → s2.ended = true ∧ s2.evs = (Xr.fin s fr fr.at_ (Pg.val fr.vs m x).2).evs) : Vd.Rch L fs ss ⟨s, ⟨fr, now, o, q⟩ :: r, false⟩ (15 + c) s2 gs := by
 obtain ⟨h15, hw⟩ := Kd.chkX_of hx
 have h := Vd.ex_go (fs := fs) (L := L) (r := r) he hsh hnn m x o q hw hl (by omega)
 unfold Vd.res at h
 by_cases h0 : (Pg.val fr.vs m x).2 = 0
 · rw [if_pos h0] at h
   have h3 := h1 h0
   rw [Kd.ex_len] at h3
   exact Vd.Rch.ahead h h3 (by show Pg.parts m x + 70 * s.fuel + c ≤ 70 * s.fuel + (15 + c); omega)
 · rw [if_neg h0] at h
   exact Vd.Rch.over h rfl (h2 h0) (by omega)
theorem Vd.one_then {s s1 : Xr.S} {f : Vd.F} {r g1 gs : List Vd.F} {x : Kd.I} {c : Nat} {s2 : Xr.S} (he : s.ended = false) (hx : L[f.pc]? = some x) (hd : Vd.does fs ss x s { f with pc := f.pc + 1 } r = ⟨s1, g1, false⟩) (hf : s1.fuel = s.fuel) (h : Vd.Rch L fs ss ⟨s1, g1, false⟩ c s2 gs) : Vd.Rch L fs ss ⟨s, f :: r, false⟩ (1 + c) s2 gs := by
 have h1 := Vd.Rc.one (fs := fs) (ss := ss) (r := r) he hx
 rw [hd] at h1
 exact Vd.Rch.ahead h1 h (by show 1 + 70 * s1.fuel + c ≤ 70 * s.fuel + (1 + c); omega)
theorem Vd.one_over {s s1 s2 : Xr.S} {f : Vd.F} {r gs : List Vd.F} {x : Kd.I} {c : Nat} (he : s.ended = false) (hx : L[f.pc]? = some x) (hd : Vd.does fs ss x s { f with pc := f.pc + 1 } r = Vd.over s1) (h1 : s1.ended = true) (h2 : s2.ended = true ∧ s2.evs = s1.evs) : Vd.Rch L fs ss ⟨s, f :: r, false⟩ c s2 gs := by
 have h := Vd.Rc.one (fs := fs) (ss := ss) (r := r) he hx
 rw [hd] at h
 exact Vd.Rch.over h h1 h2 (by omega)
end
theorem Vd.wc_kind {k : Int} {va : Option Int} {my mo pa : Bool} {wi we wa : Nat} (h : Pg.wc k va my mo pa wi we wa = 0) (hk : k ≤ 4) : ∃ z, va = some z ∧ (z ≠ 0 ↔ k = 2) := by
 unfold Pg.wc at h
 split at h
 · cases h
 split at h
 · cases h
 split at h
 · cases h
 split at h
 · cases h
 · rename_i h1 h2 h3 h4
   cases hv : va with
   | none => exact absurd ⟨hk, hv⟩ h2
   | some z =>
    refine ⟨z, rfl, ?_⟩
    rw [hv] at h4
    exact Classical.byContradiction (fun hn => h4 ⟨hk, hn⟩)
theorem Vd.val_ok {m : Nat} {s : Xr.S} {fr : Xr.F} {x : Pg.XT m} (he : s.ended = false) : Xr.valV s fr x = (Pg.val fr.vs m x).1 ∧ Xr.valS s fr x = if (Pg.val fr.vs m x).2 = 0 then s else Xr.fin s fr fr.at_ (Pg.val fr.vs m x).2 := by
 unfold Xr.valV Xr.valS
 rw [he]
 exact ⟨rfl, rfl⟩
theorem Vd.wr_on {s : Xr.S} (he : s.ended = false) (f : Xr.F) (a v i z : Int) : (Xr.wrS s f a v i z).ended = false ∧ (Xr.wrS s f a v i z).fuel = s.fuel := by
 unfold Xr.wrS
 rw [Vd.tell_evs he]
 exact ⟨he, rfl⟩
theorem Vd.rd_fuel (s : Xr.S) (f : Xr.F) (v : Int) : (Xr.readS s f v).fuel = s.fuel ∧ True := by
 have ht : ∀ (s : Xr.S) (e : Ev), (Xr.tell s e).fuel = s.fuel := fun s e => by unfold Xr.tell; split <;> rfl
 exact ⟨(ht _ _).trans (ht _ _), trivial⟩
section
variable {L : List Kd.I} {fs : List Int} {ss : List (List Int)} {m n : Nat} {p : List (Pg.FT m n)} {now : Nat} {x : Pg.FT m n} {j : Nat} {c : Pg.CT m (j + 1)} {s : Xr.S} {fr : Xr.F} {r : List Vd.F} {o : Nat}
theorem Vd.set_go (hss : ss[now]?.getD [] = x.sizes) (hnn : ∀ z ∈ x.sizes, 0 ≤ z) (hsh : fr.vs.map List.length = x.sizes.map fun n => (max n 1).toNat) (hw : Pg.wcm p now x c = 0) (he : s.ended = false) (k1 : c.1.1 = 1) (hl : Vd.Lies L o (Kd.ex m c.2.1.2.1 ++ [⟨6, c.1.2.1, 0⟩])) :
  Vd.Rch L fs ss ⟨s, ⟨fr, now, o, []⟩ :: r, false⟩ 69 (Xr.wrS (Xr.valS s fr c.2.1.2.1) fr fr.at_ c.1.2.1 0 (Xr.valV s fr c.2.1.2.1)) (⟨Xr.wrF fr c.1.2.1 0 (Xr.valV s fr c.2.1.2.1), now, o + (Kd.ex m c.2.1.2.1 ++ [(⟨6, c.1.2.1, 0⟩ : Kd.I)]).length, []⟩ :: r) := by
 obtain ⟨hkr, hva, hmy, hwi, hwe, hwa⟩ := Xr.wc_ok (show Pg.wc c.1.1 (Pg.at? x.sizes c.1.2.1) _ _ _ (Pg.chkX x.sizes m c.2.1.1) (Pg.chkX x.sizes m c.2.1.2.1) _ = 0 from hw)
 obtain ⟨z, hz, hz2⟩ := Vd.wc_kind (show Pg.wc c.1.1 (Pg.at? x.sizes c.1.2.1) _ _ _ (Pg.chkX x.sizes m c.2.1.1) (Pg.chkX x.sizes m c.2.1.2.1) _ = 0 from hw) (by omega)
 have hz0 : z = 0 := Classical.byContradiction (fun hn => by have := hz2.1 hn; omega)
 obtain ⟨v, hv0, hv1⟩ := Vd.at_nat hz
 rw [hv0] at hl ⊢
 obtain ⟨e1, e2⟩ := Vd.val_ok (fr := fr) (x := c.2.1.2.1) he
 rw [e1, e2]
 refine Vd.Rch.more (c := 15 + (1 + 0)) (Vd.ex_then he (by rw [hss]; exact hsh) (by rw [hss]; exact hnn) c.2.1.2.1 o [] (by rw [hss]; exact hwe (by omega) (by omega)) hl.fst (by simp) (fun h0 => ?_) (fun h0 => ?_)) (by omega)
 · rw [if_pos h0]
   refine Vd.one_then (x := ⟨6, (v : Nat), 0⟩) he hl.snd.head ?_ (Vd.wr_on he _ _ _ _ _).2 Vd.Rch.refl
   rw [Vd.d6 (n := (Pg.val fr.vs m c.2.1.2.1).1) (q := []) _ _ rfl, if_pos (by unfold Vd.plain; rw [Int.toNat_natCast]; show ((ss[now]?.getD [])[v]? == some 0) = true; rw [hss, hv1, hz0]; rfl), List.length_append]
   rfl
 · rw [if_neg h0]
   exact (Xr.cl_same _).wr _ _ _ _ _ _ ⟨rfl, rfl⟩
theorem Vd.put_go (hss : ss[now]?.getD [] = x.sizes) (hnn : ∀ z ∈ x.sizes, 0 ≤ z) (hsh : fr.vs.map List.length = x.sizes.map fun n => (max n 1).toNat) (hw : Pg.wcm p now x c = 0) (he : s.ended = false) (k2 : c.1.1 = 2) (hl : Vd.Lies L o (Kd.ex m c.2.1.1 ++ (Kd.ex m c.2.1.2.1 ++ [⟨7, c.1.2.1, 0⟩]))) :
  Vd.Rch L fs ss ⟨s, ⟨fr, now, o, []⟩ :: r, false⟩ 69 (Xr.putS s fr c.1.2.1 c.2.1.1 c.2.1.2.1) (⟨Xr.putF s fr c.1.2.1 c.2.1.1 c.2.1.2.1, now, o + (Kd.ex m c.2.1.1 ++ (Kd.ex m c.2.1.2.1 ++ [(⟨7, c.1.2.1, 0⟩ : Kd.I)])).length, []⟩ :: r) := by
 obtain ⟨hkr, hva, hmy, hwi, hwe, hwa⟩ := Xr.wc_ok (show Pg.wc c.1.1 (Pg.at? x.sizes c.1.2.1) _ _ _ (Pg.chkX x.sizes m c.2.1.1) (Pg.chkX x.sizes m c.2.1.2.1) _ = 0 from hw)
 obtain ⟨z, hz, hz2⟩ := Vd.wc_kind (show Pg.wc c.1.1 (Pg.at? x.sizes c.1.2.1) _ _ _ (Pg.chkX x.sizes m c.2.1.1) (Pg.chkX x.sizes m c.2.1.2.1) _ = 0 from hw) (by omega)
 have hz0 : z ≠ 0 := hz2.2 k2
 obtain ⟨v, hv0, hv1⟩ := Vd.at_nat hz
 have hzn := hnn z (List.mem_of_getElem? hv1)
 obtain ⟨l, hvl, hlz⟩ := Vd.var_len hsh hv1
 have hlen : (l.length : Int) = z := by rw [hlz]; omega
 rw [hv0] at hl ⊢
 obtain ⟨e1, e2⟩ := Vd.val_ok (fr := fr) (x := c.2.1.1) he
 refine Vd.Rch.more (c := 15 + (15 + (1 + 0))) (Vd.ex_then he (by rw [hss]; exact hsh) (by rw [hss]; exact hnn) c.2.1.1 o [] (by rw [hss]; exact hwi k2) hl.fst (by simp) (fun h0 => ?_) (fun h0 => ?_)) (by omega)
 · have es : Xr.valS s fr c.2.1.1 = s := by rw [e2, if_pos h0]
   obtain ⟨e3, e4⟩ := Vd.val_ok (fr := fr) (x := c.2.1.2.1) he
   have hl2 := hl.snd
   refine Vd.ex_then he (by rw [hss]; exact hsh) (by rw [hss]; exact hnn) c.2.1.2.1 _ _ (by rw [hss]; exact hwe (by omega) (by omega)) hl2.fst (by simp) (fun h1 => ?_) (fun h1 => ?_)
   · have es2 : Xr.valS s fr c.2.1.2.1 = s := by rw [e4, if_pos h1]
     have hd := Vd.d7 (fs := fs) (ss := ss) (s := s) (f := { (⟨fr, now, o + (Kd.ex m c.2.1.1).length + (Kd.ex m c.2.1.2.1).length, [(Pg.val fr.vs m c.2.1.2.1).1, (Pg.val fr.vs m c.2.1.1).1]⟩ : Vd.F) with pc := o + (Kd.ex m c.2.1.1).length + (Kd.ex m c.2.1.2.1).length + 1 }) (r := r) (v : Nat) 0 (n := (Pg.val fr.vs m c.2.1.2.1).1) (i := (Pg.val fr.vs m c.2.1.1).1) (q := []) rfl
     rw [if_pos (by unfold Vd.arr Vd.plain; rw [Int.toNat_natCast, Bool.and_eq_true]; show decide (v < (ss[now]?.getD []).length) = true ∧ (!((ss[now]?.getD [])[v]? == some 0)) = true; rw [hss, hv1]; exact ⟨decide_eq_true (List.getElem?_eq_some_iff.1 hv1).1, by simp [hz0]⟩)] at hd
     have hhas : Vd.has (ss[now]?.getD []) (v : Nat) (Pg.val fr.vs m c.2.1.1).1 = decide (0 ≤ (Pg.val fr.vs m c.2.1.1).1 ∧ (Pg.val fr.vs m c.2.1.1).1 < z) := by unfold Vd.has; rw [Int.toNat_natCast, hss, hv1]; rfl
     have hlv : ((fr.vs[(v : Int).toNat]?.getD []).length : Int) = z := by rw [Int.toNat_natCast, hvl]; exact hlen
     unfold Xr.putS Xr.putF
     rw [es, es2, e1, e3, hlv]
     by_cases hin : 0 ≤ (Pg.val fr.vs m c.2.1.1).1 ∧ (Pg.val fr.vs m c.2.1.1).1 < z
     · rw [if_pos hin, if_pos hin]
       rw [if_pos (show Vd.has (ss[now]?.getD []) (v : Nat) (Pg.val fr.vs m c.2.1.1).1 = true by rw [hhas]; exact decide_eq_true hin)] at hd
       refine Vd.one_then (x := ⟨7, (v : Nat), 0⟩) he hl2.snd.head ?_ (Vd.wr_on he _ _ _ _ _).2 Vd.Rch.refl
       refine hd.trans ?_
       have hpc : o + (Kd.ex m c.2.1.1).length + (Kd.ex m c.2.1.2.1).length + 1 = o + (Kd.ex m c.2.1.1 ++ (Kd.ex m c.2.1.2.1 ++ [(⟨7, (v : Nat), 0⟩ : Kd.I)])).length := by
        rw [List.length_append, List.length_append]
        simp
        omega
       rw [← hpc]
     · rw [if_neg hin, if_neg hin]
       rw [if_neg (show ¬ Vd.has (ss[now]?.getD []) (v : Nat) (Pg.val fr.vs m c.2.1.1).1 = true by rw [hhas]; simpa using hin)] at hd
       exact Vd.one_over (x := ⟨7, (v : Nat), 0⟩) he hl2.snd.head hd rfl ⟨rfl, rfl⟩
   · have hcl : (Xr.valS s fr c.2.1.2.1).ended = true ∧ (Xr.valS s fr c.2.1.2.1).evs = (Xr.fin s fr fr.at_ (Pg.val fr.vs m c.2.1.2.1).2).evs := by rw [e4, if_neg h1]; exact ⟨rfl, rfl⟩
     unfold Xr.putS
     rw [es]
     split
     · exact (Xr.cl_same _).wr _ _ _ _ _ _ hcl
     · exact (Xr.cl_same _).fin _ _ _ _ hcl
 · have hcl : (Xr.valS s fr c.2.1.1).ended = true ∧ (Xr.valS s fr c.2.1.1).evs = (Xr.fin s fr fr.at_ (Pg.val fr.vs m c.2.1.1).2).evs := by rw [e2, if_neg h0]; exact ⟨rfl, rfl⟩
   unfold Xr.putS
   split
   · exact (Xr.cl_same _).wr _ _ _ _ _ _ ((Xr.cl_same _).val _ _ _ hcl)
   · exact (Xr.cl_same _).fin _ _ _ _ ((Xr.cl_same _).val _ _ _ hcl)
theorem Vd.read_go (hss : ss[now]?.getD [] = x.sizes) (hw : Pg.wcm p now x c = 0) (he : s.ended = false) (k4 : c.1.1 = 4) (hl : Vd.Lies L o [⟨8, c.1.2.1, 0⟩]) :
  Vd.Rch L fs ss ⟨s, ⟨fr, now, o, []⟩ :: r, false⟩ 69 (Xr.readS s fr c.1.2.1) (⟨Xr.readF s fr c.1.2.1, now, o + 1, []⟩ :: r) := by
 obtain ⟨z, hz, hz2⟩ := Vd.wc_kind (show Pg.wc c.1.1 (Pg.at? x.sizes c.1.2.1) _ _ _ (Pg.chkX x.sizes m c.2.1.1) (Pg.chkX x.sizes m c.2.1.2.1) _ = 0 from hw) (by omega)
 have hz0 : z = 0 := Classical.byContradiction (fun hn => by have := hz2.1 hn; omega)
 obtain ⟨v, hv0, hv1⟩ := Vd.at_nat hz
 rw [hv0] at hl ⊢
 refine Vd.Rch.more (c := 1 + 0) (Vd.one_then (x := ⟨8, (v : Nat), 0⟩) he hl.head ?_ ((Vd.rd_fuel s fr v).1) Vd.Rch.refl) (by omega)
 rw [Vd.d8, if_pos (by unfold Vd.plain; rw [Int.toNat_natCast]; show ((ss[now]?.getD [])[v]? == some 0) = true; rw [hss, hv1, hz0]; rfl)]
theorem Vd.print_go (hss : ss[now]?.getD [] = x.sizes) (hnn : ∀ z ∈ x.sizes, 0 ≤ z) (hsh : fr.vs.map List.length = x.sizes.map fun n => (max n 1).toNat) (hw : Pg.wcm p now x c = 0) (he : s.ended = false) (k5 : c.1.1 = 5) (hl : Vd.Lies L o (Kd.ex m c.2.1.2.1 ++ [⟨9, 0, 0⟩])) :
  Vd.Rch L fs ss ⟨s, ⟨fr, now, o, []⟩ :: r, false⟩ 69 (Xr.tell (Xr.valS s fr c.2.1.2.1) ⟨4, fr.num, fr.at_, 0, 0, Xr.valV s fr c.2.1.2.1⟩) (⟨fr, now, o + (Kd.ex m c.2.1.2.1 ++ [(⟨9, 0, 0⟩ : Kd.I)]).length, []⟩ :: r) := by
 obtain ⟨hkr, hva, hmy, hwi, hwe, hwa⟩ := Xr.wc_ok (show Pg.wc c.1.1 (Pg.at? x.sizes c.1.2.1) _ _ _ (Pg.chkX x.sizes m c.2.1.1) (Pg.chkX x.sizes m c.2.1.2.1) _ = 0 from hw)
 obtain ⟨e1, e2⟩ := Vd.val_ok (fr := fr) (x := c.2.1.2.1) he
 rw [e1, e2]
 refine Vd.Rch.more (c := 15 + (1 + 0)) (Vd.ex_then he (by rw [hss]; exact hsh) (by rw [hss]; exact hnn) c.2.1.2.1 o [] (by rw [hss]; exact hwe (by omega) (by omega)) hl.fst (by simp) (fun h0 => ?_) (fun h0 => ?_)) (by omega)
 · rw [if_pos h0]
   refine Vd.one_then (x := ⟨9, 0, 0⟩) he hl.snd.head ?_ (by rw [Vd.tell_evs he]) Vd.Rch.refl
   rw [Vd.d9 (n := (Pg.val fr.vs m c.2.1.2.1).1) (q := []) _ _ rfl, List.length_append]
   rfl
 · rw [if_neg h0]
   exact (Xr.cl_same _).tell _ _ (Or.inr (Or.inl rfl)) ⟨rfl, rfl⟩
end
end Go.Proofs.YtpfogjplnodacaaGreat
namespace Go.Proofs.YtpfogjplnodacaaGreat
open Go.RowKit
set_option linter.unusedVariables false
abbrev Vd.Hc (m : Nat) : Type := Xr.S → Xr.F → Int → Int → List (Pg.XT m) → Xr.T
def Vd.sh (f : Xr.F) : List Nat := f.vs.map List.length
theorem Vd.sh_wr (f : Xr.F) (v i z : Int) : Vd.sh (Xr.wrF f v i z) = Vd.sh f := Vd.upd_len _ _ _ _
theorem Vd.sh_step (s : Xr.S) (f : Xr.F) (a : Int) : Vd.sh (Xr.stepF s f a) = Vd.sh f := by
 unfold Xr.stepF
 split <;> rfl
section
variable {m n j : Nat} {hc : Vd.Hc m}
theorem Vd.sh_loop {body : Xr.S → Xr.F → Xr.T} (hb : ∀ s f, Vd.sh (body s f).2 = Vd.sh f) (ex : Pg.XT m) (a : Int) : ∀ (k : Nat) (s : Xr.S) (f : Xr.F), Vd.sh (Xr.loop body ex a k s f).2 = Vd.sh f
 | 0, s, f => rfl
 | k + 1, s, f => by
  show Vd.sh (if Xr.valV s f ex = 0 then (Xr.valS s f ex, f) else Xr.loop body ex a k (Xr.stepS (body (Xr.valS s f ex) f).1 (body (Xr.valS s f ex) f).2 a) (Xr.stepF (body (Xr.valS s f ex) f).1 (body (Xr.valS s f ex) f).2 a)).2 = _
  split
  · rfl
  · rw [Vd.sh_loop hb ex a k, Vd.sh_step, hb]
theorem Vd.sh_cmdT (h1 : ∀ s f v q l, Vd.sh (hc s f v q l).2 = Vd.sh f) {cs : List (Pg.CT m j) → Nat → Xr.S → Xr.F → Xr.T} (h2 : ∀ l a s f, Vd.sh (cs l a s f).2 = Vd.sh f) (c : Pg.CT m (j + 1)) (a : Nat) (s : Xr.S) (f : Xr.F) : Vd.sh (Xr.cmdT hc cs c a s f).2 = Vd.sh f := by
 unfold Xr.cmdT
 split
 · exact Vd.sh_wr _ _ _ _
 split
 · show Vd.sh (Xr.putF _ _ _ _ _) = _
   unfold Xr.putF
   split
   · exact Vd.sh_wr _ _ _ _
   · rfl
 split
 · exact h1 _ _ _ _ _
 split
 · exact Vd.sh_wr _ _ _ _
 split
 · rfl
 split
 · split
   · exact h2 _ _ _ _
   · exact h2 _ _ _ _
 · exact Vd.sh_loop (h2 _ _) _ _ _ _ _
theorem Vd.sh_walk {α : Type} {g : α → Nat → Xr.S → Xr.F → Xr.T} (hg : ∀ c a s f, Vd.sh (g c a s f).2 = Vd.sh f) (cn : α → Nat) : ∀ (l : List α) (a : Nat) (s : Xr.S) (f : Xr.F), Vd.sh (Xr.walk g cn l a s f).2 = Vd.sh f
 | [], a, s, f => rfl
 | c :: r, a, s, f => by
  unfold Xr.walk
  split
  · rfl
  · rw [Vd.sh_walk hg cn r, hg]
theorem Vd.sh_cmds (h1 : ∀ s f v q l, Vd.sh (hc s f v q l).2 = Vd.sh f) : ∀ (j : Nat) (l : List (Pg.CT m j)) (a : Nat) (s : Xr.S) (f : Xr.F), Vd.sh (Xr.cmds hc j l a s f).2 = Vd.sh f
 | 0, l, a, s, f => rfl
 | j + 1, l, a, s, f => Vd.sh_walk (fun c a s f => by show Vd.sh (Xr.cmdT hc (Xr.cmds hc j) c a (Xr.stepS s f a) (Xr.stepF s f a)).2 = _; rw [Vd.sh_cmdT h1 (Vd.sh_cmds h1 j), Vd.sh_step]) _ l a s f
theorem Vd.sh_call (p : List (Pg.FT m n)) : ∀ (d : Nat) (s : Xr.S) (f : Xr.F) (v q : Int) (l : List (Pg.XT m)), Vd.sh (Xr.call p d s f v q l).2 = Vd.sh f
 | 0, s, f, v, q, l => rfl
 | d + 1, s, f, v, q, l => by
  unfold Xr.call
  split
  · rfl
  · exact Vd.sh_wr _ _ _ _
end
theorem Vd.cl_fuel (F : Nat) : Xr.Cl (fun s => s.fuel ≤ F) := by
 have ht : ∀ (s : Xr.S) (e : Ev), (Xr.tell s e).fuel = s.fuel := fun s e => by unfold Xr.tell; split <;> rfl
 refine ⟨fun s e _ h => by show (Xr.tell s e).fuel ≤ F; rw [ht]; exact h, fun s f a how h => by show (Xr.tell s _).fuel ≤ F; rw [ht]; exact h, fun s f a h => ?_, fun s f h => by show (Xr.tell (Xr.inS s) _).fuel ≤ F; rw [ht]; exact h, fun s f q h => by show (Xr.tell _ _).fuel ≤ F; rw [ht]; exact h⟩
 show (Xr.stepS s f a).fuel ≤ F
 unfold Xr.stepS
 split
 · show (Xr.tell s _).fuel ≤ F
   rw [ht]; exact h
 · rw [ht]
   show s.fuel - 1 ≤ F
   omega
section
variable {L : List Kd.I} {fs : List Int} {ss : List (List Int)}
theorem Vd.step_then {s s2 : Xr.S} {fr : Xr.F} {now o a : Nat} {r gs : List Vd.F} (he : s.ended = false) (hx : L[o]? = some ⟨1, (a : Nat), 0⟩) (h0 : s.fuel = 0 → s2.ended = true ∧ s2.evs = (Xr.fin s fr (a : Nat) 1).evs) (h1 : s.fuel ≠ 0 → Vd.Rch L fs ss ⟨Xr.stepS s fr (a : Nat), ⟨Xr.stepF s fr (a : Nat), now, o + 1, []⟩ :: r, false⟩ 69 s2 gs) : Vd.Rch L fs ss ⟨s, ⟨fr, now, o, []⟩ :: r, false⟩ 0 s2 gs := by
 have h := Vd.Rc.one (fs := fs) (ss := ss) (r := r) (f := ⟨fr, now, o, []⟩) he hx
 rw [Vd.d1] at h
 by_cases hf : s.fuel = 0
 · rw [if_pos hf] at h
   exact Vd.Rch.over h rfl (h0 hf) (by omega)
 · rw [if_neg hf] at h
   have hfu : (Xr.stepS s fr (a : Nat)).fuel = s.fuel - 1 := by unfold Xr.stepS; rw [if_neg hf, Vd.tell_evs (by exact he)]
   exact Vd.Rch.ahead h (h1 hf) (by show 1 + 70 * (Xr.stepS s fr (a : Nat)).fuel + 69 ≤ 70 * s.fuel + 0; omega)
variable {m n : Nat} {p : List (Pg.FT m n)} {hc : Vd.Hc m} {d : Nat} {now : Nat} {x : Pg.FT m n} {r : List Vd.F}
def Vd.CmdsGo (L : List Kd.I) (fs : List Int) (ss : List (List Int)) (p : List (Pg.FT m n)) (hc : Vd.Hc m) (d : Nat) (j : Nat) : Prop :=
 ∀ (now : Nat) (x : Pg.FT m n) (r : List Vd.F), ss[now]?.getD [] = x.sizes → (∀ z ∈ x.sizes, 0 ≤ z) → r.length + d = 5 → ∀ (l : List (Pg.CT m j)) (o a : Nat) (s : Xr.S) (fr : Xr.F), Pg.wcs p now x j l = 0 → Vd.Lies L o (Kd.cmds j l o a) → Vd.sh fr = x.sizes.map (fun n => (max n 1).toNat) → s.ended = false →
  Vd.Rch L fs ss ⟨s, ⟨fr, now, o, []⟩ :: r, false⟩ 0 (Xr.cmds hc j l a s fr).1 (⟨(Xr.cmds hc j l a s fr).2, now, o + (Kd.cmds j l o a).length, []⟩ :: r)
def Vd.CallGo (L : List Kd.I) (fs : List Int) (ss : List (List Int)) (p : List (Pg.FT m n)) (hc : Vd.Hc m) (d : Nat) : Prop :=
 ∀ (now : Nat) (x : Pg.FT m n) (r : List Vd.F), ss[now]?.getD [] = x.sizes → (∀ z ∈ x.sizes, 0 ≤ z) → r.length + d = 5 → ∀ (j : Nat) (c : Pg.CT m (j + 1)) (o : Nat) (s : Xr.S) (fr : Xr.F), c.1.1 = 3 → Pg.wcm p now x c = 0 → Vd.Lies L o (Kd.exs c.2.1.2.2 ++ [⟨12, c.1.2.2, (c.2.1.2.2.length : Nat)⟩, ⟨6, c.1.2.1, 0⟩]) → Vd.sh fr = x.sizes.map (fun n => (max n 1).toNat) → s.ended = false →
  Vd.Rch L fs ss ⟨s, ⟨fr, now, o, []⟩ :: r, false⟩ 69 (hc s fr c.1.2.1 c.1.2.2 c.2.1.2.2).1 (⟨(hc s fr c.1.2.1 c.1.2.2 c.2.1.2.2).2, now, o + ((Kd.exs c.2.1.2.2).length + 2), []⟩ :: r)
theorem Vd.loop_go (hk : ∀ (U : Xr.S → Prop), Xr.Cl U → ∀ s f v q l, U s → U (hc s f v q l).1) (hks : ∀ s f v q l, Vd.sh (hc s f v q l).2 = Vd.sh f) {j : Nat} (hcs : Vd.CmdsGo L fs ss p hc d j) (hss : ss[now]?.getD [] = x.sizes) (hnn : ∀ z ∈ x.sizes, 0 ≤ z) (hr : r.length + d = 5) (c : Pg.CT m (j + 1)) (hx : Pg.chkX x.sizes m c.2.1.2.1 = 0) (hwt : Pg.wcs p now x j c.2.2.1 = 0) (o a : Nat) (hs : L[o]? = some ⟨1, (a : Nat), 0⟩) (e t : List Kd.I) (hee : e = Kd.ex m c.2.1.2.1) (ht : t = Kd.cmds j c.2.2.1 (o + 1 + e.length + 1) (a + 1)) (hl : Vd.Lies L (o + 1) (e ++ (⟨11, ((o + 1 + e.length + 1 + t.length + 1 : Nat) : Int), 0⟩ :: (t ++ [⟨10, (o : Nat), 0⟩])))) :
  ∀ (k : Nat) (s : Xr.S) (fr : Xr.F), Vd.sh fr = x.sizes.map (fun n => (max n 1).toNat) → s.ended = false → s.fuel + 1 ≤ k → Vd.Rch L fs ss ⟨s, ⟨fr, now, o + 1, []⟩ :: r, false⟩ 69 (Xr.loop (Xr.cmds hc j c.2.2.1 (a + 1)) c.2.1.2.1 a k s fr).1 (⟨(Xr.loop (Xr.cmds hc j c.2.2.1 (a + 1)) c.2.1.2.1 a k s fr).2, now, o + 1 + e.length + 1 + t.length + 1, []⟩ :: r)
 | 0, s, fr, _, _, hf => absurd hf (by omega)
 | k + 1, s, fr, hsh, he, hf => by
  have hbody : ∀ (U : Xr.S → Prop), Xr.Cl U → ∀ s f, U s → U (Xr.cmds hc j c.2.2.1 (a + 1) s f).1 := fun U hU s f hu => hU.cmds (hk U hU) j _ _ s f hu
  obtain ⟨e1, e2⟩ := Vd.val_ok (fr := fr) (x := c.2.1.2.1) he
  have hl2 := hl.snd
  have hu : Xr.loop (Xr.cmds hc j c.2.2.1 (a + 1)) c.2.1.2.1 a (k + 1) s fr = if Xr.valV s fr c.2.1.2.1 = 0 then (Xr.valS s fr c.2.1.2.1, fr) else Xr.loop (Xr.cmds hc j c.2.2.1 (a + 1)) c.2.1.2.1 a k (Xr.stepS (Xr.cmds hc j c.2.2.1 (a + 1) (Xr.valS s fr c.2.1.2.1) fr).1 (Xr.cmds hc j c.2.2.1 (a + 1) (Xr.valS s fr c.2.1.2.1) fr).2 a) (Xr.stepF (Xr.cmds hc j c.2.2.1 (a + 1) (Xr.valS s fr c.2.1.2.1) fr).1 (Xr.cmds hc j c.2.2.1 (a + 1) (Xr.valS s fr c.2.1.2.1) fr).2 a) := rfl
  rw [hu]
  refine Vd.Rch.more (c := 15 + (1 + (0 + (1 + 0)))) (Vd.ex_then he (by rw [hss]; exact hsh) (by rw [hss]; exact hnn) c.2.1.2.1 (o + 1) [] (by rw [hss]; exact hx) (by rw [← hee]; exact hl.fst) (by simp) (fun h0 => ?_) (fun h0 => ?_)) (by omega)
  · have es : Xr.valS s fr c.2.1.2.1 = s := by rw [e2, if_pos h0]
    rw [← hee]
    have hd := fun (pc : Nat) => Vd.d11 (fs := fs) (ss := ss) (s := s) (f := ⟨fr, now, pc, [(Pg.val fr.vs m c.2.1.2.1).1]⟩) (r := r) ((o + 1 + e.length + 1 + t.length + 1 : Nat) : Int) 0 (n := (Pg.val fr.vs m c.2.1.2.1).1) (q := []) rfl
    rw [e1, es]
    by_cases hv : (Pg.val fr.vs m c.2.1.2.1).1 = 0
    · rw [if_pos hv]
      refine Vd.one_then (x := ⟨11, ((o + 1 + e.length + 1 + t.length + 1 : Nat) : Int), 0⟩) he hl2.head (hd _) rfl ?_
      dsimp only
      rw [if_pos hv, Int.toNat_natCast]
      exact Vd.Rch.refl
    · rw [if_neg hv]
      refine Vd.one_then (x := ⟨11, ((o + 1 + e.length + 1 + t.length + 1 : Nat) : Int), 0⟩) he hl2.head (hd _) rfl ?_
      dsimp only
      rw [if_neg hv]
      have hl3 := hl2.tail
      have h1 := hcs now x r hss hnn hr c.2.2.1 (o + 1 + e.length + 1) (a + 1) s fr hwt (by rw [← ht]; exact hl3.fst) hsh he
      rw [← ht] at h1
      have hfu : (Xr.cmds hc j c.2.2.1 (a + 1) s fr).1.fuel ≤ s.fuel := hbody _ (Vd.cl_fuel s.fuel) _ _ (Nat.le_refl _)
      have hsb : Vd.sh (Xr.cmds hc j c.2.2.1 (a + 1) s fr).2 = Vd.sh fr := Vd.sh_cmds hks _ _ _ _ _
      generalize Xr.cmds hc j c.2.2.1 (a + 1) s fr = tb at *
      have hrest : ∀ (U : Xr.S → Prop), Xr.Cl U → U tb.1 → U (Xr.loop (Xr.cmds hc j c.2.2.1 (a + 1)) c.2.1.2.1 a k (Xr.stepS tb.1 tb.2 a) (Xr.stepF tb.1 tb.2 a)).1 := fun U hU hu => hU.loop (hbody U hU) _ _ _ _ _ (hU.step _ _ _ hu)
      refine h1.trans (fun he2 => ?_) (fun he2 => hrest _ (Xr.cl_same tb.1.evs) ⟨he2, rfl⟩)
      refine Vd.one_then (x := ⟨10, (o : Nat), 0⟩) (f := ⟨tb.2, now, o + 1 + e.length + 1 + t.length, []⟩) he2 hl3.snd.head (Vd.d10 _ _) rfl ?_
      rw [Int.toNat_natCast]
      refine Vd.step_then he2 hs (fun hf0 => ?_) (fun hf0 => ?_)
      · have h3 : ∀ s', s'.ended = true ∧ s'.evs = (Xr.fin tb.1 tb.2 a 1).evs → (Xr.loop (Xr.cmds hc j c.2.2.1 (a + 1)) c.2.1.2.1 a k s' (Xr.stepF tb.1 tb.2 a)).1.ended = true ∧ (Xr.loop (Xr.cmds hc j c.2.2.1 (a + 1)) c.2.1.2.1 a k s' (Xr.stepF tb.1 tb.2 a)).1.evs = (Xr.fin tb.1 tb.2 a 1).evs := fun s' hs' => (Xr.cl_same _).loop (hbody _ (Xr.cl_same _)) _ _ _ _ _ hs'
        exact h3 _ (by unfold Xr.stepS; rw [if_pos hf0]; exact ⟨rfl, rfl⟩)
      · have hst : (Xr.stepS tb.1 tb.2 a).ended = false ∧ (Xr.stepS tb.1 tb.2 a).fuel + 1 = tb.1.fuel := by
         unfold Xr.stepS
         rw [if_neg hf0, Vd.tell_evs (by exact he2)]
         exact ⟨he2, by show tb.1.fuel - 1 + 1 = _; omega⟩
        exact Vd.loop_go hk hks hcs hss hnn hr c hx hwt o a hs e t hee ht hl k _ _ (by rw [Vd.sh_step, hsb]; exact hsh) hst.1 (by show (Xr.stepS tb.1 tb.2 a).fuel + 1 ≤ k; omega)
  · have hcl : (Xr.valS s fr c.2.1.2.1).ended = true ∧ (Xr.valS s fr c.2.1.2.1).evs = (Xr.fin s fr fr.at_ (Pg.val fr.vs m c.2.1.2.1).2).evs := by rw [e2, if_neg h0]; exact ⟨rfl, rfl⟩
    split
    · exact hcl
    · exact (Xr.cl_same _).loop (hbody _ (Xr.cl_same _)) _ _ _ _ _ ((Xr.cl_same _).step _ _ _ (hbody _ (Xr.cl_same _) _ _ hcl))
theorem Vd.cmd_go (hk : ∀ (U : Xr.S → Prop), Xr.Cl U → ∀ s f v q l, U s → U (hc s f v q l).1) (hks : ∀ s f v q l, Vd.sh (hc s f v q l).2 = Vd.sh f) (hcl : Vd.CallGo L fs ss p hc d) {j : Nat} (hcs : Vd.CmdsGo L fs ss p hc d j) (hss : ss[now]?.getD [] = x.sizes) (hnn : ∀ z ∈ x.sizes, 0 ≤ z) (hr : r.length + d = 5) (c : Pg.CT m (j + 1)) (hw : Pg.wcm p now x c = 0) (hwt : Pg.wcs p now x j c.2.2.1 = 0) (hwe : Pg.wcs p now x j c.2.2.2 = 0) (o a : Nat) (hl : Vd.Lies L o (Kd.cmd (Kd.cmds j) c o a)) (s : Xr.S) (fr : Xr.F) (hsh : Vd.sh fr = x.sizes.map (fun n => (max n 1).toNat)) (he : s.ended = false) :
  Vd.Rch L fs ss ⟨s, ⟨fr, now, o, []⟩ :: r, false⟩ 0 (Xr.cmd hc (Xr.cmds hc j) c a s fr).1 (⟨(Xr.cmd hc (Xr.cmds hc j) c a s fr).2, now, o + (Kd.cmd (Kd.cmds j) c o a).length, []⟩ :: r) := by
 unfold Kd.cmd at hl
 have hlh := hl.head
 have hlt := hl.tail
 have hlen : o + (Kd.cmd (Kd.cmds j) c o a).length = o + 1 + (Kd.rest (Kd.cmds j) c o a).length := by unfold Kd.cmd; rw [List.length_cons]; omega
 rw [hlen]
 obtain ⟨hkr, hva, hmy, hwi, hwex, hwa⟩ := Xr.wc_ok (show Pg.wc c.1.1 (Pg.at? x.sizes c.1.2.1) _ _ _ (Pg.chkX x.sizes m c.2.1.1) (Pg.chkX x.sizes m c.2.1.2.1) _ = 0 from hw)
 unfold Xr.cmd
 refine Vd.step_then he hlh (fun h0 => ?_) (fun h0 => ?_)
 · exact (Xr.cl_same (Xr.fin s fr a 1).evs).cmdT (fun s f v q l hu => hk _ (Xr.cl_same _) s f v q l hu) (fun l a s f hu => (Xr.cl_same _).cmds (hk _ (Xr.cl_same _)) j l a s f hu) c a (Xr.stepS s fr a) (Xr.stepF s fr a) (by unfold Xr.stepS; rw [if_pos h0]; exact ⟨rfl, rfl⟩)
 · have hst : (Xr.stepS s fr a).ended = false := by unfold Xr.stepS; rw [if_neg h0, Vd.tell_evs (by exact he)]; exact he
   have hsf : Vd.sh (Xr.stepF s fr a) = x.sizes.map (fun n => (max n 1).toNat) := by rw [Vd.sh_step]; exact hsh
   generalize Xr.stepS s fr a = s1 at *
   generalize Xr.stepF s fr a = f1 at *
   unfold Kd.rest at hlt ⊢
   unfold Xr.cmdT
   by_cases k1 : c.1.1 = 1
   · rw [if_pos k1] at hlt ⊢
     rw [if_pos k1]
     exact Vd.set_go hss hnn hsf hw hst k1 hlt
   rw [if_neg k1] at hlt ⊢
   rw [if_neg k1]
   by_cases k2 : c.1.1 = 2
   · rw [if_pos k2] at hlt ⊢
     rw [if_pos k2]
     exact Vd.put_go hss hnn hsf hw hst k2 hlt
   rw [if_neg k2] at hlt ⊢
   rw [if_neg k2]
   by_cases k3 : c.1.1 = 3
   · rw [if_pos k3] at hlt ⊢
     rw [if_pos k3]
     have h1 := hcl now x r hss hnn hr j c (o + 1) s1 f1 k3 hw hlt hsf hst
     rw [List.length_append]
     exact h1
   rw [if_neg k3] at hlt ⊢
   rw [if_neg k3]
   by_cases k4 : c.1.1 = 4
   · rw [if_pos k4] at hlt ⊢
     rw [if_pos k4]
     exact Vd.read_go hss hw hst k4 hlt
   rw [if_neg k4] at hlt ⊢
   rw [if_neg k4]
   by_cases k5 : c.1.1 = 5
   · rw [if_pos k5] at hlt ⊢
     rw [if_pos k5]
     exact Vd.print_go hss hnn hsf hw hst k5 hlt
   rw [if_neg k5] at hlt ⊢
   rw [if_neg k5]
   dsimp only at hlt ⊢
   have hx := hwex k3 k4
   obtain ⟨e, hee⟩ : ∃ e, e = Kd.ex m c.2.1.2.1 := ⟨_, rfl⟩
   rw [← hee] at hlt ⊢
   obtain ⟨t, ht⟩ : ∃ t, t = Kd.cmds j c.2.2.1 (o + 1 + e.length + 1) (a + 1) := ⟨_, rfl⟩
   rw [← ht] at hlt ⊢
   by_cases k6 : c.1.1 = 6
   · rw [if_pos k6] at hlt ⊢
     rw [if_pos k6]
     obtain ⟨w, hw2⟩ : ∃ w, w = Kd.cmds j c.2.2.2 (o + 1 + e.length + 1 + t.length + 1) (a + 1 + Pg.cnts c.2.2.1) := ⟨_, rfl⟩
     rw [← hw2] at hlt ⊢
     obtain ⟨e1, e2⟩ := Vd.val_ok (fr := f1) (x := c.2.1.2.1) hst
     have hl2 := hlt.snd
     have hl3 := hl2.tail
     have hfin : o + 1 + (e ++ (⟨11, ((o + 1 + e.length + 1 + t.length + 1 : Nat) : Int), 0⟩ :: (t ++ (⟨10, ((o + 1 + e.length + 1 + t.length + 1 + w.length : Nat) : Int), 0⟩ :: w) : List Kd.I))).length = o + 1 + e.length + 1 + t.length + 1 + w.length := by
      rw [List.length_append, List.length_cons, List.length_append, List.length_cons]
      omega
     rw [hfin]
     have hclo : ∀ (U : Xr.S → Prop), Xr.Cl U → ∀ l a s f, U s → U (Xr.cmds hc j l a s f).1 := fun U hU l a s f hu => hU.cmds (hk U hU) j l a s f hu
     refine Vd.Rch.more (c := 15 + (1 + (0 + (1 + 0)))) (Vd.ex_then hst (by rw [hss]; exact hsf) (by rw [hss]; exact hnn) c.2.1.2.1 (o + 1) [] (by rw [hss]; exact hx) (by rw [← hee]; exact hlt.fst) (by simp) (fun h1 => ?_) (fun h1 => ?_)) (by omega)
     · have es : Xr.valS s1 f1 c.2.1.2.1 = s1 := by rw [e2, if_pos h1]
       rw [← hee, e1, es]
       have hd := fun (pc : Nat) => Vd.d11 (fs := fs) (ss := ss) (s := s1) (f := ⟨f1, now, pc, [(Pg.val f1.vs m c.2.1.2.1).1]⟩) (r := r) ((o + 1 + e.length + 1 + t.length + 1 : Nat) : Int) 0 (n := (Pg.val f1.vs m c.2.1.2.1).1) (q := []) rfl
       refine Vd.one_then (x := ⟨11, ((o + 1 + e.length + 1 + t.length + 1 : Nat) : Int), 0⟩) hst hl2.head (hd _) rfl ?_
       dsimp only
       by_cases hv : (Pg.val f1.vs m c.2.1.2.1).1 = 0
       · rw [if_pos hv, if_neg (fun h => h hv), Int.toNat_natCast]
         have hl4 := hl3.snd.tail
         have h4 := hcs now x r hss hnn hr c.2.2.2 (o + 1 + e.length + 1 + t.length + 1) (a + 1 + Pg.cnts c.2.2.1) s1 f1 hwe (by rw [← hw2]; exact hl4) hsf hst
         rw [← hw2] at h4
         exact h4.more (by omega)
       · rw [if_neg hv, if_pos hv]
         have h4 := hcs now x r hss hnn hr c.2.2.1 (o + 1 + e.length + 1) (a + 1) s1 f1 hwt (by rw [← ht]; exact hl3.fst) hsf hst
         rw [← ht] at h4
         generalize Xr.cmds hc j c.2.2.1 (a + 1) s1 f1 = tb at *
         refine h4.trans (fun he2 => ?_) (fun he2 => ⟨he2, rfl⟩)
         refine Vd.one_then (x := ⟨10, ((o + 1 + e.length + 1 + t.length + 1 + w.length : Nat) : Int), 0⟩) (f := ⟨tb.2, now, o + 1 + e.length + 1 + t.length, []⟩) he2 hl3.snd.head (Vd.d10 _ _) rfl ?_
         rw [Int.toNat_natCast]
         exact Vd.Rch.refl
     · have hcl2 : (Xr.valS s1 f1 c.2.1.2.1).ended = true ∧ (Xr.valS s1 f1 c.2.1.2.1).evs = (Xr.fin s1 f1 f1.at_ (Pg.val f1.vs m c.2.1.2.1).2).evs := by rw [e2, if_neg h1]; exact ⟨rfl, rfl⟩
       split
       · exact hclo _ (Xr.cl_same _) _ _ _ _ hcl2
       · exact hclo _ (Xr.cl_same _) _ _ _ _ hcl2
   · rw [if_neg k6] at hlt ⊢
     rw [if_neg k6]
     have hfin : o + 1 + (e ++ (⟨11, ((o + 1 + e.length + 1 + t.length + 1 : Nat) : Int), 0⟩ :: (t ++ [⟨10, (o : Nat), 0⟩]) : List Kd.I)).length = o + 1 + e.length + 1 + t.length + 1 := by
      rw [List.length_append, List.length_cons, List.length_append]
      simp
      omega
     rw [hfin]
     exact Vd.loop_go hk hks hcs hss hnn hr c hx hwt o a hlh e t hee ht hlt (s1.fuel + 2) s1 f1 hsf hst (by omega)
theorem Vd.cmds_go (hk : ∀ (U : Xr.S → Prop), Xr.Cl U → ∀ s f v q l, U s → U (hc s f v q l).1) (hks : ∀ s f v q l, Vd.sh (hc s f v q l).2 = Vd.sh f) (hcl : Vd.CallGo L fs ss p hc d) : ∀ j : Nat, Vd.CmdsGo L fs ss p hc d j
 | 0 => fun now x r _ _ _ l o a s fr _ _ _ _ => Vd.Rch.refl
 | j + 1 => by
  have ih := Vd.cmds_go hk hks hcl j
  intro now x r hss hnn hr l
  induction l with
  | nil => intro o a s fr _ _ _ _; exact Vd.Rch.refl
  | cons c l ihl =>
   intro o a s fr hw hl hsh he
   have hw1 : Pg.first ((c :: l).map fun y => Pg.orW (Pg.wcm p now x y) (Pg.orW (Pg.wcs p now x j y.2.2.1) (Pg.wcs p now x j y.2.2.2))) = 0 := hw
   have hwc := Pg.orW_zero (Pg.first_zero hw1 _ (List.mem_map_of_mem (List.mem_cons_self)))
   have hwc2 := Pg.orW_zero hwc.2
   have hwl : Pg.wcs p now x (j + 1) l = 0 := by
    show Pg.first (l.map _) = 0
    rw [List.map_cons] at hw1
    unfold Pg.first at hw1
    split at hw1
    · exact hw1
    · rename_i hne
      exact absurd (by unfold Pg.orW; rw [if_pos hwc.1]; exact hwc.2) hne
   have hcode : Kd.cmds (j + 1) (c :: l) o a = Kd.cmd (Kd.cmds j) c o a ++ Kd.cmds (j + 1) l (o + (Kd.cmd (Kd.cmds j) c o a).length) (a + Pg.cnt (j + 1) c) := rfl
   rw [hcode] at hl ⊢
   have h1 := Vd.cmd_go hk hks hcl ih hss hnn hr c hwc.1 hwc2.1 hwc2.2 o a hl.fst s fr hsh he
   have hrun : Xr.cmds hc (j + 1) (c :: l) a s fr = Xr.cmds hc (j + 1) l (a + Pg.cnt (j + 1) c) (Xr.cmd hc (Xr.cmds hc j) c a s fr).1 (Xr.cmd hc (Xr.cmds hc j) c a s fr).2 := by
    show Xr.walk (Xr.cmd hc (Xr.cmds hc j)) (Pg.cnt (j + 1)) (c :: l) a s fr = _
    unfold Xr.walk
    rw [if_neg (by rw [he]; simp)]
    rfl
   rw [hrun, List.length_append, ← Nat.add_assoc]
   have hs2 : Vd.sh (Xr.cmd hc (Xr.cmds hc j) c a s fr).2 = Vd.sh fr := by
    show Vd.sh (Xr.cmdT hc (Xr.cmds hc j) c a (Xr.stepS s fr a) (Xr.stepF s fr a)).2 = _
    rw [Vd.sh_cmdT hks (Vd.sh_cmds hks j), Vd.sh_step]
   generalize Xr.cmd hc (Xr.cmds hc j) c a s fr = tb at *
   refine h1.trans (c2 := 0) (fun he2 => ihl _ _ _ _ hwl hl.snd (by rw [hs2]; exact hsh) he2) (fun he2 => ?_)
   have h3 : Xr.cmds hc (j + 1) l (a + Pg.cnt (j + 1) c) tb.1 tb.2 = (tb.1, tb.2) := by
    show Xr.walk (Xr.cmd hc (Xr.cmds hc j)) (Pg.cnt (j + 1)) l (a + Pg.cnt (j + 1) c) tb.1 tb.2 = _
    cases l with
    | nil => rfl
    | cons c' l' => unfold Xr.walk; rw [if_pos he2]
   rw [h3]
   exact ⟨he2, rfl⟩
end
end Go.Proofs.YtpfogjplnodacaaGreat
namespace Go.Proofs.YtpfogjplnodacaaGreat
open Go.RowKit
set_option linter.unusedVariables false
theorem Vd.arg_evs {m : Nat} {fr : Xr.F} {s : Xr.S} (he : s.ended = false) : ∀ l : List (Pg.XT m), (∀ zs, Pg.evs (Pg.val fr.vs m) l = .ok zs → Xr.argS fr l s = s ∧ Xr.argV fr l s = zs) ∧ (∀ h, Pg.evs (Pg.val fr.vs m) l = .error h → (Xr.argS fr l s).ended = true ∧ (Xr.argS fr l s).evs = (Xr.fin s fr fr.at_ h).evs)
 | [] => ⟨fun zs h => (by cases h; exact ⟨rfl, rfl⟩), fun h e => (by cases e)⟩
 | y :: t => by
  obtain ⟨i1, i2⟩ := Vd.arg_evs (fr := fr) he t
  obtain ⟨e1, e2⟩ := Vd.val_ok (fr := fr) (x := y) he
  have u1 : Xr.argS fr (y :: t) s = Xr.argS fr t (Xr.valS s fr y) := rfl
  have u2 : Xr.argV fr (y :: t) s = Xr.valV s fr y :: Xr.argV fr t (Xr.valS s fr y) := rfl
  rw [u1, u2]
  unfold Pg.evs
  by_cases h0 : (Pg.val fr.vs m y).2 = 0
  · rw [if_pos h0, e2, if_pos h0, e1]
    cases hv : Pg.evs (Pg.val fr.vs m) t with
    | error b => exact ⟨fun zs h => (by cases h), fun h e => (by cases e; exact i2 _ hv)⟩
    | ok b =>
     obtain ⟨j1, j2⟩ := i1 b hv
     exact ⟨fun zs h => (by cases h; exact ⟨j1, by rw [j2]; rfl⟩), fun h e => (by cases e)⟩
  · rw [if_neg h0, e2, if_neg h0]
    exact ⟨fun zs h => (by cases h), fun h e => (by cases e; exact (Xr.cl_same _).arg _ _ _ ⟨rfl, rfl⟩)⟩
section
variable {m n : Nat}
theorem Vd.fns_lie : ∀ (l : List (Pg.FT m n)) (o a q : Nat) (x : Pg.FT m n), l[q]? = some x → ∃ oq, (Kd.firsts l o a)[q]? = some ((o + oq : Nat) : Int) ∧ Vd.Lies (Kd.fns l o a) oq (Kd.fn (decide (q + 1 = l.length)) x (o + oq) (a + Pg.sumTo (fun x => Pg.cnts x.cmds) l q))
 | [], o, a, q, x, h => by simp at h
 | y :: t, o, a, 0, x, h => by
  cases h
  refine ⟨0, rfl, ?_⟩
  have e : decide (0 + 1 = (y :: t).length) = t.isEmpty := by
   cases t with
   | nil => rfl
   | cons b c => exact decide_eq_false (by simp)
  rw [e]
  show Vd.Lies (Kd.fn t.isEmpty y o a ++ _) 0 (Kd.fn t.isEmpty y (o + 0) (a + 0))
  intro i z hz
  have hz' : (Kd.fn t.isEmpty y o a)[i]? = some z := hz
  rw [Nat.zero_add, List.getElem?_append_left (List.getElem?_eq_some_iff.1 hz').1]
  exact hz'
 | y :: t, o, a, q + 1, x, h => by
  have h' : t[q]? = some x := by simpa using h
  obtain ⟨oq, h1, h2⟩ := Vd.fns_lie t (o + (Kd.fn t.isEmpty y o a).length) (a + Pg.cnts y.cmds) q x h'
  refine ⟨(Kd.fn t.isEmpty y o a).length + oq, ?_, ?_⟩
  · show (Kd.firsts t (o + (Kd.fn t.isEmpty y o a).length) (a + Pg.cnts y.cmds))[q]? = _
    rw [h1, Nat.add_assoc]
  · have es : Pg.sumTo (fun x => Pg.cnts x.cmds) (y :: t) (q + 1) = Pg.cnts y.cmds + Pg.sumTo (fun x => Pg.cnts x.cmds) t q := by
     unfold Pg.sumTo
     rw [List.take_succ_cons, List.map_cons, List.sum_cons]
    have ed : decide (q + 1 + 1 = (y :: t).length) = decide (q + 1 = t.length) := decide_eq_decide.2 (by rw [List.length_cons]; omega)
    rw [es, ed, ← Nat.add_assoc, ← Nat.add_assoc]
    intro i z hz
    have h3 := h2 i z hz
    show (Kd.fn t.isEmpty y o a ++ Kd.fns t (o + (Kd.fn t.isEmpty y o a).length) (a + Pg.cnts y.cmds))[_]? = _
    rw [List.getElem?_append_right (by omega), show (Kd.fn t.isEmpty y o a).length + oq + i - (Kd.fn t.isEmpty y o a).length = oq + i by omega]
    exact h3
theorem Vd.ins_lie (p : List (Pg.FT m n)) (q : Nat) (x : Pg.FT m n) (h : p[q]? = some x) : ∃ oq : Nat, (Kd.fst p)[q]? = some (oq : Int) ∧ Vd.Lies (Kd.ins p) oq (Kd.fn (decide (q + 1 = p.length)) x oq (Xr.firstOf p q)) := by
 obtain ⟨oq, h1, h2⟩ := Vd.fns_lie p 0 0 q x h
 rw [Nat.zero_add] at h1 h2
 rw [Nat.zero_add] at h2
 exact ⟨oq, h1, h2⟩
theorem Vd.szs_at {p : List (Pg.FT m n)} {q : Nat} {x : Pg.FT m n} (h : p[q]? = some x) : (Kd.szs p)[q]?.getD [] = x.sizes := by
 unfold Kd.szs
 rw [List.getElem?_map, h]
 rfl
structure Vd.Pk (p : List (Pg.FT m n)) : Prop where
 pos : 0 < p.length
 ok : ∀ (i : Nat) (x : Pg.FT m n), p[i]? = some x → Pg.wfn p i x = 0
theorem Vd.pk_of {p : List (Pg.FT m n)} (hc : Pg.chkP p = 0) : Vd.Pk p := by
 unfold Pg.chkP at hc
 split at hc
 · cases hc
 rename_i h1
 split at hc
 · cases hc
 split at hc
 · cases hc
 exact ⟨by omega, fun i x hx => Pg.first_zero hc _ (by
  unfold Pg.wfns
  exact List.mem_iff_getElem?.2 ⟨i, by rw [List.getElem?_mapIdx, hx]; rfl⟩)⟩
theorem Vd.Pk.parts {p : List (Pg.FT m n)} (h : Vd.Pk p) {q : Nat} {x : Pg.FT m n} (hx : p[q]? = some x) : Pg.whead (decide (q + 1 = p.length)) x.params x.sizes = 0 ∧ Pg.wcs p q x n x.cmds = 0 ∧ Pg.wres (decide (q + 1 = p.length)) m n x = 0 := by
 obtain ⟨h1, h2⟩ := Pg.orW_zero (show Pg.orW _ (Pg.orW _ _) = 0 from h.ok q x hx)
 exact ⟨h1, Pg.orW_zero h2⟩
theorem Vd.head_ok {last : Bool} {pa : Int} {sz : List Int} (h : Pg.whead last pa sz = 0) : (0 ≤ pa ∧ pa ≤ 3) ∧ pa ≤ (sz.length : Int) ∧ (∀ z ∈ sz, 0 ≤ z) ∧ (sz.take pa.toNat).all (· == 0) = true := by
 unfold Pg.whead at h
 split at h
 · cases h
 split at h
 · cases h
 split at h
 · cases h
 split at h
 · cases h
 rename_i h1 h2 h3 h4
 refine ⟨by omega, by omega, fun z hz => ?_, ?_⟩
 · rw [Bool.not_eq_true] at h3
   have := List.any_eq_false.1 h3 z hz
   unfold Pg.noSize at this
   simp at this
   omega
 · rw [List.all_eq_true]
   intro z hz
   rw [Bool.not_eq_true] at h4
   have := List.any_eq_false.1 h4 z hz
   unfold Pg.notNought at this
   simp at this
   simp [this]
theorem Vd.args_then {L : List Kd.I} {fs : List Int} {ss : List (List Int)} {s : Xr.S} {fr : Xr.F} {now : Nat} {r : List Vd.F} (he : s.ended = false) (hsh : fr.vs.map List.length = (ss[now]?.getD []).map fun n => (max n 1).toNat) (hnn : ∀ z ∈ ss[now]?.getD [], 0 ≤ z) {l : List (Pg.XT m)} {o : Nat} (hx : Pg.first (l.map (Pg.chkX (ss[now]?.getD []) m)) = 0) (h3 : l.length ≤ 3) (hl : Vd.Lies L o (Kd.exs l)) {c : Nat} {s2 : Xr.S} {gs : List Vd.F}
  (h1 : ∀ zs, Pg.evs (Pg.val fr.vs m) l = .ok zs → Vd.Rch L fs ss ⟨s, ⟨fr, now, o + (Kd.exs l).length, zs.reverse⟩ :: r, false⟩ c s2 gs) (h2 : ∀ h, Pg.evs (Pg.val fr.vs m) l = .error h → s2.ended = true ∧ s2.evs = (Xr.fin s fr fr.at_ h).evs) : Vd.Rch L fs ss ⟨s, ⟨fr, now, o, []⟩ :: r, false⟩ (45 + c) s2 gs := by
 have hw : ∀ y ∈ l, Pg.wx (ss[now]?.getD []) m y = 0 := fun y hy => (Kd.chkX_of (Pg.first_zero hx _ (List.mem_map_of_mem hy))).2
 have hlen := (Kd.exs_ok (e := 0) (f := 0) hx).2
 have h := Vd.exs_go (fs := fs) (L := L) (r := r) he (fun y o q h1 h2 h3 => Vd.ex_go he hsh hnn m y o q h1 h2 h3) l o [] hw hl (by simp; omega)
 cases hv : Pg.evs (Pg.val fr.vs m) l with
 | ok zs =>
  rw [hv] at h
  have h' : Vd.Rc L fs ss ⟨s, ⟨fr, now, o, []⟩ :: r, false⟩ (Kd.exs l).length ⟨s, ⟨fr, now, o + (Kd.exs l).length, zs.reverse⟩ :: r, false⟩ := by
   have e : Vd.resL s fr now (o + (Kd.exs l).length) r [] (.ok zs) = ⟨s, ⟨fr, now, o + (Kd.exs l).length, zs.reverse⟩ :: r, false⟩ := by unfold Vd.resL; dsimp only; rw [List.append_nil]
   rw [← e]
   exact h
  exact Vd.Rch.ahead h' (h1 zs hv) (by show (Kd.exs l).length + 70 * s.fuel + c ≤ 70 * s.fuel + (45 + c); omega)
 | error b =>
  rw [hv] at h
  exact Vd.Rch.over h rfl (h2 b hv) (by omega)
theorem Vd.sh_par : ∀ (zs : List Int) (i : Nat) (g : Xr.F), Vd.sh (Xr.parF i zs g) = Vd.sh g
 | [], i, g => rfl
 | z :: r, i, g => (Vd.sh_par r (i + 1) _).trans (Vd.sh_wr _ _ _ _)
theorem Vd.callee {p : List (Pg.FT m n)} {now : Nat} {f : Int} {l : List (Pg.XT m)} (hp : Vd.Pk p) (h : Pg.may now p.length f = true ∧ decide ((l.length : Int) = Pg.parOf p f) = true) : ∃ (q : Nat) (x : Pg.FT m n), f = q ∧ p[q]? = some x ∧ decide (q + 1 = p.length) = false ∧ (l.length : Int) = x.params := by
 obtain ⟨f0, f1, f2⟩ := of_decide_eq_true (show decide (0 ≤ f ∧ f ≤ (now : Int) ∧ f < (p.length : Int) - 1) = true from h.1)
 obtain ⟨q, rfl⟩ : ∃ q : Nat, f = q := ⟨f.toNat, by omega⟩
 have hlt : q < p.length := by omega
 refine ⟨q, p[q], rfl, List.getElem?_eq_getElem hlt, decide_eq_false (by omega), ?_⟩
 have := of_decide_eq_true h.2
 rw [this]
 unfold Pg.parOf
 rw [Int.toNat_natCast, List.getElem?_eq_getElem hlt]
 rfl
theorem Vd.call_does {p : List (Pg.FT m n)} {fs : List Int} {s : Xr.S} {fr : Xr.F} {now pc q : Nat} {r : List Vd.F} {x : Pg.FT m n} {zs : List Int} {l : List (Pg.XT m)} (hx : p[q]? = some x) (hz : zs.length = l.length) (hl : (l.length : Int) = x.params) (h1 : x.params ≤ (x.sizes.length : Int)) (h2 : (x.sizes.take x.params.toNat).all (· == 0) = true) : Vd.does fs (Kd.szs p) ⟨12, (q : Nat), (l.length : Nat)⟩ s ⟨fr, now, pc, zs.reverse⟩ r = Vd.call fs x.sizes q zs s ⟨fr, now, pc, []⟩ r := by
 rw [Vd.d12, Int.toNat_natCast, Int.toNat_natCast, Vd.szs_at hx]
 have e1 : zs.reverse.take l.length = zs.reverse := by rw [← hz, ← List.length_reverse]; exact List.take_length
 have e2 : zs.reverse.drop l.length = [] := List.drop_eq_nil_of_le (by rw [List.length_reverse]; omega)
 have hn : x.params.toNat = l.length := by omega
 rw [if_pos ⟨by show l.length ≤ zs.reverse.length; rw [List.length_reverse]; omega, by omega, by rw [← hn]; exact h2⟩]
 dsimp only
 rw [e1, e2, List.reverse_reverse]
theorem Vd.call_go {p : List (Pg.FT m n)} (hp : Vd.Pk p) : ∀ d : Nat, Vd.CallGo (Kd.ins p) (Kd.fst p) (Kd.szs p) p (Xr.call p d) d := by
 intro d
 induction d with
 | zero =>
  intro now x r hss hnn hr j c o s fr k3 hw hl hsh he
  obtain ⟨hkr, hva, hmy, hwi, hwex, hwa⟩ := Xr.wc_ok (show Pg.wc c.1.1 (Pg.at? x.sizes c.1.2.1) _ _ _ (Pg.chkX x.sizes m c.2.1.1) (Pg.chkX x.sizes m c.2.1.2.1) _ = 0 from hw)
  obtain ⟨q, xq, hq0, hxq, hlast, hpl⟩ := Vd.callee hp (hmy k3)
  obtain ⟨w1, w2, w3⟩ := hp.parts hxq
  obtain ⟨a1, a2, a3, a4⟩ := Vd.head_ok w1
  rw [hq0] at hl ⊢
  refine Vd.Rch.more (c := 45 + 0) (Vd.args_then he (by rw [hss]; exact hsh) (by rw [hss]; exact hnn) (by rw [hss]; exact hwa) (by omega) hl.fst (fun zs hzs => ?_) (fun h hh => ?_)) (by omega)
  · have hzl := Vd.evs_len _ _ _ hzs
    have hd := Vd.call_does (fs := Kd.fst p) (s := s) (r := r) (fr := fr) (now := now) (pc := o + (Kd.exs c.2.1.2.2).length + 1) hxq hzl hpl a2 a4
    have e5 : Vd.call (Kd.fst p) xq.sizes q zs s ⟨fr, now, o + (Kd.exs c.2.1.2.2).length + 1, []⟩ r = Vd.over (Xr.fin s fr fr.at_ 4) := by unfold Vd.call; rw [if_pos (by omega)]
    refine Vd.one_over (x := ⟨12, (q : Nat), (c.2.1.2.2.length : Nat)⟩) he hl.snd.head (hd.trans e5) rfl ?_
    show (Xr.fin (Xr.argS fr c.2.1.2.2 s) fr fr.at_ 4).ended = true ∧ (Xr.fin (Xr.argS fr c.2.1.2.2 s) fr fr.at_ 4).evs = _
    rw [((Vd.arg_evs he _).1 zs hzs).1]
    exact ⟨rfl, rfl⟩
  · exact (Xr.cl_same _).fin _ _ _ _ ((Vd.arg_evs he _).2 h hh)
 | succ d ih =>
  intro now x r hss hnn hr j c o s fr k3 hw hl hsh he
  obtain ⟨hkr, hva, hmy, hwi, hwex, hwa⟩ := Xr.wc_ok (show Pg.wc c.1.1 (Pg.at? x.sizes c.1.2.1) _ _ _ (Pg.chkX x.sizes m c.2.1.1) (Pg.chkX x.sizes m c.2.1.2.1) _ = 0 from hw)
  obtain ⟨z0, hz, hz2⟩ := Vd.wc_kind (show Pg.wc c.1.1 (Pg.at? x.sizes c.1.2.1) _ _ _ (Pg.chkX x.sizes m c.2.1.1) (Pg.chkX x.sizes m c.2.1.2.1) _ = 0 from hw) (by omega)
  have hz0 : z0 = 0 := Classical.byContradiction (fun hn => by have := hz2.1 hn; omega)
  obtain ⟨v, hv0, hv1⟩ := Vd.at_nat hz
  obtain ⟨q, xq, hq0, hxq, hlast, hpl⟩ := Vd.callee hp (hmy k3)
  obtain ⟨w1, w2, w3⟩ := hp.parts hxq
  obtain ⟨a1, a2, a3, a4⟩ := Vd.head_ok w1
  obtain ⟨oq, ho1, ho2⟩ := Vd.ins_lie p q xq hxq
  rw [hlast] at ho2 w3
  have ho2' : Vd.Lies (Kd.ins p) oq (Kd.cmds n xq.cmds oq (Xr.firstOf p q) ++ (Kd.ex m xq.res ++ [⟨13, 0, 0⟩])) := ho2
  rw [hq0, hv0] at hl ⊢
  have hcall : Xr.call p (d + 1) s fr (v : Nat) (q : Nat) c.2.1.2.2 = Xr.callB p (Xr.call p d) xq q (Xr.argV fr c.2.1.2.2 s) (v : Nat) (Xr.argS fr c.2.1.2.2 s) fr := by
   show (match p[(q : Int).toNat]? with | .none => (s, fr) | .some x => Xr.callB p (Xr.call p d) x (q : Int).toNat (Xr.argV fr c.2.1.2.2 s) (v : Nat) (Xr.argS fr c.2.1.2.2 s) fr) = _
   rw [Int.toNat_natCast, hxq]
  rw [hcall]
  refine Vd.Rch.more (c := 45 + (1 + (0 + (15 + (1 + (1 + 0)))))) (Vd.args_then he (by rw [hss]; exact hsh) (by rw [hss]; exact hnn) (by rw [hss]; exact hwa) (by omega) hl.fst (fun zs hzs => ?_) (fun h hh => ?_)) (by omega)
  · have hzl := Vd.evs_len _ _ _ hzs
    obtain ⟨e1, e2⟩ := (Vd.arg_evs he _).1 zs hzs
    rw [e1, e2]
    have hd := Vd.call_does (fs := Kd.fst p) (s := s) (r := r) (fr := fr) (now := now) (pc := o + (Kd.exs c.2.1.2.2).length + 1) hxq hzl hpl a2 a4
    unfold Vd.call at hd
    rw [if_neg (by omega), ho1] at hd
    have hls := hl.snd.tail.head
    unfold Xr.callB
    dsimp only at hd ⊢
    rw [show (((some (oq : Int)).getD 0).toNat) = oq from rfl] at hd
    generalize hg : Xr.newF (s.made + 1) (fr.deep + 1) xq.sizes = g at *
    have hgs : Vd.sh g = xq.sizes.map (fun n => (max n 1).toNat) := by rw [← hg]; exact Vd.new_sh _ _ _
    have hpe := Vd.par_evs zs g fr.at_ 0 (Xr.tell { s with made := s.made + 1 } ⟨5, fr.num, fr.at_, (q : Nat), 0, g.num⟩) (by rw [Vd.tell_evs (by exact he)]; exact he)
    have hfu : (Xr.parS g fr.at_ 0 zs (Xr.tell { s with made := s.made + 1 } ⟨5, fr.num, fr.at_, (q : Nat), 0, g.num⟩)).fuel = s.fuel := by rw [hpe.2.2.2.2, Vd.tell_evs (by exact he)]
    have hps : Vd.sh (Xr.parF 0 zs g) = Vd.sh g := Vd.sh_par zs 0 g
    refine Vd.one_then (x := ⟨12, (q : Nat), (c.2.1.2.2.length : Nat)⟩) he hl.snd.head hd hfu ?_
    generalize Xr.parS g fr.at_ 0 zs (Xr.tell { s with made := s.made + 1 } ⟨5, fr.num, fr.at_, (q : Nat), 0, g.num⟩) = s4 at *
    generalize Xr.parF 0 zs g = g4 at *
    have hfn : Xr.fn p (Xr.call p d) q s4 g4 = Xr.cmds (Xr.call p d) n xq.cmds (Xr.firstOf p q) s4 g4 := by unfold Xr.fn; rw [hxq]
    rw [hfn]
    have hbody := Vd.cmds_go (fun U hU => hU.calls p d) (Vd.sh_call p d) ih n q xq (⟨fr, now, o + (Kd.exs c.2.1.2.2).length + 1, []⟩ :: r) (Vd.szs_at hxq) a3 (by rw [List.length_cons]; omega) xq.cmds oq (Xr.firstOf p q) s4 g4 w2 ho2'.fst (by rw [hps]; exact hgs) hpe.2.1
    have hsb : Vd.sh (Xr.cmds (Xr.call p d) n xq.cmds (Xr.firstOf p q) s4 g4).2 = xq.sizes.map (fun n => (max n 1).toNat) := by rw [Vd.sh_cmds (Vd.sh_call p d), hps]; exact hgs
    generalize Xr.cmds (Xr.call p d) n xq.cmds (Xr.firstOf p q) s4 g4 = tb at *
    have hrest : ∀ (U : Xr.S → Prop), Xr.Cl U → U (Xr.valS tb.1 tb.2 xq.res) → U (Xr.wrS (Xr.tell (Xr.valS tb.1 tb.2 xq.res) ⟨6, tb.2.num, fr.at_, 0, 0, Xr.valV tb.1 tb.2 xq.res⟩) fr fr.at_ (v : Nat) 0 (Xr.valV tb.1 tb.2 xq.res)) := fun U hU hu => hU.wr _ _ _ _ _ _ (hU.tell _ _ (Or.inr (Or.inr rfl)) hu)
    refine hbody.trans (fun he2 => ?_) (fun he2 => hrest _ (Xr.cl_same tb.1.evs) ((Xr.cl_same tb.1.evs).val _ _ _ ⟨he2, rfl⟩))
    obtain ⟨v1, v2⟩ := Vd.val_ok (fr := tb.2) (x := xq.res) he2
    have hl5 := ho2'.snd
    refine Vd.ex_then he2 (by rw [Vd.szs_at hxq]; exact hsb) (by rw [Vd.szs_at hxq]; exact a3) xq.res _ [] (by rw [Vd.szs_at hxq]; exact w3) hl5.fst (by simp) (fun h1 => ?_) (fun h1 => ?_)
    · have es : Xr.valS tb.1 tb.2 xq.res = tb.1 := by rw [v2, if_pos h1]
      rw [es, v1]
      refine Vd.one_then (x := ⟨13, 0, 0⟩) (s1 := Xr.tell tb.1 ⟨6, tb.2.num, fr.at_, 0, 0, (Pg.val tb.2.vs m xq.res).1⟩) (g1 := ⟨fr, now, o + (Kd.exs c.2.1.2.2).length + 1, [(Pg.val tb.2.vs m xq.res).1]⟩ :: r) he2 hl5.snd.head ?_ (by rw [Vd.tell_evs he2]) ?_
      · rw [Vd.d13 (n := (Pg.val tb.2.vs m xq.res).1) (q := []) _ _ rfl, if_pos (by simp)]
      · have het : (Xr.tell tb.1 ⟨6, tb.2.num, fr.at_, 0, 0, (Pg.val tb.2.vs m xq.res).1⟩).ended = false := by rw [Vd.tell_evs he2]; exact he2
        refine Vd.one_then (x := ⟨6, (v : Nat), 0⟩) het hls ?_ (Vd.wr_on het _ _ _ _ _).2 Vd.Rch.refl
        rw [Vd.d6 (n := (Pg.val tb.2.vs m xq.res).1) (q := []) _ _ rfl, if_pos (by unfold Vd.plain; rw [Int.toNat_natCast]; show (((Kd.szs p)[now]?.getD [])[v]? == some 0) = true; rw [hss, hv1, hz0]; rfl)]
        show _ = (⟨_, ⟨_, now, o + ((Kd.exs c.2.1.2.2).length + 2), []⟩ :: r, false⟩ : Vd.St)
        rw [show o + ((Kd.exs c.2.1.2.2).length + 2) = o + (Kd.exs c.2.1.2.2).length + 1 + 1 by omega]
    · exact hrest _ (Xr.cl_same _) (by rw [v2, if_neg h1]; exact ⟨rfl, rfl⟩)
  · exact (Xr.cl_same _).callB p ((Xr.cl_same _).calls p d) _ _ _ _ _ _ ((Vd.arg_evs he _).2 h hh)
end
end Go.Proofs.YtpfogjplnodacaaGreat
