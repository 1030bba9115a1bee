/-
  Frames of any size: as FQ and FQ2 have them. By the verifier; written by mktac.py.
-/
import Derived.Test.YtfccpddehpgfoaaGreatDoorTCk2
import Derived.Deep.QuietTactic
import Derived.Deep.LoopGhost
namespace Go.Proofs.YtfccpddehpgfoaaGreatDoor
open Go.RowKit
set_option linter.unusedVariables false
def Fq.find (n : Nat) : Code → Option Code
 | .region id ops d => if Nat.beq id n then some (.region id ops d) else none
 | .seq a b => match Fq.find n a with | some c => some c | none => Fq.find n b
 | .cond _ a b => match Fq.find n a with | some c => some c | none => Fq.find n b
 | .block _ a => Fq.find n a
 | .loop a => Fq.find n a
 | _ => none
def Fq.reg (F : Func) (n : Nat) : Code := (Fq.find n (F.body.getD .skip)).getD .skip
structure Fq.Kp (n : Nat) (T T' : Array Value) : Prop where
 size : T'.size = T.size
 at_ : ∀ k, k < n → T'[k]? = T[k]?
theorem Fq.Kp.refl (n : Nat) (T : Array Value) : Fq.Kp n T T := ⟨rfl, fun _ _ => rfl⟩
theorem Fq.Kp.trans {n : Nat} {T T' T'' : Array Value} (h : Fq.Kp n T T') (h2 : Fq.Kp n T' T'') : Fq.Kp n T T'' := ⟨h2.size.trans h.size, fun k hk => (h2.at_ k hk).trans (h.at_ k hk)⟩
theorem Fq.set_ne (T : Array Value) {d k : Nat} (h : d ≠ k) (v : Value) : (T.setIfInBounds d v)[k]? = T[k]? := Array.getElem?_setIfInBounds_ne h
theorem Fq.set_at (T : Array Value) {d : Nat} (h : d < T.size) (v : Value) : (T.setIfInBounds d v)[d]? = some v := Array.getElem?_setIfInBounds_self_of_lt h
theorem Fq.el {T : Array Value} {k : Nat} {v : Value} (h : T[k]? = some v) (hk : k < T.size) : T[k] = v := by
 rw [Array.getElem?_eq_getElem hk] at h
 exact Option.some.inj h
theorem Fq.gd {T : Array Value} {k : Nat} {v : Value} (h : T[k]? = some v) : T.getD k (.tuple #[]) = v := by
 rw [Array.getD_eq_getD_getElem?, h]
 rfl
theorem Fq.Kp.set {n d : Nat} {T T' : Array Value} (h : Fq.Kp n T T') (hd : n ≤ d) (v : Value) : Fq.Kp n T (T'.setIfInBounds d v) :=
 ⟨by rw [Array.size_setIfInBounds]; exact h.size, fun k hk => (Fq.set_ne T' (by omega) v).trans (h.at_ k hk)⟩
theorem Fq.Kp.mono {n n' : Nat} {T T' : Array Value} (h : Fq.Kp n T T') (hn : n' ≤ n) : Fq.Kp n' T T' := ⟨h.size, fun k hk => h.at_ k (by omega)⟩
def Fq.ls (T : Array Value) (n : Nat) : List Value := (List.range n).map (fun i => T.getD i (.tuple #[]))
theorem Fq.ls_is {T : Array Value} {n : Nat} (h : T.size = n) : T = (Fq.ls T n).toArray := by
 refine Array.ext ?_ ?_
 · simp [Fq.ls, h]
 · intro i h1 h2
   simp [Fq.ls, Array.getD, h1]
def Fq.unw (n j dj : Nat) (b : Bool) (o : Oper) : Bool := (match o.guard with | some g => Nat.beq g.1 j && (g.2 == b) | none => false) && (match o.dst with | some d => Nat.ble n d && !Nat.beq d dj | none => false)
theorem Fq.qskip {P : Program} {ops : Array Oper} {C : World → Prop} {Q : Act → Prop} {n j dj : Nat} {b : Bool} (hd : (ops[j]?).bind (fun o => o.dst) = some dj) : ∀ (k : Nat) (l : List Oper) (T : Array Value), (l.take k).all (Fq.unw n j dj b) = true → T[dj]? = some (.bool (!b)) →
  (∀ T', Fq.Kp n T T' → T'[dj]? = some (.bool (!b)) → wpQuiet P ops C Q (l.drop k) ⟨T', []⟩) → wpQuiet P ops C Q l ⟨T, []⟩
 | 0, l, T, _, ht, h => h T (Fq.Kp.refl _ _) ht
 | k + 1, [], T, _, ht, h => h T (Fq.Kp.refl _ _) ht
 | k + 1, o :: l, T, ha, ht, h => by
  simp only [List.take_succ_cons, List.all_cons, Bool.and_eq_true] at ha
  obtain ⟨ha1, ha2⟩ := ha
  unfold Fq.unw at ha1
  rw [Bool.and_eq_true] at ha1
  obtain ⟨h1, h2⟩ := ha1
  cases hg : o.guard with
  | none => rw [hg] at h1; cases h1
  | some g =>
   obtain ⟨g1, g2⟩ := g
   rw [hg] at h1
   simp only [Bool.and_eq_true] at h1
   have e1 : g1 = j := Nat.eq_of_beq_eq_true h1.1
   have e2 : g2 = b := by simpa using h1.2
   cases hds : o.dst with
   | none => rw [hds] at h2; cases h2
   | some d =>
    rw [hds] at h2
    simp only [Bool.and_eq_true] at h2
    have e3 : n ≤ d := Nat.le_of_ble_eq_true h2.1
    have e4 : d ≠ dj := fun hh => by subst hh; simp at h2
    have hy : yielded ops T j = some (!b) := by
     unfold yielded
     rw [hd]
     show (match (some dj).bind (fun x => T[x]?) with | some (.bool b) => some b | _ => none) = _
     rw [show (some dj).bind (fun x => T[x]?) = T[dj]? from rfl, ht]
    have hw : Region.wanted o (yielded ops T) = false := by
     unfold Region.wanted
     rw [hg]
     subst e1 e2
     simp [hy]
    refine wpQuiet_step (fun K hK => ?_)
    rw [if_neg (by rw [show (⟨T, []⟩ : Act).tmps = T from rfl, hw]; exact Bool.false_ne_true)]
    refine hK _ ?_
    rw [hds]
    exact Fq.qskip hd k l (T.setIfInBounds d undef) ha2 ((Fq.set_ne T e4 undef).trans ht) (fun T' h5 h6 => h T' ((Fq.Kp.set (Fq.Kp.refl n T) e3 undef).trans h5) h6)
theorem Fq.cond_true {P : Program} {Q : Exit → Act → World → Prop} {T : Array Value} {w : World} {k : Nat} {x y : Code} (h : T[k]? = some (.bool true)) (hx : x.wp P Q ⟨T, []⟩ w) : (Code.cond (.tmp k) x y).wp P Q ⟨T, []⟩ w := wp_cond_true (show T.getD k (.tuple #[]) = _ from Fq.gd h) hx
theorem Fq.cond_false {P : Program} {Q : Exit → Act → World → Prop} {T : Array Value} {w : World} {k : Nat} {x y : Code} (h : T[k]? = some (.bool false)) (hy : y.wp P Q ⟨T, []⟩ w) : (Code.cond (.tmp k) x y).wp P Q ⟨T, []⟩ w := wp_cond_false (show T.getD k (.tuple #[]) = _ from Fq.gd h) hy
def Fq.findB (n : Nat) : Code → Option Code
 | .seq a b => match Fq.findB n a with | some c => some c | none => Fq.findB n b
 | .cond _ a b => match Fq.findB n a with | some c => some c | none => Fq.findB n b
 | .block id a => if Nat.beq id n then some a else Fq.findB n a
 | .loop a => Fq.findB n a
 | _ => none
def Fq.blk (F : Func) (n : Nat) : Code := (Fq.findB n (F.body.getD .skip)).getD .skip
def Fq.N (K : Act → World → Prop) : Exit → Act → World → Prop
 | .normal, a, w => K a w
 | _, _, _ => False
theorem Fq.norm {P : Program} {Q : Exit → Act → World → Prop} {a : Act} {w : World} {x : Code} (K : Array Value → World → Prop) (hQ : ∀ T' v, K T' v → Q .normal ⟨T', []⟩ v) (h : x.wp P (Fq.N fun a v => a.defers = [] ∧ K a.tmps v) a w) : x.wp P Q a w :=
 Code.wp_mono (Q := Fq.N fun a v => a.defers = [] ∧ K a.tmps v) (fun e a v h => by
  cases e with
  | normal =>
   obtain ⟨T', ds⟩ := a
   obtain ⟨h1, h2⟩ := h
   have h1' : ds = [] := h1
   subst h1'
   exact hQ T' v h2
  | _ => exact False.elim h) h
section
variable {P : Program} {Q : Exit → Act → World → Prop} {K : Act → World → Prop} {a : Act} {w : World} {T : Array Value}
theorem Fq.fr {T2 : Array Value} {x : Code} (h : T = T2) (hw : x.wp P Q ⟨T2, []⟩ w) : x.wp P Q ⟨T, []⟩ w := h ▸ hw
theorem Fq.at_ (F : Func) (n : Nat) {c : Code} (h : Fq.reg F n = c) (hw : (Fq.reg F n).wp P Q a w) : c.wp P Q a w := h ▸ hw
theorem Fq.in_ (F : Func) (n : Nat) {c : Code} (h : Fq.blk F n = c) (hw : (Fq.blk F n).wp P Q a w) : c.wp P Q a w := h ▸ hw
theorem Fq.cut {x y : Code} (I : Array Value → World → Prop) (h1 : ∀ Q' : Exit → Act → World → Prop, (∀ T' v, I T' v → Q' .normal ⟨T', []⟩ v) → x.wp P Q' ⟨T, []⟩ w) (h2 : ∀ T' v, I T' v → y.wp P Q ⟨T', []⟩ v) : (Code.seq x y).wp P Q ⟨T, []⟩ w :=
 wp_seq (h1 _ (fun T' v h => h2 T' v h))
theorem Fq.cutR {x y : Code} (I J : Array Value → World → Prop) (h1 : ∀ Q' : Exit → Act → World → Prop, (∀ T' v, I T' v → Q' .normal ⟨T', []⟩ v) → (∀ T' v, J T' v → Q' .ret ⟨T', []⟩ v) → x.wp P Q' ⟨T, []⟩ w) (h3 : ∀ T' v, J T' v → Q .ret ⟨T', []⟩ v) (h2 : ∀ T' v, I T' v → y.wp P Q ⟨T', []⟩ v) : (Code.seq x y).wp P Q ⟨T, []⟩ w :=
 wp_seq (h1 _ (fun T' v h => h2 T' v h) (fun T' v h => h3 T' v h))
theorem Fq.ok (h : K a w) : Exit.then K Q .normal a w := h
theorem Fq.thR (h : Q .ret a w) : Exit.then K Q .ret a w := h
theorem Fq.blR {id : Nat} (h : Q .ret a w) : Exit.inBlock id Q .ret a w := h
theorem Fq.blN {id : Nat} (h : Q .normal a w) : Exit.inBlock id Q .normal a w := h
theorem Fq.thX {k : Nat} (h : Q (.exit k) a w) : Exit.then K Q (.exit k) a w := h
theorem Fq.blX {id : Nat} (h : Q .normal a w) : Exit.inBlock id Q (.exit id) a w := by
 show if id = id then Q .normal a w else Q (.exit id) a w
 rw [if_pos rfl]
 exact h
theorem Fq.blY {id k : Nat} (hk : k ≠ id) (h : Q (.exit k) a w) : Exit.inBlock id Q (.exit k) a w := by
 show if k = id then Q .normal a w else Q (.exit k) a w
 rw [if_neg hk]
 exact h
theorem Fq.skip (h : Q .normal a w) : Code.skip.wp P Q a w := wp_skip h
theorem Fq.ret {fn : Func} {R : Ending → World → Prop} {t : Nat} {v : Value} (hr : fn.results = #[.tmp t]) (ht : T[t]? = some v) (hR : R (.returned v) w) : bodyPost P fn R .ret ⟨T, []⟩ w :=
 bodyPost_ret (v := v) (by rw [results_tmp hr]; congr 1; exact Fq.gd ht) rfl hR
theorem Fq.cond (k : Nat) {x y : Code} {b : Bool} (h : T[k]? = some (.bool b)) (hx : b = true → x.wp P Q ⟨T, []⟩ w) (hy : b = false → y.wp P Q ⟨T, []⟩ w) : (Code.cond (.tmp k) x y).wp P Q ⟨T, []⟩ w := by
 cases b with
 | true => exact Fq.cond_true h (hx rfl)
 | false => exact Fq.cond_false h (hy rfl)
end
end Go.Proofs.YtfccpddehpgfoaaGreatDoor
