/-
  FQ, YMany, PNone, PChkX, YReg, FQ2, YSm. By the verifier.
-/
import Derived.Test.YtpfogjplnodacaaPLeaf
import Derived.Deep.QuietTactic
import Derived.Test.YtpfogjplnodacaaPProg
import Derived.Test.YtpfogjplnodacaaPRef
import Derived.Test.YtpfogjplnodacaaPAll
import Derived.BigGuardPart
import Derived.Deep.LoopGhost
set_option maxRecDepth 100000
set_option maxHeartbeats 6400000
namespace Go.Proofs.Ytpfogjplnodacaa
open Go.RowKit
set_option linter.unusedVariables false
def Fq.find (n : Nat) : Code → Option Code
 | .region id ops d => if Nat.beq id n then some (.region id ops d) else none
 | .seq a b => match Fq.find n a with | some c => some c | none => Fq.find n b
 | .cond _ a b => match Fq.find n a with | some c => some c | none => Fq.find n b
 | .block _ a => Fq.find n a
 | .loop a => Fq.find n a
 | _ => none
def Fq.reg (F : Func) (n : Nat) : Code := (Fq.find n (F.body.getD .skip)).getD .skip
structure Fq.Kp (n : Nat) (T T' : Array Value) : Prop where
 size : T'.size = T.size
 at_ : ∀ k, k < n → T'[k]? = T[k]?
theorem Fq.Kp.refl (n : Nat) (T : Array Value) : Fq.Kp n T T := ⟨rfl, fun _ _ => rfl⟩
theorem Fq.Kp.trans {n : Nat} {T T' T'' : Array Value} (h : Fq.Kp n T T') (h2 : Fq.Kp n T' T'') : Fq.Kp n T T'' := ⟨h2.size.trans h.size, fun k hk => (h2.at_ k hk).trans (h.at_ k hk)⟩
theorem Fq.set_ne (T : Array Value) {d k : Nat} (h : d ≠ k) (v : Value) : (T.setIfInBounds d v)[k]? = T[k]? := Array.getElem?_setIfInBounds_ne h
theorem Fq.set_at (T : Array Value) {d : Nat} (h : d < T.size) (v : Value) : (T.setIfInBounds d v)[d]? = some v := Array.getElem?_setIfInBounds_self_of_lt h
theorem Fq.el {T : Array Value} {k : Nat} {v : Value} (h : T[k]? = some v) (hk : k < T.size) : T[k] = v := by
 rw [Array.getElem?_eq_getElem hk] at h
 exact Option.some.inj h
theorem Fq.gd {T : Array Value} {k : Nat} {v : Value} (h : T[k]? = some v) : T.getD k (.tuple #[]) = v := by
 rw [Array.getD_eq_getD_getElem?, h]
 rfl
theorem Fq.Kp.set {n d : Nat} {T T' : Array Value} (h : Fq.Kp n T T') (hd : n ≤ d) (v : Value) : Fq.Kp n T (T'.setIfInBounds d v) :=
 ⟨by rw [Array.size_setIfInBounds]; exact h.size, fun k hk => (Fq.set_ne T' (by omega) v).trans (h.at_ k hk)⟩
theorem Fq.Kp.mono {n n' : Nat} {T T' : Array Value} (h : Fq.Kp n T T') (hn : n' ≤ n) : Fq.Kp n' T T' := ⟨h.size, fun k hk => h.at_ k (by omega)⟩
def Fq.ls (T : Array Value) (n : Nat) : List Value := (List.range n).map (fun i => T.getD i (.tuple #[]))
theorem Fq.ls_is {T : Array Value} {n : Nat} (h : T.size = n) : T = (Fq.ls T n).toArray := by
 refine Array.ext ?_ ?_
 · simp [Fq.ls, h]
 · intro i h1 h2
   simp [Fq.ls, Array.getD, h1]
def Fq.unw (n j dj : Nat) (b : Bool) (o : Oper) : Bool := (match o.guard with | some g => Nat.beq g.1 j && (g.2 == b) | none => false) && (match o.dst with | some d => Nat.ble n d && !Nat.beq d dj | none => false)
theorem Fq.qskip {P : Program} {ops : Array Oper} {C : World → Prop} {Q : Act → Prop} {n j dj : Nat} {b : Bool} (hd : (ops[j]?).bind (fun o => o.dst) = some dj) : ∀ (k : Nat) (l : List Oper) (T : Array Value), (l.take k).all (Fq.unw n j dj b) = true → T[dj]? = some (.bool (!b)) →
  (∀ T', Fq.Kp n T T' → T'[dj]? = some (.bool (!b)) → wpQuiet P ops C Q (l.drop k) ⟨T', []⟩) → wpQuiet P ops C Q l ⟨T, []⟩
 | 0, l, T, _, ht, h => h T (Fq.Kp.refl _ _) ht
 | k + 1, [], T, _, ht, h => h T (Fq.Kp.refl _ _) ht
 | k + 1, o :: l, T, ha, ht, h => by
  simp only [List.take_succ_cons, List.all_cons, Bool.and_eq_true] at ha
  obtain ⟨ha1, ha2⟩ := ha
  unfold Fq.unw at ha1
  rw [Bool.and_eq_true] at ha1
  obtain ⟨h1, h2⟩ := ha1
  cases hg : o.guard with
  | none => rw [hg] at h1; cases h1
  | some g =>
   obtain ⟨g1, g2⟩ := g
   rw [hg] at h1
   simp only [Bool.and_eq_true] at h1
   have e1 : g1 = j := Nat.eq_of_beq_eq_true h1.1
   have e2 : g2 = b := by simpa using h1.2
   cases hds : o.dst with
   | none => rw [hds] at h2; cases h2
   | some d =>
    rw [hds] at h2
    simp only [Bool.and_eq_true] at h2
    have e3 : n ≤ d := Nat.le_of_ble_eq_true h2.1
    have e4 : d ≠ dj := fun hh => by subst hh; simp at h2
    have hy : yielded ops T j = some (!b) := by
     unfold yielded
     rw [hd]
     show (match (some dj).bind (fun x => T[x]?) with | some (.bool b) => some b | _ => none) = _
     rw [show (some dj).bind (fun x => T[x]?) = T[dj]? from rfl, ht]
    have hw : Region.wanted o (yielded ops T) = false := by
     unfold Region.wanted
     rw [hg]
     subst e1 e2
     simp [hy]
    refine wpQuiet_step (fun K hK => ?_)
    rw [if_neg (by rw [show (⟨T, []⟩ : Act).tmps = T from rfl, hw]; exact Bool.false_ne_true)]
    refine hK _ ?_
    rw [hds]
    exact Fq.qskip hd k l (T.setIfInBounds d undef) ha2 ((Fq.set_ne T e4 undef).trans ht) (fun T' h5 h6 => h T' ((Fq.Kp.set (Fq.Kp.refl n T) e3 undef).trans h5) h6)
theorem Fq.cond_true {P : Program} {Q : Exit → Act → World → Prop} {T : Array Value} {w : World} {k : Nat} {x y : Code} (h : T[k]? = some (.bool true)) (hx : x.wp P Q ⟨T, []⟩ w) : (Code.cond (.tmp k) x y).wp P Q ⟨T, []⟩ w := wp_cond_true (show T.getD k (.tuple #[]) = _ from Fq.gd h) hx
theorem Fq.cond_false {P : Program} {Q : Exit → Act → World → Prop} {T : Array Value} {w : World} {k : Nat} {x y : Code} (h : T[k]? = some (.bool false)) (hy : y.wp P Q ⟨T, []⟩ w) : (Code.cond (.tmp k) x y).wp P Q ⟨T, []⟩ w := wp_cond_false (show T.getD k (.tuple #[]) = _ from Fq.gd h) hy
end Go.Proofs.Ytpfogjplnodacaa
namespace Go.Proofs.Ytpfogjplnodacaa
open Go.RowKit
set_option linter.unusedVariables false
def Pg.mny {m n : Nat} (deep : Nat) (l : List (Pg.CT m n)) : Nat := if 6 < deep + Pg.deps l then 41 else min 41 (Pg.cnts l)
def Pg.mny1 {m n : Nat} (deep : Nat) (y : Pg.CT m (n + 1)) : Nat := 1 + (Pg.mny (deep + 1) y.2.2.1 + Pg.mny (deep + 1) y.2.2.2)
theorem Pg.mny_le {m n : Nat} (deep : Nat) (l : List (Pg.CT m n)) : Pg.mny deep l ≤ 41 := by
 unfold Pg.mny
 split <;> omega
theorem Pg.mny_nil {m n : Nat} {deep : Nat} (h : deep ≤ 6) : Pg.mny deep ([] : List (Pg.CT m n)) = 0 := by
 unfold Pg.mny
 rw [if_neg (by show ¬ 6 < deep + 0; omega)]
 rfl
theorem Pg.min_sum {α : Type} (f g : α → Nat) : ∀ (l : List α), (∀ y ∈ l, ∃ a b, f y = 1 + (min 41 a + min 41 b) ∧ g y = 1 + a + b) → min 41 ((l.map f).sum) = min 41 ((l.map g).sum)
 | [], _ => rfl
 | y :: r, h => by
  obtain ⟨a, b, h1, h2⟩ := h y List.mem_cons_self
  have h3 := Pg.min_sum f g r (fun z hz => h z (List.mem_cons_of_mem _ hz))
  rw [List.map_cons, List.sum_cons, List.map_cons, List.sum_cons, h1, h2]
  omega
theorem Pg.mem_le_sum {α : Type} (f : α → Nat) : ∀ (l : List α) (y : α), y ∈ l → f y ≤ (l.map f).sum
 | z :: r, y, h => by
  rw [List.map_cons, List.sum_cons]
  rcases List.mem_cons.1 h with rfl | h
  · omega
  · have := Pg.mem_le_sum f r y h
    omega
theorem Pg.mny_sum {m n : Nat} {deep : Nat} (hd : deep ≤ 5) (l : List (Pg.CT m (n + 1))) : Pg.mny deep l = min 41 ((l.map (Pg.mny1 deep)).sum) := by
 by_cases h : ∃ y ∈ l, 6 < deep + Pg.dep (n + 1) y
 · obtain ⟨y, hy, h1⟩ := h
   have h2 := Pg.dep_le hy
   have h3 := Pg.mem_le_sum (Pg.mny1 deep) l y hy
   have h4 : 41 ≤ Pg.mny1 deep y := by
    rw [Pg.dep_succ] at h1
    unfold Pg.mny1
    rcases Nat.le_total (Pg.deps y.2.2.1) (Pg.deps y.2.2.2) with h5 | h5
    · have : Pg.mny (deep + 1) y.2.2.2 = 41 := if_pos (by omega)
      omega
    · have : Pg.mny (deep + 1) y.2.2.1 = 41 := if_pos (by omega)
      omega
   rw [show Pg.mny deep l = 41 from if_pos (by omega)]
   omega
 · have h0 : ∀ y ∈ l, deep + Pg.dep (n + 1) y ≤ 6 := fun y hy => Nat.le_of_not_lt (fun h1 => h ⟨y, hy, h1⟩)
   have h1 : Pg.deps l ≤ 6 - deep := Pg.deps_le (fun y hy => by have := h0 y hy; omega)
   rw [show Pg.mny deep l = min 41 (Pg.cnts l) from if_neg (by omega)]
   refine (Pg.min_sum _ _ l (fun y hy => ⟨Pg.cnts y.2.2.1, Pg.cnts y.2.2.2, ?_, Pg.cnt_succ y⟩)).symm
   have h2 := h0 y hy
   rw [Pg.dep_succ] at h2
   unfold Pg.mny1
   rw [show Pg.mny (deep + 1) y.2.2.1 = min 41 (Pg.cnts y.2.2.1) from if_neg (by omega), show Pg.mny (deep + 1) y.2.2.2 = min 41 (Pg.cnts y.2.2.2) from if_neg (by omega)]
theorem ManyCmds_none (sa : Option Addr) (sc : Nat) (w : World) (deep : Nat) :
  Calls Try.prog 11 #[.slice sa 0 sc, .int .i64 (deep : Nat)] w fun r w' => r = .returned (.int .i64 0) ∧ Below w.heap.size w w' := by
 go_enter Try.func11, Try.ntmps11
 go_wp2_with fail
 go_loopw [5, 6] (fun nv iv wr => nv = .int .i64 0 ∧ iv = .int .i64 0 ∧ wr = w) (fun _ _ _ => 0)
 case atStart => exact ⟨rfl, rfl, rfl⟩
 case round =>
  obtain ⟨rfl, rfl, hwr⟩ := hrel
  have hwr2 := hwr.symm
  subst hwr2
  go_wp2_with fail
  go_ret
  exact ⟨rfl, Below.refl _ _⟩
theorem ManyCmds_any {m : Nat} : ∀ (n : Nat) (s : Pg.Sl) (l : List (Pg.CT m n)) (w : World) (deep : Nat), Pg.RS w 12 (Pg.LC w) (Pg.RC w m n) s l → deep ≤ 6 →
  Calls Try.prog 11 #[.slice s.ad s.len s.cap, .int .i64 (deep : Nat)] w fun r w' => r = .returned (.int .i64 (Pg.mny deep l : Nat)) ∧ Below w.heap.size w w' := by
 have nil : ∀ (n : Nat) (s : Pg.Sl) (l : List (Pg.CT m n)) (w : World) (deep : Nat), s.len = l.length → l = [] → deep ≤ 6 →
   Calls Try.prog 11 #[.slice s.ad s.len s.cap, .int .i64 (deep : Nat)] w fun r w' => r = .returned (.int .i64 (Pg.mny deep l : Nat)) ∧ Below w.heap.size w w' := by
  intro n s l w deep h1 h2 h3
  subst h2
  rw [h1, Pg.mny_nil h3]
  exact ManyCmds_none s.ad s.cap w deep
 intro n
 induction n with
 | zero =>
  intro s l w deep hs hd
  refine nil 0 s l w deep hs.len ?_ hd
  cases l with
  | nil => rfl
  | cons y r => exact Empty.elim y
 | succ n ih =>
  intro s l w deep hs hd
  have hlen := hs.len
  have hfew := hs.few
  rcases Nat.eq_zero_or_pos s.len with h0 | h0
  · exact nil (n + 1) s l w deep hlen (List.eq_nil_of_length_eq_zero (by omega)) hd
  by_cases h6 : 5 < deep
  · have HM := hide (show Pg.mny deep l = 41 from if_pos (by
     have h0 : 0 < l.length := by omega
     have h1 := Pg.dep_le (List.getElem_mem h0)
     have h2 := Pg.dep_succ (l[0]'h0)
     omega))
    generalize Pg.mny deep l = R at *
    obtain ⟨sa, sl, sc⟩ := s
    dsimp only at *
    have g1 : (0 : Int) < (sl : Int) := by omega
    have g2 : (5 : Int) < (deep : Int) := by omega
    clear hs hlen ih nil
    go_enter Try.func11, Try.ntmps11
    go_wp2_with fail
    go_ret
    exact ⟨by rw [unhide HM]; rfl, Below.refl _ _⟩
  · have HR := hide (Pg.mny_sum (show deep ≤ 5 by omega) l)
    have HSA := hide (Pg.sumTo_all (Pg.mny1 deep) l)
    have HSL := hide (Pg.sumTo_le (Pg.mny1 deep) l)
    have HML := hide (fun (k : Nat) (l : List (Pg.CT m k)) => Pg.mny_le (deep + 1) l)
    generalize Pg.mny deep l = R at *
    have HS := hide hs
    have HLN := hide hlen
    have IH := hide ih
    have hfl : s.len ≤ 35184372088832 := by omega
    have g1 : (0 : Int) < (s.len : Int) := by omega
    have g2 : ¬ (5 : Int) < (deep : Int) := by omega
    clear hs hlen ih hfew nil
    obtain ⟨sa, sl, sc⟩ := s
    dsimp only at *
    go_enter Try.func11, Try.ntmps11
    go_wp2_with fail
    go_loopw [5, 6] (fun nv iv wr => ∃ (i k : Nat), i ≤ sl ∧ iv = .int .i64 i ∧ nv = .int .i64 ((k : Nat) : Int) ∧ k ≤ 123 ∧ Hid (k = Pg.sumTo (Pg.mny1 deep) l i) ∧ Below w.heap.size w wr) (fun _ iv _ => sl - (intOf iv).toNat)
    case atStart => exact ⟨0, 0, Nat.zero_le _, rfl, rfl, by omega, by show _ = _; rfl, Below.refl _ _⟩
    case round =>
     obtain ⟨i, k, hi, rfl, rfl, hk, hkk, hbe⟩ := hrel
     have hz := hbe.size
     have HBE := hide hbe
     have HK := hide (unhide hkk)
     clear hbe hkk
     by_cases hk40 : k ≤ 40
     · by_cases hlt : i < sl
       · have hlt2 : i < l.length := by have := unhide HLN; omega
         have hy := List.getElem?_eq_getElem hlt2
         obtain ⟨b, o, cc, had, hb, hlies, hrd⟩ := (unhide HS).at_ i _ hy
         have HSU := hide (Pg.sumTo_succ (Pg.mny1 deep) l i _ hy)
         generalize l[i] = y at *
         have hyi : Pg.mny1 deep y = 1 + (Pg.mny (deep + 1) y.2.2.1 + Pg.mny (deep + 1) y.2.2.2) := rfl
         have HT := hide (fun (W : World) (hW : Below w.heap.size w W) => show Calls Try.prog 11 #[.slice cc.thn.ad cc.thn.len cc.thn.cap, .int .i64 ((deep : Int) + 1)] W fun r w' => r = .returned (.int .i64 (Pg.mny (deep + 1) y.2.2.1 : Nat)) ∧ Below W.heap.size W w' from (unhide IH) cc.thn y.2.2.1 W (deep + 1) (hrd.2.2.1.laterC hW (Nat.le_refl _)) (by omega))
         have HE := hide (fun (W : World) (hW : Below w.heap.size w W) => show Calls Try.prog 11 #[.slice cc.els.ad cc.els.len cc.els.cap, .int .i64 ((deep : Int) + 1)] W fun r w' => r = .returned (.int .i64 (Pg.mny (deep + 1) y.2.2.2 : Nat)) ∧ Below W.heap.size W w' from (unhide IH) cc.els y.2.2.2 W (deep + 1) (hrd.2.2.2.laterC hW (Nat.le_refl _)) (by omega))
         have hc1 := (unhide HML) n y.2.2.1
         have hc2 := (unhide HML) n y.2.2.2
         generalize Pg.mny (deep + 1) y.2.2.1 = C1 at *
         generalize Pg.mny (deep + 1) y.2.2.2 = C2 at *
         have HNX := hide (show k + (1 + (C1 + C2)) = Pg.sumTo (Pg.mny1 deep) l (i + 1) by
          have h1 := unhide HSU
          have h3 := unhide HK
          omega)
         have hw0 : IntKind.i64.wrap ((deep : Int) + 1) = (deep : Int) + 1 := Xr.wrap_id (by omega) (by omega)
         have hw1 : IntKind.i64.wrap (1 + (C1 : Int)) = 1 + (C1 : Int) := Xr.wrap_id (by omega) (by omega)
         have hw2 : IntKind.i64.wrap (1 + (C1 : Int) + (C2 : Int)) = 1 + (C1 : Int) + (C2 : Int) := Xr.wrap_id (by omega) (by omega)
         have hw3 : IntKind.i64.wrap ((k : Int) + (1 + (C1 : Int) + (C2 : Int))) = (k : Int) + (1 + (C1 : Int) + (C2 : Int)) := Xr.wrap_id (by omega) (by omega)
         have HKM := hide (show ∀ V : World, Below w.heap.size w V → (V.cell? ⟨b, o + i * 12 + 10, none⟩ = some (.slice cc.thn.ad cc.thn.len cc.thn.cap) ∧ V.cell? ⟨b, o + i * 12 + 11, none⟩ = some (.slice cc.els.ad cc.els.len cc.els.cap) ∧ Below w.heap.size w V) from fun V hV => ⟨(hlies.later hV (Nat.le_refl _) hb).c10, (hlies.later hV (Nat.le_refl _) hb).c11, hV⟩)
         clear hlies hrd hy hyi hb
         have hi0 : (0 : Int) ≤ (i : Int) := by omega
         have hi1 : (i : Int) < (sl : Int) := by omega
         have hk40i : (k : Int) ≤ 40 := by omega
         have had' : sa = some ⟨b, o, none⟩ := had
         subst had'
         clear had
         go_upto_region 7 with fail
         go_region_held3 (fun V => V.cell? ⟨b, o + i * 12 + 10, none⟩ = some (.slice cc.thn.ad cc.thn.len cc.thn.cap) ∧ V.cell? ⟨b, o + i * 12 + 11, none⟩ = some (.slice cc.els.ad cc.els.len cc.els.cap) ∧ Below w.heap.size w V)
          (first | assumption | exact (unhide HKM) _ ((unhide HBE).drew) | exact (unhide HKM) _ (Below.trans (And.right (And.right (by assumption))) ((unhide HB5).mono (Below.size (And.right (And.right (by assumption)))))))
          (first
           | (go_at_call_of 11 (Value.slice cc.thn.ad cc.thn.len cc.thn.cap); refine ((unhide HT) _ ?_).mono ?_; exact And.right (And.right (by assumption)); rintro r w5 ⟨rfl, hb5⟩; have HB5 := hide hb5; clear hb5)
           | (go_at_call_of 11 (Value.slice cc.els.ad cc.els.len cc.els.cap); refine ((unhide HE) _ ?_).mono ?_; exact And.right (And.right (by assumption)); rintro r w5 ⟨rfl, hb5⟩; have HB5 := hide hb5; clear hb5))
         all_goals
          go_wp2_with fail
          exact ⟨⟨i + 1, k + (1 + (C1 + C2)), by omega, by go_num, by go_num, by omega, by show _ = _; exact unhide HNX, And.right (And.right (by assumption))⟩, by simp [intOf]; omega⟩
       · have HF := hide (show k = R by
          have h1 := unhide HK
          have h2 := unhide HSA
          have e1 : i = l.length := by have := unhide HLN; omega
          rw [e1, h2] at h1
          have h4 := unhide HR
          omega)
         have hi1 : ¬ (i : Int) < (sl : Int) := by omega
         have hk41 : ¬ (41 : Int) < (k : Int) := by omega
         go_wp2_with fail
         go_ret
         exact ⟨ret_int (by rw [unhide HF]), unhide HBE⟩
     · have HF := hide (show R = 41 by
        have h1 := unhide HK
        have h2 := (unhide HSL) i (by have := unhide HLN; omega)
        have h4 := unhide HR
        omega)
       have hk40i : ¬ (k : Int) ≤ 40 := by omega
       by_cases hk41 : 41 < k
       · have hk41i : (41 : Int) < (k : Int) := by omega
         by_cases hlt : (i : Int) < (sl : Int)
         · go_wp2_with fail
           go_ret
           exact ⟨by rw [unhide HF]; rfl, unhide HBE⟩
         · go_wp2_with fail
           go_ret
           exact ⟨by rw [unhide HF]; rfl, unhide HBE⟩
       · have hke : k = 41 := by omega
         subst hke
         by_cases hlt : (i : Int) < (sl : Int)
         · go_wp2_with fail
           go_ret
           exact ⟨by rw [unhide HF]; rfl, unhide HBE⟩
         · go_wp2_with fail
           go_ret
           exact ⟨by rw [unhide HF]; rfl, unhide HBE⟩
end Go.Proofs.Ytpfogjplnodacaa
namespace Go.Proofs.Ytpfogjplnodacaa
open Go.RowKit
set_option linter.unusedVariables false
theorem noneExpr_any (n : Nat) (e : Pg.E) (x : Pg.XT n) (w : World) (h : Pg.RX w n e x) :
  Calls Try.prog 14 #[e.val] w fun r w' => r = .returned (.bool (!Pg.isX n x)) ∧ Below w.heap.size w w' := by
 cases n with
 | zero => exact absurd h id
 | succ n =>
  obtain ⟨⟨h1, h2⟩, h3⟩ := h
  have hlen := h3.len
  have hfew := h3.few
  have HX := hide (show (!Pg.isX (n + 1) x) = !decide (e.k ≠ 0 ∨ e.n ≠ 0 ∨ 0 < e.args.len) by rw [h1, h2, hlen]; rfl)
  rw [← hlen] at hfew
  clear h1 h2 h3 hlen
  generalize (!Pg.isX (n + 1) x) = X at *
  have HB := hide ((Below.refl w.heap.size w).alloc (Nat.le_refl _) (Obj.cells #[.int .i64 e.k, .int .i64 e.n, .slice e.args.ad e.args.len e.args.cap] 42))
  unfold Pg.E.val
  go_enter Try.func14, Try.ntmps14
  by_cases g1 : e.k = 0
  · have b1 : (e.k == 0) = true := by simp [g1]
    by_cases g2 : e.n = 0
    · have b2 : (e.n == 0) = true := by simp [g2]
      have HX2 := hide (show X = ((e.args.len : Int) == 0) by rw [unhide HX, Bool.eq_iff_iff]; simp [g1, g2])
      clear g1 g2
      go_wp2_with fail
      go_ret
      exact ⟨ret_bool (unhide HX2).symm, unhide HB⟩
    · have b2 : (e.n == 0) = false := by simpa using g2
      have HX2 := hide (show X = false by rw [unhide HX]; simp [g2])
      clear g1 g2
      go_wp2_with fail
      go_ret
      exact ⟨ret_bool (unhide HX2).symm, unhide HB⟩
  · have b1 : (e.k == 0) = false := by simpa using g1
    have HX2 := hide (show X = false by rw [unhide HX]; simp [g1])
    clear g1
    go_wp2_with fail
    go_ret
    exact ⟨ret_bool (unhide HX2).symm, unhide HB⟩
end Go.Proofs.Ytpfogjplnodacaa
namespace Go.Proofs.Ytpfogjplnodacaa
open Go.RowKit
set_option linter.unusedVariables false
theorem Pg.capP_gt (p : Nat) : (Pg.capP 15 p > 15) ↔ 15 < p := by unfold Pg.capP; split <;> omega
theorem Pg.at_lt {sz : List Int} {n : Int} (h : 0 ≤ n ∧ n ≤ (sz.length : Int) - 1) : ∃ (j : Nat) (v : Int), n = j ∧ sz[j]? = some v ∧ Pg.at? sz n = some v := by
 obtain ⟨j, rfl⟩ : ∃ j : Nat, n = j := ⟨n.toNat, by omega⟩
 have hj : j < sz.length := by omega
 refine ⟨j, sz[j], rfl, List.getElem?_eq_getElem hj, ?_⟩
 unfold Pg.at?
 rw [if_pos (by omega), Int.toNat_natCast, List.getElem?_eq_getElem hj]
theorem Pg.at_none {sz : List Int} {n : Int} (h : ¬ (0 ≤ n ∧ n ≤ (sz.length : Int) - 1)) : Pg.at? sz n = none := by
 unfold Pg.at?
 split
 · exact List.getElem?_eq_none (by omega)
 · rfl
theorem CheckExpr_any (n : Nat) (e : Pg.E) (x : Pg.XT n) (w : World) (ss : Pg.Sl) (sz : List Int) (hre : Pg.RX w n e x) (hsz : Pg.RN w ss sz) (hnn : ∀ z ∈ sz, 0 ≤ z) :
  Calls Try.prog 15 #[e.val, .slice ss.ad ss.len ss.cap] w fun r w' => r = .returned (.int .i64 (Pg.chkX sz n x : Nat)) ∧ Below w.heap.size w w' := by
 have hb0 := (Below.refl w.heap.size w).alloc (Nat.le_refl _) (Obj.cells #[.int .i64 e.k, .int .i64 e.n, .slice e.args.ad e.args.len e.args.cap] 42)
 have HEP := hide (exprParts_any n e x _ 15 (hre.later hb0 (Nat.le_refl _)) (by omega) (by omega))
 have HAP := hide (fun (W : World) (hW : Below w.heap.size w W) (hp : Pg.parts n x ≤ 1000) => allParts_any n e x W (hre.later hW (Nat.le_refl _)) hp)
 have HC := hide (show Pg.chkX sz n x = if 15 < Pg.parts n x then 2 else Pg.first ((Pg.flat n x).map fun t => Pg.wx1 sz t.1 t.2.1 t.2.2) by rw [← Pg.wx_flat]; rfl)
 have HCG := hide (Pg.capP_gt (Pg.parts n x))
 have HFL := hide (Pg.flat_length n x)
 generalize Pg.chkX sz n x = R at *
 generalize Pg.flat n x = FL at *
 generalize Pg.parts n x = P at *
 obtain ⟨sa, sl, sc⟩ := ss
 have hlen : sl = sz.length := hsz.len
 have hfew := hsz.few
 rw [← hlen] at hfew
 have HLN := hide hlen
 have HSZ := hide hsz
 have HNN := hide hnn
 have HB0 := hide hb0
 clear hre hb0 hsz hnn hlen
 dsimp only
 unfold Pg.E.val at *
 go_enter Try.func15, Try.ntmps15
 go_wp2_with fail
 refine (unhide HEP).mono ?_
 rintro r w1 ⟨rfl, hb1⟩
 have q0 : w1.cell? ⟨w.heap.size, 0, none⟩ = some (.int .i64 e.k) := (hb1.cell (p := ⟨w.heap.size, 0, none⟩) (by simp)).trans (by simp)
 have q1 : w1.cell? ⟨w.heap.size, 1, none⟩ = some (.int .i64 e.n) := (hb1.cell (p := ⟨w.heap.size, 1, none⟩) (by simp)).trans (by simp)
 have q2 : w1.cell? ⟨w.heap.size, 2, none⟩ = some (.slice e.args.ad e.args.len e.args.cap) := (hb1.cell (p := ⟨w.heap.size, 2, none⟩) (by simp)).trans (by simp)
 have HB1 := hide (below_two hb1)
 clear hb1
 by_cases h15 : 15 < P
 · have g15 : Pg.capP 15 P > 15 := (unhide HCG).2 h15
   have HR := hide (show R = 2 by rw [unhide HC, if_pos h15])
   generalize Pg.capP 15 P = CP at *
   clear h15
   go_wp2_with fail
   go_ret
   exact ⟨ret_int (by rw [unhide HR]; rfl), unhide HB1⟩
 · have g15 : ¬ Pg.capP 15 P > 15 := fun h => h15 ((unhide HCG).1 h)
   have HR := hide (show R = Pg.first (FL.map fun t => Pg.wx1 sz t.1 t.2.1 t.2.2) by rw [unhide HC, if_neg h15])
   have HA2 := hide ((unhide HAP) _ (unhide HB1) (by omega))
   generalize Pg.capP 15 P = CP at *
   go_wp2_with fail
   refine (unhide HA2).mono ?_
   rintro r w2 ⟨g, c, es, rfl, hrow, htri, hb2⟩
   have hesl : es.length = P := by have := congrArg List.length htri; rw [List.length_map, unhide HFL] at this; exact this
   have HB2 := hide ((unhide HB1).trans (hb2.mono (unhide HB1).size))
   have HAT := hide (fun (i : Nat) (y : Pg.E) (hy : es[i]? = some y) => (show Pg.LE w2 g (i * 3) y from by
    have cc : ∀ j v, y.cells[j]? = some v → w2.cell? ⟨g, i * 3 + j, none⟩ = some v := fun j v hv => by
     have := hrow.cells (g := g) rfl (i * 3 + j) v (Pg.exC_at es i y j v hy hv)
     rw [Go.WideShapes.add_plain] at this
     simpa using this
    exact ⟨by simpa using cc 0 _ rfl, cc 1 _ rfl, cc 2 _ rfl⟩))
   have hgl := (hrow.lt g rfl).2
   have HES := hide hesl
   have HR2 := hide (show R = Pg.first (es.map fun t => Pg.wx1 sz t.k t.n t.args.len) by rw [unhide HR, ← htri, List.map_map]; rfl)
   clear hb2 hrow htri hesl q0 q1 q2 HR HC HCG HFL HAP HEP HA2 HB0
   go_wp2_with fail
   go_loopw [6] (fun iv wr => ∃ (i : Nat), i ≤ P ∧ iv = .int .i64 i ∧ R = Pg.first ((es.drop i).map fun t => Pg.wx1 sz t.k t.n t.args.len) ∧ Below w2.heap.size w2 wr) (fun iv _ => P - (intOf iv).toNat)
   case atStart => exact ⟨0, Nat.zero_le _, rfl, unhide HR2, Below.refl _ _⟩
   case round =>
    clear HR2
    obtain ⟨i, hi, rfl, hR, hbe⟩ := hrel
    have hz := hbe.size
    have HBE := hide hbe
    have HR := hide hR
    clear hbe hR
    by_cases hlt : i < P
    · have hlt2 : i < es.length := by have := unhide HES; omega
      have hy := List.getElem?_eq_getElem hlt2
      have HDR := hide (Pg.first_drop (fun t : Pg.E => Pg.wx1 sz t.k t.n t.args.len) es i _ hy)
      have hl0 := (unhide HAT) i _ hy
      generalize es[i] = y at *
      obtain ⟨K, N, ad, l, cp⟩ := y
      have HDR2 := hide (show Pg.first ((es.drop i).map fun t => Pg.wx1 sz t.k t.n t.args.len) = if Pg.wx1 sz K N l = 0 then Pg.first ((es.drop (i + 1)).map fun t => Pg.wx1 sz t.k t.n t.args.len) else Pg.wx1 sz K N l from unhide HDR)
      clear HDR
      have HDR := hide (unhide HDR2)
      clear HDR2
      obtain ⟨p0, p1, p2⟩ := hl0.later (unhide HBE) (Nat.le_refl _) hgl
      clear hl0 hy
      have hi0 : (0 : Int) ≤ (i : Int) := by omega
      have hi1 : (i : Int) < (P : Int) := by omega
      have hP : P ≤ 15 := by omega
      have hal := (Below.refl wr.heap.size wr).alloc (Nat.le_refl _) (Obj.cells #[.int .i64 K, .int .i64 N, .slice ad l cp] 42)
      have HBA := hide ((unhide HBE).trans (hal.mono hz))
      clear hal
      go_wp2_with fail
      refine (ArgsOf_any K _).mono ?_
      rintro r w4 ⟨rfl, hb4⟩
      have c0 : w4.cell? ⟨wr.heap.size, 0, none⟩ = some (.int .i64 K) := (hb4.cell (p := ⟨wr.heap.size, 0, none⟩) (by simp)).trans (by simp)
      have c1 : w4.cell? ⟨wr.heap.size, 1, none⟩ = some (.int .i64 N) := (hb4.cell (p := ⟨wr.heap.size, 1, none⟩) (by simp)).trans (by simp)
      have c2 : w4.cell? ⟨wr.heap.size, 2, none⟩ = some (.slice ad l cp) := (hb4.cell (p := ⟨wr.heap.size, 2, none⟩) (by simp)).trans (by simp)
      have HB4 := hide ((unhide HBA).trans (hb4.mono (by have := (unhide HBA).size; exact this)))
      have HBF := hide ((unhide HB2).trans ((unhide HB4).mono (unhide HB2).size))
      have HBW := hide (unhide HBF)
      clear hb4 p0 p1 p2
      by_cases hK : 1 ≤ K ∧ K ≤ 10
      · rw [if_pos hK]
        have hA0 : ¬ ((Pg.argsN K : Nat) : Int) < 0 := by omega
        have HW1 := hide (show Pg.wx1 sz K N l = if l = Pg.argsN K then Pg.wx0 sz K N else 1 by unfold Pg.wx1; rw [if_pos hK])
        have hA2 : Pg.argsN K ≤ 2 := by unfold Pg.argsN; split <;> (try split) <;> omega
        by_cases hA : l = Pg.argsN K
        · have HX0 := hide (show Pg.wx1 sz K N l = Pg.wx0 sz K N by rw [unhide HW1, if_pos hA])
          have gA : ((l : Int) != ((Pg.argsN K : Nat) : Int)) = false := by rw [hA]; simp
          clear hA
          generalize Pg.argsN K = AN at *
          by_cases k1 : K = 1
          · subst k1
            by_cases hin : -9999999 ≤ N ∧ N ≤ 9999999
            · have HN := hide (show R = Pg.first ((es.drop (i + 1)).map fun t => Pg.wx1 sz t.k t.n t.args.len) by rw [unhide HR, unhide HDR, unhide HX0, Pg.wx0_num rfl, if_pos hin, if_pos rfl])
              have HD := hide (show decide (-9999999 ≤ N ∧ N ≤ 9999999) = true by simpa using hin)
              clear hin
              go_wp2_with fail
              refine (between_any _ _ _ _).mono ?_
              rintro r w5 ⟨rfl, hw5⟩
              subst hw5
              rw [unhide HD]
              go_wp2_with fail
              exact ⟨⟨i + 1, by omega, by go_num, unhide HN, unhide HB4⟩, by simp [intOf]; omega⟩
            · have HN := hide (show R = 3 by rw [unhide HR, unhide HDR, unhide HX0, Pg.wx0_num rfl, if_neg hin]; rfl)
              have HD := hide (show decide (-9999999 ≤ N ∧ N ≤ 9999999) = false by simpa using hin)
              clear hin
              go_wp2_with fail
              refine (between_any _ _ _ _).mono ?_
              rintro r w5 ⟨rfl, hw5⟩
              subst hw5
              rw [unhide HD]
              go_wp2_with fail
              go_ret
              exact ⟨ret_int (by rw [unhide HN]; rfl), unhide HBF⟩
          · by_cases k23 : K = 2 ∨ K = 3
            · clear k1 hK
              rcases k23 with hk | hk
              · skip
                subst hk
                have bt := between_any
                by_cases hin : 0 ≤ N ∧ N ≤ (sl : Int) - 1
                · obtain ⟨j, v, rfl, hjv, hat⟩ := Pg.at_lt (sz := sz) (n := N) (by have := unhide HLN; omega)
                  obtain ⟨b, o, had, hb, hcell⟩ := (unhide HSZ).at_ j v hjv
                  have hv0 := (unhide HNN) v (List.mem_of_getElem? hjv)
                  have d0 := ((unhide HBW).cell (p := ⟨b, o + j, none⟩) hb).trans hcell
                  have HD := hide (show decide (0 ≤ (j : Int) ∧ (j : Int) ≤ (sl : Int) - 1) = true by simpa using hin)
                  have hj1 : (0 : Int) ≤ (j : Int) := by omega
                  have hj2 : (j : Int) < (sl : Int) := by omega
                  have HAT2 := hide hat
                  clear hin hjv hcell hat
                  have had' : sa = some ⟨b, o, none⟩ := had
                  subst had'
                  by_cases hbad : v > 0
                  · have HV := hide (Pg.wx0_some (k := 2) (by omega) (unhide HAT2))
                    rw [if_neg (by omega)] at HV
                    have HN := hide (show R = 7 by rw [unhide HR, unhide HDR, unhide HX0, unhide HV]; rfl)
                    have gb : v > 0 := hbad
                    skip
                    go_wp2_with fail
                    refine (bt _ _ _ _).mono ?_
                    rintro r w5 ⟨rfl, hw5⟩
                    subst hw5
                    rw [unhide HD]
                    go_wp2_with fail
                    go_ret
                    exact ⟨ret_int (by rw [unhide HN]; rfl), unhide HBF⟩
                  · have HV := hide (Pg.wx0_some (k := 2) (by omega) (unhide HAT2))
                    rw [if_pos (by omega)] at HV
                    have HN := hide (show R = Pg.first ((es.drop (i + 1)).map fun t => Pg.wx1 sz t.k t.n t.args.len) by rw [unhide HR, unhide HDR, unhide HX0, unhide HV, if_pos rfl])
                    have gb : ¬ v > 0 := hbad
                    skip
                    go_wp2_with fail
                    refine (bt _ _ _ _).mono ?_
                    rintro r w5 ⟨rfl, hw5⟩
                    subst hw5
                    rw [unhide HD]
                    go_wp2_with fail
                    exact ⟨⟨i + 1, by omega, by go_num, unhide HN, unhide HB4⟩, by simp [intOf]; omega⟩
                · have HN := hide (show R = 5 by rw [unhide HR, unhide HDR, unhide HX0, Pg.wx0_none (by omega) (Pg.at_none (by have := unhide HLN; omega))]; rfl)
                  have HD := hide (show decide (0 ≤ N ∧ N ≤ (sl : Int) - 1) = false by simpa using hin)
                  clear hin
                  go_wp2_with fail
                  refine (bt _ _ _ _).mono ?_
                  rintro r w5 ⟨rfl, hw5⟩
                  subst hw5
                  rw [unhide HD]
                  go_wp2_with fail
                  go_ret
                  exact ⟨ret_int (by rw [unhide HN]; rfl), unhide HBF⟩
              · skip
                subst hk
                have bt := between_any
                by_cases hin : 0 ≤ N ∧ N ≤ (sl : Int) - 1
                · obtain ⟨j, v, rfl, hjv, hat⟩ := Pg.at_lt (sz := sz) (n := N) (by have := unhide HLN; omega)
                  obtain ⟨b, o, had, hb, hcell⟩ := (unhide HSZ).at_ j v hjv
                  have hv0 := (unhide HNN) v (List.mem_of_getElem? hjv)
                  have d0 := ((unhide HBW).cell (p := ⟨b, o + j, none⟩) hb).trans hcell
                  have HD := hide (show decide (0 ≤ (j : Int) ∧ (j : Int) ≤ (sl : Int) - 1) = true by simpa using hin)
                  have hj1 : (0 : Int) ≤ (j : Int) := by omega
                  have hj2 : (j : Int) < (sl : Int) := by omega
                  have HAT2 := hide hat
                  clear hin hjv hcell hat
                  have had' : sa = some ⟨b, o, none⟩ := had
                  subst had'
                  by_cases hbad : v = 0
                  · have HV := hide (Pg.wx0_some (k := 3) (by omega) (unhide HAT2))
                    rw [if_neg (by omega)] at HV
                    have HN := hide (show R = 7 by rw [unhide HR, unhide HDR, unhide HX0, unhide HV]; rfl)
                    have gb : (v == 0) = true := by simpa using hbad
                    clear hbad
                    go_wp2_with fail
                    refine (bt _ _ _ _).mono ?_
                    rintro r w5 ⟨rfl, hw5⟩
                    subst hw5
                    rw [unhide HD]
                    go_wp2_with fail
                    go_ret
                    exact ⟨ret_int (by rw [unhide HN]; rfl), unhide HBF⟩
                  · have HV := hide (Pg.wx0_some (k := 3) (by omega) (unhide HAT2))
                    rw [if_pos (by omega)] at HV
                    have HN := hide (show R = Pg.first ((es.drop (i + 1)).map fun t => Pg.wx1 sz t.k t.n t.args.len) by rw [unhide HR, unhide HDR, unhide HX0, unhide HV, if_pos rfl])
                    have gb : (v == 0) = false := by simpa using hbad
                    clear hbad
                    go_wp2_with fail
                    refine (bt _ _ _ _).mono ?_
                    rintro r w5 ⟨rfl, hw5⟩
                    subst hw5
                    rw [unhide HD]
                    go_wp2_with fail
                    exact ⟨⟨i + 1, by omega, by go_num, unhide HN, unhide HB4⟩, by simp [intOf]; omega⟩
                · have HN := hide (show R = 5 by rw [unhide HR, unhide HDR, unhide HX0, Pg.wx0_none (by omega) (Pg.at_none (by have := unhide HLN; omega))]; rfl)
                  have HD := hide (show decide (0 ≤ N ∧ N ≤ (sl : Int) - 1) = false by simpa using hin)
                  clear hin
                  go_wp2_with fail
                  refine (bt _ _ _ _).mono ?_
                  rintro r w5 ⟨rfl, hw5⟩
                  subst hw5
                  rw [unhide HD]
                  go_wp2_with fail
                  go_ret
                  exact ⟨ret_int (by rw [unhide HN]; rfl), unhide HBF⟩
            · have g1 : (K == 1) = false := by simpa using k1
              have g3 : ¬ K ≤ 3 := by omega
              have HX2 := hide (show Pg.wx1 sz K N l = if N = 0 then 0 else 3 by rw [unhide HX0, Pg.wx0_op k1 k23])
              clear k1 k23 hK
              by_cases hN : N = 0
              · have HN := hide (show R = Pg.first ((es.drop (i + 1)).map fun t => Pg.wx1 sz t.k t.n t.args.len) by rw [unhide HR, unhide HDR, unhide HX2, if_pos hN, if_pos rfl])
                have gN : (N != 0) = false := by simp [hN]
                clear hN
                go_wp2_with fail
                exact ⟨⟨i + 1, by omega, by go_num, unhide HN, unhide HB4⟩, by simp [intOf]; omega⟩
              · have HN := hide (show R = 3 by rw [unhide HR, unhide HDR, unhide HX2, if_neg hN]; rfl)
                have gN : (N != 0) = true := by simpa using hN
                clear hN
                go_wp2_with fail
                go_ret
                exact ⟨ret_int (by rw [unhide HN]; rfl), unhide HBF⟩
        · have HN := hide (show R = 1 by rw [unhide HR, unhide HDR, unhide HW1, if_neg hA]; rfl)
          have gA : ((l : Int) != ((Pg.argsN K : Nat) : Int)) = true := by simp; omega
          clear hA
          generalize Pg.argsN K = AN at *
          go_wp2_with fail
          go_ret
          exact ⟨ret_int (by rw [unhide HN]; rfl), unhide HBF⟩
      · rw [if_neg hK]
        have HN := hide (show R = 7 by rw [unhide HR, unhide HDR]; unfold Pg.wx1; rw [if_neg hK]; rfl)
        clear hK
        go_wp2_with fail
        go_ret
        exact ⟨ret_int (by rw [unhide HN]; rfl), unhide HBF⟩
    · have HN := hide (show R = 0 by
       rw [unhide HR, List.drop_of_length_le (by have := unhide HES; omega)]; rfl)
      have HBF := hide ((unhide HB2).trans ((unhide HBE).mono (unhide HB2).size))
      go_wp2_with fail
      go_ret
      exact ⟨ret_int (by rw [unhide HN]; rfl), unhide HBF⟩
end Go.Proofs.Ytpfogjplnodacaa
namespace Go.Proofs.Ytpfogjplnodacaa
open Go.RowKit
set_option linter.unusedVariables false
structure Pg.YB (q : Value) (fv xv : List Value) (bp bx : Nat) (V : World) : Prop where
 p0 : V.cell? ⟨bp, 0, none⟩ = some q
 f : ∀ i v, fv[i]? = some v → V.cell? ⟨bp + 1, i, none⟩ = some v
 x : ∀ i v, xv[i]? = some v → V.cell? ⟨bx, i, none⟩ = some v
 lp : bp + 1 < V.heap.size
 lx : bx < V.heap.size
theorem Pg.YB.later {q : Value} {fv xv : List Value} {bp bx : Nat} {V V' : World} (h : Pg.YB q fv xv bp bx V) (hb : Below V.heap.size V V') : Pg.YB q fv xv bp bx V' :=
 ⟨(hb.cell (p := ⟨bp, 0, none⟩) (by have := h.lp; show bp < _; omega)).trans h.p0, fun i v hv => (hb.cell (p := ⟨bp + 1, i, none⟩) h.lp).trans (h.f i v hv), fun i v hv => (hb.cell (p := ⟨bx, i, none⟩) h.lx).trans (h.x i v hv), Nat.lt_of_lt_of_le h.lp hb.size, Nat.lt_of_lt_of_le h.lx hb.size⟩
theorem Pg.wc_out {k : Int} {va : Option Int} {my mo pa : Bool} {wi we wa : Nat} (h : ¬ (1 ≤ k ∧ k ≤ 7)) : Pg.wc k va my mo pa wi we wa = 7 := if_pos h
theorem Pg.wc_none {k : Int} {va : Option Int} {my mo pa : Bool} {wi we wa : Nat} (hk : 1 ≤ k ∧ k ≤ 7) (h : (decide (k ≤ 4) && !va.isSome || decide (k = 3) && !my) = true) : Pg.wc k va my mo pa wi we wa = 5 := by
 unfold Pg.wc
 rw [if_neg (fun h => h hk)]
 simp only [Bool.or_eq_true, Bool.and_eq_true, decide_eq_true_eq, Bool.not_eq_true', Option.isSome_eq_false_iff, Option.isNone_iff_eq_none] at h
 by_cases h1 : k ≤ 4 ∧ va = none
 · rw [if_pos h1]
 · rw [if_neg h1]
   rcases h with h | h
   · exact absurd h h1
   · rw [if_pos h]
theorem Pg.wc_some {k : Int} {va : Option Int} {my mo pa : Bool} {wi we wa : Nat} (hk : 1 ≤ k ∧ k ≤ 7) (h : (decide (k ≤ 4) && !va.isSome || decide (k = 3) && !my) = false) : Pg.wc k va my mo pa wi we wa = (if k ≤ 4 ∧ ¬ (va.getD 0 ≠ 0 ↔ k = 2) then 7 else if mo = true then 1 else if k = 3 ∧ pa = false then 1 else Pg.orW (if k = 2 then wi else 0) (Pg.orW (if k = 3 ∨ k = 4 then 0 else we) wa)) ∧ (k ≤ 4 → ∃ z, va = some z) ∧ (k = 3 → my = true) := by
 unfold Pg.wc
 rw [if_neg (fun h => h hk)]
 rw [Bool.or_eq_false_iff, Bool.and_eq_false_iff, Bool.and_eq_false_iff] at h
 obtain ⟨h1, h2⟩ := h
 have a1 : ¬ (k ≤ 4 ∧ va = none) := by
  rintro ⟨a, b⟩
  rw [b] at h1
  rcases h1 with h1 | h1
  · simp at h1; omega
  · simp at h1
 have a2 : ¬ (k = 3 ∧ my = false) := by
  rintro ⟨a, b⟩
  rw [b] at h2
  rcases h2 with h2 | h2
  · simp at h2; omega
  · simp at h2
 rw [if_neg a1, if_neg a2]
 refine ⟨rfl, fun h4 => ?_, fun h3 => ?_⟩
 · cases hv : va with
   | none => exact absurd ⟨h4, hv⟩ a1
   | some z => exact ⟨z, rfl⟩
 · cases hm : my with
   | false => exact absurd ⟨h3, hm⟩ a2
   | true => rfl
structure Ck.Fm (T : Array Value) (calls : Int) (ad : Option Addr) (tl tcap bp : Nat) (i : Int) (bx : Nat) (ck : Int) : Prop where
 size : T.size = 226
 s2 : T[2]? = some (.int .i64 calls)
 s3 : T[3]? = some (.slice ad tl tcap)
 s4 : T[4]? = some (.pointer (some ⟨bp, 0, none⟩))
 s5 : T[5]? = some (.pointer (some ⟨bp + 1, 0, none⟩))
 s9 : T[9]? = some (.int .i64 i)
 s10 : T[10]? = some (.pointer (some ⟨bx, 0, none⟩))
 s11 : T[11]? = some (.int .i64 ck)
theorem Ck.Fm.kp {T T' : Array Value} {calls : Int} {ad : Option Addr} {tl tcap bp : Nat} {i : Int} {bx : Nat} {ck : Int} (h : Ck.Fm T calls ad tl tcap bp i bx ck) (k : Fq.Kp 12 T T') : Ck.Fm T' calls ad tl tcap bp i bx ck :=
 ⟨k.size.trans h.size, (k.at_ 2 (by omega)).trans h.s2, (k.at_ 3 (by omega)).trans h.s3, (k.at_ 4 (by omega)).trans h.s4, (k.at_ 5 (by omega)).trans h.s5, (k.at_ 9 (by omega)).trans h.s9, (k.at_ 10 (by omega)).trans h.s10, (k.at_ 11 (by omega)).trans h.s11⟩
section
variable {T : Array Value} {w : World} {Q : Exit → Act → World → Prop} {qa ad sa fa ra ia ea aa ta la : Option Addr} {ql qc tl tcap sl sc fl fc rl rc il ic el ec na ac nt tc ne lc bp bx : Nat} {calls i ck cv cf ik inn ek en fp rk rn : Int}
theorem ck_r8 (hF : Ck.Fm T calls ad tl tcap bp i bx ck) (hY : Pg.YB (.slice qa ql qc) [.int .i64 fp, .slice sa sl sc, .slice fa fl fc, .int .i64 rk, .int .i64 rn, .slice ra rl rc] [.int .i64 ck, .int .i64 cv, .int .i64 cf, .int .i64 ik, .int .i64 inn, .slice ia il ic, .int .i64 ek, .int .i64 en, .slice ea el ec, .slice aa na ac, .slice ta nt tc, .slice la ne lc] bp bx w) {vb my VB : Bool} (hsl : sl ≤ 35184372088832) (hc0 : 0 ≤ calls) (hc6 : calls ≤ 1000) (hvb : decide (0 ≤ cv ∧ cv ≤ (sl : Int) - 1) = vb) (hmy : decide (0 ≤ cf ∧ cf ≤ calls - 1) = my) (hVB : VB = (decide (ck ≤ 4) && !vb || decide (ck = 3) && !my))
  (hQ : ∀ T', (Fq.Kp 14 T T' ∧ T'[52]? = some (.bool VB)) → Q .normal ⟨T', []⟩ w) : (Fq.reg Try.f13 8).wp Try.prog Q ⟨T, []⟩ w := by
 obtain ⟨hT, s2, s3, s4, s5, s9, s10, s11⟩ := hF
 have x0 := hY.x 0 _ rfl
 have x1 := hY.x 1 _ rfl
 have x2 := hY.x 2 _ rfl
 have x3 := hY.x 3 _ rfl
 have x4 := hY.x 4 _ rfl
 have x5 := hY.x 5 _ rfl
 have x6 := hY.x 6 _ rfl
 have x7 := hY.x 7 _ rfl
 have x8 := hY.x 8 _ rfl
 have x9 := hY.x 9 _ rfl
 have x10 := hY.x 10 _ rfl
 have x11 := hY.x 11 _ rfl
 have f0 := hY.f 0 _ rfl
 have f1 := hY.f 1 _ rfl
 have f2 := hY.f 2 _ rfl
 have f3 := hY.f 3 _ rfl
 have f4 := hY.f 4 _ rfl
 have f5 := hY.f 5 _ rfl
 have p0 := hY.p0
 clear hY
 have a2 := fun h => Fq.el s2 h
 have d2 := Fq.gd s2
 have a3 := fun h => Fq.el s3 h
 have d3 := Fq.gd s3
 have a4 := fun h => Fq.el s4 h
 have d4 := Fq.gd s4
 have a5 := fun h => Fq.el s5 h
 have d5 := Fq.gd s5
 have a9 := fun h => Fq.el s9 h
 have d9 := Fq.gd s9
 have a10 := fun h => Fq.el s10 h
 have d10 := Fq.gd s10
 have a11 := fun h => Fq.el s11 h
 have d11 := Fq.gd s11
 have hu : undef = Value.tuple #[] := rfl
 have HQ := hide hQ
 clear hQ
 conv => arg 2; whnf
 have H1 := hide (between_any cv 0 ((sl : Int) - 1) w)
 rw [hvb] at H1
 have H2 := hide (between_any cf 0 (calls - 1) w)
 rw [hmy] at H2
 clear hvb hmy
 by_cases h4 : ck ≤ 4
 · by_cases h3 : ck = 3
   · have b3 : (ck == 3) = true := by simp [h3]
     cases vb
     · have hV3 := hide (show VB = true by rw [hVB, decide_eq_true h4]; rfl)
       clear h3 hVB
       go_wp2_with (with_reducible refine (Calls.mono (unhide H1) ?_); rintro r w2 ⟨rfl, hw2⟩; have hw3 := hw2.symm; clear hw2; subst hw3)
       exact (unhide HQ) _ ⟨(by (repeat (with_reducible refine Fq.Kp.set ?_ (by decide) _)); with_reducible exact Fq.Kp.refl _ _), (Fq.set_at _ (by simp [hT]) _).trans (by rw [unhide hV3] <;> rfl)⟩
     · have hV3 := hide (show VB = !my by rw [hVB, decide_eq_true h4, decide_eq_true h3]; rfl)
       clear h3 hVB
       go_wp2_with (first | (with_reducible refine (Calls.mono (unhide H1) ?_); rintro r w2 ⟨rfl, hw2⟩; have hw3 := hw2.symm; clear hw2; subst hw3) | (with_reducible refine (Calls.mono (unhide H2) ?_); rintro r w2 ⟨rfl, hw2⟩; have hw3 := hw2.symm; clear hw2; subst hw3))
       exact (unhide HQ) _ ⟨(by (repeat (with_reducible refine Fq.Kp.set ?_ (by decide) _)); with_reducible exact Fq.Kp.refl _ _), (Fq.set_at _ (by simp [hT]) _).trans (by rw [unhide hV3] <;> rfl)⟩
   · have b3 : (ck == 3) = false := by simpa using h3
     have hV3 := hide (show VB = !vb by rw [hVB, decide_eq_true h4, decide_eq_false h3]; cases vb <;> rfl)
     clear hVB
     cases vb
     · go_wp2_with (with_reducible refine (Calls.mono (unhide H1) ?_); rintro r w2 ⟨rfl, hw2⟩; have hw3 := hw2.symm; clear hw2; subst hw3)
       exact (unhide HQ) _ ⟨(by (repeat (with_reducible refine Fq.Kp.set ?_ (by decide) _)); with_reducible exact Fq.Kp.refl _ _), (Fq.set_at _ (by simp [hT]) _).trans (by rw [unhide hV3] <;> rfl)⟩
     · go_wp2_with (with_reducible refine (Calls.mono (unhide H1) ?_); rintro r w2 ⟨rfl, hw2⟩; have hw3 := hw2.symm; clear hw2; subst hw3)
       exact (unhide HQ) _ ⟨(by (repeat (with_reducible refine Fq.Kp.set ?_ (by decide) _)); with_reducible exact Fq.Kp.refl _ _), (Fq.set_at _ (by simp [hT]) _).trans (by rw [unhide hV3] <;> rfl)⟩
 · have b3 : (ck == 3) = false := by simp; omega
   have hV3 := hide (show VB = false by rw [hVB, decide_eq_false h4, decide_eq_false (by omega)]; rfl)
   clear hVB
   go_wp2_with fail
   exact (unhide HQ) _ ⟨(by (repeat (with_reducible refine Fq.Kp.set ?_ (by decide) _)); with_reducible exact Fq.Kp.refl _ _), (Fq.set_at _ (by simp [hT]) _).trans (by rw [unhide hV3] <;> rfl)⟩
theorem ck_r10 (hF : Ck.Fm T calls ad tl tcap bp i bx ck) (hY : Pg.YB (.slice qa ql qc) [.int .i64 fp, .slice sa sl sc, .slice fa fl fc, .int .i64 rk, .int .i64 rn, .slice ra rl rc] [.int .i64 ck, .int .i64 cv, .int .i64 cf, .int .i64 ik, .int .i64 inn, .slice ia il ic, .int .i64 ek, .int .i64 en, .slice ea el ec, .slice aa na ac, .slice ta nt tc, .slice la ne lc] bp bx w) {va : Option Int} {VC : Bool} (hsl : sl ≤ 35184372088832) (hva : ck ≤ 4 → ∃ (z : Int) (k b o : Nat), va = some z ∧ cv = k ∧ k < sl ∧ 0 ≤ z ∧ sa = some ⟨b, o, none⟩ ∧ w.cell? ⟨b, o + k, none⟩ = some (.int .i64 z)) (hVC : VC = (decide (ck ≤ 4) && decide (¬ (va.getD 0 ≠ 0 ↔ ck = 2))))
  (hQ : ∀ T', (Fq.Kp 14 T T' ∧ T'[80]? = some (.bool VC)) → Q .normal ⟨T', []⟩ w) : (Fq.reg Try.f13 10).wp Try.prog Q ⟨T, []⟩ w := by
 obtain ⟨hT, s2, s3, s4, s5, s9, s10, s11⟩ := hF
 have x0 := hY.x 0 _ rfl
 have x1 := hY.x 1 _ rfl
 have x2 := hY.x 2 _ rfl
 have x3 := hY.x 3 _ rfl
 have x4 := hY.x 4 _ rfl
 have x5 := hY.x 5 _ rfl
 have x6 := hY.x 6 _ rfl
 have x7 := hY.x 7 _ rfl
 have x8 := hY.x 8 _ rfl
 have x9 := hY.x 9 _ rfl
 have x10 := hY.x 10 _ rfl
 have x11 := hY.x 11 _ rfl
 have f0 := hY.f 0 _ rfl
 have f1 := hY.f 1 _ rfl
 have f2 := hY.f 2 _ rfl
 have f3 := hY.f 3 _ rfl
 have f4 := hY.f 4 _ rfl
 have f5 := hY.f 5 _ rfl
 have p0 := hY.p0
 clear hY
 have a2 := fun h => Fq.el s2 h
 have d2 := Fq.gd s2
 have a3 := fun h => Fq.el s3 h
 have d3 := Fq.gd s3
 have a4 := fun h => Fq.el s4 h
 have d4 := Fq.gd s4
 have a5 := fun h => Fq.el s5 h
 have d5 := Fq.gd s5
 have a9 := fun h => Fq.el s9 h
 have d9 := Fq.gd s9
 have a10 := fun h => Fq.el s10 h
 have d10 := Fq.gd s10
 have a11 := fun h => Fq.el s11 h
 have d11 := Fq.gd s11
 have hu : undef = Value.tuple #[] := rfl
 have HQ := hide hQ
 clear hQ
 conv => arg 2; whnf
 by_cases h4 : ck ≤ 4
 · obtain ⟨z, k, bz, oz, hz, hck, hkl, hz0, hsa, hcz⟩ := hva h4
   have HV2 := hide (show VC = decide (¬ (z ≠ 0 ↔ ck = 2)) by rw [hVC, decide_eq_true h4, hz]; rfl)
   rw [hck] at x1
   rw [hsa] at f1
   have k0 : (0 : Int) ≤ (k : Int) := by omega
   have k1 : (k : Int) < (sl : Int) := by omega
   clear hz hVC hva hck hsa
   by_cases h2 : ck = 2
   · have b2 : (ck == 2) = true := by simp [h2]
     have b2n : (ck != 2) = false := by simp [h2]
     by_cases hzz : z = 0
     · have hV3 := hide (show VC = true by rw [unhide HV2]; simp [hzz, h2])
       subst hzz
       clear h2
       go_wp2_with fail
       exact (unhide HQ) _ ⟨(by (repeat (with_reducible refine Fq.Kp.set ?_ (by decide) _)); with_reducible exact Fq.Kp.refl _ _), (Fq.set_at _ (by simp [hT]) _).trans (by rw [unhide hV3] <;> rfl)⟩
     · have hV3 := hide (show VC = false by rw [unhide HV2]; simp [hzz, h2])
       have bz0 : (z == 0) = false := by simpa using hzz
       have hzp : 0 < z := by omega
       clear h2 hzz
       go_wp2_with fail
       exact (unhide HQ) _ ⟨(by (repeat (with_reducible refine Fq.Kp.set ?_ (by decide) _)); with_reducible exact Fq.Kp.refl _ _), (Fq.set_at _ (by simp [hT]) _).trans (by rw [unhide hV3] <;> rfl)⟩
   · have b2 : (ck == 2) = false := by simpa using h2
     have b2n : (ck != 2) = true := by simpa using h2
     by_cases hzz : z = 0
     · have hV3 := hide (show VC = false by rw [unhide HV2]; simp [hzz, h2])
       subst hzz
       clear h2
       go_wp2_with fail
       exact (unhide HQ) _ ⟨(by (repeat (with_reducible refine Fq.Kp.set ?_ (by decide) _)); with_reducible exact Fq.Kp.refl _ _), (Fq.set_at _ (by simp [hT]) _).trans (by rw [unhide hV3] <;> rfl)⟩
     · have hV3 := hide (show VC = true by rw [unhide HV2]; simp [hzz, h2])
       have bz0 : (z == 0) = false := by simpa using hzz
       have hzp : 0 < z := by omega
       clear h2 hzz
       go_wp2_with fail
       exact (unhide HQ) _ ⟨(by (repeat (with_reducible refine Fq.Kp.set ?_ (by decide) _)); with_reducible exact Fq.Kp.refl _ _), (Fq.set_at _ (by simp [hT]) _).trans (by rw [unhide hV3] <;> rfl)⟩
 · have hV3 := hide (show VC = false by rw [hVC, decide_eq_false h4]; rfl)
   clear hVC hva
   go_wp2_with fail
   exact (unhide HQ) _ ⟨(by (repeat (with_reducible refine Fq.Kp.set ?_ (by decide) _)); with_reducible exact Fq.Kp.refl _ _), (Fq.set_at _ (by simp [hT]) _).trans (by rw [unhide hV3] <;> rfl)⟩
end
end Go.Proofs.Ytpfogjplnodacaa
namespace Go.Proofs.Ytpfogjplnodacaa
open Go.RowKit
set_option linter.unusedVariables false
def Fq.findB (n : Nat) : Code → Option Code
 | .seq a b => match Fq.findB n a with | some c => some c | none => Fq.findB n b
 | .cond _ a b => match Fq.findB n a with | some c => some c | none => Fq.findB n b
 | .block id a => if Nat.beq id n then some a else Fq.findB n a
 | .loop a => Fq.findB n a
 | _ => none
def Fq.blk (F : Func) (n : Nat) : Code := (Fq.findB n (F.body.getD .skip)).getD .skip
def Fq.N (K : Act → World → Prop) : Exit → Act → World → Prop
 | .normal, a, w => K a w
 | _, _, _ => False
theorem Fq.norm {P : Program} {Q : Exit → Act → World → Prop} {a : Act} {w : World} {x : Code} (K : Array Value → World → Prop) (hQ : ∀ T' v, K T' v → Q .normal ⟨T', []⟩ v) (h : x.wp P (Fq.N fun a v => a.defers = [] ∧ K a.tmps v) a w) : x.wp P Q a w :=
 Code.wp_mono (Q := Fq.N fun a v => a.defers = [] ∧ K a.tmps v) (fun e a v h => by
  cases e with
  | normal =>
   obtain ⟨T', ds⟩ := a
   obtain ⟨h1, h2⟩ := h
   have h1' : ds = [] := h1
   subst h1'
   exact hQ T' v h2
  | _ => exact False.elim h) h
section
variable {P : Program} {Q : Exit → Act → World → Prop} {K : Act → World → Prop} {a : Act} {w : World} {T : Array Value}
theorem Fq.fr {T2 : Array Value} {x : Code} (h : T = T2) (hw : x.wp P Q ⟨T2, []⟩ w) : x.wp P Q ⟨T, []⟩ w := h ▸ hw
theorem Fq.at_ (F : Func) (n : Nat) {c : Code} (h : Fq.reg F n = c) (hw : (Fq.reg F n).wp P Q a w) : c.wp P Q a w := h ▸ hw
theorem Fq.in_ (F : Func) (n : Nat) {c : Code} (h : Fq.blk F n = c) (hw : (Fq.blk F n).wp P Q a w) : c.wp P Q a w := h ▸ hw
theorem Fq.cut {x y : Code} (I : Array Value → World → Prop) (h1 : ∀ Q' : Exit → Act → World → Prop, (∀ T' v, I T' v → Q' .normal ⟨T', []⟩ v) → x.wp P Q' ⟨T, []⟩ w) (h2 : ∀ T' v, I T' v → y.wp P Q ⟨T', []⟩ v) : (Code.seq x y).wp P Q ⟨T, []⟩ w :=
 wp_seq (h1 _ (fun T' v h => h2 T' v h))
theorem Fq.cutR {x y : Code} (I J : Array Value → World → Prop) (h1 : ∀ Q' : Exit → Act → World → Prop, (∀ T' v, I T' v → Q' .normal ⟨T', []⟩ v) → (∀ T' v, J T' v → Q' .ret ⟨T', []⟩ v) → x.wp P Q' ⟨T, []⟩ w) (h3 : ∀ T' v, J T' v → Q .ret ⟨T', []⟩ v) (h2 : ∀ T' v, I T' v → y.wp P Q ⟨T', []⟩ v) : (Code.seq x y).wp P Q ⟨T, []⟩ w :=
 wp_seq (h1 _ (fun T' v h => h2 T' v h) (fun T' v h => h3 T' v h))
theorem Fq.ok (h : K a w) : Exit.then K Q .normal a w := h
theorem Fq.thR (h : Q .ret a w) : Exit.then K Q .ret a w := h
theorem Fq.blR {id : Nat} (h : Q .ret a w) : Exit.inBlock id Q .ret a w := h
theorem Fq.blN {id : Nat} (h : Q .normal a w) : Exit.inBlock id Q .normal a w := h
theorem Fq.thX {k : Nat} (h : Q (.exit k) a w) : Exit.then K Q (.exit k) a w := h
theorem Fq.blX {id : Nat} (h : Q .normal a w) : Exit.inBlock id Q (.exit id) a w := by
 show if id = id then Q .normal a w else Q (.exit id) a w
 rw [if_pos rfl]
 exact h
theorem Fq.blY {id k : Nat} (hk : k ≠ id) (h : Q (.exit k) a w) : Exit.inBlock id Q (.exit k) a w := by
 show if k = id then Q .normal a w else Q (.exit k) a w
 rw [if_neg hk]
 exact h
theorem Fq.skip (h : Q .normal a w) : Code.skip.wp P Q a w := wp_skip h
theorem Fq.ret {fn : Func} {R : Ending → World → Prop} {t : Nat} {v : Value} (hr : fn.results = #[.tmp t]) (ht : T[t]? = some v) (hR : R (.returned v) w) : bodyPost P fn R .ret ⟨T, []⟩ w :=
 bodyPost_ret (v := v) (by rw [results_tmp hr]; congr 1; exact Fq.gd ht) rfl hR
theorem Fq.cond (k : Nat) {x y : Code} {b : Bool} (h : T[k]? = some (.bool b)) (hx : b = true → x.wp P Q ⟨T, []⟩ w) (hy : b = false → y.wp P Q ⟨T, []⟩ w) : (Code.cond (.tmp k) x y).wp P Q ⟨T, []⟩ w := by
 cases b with
 | true => exact Fq.cond_true h (hx rfl)
 | false => exact Fq.cond_false h (hy rfl)
end
end Go.Proofs.Ytpfogjplnodacaa
namespace Go.Proofs.Ytpfogjplnodacaa
open Go.RowKit
set_option linter.unusedVariables false
section
variable {T : Array Value} {w : World} {Q : Exit → Act → World → Prop} {qa ad sa fa ra ia ea aa ta la : Option Addr} {ql qc tl tcap sl sc fl fc rl rc il ic el ec na ac nt tc ne lc bp bx : Nat} {calls ck cv cf ik inn ek en fp rk rn : Int}
theorem ck_r0 (hT : T.size = 226) (s0 : T[0]? = some (.agg #[.slice qa ql qc])) (s1 : T[1]? = some (.agg #[.int .i64 fp, .slice sa sl sc, .slice fa fl fc, .int .i64 rk, .int .i64 rn, .slice ra rl rc]))
  (hQ : ∀ T', (Fq.Kp 4 T T' ∧ T'[4]? = some (.pointer (some ⟨w.heap.size, 0, none⟩)) ∧ T'[5]? = some (.pointer (some ⟨w.heap.size + 1, 0, none⟩))) → Q .normal ⟨T', []⟩ ((w.alloc (Obj.cells #[.slice qa ql qc] 29)).alloc (Obj.cells #[.int .i64 fp, .slice sa sl sc, .slice fa fl fc, .int .i64 rk, .int .i64 rn, .slice ra rl rc] 44))) : (Fq.reg Try.f13 0).wp Try.prog Q ⟨T, []⟩ w := by
 have a0 := fun h => Fq.el s0 h
 have d0 := Fq.gd s0
 have a1 := fun h => Fq.el s1 h
 have d1 := Fq.gd s1
 have hu : undef = Value.tuple #[] := rfl
 have HQ := hide hQ
 clear hQ
 conv => arg 2; whnf
 go_wp2_with fail
 exact (unhide HQ) _ ⟨(by (repeat (with_reducible refine Fq.Kp.set ?_ (by decide) _)); with_reducible exact Fq.Kp.refl _ _), by simp [hT], by simp [hT]⟩
theorem ck_r1 (hT : T.size = 226)
  (hQ : ∀ T', (Fq.Kp 9 T T' ∧ T'[9]? = some (.int .i64 0)) → Q .normal ⟨T', []⟩ (w)) : (Fq.reg Try.f13 1).wp Try.prog Q ⟨T, []⟩ w := by
 have hu : undef = Value.tuple #[] := rfl
 have HQ := hide hQ
 clear hQ
 conv => arg 2; whnf
 go_wp2_with fail
 exact (unhide HQ) _ ⟨(by (repeat (with_reducible refine Fq.Kp.set ?_ (by decide) _)); with_reducible exact Fq.Kp.refl _ _), Fq.set_at _ (by simp [hT]) _⟩
theorem ck_r2 {i : Nat} {VB : Bool} (hT : T.size = 226) (s3 : T[3]? = some (.slice ad tl tcap)) (s9 : T[9]? = some (.int .i64 (i : Nat))) (htl : tl ≤ 35184372088832) (hVB : decide ((i : Int) < (tl : Int)) = VB)
  (hQ : ∀ T', (Fq.Kp 14 T T' ∧ T'[17]? = some (.bool VB)) → Q .normal ⟨T', []⟩ (w)) : (Fq.reg Try.f13 2).wp Try.prog Q ⟨T, []⟩ w := by
 have a3 := fun h => Fq.el s3 h
 have d3 := Fq.gd s3
 have a9 := fun h => Fq.el s9 h
 have d9 := Fq.gd s9
 have hu : undef = Value.tuple #[] := rfl
 have HQ := hide hQ
 clear hQ
 conv => arg 2; whnf
 cases VB
 · have hlt : ¬ (i : Int) < (tl : Int) := of_decide_eq_false hVB
   clear hVB
   go_wp2_with fail
   exact (unhide HQ) _ ⟨(by (repeat (with_reducible refine Fq.Kp.set ?_ (by decide) _)); with_reducible exact Fq.Kp.refl _ _), Fq.set_at _ (by simp [hT]) _⟩
 · have hlt : (i : Int) < (tl : Int) := of_decide_eq_true hVB
   clear hVB
   go_wp2_with fail
   exact (unhide HQ) _ ⟨(by (repeat (with_reducible refine Fq.Kp.set ?_ (by decide) _)); with_reducible exact Fq.Kp.refl _ _), Fq.set_at _ (by simp [hT]) _⟩
theorem ck_r4 {i b o : Nat} (hT : T.size = 226) (s3 : T[3]? = some (.slice (some ⟨b, o, none⟩) tl tcap)) (s9 : T[9]? = some (.int .i64 (i : Nat))) (hi : i < tl) (htl : tl ≤ 35184372088832) (e0 : w.cell? ⟨b, o + i * 12, none⟩ = some (.int .i64 ck)) (e1 : w.cell? ⟨b, o + i * 12 + 1, none⟩ = some (.int .i64 cv)) (e2 : w.cell? ⟨b, o + i * 12 + 2, none⟩ = some (.int .i64 cf)) (e3 : w.cell? ⟨b, o + i * 12 + 3, none⟩ = some (.int .i64 ik)) (e4 : w.cell? ⟨b, o + i * 12 + 4, none⟩ = some (.int .i64 inn)) (e5 : w.cell? ⟨b, o + i * 12 + 5, none⟩ = some (.slice ia il ic)) (e6 : w.cell? ⟨b, o + i * 12 + 6, none⟩ = some (.int .i64 ek)) (e7 : w.cell? ⟨b, o + i * 12 + 7, none⟩ = some (.int .i64 en)) (e8 : w.cell? ⟨b, o + i * 12 + 8, none⟩ = some (.slice ea el ec)) (e9 : w.cell? ⟨b, o + i * 12 + 9, none⟩ = some (.slice aa na ac)) (e10 : w.cell? ⟨b, o + i * 12 + 10, none⟩ = some (.slice ta nt tc)) (e11 : w.cell? ⟨b, o + i * 12 + 11, none⟩ = some (.slice la ne lc))
  (hQ : ∀ T', (Fq.Kp 10 T T' ∧ T'[10]? = some (.pointer (some ⟨w.heap.size, 0, none⟩))) → Q .normal ⟨T', []⟩ (w.alloc (Obj.cells #[.int .i64 ck, .int .i64 cv, .int .i64 cf, .int .i64 ik, .int .i64 inn, .slice ia il ic, .int .i64 ek, .int .i64 en, .slice ea el ec, .slice aa na ac, .slice ta nt tc, .slice la ne lc] 70))) : (Fq.reg Try.f13 4).wp Try.prog Q ⟨T, []⟩ w := by
 have a3 := fun h => Fq.el s3 h
 have d3 := Fq.gd s3
 have a9 := fun h => Fq.el s9 h
 have d9 := Fq.gd s9
 have hu : undef = Value.tuple #[] := rfl
 have HQ := hide hQ
 clear hQ
 conv => arg 2; whnf
 have hi0 : (0 : Int) ≤ (i : Int) := by omega
 have hi1 : (i : Int) < (tl : Int) := by omega
 go_wp2_with fail
 exact (unhide HQ) _ ⟨(by (repeat (with_reducible refine Fq.Kp.set ?_ (by decide) _)); with_reducible exact Fq.Kp.refl _ _), Fq.set_at _ (by simp [hT]) _⟩
theorem ck_r5 (hT : T.size = 226) (s10 : T[10]? = some (.pointer (some ⟨bx, 0, none⟩))) (x0 : w.cell? ⟨bx, 0, none⟩ = some (.int .i64 ck))
  (hQ : ∀ T', (Fq.Kp 11 T T' ∧ T'[11]? = some (.int .i64 ck)) → Q .normal ⟨T', []⟩ (w)) : (Fq.reg Try.f13 5).wp Try.prog Q ⟨T, []⟩ w := by
 have a10 := fun h => Fq.el s10 h
 have d10 := Fq.gd s10
 have hu : undef = Value.tuple #[] := rfl
 have HQ := hide hQ
 clear hQ
 conv => arg 2; whnf
 go_wp2_with fail
 exact (unhide HQ) _ ⟨(by (repeat (with_reducible refine Fq.Kp.set ?_ (by decide) _)); with_reducible exact Fq.Kp.refl _ _), Fq.set_at _ (by simp [hT]) _⟩
theorem ck_r6 {VB : Bool} (hT : T.size = 226) (s11 : T[11]? = some (.int .i64 ck)) (hVB : decide (1 ≤ ck ∧ ck ≤ 7) = VB)
  (hQ : ∀ T', (Fq.Kp 14 T T' ∧ T'[28]? = some (.bool (!VB))) → Q .normal ⟨T', []⟩ (w)) : (Fq.reg Try.f13 6).wp Try.prog Q ⟨T, []⟩ w := by
 have a11 := fun h => Fq.el s11 h
 have d11 := Fq.gd s11
 have hu : undef = Value.tuple #[] := rfl
 have HQ := hide hQ
 clear hQ
 conv => arg 2; whnf
 have H1 := hide (between_any ck 1 7 w)
 rw [hVB] at H1
 clear hVB
 go_wp2_with (with_reducible refine (Calls.mono (unhide H1) ?_); rintro r w2 ⟨rfl, hw2⟩; have hw3 := hw2.symm; clear hw2; subst hw3)
 exact (unhide HQ) _ ⟨(by (repeat (with_reducible refine Fq.Kp.set ?_ (by decide) _)); with_reducible exact Fq.Kp.refl _ _), Fq.set_at _ (by simp [hT]) _⟩
theorem ck_r7 (hT : T.size = 226)
  (hQ : ∀ T', (Fq.Kp 8 T T' ∧ T'[8]? = some (.int .i64 7)) → Q .normal ⟨T', []⟩ (w)) : (Fq.reg Try.f13 7).wp Try.prog Q ⟨T, []⟩ w := by
 have hu : undef = Value.tuple #[] := rfl
 have HQ := hide hQ
 clear hQ
 conv => arg 2; whnf
 go_wp2_with fail
 exact (unhide HQ) _ ⟨(by (repeat (with_reducible refine Fq.Kp.set ?_ (by decide) _)); with_reducible exact Fq.Kp.refl _ _), Fq.set_at _ (by simp [hT]) _⟩
theorem ck_r9 (hT : T.size = 226)
  (hQ : ∀ T', (Fq.Kp 8 T T' ∧ T'[8]? = some (.int .i64 5)) → Q .normal ⟨T', []⟩ (w)) : (Fq.reg Try.f13 9).wp Try.prog Q ⟨T, []⟩ w := by
 have hu : undef = Value.tuple #[] := rfl
 have HQ := hide hQ
 clear hQ
 conv => arg 2; whnf
 go_wp2_with fail
 exact (unhide HQ) _ ⟨(by (repeat (with_reducible refine Fq.Kp.set ?_ (by decide) _)); with_reducible exact Fq.Kp.refl _ _), Fq.set_at _ (by simp [hT]) _⟩
theorem ck_r11 (hT : T.size = 226)
  (hQ : ∀ T', (Fq.Kp 8 T T' ∧ T'[8]? = some (.int .i64 7)) → Q .normal ⟨T', []⟩ (w)) : (Fq.reg Try.f13 11).wp Try.prog Q ⟨T, []⟩ w := by
 have hu : undef = Value.tuple #[] := rfl
 have HQ := hide hQ
 clear hQ
 conv => arg 2; whnf
 go_wp2_with fail
 exact (unhide HQ) _ ⟨(by (repeat (with_reducible refine Fq.Kp.set ?_ (by decide) _)); with_reducible exact Fq.Kp.refl _ _), Fq.set_at _ (by simp [hT]) _⟩
theorem ck_r13 (hT : T.size = 226)
  (hQ : ∀ T', (Fq.Kp 8 T T' ∧ T'[8]? = some (.int .i64 1)) → Q .normal ⟨T', []⟩ (w)) : (Fq.reg Try.f13 13).wp Try.prog Q ⟨T, []⟩ w := by
 have hu : undef = Value.tuple #[] := rfl
 have HQ := hide hQ
 clear hQ
 conv => arg 2; whnf
 go_wp2_with fail
 exact (unhide HQ) _ ⟨(by (repeat (with_reducible refine Fq.Kp.set ?_ (by decide) _)); with_reducible exact Fq.Kp.refl _ _), Fq.set_at _ (by simp [hT]) _⟩
theorem ck_r15 (hT : T.size = 226)
  (hQ : ∀ T', (Fq.Kp 8 T T' ∧ T'[8]? = some (.int .i64 1)) → Q .normal ⟨T', []⟩ (w)) : (Fq.reg Try.f13 15).wp Try.prog Q ⟨T, []⟩ w := by
 have hu : undef = Value.tuple #[] := rfl
 have HQ := hide hQ
 clear hQ
 conv => arg 2; whnf
 go_wp2_with fail
 exact (unhide HQ) _ ⟨(by (repeat (with_reducible refine Fq.Kp.set ?_ (by decide) _)); with_reducible exact Fq.Kp.refl _ _), Fq.set_at _ (by simp [hT]) _⟩
theorem ck_r31 (hT : T.size = 226)
  (hQ : ∀ T', (Fq.Kp 8 T T' ∧ T'[8]? = some (.int .i64 0)) → Q .normal ⟨T', []⟩ (w)) : (Fq.reg Try.f13 31).wp Try.prog Q ⟨T, []⟩ w := by
 have hu : undef = Value.tuple #[] := rfl
 have HQ := hide hQ
 clear hQ
 conv => arg 2; whnf
 go_wp2_with fail
 exact (unhide HQ) _ ⟨(by (repeat (with_reducible refine Fq.Kp.set ?_ (by decide) _)); with_reducible exact Fq.Kp.refl _ _), Fq.set_at _ (by simp [hT]) _⟩
theorem ck_r16 (hT : T.size = 226)
  (hQ : ∀ T', (Fq.Kp 12 T T' ∧ T'[12]? = some (.int .i64 0)) → Q .normal ⟨T', []⟩ (w)) : (Fq.reg Try.f13 16).wp Try.prog Q ⟨T, []⟩ w := by
 have hu : undef = Value.tuple #[] := rfl
 have HQ := hide hQ
 clear hQ
 conv => arg 2; whnf
 go_wp2_with fail
 exact (unhide HQ) _ ⟨(by (repeat (with_reducible refine Fq.Kp.set ?_ (by decide) _)); with_reducible exact Fq.Kp.refl _ _), Fq.set_at _ (by simp [hT]) _⟩
theorem ck_r17 {VB : Bool} (hT : T.size = 226) (s11 : T[11]? = some (.int .i64 ck)) (hVB : (ck == 2) = VB)
  (hQ : ∀ T', (Fq.Kp 14 T T' ∧ T'[167]? = some (.bool VB)) → Q .normal ⟨T', []⟩ (w)) : (Fq.reg Try.f13 17).wp Try.prog Q ⟨T, []⟩ w := by
 have a11 := fun h => Fq.el s11 h
 have d11 := Fq.gd s11
 have hu : undef = Value.tuple #[] := rfl
 have HQ := hide hQ
 clear hQ
 conv => arg 2; whnf
 rw [← hVB] at HQ
 clear hVB
 go_wp2_with fail
 exact (unhide HQ) _ ⟨(by (repeat (with_reducible refine Fq.Kp.set ?_ (by decide) _)); with_reducible exact Fq.Kp.refl _ _), Fq.set_at _ (by simp [hT]) _⟩
theorem ck_r18 {CA : Nat} (hT : T.size = 226) (s5 : T[5]? = some (.pointer (some ⟨bp + 1, 0, none⟩))) (s10 : T[10]? = some (.pointer (some ⟨bx, 0, none⟩))) (f1 : w.cell? ⟨bp + 1, 1, none⟩ = some (.slice sa sl sc)) (x3 : w.cell? ⟨bx, 3, none⟩ = some (.int .i64 ik)) (x4 : w.cell? ⟨bx, 4, none⟩ = some (.int .i64 inn)) (x5 : w.cell? ⟨bx, 5, none⟩ = some (.slice ia il ic)) (hc : Calls Try.prog 15 #[.agg #[.int .i64 ik, .int .i64 inn, .slice ia il ic], .slice sa sl sc] w fun r w' => r = .returned (.int .i64 (CA : Nat)) ∧ Below w.heap.size w w')
  (hQ : ∀ T' w', (Fq.Kp 12 T T' ∧ T'[12]? = some (.int .i64 (CA : Nat)) ∧ Below w.heap.size w w') → Q .normal ⟨T', []⟩ w') : (Fq.reg Try.f13 18).wp Try.prog Q ⟨T, []⟩ w := by
 have a5 := fun h => Fq.el s5 h
 have d5 := Fq.gd s5
 have a10 := fun h => Fq.el s10 h
 have d10 := Fq.gd s10
 have hu : undef = Value.tuple #[] := rfl
 have HQ := hide hQ
 clear hQ
 conv => arg 2; whnf
 have HC := hide hc
 clear hc
 go_wp2_with (with_reducible refine (Calls.mono (unhide HC) ?_); rintro r w2 ⟨rfl, hb2⟩; have HB := hide hb2; clear hb2)
 exact (unhide HQ) _ _ ⟨(by (repeat (with_reducible refine Fq.Kp.set ?_ (by decide) _)); with_reducible exact Fq.Kp.refl _ _), Fq.set_at _ (by simp [hT]) _, unhide HB⟩
theorem ck_r20 {CA : Nat} (hT : T.size = 226) (s5 : T[5]? = some (.pointer (some ⟨bp + 1, 0, none⟩))) (s10 : T[10]? = some (.pointer (some ⟨bx, 0, none⟩))) (f1 : w.cell? ⟨bp + 1, 1, none⟩ = some (.slice sa sl sc)) (x6 : w.cell? ⟨bx, 6, none⟩ = some (.int .i64 ek)) (x7 : w.cell? ⟨bx, 7, none⟩ = some (.int .i64 en)) (x8 : w.cell? ⟨bx, 8, none⟩ = some (.slice ea el ec)) (hc : Calls Try.prog 15 #[.agg #[.int .i64 ek, .int .i64 en, .slice ea el ec], .slice sa sl sc] w fun r w' => r = .returned (.int .i64 (CA : Nat)) ∧ Below w.heap.size w w')
  (hQ : ∀ T' w', (Fq.Kp 12 T T' ∧ T'[12]? = some (.int .i64 (CA : Nat)) ∧ Below w.heap.size w w') → Q .normal ⟨T', []⟩ w') : (Fq.reg Try.f13 20).wp Try.prog Q ⟨T, []⟩ w := by
 have a5 := fun h => Fq.el s5 h
 have d5 := Fq.gd s5
 have a10 := fun h => Fq.el s10 h
 have d10 := Fq.gd s10
 have hu : undef = Value.tuple #[] := rfl
 have HQ := hide hQ
 clear hQ
 conv => arg 2; whnf
 have HC := hide hc
 clear hc
 go_wp2_with (with_reducible refine (Calls.mono (unhide HC) ?_); rintro r w2 ⟨rfl, hb2⟩; have HB := hide hb2; clear hb2)
 exact (unhide HQ) _ _ ⟨(by (repeat (with_reducible refine Fq.Kp.set ?_ (by decide) _)); with_reducible exact Fq.Kp.refl _ _), Fq.set_at _ (by simp [hT]) _, unhide HB⟩
theorem ck_r19 {E1 : Nat} {VB : Bool} (hT : T.size = 226) (s11 : T[11]? = some (.int .i64 ck)) (s12 : T[12]? = some (.int .i64 (E1 : Nat))) (hVB : VB = (decide (E1 = 0) && decide (ck ≠ 3 ∧ ck ≠ 4)))
  (hQ : ∀ T', (Fq.Kp 14 T T' ∧ T'[182]? = some (.bool VB)) → Q .normal ⟨T', []⟩ (w)) : (Fq.reg Try.f13 19).wp Try.prog Q ⟨T, []⟩ w := by
 have a11 := fun h => Fq.el s11 h
 have d11 := Fq.gd s11
 have a12 := fun h => Fq.el s12 h
 have d12 := Fq.gd s12
 have hu : undef = Value.tuple #[] := rfl
 have HQ := hide hQ
 clear hQ
 conv => arg 2; whnf
 by_cases hE0 : E1 = 0
 · by_cases h3 : ck = 3
   · have b3 : (ck != 3) = false := by simp [h3]
     have HV3 := hide (show VB = false by rw [hVB]; simp [h3])
     subst hE0
     clear h3 hVB
     go_wp2_with fail
     exact (unhide HQ) _ ⟨(by (repeat (with_reducible refine Fq.Kp.set ?_ (by decide) _)); with_reducible exact Fq.Kp.refl _ _), (Fq.set_at _ (by simp [hT]) _).trans (by rw [unhide HV3] <;> rfl)⟩
   · have b3 : (ck != 3) = true := by simpa using h3
     by_cases h4 : ck = 4
     · have b4 : (ck != 4) = false := by simp [h4]
       have HV3 := hide (show VB = false by rw [hVB]; simp [h4])
       subst hE0
       clear h3 h4 hVB
       go_wp2_with fail
       exact (unhide HQ) _ ⟨(by (repeat (with_reducible refine Fq.Kp.set ?_ (by decide) _)); with_reducible exact Fq.Kp.refl _ _), (Fq.set_at _ (by simp [hT]) _).trans (by rw [unhide HV3] <;> rfl)⟩
     · have b4 : (ck != 4) = true := by simpa using h4
       have HV3 := hide (show VB = true by rw [hVB]; simp [h3, h4, hE0])
       subst hE0
       clear h3 h4 hVB
       go_wp2_with fail
       exact (unhide HQ) _ ⟨(by (repeat (with_reducible refine Fq.Kp.set ?_ (by decide) _)); with_reducible exact Fq.Kp.refl _ _), (Fq.set_at _ (by simp [hT]) _).trans (by rw [unhide HV3] <;> rfl)⟩
 · have bE : (((E1 : Nat) : Int) == 0) = false := by simp; exact hE0
   have HV3 := hide (show VB = false by rw [hVB]; simp [hE0])
   clear hE0 hVB
   go_wp2_with fail
   exact (unhide HQ) _ ⟨(by (repeat (with_reducible refine Fq.Kp.set ?_ (by decide) _)); with_reducible exact Fq.Kp.refl _ _), (Fq.set_at _ (by simp [hT]) _).trans (by rw [unhide HV3] <;> rfl)⟩
theorem ck_r21 (hT : T.size = 226)
  (hQ : ∀ T', (Fq.Kp 13 T T' ∧ T'[13]? = some (.int .i64 0)) → Q .normal ⟨T', []⟩ (w)) : (Fq.reg Try.f13 21).wp Try.prog Q ⟨T, []⟩ w := by
 have hu : undef = Value.tuple #[] := rfl
 have HQ := hide hQ
 clear hQ
 conv => arg 2; whnf
 go_wp2_with fail
 exact (unhide HQ) _ ⟨(by (repeat (with_reducible refine Fq.Kp.set ?_ (by decide) _)); with_reducible exact Fq.Kp.refl _ _), Fq.set_at _ (by simp [hT]) _⟩
theorem ck_r22 {q E1 : Nat} {VB : Bool} (hT : T.size = 226) (s10 : T[10]? = some (.pointer (some ⟨bx, 0, none⟩))) (s12 : T[12]? = some (.int .i64 (E1 : Nat))) (s13 : T[13]? = some (.int .i64 (q : Nat))) (hna : na ≤ 35184372088832) (x9 : w.cell? ⟨bx, 9, none⟩ = some (.slice aa na ac)) (hVB : VB = (decide (q < na) && decide (E1 = 0)))
  (hQ : ∀ T', (Fq.Kp 14 T T' ∧ T'[196]? = some (.bool VB)) → Q .normal ⟨T', []⟩ (w)) : (Fq.reg Try.f13 22).wp Try.prog Q ⟨T, []⟩ w := by
 have a10 := fun h => Fq.el s10 h
 have d10 := Fq.gd s10
 have a12 := fun h => Fq.el s12 h
 have d12 := Fq.gd s12
 have a13 := fun h => Fq.el s13 h
 have d13 := Fq.gd s13
 have hu : undef = Value.tuple #[] := rfl
 have HQ := hide hQ
 clear hQ
 conv => arg 2; whnf
 by_cases hlt : (q : Int) < (na : Int)
 · by_cases hE0 : E1 = 0
   · have HV3 := hide (show VB = true by rw [hVB, decide_eq_true (show q < na by omega), decide_eq_true hE0]; rfl)
     subst hE0
     clear hVB
     go_wp2_with fail
     exact (unhide HQ) _ ⟨(by (repeat (with_reducible refine Fq.Kp.set ?_ (by decide) _)); with_reducible exact Fq.Kp.refl _ _), (Fq.set_at _ (by simp [hT]) _).trans (by rw [unhide HV3] <;> rfl)⟩
   · have bE : (((E1 : Nat) : Int) == 0) = false := by simp; exact hE0
     have HV3 := hide (show VB = false by rw [hVB, decide_eq_false hE0, Bool.and_false])
     clear hVB hE0
     go_wp2_with fail
     exact (unhide HQ) _ ⟨(by (repeat (with_reducible refine Fq.Kp.set ?_ (by decide) _)); with_reducible exact Fq.Kp.refl _ _), (Fq.set_at _ (by simp [hT]) _).trans (by rw [unhide HV3] <;> rfl)⟩
 · have HV3 := hide (show VB = false by rw [hVB, decide_eq_false (show ¬ q < na by omega)]; rfl)
   clear hVB
   go_wp2_with fail
   exact (unhide HQ) _ ⟨(by (repeat (with_reducible refine Fq.Kp.set ?_ (by decide) _)); with_reducible exact Fq.Kp.refl _ _), (Fq.set_at _ (by simp [hT]) _).trans (by rw [unhide HV3] <;> rfl)⟩
theorem ck_r23 {q : Nat} (hT : T.size = 226) (s13 : T[13]? = some (.int .i64 (q : Nat))) (hq : q ≤ 35184372088832)
  (hQ : ∀ T', (Fq.Kp 13 T T' ∧ T'[13]? = some (.int .i64 ((q + 1 : Nat) : Int))) → Q .normal ⟨T', []⟩ (w)) : (Fq.reg Try.f13 23).wp Try.prog Q ⟨T, []⟩ w := by
 have a13 := fun h => Fq.el s13 h
 have d13 := Fq.gd s13
 have hu : undef = Value.tuple #[] := rfl
 have HQ := hide hQ
 clear hQ
 conv => arg 2; whnf
 go_wp2_with fail
 exact (unhide HQ) _ ⟨(by (repeat (with_reducible refine Fq.Kp.set ?_ (by decide) _)); with_reducible exact Fq.Kp.refl _ _), (Fq.set_at _ (by simp [hT]) _).trans (congrArg some (by go_num))⟩
theorem ck_r3 {i : Nat} (hT : T.size = 226) (s9 : T[9]? = some (.int .i64 (i : Nat))) (hi : i ≤ 35184372088832)
  (hQ : ∀ T', (Fq.Kp 9 T T' ∧ T'[9]? = some (.int .i64 ((i + 1 : Nat) : Int))) → Q .normal ⟨T', []⟩ (w)) : (Fq.reg Try.f13 3).wp Try.prog Q ⟨T, []⟩ w := by
 have a9 := fun h => Fq.el s9 h
 have d9 := Fq.gd s9
 have hu : undef = Value.tuple #[] := rfl
 have HQ := hide hQ
 clear hQ
 conv => arg 2; whnf
 go_wp2_with fail
 exact (unhide HQ) _ ⟨(by (repeat (with_reducible refine Fq.Kp.set ?_ (by decide) _)); with_reducible exact Fq.Kp.refl _ _), (Fq.set_at _ (by simp [hT]) _).trans (congrArg some (by go_num))⟩
theorem ck_r25 {E1 : Nat} {VB : Bool} (hT : T.size = 226) (s12 : T[12]? = some (.int .i64 (E1 : Nat))) (hVB : VB = (decide (E1 = 0)))
  (hQ : ∀ T', (Fq.Kp 14 T T' ∧ T'[208]? = some (.bool VB)) → Q .normal ⟨T', []⟩ (w)) : (Fq.reg Try.f13 25).wp Try.prog Q ⟨T, []⟩ w := by
 have a12 := fun h => Fq.el s12 h
 have d12 := Fq.gd s12
 have hu : undef = Value.tuple #[] := rfl
 have HQ := hide hQ
 clear hQ
 conv => arg 2; whnf
 by_cases hE0 : E1 = 0
 · have HV3 := hide (show VB = true by rw [hVB, decide_eq_true hE0] <;> rfl)
   subst hE0
   clear hVB
   go_wp2_with fail
   exact (unhide HQ) _ ⟨(by (repeat (with_reducible refine Fq.Kp.set ?_ (by decide) _)); with_reducible exact Fq.Kp.refl _ _), (Fq.set_at _ (by simp [hT]) _).trans (by rw [unhide HV3] <;> rfl)⟩
 · have bE : (((E1 : Nat) : Int) == 0) = false := by simp; exact hE0
   have bN : (((E1 : Nat) : Int) != 0) = true := by simp; exact hE0
   have HV3 := hide (show VB = false by rw [hVB, decide_eq_false hE0] <;> rfl)
   clear hVB hE0
   go_wp2_with fail
   exact (unhide HQ) _ ⟨(by (repeat (with_reducible refine Fq.Kp.set ?_ (by decide) _)); with_reducible exact Fq.Kp.refl _ _), (Fq.set_at _ (by simp [hT]) _).trans (by rw [unhide HV3] <;> rfl)⟩
theorem ck_r27 {E1 : Nat} {VB : Bool} (hT : T.size = 226) (s12 : T[12]? = some (.int .i64 (E1 : Nat))) (hVB : VB = (decide (E1 = 0)))
  (hQ : ∀ T', (Fq.Kp 14 T T' ∧ T'[216]? = some (.bool VB)) → Q .normal ⟨T', []⟩ (w)) : (Fq.reg Try.f13 27).wp Try.prog Q ⟨T, []⟩ w := by
 have a12 := fun h => Fq.el s12 h
 have d12 := Fq.gd s12
 have hu : undef = Value.tuple #[] := rfl
 have HQ := hide hQ
 clear hQ
 conv => arg 2; whnf
 by_cases hE0 : E1 = 0
 · have HV3 := hide (show VB = true by rw [hVB, decide_eq_true hE0] <;> rfl)
   subst hE0
   clear hVB
   go_wp2_with fail
   exact (unhide HQ) _ ⟨(by (repeat (with_reducible refine Fq.Kp.set ?_ (by decide) _)); with_reducible exact Fq.Kp.refl _ _), (Fq.set_at _ (by simp [hT]) _).trans (by rw [unhide HV3] <;> rfl)⟩
 · have bE : (((E1 : Nat) : Int) == 0) = false := by simp; exact hE0
   have bN : (((E1 : Nat) : Int) != 0) = true := by simp; exact hE0
   have HV3 := hide (show VB = false by rw [hVB, decide_eq_false hE0] <;> rfl)
   clear hVB hE0
   go_wp2_with fail
   exact (unhide HQ) _ ⟨(by (repeat (with_reducible refine Fq.Kp.set ?_ (by decide) _)); with_reducible exact Fq.Kp.refl _ _), (Fq.set_at _ (by simp [hT]) _).trans (by rw [unhide HV3] <;> rfl)⟩
theorem ck_r29 {E1 : Nat} {VB : Bool} (hT : T.size = 226) (s12 : T[12]? = some (.int .i64 (E1 : Nat))) (hVB : VB = (!decide (E1 = 0)))
  (hQ : ∀ T', (Fq.Kp 14 T T' ∧ T'[224]? = some (.bool VB)) → Q .normal ⟨T', []⟩ (w)) : (Fq.reg Try.f13 29).wp Try.prog Q ⟨T, []⟩ w := by
 have a12 := fun h => Fq.el s12 h
 have d12 := Fq.gd s12
 have hu : undef = Value.tuple #[] := rfl
 have HQ := hide hQ
 clear hQ
 conv => arg 2; whnf
 by_cases hE0 : E1 = 0
 · have HV3 := hide (show VB = false by rw [hVB, decide_eq_true hE0] <;> rfl)
   subst hE0
   clear hVB
   go_wp2_with fail
   exact (unhide HQ) _ ⟨(by (repeat (with_reducible refine Fq.Kp.set ?_ (by decide) _)); with_reducible exact Fq.Kp.refl _ _), (Fq.set_at _ (by simp [hT]) _).trans (by rw [unhide HV3] <;> rfl)⟩
 · have bE : (((E1 : Nat) : Int) == 0) = false := by simp; exact hE0
   have bN : (((E1 : Nat) : Int) != 0) = true := by simp; exact hE0
   have HV3 := hide (show VB = true by rw [hVB, decide_eq_false hE0] <;> rfl)
   clear hVB hE0
   go_wp2_with fail
   exact (unhide HQ) _ ⟨(by (repeat (with_reducible refine Fq.Kp.set ?_ (by decide) _)); with_reducible exact Fq.Kp.refl _ _), (Fq.set_at _ (by simp [hT]) _).trans (by rw [unhide HV3] <;> rfl)⟩
theorem ck_r26 {CA : Nat} (hT : T.size = 226) (s2 : T[2]? = some (.int .i64 calls)) (s4 : T[4]? = some (.pointer (some ⟨bp, 0, none⟩))) (s5 : T[5]? = some (.pointer (some ⟨bp + 1, 0, none⟩))) (s10 : T[10]? = some (.pointer (some ⟨bx, 0, none⟩))) (p0 : w.cell? ⟨bp, 0, none⟩ = some (.slice qa ql qc)) (f0 : w.cell? ⟨bp + 1, 0, none⟩ = some (.int .i64 fp)) (f1 : w.cell? ⟨bp + 1, 1, none⟩ = some (.slice sa sl sc)) (f2 : w.cell? ⟨bp + 1, 2, none⟩ = some (.slice fa fl fc)) (f3 : w.cell? ⟨bp + 1, 3, none⟩ = some (.int .i64 rk)) (f4 : w.cell? ⟨bp + 1, 4, none⟩ = some (.int .i64 rn)) (f5 : w.cell? ⟨bp + 1, 5, none⟩ = some (.slice ra rl rc)) (x10 : w.cell? ⟨bx, 10, none⟩ = some (.slice ta nt tc)) (hc : Calls Try.prog 13 #[.agg #[.slice qa ql qc], .agg #[.int .i64 fp, .slice sa sl sc, .slice fa fl fc, .int .i64 rk, .int .i64 rn, .slice ra rl rc], .int .i64 calls, .slice ta nt tc] w fun r w' => r = .returned (.int .i64 (CA : Nat)) ∧ Below w.heap.size w w')
  (hQ : ∀ T' w', (Fq.Kp 12 T T' ∧ T'[12]? = some (.int .i64 (CA : Nat)) ∧ Below w.heap.size w w') → Q .normal ⟨T', []⟩ w') : (Fq.reg Try.f13 26).wp Try.prog Q ⟨T, []⟩ w := by
 have a2 := fun h => Fq.el s2 h
 have d2 := Fq.gd s2
 have a4 := fun h => Fq.el s4 h
 have d4 := Fq.gd s4
 have a5 := fun h => Fq.el s5 h
 have d5 := Fq.gd s5
 have a10 := fun h => Fq.el s10 h
 have d10 := Fq.gd s10
 have hu : undef = Value.tuple #[] := rfl
 have HQ := hide hQ
 clear hQ
 conv => arg 2; whnf
 have HC := hide hc
 clear hc
 go_wp2_with (with_reducible refine (Calls.mono (unhide HC) ?_); rintro r w2 ⟨rfl, hb2⟩; have HB := hide hb2; clear hb2)
 exact (unhide HQ) _ _ ⟨(by (repeat (with_reducible refine Fq.Kp.set ?_ (by decide) _)); with_reducible exact Fq.Kp.refl _ _), Fq.set_at _ (by simp [hT]) _, unhide HB⟩
theorem ck_r28 {CA : Nat} (hT : T.size = 226) (s2 : T[2]? = some (.int .i64 calls)) (s4 : T[4]? = some (.pointer (some ⟨bp, 0, none⟩))) (s5 : T[5]? = some (.pointer (some ⟨bp + 1, 0, none⟩))) (s10 : T[10]? = some (.pointer (some ⟨bx, 0, none⟩))) (p0 : w.cell? ⟨bp, 0, none⟩ = some (.slice qa ql qc)) (f0 : w.cell? ⟨bp + 1, 0, none⟩ = some (.int .i64 fp)) (f1 : w.cell? ⟨bp + 1, 1, none⟩ = some (.slice sa sl sc)) (f2 : w.cell? ⟨bp + 1, 2, none⟩ = some (.slice fa fl fc)) (f3 : w.cell? ⟨bp + 1, 3, none⟩ = some (.int .i64 rk)) (f4 : w.cell? ⟨bp + 1, 4, none⟩ = some (.int .i64 rn)) (f5 : w.cell? ⟨bp + 1, 5, none⟩ = some (.slice ra rl rc)) (x11 : w.cell? ⟨bx, 11, none⟩ = some (.slice la ne lc)) (hc : Calls Try.prog 13 #[.agg #[.slice qa ql qc], .agg #[.int .i64 fp, .slice sa sl sc, .slice fa fl fc, .int .i64 rk, .int .i64 rn, .slice ra rl rc], .int .i64 calls, .slice la ne lc] w fun r w' => r = .returned (.int .i64 (CA : Nat)) ∧ Below w.heap.size w w')
  (hQ : ∀ T' w', (Fq.Kp 12 T T' ∧ T'[12]? = some (.int .i64 (CA : Nat)) ∧ Below w.heap.size w w') → Q .normal ⟨T', []⟩ w') : (Fq.reg Try.f13 28).wp Try.prog Q ⟨T, []⟩ w := by
 have a2 := fun h => Fq.el s2 h
 have d2 := Fq.gd s2
 have a4 := fun h => Fq.el s4 h
 have d4 := Fq.gd s4
 have a5 := fun h => Fq.el s5 h
 have d5 := Fq.gd s5
 have a10 := fun h => Fq.el s10 h
 have d10 := Fq.gd s10
 have hu : undef = Value.tuple #[] := rfl
 have HQ := hide hQ
 clear hQ
 conv => arg 2; whnf
 have HC := hide hc
 clear hc
 go_wp2_with (with_reducible refine (Calls.mono (unhide HC) ?_); rintro r w2 ⟨rfl, hb2⟩; have HB := hide hb2; clear hb2)
 exact (unhide HQ) _ _ ⟨(by (repeat (with_reducible refine Fq.Kp.set ?_ (by decide) _)); with_reducible exact Fq.Kp.refl _ _), Fq.set_at _ (by simp [hT]) _, unhide HB⟩
theorem ck_r30 {E1 : Nat} (hT : T.size = 226) (s12 : T[12]? = some (.int .i64 (E1 : Nat)))
  (hQ : ∀ T', (Fq.Kp 8 T T' ∧ T'[8]? = some (.int .i64 (E1 : Nat))) → Q .normal ⟨T', []⟩ (w)) : (Fq.reg Try.f13 30).wp Try.prog Q ⟨T, []⟩ w := by
 have a12 := fun h => Fq.el s12 h
 have d12 := Fq.gd s12
 have hu : undef = Value.tuple #[] := rfl
 have HQ := hide hQ
 clear hQ
 conv => arg 2; whnf
 go_wp2_with fail
 exact (unhide HQ) _ ⟨(by (repeat (with_reducible refine Fq.Kp.set ?_ (by decide) _)); with_reducible exact Fq.Kp.refl _ _), Fq.set_at _ (by simp [hT]) _⟩
end
end Go.Proofs.Ytpfogjplnodacaa
