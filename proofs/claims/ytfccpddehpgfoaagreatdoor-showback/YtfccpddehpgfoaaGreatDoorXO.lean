/- By the verifier. -/
import Derived.Test.YtfccpddehpgfoaaGreatDoorXI
import Derived.Test.YtfccpddehpgfoaaGreatDoorUH
set_option maxRecDepth 100000
set_option maxHeartbeats 3200000
namespace Go.Proofs.YtfccpddehpgfoaaGreatDoor
open Go.RowKit
set_option linter.unusedVariables false
def ZdN (n : Nat) : Code → Option Code
 | .region id ops d => if Nat.beq id n then some (.region id ops d) else none
 | .seq a b => match ZdN n a with | some c => some c | none => ZdN n b
 | .cond _ a b => match ZdN n a with | some c => some c | none => ZdN n b
 | .block _ a => ZdN n a
 | .loop a => ZdN n a
 | _ => none
def ZaI (F : Func) (n : Nat) : Code := (ZdN n (F.body.getD .skip)).getD .skip
structure Fq.Kp (n : Nat) (T T' : Array Value) : Prop where
 size : T'.size = T.size
 at_ : ∀ k, k < n → T'[k]? = T[k]?
theorem Fq.Kp.refl (n : Nat) (T : Array Value) : Fq.Kp n T T := ⟨rfl, fun _ _ => rfl⟩
theorem Fq.set_ne (T : Array Value) {d k : Nat} (h : d ≠ k) (v : Value) : (T.setIfInBounds d v)[k]? = T[k]? := Array.getElem?_setIfInBounds_ne h
theorem Zag (T : Array Value) {d : Nat} (h : d < T.size) (v : Value) : (T.setIfInBounds d v)[d]? = some v := Array.getElem?_setIfInBounds_self_of_lt h
theorem Fq.el {T : Array Value} {k : Nat} {v : Value} (h : T[k]? = some v) (hk : k < T.size) : T[k] = v := by
 rw [Array.getElem?_eq_getElem hk] at h
 exact Option.some.inj h
theorem ZaG {T : Array Value} {k : Nat} {v : Value} (h : T[k]? = some v) : T.getD k (.tuple #[]) = v := by
 rw [Array.getD_eq_getD_getElem?, h]
 rfl
theorem Fq.Kp.set {n d : Nat} {T T' : Array Value} (h : Fq.Kp n T T') (hd : n ≤ d) (v : Value) : Fq.Kp n T (T'.setIfInBounds d v) :=
 ⟨by rw [Array.size_setIfInBounds]; exact h.size, fun k hk => (Fq.set_ne T' (by omega) v).trans (h.at_ k hk)⟩
theorem Fq.Kp.mono {n n' : Nat} {T T' : Array Value} (h : Fq.Kp n T T') (hn : n' ≤ n) : Fq.Kp n' T T' := ⟨h.size, fun k hk => h.at_ k (by omega)⟩
def Fq.ls (T : Array Value) (n : Nat) : List Value := (List.range n).map (fun i => T.getD i (.tuple #[]))
theorem Zhu {T : Array Value} {n : Nat} (h : T.size = n) : T = (Fq.ls T n).toArray := by
 refine Array.ext ?_ ?_
 · simp [Fq.ls, h]
 intro i h1 h2
 simp [Fq.ls, Array.getD, h1]
theorem Zh6 {P : Program} {Q : Exit → Act → World → Prop} {T : Array Value} {w : World} {k : Nat} {x y : Code} (h : T[k]? = some (.bool true)) (hx : x.wp P Q ⟨T, []⟩ w) : (Code.cond (.tmp k) x y).wp P Q ⟨T, []⟩ w := wp_cond_true (show T.getD k (.tuple #[]) = _ from ZaG h) hx
theorem Zg3 {P : Program} {Q : Exit → Act → World → Prop} {T : Array Value} {w : World} {k : Nat} {x y : Code} (h : T[k]? = some (.bool false)) (hy : y.wp P Q ⟨T, []⟩ w) : (Code.cond (.tmp k) x y).wp P Q ⟨T, []⟩ w := wp_cond_false (show T.getD k (.tuple #[]) = _ from ZaG h) hy
def Zc0 (n : Nat) : Code → Option Code
 | .seq a b => match Zc0 n a with | some c => some c | none => Zc0 n b
 | .cond _ a b => match Zc0 n a with | some c => some c | none => Zc0 n b
 | .block id a => if Nat.beq id n then some a else Zc0 n a
 | .loop a => Zc0 n a
 | _ => none
def Fq.blk (F : Func) (n : Nat) : Code := (Zc0 n (F.body.getD .skip)).getD .skip
def Fq.N (K : Act → World → Prop) : Exit → Act → World → Prop
 | .normal, a, w => K a w
 | _, _, _ => False
theorem Zjt {P : Program} {Q : Exit → Act → World → Prop} {a : Act} {w : World} {x : Code} (K : Array Value → World → Prop) (hQ : ∀ T' v, K T' v → Q .normal ⟨T', []⟩ v) (h : x.wp P (Fq.N fun a v => a.defers = [] ∧ K a.tmps v) a w) : x.wp P Q a w :=
 Code.wp_mono (Q := Fq.N fun a v => a.defers = [] ∧ K a.tmps v) (fun e a v h => by
  cases e with
  | normal =>
   obtain ⟨T', ds⟩ := a
   obtain ⟨h1, h2⟩ := h
   have h1' : ds = [] := h1
   subst h1'
   exact hQ T' v h2
  | _ => exact False.elim h) h
section
variable {P : Program} {Q : Exit → Act → World → Prop} {K : Act → World → Prop} {a : Act} {w : World} {T : Array Value}
theorem Zlx {T2 : Array Value} {x : Code} (h : T = T2) (hw : x.wp P Q ⟨T2, []⟩ w) : x.wp P Q ⟨T, []⟩ w := h ▸ hw
theorem Fq.at_ (F : Func) (n : Nat) {c : Code} (h : ZaI F n = c) (hw : (ZaI F n).wp P Q a w) : c.wp P Q a w := h ▸ hw
theorem ZdM (F : Func) (n : Nat) {c : Code} (h : Fq.blk F n = c) (hw : (Fq.blk F n).wp P Q a w) : c.wp P Q a w := h ▸ hw
theorem ZkH {x y : Code} (I : Array Value → World → Prop) (h1 : ∀ Q' : Exit → Act → World → Prop, (∀ T' v, I T' v → Q' .normal ⟨T', []⟩ v) → x.wp P Q' ⟨T, []⟩ w) (h2 : ∀ T' v, I T' v → y.wp P Q ⟨T', []⟩ v) : (Code.seq x y).wp P Q ⟨T, []⟩ w :=
 wp_seq (h1 _ (fun T' v h => h2 T' v h))
theorem Zl3 {x y : Code} (I J : Array Value → World → Prop) (h1 : ∀ Q' : Exit → Act → World → Prop, (∀ T' v, I T' v → Q' .normal ⟨T', []⟩ v) → (∀ T' v, J T' v → Q' .ret ⟨T', []⟩ v) → x.wp P Q' ⟨T, []⟩ w) (h3 : ∀ T' v, J T' v → Q .ret ⟨T', []⟩ v) (h2 : ∀ T' v, I T' v → y.wp P Q ⟨T', []⟩ v) : (Code.seq x y).wp P Q ⟨T, []⟩ w :=
 wp_seq (h1 _ (fun T' v h => h2 T' v h) (fun T' v h => h3 T' v h))
theorem Fq.ok (h : K a w) : Exit.then K Q .normal a w := h
theorem ZgG (h : Q .ret a w) : Exit.then K Q .ret a w := h
theorem ZfA {id : Nat} (h : Q .ret a w) : Exit.inBlock id Q .ret a w := h
theorem Zgv {id : Nat} (h : Q .normal a w) : Exit.inBlock id Q .normal a w := h
theorem ZdK {k : Nat} (h : Q (.exit k) a w) : Exit.then K Q (.exit k) a w := h
theorem Zh1 {id : Nat} (h : Q .normal a w) : Exit.inBlock id Q (.exit id) a w := by
 show if id = id then Q .normal a w else Q (.exit id) a w
 rw [if_pos rfl]
 exact h
theorem Fq.skip (h : Q .normal a w) : Code.skip.wp P Q a w := wp_skip h
theorem Fq.ret {fn : Func} {R : Ending → World → Prop} {t : Nat} {v : Value} (hr : fn.results = #[.tmp t]) (ht : T[t]? = some v) (hR : R (.returned v) w) : bodyPost P fn R .ret ⟨T, []⟩ w :=
 bodyPost_ret (v := v) (by rw [results_tmp hr]; congr 1; exact ZaG ht) rfl hR
theorem Fq.cond (k : Nat) {x y : Code} {b : Bool} (h : T[k]? = some (.bool b)) (hx : b = true → x.wp P Q ⟨T, []⟩ w) (hy : b = false → y.wp P Q ⟨T, []⟩ w) : (Code.cond (.tmp k) x y).wp P Q ⟨T, []⟩ w := by
 cases b with
 | true => exact Zh6 h (hx rfl)
 | false => exact Zg3 h (hy rfl)
end
def ZhW {m : Nat} (n : Nat) (deep a : Int) (y : Zap m (n + 1)) : Int := if 40 < a then a else if Tk.long y = true then 41 else a + (1 + ZaL n (deep + 1) y.2.2.1 + ZaL n (deep + 1) y.2.2.2)
def Zcq {m : Nat} (n : Nat) (deep : Int) (l : List (Zap m (n + 1))) (a : Int) : Int := l.foldl (ZhW n deep) a
theorem Zj7 {m n : Nat} {deep : Int} {l : List (Zap m (n + 1))} (h : ¬ (0 < l.length ∧ 5 < deep)) : ZaL (n + 1) deep l = min (Zcq n deep l 0) 41 := if_neg h
theorem Zfs {m n : Nat} {deep a : Int} (h : 40 < a) : ∀ (l : List (Zap m (n + 1))), Zcq n deep l a = a
 | [] => rfl
 | y :: r => by
  show Zcq n deep r (ZhW n deep a y) = a
  unfold ZhW
  rw [if_pos h]
  exact Zfs h r
theorem Zi7 {m n : Nat} {deep : Int} {l : List (Zap m (n + 1))} {i : Nat} {y : Zap m (n + 1)} (h : l[i]? = some y) : Zcq n deep (l.take (i + 1)) 0 = ZhW n deep (Zcq n deep (l.take i) 0) y := by
 have hlt := (List.getElem?_eq_some_iff.1 h).1
 rw [List.take_succ_eq_append_getElem hlt, (List.getElem?_eq_some_iff.1 h).2]
 unfold Zcq
 rw [List.foldl_append]
 rfl
theorem Zfz {m n : Nat} {deep : Int} (l : List (Zap m (n + 1))) (i : Nat) (h : 40 < Zcq n deep (l.take i) 0) : Zcq n deep l 0 = Zcq n deep (l.take i) 0 := by
 have e : Zcq n deep l 0 = Zcq n deep (l.drop i) (Zcq n deep (l.take i) 0) := by
  unfold Zcq
  rw [← List.foldl_append, List.take_append_drop]
 rw [e, Zfs h]
theorem Zfn (p : Nat) : (15 < Za9 15 p ↔ 15 < p) ∧ 0 ≤ Za9 15 p ∧ Za9 15 p ≤ 16 := by unfold Za9; split <;> omega
theorem Zg2 {m : Nat} : ∀ (n : Nat) (s : Tk.Sl) (l : List (Zap m n)) (w : World) (deep : Int), Tk.RS w 17 (Tk.LC w) (Tk.RC w m n) s l → 0 ≤ deep → deep ≤ 6 →
  Calls Tryz.prog 61 #[.slice s.ad s.len s.cap, .int .i64 deep] w fun r w' => r = .returned (.int .i64 (ZaL n deep l)) ∧ Below w.heap.size w w' := by
 intro n
 induction n with
 | zero =>
  intro s l w deep hs _ _
  obtain rfl : l = [] := by cases l with | nil => rfl | cons y r => exact nomatch (show Empty from y)
  have h0 : s.len = 0 := hs.len
  clear hs
  go_enter Tryz.func61, Tryz.ntmps61
  rw [h0]
  (try simp only [List.append_eq, List.cons_append, List.nil_append])
  go_wp2_with fail
  go_loopw [5, 6] (fun nv iv wr => nv = .int .i64 0 ∧ iv = .int .i64 0 ∧ wr = w) (fun _ iv _ => 0)
  case atStart => exact ⟨rfl, rfl, rfl⟩
  case round =>
   obtain ⟨rfl, rfl, rfl⟩ := hrel
   go_wp2_with fail
   go_ret
   exact ⟨rfl, Zr⟩
 | succ n ih =>
  intro s l w deep hs hd1 hd2
  have hlen := hs.len
  have hfew := hs.few
  rw [← hlen] at hfew
  have HS := Hd hs
  have HLN := Hd hlen
  have IH := Hd ih
  clear hs hlen ih
  by_cases h5 : 0 < s.len ∧ 5 < deep
  · obtain ⟨h51, h52⟩ := h5
    have hfin : Hid (ZaL (n + 1) deep l = 41) := if_pos ⟨by have := uh HLN; omega, h52⟩
    have g0 : (0 : Int) < (s.len : Int) := by omega
    go_enter Tryz.func61, Tryz.ntmps61
    (try simp only [List.append_eq, List.cons_append, List.nil_append])
    go_wp2_with fail
    go_ret
    exact ⟨Za2 (uh hfin).symm, Zr⟩
  have HCN := Hd (show ZaL (n + 1) deep l = min (Zcq n deep l 0) 41 from Zj7 (fun h => h5 ⟨by have := uh HLN; omega, h.2⟩))
  by_cases hl0 : 0 < s.len
  · have g0 : (0 : Int) < (s.len : Int) := by omega
    have g5 : ¬ 5 < deep := fun h => h5 ⟨hl0, h⟩
    go_enter Tryz.func61, Tryz.ntmps61
    (try simp only [List.append_eq, List.cons_append, List.nil_append])
    go_wp2_with fail
    go_loopw [5, 6] (fun nv iv wr => ∃ (i : Nat) (a : Int), i ≤ s.len ∧ iv = .int .i64 i ∧ nv = .int .i64 a ∧ a = Zcq n deep (l.take i) 0 ∧ 0 ≤ a ∧ a ≤ 123 ∧ Below w.heap.size w wr) (fun _ iv _ => s.len - (intOf iv).toNat)
    case atStart => exact ⟨0, 0, Nat.zero_le _, rfl, rfl, rfl, by omega, by omega, Zr⟩
    case round =>
     obtain ⟨i, a, hi, rfl, rfl, hl, ha1, ha2, hbe⟩ := hrel
     have hz := hbe.size
     have HL := Hd hl
     have HBE := Hd hbe
     clear hl hbe
     by_cases hlt : i < s.len
     · have hd5 : ¬ 5 < deep := fun h => h5 ⟨by omega, h⟩
       by_cases h40 : a ≤ 40
       · have hlt2 : i < l.length := by have := uh HLN; omega
         have hy := Zg hlt2
         obtain ⟨b, o, q, had, hb, hlies, hrd⟩ := (uh HS).at_ i _ hy
         have hst := Zi7 (deep := deep) hy
         generalize l[i] = y at *
         rw [← uh HL] at hst
         have hst2 : Zcq n deep (l.take (i + 1)) 0 = if Tk.long y = true then 41 else a + (1 + ZaL n (deep + 1) y.2.2.1 + ZaL n (deep + 1) y.2.2.2) := by
          rw [hst]
          unfold ZhW
          rw [if_neg (by omega)]
         have HST := Hd hst2
         have HLO := Hd (fun (h : Tk.long y = true) => show ZaL (n + 1) deep l = 41 by
          rw [if_pos h] at hst2
          rw [uh HCN, Zfz l (i + 1) (by rw [hst2]; omega), hst2]
          rfl)
         have HLG := Hd (show Tk.long y = (decide (3 < y.2.1.2.2.length) || decide (15 < Zab m y.2.1.1) || decide (15 < Zab m y.2.1.2.1) || y.2.1.2.2.any fun e => decide (15 < Zab m e)) from rfl)
         have hcell : ∀ j v, q.cells[j]? = some v → wr.cell? ⟨b, o + i * 17 + j, none⟩ = some v := (hlies.later (uh HBE) Zl hb).cells
         have hi0 : (0 : Int) ≤ (i : Int) := by omega
         have hi1 : (i : Int) < (s.len : Int) := by omega
         have hbN := (Below.refl wr.heap.size wr).alloc Zl (Obj.cells q.cells 56)
         have HRD := Hd ((hrd.later (uh HBE) Zl).later hbN Zl)
         have HBN := Hd ((uh HBE).trans (hbN.mono (by omega)))
         have HBX := Hd (ZdA wr q)
         have hsN : (wr.alloc (Obj.cells q.cells 56)).heap.size = wr.heap.size + 1 := by simp
         have hone := Tk.C.one q
         clear hlies hrd hy hst hst2 hbN
         rw [had]
         go_upto_region 7 with fail
         refine Zd5 (cs := q.cells) (z := (Tk.C.zero).cells) (b := b) (o := o) (i := i) (a0 := 0) (a1 := 6) (p := 26) (q := 27) (tA := 28) (tL := 29) (tB := 7) rfl rfl rfl rfl rfl rfl rfl rfl rfl rfl rfl rfl rfl rfl rfl rfl rfl rfl rfl rfl (by simp) (by simp) (by decide) (by decide) hlt (by simp) (by simp) (by simp) (by decide) (by decide) Tryz.underlying49 ZaZ rfl rfl Tryz.underlying56 rfl hcell hone ?_
         simp only [Zz, Zs]
         generalize (wr.alloc (Obj.cells q.cells 56)) = wN at *
         clear hcell hone
         have HP := Hd (fun (W : World) (hb : Below wN.heap.size wN W) => ZcZ m q.ex y.2.1.2.1 W 15 ((uh HRD).2.1.2.1.later hb Zl) (by omega) (by omega))
         have HP2 := Hd (fun (W : World) (hb : Below wN.heap.size wN W) => ZcZ m q.ix y.2.1.1 W 15 ((uh HRD).2.1.1.later hb Zl) (by omega) (by omega))
         have HAR := Hd (fun (W : World) (hb : Below wN.heap.size wN W) => (uh HRD).2.1.2.2.laterE hb Zl)
         have HLNA := Hd (uh HRD).2.1.2.2.len
         have hfewA := (uh HRD).2.1.2.2.few
         rw [← uh HLNA] at hfewA
         have hp1 := Zfn (Zab m y.2.1.2.1)
         have hp2 := Zfn (Zab m y.2.1.1)
         generalize Zab m y.2.1.2.1 = pe at *
         generalize Zab m y.2.1.1 = pi at *
         obtain ⟨hp11, hp12, hp13⟩ := hp1
         obtain ⟨hp21, hp22, hp23⟩ := hp2
         generalize Za9 15 pe = ce at *
         generalize Za9 15 pi = ci at *
         unfold Tk.E.val at HP HP2
         have k9 := (uh HBX) 9 (.int .i64 q.ex.k) rfl
         have k10 := (uh HBX) 10 (.int .i64 q.ex.a) rfl
         have k11 := (uh HBX) 11 (.int .i64 q.ex.n) rfl
         have k12 := (uh HBX) 12 (.string q.ex.nm) rfl
         have k13 := (uh HBX) 13 (.slice q.ex.args.ad q.ex.args.len q.ex.args.cap) rfl
         go_wp2_with fail
         refine ((uh HP) wN Zr).mono ?_
         rintro r w1 ⟨rfl, hb1⟩
         have HB1 := Hd hb1
         replace HBX := Hd ((uh HBX).below hb1 (by omega))
         have hs1 := hb1.size
         clear hb1 HP k9 k10 k11 k12 k13
         by_cases he : 15 < pe
         · have hlo := (uh HLO) (by rw [uh HLG, decide_eq_true he]; simp)
           have hce : 15 < ce := hp11.2 he
           have HF := Hd hlo
           clear hlo hp11 hp21
           go_wp2_with fail
           go_ret
           exact ⟨Za2 (uh HF).symm, (uh HBN).trans ((uh HB1).mono (by omega))⟩
         have hce : ¬ 15 < ce := fun h => he (hp11.1 h)
         replace HLG := Hd (show Tk.long y = (decide (3 < y.2.1.2.2.length) || decide (15 < pi) || y.2.1.2.2.any fun e => decide (15 < Zab m e)) by rw [uh HLG, decide_eq_false he]; simp)
         clear he hp11 hp12 hp13
         have k4 := (uh HBX) 4 (.int .i64 q.ix.k) rfl
         have k5 := (uh HBX) 5 (.int .i64 q.ix.a) rfl
         have k6 := (uh HBX) 6 (.int .i64 q.ix.n) rfl
         have k7 := (uh HBX) 7 (.string q.ix.nm) rfl
         have k8 := (uh HBX) 8 (.slice q.ix.args.ad q.ix.args.len q.ix.args.cap) rfl
         go_wp2_with fail
         refine ((uh HP2) w1 (uh HB1)).mono ?_
         rintro r w2 ⟨rfl, hb2⟩
         replace HB1 := Hd ((uh HB1).trans (hb2.mono hs1))
         replace HBX := Hd ((uh HBX).below hb2 (by omega))
         have hs2 := hb2.size
         clear hb2 HP2 k4 k5 k6 k7 k8
         by_cases hx : 15 < pi
         · have hlo := (uh HLO) (by rw [uh HLG, decide_eq_true hx]; simp)
           have hci : 15 < ci := hp21.2 hx
           have HF := Hd hlo
           clear hlo hp21
           go_wp2_with fail
           go_ret
           exact ⟨Za2 (uh HF).symm, (uh HBN).trans ((uh HB1).mono (by omega))⟩
         have hci : ¬ 15 < ci := fun h => hx (hp21.1 h)
         replace HLG := Hd (show Tk.long y = (decide (3 < y.2.1.2.2.length) || y.2.1.2.2.any fun e => decide (15 < Zab m e)) by rw [uh HLG, decide_eq_false hx]; simp)
         clear hx hp21 hp22 hp23
         have k14 := (uh HBX) 14 (.slice q.args.ad q.args.len q.args.cap) rfl
         by_cases h3 : 3 < q.args.len
         · have hlo := (uh HLO) (by rw [uh HLG, decide_eq_true (show 3 < y.2.1.2.2.length by rw [← uh HLNA]; exact h3)]; rfl)
           have g3 : (3 : Int) < (q.args.len : Int) := by omega
           have HF := Hd hlo
           clear hlo
           go_wp2_with fail
           go_ret
           exact ⟨Za2 (uh HF).symm, (uh HBN).trans ((uh HB1).mono (by omega))⟩
         have g3 : ¬ (3 : Int) < (q.args.len : Int) := by omega
         replace HLG := Hd (show Tk.long y = y.2.1.2.2.any fun e => decide (15 < Zab m e) by rw [uh HLG, decide_eq_false (show ¬ 3 < y.2.1.2.2.length by rw [← uh HLNA]; exact h3)]; simp)
         go_wp2_with fail
         clear k14
         obtain ⟨wo, hwo⟩ : ∃ wo, wo = wr := ⟨_, rfl⟩
         subst hwo
         go_loopw [8] (fun kv wr => ∃ k : Nat, k ≤ q.args.len ∧ kv = .int .i64 k ∧ (∀ j x, j < k → y.2.1.2.2[j]? = some x → decide (15 < Zab m x) = false) ∧ Below w2.heap.size w2 wr) (fun kv _ => q.args.len - (intOf kv).toNat)
         case atStart => exact ⟨0, Nat.zero_le _, rfl, fun j y h => by omega, Zr⟩
         case round =>
          obtain ⟨k, hk, rfl, hall, hbk⟩ := hrel
          have hzk := hbk.size
          have HAL := Hd hall
          have HBK := Hd hbk
          have HBXk := Hd ((uh HBX).below hbk (by omega))
          have k14 := (uh HBXk) 14 (.slice q.args.ad q.args.len q.args.cap) rfl
          clear hall hbk
          by_cases hkt : k < q.args.len
          · have hkt2 : k < y.2.1.2.2.length := by have := uh HLNA; omega
            have hyk := Zg hkt2
            have HBW := Hd (show Below wN.heap.size wN wr from (uh HB1).trans ((uh HBK).mono (by omega)))
            obtain ⟨b', o', e, had', hb', hlies', hrd'⟩ := ((uh HAR) wr (uh HBW)).at_ k _ hyk
            generalize y.2.1.2.2[k] = x at *
            obtain ⟨p0, p1, p2, p3, p4⟩ := hlies'
            have HPX := Hd (ZcZ m e x wr 15 hrd' (by omega) (by omega))
            have hpx := Zfn (Zab m x)
            have HY := Hd hyk
            clear hrd' hyk
            have hk0 : (0 : Int) ≤ (k : Int) := by omega
            have hk1 : (k : Int) < (q.args.len : Int) := by omega
            rw [had'] at k14
            clear had'
            unfold Tk.E.val at HPX
            go_wp2_with fail
            refine (uh HPX).mono ?_
            rintro r w3 ⟨rfl, hb3⟩
            have HB3 := Hd ((uh HBK).trans (hb3.mono hzk))
            clear hb3 HPX k14 p0 p1 p2 p3 p4
            by_cases hxx : 15 < Zab m x
            · have hlo := (uh HLO) (by rw [uh HLG]; exact List.any_eq_true.2 ⟨x, List.mem_of_getElem? (uh HY), decide_eq_true hxx⟩)
              have hcx : 15 < Za9 15 (Zab m x) := hpx.1.2 hxx
              have HF := Hd hlo
              clear hlo hpx hxx
              go_wp2_with fail
              go_ret
              exact ⟨Za2 (uh HF).symm, (uh HBN).trans (((uh HB1).trans ((uh HB3).mono (by omega))).mono (by omega))⟩
            have hcx : ¬ 15 < Za9 15 (Zab m x) := fun h => hxx (hpx.1.1 h)
            have HX := Hd (decide_eq_false hxx)
            clear hpx hxx
            go_wp2_with fail
            refine ⟨⟨k + 1, by omega, by go_num, ?_, uh HB3⟩, by simp [intOf]; omega⟩
            intro j u hj hu
            by_cases e2 : j = k
            · subst e2
              have := uh HY
              rw [this] at hu
              cases hu
              exact uh HX
            exact (uh HAL) j u (by omega) hu
          have hnl : Tk.long y = false := by
           rw [uh HLG]
           exact List.any_eq_false.2 (fun x hx => by
            obtain ⟨j, hj⟩ := List.getElem?_of_mem hx
            rw [(uh HAL) j x (by have := (List.getElem?_eq_some_iff.1 hj).1; have := uh HLNA; omega) hj]
            decide)
          have hst3 : Zcq n deep (l.take (i + 1)) 0 = a + (1 + ZaL n (deep + 1) y.2.2.1 + ZaL n (deep + 1) y.2.2.2) := by rw [uh HST, if_neg (by rw [hnl]; decide)]
          have hc1 := Zdw n (deep + 1) y.2.2.1
          have hc2 := Zdw n (deep + 1) y.2.2.2
          have HQ1 := Hd (fun (V : World) (hb : Below wN.heap.size wN V) => (uh IH) q.th y.2.2.1 V (deep + 1) ((uh HRD).2.2.1.laterC hb Zl) (by omega) (by omega))
          have HQ2 := Hd (fun (V : World) (hb : Below wN.heap.size wN V) => (uh IH) q.el y.2.2.2 V (deep + 1) ((uh HRD).2.2.2.laterC hb Zl) (by omega) (by omega))
          have HST3 := Hd hst3
          obtain ⟨hc11, hc12, -⟩ := hc1
          obtain ⟨hc21, hc22, -⟩ := hc2
          generalize ZaL n (deep + 1) y.2.2.1 = c1 at *
          generalize ZaL n (deep + 1) y.2.2.2 = c2 at *
          have HBW := Hd (show Below wN.heap.size wN wr.drew from (uh HB1).trans (((uh HBK).mono (by omega)).trans ((Below.refl wr.heap.size wr).drew.mono (by omega))))
          have hwr : IntKind.i64.wrap (deep + 1) = deep + 1 := by rw [IntKind.wrap_i64]; omega
          have hw1 : IntKind.i64.wrap (1 + c1) = 1 + c1 := by rw [IntKind.wrap_i64]; omega
          have hw2 : IntKind.i64.wrap (1 + c1 + c2) = 1 + c1 + c2 := by rw [IntKind.wrap_i64]; omega
          have hw3 : IntKind.i64.wrap (a + (1 + c1 + c2)) = a + (1 + c1 + c2) := by rw [IntKind.wrap_i64]; omega
          clear hst3 hnl
          go_upto_region 15 with fail
          have hHeld : (fun V => V.cell? ⟨wo.heap.size, 15, none⟩ = some (.slice q.th.ad q.th.len q.th.cap) ∧ V.cell? ⟨wo.heap.size, 16, none⟩ = some (.slice q.el.ad q.el.len q.el.cap)) wr.drew := ⟨(uh HBXk) 15 _ rfl, (uh HBXk) 16 _ rfl⟩
          refine ZbA (fun j => Nat.beq j 14) (fun V => V.cell? ⟨wo.heap.size, 15, none⟩ = some (.slice q.th.ad q.th.len q.th.cap) ∧ V.cell? ⟨wo.heap.size, 16, none⟩ = some (.slice q.el.ad q.el.len q.el.cap)) (by kernel_rfl) hHeld (fun hHeld hcl => ?_)
          generalize wr.drew = wd at *
          refine Rq.tk 0 (.int .i64 a) Rq.z (by kernel_rfl) (by kernel_rfl) (by kernel_rfl) (by kernel_rfl) (fun _ _ _ h => h) (by assumption) (by assumption) (by rfl) (fun w hSw => by (try dsimp only at hSw); obtain ⟨hA, hB⟩ := hSw; go_simp) (fun hcl => ?_)
          (try simp only [Act.put, Zt, Zz, Zs])
          refine Rq.tk 1 (.pointer (some ⟨wo.heap.size, 15, none⟩)) (Rq.s Rq.z) (by kernel_rfl) (by kernel_rfl) (by kernel_rfl) (by kernel_rfl) (fun _ _ _ h => h) (by assumption) (by assumption) (by rfl) (fun w hSw => by (try dsimp only at hSw); obtain ⟨hA, hB⟩ := hSw; go_simp) (fun hcl => ?_)
          (try simp only [Act.put, Zt, Zz, Zs])
          refine Rq.tk 2 (.slice q.th.ad q.th.len q.th.cap) (Rq.s (Rq.s Rq.z)) (by kernel_rfl) (by kernel_rfl) (by kernel_rfl) (by kernel_rfl) (fun _ _ _ h => h) (by assumption) (by assumption) (by rfl) (fun w hSw => by (try dsimp only at hSw); obtain ⟨hA, hB⟩ := hSw; go_simp) (fun hcl => ?_)
          (try simp only [Act.put, Zt, Zz, Zs])
          refine Rq.tk 3 (.int .i64 deep) (Rq.s (Rq.s (Rq.s Rq.z))) (by kernel_rfl) (by kernel_rfl) (by kernel_rfl) (by kernel_rfl) (fun _ _ _ h => h) (by assumption) (by assumption) (by rfl) (fun w hSw => by (try dsimp only at hSw); obtain ⟨hA, hB⟩ := hSw; go_simp) (fun hcl => ?_)
          (try simp only [Act.put, Zt, Zz, Zs])
          refine Rq.tk 4 (.int .i64 (deep + 1)) (Rq.s (Rq.s (Rq.s (Rq.s Rq.z)))) (by kernel_rfl) (by kernel_rfl) (by kernel_rfl) (by kernel_rfl) (fun _ _ _ h => h) (by assumption) (by assumption) (by rfl) (fun w hSw => by (try dsimp only at hSw); obtain ⟨hA, hB⟩ := hSw; go_simp) (fun hcl => ?_)
          (try simp only [Act.put, Zt, Zz, Zs])
          refine Rq.tk 7 (.pointer (some ⟨wo.heap.size, 16, none⟩)) (Rq.s (Rq.s (Rq.s (Rq.s (Rq.s (Rq.s (Rq.s Rq.z))))))) (by kernel_rfl) (by kernel_rfl) (by kernel_rfl) (by kernel_rfl) (fun _ _ _ h => h) (by assumption) (by assumption) (by rfl) (fun w hSw => by (try dsimp only at hSw); obtain ⟨hA, hB⟩ := hSw; go_simp) (fun hcl => ?_)
          (try simp only [Act.put, Zt, Zz, Zs])
          refine Rq.tk 8 (.slice q.el.ad q.el.len q.el.cap) (Rq.s (Rq.s (Rq.s (Rq.s (Rq.s (Rq.s (Rq.s (Rq.s Rq.z)))))))) (by kernel_rfl) (by kernel_rfl) (by kernel_rfl) (by kernel_rfl) (fun _ _ _ h => h) (by assumption) (by assumption) (by rfl) (fun w hSw => by (try dsimp only at hSw); obtain ⟨hA, hB⟩ := hSw; go_simp) (fun hcl => ?_)
          (try simp only [Act.put, Zt, Zz, Zs])
          refine Rq.tk 9 (.int .i64 deep) (Rq.s (Rq.s (Rq.s (Rq.s (Rq.s (Rq.s (Rq.s (Rq.s (Rq.s Rq.z))))))))) (by kernel_rfl) (by kernel_rfl) (by kernel_rfl) (by kernel_rfl) (fun _ _ _ h => h) (by assumption) (by assumption) (by rfl) (fun w hSw => by (try dsimp only at hSw); obtain ⟨hA, hB⟩ := hSw; go_simp) (fun hcl => ?_)
          (try simp only [Act.put, Zt, Zz, Zs])
          refine Rq.tk 10 (.int .i64 (deep + 1)) (Rq.s (Rq.s (Rq.s (Rq.s (Rq.s (Rq.s (Rq.s (Rq.s (Rq.s (Rq.s Rq.z)))))))))) (by kernel_rfl) (by kernel_rfl) (by kernel_rfl) (by kernel_rfl) (fun _ _ _ h => h) (by assumption) (by assumption) (by rfl) (fun w hSw => by (try dsimp only at hSw); obtain ⟨hA, hB⟩ := hSw; go_simp) (fun hcl => ?_)
          (try simp only [Act.put, Zt, Zz, Zs])
          refine Rq.on 5 (Rq.s (Rq.s (Rq.s (Rq.s (Rq.s Rq.z))))) (by kernel_rfl) (by assumption) (fun K hK => ?_)
          go_simp
          go_at_call 61
          refine ((uh HQ1) _ (uh HBW)).mono ?_
          rintro r w4 ⟨rfl, hb4⟩
          have HBw4 := Hd ((uh HBW).trans (hb4.mono (uh HBW).size))
          have hH4 : (fun V => V.cell? ⟨wo.heap.size, 15, none⟩ = some (.slice q.th.ad q.th.len q.th.cap) ∧ V.cell? ⟨wo.heap.size, 16, none⟩ = some (.slice q.el.ad q.el.len q.el.cap)) w4 := ⟨(hb4.cell (p := ⟨wo.heap.size, 15, none⟩) (by have := (uh HBW).size; show wo.heap.size < _; omega)).trans hHeld.1, (hb4.cell (p := ⟨wo.heap.size, 16, none⟩) (by have := (uh HBW).size; show wo.heap.size < _; omega)).trans hHeld.2⟩
          clear hb4
          go_simp
          refine hK _ _ (fun _ => hH4) (fun hcl => ?_)
          (try simp only [Act.put, Zt, Zz, Zs])
          clear hK K
          refine Rq.tk 6 (.int .i64 (1 + c1)) (Rq.s (Rq.s (Rq.s (Rq.s (Rq.s (Rq.s Rq.z)))))) (by kernel_rfl) (by kernel_rfl) (by kernel_rfl) (by kernel_rfl) (fun _ _ _ h => h) (by assumption) (by assumption) (by rfl) (fun w hSw => by (try dsimp only at hSw); obtain ⟨hA, hB⟩ := hSw; go_simp) (fun hcl => ?_)
          (try simp only [Act.put, Zt, Zz, Zs])
          refine Rq.on 11 (Rq.s (Rq.s (Rq.s (Rq.s (Rq.s (Rq.s (Rq.s (Rq.s (Rq.s (Rq.s (Rq.s Rq.z))))))))))) (by kernel_rfl) (by assumption) (fun K hK => ?_)
          go_simp
          go_at_call 61
          refine ((uh HQ2) _ (uh HBw4)).mono ?_
          rintro r w5 ⟨rfl, hb4⟩
          have HBw5 := Hd ((uh HBw4).trans (hb4.mono (uh HBw4).size))
          have hH5 : (fun V => V.cell? ⟨wo.heap.size, 15, none⟩ = some (.slice q.th.ad q.th.len q.th.cap) ∧ V.cell? ⟨wo.heap.size, 16, none⟩ = some (.slice q.el.ad q.el.len q.el.cap)) w5 := ⟨(hb4.cell (p := ⟨wo.heap.size, 15, none⟩) (by have := (uh HBw4).size; show wo.heap.size < _; omega)).trans hH4.1, (hb4.cell (p := ⟨wo.heap.size, 16, none⟩) (by have := (uh HBw4).size; show wo.heap.size < _; omega)).trans hH4.2⟩
          clear hb4
          go_simp
          refine hK _ _ (fun _ => hH5) (fun hcl => ?_)
          (try simp only [Act.put, Zt, Zz, Zs])
          clear hK K
          refine Rq.tk 12 (.int .i64 (1 + c1 + c2)) (Rq.s (Rq.s (Rq.s (Rq.s (Rq.s (Rq.s (Rq.s (Rq.s (Rq.s (Rq.s (Rq.s (Rq.s Rq.z)))))))))))) (by kernel_rfl) (by kernel_rfl) (by kernel_rfl) (by kernel_rfl) (fun _ _ _ h => h) (by assumption) (by assumption) (by rfl) (fun w hSw => by (try dsimp only at hSw); obtain ⟨hA, hB⟩ := hSw; go_simp) (fun hcl => ?_)
          (try simp only [Act.put, Zt, Zz, Zs])
          refine Rq.tk 13 (.int .i64 (a + (1 + c1 + c2))) (Rq.s (Rq.s (Rq.s (Rq.s (Rq.s (Rq.s (Rq.s (Rq.s (Rq.s (Rq.s (Rq.s (Rq.s (Rq.s Rq.z))))))))))))) (by kernel_rfl) (by kernel_rfl) (by kernel_rfl) (by kernel_rfl) (fun _ _ _ h => h) (by assumption) (by assumption) (by rfl) (fun w hSw => by (try dsimp only at hSw); obtain ⟨hA, hB⟩ := hSw; go_simp) (fun hcl => ?_)
          (try simp only [Act.put, Zt, Zz, Zs])
          refine Rq.on 14 (Rq.s (Rq.s (Rq.s (Rq.s (Rq.s (Rq.s (Rq.s (Rq.s (Rq.s (Rq.s (Rq.s (Rq.s (Rq.s (Rq.s Rq.z)))))))))))))) (by kernel_rfl) (by assumption) (fun K hK => ?_)
          go_simp
          refine hK _ _ (fun e => absurd e (by decide)) (fun hcl => ?_)
          (try simp only [Act.put, Zt, Zz, Zs])
          refine Rq.done (by kernel_rfl) ?_ _
          clear hK K hcl
          go_wp2_with fail
          exact ⟨⟨i + 1, _, by omega, by go_num, rfl, (uh HST3).symm, by omega, by omega, (uh HBN).trans ((uh HBw5).mono (by omega))⟩, by simp [intOf]; omega⟩
       have hfin : Hid (ZaL (n + 1) deep l = min a 41) := by
        show _ = _
        rw [uh HCN, Zfz l i (by rw [← uh HL]; omega), ← uh HL]
       by_cases h41 : 41 < a
       · have hv : Hid (ZaL (n + 1) deep l = 41) := by show _ = _; rw [uh hfin]; omega
         go_wp2_with fail
         go_ret
         exact ⟨Za2 (uh hv).symm, uh HBE⟩
       have hv : Hid (ZaL (n + 1) deep l = a) := by show _ = _; rw [uh hfin]; omega
       go_wp2_with fail
       go_ret
       exact ⟨Za2 (uh hv).symm, uh HBE⟩
     have hfin : Hid (ZaL (n + 1) deep l = min a 41) := by
      show _ = _
      rw [uh HCN, uh HL, List.take_of_length_le (by have := uh HLN; omega)]
     by_cases h41 : 41 < a
     · have hv : Hid (ZaL (n + 1) deep l = 41) := by show _ = _; rw [uh hfin]; omega
       go_wp2_with fail
       go_ret
       exact ⟨Za2 (uh hv).symm, uh HBE⟩
     have hv : Hid (ZaL (n + 1) deep l = a) := by show _ = _; rw [uh hfin]; omega
     go_wp2_with fail
     go_ret
     exact ⟨Za2 (uh hv).symm, uh HBE⟩
  have g0 : ¬ (0 : Int) < (s.len : Int) := by omega
  have e0 : s.len = 0 := by omega
  have hv : Hid (ZaL (n + 1) deep l = 0) := by
   show _ = _
   rw [uh HCN, List.length_eq_zero_iff.1 (show l.length = 0 by have := uh HLN; omega)]
   rfl
  rw [e0]
  go_enter Tryz.func61, Tryz.ntmps61
  (try simp only [List.append_eq, List.cons_append, List.nil_append])
  go_wp2_with fail
  go_loopw [5, 6] (fun nv iv wr => nv = .int .i64 0 ∧ iv = .int .i64 0 ∧ wr = w) (fun _ iv _ => 0)
  case atStart => exact ⟨rfl, rfl, rfl⟩
  case round =>
   obtain ⟨rfl, rfl, rfl⟩ := hrel
   go_wp2_with fail
   go_ret
   exact ⟨Za2 (uh hv).symm, Zr⟩
end Go.Proofs.YtfccpddehpgfoaaGreatDoor
