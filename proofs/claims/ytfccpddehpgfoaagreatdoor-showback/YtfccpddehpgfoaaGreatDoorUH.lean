/- By the verifier. -/
import Derived.Test.YtfccpddehpgfoaaGreatDoorTEl
set_option maxRecDepth 100000
set_option maxHeartbeats 1600000
namespace Go.Proofs.YtfccpddehpgfoaaGreatDoor
open Go.RowKit
set_option linter.unusedVariables false
def ZaL {m : Nat} : (n : Nat) → (deep : Int) → List (Zap m n) → Int
 | 0, _, _ => 0
 | n + 1, deep, l => if 0 < l.length ∧ 5 < deep then 41 else
   min (l.foldl (fun a y => if 40 < a then a else if Tk.long y = true then 41 else a + (1 + ZaL n (deep + 1) y.2.2.1 + ZaL n (deep + 1) y.2.2.2)) 0) 41
def Za7 (left c : Int) : Int := if left < 0 then -1 else if c ≤ left then left - c else -1
theorem ZgI (a c d : Int) (ha : -1 ≤ a) (hc : 0 ≤ c) (hd : 0 ≤ d) : Za7 (Za7 a c) d = Za7 a (c + d) := by
 unfold Za7
 repeat' split
 all_goals omega
theorem Zdw {m : Nat} : ∀ (n : Nat) (deep : Int) (l : List (Zap m n)), 0 ≤ ZaL n deep l ∧ ZaL n deep l ≤ 41 ∧
  ∀ left : Int, -1 ≤ left → left ≤ 40 → Zae n deep left l = Za7 left (ZaL n deep l) := by
 intro n
 induction n with
 | zero =>
  intro deep l
  refine ⟨Int.le_refl 0, by show (0 : Int) ≤ 41; omega, ?_⟩
  intro left h1 h2
  show left = Za7 left 0
  unfold Za7
  repeat' split
  all_goals omega
 | succ n ih =>
  intro deep l
  by_cases hd : 5 < deep
  · cases l with
    | nil =>
     have e : ZaL (n + 1) deep ([] : List (Zap m (n + 1))) = 0 := by
      show (if 0 < ([] : List (Zap m (n + 1))).length ∧ 5 < deep then (41 : Int) else min 0 41) = 0
      rw [if_neg (by simp)]; rfl
     rw [e]
     refine ⟨Int.le_refl 0, by omega, ?_⟩
     intro left h1 h2
     show left = Za7 left 0
     unfold Za7
     repeat' split
     all_goals omega
    | cons y r =>
     have e : ZaL (n + 1) deep (y :: r) = 41 := if_pos ⟨Nat.succ_pos _, hd⟩
     rw [e]
     refine ⟨by omega, by omega, ?_⟩
     intro left h1 h2
     have hf : ∀ (q : List (Zap m (n + 1))), q.foldl (fun a y => if a ≤ 0 ∨ 5 < deep ∨ Tk.long y = true then (-1 : Int) else Zae n (deep + 1) (Zae n (deep + 1) (a - 1) y.2.2.1) y.2.2.2) (-1) = -1 := by
      intro q
      induction q with
      | nil => rfl
      | cons z q iq => rw [List.foldl_cons, if_pos (Or.inl (by omega))]; exact iq
     show List.foldl _ left (y :: r) = _
     rw [List.foldl_cons, if_pos (Or.inr (Or.inl hd)), hf r]
     unfold Za7
     repeat' split
     all_goals omega
  have e : ZaL (n + 1) deep l = min (l.foldl (fun a y => if 40 < a then a else if Tk.long y = true then 41 else a + (1 + ZaL n (deep + 1) y.2.2.1 + ZaL n (deep + 1) y.2.2.2)) 0) 41 := if_neg (fun h => hd h.2)
  have main : ∀ (q : List (Zap m (n + 1))) (b : Int), 0 ≤ b →
    0 ≤ q.foldl (fun a y => if 40 < a then a else if Tk.long y = true then 41 else a + (1 + ZaL n (deep + 1) y.2.2.1 + ZaL n (deep + 1) y.2.2.2)) b ∧
    ∀ left : Int, -1 ≤ left → left ≤ 40 →
     q.foldl (fun a y => if a ≤ 0 ∨ 5 < deep ∨ Tk.long y = true then (-1 : Int) else Zae n (deep + 1) (Zae n (deep + 1) (a - 1) y.2.2.1) y.2.2.2) (Za7 left b) =
     Za7 left (q.foldl (fun a y => if 40 < a then a else if Tk.long y = true then 41 else a + (1 + ZaL n (deep + 1) y.2.2.1 + ZaL n (deep + 1) y.2.2.2)) b) := by
   intro q
   induction q with
   | nil => intro b hb; exact ⟨hb, fun _ _ _ => rfl⟩
   | cons y q iq =>
    intro b hb
    obtain ⟨t0, t1, t2⟩ := ih (deep + 1) y.2.2.1
    obtain ⟨s0, s1, s2⟩ := ih (deep + 1) y.2.2.2
    simp only [List.foldl_cons]
    have hb2 : 0 ≤ (if 40 < b then b else if Tk.long y = true then 41 else b + (1 + ZaL n (deep + 1) y.2.2.1 + ZaL n (deep + 1) y.2.2.2)) := by
     repeat' split
     all_goals omega
    obtain ⟨i1, i2⟩ := iq _ hb2
    refine ⟨i1, ?_⟩
    intro left h1 h2
    rw [← i2 left h1 h2]
    congr 1
    by_cases hlo : Tk.long y = true
    · rw [if_pos (Or.inr (Or.inr hlo)), if_pos hlo]
      unfold Za7
      repeat' split
      all_goals omega
    rw [if_neg hlo]
    by_cases ha : Za7 left b ≤ 0
    · rw [if_pos (Or.inl ha)]
      unfold Za7 at *
      repeat' split
      all_goals (first | omega | (split at ha <;> omega) | (repeat' split at ha) <;> omega)
    rw [if_neg (fun h => h.elim ha (fun h => h.elim hd hlo))]
    have hl : 0 ≤ left ∧ b ≤ left ∧ Za7 left b = left - b := by
     unfold Za7 at ha ⊢
     by_cases q1 : left < 0
     · rw [if_pos q1] at ha; omega
     rw [if_neg q1] at ha ⊢
     by_cases q2 : b ≤ left
     · rw [if_pos q2]; omega
     rw [if_neg q2] at ha; omega
    obtain ⟨l1, l2, l3⟩ := hl
    rw [l3] at ha ⊢
    rw [t2 (left - b - 1) (by omega) (by omega)]
    have hq : -1 ≤ Za7 (left - b - 1) (ZaL n (deep + 1) y.2.2.1) ∧ Za7 (left - b - 1) (ZaL n (deep + 1) y.2.2.1) ≤ 40 := by
     unfold Za7
     repeat' split
     all_goals omega
    rw [s2 _ hq.1 hq.2, ZgI _ _ _ (by omega) t0 s0, if_neg (show ¬ 40 < b by omega)]
    unfold Za7
    repeat' split
    all_goals omega
  obtain ⟨m1, m2⟩ := main l 0 (Int.le_refl 0)
  rw [e]
  refine ⟨by omega, by omega, ?_⟩
  intro left h1 h2
  have h3 := m2 left h1 h2
  have h4 : Za7 left 0 = left := by
   unfold Za7
   repeat' split
   all_goals omega
  rw [h4] at h3
  show List.foldl _ left l = _
  rw [h3]
  unfold Za7
  repeat' split
  all_goals omega
def ZbD {m n : Nat} : Int → List (Tk.FT m n) → Bool
 | c, [] => decide (40 < c)
 | c, f :: r => decide (3 < f.ps.length) || decide (6 < f.vs.length) || decide (15 < Zab m f.re) || ZbD (c + ZaL n 1 f.cs) r
def Dk.many {m n : Nat} (l : List (Tk.FT m n)) : Bool := decide (6 < l.length) || ZbD 0 l
theorem Zib {m n : Nat} : ∀ (l : List (Tk.FT m n)) (c : Int), 0 ≤ c → ZbD c l = (decide (40 < c) || ZaN (Za7 40 c) l) := by
 intro l
 induction l with
 | nil => intro c hc; show decide (40 < c) = (decide (40 < c) || false); rw [Bool.or_false]
 | cons f r ih =>
  intro c hc
  obtain ⟨t0, t1, t2⟩ := Zdw n 1 f.cs
  have h1 : -1 ≤ Za7 40 c ∧ Za7 40 c ≤ 40 := by
   unfold Za7
   repeat' split
   all_goals omega
  have h2 : Zae n 1 (Za7 40 c) f.cs = Za7 40 (c + ZaL n 1 f.cs) := by
   rw [t2 _ h1.1 h1.2, ZgI _ _ _ (by omega) hc t0]
  have h3 : decide (Za7 40 (c + ZaL n 1 f.cs) < 0) = decide (40 < c + ZaL n 1 f.cs) := by
   rw [decide_eq_decide]
   unfold Za7
   repeat' split
   all_goals omega
  show (decide (3 < f.ps.length) || decide (6 < f.vs.length) || decide (15 < Zab m f.re) || ZbD (c + ZaL n 1 f.cs) r) =
   (decide (40 < c) || (decide (3 < f.ps.length) || decide (6 < f.vs.length) || decide (15 < Zab m f.re) || decide (Zae n 1 (Za7 40 c) f.cs < 0) || ZaN (Zae n 1 (Za7 40 c) f.cs) r))
  rw [h2, h3, ih _ (by omega)]
  by_cases hb : 40 < c
  · rw [decide_eq_true hb, decide_eq_true (show 40 < c + ZaL n 1 f.cs by omega)]
    simp
  rw [decide_eq_false hb]
  simp only [Bool.false_or, Bool.or_assoc]
theorem Zjy {m n : Nat} (l : List (Tk.FT m n)) : Dk.many l = Zcs l := by
 unfold Dk.many Zcs
 rw [Zib l 0 (Int.le_refl 0)]
 rfl
theorem ZeG (n : Nat) (e : Tk.E) (x : Zat n) (w : World) (h : Tk.RE w n e x) :
  Calls Tryz.prog 29 #[e.val] w fun r w' => r = .returned (.bool (Zb3 n x)) ∧ Below w.heap.size w w' := by
 have hbA := (Below.refl w.heap.size w).alloc Zl (Obj.cells #[.int .i64 e.k, .int .i64 e.a, .int .i64 e.n, .string e.nm, .slice e.args.ad e.args.len e.args.cap] 52)
 have HB := Hd hbA
 obtain ⟨n, rfl⟩ : ∃ m, n = m + 1 := by
  cases n with
  | zero => exact absurd h id
  | succ m => exact ⟨m, rfl⟩
 obtain ⟨⟨f1, f2, f3, f4, f5⟩, hs⟩ := h
 have hx : Zb3 (n + 1) x = ((e.k == 0) && (e.n == 0) && e.nm.toList.isEmpty && ((e.args.len : Int) == 0)) := by
  show (decide (x.1.1 = 0) && decide (x.1.2.2.1 = 0) && x.1.2.2.2.toList.isEmpty && decide (x.2.length = 0)) = _
  rw [← f1, ← f3, ← f4, ← hs.len]
  have e1 : ∀ z : Int, (z == 0) = decide (z = 0) := fun z => rfl
  rw [e1, e1, e1]
  congr 1
  rw [decide_eq_decide]
  omega
 rw [hx]
 clear hx hs f1 f2 f3 f4 f5 hbA
 unfold Tk.E.val
 cases h1 : (e.k == 0)
 · go_enter Tryz.func29, Tryz.ntmps29
   go_wp2_with fail
   go_ret
   exact ⟨rfl, uh HB⟩
 cases h2 : (e.n == 0)
 · go_enter Tryz.func29, Tryz.ntmps29
   go_wp2_with fail
   go_ret
   exact ⟨rfl, uh HB⟩
 cases h3 : e.nm.toList.isEmpty
 · go_enter Tryz.func29, Tryz.ntmps29
   go_wp2_with fail
   go_ret
   exact ⟨rfl, uh HB⟩
 go_enter Tryz.func29, Tryz.ntmps29
 go_wp2_with fail
 go_ret
 exact ⟨rfl, uh HB⟩
theorem ZkS {α : Type} : ∀ {l : List α}, l.length = 2 → ∃ a b, l = [a, b]
 | [a, b], _ => ⟨a, b, rfl⟩
theorem Zlj (e : Tk.E) (w : World) (c1 : (e.k == 1) = true) : Calls Tryz.prog 28 #[e.val] w fun r w' => r = .returned (.bool (e.nm.toList.isEmpty && ((e.args.len : Int) == 0) && ZcL e.n (-9999999) 9999999)) ∧ Below w.heap.size w w' := by
 have HB := Hd ((Below.refl w.heap.size w).alloc Zl (Obj.cells #[.int .i64 e.k, .int .i64 e.a, .int .i64 e.n, .string e.nm, .slice e.args.ad e.args.len e.args.cap] 52))
 unfold Tk.E.val
 cases h1 : e.nm.toList.isEmpty
 · go_enter Tryz.func28, Tryz.ntmps28
   go_wp2_with fail
   go_ret
   exact ⟨rfl, uh HB⟩
 cases h2 : ((e.args.len : Int) == 0)
 · go_enter Tryz.func28, Tryz.ntmps28
   go_wp2_with fail
   go_ret
   exact ⟨rfl, uh HB⟩
 go_enter Tryz.func28, Tryz.ntmps28
 go_wp2_with fail
 refine (Zbz _ _ _ _).mono ?_
 rintro r w1 ⟨rfl, hw1⟩
 have hw2 := hw1.symm
 clear hw1
 subst hw2
 go_wp2_with fail
 go_ret
 exact ⟨rfl, uh HB⟩
theorem Zk2 (e : Tk.E) (w : World) (hnm : e.nm.size ≤ maxLen) (c1 : (e.k == 1) = false) (c2 : (e.k == 2) = true) : Calls Tryz.prog 28 #[e.val] w fun r w' => r = .returned (.bool ((e.n == 0) && ((e.args.len : Int) == 0) && Zam e.nm)) ∧ Below w.heap.size w w' := by
 have HB := Hd ((Below.refl w.heap.size w).alloc Zl (Obj.cells #[.int .i64 e.k, .int .i64 e.a, .int .i64 e.n, .string e.nm, .slice e.args.ad e.args.len e.args.cap] 52))
 have HNM := Hd hnm
 clear hnm
 unfold Tk.E.val
 cases h1 : (e.n == 0)
 · go_enter Tryz.func28, Tryz.ntmps28
   go_wp2_with fail
   go_ret
   exact ⟨rfl, uh HB⟩
 cases h2 : ((e.args.len : Int) == 0)
 · go_enter Tryz.func28, Tryz.ntmps28
   go_wp2_with fail
   go_ret
   exact ⟨rfl, uh HB⟩
 go_enter Tryz.func28, Tryz.ntmps28
 go_wp2_with fail
 refine (ZbB e.nm _ (uh HNM)).mono ?_
 rintro r w1 ⟨rfl, hb1⟩
 have HB1 := Hd ((uh HB).trans (hb1.mono (by simp)))
 clear hb1
 go_wp2_with fail
 go_ret
 exact ⟨rfl, uh HB1⟩
theorem Zjj (n : Nat) (ih : ∀ (e : Tk.E) (x : Zat n) (w : World), Tk.RE w n e x → Calls Tryz.prog 28 #[e.val] w fun r w' => r = .returned (.bool (Zac n x)) ∧ Below w.heap.size w w') (e : Tk.E) (w : World) (l : List (Zat n)) (hnm : e.nm.size ≤ maxLen) (hs : Tk.RS w 5 (Tk.ELies w) (Tk.RE w n) e.args l) (c1 : (e.k == 1) = false) (c2 : (e.k == 2) = false) (c3 : (e.k == 3) = true) : Calls Tryz.prog 28 #[e.val] w fun r w' => r = .returned (.bool ((e.n == 0) && ((e.args.len : Int) == 1) && Zam e.nm && l.all (Zac n))) ∧ Below w.heap.size w w' := by
 have HB := Hd ((Below.refl w.heap.size w).alloc Zl (Obj.cells #[.int .i64 e.k, .int .i64 e.a, .int .i64 e.n, .string e.nm, .slice e.args.ad e.args.len e.args.cap] 52))
 have hb0 := (Below.refl w.heap.size w).alloc Zl (Obj.cells #[.int .i64 e.k, .int .i64 e.a, .int .i64 e.n, .string e.nm, .slice e.args.ad e.args.len e.args.cap] 52)
 have HNM := Hd hnm
 have IH := Hd ih
 clear hnm ih
 unfold Tk.E.val
 cases h1 : (e.n == 0)
 · go_enter Tryz.func28, Tryz.ntmps28
   go_wp2_with fail
   go_ret
   exact ⟨rfl, uh HB⟩
 cases h2 : ((e.args.len : Int) == 1)
 · go_enter Tryz.func28, Tryz.ntmps28
   go_wp2_with fail
   go_ret
   exact ⟨rfl, uh HB⟩
 have hlen1 : (e.args.len : Int) = 1 := by simpa using h2
 obtain ⟨x0, rfl⟩ : ∃ x0, l = [x0] := List.length_eq_one_iff.1 (by have := hs.len; omega)
 obtain ⟨b0, o0, q0, had0, hlt0, hlies0, hrd0⟩ := hs.at_ 0 x0 rfl
 rw [show [x0].all (Zac n) = Zac n x0 by simp]
 have HL := Hd (fun (V : World) (hb : Below w.heap.size w V) => hlies0.later hb Zl hlt0)
 have HR := Hd (fun (V : World) (hb : Below w.heap.size w V) => hrd0.later hb Zl)
 have HAD := Hd had0
 clear hlies0 hrd0 hs hb0 had0
 go_enter Tryz.func28, Tryz.ntmps28
 go_wp2_with fail
 refine (ZbB e.nm _ (uh HNM)).mono ?_
 rintro r w1 ⟨rfl, hb1⟩
 have hb1' : Below (w.heap.size + 1) (w.alloc (.cells #[.int .i64 e.k, .int .i64 e.a, .int .i64 e.n, .string e.nm, .slice e.args.ad e.args.len e.args.cap] 52)) w1 := by refine hb1.mono ?_; simp
 obtain ⟨q0', q1', q2', q3', q4'⟩ := Zcm hb1'
 have HB1 := Hd ((uh HB).trans (hb1.mono (uh HB).size))
 have hz1 := hb1.size
 clear hb1 hb1'
 cases h3 : Zam e.nm
 · go_wp2_with fail
   go_ret
   exact ⟨by rw [h3]; rfl, uh HB1⟩
 obtain ⟨p0, p1, p2, p3, p4⟩ := (uh HL) w1 (uh HB1)
 simp only [Nat.zero_mul, Nat.add_zero] at p0 p1 p2 p3 p4
 have HRR := Hd ((uh HR) w1 (uh HB1))
 clear HL HR
 rw [uh HAD] at q4'
 have i0 : (0 : Int) < (e.args.len : Int) := by omega
 go_wp2_with fail
 refine ((uh IH) q0 x0 _ (uh HRR)).mono ?_
 rintro r w2 ⟨rfl, hb2⟩
 have HB2 := Hd ((uh HB1).trans (hb2.mono (uh HB1).size))
 clear hb2
 go_wp2_with fail
 go_ret
 exact ⟨by rw [h3]; rfl, uh HB2⟩
theorem ZkB (n : Nat) (ih : ∀ (e : Tk.E) (x : Zat n) (w : World), Tk.RE w n e x → Calls Tryz.prog 28 #[e.val] w fun r w' => r = .returned (.bool (Zac n x)) ∧ Below w.heap.size w w') (e : Tk.E) (w : World) (l : List (Zat n)) (hs : Tk.RS w 5 (Tk.ELies w) (Tk.RE w n) e.args l) (c1 : (e.k == 1) = false) (c2 : (e.k == 2) = false) (c3 : (e.k == 3) = false) (c4 : 4 ≤ e.k) (c5 : e.k ≤ 10) : Calls Tryz.prog 28 #[e.val] w fun r w' => r = .returned (.bool ((e.n == 0) && e.nm.toList.isEmpty && ((e.args.len : Int) == 2) && l.all (Zac n))) ∧ Below w.heap.size w w' := by
 have HB := Hd ((Below.refl w.heap.size w).alloc Zl (Obj.cells #[.int .i64 e.k, .int .i64 e.a, .int .i64 e.n, .string e.nm, .slice e.args.ad e.args.len e.args.cap] 52))
 have g4 : ZcL e.k 4 10 = true := decide_eq_true ⟨c4, c5⟩
 have hb0 := (Below.refl w.heap.size w).alloc Zl (Obj.cells #[.int .i64 e.k, .int .i64 e.a, .int .i64 e.n, .string e.nm, .slice e.args.ad e.args.len e.args.cap] 52)
 have IH := Hd ih
 clear ih
 unfold Tk.E.val
 cases h1 : (e.n == 0)
 · go_enter Tryz.func28, Tryz.ntmps28
   go_wp2_with fail
   refine (Zbz _ _ _ _).mono ?_
   rintro r w1 ⟨rfl, hw1⟩
   have hw2 := hw1.symm
   clear hw1
   subst hw2
   go_wp2_with fail
   go_ret
   exact ⟨rfl, uh HB⟩
 cases h2 : e.nm.toList.isEmpty
 · go_enter Tryz.func28, Tryz.ntmps28
   go_wp2_with fail
   refine (Zbz _ _ _ _).mono ?_
   rintro r w1 ⟨rfl, hw1⟩
   have hw2 := hw1.symm
   clear hw1
   subst hw2
   go_wp2_with fail
   go_ret
   exact ⟨rfl, uh HB⟩
 cases h3 : ((e.args.len : Int) == 2)
 · go_enter Tryz.func28, Tryz.ntmps28
   go_wp2_with fail
   refine (Zbz _ _ _ _).mono ?_
   rintro r w1 ⟨rfl, hw1⟩
   have hw2 := hw1.symm
   clear hw1
   subst hw2
   go_wp2_with fail
   go_ret
   exact ⟨rfl, uh HB⟩
 have hlen2 : (e.args.len : Int) = 2 := by simpa using h3
 obtain ⟨x0, x1, rfl⟩ := ZkS (show l.length = 2 by have := hs.len; omega)
 obtain ⟨b0, o0, q0, had0, hlt0, hlies0, hrd0⟩ := hs.at_ 0 x0 rfl
 obtain ⟨b1, o1, q1, had1, hlt1, hlies1, hrd1⟩ := hs.at_ 1 x1 rfl
 rw [show [x0, x1].all (Zac n) = (Zac n x0 && Zac n x1) by simp]
 have eb : b1 = b0 ∧ o1 = o0 := by
  rw [had0] at had1
  have e9 := Addr.mk.inj (Option.some.inj had1)
  exact ⟨e9.1.symm, e9.2.1.symm⟩
 obtain ⟨rfl, rfl⟩ := eb
 have HL0 := Hd (fun (V : World) (hb : Below w.heap.size w V) => hlies0.later hb Zl hlt0)
 have HL1 := Hd (fun (V : World) (hb : Below w.heap.size w V) => hlies1.later hb Zl hlt0)
 have HR0 := Hd (fun (V : World) (hb : Below w.heap.size w V) => hrd0.later hb Zl)
 have HR1 := Hd (fun (V : World) (hb : Below w.heap.size w V) => hrd1.later hb Zl)
 have HAD := Hd had0
 clear hlies0 hrd0 hlies1 hrd1 hs hb0 had0 had1
 have i0 : (0 : Int) < (e.args.len : Int) := by omega
 have i1 : (1 : Int) < (e.args.len : Int) := by omega
 obtain ⟨p0, p1, p2, p3, p4⟩ := (uh HL0) _ (uh HB)
 simp only [Nat.zero_mul, Nat.add_zero] at p0 p1 p2 p3 p4
 have HRR := Hd ((uh HR0) _ (uh HB))
 go_enter Tryz.func28, Tryz.ntmps28
 go_wp2_with fail
 refine (Zbz _ _ _ _).mono ?_
 rintro r w1 ⟨rfl, hw1⟩
 have hw2 := hw1.symm
 clear hw1
 subst hw2
 obtain ⟨k0, k1, k2, k3, k4⟩ := Zcm (e := e) (Below.refl (w.heap.size + 1) (w.alloc (.cells #[.int .i64 e.k, .int .i64 e.a, .int .i64 e.n, .string e.nm, .slice e.args.ad e.args.len e.args.cap] 52)))
 have K4 := Hd k4
 have hsA : (w.alloc (.cells #[.int .i64 e.k, .int .i64 e.a, .int .i64 e.n, .string e.nm, .slice e.args.ad e.args.len e.args.cap] 52)).heap.size = w.heap.size + 1 := by simp
 generalize (w.alloc (.cells #[.int .i64 e.k, .int .i64 e.a, .int .i64 e.n, .string e.nm, .slice e.args.ad e.args.len e.args.cap] 52)) = wA at *
 rw [uh HAD] at k4
 go_wp2_with fail
 refine ((uh IH) q0 x0 _ (uh HRR)).mono ?_
 rintro r w1 ⟨rfl, hb1⟩
 have q4' := (hb1.cell (p := ⟨w.heap.size, 4, none⟩) (by show w.heap.size < _; omega)).trans (uh K4)
 have HB1 := Hd ((uh HB).trans (hb1.mono (uh HB).size))
 have hz1 := hb1.size
 clear hb1 p0 p1 p2 p3 p4 k0 k1 k2 k3 k4
 cases h4 : Zac n x0
 · go_wp2_with fail
   go_ret
   exact ⟨by rw [h4]; rfl, uh HB1⟩
 obtain ⟨p0, p1, p2, p3, p4⟩ := (uh HL1) w1 (uh HB1)
 simp only [Nat.one_mul, Nat.add_assoc, Nat.reduceAdd] at p0 p1 p2 p3 p4
 have HRS := Hd ((uh HR1) w1 (uh HB1))
 clear HL0 HR0 HL1 HR1
 rw [uh HAD] at q4'
 go_wp2_with fail
 refine ((uh IH) q1 x1 _ (uh HRS)).mono ?_
 rintro r w2 ⟨rfl, hb2⟩
 have HB2 := Hd ((uh HB1).trans (hb2.mono (uh HB1).size))
 clear hb2
 go_wp2_with fail
 go_ret
 exact ⟨by rw [h4]; rfl, uh HB2⟩
theorem Zgn (e : Tk.E) (w : World) (c1 : (e.k == 1) = false) (c2 : (e.k == 2) = false) (c3 : (e.k == 3) = false) (c4 : ¬ (4 ≤ e.k ∧ e.k ≤ 10)) : Calls Tryz.prog 28 #[e.val] w fun r w' => r = .returned (.bool false) ∧ Below w.heap.size w w' := by
 have HB := Hd ((Below.refl w.heap.size w).alloc Zl (Obj.cells #[.int .i64 e.k, .int .i64 e.a, .int .i64 e.n, .string e.nm, .slice e.args.ad e.args.len e.args.cap] 52))
 have g4 : ZcL e.k 4 10 = false := decide_eq_false c4
 unfold Tk.E.val
 go_enter Tryz.func28, Tryz.ntmps28
 go_wp2_with fail
 refine (Zbz _ _ _ _).mono ?_
 rintro r w1 ⟨rfl, hw1⟩
 have hw2 := hw1.symm
 clear hw1
 subst hw2
 go_wp2_with fail
 go_ret
 exact ⟨rfl, uh HB⟩
theorem Zea : ∀ (n : Nat) (e : Tk.E) (x : Zat n) (w : World), Tk.RE w n e x → Calls Tryz.prog 28 #[e.val] w fun r w' => r = .returned (.bool (Zac n x)) ∧ Below w.heap.size w w' := by
 intro n
 induction n with
 | zero => intro e x w h; exact absurd h id
 | succ n ih =>
  intro e x w h
  obtain ⟨⟨f1, f2, f3, f4, f5⟩, hs⟩ := h
  have hsp : Zac (n + 1) x = Zbj e.k e.n e.nm x.2.length (x.2.all (Zac n)) := by rw [f1, f3, f4]; rfl
  rw [hsp]
  have hlen := hs.len
  have el : ∀ c : Nat, decide (x.2.length = c) = ((e.args.len : Int) == (c : Int)) := fun c => by
   rw [Bool.eq_iff_iff, decide_eq_true_eq, beq_iff_eq]; omega
  have l0 : x.2.length = 0 → x.2.all (Zac n) = true := fun h => by rw [List.length_eq_zero_iff.1 h]; rfl
  rcases ZdI e.k e.n e.nm x.2.length (x.2.all (Zac n)) with ⟨c1, hc⟩ | ⟨c1, c2, hc⟩ | ⟨c1, c2, c3, hc⟩ | ⟨c1, c2, c3, ⟨c4, c5⟩, hc⟩ | ⟨c1, c2, c3, c4, hc⟩ | ⟨c1, c2, c3, c4, c5, hc⟩
  · rw [hc]
    refine (Zlj e w c1).mono fun r w' h => ⟨h.1.trans (congrArg (fun b => Ending.returned (.bool b)) ?_), h.2⟩
    have hn : Za6 e.k e.n = ZcL e.n (-9999999) 9999999 := by unfold Za6 ZcL; rw [c1]; rfl
    rw [hn, el 0]
    show _ = (((e.args.len : Int) == (0 : Int)) && e.nm.toList.isEmpty && x.2.all (Zac n) && _)
    by_cases h0 : x.2.length = 0
    · rw [l0 h0, Bool.and_true, Bool.and_comm e.nm.toList.isEmpty]
    have hz : ((e.args.len : Int) == 0) = false := by rw [beq_eq_false_iff_ne]; omega
    rw [hz]; simp
  · rw [hc]
    refine (Zk2 e w f5 c1 c2).mono fun r w' h => ⟨h.1.trans (congrArg (fun b => Ending.returned (.bool b)) ?_), h.2⟩
    have hn : Za6 e.k e.n = (e.n == 0) := by unfold Za6; rw [c1]; rfl
    rw [hn, el 0]
    show _ = (((e.args.len : Int) == (0 : Int)) && Zam e.nm && x.2.all (Zac n) && _)
    by_cases h0 : x.2.length = 0
    · rw [l0 h0, Bool.and_true, Bool.and_comm _ (e.n == 0), Bool.and_assoc]
    have hz : ((e.args.len : Int) == 0) = false := by rw [beq_eq_false_iff_ne]; omega
    rw [hz]; simp
  · rw [hc]
    have hn : Za6 e.k e.n = (e.n == 0) := by unfold Za6; rw [c1]; rfl
    rw [hn, el 1]
    refine (Zjj n ih e w x.2 f5 hs c1 c2 c3).mono fun r w' h => ⟨h.1.trans (congrArg (fun b => Ending.returned (.bool b)) ?_), h.2⟩
    show _ = (((e.args.len : Int) == (1 : Int)) && Zam e.nm && x.2.all (Zac n) && (e.n == 0))
    cases (e.n == 0) <;> simp
  · rw [hc]
    have hn : Za6 e.k e.n = (e.n == 0) := by unfold Za6; rw [c1]; rfl
    rw [hn, el 2]
    refine (ZkB n ih e w x.2 hs c1 c2 c3 c4 c5).mono fun r w' h => ⟨h.1.trans (congrArg (fun b => Ending.returned (.bool b)) ?_), h.2⟩
    show _ = (((e.args.len : Int) == (2 : Int)) && e.nm.toList.isEmpty && x.2.all (Zac n) && (e.n == 0))
    cases (e.n == 0) <;> cases e.nm.toList.isEmpty <;> simp
  · rw [hc]; exact Zgn e w c1 c2 c3 (fun h => c4 h.1)
  rw [hc]; exact Zgn e w c1 c2 c3 (fun h => c5 h.2)
section
variable {P : Program} {ty : TypeId} {cs z : Array Value} {d : TypeDesc} {size : Nat}
theorem Zd5 {Q : Exit → Act → World → Prop} {id tA tL tB p q a0 a1 b o i len cap : Nat} {oa ob o1 o2 o3 o4 : Oper} {T : List Value} {W : World} {tyS : TypeId}
  (ha : oa.op = .move (.tmp a0)) (da : oa.dst = some p) (ga : oa.guard = none) (hb : ob.op = .move (.tmp a1)) (db : ob.dst = some q) (gb : ob.guard = none)
  (h1 : o1.op = .indexAddr tyS (.tmp p) (.tmp q)) (d1 : o1.dst = some tA) (g1 : o1.guard = none) (h2 : o2.op = .load ty (.tmp tA)) (d2 : o2.dst = some tL) (g2 : o2.guard = none)
  (h3 : o3.op = .alloc ty) (d3 : o3.dst = some tB) (g3 : o3.guard = none) (h4 : o4.op = .store ty (.tmp tB) (.tmp tL)) (d4 : o4.dst = none) (g4 : o4.guard = none)
  (hp : T[a0]? = some (.slice (some ⟨b, o, none⟩) len cap)) (hq : T[a1]? = some (.int .i64 (i : Nat))) (lp : p < T.length) (lq : q < T.length) (n0 : p ≠ a1) (n3 : p ≠ q) (hlt : i < len) (l1 : tA < T.length) (l2 : tL < T.length) (l3 : tB < T.length) (n1 : tA ≠ tL) (n2 : tL ≠ tB)
  (huS : P.underlying tyS = some (.slice ty)) (hinf : (P.info? ty).map (fun i => (i.zero, i.size)) = some (some (.agg z), size)) (hz : z.size = size) (hcs : cs.size = size) (hu : P.underlying ty = some d) (hd : (match d with | .struct _ | .array _ _ => true | _ => false) = true)
  (hc : ∀ j v, cs[j]? = some v → W.cell? ⟨b, o + i * size + j, none⟩ = some v) (hone : ∀ v ∈ cs.toList, v.oneCell' = true)
  (h : Q .normal ⟨(((((T.set p (.slice (some ⟨b, o, none⟩) len cap)).set q (.int .i64 (i : Nat))).set tA (.pointer (some ⟨b, o + i * size, none⟩))).set tL (.agg cs)).set tB (.pointer (some ⟨W.heap.size, 0, none⟩))).toArray, []⟩ (W.alloc (.cells cs ty))) :
  (Code.region id #[oa, ob, o1, o2, o3, o4] false).wp P Q ⟨T.toArray, []⟩ W := by
 have hi : (P.info? ty).map (·.size) = some size := (zero_of_info hinf).2
 have hi2 : (P.info? ty).map (·.size) = some cs.size := by rw [hcs]; exact hi
 have hzero := (zero_of_info hinf).1
 have ea : (Act.eval ⟨T.toArray, []⟩ (.tmp a0)) = .slice (some ⟨b, o, none⟩) len cap := by simp [Act.eval, hp]
 refine wp_region_lit ?_
 refine wpList_plain ga fun Ka hKa => ?_
 unfold Oper.wp execOp
 simp only [ha, ea, Sem.run_pure]
 refine hKa _ _ (wpList_plain gb fun Kb hKb => ?_)
 have pa : (Act.put ⟨T.toArray, []⟩ oa.dst (.slice (some ⟨b, o, none⟩) len cap)) = ⟨(T.set p (.slice (some ⟨b, o, none⟩) len cap)).toArray, []⟩ := by rw [da]; simp [Act.put]
 rw [pa]
 unfold Oper.wp execOp
 have eb : (Act.eval ⟨(T.set p (.slice (some ⟨b, o, none⟩) len cap)).toArray, []⟩ (.tmp a1)) = .int .i64 (i : Nat) := by simp [Act.eval, List.getElem?_set_ne n0, hq]
 simp only [hb, eb, Sem.run_pure]
 have pb : (Act.put ⟨(T.set p (.slice (some ⟨b, o, none⟩) len cap)).toArray, []⟩ ob.dst (.int .i64 (i : Nat))) = ⟨((T.set p (.slice (some ⟨b, o, none⟩) len cap)).set q (.int .i64 (i : Nat))).toArray, []⟩ := by rw [db]; simp [Act.put]
 refine hKb _ _ ?_
 rw [pb]
 have hp2 : ((T.set p (.slice (some ⟨b, o, none⟩) len cap)).set q (.int .i64 (i : Nat)))[p]? = some (.slice (some ⟨b, o, none⟩) len cap) := by
  rw [List.getElem?_set_ne (Ne.symm n3), List.getElem?_set_self lp]
 have hq2 : ((T.set p (.slice (some ⟨b, o, none⟩) len cap)).set q (.int .i64 (i : Nat)))[q]? = some (.int .i64 (i : Nat)) := by
  rw [List.getElem?_set_self (by simp; exact lq)]
 have l1' : tA < ((T.set p (.slice (some ⟨b, o, none⟩) len cap)).set q (.int .i64 (i : Nat))).length := by simp; exact l1
 have l2' : tL < ((T.set p (.slice (some ⟨b, o, none⟩) len cap)).set q (.int .i64 (i : Nat))).length := by simp; exact l2
 have l3' : tB < ((T.set p (.slice (some ⟨b, o, none⟩) len cap)).set q (.int .i64 (i : Nat))).length := by simp; exact l3
 generalize ((T.set p (.slice (some ⟨b, o, none⟩) len cap)).set q (.int .i64 (i : Nat))) = U at *
 clear pa pb ea eb
 refine wpList_plain g1 fun K hK => ?_
 unfold Oper.wp execOp
 have e1 : (Act.eval ⟨U.toArray, []⟩ (.tmp p)) = .slice (some ⟨b, o, none⟩) len cap := by simp [Act.eval, hp2]
 have e2 : (Act.eval ⟨U.toArray, []⟩ (.tmp q)) = .int .i64 (i : Nat) := by simp [Act.eval, hq2]
 simp only [h1, e1, e2, Sem.run_bind, Sem.run_pure, Result.andThen_ok, ZfW huS hi hlt]
 refine hK _ _ (wpList_plain g2 fun K2 hK2 => ?_)
 have p1 : (Act.put ⟨U.toArray, []⟩ o1.dst (.pointer (some ⟨b, o + i * size, none⟩))) = ⟨(U.set tA (.pointer (some ⟨b, o + i * size, none⟩))).toArray, []⟩ := by rw [d1]; simp [Act.put]
 rw [p1]
 unfold Oper.wp execOp
 have e3 : (Act.eval ⟨(U.set tA (.pointer (some ⟨b, o + i * size, none⟩))).toArray, []⟩ (.tmp tA)) = .pointer (some ⟨b, o + i * size, none⟩) := by simp [Act.eval, l1']
 simp only [h2, e3, Instr.loadAt, Instr.sureAddr, Sem.run_bind, Sem.run_pure, Result.andThen_ok, Zho hc hu hd hi2]
 refine hK2 _ _ (wpList_plain g3 fun K3 hK3 => ?_)
 have p2 : (Act.put ⟨(U.set tA (.pointer (some ⟨b, o + i * size, none⟩))).toArray, []⟩ o2.dst (.agg cs)) = ⟨((U.set tA (.pointer (some ⟨b, o + i * size, none⟩))).set tL (.agg cs)).toArray, []⟩ := by rw [d2]; simp [Act.put]
 rw [p2]
 unfold Oper.wp execOp
 simp only [h3, Instr.alloc, Sem.run_bind, hzero, Result.andThen_ok, newVar, Value.cells]
 refine hK3 _ (W.alloc (.cells z ty)) (wpList_plain g4 fun K4 hK4 => ?_)
 have p3 : (Act.put ⟨((U.set tA (.pointer (some ⟨b, o + i * size, none⟩))).set tL (.agg cs)).toArray, []⟩ o3.dst (.pointer (some ⟨W.heap.size, 0, none⟩))) = ⟨(((U.set tA (.pointer (some ⟨b, o + i * size, none⟩))).set tL (.agg cs)).set tB (.pointer (some ⟨W.heap.size, 0, none⟩))).toArray, []⟩ := by rw [d3]; simp [Act.put]
 rw [p3]
 unfold Oper.wp execOp
 have e4 : (Act.eval ⟨(((U.set tA (.pointer (some ⟨b, o + i * size, none⟩))).set tL (.agg cs)).set tB (.pointer (some ⟨W.heap.size, 0, none⟩))).toArray, []⟩ (.tmp tB)) = .pointer (some ⟨W.heap.size, 0, none⟩) := by simp [Act.eval, l3']
 have e5 : (Act.eval ⟨(((U.set tA (.pointer (some ⟨b, o + i * size, none⟩))).set tL (.agg cs)).set tB (.pointer (some ⟨W.heap.size, 0, none⟩))).toArray, []⟩ (.tmp tL)) = .agg cs := by
  have hg : (((U.set tA (.pointer (some ⟨b, o + i * size, none⟩))).set tL (.agg cs)).set tB (.pointer (some ⟨W.heap.size, 0, none⟩)))[tL]? = some (.agg cs) := by
   rw [List.getElem?_set_ne (Ne.symm n2), List.getElem?_set_self (by simp; exact l2')]
  simp only [Act.eval, Array.getD_eq_getD_getElem?, List.getElem?_toArray, hg, Option.getD_some]
 simp only [h4, e4, e5, Instr.storeAt, Instr.sureAddr, Sem.run_bind, Sem.run_pure, Result.andThen_ok, run_storeVar_new W ty z cs hi2 (by omega) (Array.all_eq_true_iff_forall_mem.2 (fun v hv => hone v (by simpa using hv)))]
 refine hK4 _ _ ?_
 rw [d4]
 exact h
end
end Go.Proofs.YtfccpddehpgfoaaGreatDoor
