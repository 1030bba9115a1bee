/- By the verifier. -/
import Derived.Test.YtfccpddehpgfoaaGreatDoorUG
import Derived.Test.YtfccpddehpgfoaaGreatDoorTEl
import Derived.Deep.DeepCutAuto
set_option maxRecDepth 100000
set_option maxHeartbeats 3200000
namespace Go.Proofs.YtfccpddehpgfoaaGreatDoor
open Go.RowKit
set_option linter.unusedVariables false
theorem Zdv (n : Nat) (e : Tk.E) (x : Zat n) (named : Bool) (w : World) (h : Tk.RE w n e x) :
  Calls Tryz.prog 106 #[e.val, .bool named] w fun r w' => r = .returned (.bool (Zan n x named)) ∧ Below w.heap.size w w' := by
 have hbA := (Below.refl w.heap.size w).alloc Zl (Obj.cells #[.int .i64 e.k, .int .i64 e.a, .int .i64 e.n, .string e.nm, .slice e.args.ad e.args.len e.args.cap] 52)
 have HB := Hd hbA
 cases named
 · obtain ⟨n, rfl⟩ : ∃ m, n = m + 1 := by
    cases n with
    | zero => exact absurd h id
    | succ m => exact ⟨m, rfl⟩
   obtain ⟨⟨f1, f2, f3, f4, f5⟩, hs⟩ := h
   have hx : Zan (n + 1) x false = ((e.k == 0) && (e.n == 0) && e.nm.toList.isEmpty && ((e.args.len : Int) == 0)) := by
    show (decide (x.1.1 = 0) && decide (x.1.2.2.1 = 0) && x.1.2.2.2.toList.isEmpty && decide (x.2.length = 0)) = _
    rw [← f1, ← f3, ← f4, ← hs.len]
    have e1 : ∀ z : Int, (z == 0) = decide (z = 0) := fun z => rfl
    rw [e1, e1, e1]
    congr 1
    rw [decide_eq_decide]
    omega
   rw [hx]
   clear hx hs f1 f2 f3 f4 f5 hbA
   unfold Tk.E.val
   cases h1 : (e.k == 0)
   · go_enter Tryz.func106, Tryz.ntmps106
     go_wp2_with fail
     go_ret
     exact ⟨rfl, uh HB⟩
   cases h2 : (e.n == 0)
   · go_enter Tryz.func106, Tryz.ntmps106
     go_wp2_with fail
     go_ret
     exact ⟨rfl, uh HB⟩
   cases h3 : e.nm.toList.isEmpty
   · go_enter Tryz.func106, Tryz.ntmps106
     go_wp2_with fail
     go_ret
     exact ⟨rfl, uh HB⟩
   go_enter Tryz.func106, Tryz.ntmps106
   go_wp2_with fail
   go_ret
   exact ⟨rfl, uh HB⟩
 have HI := Hd (ZgE n e x _ (h.later hbA Zl))
 have hx : Zan n x true = Zac n x := rfl
 rw [hx]
 clear h hbA hx
 generalize Zac n x = y at *
 unfold Tk.E.val at *
 go_enter Tryz.func106, Tryz.ntmps106
 go_wp2_with fail
 refine (uh HI).mono ?_
 rintro r w1 ⟨rfl, hb1⟩
 have HB1 := Hd ((uh HB).trans (hb1.mono (uh HB).size))
 clear hb1
 go_wp2_with fail
 go_ret
 exact ⟨rfl, uh HB1⟩
def ZiD : Option (Bool × Bool × Bool × Bool × Bool × Bool × Bool) → Array Value
 | none => #[.bool false, .bool false, .bool false, .bool false, .bool false, .bool false, .bool false]
 | some (a, b, c, d, e, f, g) => #[.bool a, .bool b, .bool c, .bool d, .bool e, .bool f, .bool g]
theorem ZgV (k : Int) : (k = 1 ∧ ZaS k = some (true, false, false, true, false, false, false)) ∨ (k = 2 ∧ ZaS k = some (true, false, true, true, false, false, false)) ∨ (k = 3 ∧ ZaS k = some (true, true, false, false, true, false, false)) ∨
  (k = 4 ∧ ZaS k = some (true, false, false, false, false, false, false)) ∨ (k = 5 ∧ ZaS k = some (false, false, false, true, false, false, false)) ∨ (k = 6 ∧ ZaS k = some (false, false, false, true, false, true, true)) ∨
  (k = 7 ∧ ZaS k = some (false, false, false, true, false, true, false)) ∨ (((k == 1) = false ∧ (k == 2) = false ∧ (k == 3) = false ∧ (k == 4) = false ∧ (k == 5) = false ∧ (k == 6) = false ∧ (k == 7) = false) ∧ ZaS k = none) := by
 by_cases h1 : k = 1
 · subst h1; exact Or.inl ⟨rfl, rfl⟩
 by_cases h2 : k = 2
 · subst h2; exact Or.inr (Or.inl ⟨rfl, rfl⟩)
 by_cases h3 : k = 3
 · subst h3; exact Or.inr (Or.inr (Or.inl ⟨rfl, rfl⟩))
 by_cases h4 : k = 4
 · subst h4; exact Or.inr (Or.inr (Or.inr (Or.inl ⟨rfl, rfl⟩)))
 by_cases h5 : k = 5
 · subst h5; exact Or.inr (Or.inr (Or.inr (Or.inr (Or.inl ⟨rfl, rfl⟩))))
 by_cases h6 : k = 6
 · subst h6; exact Or.inr (Or.inr (Or.inr (Or.inr (Or.inr (Or.inl ⟨rfl, rfl⟩)))))
 by_cases h7 : k = 7
 · subst h7; exact Or.inr (Or.inr (Or.inr (Or.inr (Or.inr (Or.inr (Or.inl ⟨rfl, rfl⟩))))))
 refine Or.inr (Or.inr (Or.inr (Or.inr (Or.inr (Or.inr (Or.inr ⟨⟨?_, ?_, ?_, ?_, ?_, ?_, ?_⟩, ?_⟩))))))
 iterate 7 exact beq_eq_false_iff_ne.2 (by assumption)
 unfold ZaS
 rw [if_neg h1, if_neg h2, if_neg h3, if_neg h4, if_neg h5, if_neg h6, if_neg h7]
theorem ZhL (k : Int) (w : World) :
  Calls Tryz.prog 179 #[.int .i64 k] w fun r w' => r = .returned (.tuple #[.agg (ZiD (ZaS k)), .bool (ZaS k).isSome]) ∧ Below w.heap.size w w' := by
 rcases ZgV k with ⟨rfl, h⟩ | ⟨rfl, h⟩ | ⟨rfl, h⟩ | ⟨rfl, h⟩ | ⟨rfl, h⟩ | ⟨rfl, h⟩ | ⟨rfl, h⟩ | ⟨⟨h1, h2, h3, h4, h5, h6, h7⟩, h⟩
 all_goals
  rw [h]
  clear h
  go_enter Tryz.func179, Tryz.ntmps179
  go_wp2_with fail
  refine bodyPost_ret (by simp [results, Tryz.results179, go_sem]; rfl) rfl ?_
  exact ⟨rfl, Zr.alloc Zl _⟩
def Tk.BX (W : World) (b : Nat) (c : Tk.C) : Prop := ∀ j v, c.cells[j]? = some v → W.cell? ⟨b, j, none⟩ = some v
def Tk.C.val (c : Tk.C) : Value := .agg #[.int .i64 c.k, .int .i64 c.a, .string c.nm, .string c.ot, .int .i64 c.ix.k, .int .i64 c.ix.a, .int .i64 c.ix.n, .string c.ix.nm, .slice c.ix.args.ad c.ix.args.len c.ix.args.cap, .int .i64 c.ex.k, .int .i64 c.ex.a, .int .i64 c.ex.n, .string c.ex.nm, .slice c.ex.args.ad c.ex.args.len c.ex.args.cap, .slice c.args.ad c.args.len c.args.cap, .slice c.th.ad c.th.len c.th.cap, .slice c.el.ad c.el.len c.el.cap]
theorem Tk.BX.new (w : World) (c : Tk.C) : Tk.BX (w.alloc (Obj.cells #[.int .i64 c.k, .int .i64 c.a, .string c.nm, .string c.ot, .int .i64 c.ix.k, .int .i64 c.ix.a, .int .i64 c.ix.n, .string c.ix.nm, .slice c.ix.args.ad c.ix.args.len c.ix.args.cap, .int .i64 c.ex.k, .int .i64 c.ex.a, .int .i64 c.ex.n, .string c.ex.nm, .slice c.ex.args.ad c.ex.args.len c.ex.args.cap, .slice c.args.ad c.args.len c.args.cap, .slice c.th.ad c.th.len c.th.cap, .slice c.el.ad c.el.len c.el.cap] 56)) w.heap.size c := fun j v h => by go_simp; simpa [Tk.C.cells] using h
theorem ZdA (w : World) (c : Tk.C) : Tk.BX (w.alloc (Obj.cells c.cells 56)) w.heap.size c := fun j v h => by go_simp
theorem Tk.C.one (q : Tk.C) : ∀ v ∈ q.cells.toList, v.oneCell' = true := fun v hv => by simp [Tk.C.cells] at hv; rcases hv with h | h | h | h | h | h | h | h | h | h | h | h | h | h | h | h | h <;> subst h <;> rfl
def Tk.C.zero : Tk.C := ⟨0, 0, ⟨#[]⟩, ⟨#[]⟩, ⟨0, 0, 0, ⟨#[]⟩, ⟨none, 0, 0⟩⟩, ⟨0, 0, 0, ⟨#[]⟩, ⟨none, 0, 0⟩⟩, ⟨none, 0, 0⟩, ⟨none, 0, 0⟩, ⟨none, 0, 0⟩⟩
theorem ZaZ : (Tryz.prog.info? 56).map (fun i => (i.zero, i.size)) = some (some (.agg Tk.C.zero.cells), 17) := by kernel_rfl
theorem Tk.LC.cells {w : World} {b o : Nat} {c : Tk.C} (h : Tk.LC w b o c) : ∀ j v, c.cells[j]? = some v → w.cell? ⟨b, o + j, none⟩ = some v := by
 obtain ⟨p0, p1, p2, p3, ⟨x0, x1, x2, x3, x4⟩, ⟨e0, e1, e2, e3, e4⟩, p14, p15, p16⟩ := h
 simp only [Nat.add_assoc, Nat.reduceAdd] at x1 x2 x3 x4 e1 e2 e3 e4
 intro j v hj
 match j, hj with
 | 0, hj => cases hj; exact p0
 | 1, hj => cases hj; exact p1
 | 2, hj => cases hj; exact p2
 | 3, hj => cases hj; exact p3
 | 4, hj => cases hj; exact x0
 | 5, hj => cases hj; exact x1
 | 6, hj => cases hj; exact x2
 | 7, hj => cases hj; exact x3
 | 8, hj => cases hj; exact x4
 | 9, hj => cases hj; exact e0
 | 10, hj => cases hj; exact e1
 | 11, hj => cases hj; exact e2
 | 12, hj => cases hj; exact e3
 | 13, hj => cases hj; exact e4
 | 14, hj => cases hj; exact p14
 | 15, hj => cases hj; exact p15
 | 16, hj => cases hj; exact p16
 | j + 17, hj => simp [Tk.C.cells] at hj
theorem Tk.BX.below {W W' : World} {b n : Nat} {c : Tk.C} (h : Tk.BX W b c) (hb : Below n W W') (hn : b < n) : Tk.BX W' b c := fun j v hj => (hb.cell (p := ⟨b, j, none⟩) hn).trans (h j v hj)
theorem Zfi {m n : Nat} (c : Tk.C) (y : Zap m (n + 1)) (w : World) (h : Tk.RC w m (n + 1) c y) :
  Calls Tryz.prog 102 #[c.val] w fun r w' => r = .returned (.bool (Tk.long y)) ∧ Below w.heap.size w w' := by
 obtain ⟨-, ⟨hix, hex, hargs⟩, -⟩ := h
 have hbA := (Below.refl w.heap.size w).alloc Zl (Obj.cells #[.int .i64 c.k, .int .i64 c.a, .string c.nm, .string c.ot, .int .i64 c.ix.k, .int .i64 c.ix.a, .int .i64 c.ix.n, .string c.ix.nm, .slice c.ix.args.ad c.ix.args.len c.ix.args.cap, .int .i64 c.ex.k, .int .i64 c.ex.a, .int .i64 c.ex.n, .string c.ex.nm, .slice c.ex.args.ad c.ex.args.len c.ex.args.cap, .slice c.args.ad c.args.len c.args.cap, .slice c.th.ad c.th.len c.th.cap, .slice c.el.ad c.el.len c.el.cap] 56)
 have HB := Hd hbA
 have HBX := Hd (Tk.BX.new w c)
 have HIX := Hd (hix.later hbA Zl)
 have HEX := Hd (hex.later hbA Zl)
 have HAR := Hd (hargs.laterE hbA Zl)
 have hlen := hargs.len
 have hfew := hargs.few
 rw [← hlen] at hfew
 have HLN := Hd hlen
 have hsa : (w.alloc (Obj.cells #[.int .i64 c.k, .int .i64 c.a, .string c.nm, .string c.ot, .int .i64 c.ix.k, .int .i64 c.ix.a, .int .i64 c.ix.n, .string c.ix.nm, .slice c.ix.args.ad c.ix.args.len c.ix.args.cap, .int .i64 c.ex.k, .int .i64 c.ex.a, .int .i64 c.ex.n, .string c.ex.nm, .slice c.ex.args.ad c.ex.args.len c.ex.args.cap, .slice c.args.ad c.args.len c.args.cap, .slice c.th.ad c.th.len c.th.cap, .slice c.el.ad c.el.len c.el.cap] 56)).heap.size = w.heap.size + 1 := by simp
 have HLG := Hd (show Tk.long y = (decide (3 < y.2.1.2.2.length) || decide (15 < Zab m y.2.1.1) || decide (15 < Zab m y.2.1.2.1) || y.2.1.2.2.any fun e => decide (15 < Zab m e)) from rfl)
 generalize Tk.long y = z at *
 generalize y.2.1.2.2 = l at *
 generalize y.2.1.1 = xi at *
 generalize y.2.1.2.1 = xe at *
 clear hix hex hargs hlen hbA
 unfold Tk.C.val
 by_cases h3 : 3 < c.args.len
 · obtain rfl : z = true := by rw [uh HLG, decide_eq_true (show 3 < l.length by have := uh HLN; omega)]; rfl
   have g : (3 : Int) < (c.args.len : Int) := by omega
   go_enter Tryz.func102, Tryz.ntmps102
   go_wp2_with fail
   go_ret
   exact ⟨rfl, uh HB⟩
 have hd : decide (3 < l.length) = false := decide_eq_false (by have := uh HLN; omega)
 have g : ¬ (3 : Int) < (c.args.len : Int) := by omega
 rw [hd] at HLG
 clear hd
 go_enter Tryz.func102, Tryz.ntmps102
 go_wp2_with fail
 generalize (w.alloc (Obj.cells #[.int .i64 c.k, .int .i64 c.a, .string c.nm, .string c.ot, .int .i64 c.ix.k, .int .i64 c.ix.a, .int .i64 c.ix.n, .string c.ix.nm, .slice c.ix.args.ad c.ix.args.len c.ix.args.cap, .int .i64 c.ex.k, .int .i64 c.ex.a, .int .i64 c.ex.n, .string c.ex.nm, .slice c.ex.args.ad c.ex.args.len c.ex.args.cap, .slice c.args.ad c.args.len c.args.cap, .slice c.th.ad c.th.len c.th.cap, .slice c.el.ad c.el.len c.el.cap] 56)) = wa at *
 refine (Zcy m c.ix xi wa (uh HIX)).mono ?_
 rintro r w1 ⟨rfl, hb1⟩
 replace HBX := Hd ((uh HBX).below hb1 (by omega))
 replace HEX := Hd ((uh HEX).later hb1 Zl)
 replace HAR := Hd ((uh HAR).laterE hb1 Zl)
 replace HB := Hd ((uh HB).trans (hb1.mono (by omega)))
 have hs1 := hb1.size
 clear hb1 HIX
 cases h1 : decide (15 < Zab m xi)
 · rw [h1] at HLG
   have k9 := (uh HBX) 9 (.int .i64 c.ex.k) rfl
   have k10 := (uh HBX) 10 (.int .i64 c.ex.a) rfl
   have k11 := (uh HBX) 11 (.int .i64 c.ex.n) rfl
   have k12 := (uh HBX) 12 (.string c.ex.nm) rfl
   have k13 := (uh HBX) 13 (.slice c.ex.args.ad c.ex.args.len c.ex.args.cap) rfl
   clear h1
   go_wp2_with fail
   refine (Zcy m c.ex xe w1 (uh HEX)).mono ?_
   rintro r w2 ⟨rfl, hb2⟩
   replace HBX := Hd ((uh HBX).below hb2 (by omega))
   replace HAR := Hd ((uh HAR).laterE hb2 Zl)
   replace HB := Hd ((uh HB).trans (hb2.mono (by omega)))
   have hs2 := hb2.size
   clear hb2 HEX k9 k10 k11 k12 k13
   cases h1 : decide (15 < Zab m xe)
   · rw [h1] at HLG
     have k14 := (uh HBX) 14 (.slice c.args.ad c.args.len c.args.cap) rfl
     clear h1
     go_wp2_with fail
     clear k14
     go_loopw [22] (fun iv wr => ∃ i : Nat, i ≤ c.args.len ∧ iv = .int .i64 i ∧ (∀ j x, j < i → l[j]? = some x → decide (15 < Zab m x) = false) ∧ Below w2.heap.size w2 wr) (fun iv _ => c.args.len - (intOf iv).toNat)
     case atStart => exact ⟨0, Nat.zero_le _, rfl, fun j y h => by omega, Zr⟩
     case round =>
      obtain ⟨i, hi, rfl, hall, hbe⟩ := hrel
      have hz := hbe.size
      have HAL := Hd hall
      have HBE := Hd hbe
      clear hall hbe
      by_cases hlt : i < c.args.len
      · have hlt2 : i < l.length := by have := uh HLN; omega
        have hy := Zg hlt2
        obtain ⟨b, o, q, had, hb, hlies, hrd⟩ := (uh HAR).at_ i _ hy
        generalize l[i] = x at *
        obtain ⟨p0, p1, p2, p3, p4⟩ := hlies.later (uh HBE) Zl hb
        have HRD := Hd (hrd.later (uh HBE) Zl)
        have HY := Hd hy
        clear hlies hrd hy
        have hi0 : (0 : Int) ≤ (i : Int) := by omega
        have hi1 : (i : Int) < (c.args.len : Int) := by omega
        rw [had]
        go_wp2_with fail
        refine (Zcy m q x _ ((uh HRD).later (Zr.alloc Zl _) Zl)).mono ?_
        rintro r w3 ⟨rfl, hb3⟩
        have HB3 := Hd (((uh HBE).alloc hz _).trans (hb3.mono (by simp; omega)))
        clear hb3
        cases hx : decide (15 < Zab m x)
        · have HX := Hd hx
          clear hx
          go_wp2_with fail
          refine ⟨⟨i + 1, by omega, by go_num, ?_, uh HB3⟩, by simp [intOf]; omega⟩
          intro j u hj hu
          by_cases e2 : j = i
          · subst e2
            have := uh HY
            rw [this] at hu
            cases hu
            exact uh HX
          exact (uh HAL) j u (by omega) hu
        obtain rfl : z = true := by
         rw [uh HLG, show (l.any fun e => decide (15 < Zab m e)) = true from List.any_eq_true.2 ⟨x, List.mem_of_getElem? (uh HY), hx⟩]
         rfl
        clear hx
        go_wp2_with fail
        go_ret
        exact ⟨rfl, (uh HB).trans ((uh HB3).mono (by omega))⟩
      obtain rfl : z = false := by
       rw [uh HLG, show (l.any fun e => decide (15 < Zab m e)) = false from List.any_eq_false.2 (fun x hx => by
        obtain ⟨j, hj⟩ := List.getElem?_of_mem hx
        rw [(uh HAL) j x (by have := (List.getElem?_eq_some_iff.1 hj).1; have := uh HLN; omega) hj]
        decide)]
       rfl
      go_wp2_with fail
      go_ret
      exact ⟨rfl, (uh HB).trans ((uh HBE).mono (by omega))⟩
   obtain rfl : z = true := by rw [uh HLG, h1]; rfl
   clear h1
   go_wp2_with fail
   go_ret
   exact ⟨rfl, uh HB⟩
 obtain rfl : z = true := by rw [uh HLG, h1]; rfl
 clear h1
 go_wp2_with fail
 go_ret
 exact ⟨rfl, uh HB⟩
theorem Zcd {m : Nat} : ∀ (n : Nat) (deep left : Int) (l : List (Zap m n)), -1 ≤ left → -1 ≤ Zae n deep left l ∧ (Zae n deep left l ≤ left)
 | 0, _, left, _, h => ⟨h, Int.le_refl _⟩
 | n + 1, deep, left, l, h => by
  unfold Zae
  induction l generalizing left with
  | nil => exact ⟨h, Int.le_refl _⟩
  | cons y r ih =>
   rw [List.foldl_cons]
   split
   · have := ih (-1) (by omega)
     exact ⟨this.1, by omega⟩
   rename_i hc
   have h1 := Zcd n (deep + 1) (left - 1) y.2.2.1 (by omega)
   have h2 := Zcd n (deep + 1) (Zae n (deep + 1) (left - 1) y.2.2.1) y.2.2.2 h1.1
   have h3 := ih _ h2.1
   exact ⟨h3.1, by omega⟩
def Zd7 {m : Nat} (n : Nat) (deep a : Int) (y : Zap m (n + 1)) : Int := if a ≤ 0 ∨ 5 < deep ∨ Tk.long y = true then -1 else Zae n (deep + 1) (Zae n (deep + 1) (a - 1) y.2.2.1) y.2.2.2
theorem Zhi {m n : Nat} (deep left : Int) (l : List (Zap m (n + 1))) (i : Nat) (y : Zap m (n + 1)) (h : l[i]? = some y) : Zae (n + 1) deep left (l.take (i + 1)) = Zd7 n deep (Zae (n + 1) deep left (l.take i)) y := by
 have hlt := (List.getElem?_eq_some_iff.1 h).1
 rw [List.take_succ_eq_append_getElem hlt, (List.getElem?_eq_some_iff.1 h).2]
 unfold Zae
 rw [List.foldl_append]
 rfl
theorem Ze2 {m n : Nat} (deep : Int) : ∀ (l : List (Zap m (n + 1))), Zae (n + 1) deep (-1) l = -1
 | [] => rfl
 | y :: r => by
  show Zae (n + 1) deep (if (-1 : Int) ≤ 0 ∨ 5 < deep ∨ Tk.long y = true then -1 else _) r = -1
  rw [if_pos (Or.inl (by omega))]
  exact Ze2 deep r
theorem Zc8 {m n : Nat} (deep left : Int) (l : List (Zap m (n + 1))) (i : Nat) (h : Zae (n + 1) deep left (l.take i) = -1) : Zae (n + 1) deep left l = -1 := by
 have e : Zae (n + 1) deep left l = Zae (n + 1) deep (Zae (n + 1) deep left (l.take i)) (l.drop i) := by
  show List.foldl _ left l = List.foldl _ (List.foldl _ left (l.take i)) (l.drop i)
  rw [← List.foldl_append, List.take_append_drop]
 rw [e, h, Ze2]
theorem Zgc {m : Nat} : ∀ (n : Nat) (s : Tk.Sl) (l : List (Zap m n)) (w : World) (deep left : Int), Tk.RS w 17 (Tk.LC w) (Tk.RC w m n) s l → 1 ≤ deep → deep ≤ 7 → -1 ≤ left → left ≤ 1000 →
  Calls Tryz.prog 58 #[.slice s.ad s.len s.cap, .int .i64 deep, .int .i64 left] w fun r w' => r = .returned (.int .i64 (Zae n deep left l)) ∧ Below w.heap.size w w' := by
 intro n
 induction n with
 | zero =>
  intro s l w deep left hs _ _ _ _
  obtain rfl : l = [] := by cases l with | nil => rfl | cons y r => exact nomatch (show Empty from y)
  have h0 : s.len = 0 := hs.len
  clear hs
  go_enter Tryz.func58, Tryz.ntmps58
  rw [h0]
  go_wp2_with fail
  go_loopw [2, 11] (fun lv iv wr => lv = .int .i64 left ∧ iv = .int .i64 0 ∧ wr = w) (fun _ iv _ => 0)
  case atStart => exact ⟨rfl, rfl, rfl⟩
  case round =>
   obtain ⟨rfl, rfl, rfl⟩ := hrel
   go_wp2_with fail
   go_ret
   exact ⟨rfl, Zr⟩
 | succ n ih =>
  intro s l w deep left hs hd1 hd2 hl1 hl2
  have hlen := hs.len
  have hfew := hs.few
  rw [← hlen] at hfew
  have HS := Hd hs
  have HLN := Hd hlen
  have IH := Hd ih
  clear hs hlen ih
  go_enter Tryz.func58, Tryz.ntmps58
  go_wp2_with fail
  go_loopw [2, 11] (fun lv iv wr => ∃ (i : Nat) (a : Int), i ≤ s.len ∧ iv = .int .i64 i ∧ lv = .int .i64 a ∧ a = Zae (n + 1) deep left (l.take i) ∧ Below w.heap.size w wr) (fun _ iv _ => s.len - (intOf iv).toNat)
  case atStart => exact ⟨0, left, Nat.zero_le _, rfl, rfl, rfl, Zr⟩
  case round =>
   obtain ⟨i, a, hi, rfl, rfl, hl, hbe⟩ := hrel
   have hlo := Zcd (n + 1) deep left (l.take i) hl1
   rw [← hl] at hlo
   obtain ⟨ha1, ha2⟩ := hlo
   have hz := hbe.size
   have HL := Hd hl
   have HBE := Hd hbe
   clear hl hbe
   by_cases hlt : i < s.len
   · have hlt2 : i < l.length := by have := uh HLN; omega
     have hy := Zg hlt2
     obtain ⟨b, o, q, had, hb, hlies, hrd⟩ := (uh HS).at_ i _ hy
     have hst := Zhi deep left l i _ hy
     generalize l[i] = y at *
     rw [← uh HL] at hst
     have HST := Hd hst
     have hcell : ∀ j v, q.cells[j]? = some v → wr.cell? ⟨b, o + i * 17 + j, none⟩ = some v := (hlies.later (uh HBE) Zl hb).cells
     have hi0 : (0 : Int) ≤ (i : Int) := by omega
     have hi1 : (i : Int) < (s.len : Int) := by omega
     have hbN := (Below.refl wr.heap.size wr).alloc Zl (Obj.cells q.cells 56)
     have HRD := Hd ((hrd.later (uh HBE) Zl).later hbN Zl)
     have HBN := Hd ((uh HBE).trans (hbN.mono (by omega)))
     have HBX := Hd (ZdA wr q)
     have hsN : (wr.alloc (Obj.cells q.cells 56)).heap.size = wr.heap.size + 1 := by simp
     have hone := Tk.C.one q
     clear hlies hrd hy hst hbN
     rw [had]
     go_upto_region 3 with fail
     refine ZfI (cs := q.cells) (z := (Tk.C.zero).cells) (b := b) (o := o) (i := i) (p := 9) (q := 11) (tA := 13) (tL := 14) (tB := 8) rfl rfl rfl rfl rfl rfl rfl rfl rfl rfl rfl rfl rfl rfl hlt (by simp) (by simp) (by simp) (by decide) (by decide) Tryz.underlying49 ZaZ rfl rfl Tryz.underlying56 rfl hcell hone ?_
     simp only [Zz, Zs]
     generalize (wr.alloc (Obj.cells q.cells 56)) = wN at *
     clear hcell hone
     have k0 := (uh HBX) 0 (.int .i64 q.k) rfl
     have k1 := (uh HBX) 1 (.int .i64 q.a) rfl
     have k2 := (uh HBX) 2 (.string q.nm) rfl
     have k3 := (uh HBX) 3 (.string q.ot) rfl
     have k4 := (uh HBX) 4 (.int .i64 q.ix.k) rfl
     have k5 := (uh HBX) 5 (.int .i64 q.ix.a) rfl
     have k6 := (uh HBX) 6 (.int .i64 q.ix.n) rfl
     have k7 := (uh HBX) 7 (.string q.ix.nm) rfl
     have k8 := (uh HBX) 8 (.slice q.ix.args.ad q.ix.args.len q.ix.args.cap) rfl
     have k9 := (uh HBX) 9 (.int .i64 q.ex.k) rfl
     have k10 := (uh HBX) 10 (.int .i64 q.ex.a) rfl
     have k11 := (uh HBX) 11 (.int .i64 q.ex.n) rfl
     have k12 := (uh HBX) 12 (.string q.ex.nm) rfl
     have k13 := (uh HBX) 13 (.slice q.ex.args.ad q.ex.args.len q.ex.args.cap) rfl
     have k14 := (uh HBX) 14 (.slice q.args.ad q.args.len q.args.cap) rfl
     have k15 := (uh HBX) 15 (.slice q.th.ad q.th.len q.th.cap) rfl
     have k16 := (uh HBX) 16 (.slice q.el.ad q.el.len q.el.cap) rfl
     by_cases h0 : a ≤ 0
     · have hfin : Hid (Zae (n + 1) deep left l = -1) := Zc8 deep left l (i + 1) (by rw [uh HST]; unfold Zd7; rw [if_pos (Or.inl h0)])
       have g1 : a - 1 < 0 := by omega
       go_wp2_with fail
       go_ret
       exact ⟨Za2 (uh hfin).symm, uh HBN⟩
     by_cases h5 : 5 < deep
     · have hfin : Hid (Zae (n + 1) deep left l = -1) := Zc8 deep left l (i + 1) (by rw [uh HST]; unfold Zd7; rw [if_pos (Or.inr (Or.inl h5))])
       have g1 : ¬ a - 1 < 0 := by omega
       go_wp2_with fail
       go_ret
       exact ⟨Za2 (uh hfin).symm, uh HBN⟩
     have g1 : ¬ a - 1 < 0 := by omega
     go_wp2_with fail
     have HTL := Hd (Zfi q y wN (uh HRD))
     unfold Tk.C.val at HTL
     refine (uh HTL).mono ?_
     rintro r w3 ⟨rfl, hb3⟩
     have HB3 := Hd ((uh HBN).trans (hb3.mono (by have := (uh HBN).size; omega)))
     have HRD3 := Hd ((uh HRD).later hb3 Zl)
     replace HBX := Hd ((uh HBX).below hb3 (by omega))
     have hs3 := hb3.size
     clear hb3 HTL k0 k1 k2 k3 k4 k5 k6 k7 k8 k9 k10 k11 k12 k13 k14 k15 k16
     cases hx : Tk.long y
     · have hst2 : Zae (n + 1) deep left (l.take (i + 1)) = Zae n (deep + 1) (Zae n (deep + 1) (a - 1) y.2.2.1) y.2.2.2 := by
        rw [uh HST]
        unfold Zd7
        rw [if_neg (by rw [hx]; simp; omega)]
       have HST2 := Hd hst2
       have hq1 := Zcd n (deep + 1) (a - 1) y.2.2.1 (by omega)
       have HQ1 := Hd (fun (V : World) (hb : Below w3.heap.size w3 V) => (uh IH) q.th y.2.2.1 V (deep + 1) (a - 1) ((uh HRD3).2.2.1.laterC hb Zl) (by omega) (by omega) (by omega) (by omega))
       have HQ2 := Hd (fun (V : World) (hb : Below w3.heap.size w3 V) => (uh IH) q.el y.2.2.2 V (deep + 1) (Zae n (deep + 1) (a - 1) y.2.2.1) ((uh HRD3).2.2.2.laterC hb Zl) (by omega) (by omega) hq1.1 (by omega))
       clear hx hst2
       go_wp2_with fail
       have hwr : IntKind.i64.wrap (deep + 1) = deep + 1 := by rw [IntKind.wrap_i64]; omega
       have hHeld : (fun V => V.cell? ⟨wr.heap.size, 15, none⟩ = some (.slice q.th.ad q.th.len q.th.cap) ∧ V.cell? ⟨wr.heap.size, 16, none⟩ = some (.slice q.el.ad q.el.len q.el.cap)) w3.drew := ⟨(uh HBX) 15 _ rfl, (uh HBX) 16 _ rfl⟩
       have HBW := Hd (Below.refl w3.heap.size w3).drew
       generalize Zae n (deep + 1) (a - 1) y.2.2.1 = a1 at *
       have hq2 := Zcd n (deep + 1) a1 y.2.2.2 hq1.1
       generalize Zae n (deep + 1) a1 y.2.2.2 = a2 at *
       refine ZbA (fun j => Nat.beq j 11) (fun V => V.cell? ⟨wr.heap.size, 15, none⟩ = some (.slice q.th.ad q.th.len q.th.cap) ∧ V.cell? ⟨wr.heap.size, 16, none⟩ = some (.slice q.el.ad q.el.len q.el.cap)) (by kernel_rfl) hHeld (fun hHeld hcl => ?_)
       generalize w3.drew = wd at *
       refine Rq.tk 0 (.pointer (some ⟨wr.heap.size, 16, none⟩)) Rq.z (by kernel_rfl) (by kernel_rfl) (by kernel_rfl) (by kernel_rfl) (fun _ _ _ h => h) (by assumption) (by assumption) (by rfl) (fun w hSw => by (try dsimp only at hSw); obtain ⟨hA, hB⟩ := hSw; go_simp) (fun hcl => ?_)
       (try simp only [Act.put, Zt, Zz, Zs])
       refine Rq.tk 1 (.slice q.el.ad q.el.len q.el.cap) (Rq.s Rq.z) (by kernel_rfl) (by kernel_rfl) (by kernel_rfl) (by kernel_rfl) (fun _ _ _ h => h) (by assumption) (by assumption) (by rfl) (fun w hSw => by (try dsimp only at hSw); obtain ⟨hA, hB⟩ := hSw; go_simp) (fun hcl => ?_)
       (try simp only [Act.put, Zt, Zz, Zs])
       refine Rq.tk 2 (.int .i64 deep) (Rq.s (Rq.s Rq.z)) (by kernel_rfl) (by kernel_rfl) (by kernel_rfl) (by kernel_rfl) (fun _ _ _ h => h) (by assumption) (by assumption) (by rfl) (fun w hSw => by (try dsimp only at hSw); obtain ⟨hA, hB⟩ := hSw; go_simp) (fun hcl => ?_)
       (try simp only [Act.put, Zt, Zz, Zs])
       refine Rq.tk 3 (.int .i64 (deep + 1)) (Rq.s (Rq.s (Rq.s Rq.z))) (by kernel_rfl) (by kernel_rfl) (by kernel_rfl) (by kernel_rfl) (fun _ _ _ h => h) (by assumption) (by assumption) (by rfl) (fun w hSw => by (try dsimp only at hSw); obtain ⟨hA, hB⟩ := hSw; go_simp) (fun hcl => ?_)
       (try simp only [Act.put, Zt, Zz, Zs])
       refine Rq.tk 4 (.pointer (some ⟨wr.heap.size, 15, none⟩)) (Rq.s (Rq.s (Rq.s (Rq.s Rq.z)))) (by kernel_rfl) (by kernel_rfl) (by kernel_rfl) (by kernel_rfl) (fun _ _ _ h => h) (by assumption) (by assumption) (by rfl) (fun w hSw => by (try dsimp only at hSw); obtain ⟨hA, hB⟩ := hSw; go_simp) (fun hcl => ?_)
       (try simp only [Act.put, Zt, Zz, Zs])
       refine Rq.tk 5 (.slice q.th.ad q.th.len q.th.cap) (Rq.s (Rq.s (Rq.s (Rq.s (Rq.s Rq.z))))) (by kernel_rfl) (by kernel_rfl) (by kernel_rfl) (by kernel_rfl) (fun _ _ _ h => h) (by assumption) (by assumption) (by rfl) (fun w hSw => by (try dsimp only at hSw); obtain ⟨hA, hB⟩ := hSw; go_simp) (fun hcl => ?_)
       (try simp only [Act.put, Zt, Zz, Zs])
       refine Rq.tk 6 (.int .i64 deep) (Rq.s (Rq.s (Rq.s (Rq.s (Rq.s (Rq.s Rq.z)))))) (by kernel_rfl) (by kernel_rfl) (by kernel_rfl) (by kernel_rfl) (fun _ _ _ h => h) (by assumption) (by assumption) (by rfl) (fun w hSw => by (try dsimp only at hSw); obtain ⟨hA, hB⟩ := hSw; go_simp) (fun hcl => ?_)
       (try simp only [Act.put, Zt, Zz, Zs])
       refine Rq.tk 7 (.int .i64 (deep + 1)) (Rq.s (Rq.s (Rq.s (Rq.s (Rq.s (Rq.s (Rq.s Rq.z))))))) (by kernel_rfl) (by kernel_rfl) (by kernel_rfl) (by kernel_rfl) (fun _ _ _ h => h) (by assumption) (by assumption) (by rfl) (fun w hSw => by (try dsimp only at hSw); obtain ⟨hA, hB⟩ := hSw; go_simp) (fun hcl => ?_)
       (try simp only [Act.put, Zt, Zz, Zs])
       refine Rq.tk 8 (.int .i64 (a - 1)) (Rq.s (Rq.s (Rq.s (Rq.s (Rq.s (Rq.s (Rq.s (Rq.s Rq.z)))))))) (by kernel_rfl) (by kernel_rfl) (by kernel_rfl) (by kernel_rfl) (fun _ _ _ h => h) (by assumption) (by assumption) (by rfl) (fun w hSw => by (try dsimp only at hSw); obtain ⟨hA, hB⟩ := hSw; go_simp) (fun hcl => ?_)
       (try simp only [Act.put, Zt, Zz, Zs])
       refine Rq.on 9 (Rq.s (Rq.s (Rq.s (Rq.s (Rq.s (Rq.s (Rq.s (Rq.s (Rq.s Rq.z))))))))) (by kernel_rfl) (by assumption) (fun K hK => ?_)
       go_simp
       go_at_call 58
       refine ((uh HQ1) _ (uh HBW)).mono ?_
       rintro r w4 ⟨rfl, hb4⟩
       have HBW4 := Hd ((uh HBW).trans (hb4.mono (uh HBW).size))
       have hH4 : (fun V => V.cell? ⟨wr.heap.size, 15, none⟩ = some (.slice q.th.ad q.th.len q.th.cap) ∧ V.cell? ⟨wr.heap.size, 16, none⟩ = some (.slice q.el.ad q.el.len q.el.cap)) w4 := ⟨(hb4.cell (p := ⟨wr.heap.size, 15, none⟩) (by have := (uh HBW).size; show wr.heap.size < _; omega)).trans hHeld.1, (hb4.cell (p := ⟨wr.heap.size, 16, none⟩) (by have := (uh HBW).size; show wr.heap.size < _; omega)).trans hHeld.2⟩
       clear hb4 hHeld
       go_simp
       refine hK _ _ (fun _ => hH4) (fun hcl => ?_)
       (try simp only [Act.put, Zt, Zz, Zs])
       clear hK K
       refine Rq.on 10 (Rq.s (Rq.s (Rq.s (Rq.s (Rq.s (Rq.s (Rq.s (Rq.s (Rq.s (Rq.s Rq.z)))))))))) (by kernel_rfl) (by assumption) (fun K hK => ?_)
       go_simp
       go_at_call 58
       refine ((uh HQ2) _ (uh HBW4)).mono ?_
       rintro r w5 ⟨rfl, hb5⟩
       have HBW5 := Hd ((uh HBW4).trans (hb5.mono (uh HBW4).size))
       have hH5 : (fun V => V.cell? ⟨wr.heap.size, 15, none⟩ = some (.slice q.th.ad q.th.len q.th.cap) ∧ V.cell? ⟨wr.heap.size, 16, none⟩ = some (.slice q.el.ad q.el.len q.el.cap)) w5 := ⟨(hb5.cell (p := ⟨wr.heap.size, 15, none⟩) (by have := (uh HBW4).size; show wr.heap.size < _; omega)).trans hH4.1, (hb5.cell (p := ⟨wr.heap.size, 16, none⟩) (by have := (uh HBW4).size; show wr.heap.size < _; omega)).trans hH4.2⟩
       clear hb5
       go_simp
       refine hK _ _ (fun _ => hH5) (fun hcl => ?_)
       (try simp only [Act.put, Zt, Zz, Zs])
       clear hK K
       refine Rq.on 11 (Rq.s (Rq.s (Rq.s (Rq.s (Rq.s (Rq.s (Rq.s (Rq.s (Rq.s (Rq.s (Rq.s Rq.z))))))))))) (by kernel_rfl) (by assumption) (fun K hK => ?_)
       go_simp
       refine hK _ _ (fun e => absurd e (by decide)) (fun hcl => ?_)
       (try simp only [Act.put, Zt, Zz, Zs])
       refine Rq.done (by kernel_rfl) ?_ _
       have HB5 := Hd ((uh HB3).trans ((uh HBW5).mono (by have := (uh HB3).size; omega)))
       clear hK K hcl hH4 hH5
       go_wp2_with fail
       exact ⟨⟨i + 1, a2, by omega, by go_num, rfl, (uh HST2).symm, uh HB5⟩, by simp [intOf]; omega⟩
     have hfin : Hid (Zae (n + 1) deep left l = -1) := Zc8 deep left l (i + 1) (by rw [uh HST]; unfold Zd7; rw [if_pos (Or.inr (Or.inr hx))])
     clear hx
     go_wp2_with fail
     go_ret
     exact ⟨Za2 (uh hfin).symm, uh HB3⟩
   have hfin : Hid (a = Zae (n + 1) deep left l) := by
    show _ = _
    have e1 : i = l.length := by have := uh HLN; omega
    rw [uh HL, e1, List.take_length]
   go_wp2_with fail
   go_ret
   exact ⟨Za2 (uh hfin), uh HBE⟩
def Tk.BV (W : World) (b : Nat) (cs : Array Value) : Prop := ∀ j v, cs[j]? = some v → W.cell? ⟨b, j, none⟩ = some v
theorem Tk.BV.below {W W' : World} {b n : Nat} {cs : Array Value} (h : Tk.BV W b cs) (hb : Below n W W') (hn : b < n) : Tk.BV W' b cs := fun j v hj => (hb.cell (p := ⟨b, j, none⟩) hn).trans (h j v hj)
theorem ZgA {m : Nat} (n : Nat) (ih : ∀ (c : Tk.C) (y : Zap m n) (w : World), Tk.RC w m n c y → Calls Tryz.prog 145 #[c.val] w fun r w' => r = .returned (.bool (Zaf n y)) ∧ Below w.heap.size w w')
  (s : Tk.Sl) (l : List (Zap m n)) (named : Bool) (w : World) (hs : Tk.RS w 17 (Tk.LC w) (Tk.RC w m n) s l) :
  Calls Tryz.prog 105 #[.slice s.ad s.len s.cap, .bool named] w fun r w' => r = .returned (.bool (l.all (Zaf n) && (named || decide (l.length = 0)))) ∧ Below w.heap.size w w' := by
 have hlen := hs.len
 have hfew := hs.few
 rw [← hlen] at hfew
 have HS := Hd hs
 have HLN := Hd hlen
 have IH := Hd ih
 clear hs hlen ih
 go_enter Tryz.func105, Tryz.ntmps105
 go_wp2_with fail
 go_loopw [9] (fun iv wr => ∃ i : Nat, i ≤ s.len ∧ iv = .int .i64 i ∧ (∀ j y, j < i → l[j]? = some y → Zaf n y = true) ∧ Below w.heap.size w wr) (fun iv _ => s.len - (intOf iv).toNat)
 case atStart => exact ⟨0, Nat.zero_le _, rfl, fun j y h => by omega, Zr⟩
 case round =>
  obtain ⟨i, hi, rfl, hall, hbe⟩ := hrel
  have hz := hbe.size
  have HAL := Hd hall
  have HBE := Hd hbe
  clear hall hbe
  by_cases hlt : i < s.len
  · have hlt2 : i < l.length := by have := uh HLN; omega
    have hy := Zg hlt2
    obtain ⟨b, o, q, had, hb, hlies, hrd⟩ := (uh HS).at_ i _ hy
    generalize l[i] = y at *
    have hcell : ∀ j v, q.cells[j]? = some v → wr.cell? ⟨b, o + i * 17 + j, none⟩ = some v := (hlies.later (uh HBE) Zl hb).cells
    have hi0 : (0 : Int) ≤ (i : Int) := by omega
    have hi1 : (i : Int) < (s.len : Int) := by omega
    have hbN := (Below.refl wr.heap.size wr).alloc Zl (Obj.cells q.cells 56)
    have HRD := Hd ((hrd.later (uh HBE) Zl).later hbN Zl)
    have HBN := Hd ((uh HBE).trans (hbN.mono (by omega)))
    have HBX := Hd (ZdA wr q)
    have hsN : (wr.alloc (Obj.cells q.cells 56)).heap.size = wr.heap.size + 1 := by simp
    have hone := Tk.C.one q
    have HY := Hd hy
    clear hlies hrd hy hbN
    rw [had]
    go_upto_region 3 with fail
    refine ZfI (cs := q.cells) (z := (Tk.C.zero).cells) (b := b) (o := o) (i := i) (p := 7) (q := 9) (tA := 11) (tL := 12) (tB := 6) rfl rfl rfl rfl rfl rfl rfl rfl rfl rfl rfl rfl rfl rfl hlt (by simp) (by simp) (by simp) (by decide) (by decide) Tryz.underlying49 ZaZ rfl rfl Tryz.underlying56 rfl hcell hone ?_
    simp only [Zz, Zs]
    generalize (wr.alloc (Obj.cells q.cells 56)) = wN at *
    clear hcell hone
    have k0 := (uh HBX) 0 (.int .i64 q.k) rfl
    have k1 := (uh HBX) 1 (.int .i64 q.a) rfl
    have k2 := (uh HBX) 2 (.string q.nm) rfl
    have k3 := (uh HBX) 3 (.string q.ot) rfl
    have k4 := (uh HBX) 4 (.int .i64 q.ix.k) rfl
    have k5 := (uh HBX) 5 (.int .i64 q.ix.a) rfl
    have k6 := (uh HBX) 6 (.int .i64 q.ix.n) rfl
    have k7 := (uh HBX) 7 (.string q.ix.nm) rfl
    have k8 := (uh HBX) 8 (.slice q.ix.args.ad q.ix.args.len q.ix.args.cap) rfl
    have k9 := (uh HBX) 9 (.int .i64 q.ex.k) rfl
    have k10 := (uh HBX) 10 (.int .i64 q.ex.a) rfl
    have k11 := (uh HBX) 11 (.int .i64 q.ex.n) rfl
    have k12 := (uh HBX) 12 (.string q.ex.nm) rfl
    have k13 := (uh HBX) 13 (.slice q.ex.args.ad q.ex.args.len q.ex.args.cap) rfl
    have k14 := (uh HBX) 14 (.slice q.args.ad q.args.len q.args.cap) rfl
    have k15 := (uh HBX) 15 (.slice q.th.ad q.th.len q.th.cap) rfl
    have k16 := (uh HBX) 16 (.slice q.el.ad q.el.len q.el.cap) rfl
    go_wp2_with fail
    have HTL := Hd ((uh IH) q y wN (uh HRD))
    unfold Tk.C.val at HTL
    refine (uh HTL).mono ?_
    rintro r w3 ⟨rfl, hb3⟩
    have HB3 := Hd ((uh HBN).trans (hb3.mono (by have := (uh HBN).size; omega)))
    clear hb3 HTL k0 k1 k2 k3 k4 k5 k6 k7 k8 k9 k10 k11 k12 k13 k14 k15 k16
    cases hx : Zaf n y
    · have hf : Hid (l.all (Zaf n) = false) := by
       show _ = _
       rw [List.all_eq_false]; exact ⟨y, List.mem_of_getElem? (uh HY), by rw [hx]; decide⟩
      clear hx
      go_wp2_with fail
      go_ret
      exact ⟨Zaj (by rw [uh hf]; rfl), uh HB3⟩
    have HX := Hd hx
    clear hx
    go_wp2_with fail
    refine ⟨⟨i + 1, by omega, by go_num, ?_, uh HB3⟩, by simp [intOf]; omega⟩
    intro j u hj hu
    by_cases e2 : j = i
    · subst e2
      have := uh HY
      rw [this] at hu
      cases hu
      exact uh HX
    exact (uh HAL) j u (by omega) hu
  have hf : Hid (l.all (Zaf n) = true) := by
   show _ = _
   rw [List.all_eq_true]
   intro y hy
   obtain ⟨j, hj⟩ := List.getElem?_of_mem hy
   exact (uh HAL) j y (by have := (List.getElem?_eq_some_iff.1 hj).1; have := uh HLN; omega) hj
  cases named
  · have hq : Hid (decide (l.length = 0) = ((s.len : Int) == 0)) := by
     show _ = _
     rw [Bool.eq_iff_iff, decide_eq_true_eq, beq_iff_eq]; have := uh HLN; omega
    go_wp2_with fail
    go_ret
    exact ⟨Zaj (by rw [uh hf, uh hq]; simp), uh HBE⟩
  go_wp2_with fail
  go_ret
  exact ⟨Zaj (by rw [uh hf]; rfl), uh HBE⟩
theorem Zkp {m : Nat} (n : Nat) (ihF : ∀ (s : Tk.Sl) (l : List (Zap m n)) (named : Bool) (w : World), Tk.RS w 17 (Tk.LC w) (Tk.RC w m n) s l → Calls Tryz.prog 105 #[.slice s.ad s.len s.cap, .bool named] w fun r w' => r = .returned (.bool (l.all (Zaf n) && (named || decide (l.length = 0)))) ∧ Below w.heap.size w w')
  (c : Tk.C) (y : Zap m (n + 1)) (w : World) (h : Tk.RC w m (n + 1) c y) : Calls Tryz.prog 145 #[c.val] w fun r w' => r = .returned (.bool (Zaf (n + 1) y)) ∧ Below w.heap.size w w' := by
 obtain ⟨⟨⟨hk, -, hn1, hn2⟩, hnm, hot⟩, ⟨hix, hex, hargs⟩, hth, hel⟩ := h
 have hbA := (Below.refl w.heap.size w).alloc Zl (Obj.cells #[.int .i64 c.k, .int .i64 c.a, .string c.nm, .string c.ot, .int .i64 c.ix.k, .int .i64 c.ix.a, .int .i64 c.ix.n, .string c.ix.nm, .slice c.ix.args.ad c.ix.args.len c.ix.args.cap, .int .i64 c.ex.k, .int .i64 c.ex.a, .int .i64 c.ex.n, .string c.ex.nm, .slice c.ex.args.ad c.ex.args.len c.ex.args.cap, .slice c.args.ad c.args.len c.args.cap, .slice c.th.ad c.th.len c.th.cap, .slice c.el.ad c.el.len c.el.cap] 56)
 have HB := Hd hbA
 have HBX := Hd (Tk.BX.new w c)
 have hsa : (w.alloc (Obj.cells #[.int .i64 c.k, .int .i64 c.a, .string c.nm, .string c.ot, .int .i64 c.ix.k, .int .i64 c.ix.a, .int .i64 c.ix.n, .string c.ix.nm, .slice c.ix.args.ad c.ix.args.len c.ix.args.cap, .int .i64 c.ex.k, .int .i64 c.ex.a, .int .i64 c.ex.n, .string c.ex.nm, .slice c.ex.args.ad c.ex.args.len c.ex.args.cap, .slice c.args.ad c.args.len c.args.cap, .slice c.th.ad c.th.len c.th.cap, .slice c.el.ad c.el.len c.el.cap] 56)).heap.size = w.heap.size + 1 := by simp
 have hF := ZhL c.k
 have hZ : Zaf (n + 1) y = match ZaS c.k with
  | none => false
  | some (f1, f2, f3, f4, f5, f6, f7) => Zar c.nm f1 && Zar c.ot f2 && Zan m y.2.1.1 f3 && Zan m y.2.1.2.1 f4 && (y.2.1.2.2.all (Zac m) && (f5 || decide (y.2.1.2.2.length = 0))) && (y.2.2.1.all (Zaf n) && (f6 || decide (y.2.2.1.length = 0))) && (y.2.2.2.all (Zaf n) && (f7 || decide (y.2.2.2.length = 0))) := by rw [hk, hn1, hn2]; rfl
 generalize Zaf (n + 1) y = z at *
 cases hfl : ZaS c.k with
 | none =>
  rw [hfl] at hF hZ
  obtain rfl : z = false := hZ
  have HF := Hd hF
  clear hF hfl hk hn1 hn2 hnm hot hix hex hargs hth hel hbA
  unfold Tk.C.val
  go_enter Tryz.func145, Tryz.ntmps145
  (try simp only [List.append_eq, List.cons_append, List.nil_append])
  go_wp2_with fail
  generalize (w.alloc (Obj.cells #[.int .i64 c.k, .int .i64 c.a, .string c.nm, .string c.ot, .int .i64 c.ix.k, .int .i64 c.ix.a, .int .i64 c.ix.n, .string c.ix.nm, .slice c.ix.args.ad c.ix.args.len c.ix.args.cap, .int .i64 c.ex.k, .int .i64 c.ex.a, .int .i64 c.ex.n, .string c.ex.nm, .slice c.ex.args.ad c.ex.args.len c.ex.args.cap, .slice c.args.ad c.args.len c.args.cap, .slice c.th.ad c.th.len c.th.cap, .slice c.el.ad c.el.len c.el.cap] 56)) = wa at *
  refine ((uh HF) wa).mono ?_
  rintro r w1 ⟨rfl, hb1⟩
  replace HB := Hd ((uh HB).trans (hb1.mono (by omega)))
  clear hb1
  unfold ZiD
  rw [Option.isSome_none]
  go_wp2_with fail
  go_ret
  exact ⟨rfl, (uh HB).alloc (uh HB).size _⟩
 | some f =>
  obtain ⟨f1, f2, f3, f4, f5, f6, f7⟩ := f
  rw [hfl] at hF hZ
  dsimp only at hZ
  have HF := Hd hF
  have HC1 := Hd (fun (W : World) (hb : Below w.heap.size w W) => show Calls Tryz.prog 104 #[.string c.nm, .bool f1] W fun r w' => r = .returned (.bool (Zar c.nm f1)) ∧ Below W.heap.size W w' from ZbF c.nm f1 W hnm)
  have HC2 := Hd (fun (W : World) (hb : Below w.heap.size w W) => show Calls Tryz.prog 104 #[.string c.ot, .bool f2] W fun r w' => r = .returned (.bool (Zar c.ot f2)) ∧ Below W.heap.size W w' from ZbF c.ot f2 W hot)
  have HC3 := Hd (fun (W : World) (hb : Below w.heap.size w W) => show Calls Tryz.prog 106 #[.agg #[.int .i64 c.ix.k, .int .i64 c.ix.a, .int .i64 c.ix.n, .string c.ix.nm, .slice c.ix.args.ad c.ix.args.len c.ix.args.cap], .bool f3] W fun r w' => r = .returned (.bool (Zan m y.2.1.1 f3)) ∧ Below W.heap.size W w' from Zdv m c.ix y.2.1.1 f3 W (hix.later hb Zl))
  have HC4 := Hd (fun (W : World) (hb : Below w.heap.size w W) => show Calls Tryz.prog 106 #[.agg #[.int .i64 c.ex.k, .int .i64 c.ex.a, .int .i64 c.ex.n, .string c.ex.nm, .slice c.ex.args.ad c.ex.args.len c.ex.args.cap], .bool f4] W fun r w' => r = .returned (.bool (Zan m y.2.1.2.1 f4)) ∧ Below W.heap.size W w' from Zdv m c.ex y.2.1.2.1 f4 W (hex.later hb Zl))
  have HC5 := Hd (fun (W : World) (hb : Below w.heap.size w W) => show Calls Tryz.prog 180 #[.slice c.args.ad c.args.len c.args.cap, .bool f5] W fun r w' => r = .returned (.bool (y.2.1.2.2.all (Zac m) && (f5 || decide (y.2.1.2.2.length = 0)))) ∧ Below W.heap.size W w' from ZiG m c.args y.2.1.2.2 f5 W (hargs.laterE hb Zl))
  have HC6 := Hd (fun (W : World) (hb : Below w.heap.size w W) => show Calls Tryz.prog 105 #[.slice c.th.ad c.th.len c.th.cap, .bool f6] W fun r w' => r = .returned (.bool (y.2.2.1.all (Zaf n) && (f6 || decide (y.2.2.1.length = 0)))) ∧ Below W.heap.size W w' from ihF c.th y.2.2.1 f6 W (hth.laterC hb Zl))
  have HC7 := Hd (fun (W : World) (hb : Below w.heap.size w W) => show Calls Tryz.prog 105 #[.slice c.el.ad c.el.len c.el.cap, .bool f7] W fun r w' => r = .returned (.bool (y.2.2.2.all (Zaf n) && (f7 || decide (y.2.2.2.length = 0)))) ∧ Below W.heap.size W w' from ihF c.el y.2.2.2 f7 W (hel.laterC hb Zl))
  generalize Zar c.nm f1 = b1 at *
  generalize Zar c.ot f2 = b2 at *
  generalize Zan m y.2.1.1 f3 = b3 at *
  generalize Zan m y.2.1.2.1 f4 = b4 at *
  generalize (y.2.1.2.2.all (Zac m) && (f5 || decide (y.2.1.2.2.length = 0))) = b5 at *
  generalize (y.2.2.1.all (Zaf n) && (f6 || decide (y.2.2.1.length = 0))) = b6 at *
  generalize (y.2.2.2.all (Zaf n) && (f7 || decide (y.2.2.2.length = 0))) = b7 at *
  have HZ := Hd hZ
  clear hF hZ hfl hk hn1 hn2 hnm hot hix hex hargs hth hel hbA
  unfold Tk.C.val
  go_enter Tryz.func145, Tryz.ntmps145
  (try simp only [List.append_eq, List.cons_append, List.nil_append])
  go_wp2_with fail
  generalize (w.alloc (Obj.cells #[.int .i64 c.k, .int .i64 c.a, .string c.nm, .string c.ot, .int .i64 c.ix.k, .int .i64 c.ix.a, .int .i64 c.ix.n, .string c.ix.nm, .slice c.ix.args.ad c.ix.args.len c.ix.args.cap, .int .i64 c.ex.k, .int .i64 c.ex.a, .int .i64 c.ex.n, .string c.ex.nm, .slice c.ex.args.ad c.ex.args.len c.ex.args.cap, .slice c.args.ad c.args.len c.args.cap, .slice c.th.ad c.th.len c.th.cap, .slice c.el.ad c.el.len c.el.cap] 56)) = wa at *
  refine ((uh HF) wa).mono ?_
  rintro r w1 ⟨rfl, hb1⟩
  replace HB := Hd ((uh HB).trans (hb1.mono (by omega)))
  replace HBX := Hd ((uh HBX).below hb1 (by omega))
  have hs1 := hb1.size
  clear hb1
  have hbN := (Below.refl w1.heap.size w1).alloc Zl (Obj.cells #[.bool f1, .bool f2, .bool f3, .bool f4, .bool f5, .bool f6, .bool f7] 201)
  have hsN : (w1.alloc (Obj.cells #[.bool f1, .bool f2, .bool f3, .bool f4, .bool f5, .bool f6, .bool f7] 201)).heap.size = w1.heap.size + 1 := by simp
  have HFX := Hd (show Tk.BV (w1.alloc (Obj.cells #[.bool f1, .bool f2, .bool f3, .bool f4, .bool f5, .bool f6, .bool f7] 201)) w1.heap.size #[.bool f1, .bool f2, .bool f3, .bool f4, .bool f5, .bool f6, .bool f7] from fun j v h => by go_simp)
  replace HB := Hd ((uh HB).trans (hbN.mono (uh HB).size))
  replace HBX := Hd ((uh HBX).below hbN (by omega))
  clear hbN
  have k2 := (uh HBX) 2 (.string c.nm) rfl
  have g0 := (uh HFX) 0 (.bool f1) rfl
  unfold ZiD
  rw [Option.isSome_some]
  go_wp2_with fail
  generalize (w1.alloc (Obj.cells #[.bool f1, .bool f2, .bool f3, .bool f4, .bool f5, .bool f6, .bool f7] 201)) = wc at *
  generalize w1.heap.size = fb at *
  refine ((uh HC1) wc (uh HB)).mono ?_
  rintro r x1 ⟨rfl, hb⟩
  have hsx1 := hb.size
  replace HB := Hd ((uh HB).trans (hb.mono (uh HB).size))
  replace HBX := Hd ((uh HBX).below hb (by omega))
  replace HFX := Hd ((uh HFX).below hb (by omega))
  clear hb HC1 k2 g0
  cases b1
  · obtain rfl : z = false := by rw [uh HZ]; simp
    go_wp2_with fail
    go_ret
    exact ⟨rfl, uh HB⟩
  have k3 := (uh HBX) 3 (.string c.ot) rfl
  have g1 := (uh HFX) 1 (.bool f2) rfl
  go_wp2_with fail
  refine ((uh HC2) x1 (uh HB)).mono ?_
  rintro r x2 ⟨rfl, hb⟩
  have hsx2 := hb.size
  replace HB := Hd ((uh HB).trans (hb.mono (uh HB).size))
  replace HBX := Hd ((uh HBX).below hb (by omega))
  replace HFX := Hd ((uh HFX).below hb (by omega))
  clear hb HC2 k3 g1
  cases b2
  · obtain rfl : z = false := by rw [uh HZ]; simp
    go_wp2_with fail
    go_ret
    exact ⟨rfl, uh HB⟩
  have k4 := (uh HBX) 4 (.int .i64 c.ix.k) rfl
  have k5 := (uh HBX) 5 (.int .i64 c.ix.a) rfl
  have k6 := (uh HBX) 6 (.int .i64 c.ix.n) rfl
  have k7 := (uh HBX) 7 (.string c.ix.nm) rfl
  have k8 := (uh HBX) 8 (.slice c.ix.args.ad c.ix.args.len c.ix.args.cap) rfl
  have g2 := (uh HFX) 2 (.bool f3) rfl
  go_wp2_with fail
  refine ((uh HC3) x2 (uh HB)).mono ?_
  rintro r x3 ⟨rfl, hb⟩
  have hsx3 := hb.size
  replace HB := Hd ((uh HB).trans (hb.mono (uh HB).size))
  replace HBX := Hd ((uh HBX).below hb (by omega))
  replace HFX := Hd ((uh HFX).below hb (by omega))
  clear hb HC3 k4 k5 k6 k7 k8 g2
  cases b3
  · obtain rfl : z = false := by rw [uh HZ]; simp
    go_wp2_with fail
    go_ret
    exact ⟨rfl, uh HB⟩
  have k9 := (uh HBX) 9 (.int .i64 c.ex.k) rfl
  have k10 := (uh HBX) 10 (.int .i64 c.ex.a) rfl
  have k11 := (uh HBX) 11 (.int .i64 c.ex.n) rfl
  have k12 := (uh HBX) 12 (.string c.ex.nm) rfl
  have k13 := (uh HBX) 13 (.slice c.ex.args.ad c.ex.args.len c.ex.args.cap) rfl
  have g3 := (uh HFX) 3 (.bool f4) rfl
  go_wp2_with fail
  refine ((uh HC4) x3 (uh HB)).mono ?_
  rintro r x4 ⟨rfl, hb⟩
  have hsx4 := hb.size
  replace HB := Hd ((uh HB).trans (hb.mono (uh HB).size))
  replace HBX := Hd ((uh HBX).below hb (by omega))
  replace HFX := Hd ((uh HFX).below hb (by omega))
  clear hb HC4 k9 k10 k11 k12 k13 g3
  cases b4
  · obtain rfl : z = false := by rw [uh HZ]; simp
    go_wp2_with fail
    go_ret
    exact ⟨rfl, uh HB⟩
  have k14 := (uh HBX) 14 (.slice c.args.ad c.args.len c.args.cap) rfl
  have g4 := (uh HFX) 4 (.bool f5) rfl
  go_wp2_with fail
  refine ((uh HC5) x4 (uh HB)).mono ?_
  rintro r x5 ⟨rfl, hb⟩
  have hsx5 := hb.size
  replace HB := Hd ((uh HB).trans (hb.mono (uh HB).size))
  replace HBX := Hd ((uh HBX).below hb (by omega))
  replace HFX := Hd ((uh HFX).below hb (by omega))
  clear hb HC5 k14 g4
  cases b5
  · obtain rfl : z = false := by rw [uh HZ]; simp
    go_wp2_with fail
    go_ret
    exact ⟨rfl, uh HB⟩
  have k15 := (uh HBX) 15 (.slice c.th.ad c.th.len c.th.cap) rfl
  have g5 := (uh HFX) 5 (.bool f6) rfl
  go_wp2_with fail
  refine ((uh HC6) x5 (uh HB)).mono ?_
  rintro r x6 ⟨rfl, hb⟩
  have hsx6 := hb.size
  replace HB := Hd ((uh HB).trans (hb.mono (uh HB).size))
  replace HBX := Hd ((uh HBX).below hb (by omega))
  replace HFX := Hd ((uh HFX).below hb (by omega))
  clear hb HC6 k15 g5
  cases b6
  · obtain rfl : z = false := by rw [uh HZ]; simp
    go_wp2_with fail
    go_ret
    exact ⟨rfl, uh HB⟩
  have k16 := (uh HBX) 16 (.slice c.el.ad c.el.len c.el.cap) rfl
  have g6 := (uh HFX) 6 (.bool f7) rfl
  go_wp2_with fail
  refine ((uh HC7) x6 (uh HB)).mono ?_
  rintro r x7 ⟨rfl, hb⟩
  have hsx7 := hb.size
  replace HB := Hd ((uh HB).trans (hb.mono (uh HB).size))
  replace HBX := Hd ((uh HBX).below hb (by omega))
  replace HFX := Hd ((uh HFX).below hb (by omega))
  clear hb HC7 k16 g6
  obtain rfl : z = b7 := by rw [uh HZ]; simp
  go_wp2_with fail
  go_ret
  exact ⟨rfl, uh HB⟩
theorem Zid {m : Nat} : ∀ (n : Nat) (c : Tk.C) (y : Zap m n) (w : World), Tk.RC w m n c y → Calls Tryz.prog 145 #[c.val] w fun r w' => r = .returned (.bool (Zaf n y)) ∧ Below w.heap.size w w'
 | 0, _, _, _, h => absurd h id
 | n + 1, c, y, w, h => Zkp n (fun s l named w hs => ZgA n (Zid n) s l named w hs) c y w h
theorem Zi0 {m : Nat} (n : Nat) (s : Tk.Sl) (l : List (Zap m n)) (named : Bool) (w : World) (hs : Tk.RS w 17 (Tk.LC w) (Tk.RC w m n) s l) :
  Calls Tryz.prog 105 #[.slice s.ad s.len s.cap, .bool named] w fun r w' => r = .returned (.bool (l.all (Zaf n) && (named || decide (l.length = 0)))) ∧ Below w.heap.size w w' :=
 ZgA n (Zid n) s l named w hs
end Go.Proofs.YtfccpddehpgfoaaGreatDoor
