/-
  Contracts of tree's Check: isCmd, cmdsFit. By the verifier.
-/
import Derived.Test.YtfccpddehpgfoaaGreatDoorTCk1
set_option maxRecDepth 100000
set_option maxHeartbeats 3200000
namespace Go.Proofs.YtfccpddehpgfoaaGreatDoor
open Go.RowKit
set_option linter.unusedVariables false
def Tk.BV (W : World) (b : Nat) (cs : Array Value) : Prop := ∀ j v, cs[j]? = some v → W.cell? ⟨b, j, none⟩ = some v
theorem Tk.BV.below {W W' : World} {b n : Nat} {cs : Array Value} (h : Tk.BV W b cs) (hb : Below n W W') (hn : b < n) : Tk.BV W' b cs := fun j v hj => (hb.cell (p := ⟨b, j, none⟩) hn).trans (h j v hj)
theorem cmdsFit_of {m : Nat} (n : Nat) (ih : ∀ (c : Tk.C) (y : Tk.CT m n) (w : World), Tk.RC w m n c y → Calls Tryz.prog 145 #[c.val] w fun r w' => r = .returned (.bool (Tk.cmdB n y)) ∧ Below w.heap.size w w')
  (s : Tk.Sl) (l : List (Tk.CT m n)) (named : Bool) (w : World) (hs : Tk.RS w 17 (Tk.LC w) (Tk.RC w m n) s l) :
  Calls Tryz.prog 105 #[.slice s.ad s.len s.cap, .bool named] w fun r w' => r = .returned (.bool (l.all (Tk.cmdB n) && (named || decide (l.length = 0)))) ∧ Below w.heap.size w w' := by
 have hlen := hs.len
 have hfew := hs.few
 rw [← hlen] at hfew
 have HS := hide hs
 have HLN := hide hlen
 have IH := hide ih
 clear hs hlen ih
 go_enter Tryz.func105, Tryz.ntmps105
 go_wp2_with fail
 go_loopw [9] (fun iv wr => ∃ i : Nat, i ≤ s.len ∧ iv = .int .i64 i ∧ (∀ j y, j < i → l[j]? = some y → Tk.cmdB n y = true) ∧ Below w.heap.size w wr) (fun iv _ => s.len - (intOf iv).toNat)
 case atStart => exact ⟨0, Nat.zero_le _, rfl, fun j y h => by omega, Below.refl _ _⟩
 case round =>
  obtain ⟨i, hi, rfl, hall, hbe⟩ := hrel
  have hz := hbe.size
  have HAL := hide hall
  have HBE := hide hbe
  clear hall hbe
  by_cases hlt : i < s.len
  · have hlt2 : i < l.length := by have := unhide HLN; omega
    have hy := List.getElem?_eq_getElem hlt2
    obtain ⟨b, o, q, had, hb, hlies, hrd⟩ := (unhide HS).at_ i _ hy
    generalize l[i] = y at *
    have hcell : ∀ j v, q.cells[j]? = some v → wr.cell? ⟨b, o + i * 17 + j, none⟩ = some v := (hlies.later (unhide HBE) (Nat.le_refl _) hb).cells
    have hi0 : (0 : Int) ≤ (i : Int) := by omega
    have hi1 : (i : Int) < (s.len : Int) := by omega
    have hbN := (Below.refl wr.heap.size wr).alloc (Nat.le_refl _) (Obj.cells q.cells 56)
    have HRD := hide ((hrd.later (unhide HBE) (Nat.le_refl _)).later hbN (Nat.le_refl _))
    have HBN := hide ((unhide HBE).trans (hbN.mono (by omega)))
    have HBX := hide (Tk.BX.new2 wr q)
    have hsN : (wr.alloc (Obj.cells q.cells 56)).heap.size = wr.heap.size + 1 := by simp
    have hone := Tk.C.one q
    have HY := hide hy
    clear hlies hrd hy hbN
    rw [had]
    go_upto_region 3 with fail
    refine Tp.elem (cs := q.cells) (z := (Tk.C.zero).cells) (b := b) (o := o) (i := i) (p := 7) (q := 9) (tA := 11) (tL := 12) (tB := 6) rfl rfl rfl rfl rfl rfl rfl rfl rfl rfl rfl rfl rfl rfl hlt (by simp) (by simp) (by simp) (by decide) (by decide) Tryz.underlying49 Tryz.zeroTC rfl rfl Tryz.underlying56 rfl hcell hone ?_
    simp only [List.set_cons_zero, List.set_cons_succ]
    generalize (wr.alloc (Obj.cells q.cells 56)) = wN at *
    clear hcell hone
    have k0 := (unhide HBX) 0 (.int .i64 q.k) rfl
    have k1 := (unhide HBX) 1 (.int .i64 q.a) rfl
    have k2 := (unhide HBX) 2 (.string q.nm) rfl
    have k3 := (unhide HBX) 3 (.string q.ot) rfl
    have k4 := (unhide HBX) 4 (.int .i64 q.ix.k) rfl
    have k5 := (unhide HBX) 5 (.int .i64 q.ix.a) rfl
    have k6 := (unhide HBX) 6 (.int .i64 q.ix.n) rfl
    have k7 := (unhide HBX) 7 (.string q.ix.nm) rfl
    have k8 := (unhide HBX) 8 (.slice q.ix.args.ad q.ix.args.len q.ix.args.cap) rfl
    have k9 := (unhide HBX) 9 (.int .i64 q.ex.k) rfl
    have k10 := (unhide HBX) 10 (.int .i64 q.ex.a) rfl
    have k11 := (unhide HBX) 11 (.int .i64 q.ex.n) rfl
    have k12 := (unhide HBX) 12 (.string q.ex.nm) rfl
    have k13 := (unhide HBX) 13 (.slice q.ex.args.ad q.ex.args.len q.ex.args.cap) rfl
    have k14 := (unhide HBX) 14 (.slice q.args.ad q.args.len q.args.cap) rfl
    have k15 := (unhide HBX) 15 (.slice q.th.ad q.th.len q.th.cap) rfl
    have k16 := (unhide HBX) 16 (.slice q.el.ad q.el.len q.el.cap) rfl
    go_wp2_with fail
    have HTL := hide ((unhide IH) q y wN (unhide HRD))
    unfold Tk.C.val at HTL
    refine (unhide HTL).mono ?_
    rintro r w3 ⟨rfl, hb3⟩
    have HB3 := hide ((unhide HBN).trans (hb3.mono (by have := (unhide HBN).size; omega)))
    clear hb3 HTL k0 k1 k2 k3 k4 k5 k6 k7 k8 k9 k10 k11 k12 k13 k14 k15 k16
    cases hx : Tk.cmdB n y
    · have hf : Hid (l.all (Tk.cmdB n) = false) := by
       show _ = _
       rw [List.all_eq_false]; exact ⟨y, List.mem_of_getElem? (unhide HY), by rw [hx]; decide⟩
      clear hx
      go_wp2_with fail
      go_ret
      exact ⟨ret_bool (by rw [unhide hf]; rfl), unhide HB3⟩
    · have HX := hide hx
      clear hx
      go_wp2_with fail
      refine ⟨⟨i + 1, by omega, by go_num, ?_, unhide HB3⟩, by simp [intOf]; omega⟩
      intro j u hj hu
      by_cases e2 : j = i
      · subst e2
        have := unhide HY
        rw [this] at hu
        cases hu
        exact unhide HX
      · exact (unhide HAL) j u (by omega) hu
  · have hf : Hid (l.all (Tk.cmdB n) = true) := by
     show _ = _
     rw [List.all_eq_true]
     intro y hy
     obtain ⟨j, hj⟩ := List.getElem?_of_mem hy
     exact (unhide HAL) j y (by have := (List.getElem?_eq_some_iff.1 hj).1; have := unhide HLN; omega) hj
    cases named
    · have hq : Hid (decide (l.length = 0) = ((s.len : Int) == 0)) := by
       show _ = _
       rw [Bool.eq_iff_iff, decide_eq_true_eq, beq_iff_eq]; have := unhide HLN; omega
      go_wp2_with fail
      go_ret
      exact ⟨ret_bool (by rw [unhide hf, unhide hq]; simp), unhide HBE⟩
    · go_wp2_with fail
      go_ret
      exact ⟨ret_bool (by rw [unhide hf]; rfl), unhide HBE⟩
theorem isCmd_step {m : Nat} (n : Nat) (ihF : ∀ (s : Tk.Sl) (l : List (Tk.CT m n)) (named : Bool) (w : World), Tk.RS w 17 (Tk.LC w) (Tk.RC w m n) s l → Calls Tryz.prog 105 #[.slice s.ad s.len s.cap, .bool named] w fun r w' => r = .returned (.bool (l.all (Tk.cmdB n) && (named || decide (l.length = 0)))) ∧ Below w.heap.size w w')
  (c : Tk.C) (y : Tk.CT m (n + 1)) (w : World) (h : Tk.RC w m (n + 1) c y) : Calls Tryz.prog 145 #[c.val] w fun r w' => r = .returned (.bool (Tk.cmdB (n + 1) y)) ∧ Below w.heap.size w w' := by
 obtain ⟨⟨⟨hk, -, hn1, hn2⟩, hnm, hot⟩, ⟨hix, hex, hargs⟩, hth, hel⟩ := h
 have hbA := (Below.refl w.heap.size w).alloc (Nat.le_refl _) (Obj.cells #[.int .i64 c.k, .int .i64 c.a, .string c.nm, .string c.ot, .int .i64 c.ix.k, .int .i64 c.ix.a, .int .i64 c.ix.n, .string c.ix.nm, .slice c.ix.args.ad c.ix.args.len c.ix.args.cap, .int .i64 c.ex.k, .int .i64 c.ex.a, .int .i64 c.ex.n, .string c.ex.nm, .slice c.ex.args.ad c.ex.args.len c.ex.args.cap, .slice c.args.ad c.args.len c.args.cap, .slice c.th.ad c.th.len c.th.cap, .slice c.el.ad c.el.len c.el.cap] 56)
 have HB := hide hbA
 have HBX := hide (Tk.BX.new w c)
 have hsa : (w.alloc (Obj.cells #[.int .i64 c.k, .int .i64 c.a, .string c.nm, .string c.ot, .int .i64 c.ix.k, .int .i64 c.ix.a, .int .i64 c.ix.n, .string c.ix.nm, .slice c.ix.args.ad c.ix.args.len c.ix.args.cap, .int .i64 c.ex.k, .int .i64 c.ex.a, .int .i64 c.ex.n, .string c.ex.nm, .slice c.ex.args.ad c.ex.args.len c.ex.args.cap, .slice c.args.ad c.args.len c.args.cap, .slice c.th.ad c.th.len c.th.cap, .slice c.el.ad c.el.len c.el.cap] 56)).heap.size = w.heap.size + 1 := by simp
 have hF := fieldsOf_any c.k
 have hZ : Tk.cmdB (n + 1) y = match Tk.flds c.k with
  | none => false
  | some (f1, f2, f3, f4, f5, f6, f7) => Tk.fitsB c.nm f1 && Tk.fitsB c.ot f2 && Tk.exprFit m y.2.1.1 f3 && Tk.exprFit m y.2.1.2.1 f4 && (y.2.1.2.2.all (Tk.exprB m) && (f5 || decide (y.2.1.2.2.length = 0))) && (y.2.2.1.all (Tk.cmdB n) && (f6 || decide (y.2.2.1.length = 0))) && (y.2.2.2.all (Tk.cmdB n) && (f7 || decide (y.2.2.2.length = 0))) := by rw [hk, hn1, hn2]; rfl
 generalize Tk.cmdB (n + 1) y = z at *
 cases hfl : Tk.flds c.k with
 | none =>
  rw [hfl] at hF hZ
  obtain rfl : z = false := hZ
  have HF := hide hF
  clear hF hfl hk hn1 hn2 hnm hot hix hex hargs hth hel hbA
  unfold Tk.C.val
  go_enter Tryz.func145, Tryz.ntmps145
  (try simp only [List.append_eq, List.cons_append, List.nil_append])
  go_wp2_with fail
  generalize (w.alloc (Obj.cells #[.int .i64 c.k, .int .i64 c.a, .string c.nm, .string c.ot, .int .i64 c.ix.k, .int .i64 c.ix.a, .int .i64 c.ix.n, .string c.ix.nm, .slice c.ix.args.ad c.ix.args.len c.ix.args.cap, .int .i64 c.ex.k, .int .i64 c.ex.a, .int .i64 c.ex.n, .string c.ex.nm, .slice c.ex.args.ad c.ex.args.len c.ex.args.cap, .slice c.args.ad c.args.len c.args.cap, .slice c.th.ad c.th.len c.th.cap, .slice c.el.ad c.el.len c.el.cap] 56)) = wa at *
  refine ((unhide HF) wa).mono ?_
  rintro r w1 ⟨rfl, hb1⟩
  replace HB := hide ((unhide HB).trans (hb1.mono (by omega)))
  clear hb1
  unfold Tk.fldV
  rw [Option.isSome_none]
  go_wp2_with fail
  go_ret
  exact ⟨rfl, (unhide HB).alloc (unhide HB).size _⟩
 | some f =>
  obtain ⟨f1, f2, f3, f4, f5, f6, f7⟩ := f
  rw [hfl] at hF hZ
  dsimp only at hZ
  have HF := hide hF
  have HC1 := hide (fun (W : World) (hb : Below w.heap.size w W) => show Calls Tryz.prog 104 #[.string c.nm, .bool f1] W fun r w' => r = .returned (.bool (Tk.fitsB c.nm f1)) ∧ Below W.heap.size W w' from nameFits_any c.nm f1 W hnm)
  have HC2 := hide (fun (W : World) (hb : Below w.heap.size w W) => show Calls Tryz.prog 104 #[.string c.ot, .bool f2] W fun r w' => r = .returned (.bool (Tk.fitsB c.ot f2)) ∧ Below W.heap.size W w' from nameFits_any c.ot f2 W hot)
  have HC3 := hide (fun (W : World) (hb : Below w.heap.size w W) => show Calls Tryz.prog 106 #[.agg #[.int .i64 c.ix.k, .int .i64 c.ix.a, .int .i64 c.ix.n, .string c.ix.nm, .slice c.ix.args.ad c.ix.args.len c.ix.args.cap], .bool f3] W fun r w' => r = .returned (.bool (Tk.exprFit m y.2.1.1 f3)) ∧ Below W.heap.size W w' from exprFits_any m c.ix y.2.1.1 f3 W (hix.later hb (Nat.le_refl _)))
  have HC4 := hide (fun (W : World) (hb : Below w.heap.size w W) => show Calls Tryz.prog 106 #[.agg #[.int .i64 c.ex.k, .int .i64 c.ex.a, .int .i64 c.ex.n, .string c.ex.nm, .slice c.ex.args.ad c.ex.args.len c.ex.args.cap], .bool f4] W fun r w' => r = .returned (.bool (Tk.exprFit m y.2.1.2.1 f4)) ∧ Below W.heap.size W w' from exprFits_any m c.ex y.2.1.2.1 f4 W (hex.later hb (Nat.le_refl _)))
  have HC5 := hide (fun (W : World) (hb : Below w.heap.size w W) => show Calls Tryz.prog 180 #[.slice c.args.ad c.args.len c.args.cap, .bool f5] W fun r w' => r = .returned (.bool (y.2.1.2.2.all (Tk.exprB m) && (f5 || decide (y.2.1.2.2.length = 0)))) ∧ Below W.heap.size W w' from argsFit_any m c.args y.2.1.2.2 f5 W (hargs.laterE hb (Nat.le_refl _)))
  have HC6 := hide (fun (W : World) (hb : Below w.heap.size w W) => show Calls Tryz.prog 105 #[.slice c.th.ad c.th.len c.th.cap, .bool f6] W fun r w' => r = .returned (.bool (y.2.2.1.all (Tk.cmdB n) && (f6 || decide (y.2.2.1.length = 0)))) ∧ Below W.heap.size W w' from ihF c.th y.2.2.1 f6 W (hth.laterC hb (Nat.le_refl _)))
  have HC7 := hide (fun (W : World) (hb : Below w.heap.size w W) => show Calls Tryz.prog 105 #[.slice c.el.ad c.el.len c.el.cap, .bool f7] W fun r w' => r = .returned (.bool (y.2.2.2.all (Tk.cmdB n) && (f7 || decide (y.2.2.2.length = 0)))) ∧ Below W.heap.size W w' from ihF c.el y.2.2.2 f7 W (hel.laterC hb (Nat.le_refl _)))
  generalize Tk.fitsB c.nm f1 = b1 at *
  generalize Tk.fitsB c.ot f2 = b2 at *
  generalize Tk.exprFit m y.2.1.1 f3 = b3 at *
  generalize Tk.exprFit m y.2.1.2.1 f4 = b4 at *
  generalize (y.2.1.2.2.all (Tk.exprB m) && (f5 || decide (y.2.1.2.2.length = 0))) = b5 at *
  generalize (y.2.2.1.all (Tk.cmdB n) && (f6 || decide (y.2.2.1.length = 0))) = b6 at *
  generalize (y.2.2.2.all (Tk.cmdB n) && (f7 || decide (y.2.2.2.length = 0))) = b7 at *
  have HZ := hide hZ
  clear hF hZ hfl hk hn1 hn2 hnm hot hix hex hargs hth hel hbA
  unfold Tk.C.val
  go_enter Tryz.func145, Tryz.ntmps145
  (try simp only [List.append_eq, List.cons_append, List.nil_append])
  go_wp2_with fail
  generalize (w.alloc (Obj.cells #[.int .i64 c.k, .int .i64 c.a, .string c.nm, .string c.ot, .int .i64 c.ix.k, .int .i64 c.ix.a, .int .i64 c.ix.n, .string c.ix.nm, .slice c.ix.args.ad c.ix.args.len c.ix.args.cap, .int .i64 c.ex.k, .int .i64 c.ex.a, .int .i64 c.ex.n, .string c.ex.nm, .slice c.ex.args.ad c.ex.args.len c.ex.args.cap, .slice c.args.ad c.args.len c.args.cap, .slice c.th.ad c.th.len c.th.cap, .slice c.el.ad c.el.len c.el.cap] 56)) = wa at *
  refine ((unhide HF) wa).mono ?_
  rintro r w1 ⟨rfl, hb1⟩
  replace HB := hide ((unhide HB).trans (hb1.mono (by omega)))
  replace HBX := hide ((unhide HBX).below hb1 (by omega))
  have hs1 := hb1.size
  clear hb1
  have hbN := (Below.refl w1.heap.size w1).alloc (Nat.le_refl _) (Obj.cells #[.bool f1, .bool f2, .bool f3, .bool f4, .bool f5, .bool f6, .bool f7] 201)
  have hsN : (w1.alloc (Obj.cells #[.bool f1, .bool f2, .bool f3, .bool f4, .bool f5, .bool f6, .bool f7] 201)).heap.size = w1.heap.size + 1 := by simp
  have HFX := hide (show Tk.BV (w1.alloc (Obj.cells #[.bool f1, .bool f2, .bool f3, .bool f4, .bool f5, .bool f6, .bool f7] 201)) w1.heap.size #[.bool f1, .bool f2, .bool f3, .bool f4, .bool f5, .bool f6, .bool f7] from fun j v h => by go_simp)
  replace HB := hide ((unhide HB).trans (hbN.mono (unhide HB).size))
  replace HBX := hide ((unhide HBX).below hbN (by omega))
  clear hbN
  have k2 := (unhide HBX) 2 (.string c.nm) rfl
  have g0 := (unhide HFX) 0 (.bool f1) rfl
  unfold Tk.fldV
  rw [Option.isSome_some]
  go_wp2_with fail
  generalize (w1.alloc (Obj.cells #[.bool f1, .bool f2, .bool f3, .bool f4, .bool f5, .bool f6, .bool f7] 201)) = wc at *
  generalize w1.heap.size = fb at *
  refine ((unhide HC1) wc (unhide HB)).mono ?_
  rintro r x1 ⟨rfl, hb⟩
  have hsx1 := hb.size
  replace HB := hide ((unhide HB).trans (hb.mono (unhide HB).size))
  replace HBX := hide ((unhide HBX).below hb (by omega))
  replace HFX := hide ((unhide HFX).below hb (by omega))
  clear hb HC1 k2 g0
  cases b1
  · obtain rfl : z = false := by rw [unhide HZ]; simp
    go_wp2_with fail
    go_ret
    exact ⟨rfl, unhide HB⟩
  · have k3 := (unhide HBX) 3 (.string c.ot) rfl
    have g1 := (unhide HFX) 1 (.bool f2) rfl
    go_wp2_with fail
    refine ((unhide HC2) x1 (unhide HB)).mono ?_
    rintro r x2 ⟨rfl, hb⟩
    have hsx2 := hb.size
    replace HB := hide ((unhide HB).trans (hb.mono (unhide HB).size))
    replace HBX := hide ((unhide HBX).below hb (by omega))
    replace HFX := hide ((unhide HFX).below hb (by omega))
    clear hb HC2 k3 g1
    cases b2
    · obtain rfl : z = false := by rw [unhide HZ]; simp
      go_wp2_with fail
      go_ret
      exact ⟨rfl, unhide HB⟩
    · have k4 := (unhide HBX) 4 (.int .i64 c.ix.k) rfl
      have k5 := (unhide HBX) 5 (.int .i64 c.ix.a) rfl
      have k6 := (unhide HBX) 6 (.int .i64 c.ix.n) rfl
      have k7 := (unhide HBX) 7 (.string c.ix.nm) rfl
      have k8 := (unhide HBX) 8 (.slice c.ix.args.ad c.ix.args.len c.ix.args.cap) rfl
      have g2 := (unhide HFX) 2 (.bool f3) rfl
      go_wp2_with fail
      refine ((unhide HC3) x2 (unhide HB)).mono ?_
      rintro r x3 ⟨rfl, hb⟩
      have hsx3 := hb.size
      replace HB := hide ((unhide HB).trans (hb.mono (unhide HB).size))
      replace HBX := hide ((unhide HBX).below hb (by omega))
      replace HFX := hide ((unhide HFX).below hb (by omega))
      clear hb HC3 k4 k5 k6 k7 k8 g2
      cases b3
      · obtain rfl : z = false := by rw [unhide HZ]; simp
        go_wp2_with fail
        go_ret
        exact ⟨rfl, unhide HB⟩
      · have k9 := (unhide HBX) 9 (.int .i64 c.ex.k) rfl
        have k10 := (unhide HBX) 10 (.int .i64 c.ex.a) rfl
        have k11 := (unhide HBX) 11 (.int .i64 c.ex.n) rfl
        have k12 := (unhide HBX) 12 (.string c.ex.nm) rfl
        have k13 := (unhide HBX) 13 (.slice c.ex.args.ad c.ex.args.len c.ex.args.cap) rfl
        have g3 := (unhide HFX) 3 (.bool f4) rfl
        go_wp2_with fail
        refine ((unhide HC4) x3 (unhide HB)).mono ?_
        rintro r x4 ⟨rfl, hb⟩
        have hsx4 := hb.size
        replace HB := hide ((unhide HB).trans (hb.mono (unhide HB).size))
        replace HBX := hide ((unhide HBX).below hb (by omega))
        replace HFX := hide ((unhide HFX).below hb (by omega))
        clear hb HC4 k9 k10 k11 k12 k13 g3
        cases b4
        · obtain rfl : z = false := by rw [unhide HZ]; simp
          go_wp2_with fail
          go_ret
          exact ⟨rfl, unhide HB⟩
        · have k14 := (unhide HBX) 14 (.slice c.args.ad c.args.len c.args.cap) rfl
          have g4 := (unhide HFX) 4 (.bool f5) rfl
          go_wp2_with fail
          refine ((unhide HC5) x4 (unhide HB)).mono ?_
          rintro r x5 ⟨rfl, hb⟩
          have hsx5 := hb.size
          replace HB := hide ((unhide HB).trans (hb.mono (unhide HB).size))
          replace HBX := hide ((unhide HBX).below hb (by omega))
          replace HFX := hide ((unhide HFX).below hb (by omega))
          clear hb HC5 k14 g4
          cases b5
          · obtain rfl : z = false := by rw [unhide HZ]; simp
            go_wp2_with fail
            go_ret
            exact ⟨rfl, unhide HB⟩
          · have k15 := (unhide HBX) 15 (.slice c.th.ad c.th.len c.th.cap) rfl
            have g5 := (unhide HFX) 5 (.bool f6) rfl
            go_wp2_with fail
            refine ((unhide HC6) x5 (unhide HB)).mono ?_
            rintro r x6 ⟨rfl, hb⟩
            have hsx6 := hb.size
            replace HB := hide ((unhide HB).trans (hb.mono (unhide HB).size))
            replace HBX := hide ((unhide HBX).below hb (by omega))
            replace HFX := hide ((unhide HFX).below hb (by omega))
            clear hb HC6 k15 g5
            cases b6
            · obtain rfl : z = false := by rw [unhide HZ]; simp
              go_wp2_with fail
              go_ret
              exact ⟨rfl, unhide HB⟩
            · have k16 := (unhide HBX) 16 (.slice c.el.ad c.el.len c.el.cap) rfl
              have g6 := (unhide HFX) 6 (.bool f7) rfl
              go_wp2_with fail
              refine ((unhide HC7) x6 (unhide HB)).mono ?_
              rintro r x7 ⟨rfl, hb⟩
              have hsx7 := hb.size
              replace HB := hide ((unhide HB).trans (hb.mono (unhide HB).size))
              replace HBX := hide ((unhide HBX).below hb (by omega))
              replace HFX := hide ((unhide HFX).below hb (by omega))
              clear hb HC7 k16 g6
              obtain rfl : z = b7 := by rw [unhide HZ]; simp
              go_wp2_with fail
              go_ret
              exact ⟨rfl, unhide HB⟩
theorem isCmd_any {m : Nat} : ∀ (n : Nat) (c : Tk.C) (y : Tk.CT m n) (w : World), Tk.RC w m n c y → Calls Tryz.prog 145 #[c.val] w fun r w' => r = .returned (.bool (Tk.cmdB n y)) ∧ Below w.heap.size w w'
 | 0, _, _, _, h => absurd h id
 | n + 1, c, y, w, h => isCmd_step n (fun s l named w hs => cmdsFit_of n (isCmd_any n) s l named w hs) c y w h
theorem cmdsFit_any {m : Nat} (n : Nat) (s : Tk.Sl) (l : List (Tk.CT m n)) (named : Bool) (w : World) (hs : Tk.RS w 17 (Tk.LC w) (Tk.RC w m n) s l) :
  Calls Tryz.prog 105 #[.slice s.ad s.len s.cap, .bool named] w fun r w' => r = .returned (.bool (l.all (Tk.cmdB n) && (named || decide (l.length = 0)))) ∧ Below w.heap.size w w' :=
 cmdsFit_of n (isCmd_any n) s l named w hs
end Go.Proofs.YtfccpddehpgfoaaGreatDoor
