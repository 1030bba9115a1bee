/-
  The contract of scope's (checker).cmd. By the verifier; written by mkcmd.py.
-/
import Derived.Test.YtpfogjplnodacaaGreatPExpr
import Derived.Test.YtpfogjplnodacaaGreatPMore
import Derived.BigQuiet
set_option maxRecDepth 100000
set_option maxHeartbeats 12800000
namespace Go.Proofs.YtpfogjplnodacaaGreat
open Go.RowKit
set_option linter.unusedVariables false
def Pg.wc (k : Int) (va : Option Int) (my mo pa : Bool) (wi we wa : Nat) : Nat :=
 if ¬ (1 ≤ k ∧ k ≤ 7) then 7
 else if k ≤ 4 ∧ va = none then 5
 else if k = 3 ∧ my = false then 5
 else if k ≤ 4 ∧ ¬ (va.getD 0 ≠ 0 ↔ k = 2) then 7
 else if mo = true then 1
 else if k = 3 ∧ pa = false then 1
 else Pg.orW (if k = 2 then wi else 0) (Pg.orW (if k = 3 ∨ k = 4 then 0 else we) wa)
theorem Pg.pass {P : Program} {ops : Array Oper} {Q : Exit → Act → World → Prop} {md : Region.Mode} {fuel : Nat} {listed : Array Bool} {a : Act} {w : World} (i d : Nat) (hi : (ops[i]?).map (fun o => o.dst) = some (some d))
  (hs : Region.noSelect ops = true) (hf : Region.free md ops listed i = true) (hr : (Region.ready md ops listed).contains i = true)
  (hQ : ∀ c a w, Q (.panic c) (a.put (some d) undef) w → Q (.panic c) a w) (hw : (ops[i]?).map (fun o => Region.wanted o (yielded ops a.tmps)) = some false)
  (h : wpAny P md ops Q fuel (listed.setIfInBounds i true) (a.put (some d) undef) w) : wpAny P md ops Q (fuel + 1) listed a w := by
 cases ho : ops[i]? with
 | none => rw [ho] at hi; cases hi
 | some o =>
  rw [ho] at hi hw
  have h1 : o.dst = some d := by simpa using hi
  have h2 : Region.wanted o (yielded ops a.tmps) = false := by simpa using hw
  exact wpAny_take ho hs hf hr (by rw [h1]; exact hQ) (Or.inr ⟨h2, rfl⟩) (by rw [h1]; exact h)
theorem Pg.give {P : Program} {ops : Array Oper} {Q : Exit → Act → World → Prop} {md : Region.Mode} {fuel : Nat} {listed : Array Bool} {a : Act} {w : World} (i d : Nat) (v : Value) (hi : (ops[i]?).map (fun o => o.dst) = some (some d))
  (hs : Region.noSelect ops = true) (hf : Region.free md ops listed i = true) (hr : (Region.ready md ops listed).contains i = true)
  (hQ : ∀ c a w, Q (.panic c) (a.put (some d) v) w → Q (.panic c) a w) (hy : ∀ o, ops[i]? = some o → Yields P ops o v a)
  (h : wpAny P md ops Q fuel (listed.setIfInBounds i true) (a.put (some d) v) w) : wpAny P md ops Q (fuel + 1) listed a w := by
 cases ho : ops[i]? with
 | none => rw [ho] at hi; cases hi
 | some o =>
  rw [ho] at hi
  have h1 : o.dst = some d := by simpa using hi
  exact wpAny_take ho hs hf hr (by rw [h1]; exact hQ) (hy o ho) (by rw [h1]; exact h)
abbrev Pg.S14 (s : Pg.Sl) (now : Nat) (c : Pg.C) (w W : World) : Prop := W.cell? ⟨w.heap.size, 0, none⟩ = some (.slice s.ad s.len s.cap) ∧ W.cell? ⟨w.heap.size, 1, none⟩ = some (.int .i64 (now : Nat)) ∧ W.cell? ⟨w.heap.size + 1, 0, none⟩ = some (.int .i64 c.k) ∧ W.cell? ⟨w.heap.size + 1, 1, none⟩ = some (.int .i64 c.v) ∧ W.cell? ⟨w.heap.size + 1, 2, none⟩ = some (.int .i64 c.f) ∧ W.cell? ⟨w.heap.size + 1, 3, none⟩ = some (.int .i64 c.ix.k) ∧ W.cell? ⟨w.heap.size + 1, 4, none⟩ = some (.int .i64 c.ix.n) ∧ W.cell? ⟨w.heap.size + 1, 5, none⟩ = some (.slice c.ix.args.ad c.ix.args.len c.ix.args.cap) ∧ W.cell? ⟨w.heap.size + 1, 6, none⟩ = some (.int .i64 c.ex.k) ∧ W.cell? ⟨w.heap.size + 1, 7, none⟩ = some (.int .i64 c.ex.n) ∧ W.cell? ⟨w.heap.size + 1, 8, none⟩ = some (.slice c.ex.args.ad c.ex.args.len c.ex.args.cap) ∧ W.cell? ⟨w.heap.size + 1, 9, none⟩ = some (.slice c.args.ad c.args.len c.args.cap) ∧ W.cell? ⟨w.heap.size + 1, 10, none⟩ = some (.slice c.thn.ad c.thn.len c.thn.cap) ∧ W.cell? ⟨w.heap.size + 1, 11, none⟩ = some (.slice c.els.ad c.els.len c.els.cap) ∧ Below w.heap.size w W
theorem Pg.S14.below {s : Pg.Sl} {now : Nat} {c : Pg.C} {w W W' : World} (h : Pg.S14 s now c w W) (hb : Below W.heap.size W W') : Pg.S14 s now c w W' := by
 obtain ⟨a0, a1, c0, c1, c2, c3, c4, c5, c6, c7, c8, c9, c10, c11, hbw⟩ := h
 refine ⟨?_, ?_, ?_, ?_, ?_, ?_, ?_, ?_, ?_, ?_, ?_, ?_, ?_, ?_, hbw.trans (hb.mono hbw.size)⟩
 · rw [hb.cell (World.block_lt_of_cell? W _ a0)]; exact a0
 · rw [hb.cell (World.block_lt_of_cell? W _ a1)]; exact a1
 · rw [hb.cell (World.block_lt_of_cell? W _ c0)]; exact c0
 · rw [hb.cell (World.block_lt_of_cell? W _ c1)]; exact c1
 · rw [hb.cell (World.block_lt_of_cell? W _ c2)]; exact c2
 · rw [hb.cell (World.block_lt_of_cell? W _ c3)]; exact c3
 · rw [hb.cell (World.block_lt_of_cell? W _ c4)]; exact c4
 · rw [hb.cell (World.block_lt_of_cell? W _ c5)]; exact c5
 · rw [hb.cell (World.block_lt_of_cell? W _ c6)]; exact c6
 · rw [hb.cell (World.block_lt_of_cell? W _ c7)]; exact c7
 · rw [hb.cell (World.block_lt_of_cell? W _ c8)]; exact c8
 · rw [hb.cell (World.block_lt_of_cell? W _ c9)]; exact c9
 · rw [hb.cell (World.block_lt_of_cell? W _ c10)]; exact c10
 · rw [hb.cell (World.block_lt_of_cell? W _ c11)]; exact c11
theorem Pg.S14.drew {s : Pg.Sl} {now : Nat} {c : Pg.C} {w W : World} (h : Pg.S14 s now c w W) : Pg.S14 s now c w W.drew := by
 obtain ⟨a0, a1, c0, c1, c2, c3, c4, c5, c6, c7, c8, c9, c10, c11, hbw⟩ := h
 exact ⟨a0, a1, c0, c1, c2, c3, c4, c5, c6, c7, c8, c9, c10, c11, hbw.drew⟩
theorem Pg.S14.bel {s : Pg.Sl} {now : Nat} {c : Pg.C} {w W : World} (h : Pg.S14 s now c w W) : Below w.heap.size w W := by
 obtain ⟨a0, a1, c0, c1, c2, c3, c4, c5, c6, c7, c8, c9, c10, c11, hbw⟩ := h
 exact hbw
theorem cmd_core (s : Pg.Sl) (now : Nat) (c : Pg.C) (w : World) (va : Option Int) (my mo : Bool) (P : Int) (wi we : Nat) (wl : List Nat)
  (hln : s.len ≤ 35184372088832) (hal : c.args.len ≤ 35184372088832) (hwl : wl.length = c.args.len)
  (hhv : ∀ W, Below w.heap.size w W → Calls Tryz.prog 122 #[.agg #[.slice s.ad s.len s.cap, .int .i64 (now : Nat)], .int .i64 c.v] W fun r w' => r = .returned (.bool va.isSome) ∧ Below W.heap.size W w')
  (hia : ∀ W, Below w.heap.size w W → ∀ v, va = some v → Calls Tryz.prog 124 #[.agg #[.slice s.ad s.len s.cap, .int .i64 (now : Nat)], .int .i64 c.v] W fun r w' => r = .returned (.bool (decide (v ≠ 0))) ∧ Below W.heap.size W w')
  (hmy : ∀ W, Below w.heap.size w W → Calls Tryz.prog 123 #[.agg #[.slice s.ad s.len s.cap, .int .i64 (now : Nat)], .int .i64 c.f] W fun r w' => r = .returned (.bool my) ∧ Below W.heap.size W w')
  (hmo : ∀ W, Below w.heap.size w W → 1 ≤ c.k ∧ c.k ≤ 7 → Calls Tryz.prog 125 #[c.val] W fun r w' => r = .returned (.bool mo) ∧ Below W.heap.size W w')
  (hpa : my = true → ∃ (b o j : Nat), s.ad = some ⟨b, o, none⟩ ∧ b < w.heap.size ∧ c.f = j ∧ j < s.len ∧ w.cell? ⟨b, o + j * 6, none⟩ = some (.int .i64 P))
  (hix : ∀ W, Below w.heap.size w W → Calls Tryz.prog 118 #[.agg #[.slice s.ad s.len s.cap, .int .i64 (now : Nat)], c.ix.val] W fun r w' => r = Pg.ends wi (.tuple #[]) ∧ Below W.heap.size W w')
  (hex : ∀ W, Below w.heap.size w W → Calls Tryz.prog 118 #[.agg #[.slice s.ad s.len s.cap, .int .i64 (now : Nat)], c.ex.val] W fun r w' => r = Pg.ends we (.tuple #[]) ∧ Below W.heap.size W w')
  (hag : ∀ i y, wl[i]? = some y → ∃ (b o : Nat) (e : Pg.E), c.args.ad = some ⟨b, o, none⟩ ∧ b < w.heap.size ∧ Pg.LE w b (o + i * 3) e ∧ ∀ W, Below w.heap.size w W → Calls Tryz.prog 118 #[.agg #[.slice s.ad s.len s.cap, .int .i64 (now : Nat)], e.val] W fun r w' => r = Pg.ends y (.tuple #[]) ∧ Below W.heap.size W w') :
  Calls Tryz.prog 116 #[.agg #[.slice s.ad s.len s.cap, .int .i64 (now : Nat)], c.val] w fun r w' => r = Pg.ends (Pg.wc c.k va my mo (decide ((c.args.len : Int) = P)) wi we (Pg.first wl)) (.tuple #[]) ∧ Below w.heap.size w w' := by
 have hb0 := ((Below.refl w.heap.size w).alloc (Nat.le_refl _) (Obj.cells #[.slice s.ad s.len s.cap, .int .i64 (now : Nat)] 146)).alloc (by simp) (Obj.cells #[.int .i64 c.k, .int .i64 c.v, .int .i64 c.f, .int .i64 c.ix.k, .int .i64 c.ix.n, .slice c.ix.args.ad c.ix.args.len c.ix.args.cap, .int .i64 c.ex.k, .int .i64 c.ex.n, .slice c.ex.args.ad c.ex.args.len c.ex.args.cap, .slice c.args.ad c.args.len c.args.cap, .slice c.thn.ad c.thn.len c.thn.cap, .slice c.els.ad c.els.len c.els.cap] 107)
 have HS := hide (show Pg.S14 s now c w ((w.alloc (Obj.cells #[.slice s.ad s.len s.cap, .int .i64 (now : Nat)] 146)).alloc (Obj.cells #[.int .i64 c.k, .int .i64 c.v, .int .i64 c.f, .int .i64 c.ix.k, .int .i64 c.ix.n, .slice c.ix.args.ad c.ix.args.len c.ix.args.cap, .int .i64 c.ex.k, .int .i64 c.ex.n, .slice c.ex.args.ad c.ex.args.len c.ex.args.cap, .slice c.args.ad c.args.len c.args.cap, .slice c.thn.ad c.thn.len c.thn.cap, .slice c.els.ad c.els.len c.els.cap] 107)) from ⟨by go_simp, by go_simp, by go_simp, by go_simp, by go_simp, by go_simp, by go_simp, by go_simp, by go_simp, by go_simp, by go_simp, by go_simp, by go_simp, by go_simp, hb0⟩)
 have HC := hide (show Pg.wc c.k va my mo (decide ((c.args.len : Int) = P)) wi we (Pg.first wl) = Pg.wc c.k va my mo (decide ((c.args.len : Int) = P)) wi we (Pg.first wl) from rfl)
 obtain ⟨R, hR⟩ : ∃ R, R = Pg.wc c.k va my mo (decide ((c.args.len : Int) = P)) wi we (Pg.first wl) := ⟨_, rfl⟩
 rw [← hR]
 have HC := hide hR
 have HHV := hide hhv
 have HIA := hide hia
 have HMY := hide hmy
 have HMO := hide hmo
 have HPA := hide hpa
 have HIX := hide hix
 have HEX := hide hex
 have HAG := hide hag
 have HWL := hide hwl
 clear hb0 hR hhv hia hmy hmo hpa hix hex hag hwl
 unfold Pg.C.val Pg.E.val at *
 go_enter Tryz.func116, Tryz.ntmps116
 go_upto_region 1 with fail
 generalize ((w.alloc (Obj.cells #[.slice s.ad s.len s.cap, .int .i64 (now : Nat)] 146)).alloc (Obj.cells #[.int .i64 c.k, .int .i64 c.v, .int .i64 c.f, .int .i64 c.ix.k, .int .i64 c.ix.n, .slice c.ix.args.ad c.ix.args.len c.ix.args.cap, .int .i64 c.ex.k, .int .i64 c.ex.n, .slice c.ex.args.ad c.ex.args.len c.ex.args.cap, .slice c.args.ad c.args.len c.args.cap, .slice c.thn.ad c.thn.len c.thn.cap, .slice c.els.ad c.els.len c.els.cap] 107)) = W0 at *
 obtain ⟨a0, a1, c0, c1, c2, c3, c4, c5, c6, c7, c8, c9, c10, c11, hbw⟩ := unhide HS
 have HBW := hide hbw
 clear hbw
 by_cases hK : 1 ≤ c.k ∧ c.k ≤ 7
 case neg =>
  have HR := hide (show R = 7 by rw [unhide HC]; unfold Pg.wc; rw [if_pos hK])
  by_cases hk1 : c.k < 1
  · clear hK
    go_wp2_with fail
    refine (refuse_yes 7 _).mono ?_
    rintro r w9 ⟨rfl, hw9⟩
    subst hw9
    go_wp2_with fail
    exact ⟨rfl, by rw [unhide HR]; exact (Pg.ends_no (by decide)).symm, unhide HBW⟩
  · have hk2 : c.k > 7 := by omega
    clear hK
    go_wp2_with fail
    refine (refuse_yes 7 _).mono ?_
    rintro r w9 ⟨rfl, hw9⟩
    subst hw9
    go_wp2_with fail
    exact ⟨rfl, by rw [unhide HR]; exact (Pg.ends_no (by decide)).symm, unhide HBW⟩
 case pos =>
  have g1 : ¬ c.k < 1 := by omega
  have g2 : ¬ c.k > 7 := by omega
  have HMO := hide (fun (W : World) (hW : Below w.heap.size w W) => (unhide HMO) W hW hK)
  have HC1 := hide (show R = if c.k ≤ 4 ∧ va = none then 5 else if c.k = 3 ∧ my = false then 5 else if c.k ≤ 4 ∧ ¬ (va.getD 0 ≠ 0 ↔ c.k = 2) then 7 else if mo = true then 1 else if c.k = 3 ∧ (decide ((c.args.len : Int) = P)) = false then 1 else Pg.orW (if c.k = 2 then wi else 0) (Pg.orW (if c.k = 3 ∨ c.k = 4 then 0 else we) (Pg.first wl)) by rw [unhide HC]; unfold Pg.wc; rw [if_neg (by simp; exact hK)])
  go_wp2_with fail
  refine (refuse_no 7 _).mono ?_
  rintro r w1 ⟨rfl, hw1⟩
  subst hw1
  clear g1 g2
  obtain ⟨hv, hhv⟩ : ∃ b, b = decide (c.k ≤ 4) := ⟨_, rfl⟩
  obtain ⟨ic, hic⟩ : ∃ b, b = (c.k == 3) := ⟨_, rfl⟩
  have HHV4 := hide hhv
  have HIC3 := hide hic
  go_upto_region 2 with fail
  go_cut [4, 5] (fun t4 t5 W => t4 = .bool hv ∧ t5 = .bool ic ∧ Pg.S14 s now c w W)
  case first =>
   clear hhv hic a0 a1 c0 c1 c2 c3 c4 c5 c6 c7 c8 c9 c10 c11
   go_region_held3 (fun W => W.cell? ⟨w.heap.size, 0, none⟩ = some (.slice s.ad s.len s.cap) ∧ W.cell? ⟨w.heap.size, 1, none⟩ = some (.int .i64 (now : Nat)) ∧ W.cell? ⟨w.heap.size + 1, 0, none⟩ = some (.int .i64 c.k) ∧ W.cell? ⟨w.heap.size + 1, 1, none⟩ = some (.int .i64 c.v) ∧ W.cell? ⟨w.heap.size + 1, 2, none⟩ = some (.int .i64 c.f) ∧ W.cell? ⟨w.heap.size + 1, 3, none⟩ = some (.int .i64 c.ix.k) ∧ W.cell? ⟨w.heap.size + 1, 4, none⟩ = some (.int .i64 c.ix.n) ∧ W.cell? ⟨w.heap.size + 1, 5, none⟩ = some (.slice c.ix.args.ad c.ix.args.len c.ix.args.cap) ∧ W.cell? ⟨w.heap.size + 1, 6, none⟩ = some (.int .i64 c.ex.k) ∧ W.cell? ⟨w.heap.size + 1, 7, none⟩ = some (.int .i64 c.ex.n) ∧ W.cell? ⟨w.heap.size + 1, 8, none⟩ = some (.slice c.ex.args.ad c.ex.args.len c.ex.args.cap) ∧ W.cell? ⟨w.heap.size + 1, 9, none⟩ = some (.slice c.args.ad c.args.len c.args.cap) ∧ W.cell? ⟨w.heap.size + 1, 10, none⟩ = some (.slice c.thn.ad c.thn.len c.thn.cap) ∧ W.cell? ⟨w.heap.size + 1, 11, none⟩ = some (.slice c.els.ad c.els.len c.els.cap) ∧ Below w.heap.size w W) (first | assumption | exact Pg.S14.drew (unhide HS)) (fail)
   all_goals
    go_wp2_with fail
    go_meet
    case rel => exact ⟨by rw [unhide HHV4], by rw [unhide HIC3], by assumption⟩
  case rest =>
   rename World => W2
   clear a0 a1 c0 c1 c2 c3 c4 c5 c6 c7 c8 c9 c10 c11 HBW HS hhv hic
   obtain ⟨rfl, rfl, hcut⟩ := hcut
   have HC2 := hide hcut
   obtain ⟨a0, a1, c0, c1, c2, c3, c4, c5, c6, c7, c8, c9, c10, c11, hbw⟩ := hcut
   have HBW := hide hbw
   have hz2 := hbw.size
   clear hbw
   go_upto_region 3 with fail
   go_cut [] (fun W => Pg.S14 s now c w W ∧ (c.k ≤ 4 → ∃ v, va = some v) ∧ R = if c.k = 3 ∧ my = false then 5 else if c.k ≤ 4 ∧ ¬ (va.getD 0 ≠ 0 ↔ c.k = 2) then 7 else if mo = true then 1 else if c.k = 3 ∧ (decide ((c.args.len : Int) = P)) = false then 1 else Pg.orW (if c.k = 2 then wi else 0) (Pg.orW (if c.k = 3 ∨ c.k = 4 then 0 else we) (Pg.first wl)))
   case first =>
    cases hv with
    | false =>
     have HR := hide (show R = if c.k = 3 ∧ my = false then 5 else if c.k ≤ 4 ∧ ¬ (va.getD 0 ≠ 0 ↔ c.k = 2) then 7 else if mo = true then 1 else if c.k = 3 ∧ (decide ((c.args.len : Int) = P)) = false then 1 else Pg.orW (if c.k = 2 then wi else 0) (Pg.orW (if c.k = 3 ∨ c.k = 4 then 0 else we) (Pg.first wl)) by rw [unhide HC1, if_neg (fun h => by have h2 := unhide HHV4; simp at h2; omega)])
     have HN := hide (show c.k ≤ 4 → ∃ v, va = some v from fun h => by have h2 := unhide HHV4; simp at h2; omega)
     go_wp2_with fail
     refine (refuse_no 5 _).mono ?_
     rintro r w3 ⟨rfl, hw3⟩
     subst hw3
     go_wp2_with fail
     go_meet
     case rel => exact ⟨unhide HC2, unhide HN, unhide HR⟩
    | true =>
     have hk4 : c.k ≤ 4 := by have h2 := unhide HHV4; simpa using h2.symm
     cases va with
     | none =>
      have HR := hide (show R = 5 by rw [unhide HC1, if_pos ⟨hk4, rfl⟩])
      clear hk4
      go_wp2_with fail
      refine ((unhide HHV) _ (unhide HBW)).mono ?_
      rintro r w3 ⟨rfl, hb3⟩
      have HB3 := hide ((unhide HBW).trans (hb3.mono hz2))
      clear hb3
      go_wp2_with fail
      refine (refuse_yes 5 _).mono ?_
      rintro r w9 ⟨rfl, hw9⟩
      subst hw9
      go_wp2_with fail
      exact ⟨rfl, by rw [unhide HR]; exact (Pg.ends_no (by decide)).symm, unhide HB3⟩
     | some v =>
      have HR := hide (show R = if c.k = 3 ∧ my = false then 5 else if c.k ≤ 4 ∧ ¬ ((some v).getD 0 ≠ 0 ↔ c.k = 2) then 7 else if mo = true then 1 else if c.k = 3 ∧ (decide ((c.args.len : Int) = P)) = false then 1 else Pg.orW (if c.k = 2 then wi else 0) (Pg.orW (if c.k = 3 ∨ c.k = 4 then 0 else we) (Pg.first wl)) by rw [unhide HC1, if_neg (by simp)])
      clear hk4
      go_wp2_with fail
      refine ((unhide HHV) _ (unhide HBW)).mono ?_
      rintro r w3 ⟨rfl, hb3⟩
      have HC3 := hide ((unhide HC2).below hb3)
      clear hb3
      go_wp2_with fail
      refine (refuse_no 5 _).mono ?_
      rintro r w4 ⟨rfl, hw4⟩
      subst hw4
      go_wp2_with fail
      go_meet
      case rel => exact ⟨unhide HC3, fun _ => ⟨v, rfl⟩, unhide HR⟩
   case rest =>
    rename World => W3
    clear a0 a1 c0 c1 c2 c3 c4 c5 c6 c7 c8 c9 c10 c11 HBW HC2 HC1 hz2
    obtain ⟨hcut, hva, hR⟩ := hcut
    have HVA := hide hva
    have HR3 := hide hR
    have HC2 := hide hcut
    obtain ⟨a0, a1, c0, c1, c2, c3, c4, c5, c6, c7, c8, c9, c10, c11, hbw⟩ := hcut
    have HBW := hide hbw
    have hz2 := hbw.size
    clear hbw hva hR
    go_upto_region 4 with fail
    go_cut [] (fun W => Pg.S14 s now c w W ∧ (c.k = 3 → my = true) ∧ R = if c.k ≤ 4 ∧ ¬ (va.getD 0 ≠ 0 ↔ c.k = 2) then 7 else if mo = true then 1 else if c.k = 3 ∧ (decide ((c.args.len : Int) = P)) = false then 1 else Pg.orW (if c.k = 2 then wi else 0) (Pg.orW (if c.k = 3 ∨ c.k = 4 then 0 else we) (Pg.first wl)))
    case first =>
     cases ic with
     | false =>
      have HR := hide (show R = if c.k ≤ 4 ∧ ¬ (va.getD 0 ≠ 0 ↔ c.k = 2) then 7 else if mo = true then 1 else if c.k = 3 ∧ (decide ((c.args.len : Int) = P)) = false then 1 else Pg.orW (if c.k = 2 then wi else 0) (Pg.orW (if c.k = 3 ∨ c.k = 4 then 0 else we) (Pg.first wl)) by rw [unhide HR3, if_neg (fun h => by have h2 := unhide HIC3; simp at h2; omega)])
      have HN := hide (show c.k = 3 → my = true from fun h => by have h2 := unhide HIC3; simp at h2; omega)
      go_wp2_with fail
      refine (refuse_no 5 _).mono ?_
      rintro r w3 ⟨rfl, hw3⟩
      subst hw3
      go_wp2_with fail
      go_meet
      case rel => exact ⟨unhide HC2, unhide HN, unhide HR⟩
     | true =>
      have hk3 : c.k = 3 := by have h2 := unhide HIC3; simpa using h2.symm
      cases my with
      | false =>
       have HR := hide (show R = 5 by rw [unhide HR3, if_pos ⟨hk3, rfl⟩])
       clear hk3
       go_wp2_with fail
       refine ((unhide HMY) _ (unhide HBW)).mono ?_
       rintro r w3 ⟨rfl, hb3⟩
       have HB3 := hide ((unhide HBW).trans (hb3.mono hz2))
       clear hb3
       go_wp2_with fail
       refine (refuse_yes 5 _).mono ?_
       rintro r w9 ⟨rfl, hw9⟩
       subst hw9
       go_wp2_with fail
       exact ⟨rfl, by rw [unhide HR]; exact (Pg.ends_no (by decide)).symm, unhide HB3⟩
      | true =>
       have HR := hide (show R = if c.k ≤ 4 ∧ ¬ (va.getD 0 ≠ 0 ↔ c.k = 2) then 7 else if mo = true then 1 else if c.k = 3 ∧ (decide ((c.args.len : Int) = P)) = false then 1 else Pg.orW (if c.k = 2 then wi else 0) (Pg.orW (if c.k = 3 ∨ c.k = 4 then 0 else we) (Pg.first wl)) by rw [unhide HR3, if_neg (by simp)])
       clear hk3
       go_wp2_with fail
       refine ((unhide HMY) _ (unhide HBW)).mono ?_
       rintro r w3 ⟨rfl, hb3⟩
       have HC3 := hide ((unhide HC2).below hb3)
       clear hb3
       go_wp2_with fail
       refine (refuse_no 5 _).mono ?_
       rintro r w4 ⟨rfl, hw4⟩
       subst hw4
       go_wp2_with fail
       go_meet
       case rel => exact ⟨unhide HC3, by simp, unhide HR⟩
    case rest =>
     rename World => W4
     clear a0 a1 c0 c1 c2 c3 c4 c5 c6 c7 c8 c9 c10 c11 HBW HC2 HR3 hz2
     obtain ⟨hcut, hmy, hR⟩ := hcut
     have HMT := hide hmy
     have HR4 := hide hR
     have HC2 := hide hcut
     obtain ⟨a0, a1, c0, c1, c2, c3, c4, c5, c6, c7, c8, c9, c10, c11, hbw⟩ := hcut
     have HBW := hide hbw
     have hz2 := hbw.size
     clear hbw hmy hR
     go_upto_region 5 with fail
     go_cut [] (fun W => Pg.S14 s now c w W ∧ R = if mo = true then 1 else if c.k = 3 ∧ (decide ((c.args.len : Int) = P)) = false then 1 else Pg.orW (if c.k = 2 then wi else 0) (Pg.orW (if c.k = 3 ∨ c.k = 4 then 0 else we) (Pg.first wl)))
     case first =>
      cases hv with
      | false =>
       have HR := hide (show R = if mo = true then 1 else if c.k = 3 ∧ (decide ((c.args.len : Int) = P)) = false then 1 else Pg.orW (if c.k = 2 then wi else 0) (Pg.orW (if c.k = 3 ∨ c.k = 4 then 0 else we) (Pg.first wl)) by rw [unhide HR4, if_neg (fun h => by have h2 := unhide HHV4; simp at h2; omega)])
       refine wp_region_any (by kernel_rfl) ?_
       try (change wpAny _ _ _ _ _ _ _ (World.drew _))
       refine Pg.give 0 41 (.bool false) (by kernel_rfl) (by kernel_rfl) (by kernel_rfl) (by kernel_rfl) (fun _ _ _ h => h) (fun o ho => by cases ho; exact Or.inl ⟨by rfl, fun w => by go_simp⟩) ?_
       simp only [Act.put, List.setIfInBounds_toArray, List.set_cons_zero, List.set_cons_succ]
       refine Pg.give 1 42 (.bool false) (by kernel_rfl) (by kernel_rfl) (by kernel_rfl) (by kernel_rfl) (fun _ _ _ h => h) (fun o ho => by cases ho; exact Or.inl ⟨by rfl, fun w => by go_simp⟩) ?_
       simp only [Act.put, List.setIfInBounds_toArray, List.set_cons_zero, List.set_cons_succ]
       refine Pg.pass 2 43 (by kernel_rfl) (by kernel_rfl) (by kernel_rfl) (by kernel_rfl) (fun _ _ _ h => h) (by rfl) ?_
       simp only [Act.put, List.setIfInBounds_toArray, List.set_cons_zero, List.set_cons_succ]
       refine Pg.pass 3 44 (by kernel_rfl) (by kernel_rfl) (by kernel_rfl) (by kernel_rfl) (fun _ _ _ h => h) (by rfl) ?_
       simp only [Act.put, List.setIfInBounds_toArray, List.set_cons_zero, List.set_cons_succ]
       refine Pg.pass 4 45 (by kernel_rfl) (by kernel_rfl) (by kernel_rfl) (by kernel_rfl) (fun _ _ _ h => h) (by rfl) ?_
       simp only [Act.put, List.setIfInBounds_toArray, List.set_cons_zero, List.set_cons_succ]
       refine Pg.pass 5 46 (by kernel_rfl) (by kernel_rfl) (by kernel_rfl) (by kernel_rfl) (fun _ _ _ h => h) (by rfl) ?_
       simp only [Act.put, List.setIfInBounds_toArray, List.set_cons_zero, List.set_cons_succ]
       refine Pg.pass 6 47 (by kernel_rfl) (by kernel_rfl) (by kernel_rfl) (by kernel_rfl) (fun _ _ _ h => h) (by rfl) ?_
       simp only [Act.put, List.setIfInBounds_toArray, List.set_cons_zero, List.set_cons_succ]
       refine Pg.pass 7 48 (by kernel_rfl) (by kernel_rfl) (by kernel_rfl) (by kernel_rfl) (fun _ _ _ h => h) (by rfl) ?_
       simp only [Act.put, List.setIfInBounds_toArray, List.set_cons_zero, List.set_cons_succ]
       refine Pg.pass 8 49 (by kernel_rfl) (by kernel_rfl) (by kernel_rfl) (by kernel_rfl) (fun _ _ _ h => h) (by rfl) ?_
       simp only [Act.put, List.setIfInBounds_toArray, List.set_cons_zero, List.set_cons_succ]
       refine Pg.pass 9 50 (by kernel_rfl) (by kernel_rfl) (by kernel_rfl) (by kernel_rfl) (fun _ _ _ h => h) (by rfl) ?_
       simp only [Act.put, List.setIfInBounds_toArray, List.set_cons_zero, List.set_cons_succ]
       refine Pg.give 10 51 (.bool false) (by kernel_rfl) (by kernel_rfl) (by kernel_rfl) (by kernel_rfl) (fun _ _ _ h => h) (fun o ho => by cases ho; exact Or.inl ⟨by rfl, fun w => by go_simp⟩) ?_
       simp only [Act.put, List.setIfInBounds_toArray, List.set_cons_zero, List.set_cons_succ]
       refine wpAny_ready (rs := [11]) (by kernel_rfl) (by simp) ?_
       refine AllReady.cons rfl (fun K hK => ?_) AllReady.nil
       go_simp
       refine (refuse_no 7 _).mono ?_
       rintro r w6 ⟨rfl, hw6⟩
       subst hw6
       go_wp2_with fail
       first | (refine hK _ _ ?_; clear hK K) | skip
       refine wpAny_done (by kernel_rfl) ?_ _
       go_wp2_with fail
       go_meet
       case rel => exact ⟨(unhide HC2).drew, unhide HR⟩
      | true =>
       have hk4 : c.k ≤ 4 := by have h2 := unhide HHV4; simpa using h2.symm
       obtain ⟨v, rfl⟩ := (unhide HVA) hk4
       have HIA := hide (fun (W : World) (hW : Below w.heap.size w W) => (unhide HIA) W hW v rfl)
       have HR4 := hide (show R = if c.k ≤ 4 ∧ ¬ (v ≠ 0 ↔ c.k = 2) then 7 else if mo = true then 1 else if c.k = 3 ∧ (decide ((c.args.len : Int) = P)) = false then 1 else Pg.orW (if c.k = 2 then wi else 0) (Pg.orW (if c.k = 3 ∨ c.k = 4 then 0 else we) (Pg.first wl)) from unhide HR4)
       have HK4 := hide hk4
       clear hk4
       by_cases h2 : c.k = 2
       · by_cases h0 : v = 0
         · skip
           have b2 : (c.k == 2) = true := by simp [h2]
           have hV : decide (v ≠ 0) = false := by simp [h0]
           rw [hV] at HIA
           clear hV
           have HR := hide (show R = 7 by rw [unhide HR4, if_pos ⟨unhide HK4, by simp [h0, h2]⟩])
           clear h0 h2
           refine Code.wp_mono (Q := fun ex a v => (ex = .panic (Pg.gave 7)) ∧ a.defers = [] ∧ Below w.heap.size w v) (fun ex a v h => ?_) ?_
           · obtain ⟨rfl, hd, hbv⟩ := h
             exact ⟨hd, by rw [unhide HR]; exact (Pg.ends_no (by decide)).symm, hbv⟩
           go_region_with (first
            | (go_at_call 124; refine ((unhide HIA) _ ?_).mono ?_; (first | exact unhide HBW | exact (unhide HBW).drew); rintro r w5 ⟨rfl, hb5⟩; obtain ⟨f0, f1, f2, f3, f4, f5, f6, f7, f8, f9, f10, f11, f12, f13, hB5⟩ := Pg.S14.below (by first | exact unhide HC2 | exact (unhide HC2).drew) hb5; have HB5 := hide hB5; clear hb5 hB5)
            | (go_at_call 99; refine (refuse_yes 7 _).mono ?_; rintro r w6 ⟨rfl, hw6⟩; subst hw6)
            | (refine Pg.trick Tryz.prog ⟨#[], []⟩ w ?_))
           all_goals first | exact unhide HB5 | exact (unhide HB5).drew
         · skip
           have b2 : (c.k == 2) = true := by simp [h2]
           have hV : decide (v ≠ 0) = true := by simp [h0]
           rw [hV] at HIA
           clear hV
           have HR := hide (show R = if mo = true then 1 else if c.k = 3 ∧ (decide ((c.args.len : Int) = P)) = false then 1 else Pg.orW (if c.k = 2 then wi else 0) (Pg.orW (if c.k = 3 ∨ c.k = 4 then 0 else we) (Pg.first wl)) by rw [unhide HR4, if_neg (by simp [h0, h2])])
           clear h0 h2 a0 a1 c0 c1 c2 c3 c4 c5 c6 c7 c8 c9 c10 c11
           go_region_held3 (fun W => W.cell? ⟨w.heap.size, 0, none⟩ = some (.slice s.ad s.len s.cap) ∧ W.cell? ⟨w.heap.size, 1, none⟩ = some (.int .i64 (now : Nat)) ∧ W.cell? ⟨w.heap.size + 1, 0, none⟩ = some (.int .i64 c.k) ∧ W.cell? ⟨w.heap.size + 1, 1, none⟩ = some (.int .i64 c.v) ∧ W.cell? ⟨w.heap.size + 1, 2, none⟩ = some (.int .i64 c.f) ∧ W.cell? ⟨w.heap.size + 1, 3, none⟩ = some (.int .i64 c.ix.k) ∧ W.cell? ⟨w.heap.size + 1, 4, none⟩ = some (.int .i64 c.ix.n) ∧ W.cell? ⟨w.heap.size + 1, 5, none⟩ = some (.slice c.ix.args.ad c.ix.args.len c.ix.args.cap) ∧ W.cell? ⟨w.heap.size + 1, 6, none⟩ = some (.int .i64 c.ex.k) ∧ W.cell? ⟨w.heap.size + 1, 7, none⟩ = some (.int .i64 c.ex.n) ∧ W.cell? ⟨w.heap.size + 1, 8, none⟩ = some (.slice c.ex.args.ad c.ex.args.len c.ex.args.cap) ∧ W.cell? ⟨w.heap.size + 1, 9, none⟩ = some (.slice c.args.ad c.args.len c.args.cap) ∧ W.cell? ⟨w.heap.size + 1, 10, none⟩ = some (.slice c.thn.ad c.thn.len c.thn.cap) ∧ W.cell? ⟨w.heap.size + 1, 11, none⟩ = some (.slice c.els.ad c.els.len c.els.cap) ∧ Below w.heap.size w W)
            (first
             | assumption
             | exact Pg.S14.below (by assumption) (unhide HB5)
             | exact Pg.S14.drew (unhide HC2))
            (first
             | (go_at_call 124; refine ((unhide HIA) _ ?_).mono ?_; exact Pg.S14.bel (by assumption); rintro r w5 ⟨rfl, hb5⟩; have HB5 := hide hb5; clear hb5)
             | (go_at_call 99; refine (refuse_no 7 _).mono ?_; rintro r w6 ⟨rfl, hw6⟩; subst hw6))
           all_goals
            go_wp2_with fail
            go_meet
            case rel => exact ⟨by assumption, unhide HR⟩
       · by_cases h0 : v = 0
         · skip
           have b2 : (c.k == 2) = false := by simpa using h2
           have hV : decide (v ≠ 0) = false := by simp [h0]
           rw [hV] at HIA
           clear hV
           have HR := hide (show R = if mo = true then 1 else if c.k = 3 ∧ (decide ((c.args.len : Int) = P)) = false then 1 else Pg.orW (if c.k = 2 then wi else 0) (Pg.orW (if c.k = 3 ∨ c.k = 4 then 0 else we) (Pg.first wl)) by rw [unhide HR4, if_neg (by simp [h0, h2])])
           clear h0 h2 a0 a1 c0 c1 c2 c3 c4 c5 c6 c7 c8 c9 c10 c11
           go_region_held3 (fun W => W.cell? ⟨w.heap.size, 0, none⟩ = some (.slice s.ad s.len s.cap) ∧ W.cell? ⟨w.heap.size, 1, none⟩ = some (.int .i64 (now : Nat)) ∧ W.cell? ⟨w.heap.size + 1, 0, none⟩ = some (.int .i64 c.k) ∧ W.cell? ⟨w.heap.size + 1, 1, none⟩ = some (.int .i64 c.v) ∧ W.cell? ⟨w.heap.size + 1, 2, none⟩ = some (.int .i64 c.f) ∧ W.cell? ⟨w.heap.size + 1, 3, none⟩ = some (.int .i64 c.ix.k) ∧ W.cell? ⟨w.heap.size + 1, 4, none⟩ = some (.int .i64 c.ix.n) ∧ W.cell? ⟨w.heap.size + 1, 5, none⟩ = some (.slice c.ix.args.ad c.ix.args.len c.ix.args.cap) ∧ W.cell? ⟨w.heap.size + 1, 6, none⟩ = some (.int .i64 c.ex.k) ∧ W.cell? ⟨w.heap.size + 1, 7, none⟩ = some (.int .i64 c.ex.n) ∧ W.cell? ⟨w.heap.size + 1, 8, none⟩ = some (.slice c.ex.args.ad c.ex.args.len c.ex.args.cap) ∧ W.cell? ⟨w.heap.size + 1, 9, none⟩ = some (.slice c.args.ad c.args.len c.args.cap) ∧ W.cell? ⟨w.heap.size + 1, 10, none⟩ = some (.slice c.thn.ad c.thn.len c.thn.cap) ∧ W.cell? ⟨w.heap.size + 1, 11, none⟩ = some (.slice c.els.ad c.els.len c.els.cap) ∧ Below w.heap.size w W)
            (first
             | assumption
             | exact Pg.S14.below (by assumption) (unhide HB5)
             | exact Pg.S14.drew (unhide HC2))
            (first
             | (go_at_call 124; refine ((unhide HIA) _ ?_).mono ?_; exact Pg.S14.bel (by assumption); rintro r w5 ⟨rfl, hb5⟩; have HB5 := hide hb5; clear hb5)
             | (go_at_call 99; refine (refuse_no 7 _).mono ?_; rintro r w6 ⟨rfl, hw6⟩; subst hw6))
           all_goals
            go_wp2_with fail
            go_meet
            case rel => exact ⟨by assumption, unhide HR⟩
         · skip
           have b2 : (c.k == 2) = false := by simpa using h2
           have hV : decide (v ≠ 0) = true := by simp [h0]
           rw [hV] at HIA
           clear hV
           have HR := hide (show R = 7 by rw [unhide HR4, if_pos ⟨unhide HK4, by simp [h0, h2]⟩])
           clear h0 h2
           refine Code.wp_mono (Q := fun ex a v => (ex = .panic (Pg.gave 7)) ∧ a.defers = [] ∧ Below w.heap.size w v) (fun ex a v h => ?_) ?_
           · obtain ⟨rfl, hd, hbv⟩ := h
             exact ⟨hd, by rw [unhide HR]; exact (Pg.ends_no (by decide)).symm, hbv⟩
           go_region_with (first
            | (go_at_call 124; refine ((unhide HIA) _ ?_).mono ?_; (first | exact unhide HBW | exact (unhide HBW).drew); rintro r w5 ⟨rfl, hb5⟩; obtain ⟨f0, f1, f2, f3, f4, f5, f6, f7, f8, f9, f10, f11, f12, f13, hB5⟩ := Pg.S14.below (by first | exact unhide HC2 | exact (unhide HC2).drew) hb5; have HB5 := hide hB5; clear hb5 hB5)
            | (go_at_call 99; refine (refuse_yes 7 _).mono ?_; rintro r w6 ⟨rfl, hw6⟩; subst hw6)
            | (refine Pg.trick Tryz.prog ⟨#[], []⟩ w ?_))
           all_goals first | exact unhide HB5 | exact (unhide HB5).drew
     case rest =>
      rename World => W5
      clear a0 a1 c0 c1 c2 c3 c4 c5 c6 c7 c8 c9 c10 c11 HBW HC2 HR4 hz2
      obtain ⟨hcut, hR⟩ := hcut
      have HR5 := hide hR
      have HC2 := hide hcut
      obtain ⟨a0, a1, c0, c1, c2, c3, c4, c5, c6, c7, c8, c9, c10, c11, hbw⟩ := hcut
      have HBW := hide hbw
      have hz2 := hbw.size
      clear hbw hR
      go_upto_region 6 with fail
      go_cut [] (fun W => Pg.S14 s now c w W ∧ R = if c.k = 3 ∧ (decide ((c.args.len : Int) = P)) = false then 1 else Pg.orW (if c.k = 2 then wi else 0) (Pg.orW (if c.k = 3 ∨ c.k = 4 then 0 else we) (Pg.first wl)))
      case first =>
       cases mo with
       | true =>
        have HR := hide (show R = 1 by rw [unhide HR5, if_pos rfl])
        go_wp2_with fail
        refine ((unhide HMO) _ (unhide HBW)).mono ?_
        rintro r w3 ⟨rfl, hb3⟩
        have HB3 := hide ((unhide HBW).trans (hb3.mono hz2))
        clear hb3
        go_wp2_with fail
        refine (refuse_yes 1 _).mono ?_
        rintro r w9 ⟨rfl, hw9⟩
        subst hw9
        go_wp2_with fail
        exact ⟨rfl, by rw [unhide HR]; exact (Pg.ends_no (by decide)).symm, unhide HB3⟩
       | false =>
        have HR := hide (show R = if c.k = 3 ∧ (decide ((c.args.len : Int) = P)) = false then 1 else Pg.orW (if c.k = 2 then wi else 0) (Pg.orW (if c.k = 3 ∨ c.k = 4 then 0 else we) (Pg.first wl)) by rw [unhide HR5, if_neg (by simp)])
        go_wp2_with fail
        refine ((unhide HMO) _ (unhide HBW)).mono ?_
        rintro r w3 ⟨rfl, hb3⟩
        have HC3 := hide ((unhide HC2).below hb3)
        clear hb3
        go_wp2_with fail
        refine (refuse_no 1 _).mono ?_
        rintro r w4 ⟨rfl, hw4⟩
        subst hw4
        go_wp2_with fail
        go_meet
        case rel => exact ⟨unhide HC3, unhide HR⟩
      case rest =>
       rename World => W6
       clear a0 a1 c0 c1 c2 c3 c4 c5 c6 c7 c8 c9 c10 c11 HBW HC2 HR5 hz2
       obtain ⟨hcut, hR⟩ := hcut
       have HR6 := hide hR
       have HC2 := hide hcut
       obtain ⟨a0, a1, c0, c1, c2, c3, c4, c5, c6, c7, c8, c9, c10, c11, hbw⟩ := hcut
       have HBW := hide hbw
       have hz2 := hbw.size
       clear hbw hR
       go_upto_region 7 with fail
       go_cut [] (fun W => Pg.S14 s now c w W ∧ R = Pg.orW (if c.k = 2 then wi else 0) (Pg.orW (if c.k = 3 ∨ c.k = 4 then 0 else we) (Pg.first wl)))
       case first =>
        cases ic with
        | false =>
         have HR := hide (show R = Pg.orW (if c.k = 2 then wi else 0) (Pg.orW (if c.k = 3 ∨ c.k = 4 then 0 else we) (Pg.first wl)) by rw [unhide HR6, if_neg (fun h => by have h2 := unhide HIC3; simp at h2; omega)])
         refine wp_region_any (by kernel_rfl) ?_
         try (change wpAny _ _ _ _ _ _ _ (World.drew _))
         refine Pg.give 0 56 (.bool false) (by kernel_rfl) (by kernel_rfl) (by kernel_rfl) (by kernel_rfl) (fun _ _ _ h => h) (fun o ho => by cases ho; exact Or.inl ⟨by rfl, fun w => by go_simp⟩) ?_
         simp only [Act.put, List.setIfInBounds_toArray, List.set_cons_zero, List.set_cons_succ]
         refine Pg.give 1 57 (.bool false) (by kernel_rfl) (by kernel_rfl) (by kernel_rfl) (by kernel_rfl) (fun _ _ _ h => h) (fun o ho => by cases ho; exact Or.inl ⟨by rfl, fun w => by go_simp⟩) ?_
         simp only [Act.put, List.setIfInBounds_toArray, List.set_cons_zero, List.set_cons_succ]
         refine Pg.pass 2 58 (by kernel_rfl) (by kernel_rfl) (by kernel_rfl) (by kernel_rfl) (fun _ _ _ h => h) (by rfl) ?_
         simp only [Act.put, List.setIfInBounds_toArray, List.set_cons_zero, List.set_cons_succ]
         refine Pg.pass 3 59 (by kernel_rfl) (by kernel_rfl) (by kernel_rfl) (by kernel_rfl) (fun _ _ _ h => h) (by rfl) ?_
         simp only [Act.put, List.setIfInBounds_toArray, List.set_cons_zero, List.set_cons_succ]
         refine Pg.pass 4 60 (by kernel_rfl) (by kernel_rfl) (by kernel_rfl) (by kernel_rfl) (fun _ _ _ h => h) (by rfl) ?_
         simp only [Act.put, List.setIfInBounds_toArray, List.set_cons_zero, List.set_cons_succ]
         refine Pg.pass 5 61 (by kernel_rfl) (by kernel_rfl) (by kernel_rfl) (by kernel_rfl) (fun _ _ _ h => h) (by rfl) ?_
         simp only [Act.put, List.setIfInBounds_toArray, List.set_cons_zero, List.set_cons_succ]
         refine Pg.pass 6 62 (by kernel_rfl) (by kernel_rfl) (by kernel_rfl) (by kernel_rfl) (fun _ _ _ h => h) (by rfl) ?_
         simp only [Act.put, List.setIfInBounds_toArray, List.set_cons_zero, List.set_cons_succ]
         refine Pg.pass 7 63 (by kernel_rfl) (by kernel_rfl) (by kernel_rfl) (by kernel_rfl) (fun _ _ _ h => h) (by rfl) ?_
         simp only [Act.put, List.setIfInBounds_toArray, List.set_cons_zero, List.set_cons_succ]
         refine Pg.pass 8 64 (by kernel_rfl) (by kernel_rfl) (by kernel_rfl) (by kernel_rfl) (fun _ _ _ h => h) (by rfl) ?_
         simp only [Act.put, List.setIfInBounds_toArray, List.set_cons_zero, List.set_cons_succ]
         refine Pg.pass 9 65 (by kernel_rfl) (by kernel_rfl) (by kernel_rfl) (by kernel_rfl) (fun _ _ _ h => h) (by rfl) ?_
         simp only [Act.put, List.setIfInBounds_toArray, List.set_cons_zero, List.set_cons_succ]
         refine Pg.pass 10 66 (by kernel_rfl) (by kernel_rfl) (by kernel_rfl) (by kernel_rfl) (fun _ _ _ h => h) (by rfl) ?_
         simp only [Act.put, List.setIfInBounds_toArray, List.set_cons_zero, List.set_cons_succ]
         refine Pg.pass 11 67 (by kernel_rfl) (by kernel_rfl) (by kernel_rfl) (by kernel_rfl) (fun _ _ _ h => h) (by rfl) ?_
         simp only [Act.put, List.setIfInBounds_toArray, List.set_cons_zero, List.set_cons_succ]
         refine Pg.pass 12 68 (by kernel_rfl) (by kernel_rfl) (by kernel_rfl) (by kernel_rfl) (fun _ _ _ h => h) (by rfl) ?_
         simp only [Act.put, List.setIfInBounds_toArray, List.set_cons_zero, List.set_cons_succ]
         refine Pg.give 13 69 (.bool false) (by kernel_rfl) (by kernel_rfl) (by kernel_rfl) (by kernel_rfl) (fun _ _ _ h => h) (fun o ho => by cases ho; exact Or.inl ⟨by rfl, fun w => by go_simp⟩) ?_
         simp only [Act.put, List.setIfInBounds_toArray, List.set_cons_zero, List.set_cons_succ]
         refine wpAny_ready (rs := [14]) (by kernel_rfl) (by simp) ?_
         refine AllReady.cons rfl (fun K hK => ?_) AllReady.nil
         go_simp
         refine (refuse_no 1 _).mono ?_
         rintro r w6 ⟨rfl, hw6⟩
         subst hw6
         go_wp2_with fail
         first | (refine hK _ _ ?_; clear hK K) | skip
         refine wpAny_done (by kernel_rfl) ?_ _
         go_wp2_with fail
         go_meet
         case rel => exact ⟨(unhide HC2).drew, unhide HR⟩
        | true =>
         have hk3 : c.k = 3 := by have h2 := unhide HIC3; simpa using h2.symm
         obtain ⟨b, o, j, had, hb, hcf, hj, hcl⟩ := (unhide HPA) ((unhide HMT) hk3)
         have hi0 : (0 : Int) ≤ (j : Int) := by omega
         have hi1 : (j : Int) < (s.len : Int) := by omega
         have pq := ((unhide HBW).cell (p := ⟨b, o + j * 6, none⟩) hb).trans hcl
         have HCF := hide hcf
         have HAD := hide had
         rw [hcf] at c2
         rw [had] at a0
         have HK3 := hide hk3
         clear hk3 hcf had hcl hj hb
         have HS15 := hide (show (fun W => W.cell? ⟨w.heap.size, 0, none⟩ = some (.slice (some ⟨b, o, none⟩) s.len s.cap) ∧ W.cell? ⟨w.heap.size, 1, none⟩ = some (.int .i64 (now : Nat)) ∧ W.cell? ⟨w.heap.size + 1, 0, none⟩ = some (.int .i64 c.k) ∧ W.cell? ⟨w.heap.size + 1, 1, none⟩ = some (.int .i64 c.v) ∧ W.cell? ⟨w.heap.size + 1, 2, none⟩ = some (.int .i64 (j : Nat)) ∧ W.cell? ⟨w.heap.size + 1, 3, none⟩ = some (.int .i64 c.ix.k) ∧ W.cell? ⟨w.heap.size + 1, 4, none⟩ = some (.int .i64 c.ix.n) ∧ W.cell? ⟨w.heap.size + 1, 5, none⟩ = some (.slice c.ix.args.ad c.ix.args.len c.ix.args.cap) ∧ W.cell? ⟨w.heap.size + 1, 6, none⟩ = some (.int .i64 c.ex.k) ∧ W.cell? ⟨w.heap.size + 1, 7, none⟩ = some (.int .i64 c.ex.n) ∧ W.cell? ⟨w.heap.size + 1, 8, none⟩ = some (.slice c.ex.args.ad c.ex.args.len c.ex.args.cap) ∧ W.cell? ⟨w.heap.size + 1, 9, none⟩ = some (.slice c.args.ad c.args.len c.args.cap) ∧ W.cell? ⟨w.heap.size + 1, 10, none⟩ = some (.slice c.thn.ad c.thn.len c.thn.cap) ∧ W.cell? ⟨w.heap.size + 1, 11, none⟩ = some (.slice c.els.ad c.els.len c.els.cap) ∧ W.cell? ⟨b, o + j * 6, none⟩ = some (.int .i64 P) ∧ Below w.heap.size w W) W6.drew from ⟨a0, a1, c0, c1, c2, c3, c4, c5, c6, c7, c8, c9, c10, c11, pq, (unhide HBW).drew⟩)
         by_cases hp : (c.args.len : Int) = P
         · have bP : ((c.args.len : Int) != P) = false := by simp [hp]
           have HR := hide (show R = Pg.orW (if c.k = 2 then wi else 0) (Pg.orW (if c.k = 3 ∨ c.k = 4 then 0 else we) (Pg.first wl)) by rw [unhide HR6, if_neg (by simp [hp])])
           clear hp a0 a1 c0 c1 c2 c3 c4 c5 c6 c7 c8 c9 c10 c11 pq
           go_region_held3 (fun W => W.cell? ⟨w.heap.size, 0, none⟩ = some (.slice (some ⟨b, o, none⟩) s.len s.cap) ∧ W.cell? ⟨w.heap.size, 1, none⟩ = some (.int .i64 (now : Nat)) ∧ W.cell? ⟨w.heap.size + 1, 0, none⟩ = some (.int .i64 c.k) ∧ W.cell? ⟨w.heap.size + 1, 1, none⟩ = some (.int .i64 c.v) ∧ W.cell? ⟨w.heap.size + 1, 2, none⟩ = some (.int .i64 (j : Nat)) ∧ W.cell? ⟨w.heap.size + 1, 3, none⟩ = some (.int .i64 c.ix.k) ∧ W.cell? ⟨w.heap.size + 1, 4, none⟩ = some (.int .i64 c.ix.n) ∧ W.cell? ⟨w.heap.size + 1, 5, none⟩ = some (.slice c.ix.args.ad c.ix.args.len c.ix.args.cap) ∧ W.cell? ⟨w.heap.size + 1, 6, none⟩ = some (.int .i64 c.ex.k) ∧ W.cell? ⟨w.heap.size + 1, 7, none⟩ = some (.int .i64 c.ex.n) ∧ W.cell? ⟨w.heap.size + 1, 8, none⟩ = some (.slice c.ex.args.ad c.ex.args.len c.ex.args.cap) ∧ W.cell? ⟨w.heap.size + 1, 9, none⟩ = some (.slice c.args.ad c.args.len c.args.cap) ∧ W.cell? ⟨w.heap.size + 1, 10, none⟩ = some (.slice c.thn.ad c.thn.len c.thn.cap) ∧ W.cell? ⟨w.heap.size + 1, 11, none⟩ = some (.slice c.els.ad c.els.len c.els.cap) ∧ W.cell? ⟨b, o + j * 6, none⟩ = some (.int .i64 P) ∧ Below w.heap.size w W)
            (first | assumption | exact unhide HS15)
            (first
             | (go_at_call 99; refine (refuse_no 1 _).mono ?_; rintro r w6 ⟨rfl, hw6⟩; subst hw6))
           all_goals
            go_wp2_with fail
            go_meet
            case rel => exact ⟨by first | exact unhide HC2 | exact (unhide HC2).drew, unhide HR⟩
         · have bP : ((c.args.len : Int) != P) = true := by simpa using hp
           have HR := hide (show R = 1 by rw [unhide HR6, if_pos ⟨unhide HK3, by simp [hp]⟩])
           clear hp
           refine Code.wp_mono (Q := fun ex a v => (ex = .panic (Pg.gave 1)) ∧ a.defers = [] ∧ Below w.heap.size w v) (fun ex a v h => ?_) ?_
           · obtain ⟨rfl, hd, hbv⟩ := h
             exact ⟨hd, by rw [unhide HR]; exact (Pg.ends_no (by decide)).symm, hbv⟩
           go_region_with (first
            | (go_at_call 99; refine (refuse_yes 1 _).mono ?_; rintro r w6 ⟨rfl, hw6⟩; subst hw6)
            | (refine Pg.trick Tryz.prog ⟨#[], []⟩ w ?_))
           all_goals first | exact unhide HBW | exact (unhide HBW).drew
       case rest =>
        rename World => W7
        clear a0 a1 c0 c1 c2 c3 c4 c5 c6 c7 c8 c9 c10 c11 HBW HC2 HR6 hz2
        obtain ⟨hcut, hR⟩ := hcut
        have HR7 := hide hR
        have HC2 := hide hcut
        obtain ⟨a0, a1, c0, c1, c2, c3, c4, c5, c6, c7, c8, c9, c10, c11, hbw⟩ := hcut
        have HBW := hide hbw
        have hz2 := hbw.size
        clear hbw hR
        go_upto_if 73 with fail
        go_cut [] (fun W => Pg.S14 s now c w W ∧ R = Pg.orW (if c.k = 3 ∨ c.k = 4 then 0 else we) (Pg.first wl))
        case first =>
         by_cases h2 : c.k = 2
         · have b2 : (c.k == 2) = true := by simp [h2]
           have HR := hide (show R = Pg.orW wi (Pg.orW (if c.k = 3 ∨ c.k = 4 then 0 else we) (Pg.first wl)) by rw [unhide HR7, if_pos h2])
           clear h2
           go_wp2_with fail
           refine ((unhide HIX) _ (unhide HBW)).mono ?_
           rintro r w3 ⟨hr3, hb3⟩
           by_cases hw0 : wi = 0
           · rw [Pg.ends_ok hw0] at hr3
             subst hr3
             have HN := hide (show R = (Pg.orW (if c.k = 3 ∨ c.k = 4 then 0 else we) (Pg.first wl)) by rw [unhide HR, hw0]; rfl)
             have HC3 := hide ((unhide HC2).below hb3)
             clear hb3 hw0
             go_wp2_with fail
             go_meet
             case rel => exact ⟨unhide HC3, unhide HN⟩
           · rw [Pg.ends_no hw0] at hr3
             subst hr3
             have HN := hide (show R = wi by rw [unhide HR]; unfold Pg.orW; rw [if_neg hw0])
             have HB3 := hide ((unhide HBW).trans (hb3.mono hz2))
             have HW0 := hide hw0
             clear hb3 hw0
             go_wp2_with fail
             exact ⟨rfl, by rw [unhide HN]; exact (Pg.ends_no (unhide HW0)).symm, unhide HB3⟩
         · have b2 : (c.k == 2) = false := by simpa using h2
           have HN := hide (show R = (Pg.orW (if c.k = 3 ∨ c.k = 4 then 0 else we) (Pg.first wl)) by rw [unhide HR7, if_neg h2]; rfl)
           clear h2
           go_wp2_with fail
           go_meet
           case rel => exact ⟨unhide HC2, unhide HN⟩
        case rest =>
         rename World => W8
         clear a0 a1 c0 c1 c2 c3 c4 c5 c6 c7 c8 c9 c10 c11 HBW HC2 HR7 hz2
         obtain ⟨hcut, hR⟩ := hcut
         have HR8 := hide hR
         have HC2 := hide hcut
         obtain ⟨a0, a1, c0, c1, c2, c3, c4, c5, c6, c7, c8, c9, c10, c11, hbw⟩ := hcut
         have HBW := hide hbw
         have hz2 := hbw.size
         clear hbw hR
         go_upto_region 10 with fail
         go_cut [84] (fun t84 W => t84 = .bool (decide (¬ (c.k = 3 ∨ c.k = 4))) ∧ Pg.S14 s now c w W)
         case first =>
          cases ic with
          | true =>
           have hk3 : c.k = 3 := by have h2 := unhide HIC3; simpa using h2.symm
           have HD := hide (show decide (¬ (c.k = 3 ∨ c.k = 4)) = false by simp [hk3])
           clear hk3
           go_wp2_with fail
           go_meet
           case rel => exact ⟨by rw [unhide HD], unhide HC2⟩
          | false =>
           have hk3 : c.k ≠ 3 := by have h2 := unhide HIC3; simpa using h2.symm
           have HD := hide (show decide (¬ (c.k = 3 ∨ c.k = 4)) = (c.k != 4) by by_cases h4 : c.k = 4 <;> simp [hk3, h4])
           clear hk3
           go_wp2_with fail
           go_meet
           case rel => exact ⟨by rw [unhide HD], unhide HC2⟩
         case rest =>
          rename World => W9
          clear a0 a1 c0 c1 c2 c3 c4 c5 c6 c7 c8 c9 c10 c11 HBW HC2 hz2
          obtain ⟨rfl, hcut⟩ := hcut
          have HC2 := hide hcut
          obtain ⟨a0, a1, c0, c1, c2, c3, c4, c5, c6, c7, c8, c9, c10, c11, hbw⟩ := hcut
          have HBW := hide hbw
          have hz2 := hbw.size
          clear hbw
          obtain ⟨e84, h84⟩ : ∃ b, b = decide (¬ (c.k = 3 ∨ c.k = 4)) := ⟨_, rfl⟩
          rw [← h84]
          have H84 := hide h84
          clear h84
          go_upto_if 84 with fail
          go_cut [] (fun W => Pg.S14 s now c w W ∧ R = Pg.first wl)
          case first =>
           cases e84 with
           | true =>
            have h34 : ¬ (c.k = 3 ∨ c.k = 4) := by have h2 := unhide H84; simpa using h2.symm
            have HR := hide (show R = Pg.orW we (Pg.first wl) by rw [unhide HR8, if_neg h34])
            clear h34
            go_wp2_with fail
            refine ((unhide HEX) _ (unhide HBW)).mono ?_
            rintro r w3 ⟨hr3, hb3⟩
            by_cases hw0 : we = 0
            · rw [Pg.ends_ok hw0] at hr3
              subst hr3
              have HN := hide (show R = (Pg.first wl) by rw [unhide HR, hw0]; rfl)
              have HC3 := hide ((unhide HC2).below hb3)
              clear hb3 hw0
              go_wp2_with fail
              go_meet
              case rel => exact ⟨unhide HC3, unhide HN⟩
            · rw [Pg.ends_no hw0] at hr3
              subst hr3
              have HN := hide (show R = we by rw [unhide HR]; unfold Pg.orW; rw [if_neg hw0])
              have HB3 := hide ((unhide HBW).trans (hb3.mono hz2))
              have HW0 := hide hw0
              clear hb3 hw0
              go_wp2_with fail
              exact ⟨rfl, by rw [unhide HN]; exact (Pg.ends_no (unhide HW0)).symm, unhide HB3⟩
           | false =>
            have h34 : c.k = 3 ∨ c.k = 4 := by
             have h2 := (unhide H84).symm
             rw [decide_eq_false_iff_not] at h2
             exact Decidable.of_not_not h2
            have HN := hide (show R = Pg.first wl by rw [unhide HR8, if_pos h34]; rfl)
            clear h34
            go_wp2_with fail
            go_meet
            case rel => exact ⟨unhide HC2, unhide HN⟩
          case rest =>
           rename World => W10
           clear a0 a1 c0 c1 c2 c3 c4 c5 c6 c7 c8 c9 c10 c11 HBW HC2 HR8 hz2
           obtain ⟨hcut, hR⟩ := hcut
           have HR9 := hide hR
           obtain ⟨a0, a1, c0, c1, c2, c3, c4, c5, c6, c7, c8, c9, c10, c11, hbw⟩ := hcut
           have HBW := hide hbw
           have hz2 := hbw.size
           clear hbw hR c0 c1 c2 c3 c4 c5 c6 c7 c8 c10 c11
           go_wp2_with fail
           go_loopw [92] (fun iv wr => ∃ (i : Nat), i ≤ c.args.len ∧ iv = .int .i64 i ∧ R = Pg.first (wl.drop i) ∧ wr.cell? ⟨w.heap.size, 0, none⟩ = some (.slice s.ad s.len s.cap) ∧ wr.cell? ⟨w.heap.size, 1, none⟩ = some (.int .i64 (now : Nat)) ∧ Below w.heap.size w wr) (fun iv _ => c.args.len - (intOf iv).toNat)
           case atStart => exact ⟨0, Nat.zero_le _, rfl, by rw [List.drop_zero]; exact unhide HR9, a0, a1, unhide HBW⟩
           case round =>
            clear a0 a1 c9 HBW HR9 hz2
            obtain ⟨i, hi, rfl, hR, a0, a1, hbe⟩ := hrel
            have hz := hbe.size
            have HBE := hide hbe
            have HR := hide hR
            clear hbe hR
            by_cases hlt : i < c.args.len
            · have hlt2 : i < wl.length := by have := unhide HWL; omega
              have hy := List.getElem?_eq_getElem hlt2
              obtain ⟨b, o, cc, had, hb, hlies, hcall⟩ := (unhide HAG) i _ hy
              have HDR := hide (show Pg.first (wl.drop i) = if wl[i] = 0 then Pg.first (wl.drop (i + 1)) else wl[i] by rw [List.drop_eq_getElem_cons hlt2]; rfl)
              generalize wl[i] = z at *
              have hll := hlies.later (unhide HBE) (Nat.le_refl _) hb
              obtain ⟨p0, p1, p2⟩ := hll
              have hal2 := (Below.refl wr.heap.size wr).alloc (Nat.le_refl _) (Obj.cells #[.int .i64 cc.k, .int .i64 cc.n, .slice cc.args.ad cc.args.len cc.args.cap] 69)
              have hba := (unhide HBE).trans (hal2.mono hz)
              have HCL := hide (hcall _ hba)
              have hlw := World.block_lt_of_cell? wr _ a0
              have q0 := (hal2.cell (p := ⟨w.heap.size, 0, none⟩) hlw).trans a0
              have q1 := (hal2.cell (p := ⟨w.heap.size, 1, none⟩) hlw).trans a1
              have HBA := hide hba
              clear hlies hcall hy hal2 hba
              have hi0 : (0 : Int) ≤ (i : Int) := by omega
              have hi1 : (i : Int) < (c.args.len : Int) := by omega
              rw [had]
              go_wp2_with fail
              refine (unhide HCL).mono ?_
              rintro r w4 ⟨hr4, hb4⟩
              have HB4 := hide ((unhide HBA).trans (hb4.mono (unhide HBA).size))
              have s0 := (hb4.cell (p := ⟨w.heap.size, 0, none⟩) (World.block_lt_of_cell? _ _ q0)).trans q0
              have s1 := (hb4.cell (p := ⟨w.heap.size, 1, none⟩) (World.block_lt_of_cell? _ _ q1)).trans q1
              clear hb4 q0 q1
              by_cases hw0 : z = 0
              · rw [Pg.ends_ok hw0] at hr4
                subst hr4
                have HN := hide (show R = Pg.first (wl.drop (i + 1)) by rw [unhide HR, unhide HDR, if_pos hw0])
                clear hw0
                go_wp2_with fail
                exact ⟨⟨i + 1, by omega, by go_num, unhide HN, s0, s1, unhide HB4⟩, by simp [intOf]; omega⟩
              · rw [Pg.ends_no hw0] at hr4
                subst hr4
                have HN := hide (show R = z by rw [unhide HR, unhide HDR, if_neg hw0])
                have HW0 := hide hw0
                clear hw0
                go_wp2_with fail
                exact ⟨rfl, by rw [unhide HN]; exact (Pg.ends_no (unhide HW0)).symm, unhide HB4⟩
            · have HN := hide (show R = 0 by
               rw [unhide HR, List.drop_of_length_le (by have := unhide HWL; omega)]; rfl)
              go_wp2_with fail
              go_end0
              exact ⟨by rw [unhide HN]; exact (Pg.ends_ok rfl).symm, unhide HBE⟩
end Go.Proofs.YtpfogjplnodacaaGreat
