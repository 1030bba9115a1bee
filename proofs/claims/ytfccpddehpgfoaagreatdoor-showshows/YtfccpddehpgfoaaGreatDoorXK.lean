/-
  TCk3, TSv, TSt. By the verifier.
-/
import Derived.Test.YtfccpddehpgfoaaGreatDoorXI
import Derived.Test.YtfccpddehpgfoaaGreatDoorXQ
import Derived.Laws.StructEq
import Derived.Test.YtfccpddehpgfoaaGreatDoorXJ
import Derived.Deep.QuietTactic
import Derived.BigQuiet
set_option maxRecDepth 100000
set_option maxHeartbeats 3200000
namespace Go.Proofs.YtfccpddehpgfoaaGreatDoor
open Go.RowKit
set_option linter.unusedVariables false
theorem Tk.F.one (q : Tk.F) : ∀ v ∈ q.cells.toList, v.oneCell' = true := fun v hv => by simp [Tk.F.cells] at hv; rcases hv with h | h | h | h | h | h | h | h | h | h <;> subst h <;> rfl
def Tk.F.zero : Tk.F := ⟨0, ⟨#[]⟩, ⟨none, 0, 0⟩, ⟨none, 0, 0⟩, ⟨none, 0, 0⟩, ⟨0, 0, 0, ⟨#[]⟩, ⟨none, 0, 0⟩⟩⟩
theorem Tryz.zeroTF : (Tryz.prog.info? 54).map (fun i => (i.zero, i.size)) = some (some (.agg Tk.F.zero.cells), 10) := by kernel_rfl
theorem Tk.LF.cells {w : World} {b o : Nat} {c : Tk.F} (h : Tk.LF w b o c) : ∀ j v, c.cells[j]? = some v → w.cell? ⟨b, o + j, none⟩ = some v := by
 obtain ⟨p0, p1, p2, p3, p4, ⟨x0, x1, x2, x3, x4⟩⟩ := h
 simp only [Nat.add_assoc, Nat.reduceAdd] at x1 x2 x3 x4
 intro j v hj
 match j, hj with
 | 0, hj => cases hj; exact p0
 | 1, hj => cases hj; exact p1
 | 2, hj => cases hj; exact p2
 | 3, hj => cases hj; exact p3
 | 4, hj => cases hj; exact p4
 | 5, hj => cases hj; exact x0
 | 6, hj => cases hj; exact x1
 | 7, hj => cases hj; exact x2
 | 8, hj => cases hj; exact x3
 | 9, hj => cases hj; exact x4
 | j + 10, hj => simp [Tk.F.cells] at hj
theorem Tk.BV.newF (w : World) (c : Tk.F) : Tk.BV (w.alloc (Obj.cells c.cells 54)) w.heap.size c.cells := fun j v h => by go_simp
def Tk.F.val (c : Tk.F) : Value := .agg #[.int .i64 c.a, .string c.nm, .slice c.ps.ad c.ps.len c.ps.cap, .slice c.vs.ad c.vs.len c.vs.cap, .slice c.cs.ad c.cs.len c.cs.cap, .int .i64 c.re.k, .int .i64 c.re.a, .int .i64 c.re.n, .string c.re.nm, .slice c.re.args.ad c.re.args.len c.re.args.cap]
theorem Tk.BV.newF2 (w : World) (c : Tk.F) : Tk.BV (w.alloc (Obj.cells #[.int .i64 c.a, .string c.nm, .slice c.ps.ad c.ps.len c.ps.cap, .slice c.vs.ad c.vs.len c.vs.cap, .slice c.cs.ad c.cs.len c.cs.cap, .int .i64 c.re.k, .int .i64 c.re.a, .int .i64 c.re.n, .string c.re.nm, .slice c.re.args.ad c.re.args.len c.re.args.cap] 54)) w.heap.size c.cells := Tk.BV.newF w c
theorem Tk.drop_cons {α : Type} {l : List α} {i : Nat} {x : α} (h : l[i]? = some x) : l.drop i = x :: l.drop (i + 1) := by
 have hlt := (List.getElem?_eq_some_iff.1 h).1
 rw [List.drop_eq_getElem_cons hlt, (List.getElem?_eq_some_iff.1 h).2]
theorem isTooMuch_any {m n : Nat} (s : Tk.Sl) (l : List (Tk.FT m n)) (w : World) (hs : Tk.RT w m n s l) :
  Calls Tryz.prog 24 #[.agg #[.slice s.ad s.len s.cap]] w fun r w' => r = .returned (.bool (Tk.much l)) ∧ Below w.heap.size w w' := by
 have hlen := hs.len
 have hfew := hs.few
 rw [← hlen] at hfew
 have hbA := (Below.refl w.heap.size w).alloc (Nat.le_refl _) (Obj.cells #[.slice s.ad s.len s.cap] 24)
 have HB := hide hbA
 have HS := hide (Tk.RT.later hs hbA (Nat.le_refl _))
 have HLN := hide hlen
 have hsa : (w.alloc (Obj.cells #[.slice s.ad s.len s.cap] 24)).heap.size = w.heap.size + 1 := by simp
 have HMU := hide (show Tk.much l = (decide (6 < l.length) || Tk.muchL 40 l) from rfl)
 generalize Tk.much l = z at *
 clear hs hlen hbA
 by_cases h6 : 6 < s.len
 · obtain rfl : z = true := by rw [unhide HMU, decide_eq_true (show 6 < l.length by have := unhide HLN; omega)]; rfl
   have g : (6 : Int) < (s.len : Int) := by omega
   go_enter Tryz.func24, Tryz.ntmps24
   go_wp2_with fail
   go_ret
   exact ⟨rfl, unhide HB⟩
 · obtain rfl : z = Tk.muchL 40 l := by rw [unhide HMU, decide_eq_false (show ¬ 6 < l.length by have := unhide HLN; omega)]; rfl
   have g : ¬ (6 : Int) < (s.len : Int) := by omega
   go_enter Tryz.func24, Tryz.ntmps24
   go_wp2_with fail
   generalize (w.alloc (Obj.cells #[.slice s.ad s.len s.cap] 24)) = wa at *
   go_loopw [3, 13] (fun lv iv wr => ∃ (i : Nat) (a : Int), i ≤ s.len ∧ iv = .int .i64 i ∧ lv = .int .i64 a ∧ (0 ≤ a ∧ a ≤ 40) ∧ Tk.muchL 40 l = Tk.muchL a (l.drop i) ∧ Below wa.heap.size wa wr) (fun _ iv _ => s.len - (intOf iv).toNat)
   case atStart => exact ⟨0, 40, Nat.zero_le _, rfl, rfl, ⟨by omega, by omega⟩, rfl, Below.refl _ _⟩
   case round =>
    obtain ⟨i, a, hi, rfl, rfl, ⟨ha1, ha2⟩, hl, hbe⟩ := hrel
    have hz := hbe.size
    have HBE := hide hbe
    by_cases hlt : i < s.len
    · have hlt2 : i < l.length := by have := unhide HLN; omega
      have hy := List.getElem?_eq_getElem hlt2
      obtain ⟨b, o, q, had, hb, hlies, hrd⟩ := (unhide HS).at_ i _ hy
      generalize l[i] = y at *
      have hdr := Tk.drop_cons hy
      rw [hdr] at hl
      have hl2 : Tk.muchL 40 l = (decide (3 < y.ps.length) || decide (6 < y.vs.length) || decide (15 < Tk.parts m y.re) || decide (Tk.leftC n 1 a y.cs < 0) || Tk.muchL (Tk.leftC n 1 a y.cs) (l.drop (i + 1))) := hl
      have HL := hide hl2
      have hcell : ∀ j v, q.cells[j]? = some v → wr.cell? ⟨b, o + i * 10 + j, none⟩ = some v := (hlies.later (unhide HBE) (Nat.le_refl _) hb).cells
      have hi0 : (0 : Int) ≤ (i : Int) := by omega
      have hi1 : (i : Int) < (s.len : Int) := by omega
      have hbN := (Below.refl wr.heap.size wr).alloc (Nat.le_refl _) (Obj.cells q.cells 54)
      have HRD := hide ((hrd.later (unhide HBE) (Nat.le_refl _)).later hbN (Nat.le_refl _))
      have HBN := hide ((unhide HBE).trans (hbN.mono (by omega)))
      have HBX := hide (Tk.BV.newF wr q)
      have hsN : (wr.alloc (Obj.cells q.cells 54)).heap.size = wr.heap.size + 1 := by simp
      have hone := Tk.F.one q
      have hps := hrd.ps.len
      have hvs := hrd.vs.len
      have hpf := hrd.ps.few
      have hvf := hrd.vs.few
      clear hlies hrd hy hdr hl hl2 hbe hbN
      rw [had]
      go_upto_region 6 with fail
      refine Tp.elem (cs := q.cells) (z := (Tk.F.zero).cells) (b := b) (o := o) (i := i) (p := 11) (q := 13) (tA := 15) (tL := 16) (tB := 5) rfl rfl rfl rfl rfl rfl rfl rfl rfl rfl rfl rfl rfl rfl hlt (by simp) (by simp) (by simp) (by decide) (by decide) Tryz.underlying22 Tryz.zeroTF rfl rfl Tryz.underlying54 rfl hcell hone ?_
      simp only [List.set_cons_zero, List.set_cons_succ]
      generalize (wr.alloc (Obj.cells q.cells 54)) = wN at *
      clear hcell hone
      have k0 := (unhide HBX) 0 (.int .i64 q.a) rfl
      have k1 := (unhide HBX) 1 (.string q.nm) rfl
      have k2 := (unhide HBX) 2 (.slice q.ps.ad q.ps.len q.ps.cap) rfl
      have k3 := (unhide HBX) 3 (.slice q.vs.ad q.vs.len q.vs.cap) rfl
      have k4 := (unhide HBX) 4 (.slice q.cs.ad q.cs.len q.cs.cap) rfl
      have k5 := (unhide HBX) 5 (.int .i64 q.re.k) rfl
      have k6 := (unhide HBX) 6 (.int .i64 q.re.a) rfl
      have k7 := (unhide HBX) 7 (.int .i64 q.re.n) rfl
      have k8 := (unhide HBX) 8 (.string q.re.nm) rfl
      have k9 := (unhide HBX) 9 (.slice q.re.args.ad q.re.args.len q.re.args.cap) rfl
      by_cases h3 : 3 < q.ps.len
      · have hfin : Hid (Tk.muchL 40 l = true) := by
         show _ = _
         rw [unhide HL, decide_eq_true (show 3 < y.ps.length by omega)]; rfl
        have g1 : (3 : Int) < (q.ps.len : Int) := by omega
        clear hps hvs
        go_wp2_with fail
        go_ret
        exact ⟨ret_bool (unhide hfin).symm, (unhide HB).trans ((unhide HBN).mono (by omega))⟩
      · have g1 : ¬ (3 : Int) < (q.ps.len : Int) := by omega
        by_cases h7 : 6 < q.vs.len
        · have hfin : Hid (Tk.muchL 40 l = true) := by
           show _ = _
           rw [unhide HL, decide_eq_true (show 6 < y.vs.length by omega)]; simp
          have g2 : (6 : Int) < (q.vs.len : Int) := by omega
          clear hps hvs
          go_wp2_with fail
          go_ret
          exact ⟨ret_bool (unhide hfin).symm, (unhide HB).trans ((unhide HBN).mono (by omega))⟩
        · have g2 : ¬ (6 : Int) < (q.vs.len : Int) := by omega
          have e1 : decide (3 < y.ps.length) = false := decide_eq_false (by omega)
          have e2 : decide (6 < y.vs.length) = false := decide_eq_false (by omega)
          have HL2 := hide (show Tk.muchL 40 l = (decide (15 < Tk.parts m y.re) || decide (Tk.leftC n 1 a y.cs < 0) || Tk.muchL (Tk.leftC n 1 a y.cs) (l.drop (i + 1))) by rw [unhide HL, e1, e2]; simp)
          clear hps hvs e1 e2 HL
          go_wp2_with fail
          refine (isTooLong_any m q.re y.re wN (unhide HRD).re).mono ?_
          rintro r w3 ⟨rfl, hb3⟩
          have HB3 := hide ((unhide HBN).trans (hb3.mono (by have := (unhide HBN).size; omega)))
          replace HBX := hide ((unhide HBX).below hb3 (by omega))
          have HCS := hide ((unhide HRD).cs.laterC hb3 (Nat.le_refl _))
          have hs3 := hb3.size
          clear hb3 HRD k0 k1 k2 k3 k4 k5 k6 k7 k8 k9
          cases hx : decide (15 < Tk.parts m y.re)
          · rw [hx, Bool.false_or] at HL2
            have k4 := (unhide HBX) 4 (.slice q.cs.ad q.cs.len q.cs.cap) rfl
            have hlo := Tk.leftC_lo n 1 a y.cs (by omega)
            clear hx
            go_wp2_with fail
            refine (leftOfCmds_any n q.cs y.cs w3 1 a (unhide HCS) (by omega) (by omega) (by omega) (by omega)).mono ?_
            rintro r w4 ⟨rfl, hb4⟩
            have HB4 := hide ((unhide HB3).trans (hb4.mono (by have := (unhide HB3).size; omega)))
            generalize Tk.leftC n 1 a y.cs = a1 at *
            clear hb4 k4
            by_cases hn : a1 < 0
            · have hfin : Hid (Tk.muchL 40 l = true) := by
               show _ = _
               rw [unhide HL2, decide_eq_true hn]; rfl
              go_wp2_with fail
              go_ret
              exact ⟨ret_bool (unhide hfin).symm, (unhide HB).trans ((unhide HB4).mono (by omega))⟩
            · have HL3 := hide (show Tk.muchL 40 l = Tk.muchL a1 (l.drop (i + 1)) by rw [unhide HL2, decide_eq_false hn]; rfl)
              go_wp2_with fail
              exact ⟨⟨i + 1, a1, by omega, by go_num, rfl, ⟨by omega, by omega⟩, unhide HL3, unhide HB4⟩, by simp [intOf]; omega⟩
          · have hfin : Hid (Tk.muchL 40 l = true) := by
             show _ = _
             rw [unhide HL2, hx]; rfl
            clear hx
            go_wp2_with fail
            go_ret
            exact ⟨ret_bool (unhide hfin).symm, (unhide HB).trans ((unhide HB3).mono (by omega))⟩
    · have hfin : Hid (Tk.muchL 40 l = false) := by
       show _ = _
       rw [hl, List.drop_eq_nil_of_le (by have := unhide HLN; omega)]; rfl
      clear hl hbe
      go_wp2_with fail
      go_ret
      exact ⟨ret_bool (unhide hfin).symm, (unhide HB).trans ((unhide HBE).mono (by omega))⟩
theorem isFunc_any {m n : Nat} (c : Tk.F) (y : Tk.FT m n) (isMain : Bool) (w : World) (h : Tk.RF w m n c y) :
  Calls Tryz.prog 59 #[c.val, .bool isMain] w fun r w' => r = .returned (.bool (Tk.funB y isMain)) ∧ Below w.heap.size w w' := by
 have hbA := (Below.refl w.heap.size w).alloc (Nat.le_refl _) (Obj.cells #[.int .i64 c.a, .string c.nm, .slice c.ps.ad c.ps.len c.ps.cap, .slice c.vs.ad c.vs.len c.vs.cap, .slice c.cs.ad c.cs.len c.cs.cap, .int .i64 c.re.k, .int .i64 c.re.a, .int .i64 c.re.n, .string c.re.nm, .slice c.re.args.ad c.re.args.len c.re.args.cap] 54)
 have HB := hide hbA
 have HBX := hide (Tk.BV.newF2 w c)
 have HPS := hide (h.ps.laterS hbA (Nat.le_refl _))
 have HVS := hide (h.vs.laterV hbA (Nat.le_refl _))
 have HNM := hide (And.intro h.nm h.few)
 have HCS := hide (fun (W : World) (hb : Below w.heap.size w W) => cmdsFit_any n c.cs y.cs true W (h.cs.laterC hb (Nat.le_refl _)))
 have HRE := hide (fun (W : World) (hb : Below w.heap.size w W) => exprFits_any m c.re y.re (!isMain) W (h.re.later hb (Nat.le_refl _)))
 have hsa : (w.alloc (Obj.cells #[.int .i64 c.a, .string c.nm, .slice c.ps.ad c.ps.len c.ps.cap, .slice c.vs.ad c.vs.len c.vs.cap, .slice c.cs.ad c.cs.len c.cs.cap, .int .i64 c.re.k, .int .i64 c.re.a, .int .i64 c.re.n, .string c.re.nm, .slice c.re.args.ad c.re.args.len c.re.args.cap] 54)).heap.size = w.heap.size + 1 := by simp
 have hpl := h.ps.len
 have hpf := h.ps.few
 have hvl := h.vs.len
 have hvf := h.vs.few
 have HPL := hide hpl
 have HVL := hide hvl
 rw [← hpl] at hpf
 rw [← hvl] at hvf
 have HZ := hide (show Tk.funB y isMain = (!(isMain && decide (0 < y.ps.length)) && y.ps.all Tk.nameB && y.vs.all Tk.varB && Tk.fitsB c.nm (!isMain) && y.cs.all (Tk.cmdB n) && Tk.exprFit m y.re (!isMain)) by rw [h.nm]; rfl)
 generalize Tk.funB y isMain = z at *
 clear h hpl hvl hbA
 have k2 := (unhide HBX) 2 (.slice c.ps.ad c.ps.len c.ps.cap) rfl
 unfold Tk.F.val
 by_cases hm : isMain = true ∧ 0 < c.ps.len
 · obtain ⟨rfl, h0⟩ := hm
   obtain rfl : z = false := by rw [unhide HZ, decide_eq_true (show 0 < y.ps.length by have := unhide HPL; omega)]; simp
   have g1 : (0 : Int) < (c.ps.len : Int) := by omega
   clear k2
   go_enter Tryz.func59, Tryz.ntmps59
   go_wp2_with fail
   go_ret
   exact ⟨rfl, unhide HB⟩
 · have e1 : (!(isMain && decide (0 < y.ps.length))) = true := by
    cases isMain
    · rfl
    · have : ¬ 0 < c.ps.len := fun h => hm ⟨rfl, h⟩
      rw [decide_eq_false (show ¬ 0 < y.ps.length by have := unhide HPL; omega)]; rfl
   have hg : isMain = true → ¬ (0 : Int) < (c.ps.len : Int) := fun h1 h2 => hm ⟨h1, by omega⟩
   rw [e1, Bool.true_and] at HZ
   have HG := hide hg
   clear e1 hm hg
   go_enter Tryz.func59, Tryz.ntmps59
   go_upto_region 1 with fail
   generalize (w.alloc (Obj.cells #[.int .i64 c.a, .string c.nm, .slice c.ps.ad c.ps.len c.ps.cap, .slice c.vs.ad c.vs.len c.vs.cap, .slice c.cs.ad c.cs.len c.cs.cap, .int .i64 c.re.k, .int .i64 c.re.a, .int .i64 c.re.n, .string c.re.nm, .slice c.re.args.ad c.re.args.len c.re.args.cap] 54)) = wa at *
   go_cut [15] from 9 (fun v W => v = .bool false ∧ W = wa)
   case first =>
    cases isMain
    · go_wp2_with fail
      go_meet
      case rel => exact ⟨by first | rfl | (rw [decide_eq_false (by omega)]), rfl⟩
    · have hg := (unhide HG) rfl
      go_wp2_with fail
      go_meet
      case rel => exact ⟨by first | rfl | (rw [decide_eq_false (by omega)]), rfl⟩
   case rest =>
    obtain ⟨rfl, hcw⟩ := hcut
    subst hcw
    go_wp2_with fail
    clear k2
    go_loopw [19] (fun iv wr => ∃ i : Nat, i ≤ c.ps.len ∧ iv = .int .i64 i ∧ (∀ j x, j < i → y.ps[j]? = some x → Tk.nameB x = true) ∧ Below wc.heap.size wc wr) (fun iv _ => c.ps.len - (intOf iv).toNat)
    case atStart => exact ⟨0, Nat.zero_le _, rfl, fun j y h => by omega, Below.refl _ _⟩
    case round =>
     obtain ⟨i, hi, rfl, hall, hbe⟩ := hrel
     have hz := hbe.size
     have HAL := hide hall
     have HBE := hide hbe
     clear hall hbe
     by_cases hlt : i < c.ps.len
     · have hlt2 : i < y.ps.length := by have := unhide HPL; omega
       have hy := List.getElem?_eq_getElem hlt2
       obtain ⟨b, o, q, had, hb, hlies, hrd, hrs⟩ := (unhide HPS).at_ i _ hy
       generalize y.ps[i] = x at *
       subst hrd
       have p0 : wr.cell? ⟨b, o + i, none⟩ = some (.string q) := by
        have h1 : wc.cell? ⟨b, o + i * 1, none⟩ = some (.string q) := hlies
        rw [Nat.mul_one] at h1
        exact ((unhide HBE).cell (p := ⟨b, o + i, none⟩) hb).trans h1
       have HY := hide hy
       have HRS := hide hrs
       clear hlies hy hrs
       have hi0 : (0 : Int) ≤ (i : Int) := by omega
       have hi1 : (i : Int) < (c.ps.len : Int) := by omega
       rw [had]
       go_wp2_with fail
       refine (isName_any q wr (unhide HRS)).mono ?_
       rintro r w3 ⟨rfl, hb3⟩
       have HB3 := hide ((unhide HBE).trans (hb3.mono hz))
       clear hb3
       cases hx : Tk.nameB q
       · obtain rfl : z = false := by
          rw [unhide HZ, show y.ps.all Tk.nameB = false from List.all_eq_false.2 ⟨q, List.mem_of_getElem? (unhide HY), by rw [hx]; decide⟩]
          rfl
         clear hx
         go_wp2_with fail
         go_ret
         exact ⟨rfl, (unhide HB).trans ((unhide HB3).mono (by omega))⟩
       · have HX := hide hx
         clear hx
         go_wp2_with fail
         refine ⟨⟨i + 1, by omega, by go_num, ?_, unhide HB3⟩, by simp [intOf]; omega⟩
         intro j u hj hu
         by_cases e2 : j = i
         · subst e2
           have := unhide HY
           rw [this] at hu
           cases hu
           exact unhide HX
         · exact (unhide HAL) j u (by omega) hu
     · have hf : y.ps.all Tk.nameB = true := by
        rw [List.all_eq_true]
        intro x hx
        obtain ⟨j, hj⟩ := List.getElem?_of_mem hx
        exact (unhide HAL) j x (by have := (List.getElem?_eq_some_iff.1 hj).1; have := unhide HPL; omega) hj
       rw [hf, Bool.true_and] at HZ
       obtain ⟨wo, hwo⟩ : ∃ wo, wo = wr := ⟨_, rfl⟩
       subst hwo
       have k3 : wo.cell? ⟨w.heap.size, 3, none⟩ = some (.slice c.vs.ad c.vs.len c.vs.cap) := ((unhide HBE).cell (p := ⟨w.heap.size, 3, none⟩) (by show w.heap.size < _; omega)).trans ((unhide HBX) 3 _ rfl)
       have HBO := hide (unhide HBE)
       clear hf HAL HBE
       go_wp2_with fail
       clear k3
       go_loopw [30] (fun iv wr => ∃ i : Nat, i ≤ c.vs.len ∧ iv = .int .i64 i ∧ (∀ j x, j < i → y.vs[j]? = some x → Tk.varB x = true) ∧ Below wo.heap.size wo wr) (fun iv _ => c.vs.len - (intOf iv).toNat)
       case atStart => exact ⟨0, Nat.zero_le _, rfl, fun j y h => by omega, Below.refl _ _⟩
       case round =>
        obtain ⟨i2, hi2, rfl, hall, hbe⟩ := hrel
        have hz2 := hbe.size
        have HAL := hide hall
        have HBE := hide hbe
        have HBB := hide ((unhide HBO).trans (hbe.mono hz))
        clear hall hbe
        by_cases hlt2 : i2 < c.vs.len
        · have hlt3 : i2 < y.vs.length := by have := unhide HVL; omega
          have hy := List.getElem?_eq_getElem hlt3
          obtain ⟨b, o, q, had, hb, ⟨hl0, hl1⟩, hrd, hrs⟩ := (unhide HVS).at_ i2 _ hy
          generalize y.vs[i2] = x at *
          subst hrd
          obtain ⟨qn, qz⟩ := q
          have p0 : wr.cell? ⟨b, o + i2 * 2, none⟩ = some (.string qn) := ((unhide HBB).cell (p := ⟨b, o + i2 * 2, none⟩) hb).trans hl0
          have p1 : wr.cell? ⟨b, o + i2 * 2 + 1, none⟩ = some (.int .i64 qz) := ((unhide HBB).cell (p := ⟨b, o + i2 * 2 + 1, none⟩) hb).trans hl1
          have HY := hide hy
          have HRS := hide hrs
          have HFA := hide (fun (h : Tk.varB (qn, qz) = false) => show y.vs.all Tk.varB = false from List.all_eq_false.2 ⟨(qn, qz), List.mem_of_getElem? hy, by rw [h]; decide⟩)
          clear hl0 hl1 hy hrs
          have hi0 : (0 : Int) ≤ (i2 : Int) := by omega
          have hi1 : (i2 : Int) < (c.vs.len : Int) := by omega
          have hbN := (Below.refl wr.heap.size wr).alloc (Nat.le_refl _) (Obj.cells #[.string qn, .int .i64 qz] 59)
          have hsN : (wr.alloc (Obj.cells #[.string qn, .int .i64 qz] 59)).heap.size = wr.heap.size + 1 := by simp
          have q1 : (wr.alloc (Obj.cells #[.string qn, .int .i64 qz] 59)).cell? ⟨wr.heap.size, 1, none⟩ = some (.int .i64 qz) := by go_simp
          have HQ1 := hide q1
          have HBN := hide ((unhide HBE).trans (hbN.mono hz2))
          clear hbN q1
          rw [had]
          go_wp2_with fail
          generalize (wr.alloc (Obj.cells #[.string qn, .int .i64 qz] 59)) = wN at *
          refine (isName_any qn wN (unhide HRS)).mono ?_
          rintro r w3 ⟨rfl, hb3⟩
          have HB3 := hide ((unhide HBN).trans (hb3.mono (by omega)))
          have q1 : w3.cell? ⟨wr.heap.size, 1, none⟩ = some (.int .i64 qz) := (hb3.cell (p := ⟨wr.heap.size, 1, none⟩) (by show wr.heap.size < _; omega)).trans (unhide HQ1)
          clear hb3 HQ1
          cases hx : Tk.nameB qn
          · have hvf := (unhide HFA) (by unfold Tk.varB; rw [hx]; rfl)
            obtain rfl : z = false := by rw [unhide HZ, hvf]; rfl
            clear hx hvf
            go_wp2_with fail
            go_ret
            exact ⟨rfl, (unhide HB).trans ((unhide HBO).trans ((unhide HB3).mono hz) |>.mono (by omega))⟩
          · by_cases h0 : qz < 0
            · have hvf := (unhide HFA) (by unfold Tk.varB; rw [decide_eq_false (show ¬ 0 ≤ qz by omega)]; simp)
              obtain rfl : z = false := by rw [unhide HZ, hvf]; rfl
              clear hx hvf
              go_wp2_with fail
              go_ret
              exact ⟨rfl, (unhide HB).trans ((unhide HBO).trans ((unhide HB3).mono hz) |>.mono (by omega))⟩
            · by_cases h9 : 9999999 < qz
              · have hvf := (unhide HFA) (by unfold Tk.varB; rw [decide_eq_false (show ¬ qz ≤ 9999999 by omega)]; simp)
                obtain rfl : z = false := by rw [unhide HZ, hvf]; rfl
                clear hx hvf
                go_wp2_with fail
                go_ret
                exact ⟨rfl, (unhide HB).trans ((unhide HBO).trans ((unhide HB3).mono hz) |>.mono (by omega))⟩
              · have HX := hide (show Tk.varB (qn, qz) = true by unfold Tk.varB; rw [hx, decide_eq_true (show 0 ≤ qz by omega), decide_eq_true (show qz ≤ 9999999 by omega)]; rfl)
                clear hx
                go_wp2_with fail
                refine ⟨⟨i2 + 1, by omega, by go_num, ?_, unhide HB3⟩, by simp [intOf]; omega⟩
                intro j u hj hu
                by_cases e2 : j = i2
                · subst e2
                  have := unhide HY
                  rw [this] at hu
                  cases hu
                  exact unhide HX
                · exact (unhide HAL) j u (by omega) hu
        · have hf : y.vs.all Tk.varB = true := by
           rw [List.all_eq_true]
           intro x hx
           obtain ⟨j, hj⟩ := List.getElem?_of_mem hx
           exact (unhide HAL) j x (by have := (List.getElem?_eq_some_iff.1 hj).1; have := unhide HVL; omega) hj
          rw [hf, Bool.true_and] at HZ
          have HNF := hide (nameFits_any c.nm (!isMain) wr (unhide HNM).2)
          have HBW := hide (show Below wc.heap.size wc wr from unhide HBB)
          have HBXr := hide ((unhide HBX).below (unhide HBW) (by omega))
          have k1 := (unhide HBXr) 1 (.string c.nm) rfl
          have HBT := hide ((unhide HB).trans ((unhide HBW).mono (by omega)))
          have hzt : w.heap.size < wr.heap.size := by omega
          clear hf HAL HBE HBO HBB
          generalize Tk.fitsB c.nm (!isMain) = b1 at *
          have HCS2 := hide (fun (W : World) (hb : Below w.heap.size w W) => show Calls Tryz.prog 105 #[.slice c.cs.ad c.cs.len c.cs.cap, .bool true] W fun r w' => r = .returned (.bool (y.cs.all (Tk.cmdB n))) ∧ Below W.heap.size W w' from ((unhide HCS) W hb).mono (fun r w' h => ⟨by rw [h.1]; simp, h.2⟩))
          have HRE2 := hide (fun (W : World) (hb : Below w.heap.size w W) => show Calls Tryz.prog 106 #[.agg #[.int .i64 c.re.k, .int .i64 c.re.a, .int .i64 c.re.n, .string c.re.nm, .slice c.re.args.ad c.re.args.len c.re.args.cap], .bool (!isMain)] W fun r w' => r = .returned (.bool (Tk.exprFit m y.re (!isMain))) ∧ Below W.heap.size W w' from (unhide HRE) W hb)
          generalize y.cs.all (Tk.cmdB n) = b2 at *
          generalize Tk.exprFit m y.re (!isMain) = b3 at *
          clear HCS HRE
          go_wp2_with fail
          refine (unhide HNF).mono ?_
          rintro r x1 ⟨rfl, hb⟩
          have hs1 := hb.size
          replace HBT := hide ((unhide HBT).trans (hb.mono (unhide HBT).size))
          replace HBXr := hide ((unhide HBXr).below hb (by omega))
          clear hb k1
          cases b1
          · obtain rfl : z = false := by rw [unhide HZ]; simp
            go_wp2_with fail
            go_ret
            exact ⟨rfl, unhide HBT⟩
          · have k4 := (unhide HBXr) 4 (.slice c.cs.ad c.cs.len c.cs.cap) rfl
            go_wp2_with fail
            refine ((unhide HCS2) x1 (unhide HBT)).mono ?_
            rintro r x2 ⟨rfl, hb⟩
            have hs2 := hb.size
            replace HBT := hide ((unhide HBT).trans (hb.mono (unhide HBT).size))
            replace HBXr := hide ((unhide HBXr).below hb (by omega))
            clear hb k4
            cases b2
            · obtain rfl : z = false := by rw [unhide HZ]; simp
              go_wp2_with fail
              go_ret
              exact ⟨rfl, unhide HBT⟩
            · have k5 := (unhide HBXr) 5 (.int .i64 c.re.k) rfl
              have k6 := (unhide HBXr) 6 (.int .i64 c.re.a) rfl
              have k7 := (unhide HBXr) 7 (.int .i64 c.re.n) rfl
              have k8 := (unhide HBXr) 8 (.string c.re.nm) rfl
              have k9 := (unhide HBXr) 9 (.slice c.re.args.ad c.re.args.len c.re.args.cap) rfl
              go_wp2_with fail
              refine ((unhide HRE2) x2 (unhide HBT)).mono ?_
              rintro r x3 ⟨rfl, hb⟩
              replace HBT := hide ((unhide HBT).trans (hb.mono (unhide HBT).size))
              clear hb k5 k6 k7 k8 k9
              obtain rfl : z = b3 := by rw [unhide HZ]; simp
              go_wp2_with fail
              go_ret
              exact ⟨rfl, unhide HBT⟩
theorem isWellFormed_any {m n : Nat} (s : Tk.Sl) (l : List (Tk.FT m n)) (w : World) (hs : Tk.RT w m n s l) :
  Calls Tryz.prog 25 #[.agg #[.slice s.ad s.len s.cap]] w fun r w' => r = .returned (.bool (Tk.wellL l && decide (0 < l.length))) ∧ Below w.heap.size w w' := by
 have hlen := hs.len
 have hfew := hs.few
 rw [← hlen] at hfew
 have hbA := (Below.refl w.heap.size w).alloc (Nat.le_refl _) (Obj.cells #[.slice s.ad s.len s.cap] 24)
 have HB := hide hbA
 have HS := hide (Tk.RT.later hs hbA (Nat.le_refl _))
 have HLN := hide hlen
 have hsa : (w.alloc (Obj.cells #[.slice s.ad s.len s.cap] 24)).heap.size = w.heap.size + 1 := by simp
 have HC0 := hide (show (w.alloc (Obj.cells #[.slice s.ad s.len s.cap] 24)).cell? ⟨w.heap.size, 0, none⟩ = some (.slice s.ad s.len s.cap) by go_simp)
 clear hs hlen hbA
 go_enter Tryz.func25, Tryz.ntmps25
 go_wp2_with fail
 generalize (w.alloc (Obj.cells #[.slice s.ad s.len s.cap] 24)) = wa at *
 go_loopw [8] (fun iv wr => ∃ i : Nat, i ≤ s.len ∧ iv = .int .i64 i ∧ Tk.wellL l = Tk.wellL (l.drop i) ∧ Below wa.heap.size wa wr) (fun iv _ => s.len - (intOf iv).toNat)
 case atStart => exact ⟨0, Nat.zero_le _, rfl, rfl, Below.refl _ _⟩
 case round =>
  obtain ⟨i, hi, rfl, hl, hbe⟩ := hrel
  have hz := hbe.size
  have HBE := hide hbe
  by_cases hlt : i < s.len
  · have hlt2 : i < l.length := by have := unhide HLN; omega
    have hy := List.getElem?_eq_getElem hlt2
    obtain ⟨b, o, q, had, hb, hlies, hrd⟩ := (unhide HS).at_ i _ hy
    generalize l[i] = y at *
    have hdr := Tk.drop_cons hy
    rw [hdr] at hl
    have hl2 : Tk.wellL l = (Tk.funB y (l.drop (i + 1)).isEmpty && Tk.wellL (l.drop (i + 1))) := hl
    have hem : (l.drop (i + 1)).isEmpty = ((i : Int) == (s.len : Int) - 1) := by
     rw [Bool.eq_iff_iff, List.isEmpty_iff, List.drop_eq_nil_iff, beq_iff_eq]
     have := unhide HLN
     omega
    rw [hem] at hl2
    have HL := hide hl2
    have hcell : ∀ j v, q.cells[j]? = some v → wr.cell? ⟨b, o + i * 10 + j, none⟩ = some v := (hlies.later (unhide HBE) (Nat.le_refl _) hb).cells
    have hi0 : (0 : Int) ≤ (i : Int) := by omega
    have hi1 : (i : Int) < (s.len : Int) := by omega
    have hbN := (Below.refl wr.heap.size wr).alloc (Nat.le_refl _) (Obj.cells q.cells 54)
    have HRD := hide ((hrd.later (unhide HBE) (Nat.le_refl _)).later hbN (Nat.le_refl _))
    have HBN := hide ((unhide HBE).trans (hbN.mono (by omega)))
    have HBX := hide (Tk.BV.newF wr q)
    have hsN : (wr.alloc (Obj.cells q.cells 54)).heap.size = wr.heap.size + 1 := by simp
    have hone := Tk.F.one q
    clear hlies hrd hy hdr hl hl2 hem hbe hbN
    have hc0 : wr.cell? ⟨w.heap.size, 0, none⟩ = some (.slice s.ad s.len s.cap) := ((unhide HBE).cell (p := ⟨w.heap.size, 0, none⟩) (by show w.heap.size < _; omega)).trans (unhide HC0)
    have k0 : wr.cell? ⟨b, o + i * 10, none⟩ = some (.int .i64 q.a) := hcell 0 _ rfl
    have k1 : wr.cell? ⟨b, o + i * 10 + 1, none⟩ = some (.string q.nm) := hcell 1 _ rfl
    have k2 : wr.cell? ⟨b, o + i * 10 + 2, none⟩ = some (.slice q.ps.ad q.ps.len q.ps.cap) := hcell 2 _ rfl
    have k3 : wr.cell? ⟨b, o + i * 10 + 3, none⟩ = some (.slice q.vs.ad q.vs.len q.vs.cap) := hcell 3 _ rfl
    have k4 : wr.cell? ⟨b, o + i * 10 + 4, none⟩ = some (.slice q.cs.ad q.cs.len q.cs.cap) := hcell 4 _ rfl
    have k5 : wr.cell? ⟨b, o + i * 10 + 5, none⟩ = some (.int .i64 q.re.k) := hcell 5 _ rfl
    have k6 : wr.cell? ⟨b, o + i * 10 + 6, none⟩ = some (.int .i64 q.re.a) := hcell 6 _ rfl
    have k7 : wr.cell? ⟨b, o + i * 10 + 7, none⟩ = some (.int .i64 q.re.n) := hcell 7 _ rfl
    have k8 : wr.cell? ⟨b, o + i * 10 + 8, none⟩ = some (.string q.re.nm) := hcell 8 _ rfl
    have k9 : wr.cell? ⟨b, o + i * 10 + 9, none⟩ = some (.slice q.re.args.ad q.re.args.len q.re.args.cap) := hcell 9 _ rfl
    have hw1 : IntKind.i64.wrap ((s.len : Int) - 1) = (s.len : Int) - 1 := by rw [IntKind.wrap_i64]; omega
    clear hcell hone
    rw [had]
    rw [had] at hc0
    have hcN : (wr.alloc (Obj.cells q.cells 54)).cell? ⟨w.heap.size, 0, none⟩ = some (.slice (some ⟨b, o, none⟩) s.len s.cap) := by
     have hbN := (Below.refl wr.heap.size wr).alloc (Nat.le_refl _) (Obj.cells q.cells 54)
     exact (hbN.cell (p := ⟨w.heap.size, 0, none⟩) (by show w.heap.size < _; omega)).trans hc0
    have hBV := Tk.BV.newF wr q
    have m0 := hBV 0 (.int .i64 q.a) rfl
    have m1 := hBV 1 (.string q.nm) rfl
    have m2 := hBV 2 (.slice q.ps.ad q.ps.len q.ps.cap) rfl
    have m3 := hBV 3 (.slice q.vs.ad q.vs.len q.vs.cap) rfl
    have m4 := hBV 4 (.slice q.cs.ad q.cs.len q.cs.cap) rfl
    have m5 := hBV 5 (.int .i64 q.re.k) rfl
    have m6 := hBV 6 (.int .i64 q.re.a) rfl
    have m7 := hBV 7 (.int .i64 q.re.n) rfl
    have m8 := hBV 8 (.string q.re.nm) rfl
    have m9 := hBV 9 (.slice q.re.args.ad q.re.args.len q.re.args.cap) rfl
    unfold Tk.F.cells at hcN HRD HBN hsN m0 m1 m2 m3 m4 m5 m6 m7 m8 m9
    clear hBV
    go_wp2_with fail
    clear k0 k1 k2 k3 k4 k5 k6 k7 k8 k9 hc0
    have HTL := hide (isFunc_any q y ((i : Int) == (s.len : Int) - 1) _ (unhide HRD))
    unfold Tk.F.val at HTL
    refine (unhide HTL).mono ?_
    rintro r w3 ⟨rfl, hb3⟩
    have HB3 := hide ((unhide HBN).trans (hb3.mono (by have := (unhide HBN).size; omega)))
    clear hb3 HTL hcN m0 m1 m2 m3 m4 m5 m6 m7 m8 m9
    cases hx : Tk.funB y ((i : Int) == (s.len : Int) - 1)
    · have hfin : Hid (Tk.wellL l = false) := by
       show _ = _
       rw [unhide HL, hx]; rfl
      clear hx
      go_wp2_with fail
      go_ret
      exact ⟨ret_bool (by rw [unhide hfin]; rfl), (unhide HB).trans ((unhide HB3).mono (by omega))⟩
    · have HL3 := hide (show Tk.wellL l = Tk.wellL (l.drop (i + 1)) by rw [unhide HL, hx]; rfl)
      clear hx
      go_wp2_with fail
      exact ⟨⟨i + 1, by omega, by go_num, unhide HL3, unhide HB3⟩, by simp [intOf]; omega⟩
  · have hfin : Hid (Tk.wellL l = true) := by
     show _ = _
     rw [hl, List.drop_eq_nil_of_le (by have := unhide HLN; omega)]; rfl
    have hc0 : wr.cell? ⟨w.heap.size, 0, none⟩ = some (.slice s.ad s.len s.cap) := ((unhide HBE).cell (p := ⟨w.heap.size, 0, none⟩) (by show w.heap.size < _; omega)).trans (unhide HC0)
    have hq : Hid (decide (0 < l.length) = decide ((0 : Int) < (s.len : Int))) := by
     show _ = _
     rw [decide_eq_decide]; have := unhide HLN; omega
    clear hl hbe
    go_wp2_with fail
    go_ret
    exact ⟨ret_bool (by rw [unhide hfin, unhide hq]; simp), (unhide HB).trans ((unhide HBE).mono (by omega))⟩
theorem tCheck_any {m n : Nat} (s : Tk.Sl) (l : List (Tk.FT m n)) (w : World) (hs : Tk.RT w m n s l) :
  Calls Tryz.prog 10 #[.agg #[.slice s.ad s.len s.cap]] w fun r w' => r = .returned (.int .i64 ((Tk.chkT l : Nat) : Int)) ∧ Below w.heap.size w w' := by
 have hbA := (Below.refl w.heap.size w).alloc (Nat.le_refl _) (Obj.cells #[.slice s.ad s.len s.cap] 24)
 have HB := hide hbA
 have HS := hide (Tk.RT.later hs hbA (Nat.le_refl _))
 have hsa : (w.alloc (Obj.cells #[.slice s.ad s.len s.cap] 24)).heap.size = w.heap.size + 1 := by simp
 have HC0 := hide (show (w.alloc (Obj.cells #[.slice s.ad s.len s.cap] 24)).cell? ⟨w.heap.size, 0, none⟩ = some (.slice s.ad s.len s.cap) by go_simp)
 have HZ := hide (show Tk.chkT l = (if Tk.much l = true then 2 else if (Tk.wellL l && decide (0 < l.length)) = true then 0 else 1) from rfl)
 generalize Tk.chkT l = z at *
 clear hs hbA
 go_enter Tryz.func10, Tryz.ntmps10
 go_wp2_with fail
 generalize (w.alloc (Obj.cells #[.slice s.ad s.len s.cap] 24)) = wa at *
 refine (isTooMuch_any s l wa (unhide HS)).mono ?_
 rintro r w1 ⟨rfl, hb1⟩
 replace HB := hide ((unhide HB).trans (hb1.mono (by omega)))
 replace HS := hide (Tk.RT.later (unhide HS) hb1 (Nat.le_refl _))
 have hc1 := (hb1.cell (p := ⟨w.heap.size, 0, none⟩) (by show w.heap.size < _; omega)).trans (unhide HC0)
 clear hb1 HC0
 cases hx : Tk.much l
 · have HZ2 := hide (show z = (if (Tk.wellL l && decide (0 < l.length)) = true then 0 else 1) by rw [unhide HZ, hx]; rfl)
   clear hx HZ
   go_wp2_with fail
   refine (isWellFormed_any s l w1 (unhide HS)).mono ?_
   rintro r w2 ⟨rfl, hb2⟩
   replace HB := hide ((unhide HB).trans (hb2.mono (unhide HB).size))
   clear hb2 hc1
   generalize (Tk.wellL l && decide (0 < l.length)) = b at *
   cases b
   · obtain rfl : z = 1 := by rw [unhide HZ2]; rfl
     go_wp2_with fail
     go_ret
     exact ⟨rfl, unhide HB⟩
   · obtain rfl : z = 0 := by rw [unhide HZ2]; rfl
     go_wp2_with fail
     go_ret
     exact ⟨rfl, unhide HB⟩
 · obtain rfl : z = 2 := by rw [unhide HZ, hx]; rfl
   clear hx hc1
   go_wp2_with fail
   go_ret
   exact ⟨rfl, unhide HB⟩
end Go.Proofs.YtfccpddehpgfoaaGreatDoor
namespace Go.Proofs.YtfccpddehpgfoaaGreatDoor
open Go.RowKit
set_option linter.unusedVariables false
theorem Tryz.heldTV : Tryz.prog.stoodInHeld 59 = false := by kernel_rfl
theorem Tryz.undTV : Tryz.prog.underlying 59 = some (.struct (Tryz.prog.fieldsOf 59)) := by kernel_rfl
theorem Tryz.fldTV : ((Tryz.prog.fieldsOf 59).toList.map fun f => (f.name == "_", f.type, f.offset)) = [(false, 9, 0), (false, 3, 1)] := by kernel_rfl
theorem Tk.two_fld {l : List Field} {t u : TypeId} (h : (l.map fun f => (f.name == "_", f.type, f.offset)) = [(false, t, 0), (false, u, 1)]) : ∃ f g : Field, l = [f, g] ∧ ((f.name == "_") = false ∧ f.type = t ∧ f.offset = 0) ∧ ((g.name == "_") = false ∧ g.type = u ∧ g.offset = 1) := by
 have hl := congrArg List.length h
 rw [List.length_map] at hl
 obtain ⟨f, g, rfl⟩ : ∃ f g, l = [f, g] := by
  cases l with
  | nil => cases hl
  | cons f r =>
   cases r with
   | nil => cases hl
   | cons g q =>
    cases q with
    | nil => exact ⟨f, g, rfl⟩
    | cons _ _ => simp at hl
 simp only [List.map_cons, List.map_nil, List.cons.injEq, Prod.mk.injEq, and_true] at h
 exact ⟨f, g, rfl, h.1, h.2⟩
theorem Tryz.neqTV (a b : ByteArray) (x y : Int) (W : World) : (binOp .neq 59 (.agg #[.string a, .int .i64 x]) (.agg #[.string b, .int .i64 y])).run Tryz.prog W = .ok (.bool (!((a.toList == b.toList) && (x == y)))) W := by
 obtain ⟨f, g, h2, ⟨f1, f2, f3⟩, ⟨g1, g2, g3⟩⟩ := Tk.two_fld Tryz.fldTV
 rw [run_neq_struct, run_equalIn_agg (P := Tryz.prog) W 9999 59 _ _ Tryz.undTV Tryz.heldTV, h2]
 have e1 := fun W => run_equalIn_string (P := Tryz.prog) W 9998 9 a b Tryz.underlying9
 have e2 := fun W => run_equalIn_int (P := Tryz.prog) W 9998 3 .i64 .i64 x y Tryz.underlying3
 have n1 : f.name ≠ "_" := by simpa using f1
 have n2 : g.name ≠ "_" := by simpa using g1
 have p1 : ∀ W, (part 9 #[.string a, .int .i64 x] 0).run Tryz.prog W = .ok (.string a) W := fun W => by simp [part, isAgg, run_underlying Tryz.underlying9]
 have p2 : ∀ W, (part 9 #[.string b, .int .i64 y] 0).run Tryz.prog W = .ok (.string b) W := fun W => by simp [part, isAgg, run_underlying Tryz.underlying9]
 have p3 : ∀ W, (part 3 #[.string a, .int .i64 x] 1).run Tryz.prog W = .ok (.int .i64 x) W := fun W => by simp [part, isAgg, run_underlying Tryz.underlying3]
 have p4 : ∀ W, (part 3 #[.string b, .int .i64 y] 1).run Tryz.prog W = .ok (.int .i64 y) W := fun W => by simp [part, isAgg, run_underlying Tryz.underlying3]
 simp only [Op.eqFields, n1, n2, f2, f3, g2, g3, ne_eq, not_false_eq_true, if_true, Sem.run_bind, p1, p2, Result.andThen_ok, e1]
 cases a.toList == b.toList
 · simp
 · simp only [Bool.not_true, Bool.false_eq_true, if_false, Sem.run_bind, p3, p4, Result.andThen_ok, e2]
   cases x == y <;> simp
end Go.Proofs.YtfccpddehpgfoaaGreatDoor
namespace Go.Proofs.YtfccpddehpgfoaaGreatDoor
open Go.RowKit
set_option linter.unusedVariables false
def Tk.sameF {m n m' n' : Nat} (x : Tk.FT m n) (y : Tk.FT m' n') : Bool := (x.nm.toList == y.nm.toList) && (x.ps.length == y.ps.length) && (x.vs.length == y.vs.length) && Tk.sameL (Tk.sameC n n') x.cs y.cs && Tk.sameE m m' x.re y.re && Tk.sameL (fun a b : ByteArray => a.toList == b.toList) x.ps y.ps && Tk.sameL (fun a b : ByteArray × Int => (a.1.toList == b.1.toList) && (a.2 == b.2)) x.vs y.vs
end Go.Proofs.YtfccpddehpgfoaaGreatDoor
