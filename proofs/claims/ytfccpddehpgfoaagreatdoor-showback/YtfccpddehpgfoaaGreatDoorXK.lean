/- By the verifier. -/
import Derived.Laws.StructEq
import Derived.Test.YtfccpddehpgfoaaGreatDoorXJ
set_option maxRecDepth 100000
set_option maxHeartbeats 3200000
namespace Go.Proofs.YtfccpddehpgfoaaGreatDoor
open Go.RowKit
set_option linter.unusedVariables false
theorem Tk.F.one (q : Tk.F) : ∀ v ∈ q.cells.toList, v.oneCell' = true := fun v hv => by simp [Tk.F.cells] at hv; rcases hv with h | h | h | h | h | h | h | h | h | h <;> subst h <;> rfl
def Tk.F.zero : Tk.F := ⟨0, ⟨#[]⟩, ⟨none, 0, 0⟩, ⟨none, 0, 0⟩, ⟨none, 0, 0⟩, ⟨0, 0, 0, ⟨#[]⟩, ⟨none, 0, 0⟩⟩⟩
theorem Zbs : (Tryz.prog.info? 54).map (fun i => (i.zero, i.size)) = some (some (.agg Tk.F.zero.cells), 10) := by kernel_rfl
theorem Tk.LF.cells {w : World} {b o : Nat} {c : Tk.F} (h : Tk.LF w b o c) : ∀ j v, c.cells[j]? = some v → w.cell? ⟨b, o + j, none⟩ = some v := by
 obtain ⟨p0, p1, p2, p3, p4, ⟨x0, x1, x2, x3, x4⟩⟩ := h
 simp only [Nat.add_assoc, Nat.reduceAdd] at x1 x2 x3 x4
 intro j v hj
 match j, hj with
 | 0, hj => cases hj; exact p0
 | 1, hj => cases hj; exact p1
 | 2, hj => cases hj; exact p2
 | 3, hj => cases hj; exact p3
 | 4, hj => cases hj; exact p4
 | 5, hj => cases hj; exact x0
 | 6, hj => cases hj; exact x1
 | 7, hj => cases hj; exact x2
 | 8, hj => cases hj; exact x3
 | 9, hj => cases hj; exact x4
 | j + 10, hj => simp [Tk.F.cells] at hj
theorem ZcB (w : World) (c : Tk.F) : Tk.BV (w.alloc (Obj.cells c.cells 54)) w.heap.size c.cells := fun j v h => by go_simp
def Tk.F.val (c : Tk.F) : Value := .agg #[.int .i64 c.a, .string c.nm, .slice c.ps.ad c.ps.len c.ps.cap, .slice c.vs.ad c.vs.len c.vs.cap, .slice c.cs.ad c.cs.len c.cs.cap, .int .i64 c.re.k, .int .i64 c.re.a, .int .i64 c.re.n, .string c.re.nm, .slice c.re.args.ad c.re.args.len c.re.args.cap]
theorem Ziy (w : World) (c : Tk.F) : Tk.BV (w.alloc (Obj.cells #[.int .i64 c.a, .string c.nm, .slice c.ps.ad c.ps.len c.ps.cap, .slice c.vs.ad c.vs.len c.vs.cap, .slice c.cs.ad c.cs.len c.cs.cap, .int .i64 c.re.k, .int .i64 c.re.a, .int .i64 c.re.n, .string c.re.nm, .slice c.re.args.ad c.re.args.len c.re.args.cap] 54)) w.heap.size c.cells := ZcB w c
theorem ZcQ {α : Type} {l : List α} {i : Nat} {x : α} (h : l[i]? = some x) : l.drop i = x :: l.drop (i + 1) := by
 have hlt := (List.getElem?_eq_some_iff.1 h).1
 rw [List.drop_eq_getElem_cons hlt, (List.getElem?_eq_some_iff.1 h).2]
theorem Zhm {m n : Nat} (s : Tk.Sl) (l : List (Tk.FT m n)) (w : World) (hs : Tk.RT w m n s l) :
  Calls Tryz.prog 24 #[.agg #[.slice s.ad s.len s.cap]] w fun r w' => r = .returned (.bool (Zcs l)) ∧ Below w.heap.size w w' := by
 have hlen := hs.len
 have hfew := hs.few
 rw [← hlen] at hfew
 have hbA := (Below.refl w.heap.size w).alloc Zl (Obj.cells #[.slice s.ad s.len s.cap] 24)
 have HB := Hd hbA
 have HS := Hd (Tk.RT.later hs hbA Zl)
 have HLN := Hd hlen
 have hsa : (w.alloc (Obj.cells #[.slice s.ad s.len s.cap] 24)).heap.size = w.heap.size + 1 := by simp
 have HMU := Hd (show Zcs l = (decide (6 < l.length) || ZaN 40 l) from rfl)
 generalize Zcs l = z at *
 clear hs hlen hbA
 by_cases h6 : 6 < s.len
 · obtain rfl : z = true := by rw [uh HMU, decide_eq_true (show 6 < l.length by have := uh HLN; omega)]; rfl
   have g : (6 : Int) < (s.len : Int) := by omega
   go_enter Tryz.func24, Tryz.ntmps24
   go_wp2_with fail
   go_ret
   exact ⟨rfl, uh HB⟩
 obtain rfl : z = ZaN 40 l := by rw [uh HMU, decide_eq_false (show ¬ 6 < l.length by have := uh HLN; omega)]; rfl
 have g : ¬ (6 : Int) < (s.len : Int) := by omega
 go_enter Tryz.func24, Tryz.ntmps24
 go_wp2_with fail
 generalize (w.alloc (Obj.cells #[.slice s.ad s.len s.cap] 24)) = wa at *
 go_loopw [3, 13] (fun lv iv wr => ∃ (i : Nat) (a : Int), i ≤ s.len ∧ iv = .int .i64 i ∧ lv = .int .i64 a ∧ (0 ≤ a ∧ a ≤ 40) ∧ ZaN 40 l = ZaN a (l.drop i) ∧ Below wa.heap.size wa wr) (fun _ iv _ => s.len - (intOf iv).toNat)
 case atStart => exact ⟨0, 40, Nat.zero_le _, rfl, rfl, ⟨by omega, by omega⟩, rfl, Zr⟩
 case round =>
  obtain ⟨i, a, hi, rfl, rfl, ⟨ha1, ha2⟩, hl, hbe⟩ := hrel
  have hz := hbe.size
  have HBE := Hd hbe
  by_cases hlt : i < s.len
  · have hlt2 : i < l.length := by have := uh HLN; omega
    have hy := Zg hlt2
    obtain ⟨b, o, q, had, hb, hlies, hrd⟩ := (uh HS).at_ i _ hy
    generalize l[i] = y at *
    have hdr := ZcQ hy
    rw [hdr] at hl
    have hl2 : ZaN 40 l = (decide (3 < y.ps.length) || decide (6 < y.vs.length) || decide (15 < Zab m y.re) || decide (Zae n 1 a y.cs < 0) || ZaN (Zae n 1 a y.cs) (l.drop (i + 1))) := hl
    have HL := Hd hl2
    have hcell : ∀ j v, q.cells[j]? = some v → wr.cell? ⟨b, o + i * 10 + j, none⟩ = some v := (hlies.later (uh HBE) Zl hb).cells
    have hi0 : (0 : Int) ≤ (i : Int) := by omega
    have hi1 : (i : Int) < (s.len : Int) := by omega
    have hbN := (Below.refl wr.heap.size wr).alloc Zl (Obj.cells q.cells 54)
    have HRD := Hd ((hrd.later (uh HBE) Zl).later hbN Zl)
    have HBN := Hd ((uh HBE).trans (hbN.mono (by omega)))
    have HBX := Hd (ZcB wr q)
    have hsN : (wr.alloc (Obj.cells q.cells 54)).heap.size = wr.heap.size + 1 := by simp
    have hone := Tk.F.one q
    have hps := hrd.ps.len
    have hvs := hrd.vs.len
    have hpf := hrd.ps.few
    have hvf := hrd.vs.few
    clear hlies hrd hy hdr hl hl2 hbe hbN
    rw [had]
    go_upto_region 6 with fail
    refine ZfI (cs := q.cells) (z := (Tk.F.zero).cells) (b := b) (o := o) (i := i) (p := 11) (q := 13) (tA := 15) (tL := 16) (tB := 5) rfl rfl rfl rfl rfl rfl rfl rfl rfl rfl rfl rfl rfl rfl hlt (by simp) (by simp) (by simp) (by decide) (by decide) Tryz.underlying22 Zbs rfl rfl Tryz.underlying54 rfl hcell hone ?_
    simp only [Zz, Zs]
    generalize (wr.alloc (Obj.cells q.cells 54)) = wN at *
    clear hcell hone
    have k0 := (uh HBX) 0 (.int .i64 q.a) rfl
    have k1 := (uh HBX) 1 (.string q.nm) rfl
    have k2 := (uh HBX) 2 (.slice q.ps.ad q.ps.len q.ps.cap) rfl
    have k3 := (uh HBX) 3 (.slice q.vs.ad q.vs.len q.vs.cap) rfl
    have k4 := (uh HBX) 4 (.slice q.cs.ad q.cs.len q.cs.cap) rfl
    have k5 := (uh HBX) 5 (.int .i64 q.re.k) rfl
    have k6 := (uh HBX) 6 (.int .i64 q.re.a) rfl
    have k7 := (uh HBX) 7 (.int .i64 q.re.n) rfl
    have k8 := (uh HBX) 8 (.string q.re.nm) rfl
    have k9 := (uh HBX) 9 (.slice q.re.args.ad q.re.args.len q.re.args.cap) rfl
    by_cases h3 : 3 < q.ps.len
    · have hfin : Hid (ZaN 40 l = true) := by
       show _ = _
       rw [uh HL, decide_eq_true (show 3 < y.ps.length by omega)]; rfl
      have g1 : (3 : Int) < (q.ps.len : Int) := by omega
      clear hps hvs
      go_wp2_with fail
      go_ret
      exact ⟨Zaj (uh hfin).symm, (uh HB).trans ((uh HBN).mono (by omega))⟩
    have g1 : ¬ (3 : Int) < (q.ps.len : Int) := by omega
    by_cases h7 : 6 < q.vs.len
    · have hfin : Hid (ZaN 40 l = true) := by
       show _ = _
       rw [uh HL, decide_eq_true (show 6 < y.vs.length by omega)]; simp
      have g2 : (6 : Int) < (q.vs.len : Int) := by omega
      clear hps hvs
      go_wp2_with fail
      go_ret
      exact ⟨Zaj (uh hfin).symm, (uh HB).trans ((uh HBN).mono (by omega))⟩
    have g2 : ¬ (6 : Int) < (q.vs.len : Int) := by omega
    have e1 : decide (3 < y.ps.length) = false := decide_eq_false (by omega)
    have e2 : decide (6 < y.vs.length) = false := decide_eq_false (by omega)
    have HL2 := Hd (show ZaN 40 l = (decide (15 < Zab m y.re) || decide (Zae n 1 a y.cs < 0) || ZaN (Zae n 1 a y.cs) (l.drop (i + 1))) by rw [uh HL, e1, e2]; simp)
    clear hps hvs e1 e2 HL
    go_wp2_with fail
    refine (Zcy m q.re y.re wN (uh HRD).re).mono ?_
    rintro r w3 ⟨rfl, hb3⟩
    have HB3 := Hd ((uh HBN).trans (hb3.mono (by have := (uh HBN).size; omega)))
    replace HBX := Hd ((uh HBX).below hb3 (by omega))
    have HCS := Hd ((uh HRD).cs.laterC hb3 Zl)
    have hs3 := hb3.size
    clear hb3 HRD k0 k1 k2 k3 k4 k5 k6 k7 k8 k9
    cases hx : decide (15 < Zab m y.re)
    · rw [hx, Bool.false_or] at HL2
      have k4 := (uh HBX) 4 (.slice q.cs.ad q.cs.len q.cs.cap) rfl
      have hlo := Zcd n 1 a y.cs (by omega)
      clear hx
      go_wp2_with fail
      refine (Zgc n q.cs y.cs w3 1 a (uh HCS) (by omega) (by omega) (by omega) (by omega)).mono ?_
      rintro r w4 ⟨rfl, hb4⟩
      have HB4 := Hd ((uh HB3).trans (hb4.mono (by have := (uh HB3).size; omega)))
      generalize Zae n 1 a y.cs = a1 at *
      clear hb4 k4
      by_cases hn : a1 < 0
      · have hfin : Hid (ZaN 40 l = true) := by
         show _ = _
         rw [uh HL2, decide_eq_true hn]; rfl
        go_wp2_with fail
        go_ret
        exact ⟨Zaj (uh hfin).symm, (uh HB).trans ((uh HB4).mono (by omega))⟩
      have HL3 := Hd (show ZaN 40 l = ZaN a1 (l.drop (i + 1)) by rw [uh HL2, decide_eq_false hn]; rfl)
      go_wp2_with fail
      exact ⟨⟨i + 1, a1, by omega, by go_num, rfl, ⟨by omega, by omega⟩, uh HL3, uh HB4⟩, by simp [intOf]; omega⟩
    have hfin : Hid (ZaN 40 l = true) := by
     show _ = _
     rw [uh HL2, hx]; rfl
    clear hx
    go_wp2_with fail
    go_ret
    exact ⟨Zaj (uh hfin).symm, (uh HB).trans ((uh HB3).mono (by omega))⟩
  have hfin : Hid (ZaN 40 l = false) := by
   show _ = _
   rw [hl, List.drop_eq_nil_of_le (by have := uh HLN; omega)]; rfl
  clear hl hbe
  go_wp2_with fail
  go_ret
  exact ⟨Zaj (uh hfin).symm, (uh HB).trans ((uh HBE).mono (by omega))⟩
theorem Zj5 {m n : Nat} (c : Tk.F) (y : Tk.FT m n) (isMain : Bool) (w : World) (h : Tk.RF w m n c y) :
  Calls Tryz.prog 59 #[c.val, .bool isMain] w fun r w' => r = .returned (.bool (ZaR y isMain)) ∧ Below w.heap.size w w' := by
 have hbA := (Below.refl w.heap.size w).alloc Zl (Obj.cells #[.int .i64 c.a, .string c.nm, .slice c.ps.ad c.ps.len c.ps.cap, .slice c.vs.ad c.vs.len c.vs.cap, .slice c.cs.ad c.cs.len c.cs.cap, .int .i64 c.re.k, .int .i64 c.re.a, .int .i64 c.re.n, .string c.re.nm, .slice c.re.args.ad c.re.args.len c.re.args.cap] 54)
 have HB := Hd hbA
 have HBX := Hd (Ziy w c)
 have HPS := Hd (h.ps.laterS hbA Zl)
 have HVS := Hd (h.vs.laterV hbA Zl)
 have HNM := Hd (And.intro h.nm h.few)
 have HCS := Hd (fun (W : World) (hb : Below w.heap.size w W) => Zi0 n c.cs y.cs true W (h.cs.laterC hb Zl))
 have HRE := Hd (fun (W : World) (hb : Below w.heap.size w W) => Zdv m c.re y.re (!isMain) W (h.re.later hb Zl))
 have hsa : (w.alloc (Obj.cells #[.int .i64 c.a, .string c.nm, .slice c.ps.ad c.ps.len c.ps.cap, .slice c.vs.ad c.vs.len c.vs.cap, .slice c.cs.ad c.cs.len c.cs.cap, .int .i64 c.re.k, .int .i64 c.re.a, .int .i64 c.re.n, .string c.re.nm, .slice c.re.args.ad c.re.args.len c.re.args.cap] 54)).heap.size = w.heap.size + 1 := by simp
 have hpl := h.ps.len
 have hpf := h.ps.few
 have hvl := h.vs.len
 have hvf := h.vs.few
 have HPL := Hd hpl
 have HVL := Hd hvl
 rw [← hpl] at hpf
 rw [← hvl] at hvf
 have HZ := Hd (show ZaR y isMain = (!(isMain && decide (0 < y.ps.length)) && y.ps.all Zam && y.vs.all Za5 && Zar c.nm (!isMain) && y.cs.all (Zaf n) && Zan m y.re (!isMain)) by rw [h.nm]; rfl)
 generalize ZaR y isMain = z at *
 clear h hpl hvl hbA
 have k2 := (uh HBX) 2 (.slice c.ps.ad c.ps.len c.ps.cap) rfl
 unfold Tk.F.val
 by_cases hm : isMain = true ∧ 0 < c.ps.len
 · obtain ⟨rfl, h0⟩ := hm
   obtain rfl : z = false := by rw [uh HZ, decide_eq_true (show 0 < y.ps.length by have := uh HPL; omega)]; simp
   have g1 : (0 : Int) < (c.ps.len : Int) := by omega
   clear k2
   go_enter Tryz.func59, Tryz.ntmps59
   go_wp2_with fail
   go_ret
   exact ⟨rfl, uh HB⟩
 have e1 : (!(isMain && decide (0 < y.ps.length))) = true := by
  cases isMain
  · rfl
  have : ¬ 0 < c.ps.len := fun h => hm ⟨rfl, h⟩
  rw [decide_eq_false (show ¬ 0 < y.ps.length by have := uh HPL; omega)]; rfl
 have hg : isMain = true → ¬ (0 : Int) < (c.ps.len : Int) := fun h1 h2 => hm ⟨h1, by omega⟩
 rw [e1, Bool.true_and] at HZ
 have HG := Hd hg
 clear e1 hm hg
 go_enter Tryz.func59, Tryz.ntmps59
 go_upto_region 1 with fail
 generalize (w.alloc (Obj.cells #[.int .i64 c.a, .string c.nm, .slice c.ps.ad c.ps.len c.ps.cap, .slice c.vs.ad c.vs.len c.vs.cap, .slice c.cs.ad c.cs.len c.cs.cap, .int .i64 c.re.k, .int .i64 c.re.a, .int .i64 c.re.n, .string c.re.nm, .slice c.re.args.ad c.re.args.len c.re.args.cap] 54)) = wa at *
 go_cut [15] from 9 (fun v W => v = .bool false ∧ W = wa)
 case first =>
  cases isMain
  · go_wp2_with fail
    go_meet
    case rel => exact ⟨by first | rfl | (rw [decide_eq_false (by omega)]), rfl⟩
  have hg := (uh HG) rfl
  go_wp2_with fail
  go_meet
  case rel => exact ⟨by first | rfl | (rw [decide_eq_false (by omega)]), rfl⟩
 case rest =>
  obtain ⟨rfl, hcw⟩ := hcut
  subst hcw
  go_wp2_with fail
  clear k2
  go_loopw [19] (fun iv wr => ∃ i : Nat, i ≤ c.ps.len ∧ iv = .int .i64 i ∧ (∀ j x, j < i → y.ps[j]? = some x → Zam x = true) ∧ Below wc.heap.size wc wr) (fun iv _ => c.ps.len - (intOf iv).toNat)
  case atStart => exact ⟨0, Nat.zero_le _, rfl, fun j y h => by omega, Zr⟩
  case round =>
   obtain ⟨i, hi, rfl, hall, hbe⟩ := hrel
   have hz := hbe.size
   have HAL := Hd hall
   have HBE := Hd hbe
   clear hall hbe
   by_cases hlt : i < c.ps.len
   · have hlt2 : i < y.ps.length := by have := uh HPL; omega
     have hy := Zg hlt2
     obtain ⟨b, o, q, had, hb, hlies, hrd, hrs⟩ := (uh HPS).at_ i _ hy
     generalize y.ps[i] = x at *
     subst hrd
     have p0 : wr.cell? ⟨b, o + i, none⟩ = some (.string q) := by
      have h1 : wc.cell? ⟨b, o + i * 1, none⟩ = some (.string q) := hlies
      rw [Nat.mul_one] at h1
      exact ((uh HBE).cell (p := ⟨b, o + i, none⟩) hb).trans h1
     have HY := Hd hy
     have HRS := Hd hrs
     clear hlies hy hrs
     have hi0 : (0 : Int) ≤ (i : Int) := by omega
     have hi1 : (i : Int) < (c.ps.len : Int) := by omega
     rw [had]
     go_wp2_with fail
     refine (Zev q wr (uh HRS)).mono ?_
     rintro r w3 ⟨rfl, hb3⟩
     have HB3 := Hd ((uh HBE).trans (hb3.mono hz))
     clear hb3
     cases hx : Zam q
     · obtain rfl : z = false := by
        rw [uh HZ, show y.ps.all Zam = false from List.all_eq_false.2 ⟨q, List.mem_of_getElem? (uh HY), by rw [hx]; decide⟩]
        rfl
       clear hx
       go_wp2_with fail
       go_ret
       exact ⟨rfl, (uh HB).trans ((uh HB3).mono (by omega))⟩
     have HX := Hd hx
     clear hx
     go_wp2_with fail
     refine ⟨⟨i + 1, by omega, by go_num, ?_, uh HB3⟩, by simp [intOf]; omega⟩
     intro j u hj hu
     by_cases e2 : j = i
     · subst e2
       have := uh HY
       rw [this] at hu
       cases hu
       exact uh HX
     exact (uh HAL) j u (by omega) hu
   have hf : y.ps.all Zam = true := by
    rw [List.all_eq_true]
    intro x hx
    obtain ⟨j, hj⟩ := List.getElem?_of_mem hx
    exact (uh HAL) j x (by have := (List.getElem?_eq_some_iff.1 hj).1; have := uh HPL; omega) hj
   rw [hf, Bool.true_and] at HZ
   obtain ⟨wo, hwo⟩ : ∃ wo, wo = wr := ⟨_, rfl⟩
   subst hwo
   have k3 : wo.cell? ⟨w.heap.size, 3, none⟩ = some (.slice c.vs.ad c.vs.len c.vs.cap) := ((uh HBE).cell (p := ⟨w.heap.size, 3, none⟩) (by show w.heap.size < _; omega)).trans ((uh HBX) 3 _ rfl)
   have HBO := Hd (uh HBE)
   clear hf HAL HBE
   go_wp2_with fail
   clear k3
   go_loopw [30] (fun iv wr => ∃ i : Nat, i ≤ c.vs.len ∧ iv = .int .i64 i ∧ (∀ j x, j < i → y.vs[j]? = some x → Za5 x = true) ∧ Below wo.heap.size wo wr) (fun iv _ => c.vs.len - (intOf iv).toNat)
   case atStart => exact ⟨0, Nat.zero_le _, rfl, fun j y h => by omega, Zr⟩
   case round =>
    obtain ⟨i2, hi2, rfl, hall, hbe⟩ := hrel
    have hz2 := hbe.size
    have HAL := Hd hall
    have HBE := Hd hbe
    have HBB := Hd ((uh HBO).trans (hbe.mono hz))
    clear hall hbe
    by_cases hlt2 : i2 < c.vs.len
    · have hlt3 : i2 < y.vs.length := by have := uh HVL; omega
      have hy := Zg hlt3
      obtain ⟨b, o, q, had, hb, ⟨hl0, hl1⟩, hrd, hrs⟩ := (uh HVS).at_ i2 _ hy
      generalize y.vs[i2] = x at *
      subst hrd
      obtain ⟨qn, qz⟩ := q
      have p0 : wr.cell? ⟨b, o + i2 * 2, none⟩ = some (.string qn) := ((uh HBB).cell (p := ⟨b, o + i2 * 2, none⟩) hb).trans hl0
      have p1 : wr.cell? ⟨b, o + i2 * 2 + 1, none⟩ = some (.int .i64 qz) := ((uh HBB).cell (p := ⟨b, o + i2 * 2 + 1, none⟩) hb).trans hl1
      have HY := Hd hy
      have HRS := Hd hrs
      have HFA := Hd (fun (h : Za5 (qn, qz) = false) => show y.vs.all Za5 = false from List.all_eq_false.2 ⟨(qn, qz), List.mem_of_getElem? hy, by rw [h]; decide⟩)
      clear hl0 hl1 hy hrs
      have hi0 : (0 : Int) ≤ (i2 : Int) := by omega
      have hi1 : (i2 : Int) < (c.vs.len : Int) := by omega
      have hbN := (Below.refl wr.heap.size wr).alloc Zl (Obj.cells #[.string qn, .int .i64 qz] 59)
      have hsN : (wr.alloc (Obj.cells #[.string qn, .int .i64 qz] 59)).heap.size = wr.heap.size + 1 := by simp
      have q1 : (wr.alloc (Obj.cells #[.string qn, .int .i64 qz] 59)).cell? ⟨wr.heap.size, 1, none⟩ = some (.int .i64 qz) := by go_simp
      have HQ1 := Hd q1
      have HBN := Hd ((uh HBE).trans (hbN.mono hz2))
      clear hbN q1
      rw [had]
      go_wp2_with fail
      generalize (wr.alloc (Obj.cells #[.string qn, .int .i64 qz] 59)) = wN at *
      refine (Zev qn wN (uh HRS)).mono ?_
      rintro r w3 ⟨rfl, hb3⟩
      have HB3 := Hd ((uh HBN).trans (hb3.mono (by omega)))
      have q1 : w3.cell? ⟨wr.heap.size, 1, none⟩ = some (.int .i64 qz) := (hb3.cell (p := ⟨wr.heap.size, 1, none⟩) (by show wr.heap.size < _; omega)).trans (uh HQ1)
      clear hb3 HQ1
      cases hx : Zam qn
      · have hvf := (uh HFA) (by unfold Za5; rw [hx]; rfl)
        obtain rfl : z = false := by rw [uh HZ, hvf]; rfl
        clear hx hvf
        go_wp2_with fail
        go_ret
        exact ⟨rfl, (uh HB).trans ((uh HBO).trans ((uh HB3).mono hz) |>.mono (by omega))⟩
      by_cases h0 : qz < 0
      · have hvf := (uh HFA) (by unfold Za5; rw [decide_eq_false (show ¬ 0 ≤ qz by omega)]; simp)
        obtain rfl : z = false := by rw [uh HZ, hvf]; rfl
        clear hx hvf
        go_wp2_with fail
        go_ret
        exact ⟨rfl, (uh HB).trans ((uh HBO).trans ((uh HB3).mono hz) |>.mono (by omega))⟩
      by_cases h9 : 9999999 < qz
      · have hvf := (uh HFA) (by unfold Za5; rw [decide_eq_false (show ¬ qz ≤ 9999999 by omega)]; simp)
        obtain rfl : z = false := by rw [uh HZ, hvf]; rfl
        clear hx hvf
        go_wp2_with fail
        go_ret
        exact ⟨rfl, (uh HB).trans ((uh HBO).trans ((uh HB3).mono hz) |>.mono (by omega))⟩
      have HX := Hd (show Za5 (qn, qz) = true by unfold Za5; rw [hx, decide_eq_true (show 0 ≤ qz by omega), decide_eq_true (show qz ≤ 9999999 by omega)]; rfl)
      clear hx
      go_wp2_with fail
      refine ⟨⟨i2 + 1, by omega, by go_num, ?_, uh HB3⟩, by simp [intOf]; omega⟩
      intro j u hj hu
      by_cases e2 : j = i2
      · subst e2
        have := uh HY
        rw [this] at hu
        cases hu
        exact uh HX
      exact (uh HAL) j u (by omega) hu
    have hf : y.vs.all Za5 = true := by
     rw [List.all_eq_true]
     intro x hx
     obtain ⟨j, hj⟩ := List.getElem?_of_mem hx
     exact (uh HAL) j x (by have := (List.getElem?_eq_some_iff.1 hj).1; have := uh HVL; omega) hj
    rw [hf, Bool.true_and] at HZ
    have HNF := Hd (ZbF c.nm (!isMain) wr (uh HNM).2)
    have HBW := Hd (show Below wc.heap.size wc wr from uh HBB)
    have HBXr := Hd ((uh HBX).below (uh HBW) (by omega))
    have k1 := (uh HBXr) 1 (.string c.nm) rfl
    have HBT := Hd ((uh HB).trans ((uh HBW).mono (by omega)))
    have hzt : w.heap.size < wr.heap.size := by omega
    clear hf HAL HBE HBO HBB
    generalize Zar c.nm (!isMain) = b1 at *
    have HCS2 := Hd (fun (W : World) (hb : Below w.heap.size w W) => show Calls Tryz.prog 105 #[.slice c.cs.ad c.cs.len c.cs.cap, .bool true] W fun r w' => r = .returned (.bool (y.cs.all (Zaf n))) ∧ Below W.heap.size W w' from ((uh HCS) W hb).mono (fun r w' h => ⟨by rw [h.1]; simp, h.2⟩))
    have HRE2 := Hd (fun (W : World) (hb : Below w.heap.size w W) => show Calls Tryz.prog 106 #[.agg #[.int .i64 c.re.k, .int .i64 c.re.a, .int .i64 c.re.n, .string c.re.nm, .slice c.re.args.ad c.re.args.len c.re.args.cap], .bool (!isMain)] W fun r w' => r = .returned (.bool (Zan m y.re (!isMain))) ∧ Below W.heap.size W w' from (uh HRE) W hb)
    generalize y.cs.all (Zaf n) = b2 at *
    generalize Zan m y.re (!isMain) = b3 at *
    clear HCS HRE
    go_wp2_with fail
    refine (uh HNF).mono ?_
    rintro r x1 ⟨rfl, hb⟩
    have hs1 := hb.size
    replace HBT := Hd ((uh HBT).trans (hb.mono (uh HBT).size))
    replace HBXr := Hd ((uh HBXr).below hb (by omega))
    clear hb k1
    cases b1
    · obtain rfl : z = false := by rw [uh HZ]; simp
      go_wp2_with fail
      go_ret
      exact ⟨rfl, uh HBT⟩
    have k4 := (uh HBXr) 4 (.slice c.cs.ad c.cs.len c.cs.cap) rfl
    go_wp2_with fail
    refine ((uh HCS2) x1 (uh HBT)).mono ?_
    rintro r x2 ⟨rfl, hb⟩
    have hs2 := hb.size
    replace HBT := Hd ((uh HBT).trans (hb.mono (uh HBT).size))
    replace HBXr := Hd ((uh HBXr).below hb (by omega))
    clear hb k4
    cases b2
    · obtain rfl : z = false := by rw [uh HZ]; simp
      go_wp2_with fail
      go_ret
      exact ⟨rfl, uh HBT⟩
    have k5 := (uh HBXr) 5 (.int .i64 c.re.k) rfl
    have k6 := (uh HBXr) 6 (.int .i64 c.re.a) rfl
    have k7 := (uh HBXr) 7 (.int .i64 c.re.n) rfl
    have k8 := (uh HBXr) 8 (.string c.re.nm) rfl
    have k9 := (uh HBXr) 9 (.slice c.re.args.ad c.re.args.len c.re.args.cap) rfl
    go_wp2_with fail
    refine ((uh HRE2) x2 (uh HBT)).mono ?_
    rintro r x3 ⟨rfl, hb⟩
    replace HBT := Hd ((uh HBT).trans (hb.mono (uh HBT).size))
    clear hb k5 k6 k7 k8 k9
    obtain rfl : z = b3 := by rw [uh HZ]; simp
    go_wp2_with fail
    go_ret
    exact ⟨rfl, uh HBT⟩
theorem Zfg {m n : Nat} (s : Tk.Sl) (l : List (Tk.FT m n)) (w : World) (hs : Tk.RT w m n s l) :
  Calls Tryz.prog 25 #[.agg #[.slice s.ad s.len s.cap]] w fun r w' => r = .returned (.bool (ZaC l && decide (0 < l.length))) ∧ Below w.heap.size w w' := by
 have hlen := hs.len
 have hfew := hs.few
 rw [← hlen] at hfew
 have hbA := (Below.refl w.heap.size w).alloc Zl (Obj.cells #[.slice s.ad s.len s.cap] 24)
 have HB := Hd hbA
 have HS := Hd (Tk.RT.later hs hbA Zl)
 have HLN := Hd hlen
 have hsa : (w.alloc (Obj.cells #[.slice s.ad s.len s.cap] 24)).heap.size = w.heap.size + 1 := by simp
 have HC0 := Hd (show (w.alloc (Obj.cells #[.slice s.ad s.len s.cap] 24)).cell? ⟨w.heap.size, 0, none⟩ = some (.slice s.ad s.len s.cap) by go_simp)
 clear hs hlen hbA
 go_enter Tryz.func25, Tryz.ntmps25
 go_wp2_with fail
 generalize (w.alloc (Obj.cells #[.slice s.ad s.len s.cap] 24)) = wa at *
 go_loopw [8] (fun iv wr => ∃ i : Nat, i ≤ s.len ∧ iv = .int .i64 i ∧ ZaC l = ZaC (l.drop i) ∧ Below wa.heap.size wa wr) (fun iv _ => s.len - (intOf iv).toNat)
 case atStart => exact ⟨0, Nat.zero_le _, rfl, rfl, Zr⟩
 case round =>
  obtain ⟨i, hi, rfl, hl, hbe⟩ := hrel
  have hz := hbe.size
  have HBE := Hd hbe
  by_cases hlt : i < s.len
  · have hlt2 : i < l.length := by have := uh HLN; omega
    have hy := Zg hlt2
    obtain ⟨b, o, q, had, hb, hlies, hrd⟩ := (uh HS).at_ i _ hy
    generalize l[i] = y at *
    have hdr := ZcQ hy
    rw [hdr] at hl
    have hl2 : ZaC l = (ZaR y (l.drop (i + 1)).isEmpty && ZaC (l.drop (i + 1))) := hl
    have hem : (l.drop (i + 1)).isEmpty = ((i : Int) == (s.len : Int) - 1) := by
     rw [Bool.eq_iff_iff, List.isEmpty_iff, List.drop_eq_nil_iff, beq_iff_eq]
     have := uh HLN
     omega
    rw [hem] at hl2
    have HL := Hd hl2
    have hcell : ∀ j v, q.cells[j]? = some v → wr.cell? ⟨b, o + i * 10 + j, none⟩ = some v := (hlies.later (uh HBE) Zl hb).cells
    have hi0 : (0 : Int) ≤ (i : Int) := by omega
    have hi1 : (i : Int) < (s.len : Int) := by omega
    have hbN := (Below.refl wr.heap.size wr).alloc Zl (Obj.cells q.cells 54)
    have HRD := Hd ((hrd.later (uh HBE) Zl).later hbN Zl)
    have HBN := Hd ((uh HBE).trans (hbN.mono (by omega)))
    have HBX := Hd (ZcB wr q)
    have hsN : (wr.alloc (Obj.cells q.cells 54)).heap.size = wr.heap.size + 1 := by simp
    have hone := Tk.F.one q
    clear hlies hrd hy hdr hl hl2 hem hbe hbN
    have hc0 : wr.cell? ⟨w.heap.size, 0, none⟩ = some (.slice s.ad s.len s.cap) := ((uh HBE).cell (p := ⟨w.heap.size, 0, none⟩) (by show w.heap.size < _; omega)).trans (uh HC0)
    have k0 : wr.cell? ⟨b, o + i * 10, none⟩ = some (.int .i64 q.a) := hcell 0 _ rfl
    have k1 : wr.cell? ⟨b, o + i * 10 + 1, none⟩ = some (.string q.nm) := hcell 1 _ rfl
    have k2 : wr.cell? ⟨b, o + i * 10 + 2, none⟩ = some (.slice q.ps.ad q.ps.len q.ps.cap) := hcell 2 _ rfl
    have k3 : wr.cell? ⟨b, o + i * 10 + 3, none⟩ = some (.slice q.vs.ad q.vs.len q.vs.cap) := hcell 3 _ rfl
    have k4 : wr.cell? ⟨b, o + i * 10 + 4, none⟩ = some (.slice q.cs.ad q.cs.len q.cs.cap) := hcell 4 _ rfl
    have k5 : wr.cell? ⟨b, o + i * 10 + 5, none⟩ = some (.int .i64 q.re.k) := hcell 5 _ rfl
    have k6 : wr.cell? ⟨b, o + i * 10 + 6, none⟩ = some (.int .i64 q.re.a) := hcell 6 _ rfl
    have k7 : wr.cell? ⟨b, o + i * 10 + 7, none⟩ = some (.int .i64 q.re.n) := hcell 7 _ rfl
    have k8 : wr.cell? ⟨b, o + i * 10 + 8, none⟩ = some (.string q.re.nm) := hcell 8 _ rfl
    have k9 : wr.cell? ⟨b, o + i * 10 + 9, none⟩ = some (.slice q.re.args.ad q.re.args.len q.re.args.cap) := hcell 9 _ rfl
    have hw1 : IntKind.i64.wrap ((s.len : Int) - 1) = (s.len : Int) - 1 := by rw [IntKind.wrap_i64]; omega
    clear hcell hone
    rw [had]
    rw [had] at hc0
    have hcN : (wr.alloc (Obj.cells q.cells 54)).cell? ⟨w.heap.size, 0, none⟩ = some (.slice (some ⟨b, o, none⟩) s.len s.cap) := by
     have hbN := (Below.refl wr.heap.size wr).alloc Zl (Obj.cells q.cells 54)
     exact (hbN.cell (p := ⟨w.heap.size, 0, none⟩) (by show w.heap.size < _; omega)).trans hc0
    have hBV := ZcB wr q
    have m0 := hBV 0 (.int .i64 q.a) rfl
    have m1 := hBV 1 (.string q.nm) rfl
    have m2 := hBV 2 (.slice q.ps.ad q.ps.len q.ps.cap) rfl
    have m3 := hBV 3 (.slice q.vs.ad q.vs.len q.vs.cap) rfl
    have m4 := hBV 4 (.slice q.cs.ad q.cs.len q.cs.cap) rfl
    have m5 := hBV 5 (.int .i64 q.re.k) rfl
    have m6 := hBV 6 (.int .i64 q.re.a) rfl
    have m7 := hBV 7 (.int .i64 q.re.n) rfl
    have m8 := hBV 8 (.string q.re.nm) rfl
    have m9 := hBV 9 (.slice q.re.args.ad q.re.args.len q.re.args.cap) rfl
    unfold Tk.F.cells at hcN HRD HBN hsN m0 m1 m2 m3 m4 m5 m6 m7 m8 m9
    clear hBV
    go_wp2_with fail
    clear k0 k1 k2 k3 k4 k5 k6 k7 k8 k9 hc0
    have HTL := Hd (Zj5 q y ((i : Int) == (s.len : Int) - 1) _ (uh HRD))
    unfold Tk.F.val at HTL
    refine (uh HTL).mono ?_
    rintro r w3 ⟨rfl, hb3⟩
    have HB3 := Hd ((uh HBN).trans (hb3.mono (by have := (uh HBN).size; omega)))
    clear hb3 HTL hcN m0 m1 m2 m3 m4 m5 m6 m7 m8 m9
    cases hx : ZaR y ((i : Int) == (s.len : Int) - 1)
    · have hfin : Hid (ZaC l = false) := by
       show _ = _
       rw [uh HL, hx]; rfl
      clear hx
      go_wp2_with fail
      go_ret
      exact ⟨Zaj (by rw [uh hfin]; rfl), (uh HB).trans ((uh HB3).mono (by omega))⟩
    have HL3 := Hd (show ZaC l = ZaC (l.drop (i + 1)) by rw [uh HL, hx]; rfl)
    clear hx
    go_wp2_with fail
    exact ⟨⟨i + 1, by omega, by go_num, uh HL3, uh HB3⟩, by simp [intOf]; omega⟩
  have hfin : Hid (ZaC l = true) := by
   show _ = _
   rw [hl, List.drop_eq_nil_of_le (by have := uh HLN; omega)]; rfl
  have hc0 : wr.cell? ⟨w.heap.size, 0, none⟩ = some (.slice s.ad s.len s.cap) := ((uh HBE).cell (p := ⟨w.heap.size, 0, none⟩) (by show w.heap.size < _; omega)).trans (uh HC0)
  have hq : Hid (decide (0 < l.length) = decide ((0 : Int) < (s.len : Int))) := by
   show _ = _
   rw [decide_eq_decide]; have := uh HLN; omega
  clear hl hbe
  go_wp2_with fail
  go_ret
  exact ⟨Zaj (by rw [uh hfin, uh hq]; simp), (uh HB).trans ((uh HBE).mono (by omega))⟩
theorem ZcW {m n : Nat} (s : Tk.Sl) (l : List (Tk.FT m n)) (w : World) (hs : Tk.RT w m n s l) :
  Calls Tryz.prog 10 #[.agg #[.slice s.ad s.len s.cap]] w fun r w' => r = .returned (.int .i64 ((Zay l : Nat) : Int)) ∧ Below w.heap.size w w' := by
 have hbA := (Below.refl w.heap.size w).alloc Zl (Obj.cells #[.slice s.ad s.len s.cap] 24)
 have HB := Hd hbA
 have HS := Hd (Tk.RT.later hs hbA Zl)
 have hsa : (w.alloc (Obj.cells #[.slice s.ad s.len s.cap] 24)).heap.size = w.heap.size + 1 := by simp
 have HC0 := Hd (show (w.alloc (Obj.cells #[.slice s.ad s.len s.cap] 24)).cell? ⟨w.heap.size, 0, none⟩ = some (.slice s.ad s.len s.cap) by go_simp)
 have HZ := Hd (show Zay l = (if Zcs l = true then 2 else if (ZaC l && decide (0 < l.length)) = true then 0 else 1) from rfl)
 generalize Zay l = z at *
 clear hs hbA
 go_enter Tryz.func10, Tryz.ntmps10
 go_wp2_with fail
 generalize (w.alloc (Obj.cells #[.slice s.ad s.len s.cap] 24)) = wa at *
 refine (Zhm s l wa (uh HS)).mono ?_
 rintro r w1 ⟨rfl, hb1⟩
 replace HB := Hd ((uh HB).trans (hb1.mono (by omega)))
 replace HS := Hd (Tk.RT.later (uh HS) hb1 Zl)
 have hc1 := (hb1.cell (p := ⟨w.heap.size, 0, none⟩) (by show w.heap.size < _; omega)).trans (uh HC0)
 clear hb1 HC0
 cases hx : Zcs l
 · have HZ2 := Hd (show z = (if (ZaC l && decide (0 < l.length)) = true then 0 else 1) by rw [uh HZ, hx]; rfl)
   clear hx HZ
   go_wp2_with fail
   refine (Zfg s l w1 (uh HS)).mono ?_
   rintro r w2 ⟨rfl, hb2⟩
   replace HB := Hd ((uh HB).trans (hb2.mono (uh HB).size))
   clear hb2 hc1
   generalize (ZaC l && decide (0 < l.length)) = b at *
   cases b
   · obtain rfl : z = 1 := by rw [uh HZ2]; rfl
     go_wp2_with fail
     go_ret
     exact ⟨rfl, uh HB⟩
   obtain rfl : z = 0 := by rw [uh HZ2]; rfl
   go_wp2_with fail
   go_ret
   exact ⟨rfl, uh HB⟩
 obtain rfl : z = 2 := by rw [uh HZ, hx]; rfl
 clear hx hc1
 go_wp2_with fail
 go_ret
 exact ⟨rfl, uh HB⟩
theorem Zjf : Tryz.prog.stoodInHeld 59 = false := by kernel_rfl
theorem ZjY : Tryz.prog.underlying 59 = some (.struct (Tryz.prog.fieldsOf 59)) := by kernel_rfl
theorem Zkl : ((Tryz.prog.fieldsOf 59).toList.map fun f => (f.name == "_", f.type, f.offset)) = [(false, 9, 0), (false, 3, 1)] := by kernel_rfl
theorem Zkf {l : List Field} {t u : TypeId} (h : (l.map fun f => (f.name == "_", f.type, f.offset)) = [(false, t, 0), (false, u, 1)]) : ∃ f g : Field, l = [f, g] ∧ ((f.name == "_") = false ∧ f.type = t ∧ f.offset = 0) ∧ ((g.name == "_") = false ∧ g.type = u ∧ g.offset = 1) := by
 have hl := congrArg List.length h
 rw [List.length_map] at hl
 obtain ⟨f, g, rfl⟩ : ∃ f g, l = [f, g] := by
  cases l with
  | nil => cases hl
  | cons f r =>
   cases r with
   | nil => cases hl
   | cons g q =>
    cases q with
    | nil => exact ⟨f, g, rfl⟩
    | cons _ _ => simp at hl
 simp only [List.map_cons, List.map_nil, List.cons.injEq, Prod.mk.injEq, and_true] at h
 exact ⟨f, g, rfl, h.1, h.2⟩
theorem ZgN (a b : ByteArray) (x y : Int) (W : World) : (binOp .neq 59 (.agg #[.string a, .int .i64 x]) (.agg #[.string b, .int .i64 y])).run Tryz.prog W = .ok (.bool (!((a.toList == b.toList) && (x == y)))) W := by
 obtain ⟨f, g, h2, ⟨f1, f2, f3⟩, ⟨g1, g2, g3⟩⟩ := Zkf Zkl
 rw [run_neq_struct, run_equalIn_agg (P := Tryz.prog) W 9999 59 _ _ ZjY Zjf, h2]
 have e1 := fun W => run_equalIn_string (P := Tryz.prog) W 9998 9 a b Tryz.underlying9
 have e2 := fun W => run_equalIn_int (P := Tryz.prog) W 9998 3 .i64 .i64 x y Tryz.underlying3
 have n1 : f.name ≠ "_" := by simpa using f1
 have n2 : g.name ≠ "_" := by simpa using g1
 have p1 : ∀ W, (part 9 #[.string a, .int .i64 x] 0).run Tryz.prog W = .ok (.string a) W := fun W => by simp [part, isAgg, run_underlying Tryz.underlying9]
 have p2 : ∀ W, (part 9 #[.string b, .int .i64 y] 0).run Tryz.prog W = .ok (.string b) W := fun W => by simp [part, isAgg, run_underlying Tryz.underlying9]
 have p3 : ∀ W, (part 3 #[.string a, .int .i64 x] 1).run Tryz.prog W = .ok (.int .i64 x) W := fun W => by simp [part, isAgg, run_underlying Tryz.underlying3]
 have p4 : ∀ W, (part 3 #[.string b, .int .i64 y] 1).run Tryz.prog W = .ok (.int .i64 y) W := fun W => by simp [part, isAgg, run_underlying Tryz.underlying3]
 simp only [Op.eqFields, n1, n2, f2, f3, g2, g3, ne_eq, not_false_eq_true, if_true, Sem.run_bind, p1, p2, Result.andThen_ok, e1]
 cases a.toList == b.toList
 · simp
 simp only [Bool.not_true, Zb, if_false, Sem.run_bind, p3, p4, Result.andThen_ok, e2]
 cases x == y <;> simp
def Zaw {m n m' n' : Nat} (x : Tk.FT m n) (y : Tk.FT m' n') : Bool := (x.nm.toList == y.nm.toList) && (x.ps.length == y.ps.length) && (x.vs.length == y.vs.length) && Zaa (Zas n n') x.cs y.cs && Zai m m' x.re y.re && Zaa (fun a b : ByteArray => a.toList == b.toList) x.ps y.ps && Zaa (fun a b : ByteArray × Int => (a.1.toList == b.1.toList) && (a.2 == b.2)) x.vs y.vs
end Go.Proofs.YtfccpddehpgfoaaGreatDoor
