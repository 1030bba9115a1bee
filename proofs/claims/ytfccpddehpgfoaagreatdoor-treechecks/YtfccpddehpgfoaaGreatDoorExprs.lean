/-
  Which expressions are of their form: isExpr, argsFit, numberFits, exprFits (package tree). By the verifier.
-/
import Derived.Test.YtfccpddehpgfoaaGreatDoorUD
set_option maxHeartbeats 1600000
namespace Go.Proofs.YtfccpddehpgfoaaGreatDoor
open Go.RowKit
set_option linter.unusedVariables false
def Tk.argsOf (k : Int) : Nat := if k = 3 then 1 else if 4 ≤ k ∧ k ≤ 10 then 2 else 0
def Tk.numB (k m : Int) : Bool := if k == 1 then decide (-9999999 ≤ m ∧ m ≤ 9999999) else m == 0
def Tk.coreB (k m : Int) (nm : ByteArray) (len : Nat) (all : Bool) : Bool :=
 decide (1 ≤ k ∧ k ≤ 10) && decide (len = Tk.argsOf k) && Tk.fitsB nm (k == 2 || k == 3) && all && Tk.numB k m
def Tk.exprB : (n : Nat) → Tk.ET n → Bool
 | 0, _ => false
 | n + 1, x => Tk.coreB x.1.1 x.1.2.2.1 x.1.2.2.2 x.2.length (x.2.all (Tk.exprB n))
def Tk.noneB (k m : Int) (nm : ByteArray) (len : Nat) : Bool := k == 0 && m == 0 && nm.toList.isEmpty && len == 0
theorem Tk.boxed {w w1 : World} {e : Tk.E} (hb : Below (w.heap.size + 1) (w.alloc (.cells #[.int .i64 e.k, .int .i64 e.a, .int .i64 e.n, .string e.nm, .slice e.args.ad e.args.len e.args.cap] 52)) w1) :
  w1.cell? ⟨w.heap.size, 0, none⟩ = some (.int .i64 e.k) ∧ w1.cell? ⟨w.heap.size, 1, none⟩ = some (.int .i64 e.a) ∧ w1.cell? ⟨w.heap.size, 2, none⟩ = some (.int .i64 e.n) ∧
  w1.cell? ⟨w.heap.size, 3, none⟩ = some (.string e.nm) ∧ w1.cell? ⟨w.heap.size, 4, none⟩ = some (.slice e.args.ad e.args.len e.args.cap) := by
 have h : ∀ j, w1.cell? ⟨w.heap.size, j, none⟩ = (w.alloc (.cells #[.int .i64 e.k, .int .i64 e.a, .int .i64 e.n, .string e.nm, .slice e.args.ad e.args.len e.args.cap] 52)).cell? ⟨w.heap.size, j, none⟩ := fun j => hb.cell (p := ⟨w.heap.size, j, none⟩) (by show w.heap.size < _; omega)
 exact ⟨(h 0).trans (by simp), (h 1).trans (by simp), (h 2).trans (by simp), (h 3).trans (by simp), (h 4).trans (by simp)⟩
theorem numberFits_any (e : Tk.E) (w : World) : Calls Tryz.prog 181 #[e.val] w fun r w' => r = .returned (.bool (Tk.numB e.k e.n)) ∧ Below w.heap.size w w' := by
 unfold Tk.E.val
 cases h1 : (e.k == 1)
 · have hn : Tk.numB e.k e.n = (e.n == 0) := by unfold Tk.numB; rw [h1]; rfl
   rw [hn]
   have g : (e.k != 1) = true := by rw [bne, h1]; rfl
   clear hn h1
   go_enter Tryz.func181, Tryz.ntmps181
   go_wp2_with fail
   go_ret
   exact ⟨rfl, (Below.refl _ _).alloc (Nat.le_refl _) _⟩
 · have hn : Tk.numB e.k e.n = decide (-9999999 ≤ e.n ∧ e.n ≤ 9999999) := by unfold Tk.numB; rw [h1]; rfl
   rw [hn]
   have g : (e.k != 1) = false := by rw [bne, h1]; rfl
   have HN := hide hn
   clear hn h1
   by_cases g1 : -9999999 ≤ e.n
   · by_cases g2 : e.n ≤ 9999999
     · have hd : decide (-9999999 ≤ e.n ∧ e.n ≤ 9999999) = true := decide_eq_true ⟨g1, g2⟩
       rw [hd]
       clear hd
       go_enter Tryz.func181, Tryz.ntmps181
       go_wp2_with fail
       go_ret
       exact ⟨ret_bool (by first | rfl | (simp; omega)), (Below.refl _ _).alloc (Nat.le_refl _) _⟩
     · have hd : decide (-9999999 ≤ e.n ∧ e.n ≤ 9999999) = false := decide_eq_false (by omega)
       rw [hd]
       clear hd
       go_enter Tryz.func181, Tryz.ntmps181
       go_wp2_with fail
       go_ret
       exact ⟨ret_bool (by first | rfl | (simp; omega)), (Below.refl _ _).alloc (Nat.le_refl _) _⟩
   · have hd : decide (-9999999 ≤ e.n ∧ e.n ≤ 9999999) = false := decide_eq_false (by omega)
     rw [hd]
     clear hd
     go_enter Tryz.func181, Tryz.ntmps181
     go_wp2_with fail
     go_ret
     exact ⟨ret_bool (by first | rfl | (simp; omega)), (Below.refl _ _).alloc (Nat.le_refl _) _⟩
theorem argsFit_of (n : Nat) (ih : ∀ (e : Tk.E) (x : Tk.ET n) (w : World), Tk.RE w n e x → Calls Tryz.prog 146 #[e.val] w fun r w' => r = .returned (.bool (Tk.exprB n x)) ∧ Below w.heap.size w w')
  (s : Tk.Sl) (l : List (Tk.ET n)) (named : Bool) (w : World) (hs : Tk.RS w 5 (Tk.ELies w) (Tk.RE w n) s l) :
  Calls Tryz.prog 180 #[.slice s.ad s.len s.cap, .bool named] w fun r w' => r = .returned (.bool (l.all (Tk.exprB n) && (named || decide (l.length = 0)))) ∧ Below w.heap.size w w' := by
 have hlen := hs.len
 have hfew := hs.few
 rw [← hlen] at hfew
 have HS := hide hs
 have HLN := hide hlen
 have IH := hide ih
 clear hs hlen ih
 go_enter Tryz.func180, Tryz.ntmps180
 go_wp2_with fail
 go_loopw [9] (fun iv wr => ∃ i : Nat, i ≤ s.len ∧ iv = .int .i64 i ∧ (∀ j y, j < i → l[j]? = some y → Tk.exprB n y = true) ∧ Below w.heap.size w wr) (fun iv _ => s.len - (intOf iv).toNat)
 case atStart => exact ⟨0, Nat.zero_le _, rfl, fun j y h => by omega, Below.refl _ _⟩
 case round =>
  obtain ⟨i, hi, rfl, hall, hbe⟩ := hrel
  have hz := hbe.size
  have HAL := hide hall
  have HBE := hide hbe
  clear hall hbe
  by_cases hlt : i < s.len
  · have hlt2 : i < l.length := by have := unhide HLN; omega
    have hy := List.getElem?_eq_getElem hlt2
    obtain ⟨b, o, c, had, hb, hlies, hrd⟩ := (unhide HS).at_ i _ hy
    generalize l[i] = y at *
    obtain ⟨p0, p1, p2, p3, p4⟩ := hlies.later (unhide HBE) (Nat.le_refl _) hb
    have HRD := hide (hrd.later (unhide HBE) (Nat.le_refl _))
    have HY := hide hy
    clear hlies hrd hy
    have hi0 : (0 : Int) ≤ (i : Int) := by omega
    have hi1 : (i : Int) < (s.len : Int) := by omega
    rw [had]
    go_wp2_with fail
    refine ((unhide IH) c y _ ((unhide HRD).later ((Below.refl _ _).alloc (Nat.le_refl _) _) (Nat.le_refl _))).mono ?_
    rintro r w1 ⟨rfl, hb1⟩
    have HB1 := hide (((unhide HBE).alloc hz _).trans (hb1.mono (by simp; omega)))
    clear hb1
    cases hx : Tk.exprB n y
    · have hf : Hid (l.all (Tk.exprB n) = false) := by
       show _ = _
       rw [List.all_eq_false]; exact ⟨y, List.mem_of_getElem? (unhide HY), by rw [hx]; decide⟩
      clear hx
      go_wp2_with fail
      go_ret
      exact ⟨ret_bool (by rw [unhide hf]; rfl), unhide HB1⟩
    · have HX := hide hx
      clear hx
      go_wp2_with fail
      refine ⟨⟨i + 1, by omega, by go_num, ?_, unhide HB1⟩, by simp [intOf]; omega⟩
      intro j u hj hu
      by_cases e2 : j = i
      · subst e2
        have := unhide HY
        rw [this] at hu
        cases hu
        exact unhide HX
      · exact (unhide HAL) j u (by omega) hu
  · have hf : Hid (l.all (Tk.exprB n) = true) := by
     show _ = _
     rw [List.all_eq_true]
     intro y hy
     obtain ⟨j, hj⟩ := List.getElem?_of_mem hy
     exact (unhide HAL) j y (by have := (List.getElem?_eq_some_iff.1 hj).1; have := unhide HLN; omega) hj
    cases named
    · have hq : Hid (decide (l.length = 0) = ((s.len : Int) == 0)) := by
       show _ = _
       rw [Bool.eq_iff_iff, decide_eq_true_eq, beq_iff_eq]; have := unhide HLN; omega
      go_wp2_with fail
      go_ret
      exact ⟨ret_bool (by rw [unhide hf, unhide hq]; simp), unhide HBE⟩
    · go_wp2_with fail
      go_ret
      exact ⟨ret_bool (by rw [unhide hf]; rfl), unhide HBE⟩
theorem isExpr_one (n : Nat) (ih : ∀ (e : Tk.E) (x : Tk.ET n) (w : World), Tk.RE w n e x → Calls Tryz.prog 146 #[e.val] w fun r w' => r = .returned (.bool (Tk.exprB n x)) ∧ Below w.heap.size w w')
  (e : Tk.E) (l : List (Tk.ET n)) (w : World) (hnm : e.nm.size ≤ maxLen) (hs : Tk.RS w 5 (Tk.ELies w) (Tk.RE w n) e.args l) (c1 : (e.k == 1) = true) :
  Calls Tryz.prog 146 #[e.val] w fun r w' => r = .returned (.bool (decide (l.length = 0) && Tk.fitsB e.nm false && l.all (Tk.exprB n) && Tk.numB e.k e.n)) ∧ Below w.heap.size w w' := by
 have hlen := hs.len
 have HS := hide (hs.laterE (w' := w.alloc (.cells #[.int .i64 e.k, .int .i64 e.a, .int .i64 e.n, .string e.nm, .slice e.args.ad e.args.len e.args.cap] 52)) ((Below.refl _ _).alloc (Nat.le_refl _) _) (Nat.le_refl _))
 have HLN := hide hlen
 have IH := hide ih
 have HNM := hide hnm
 clear hs hlen ih hnm
 unfold Tk.E.val
 by_cases hl : e.args.len = 0
 · have hd : Hid (decide (l.length = 0) = true) := decide_eq_true (by have := unhide HLN; omega)
   have g : ((e.args.len : Int) == 0) = true := by rw [beq_iff_eq]; omega
   clear hl
   go_enter Tryz.func146, Tryz.ntmps146
   go_wp2_with fail
   refine (nameFits_any e.nm false _ (unhide HNM)).mono ?_
   rintro r w1 ⟨rfl, hb1⟩
   have hb1' : Below (w.heap.size + 1) (w.alloc (.cells #[.int .i64 e.k, .int .i64 e.a, .int .i64 e.n, .string e.nm, .slice e.args.ad e.args.len e.args.cap] 52)) w1 := hb1.mono (by simp)
   obtain ⟨q0, q1, q2, q3, q4⟩ := Tk.boxed hb1'
   have hz1 := hb1.size
   simp at hz1
   have HS1 := hide ((unhide HS).laterE hb1 (Nat.le_refl _))
   have HB1 := hide hb1'
   clear hb1 hb1'
   cases hf : Tk.fitsB e.nm false
   · have HF := hide hf
     clear hf
     go_wp2_with fail
     go_ret
     exact ⟨ret_bool (by rw [unhide hd, unhide HF]; simp), ((Below.refl _ _).alloc (Nat.le_refl _) _).trans ((unhide HB1).mono (by omega))⟩
   · have HF := hide hf
     clear hf
     go_wp2_with fail
     refine (argsFit_of n (unhide IH) e.args l true _ (unhide HS1)).mono ?_
     rintro r w2 ⟨rfl, hb2⟩
     have hz2 := hb2.size
     have hb2' := (unhide HB1).trans (hb2.mono hz1)
     obtain ⟨r0, r1, r2, r3, r4⟩ := Tk.boxed hb2'
     have HB2 := hide hb2'
     clear hb2 hb2' q0 q1 q2 q3 q4
     rw [show (l.all (Tk.exprB n) && (true || decide (l.length = 0))) = l.all (Tk.exprB n) from by simp]
     cases ha : l.all (Tk.exprB n)
     · have HA := hide ha
       clear ha
       go_wp2_with fail
       go_ret
       exact ⟨ret_bool (by rw [unhide hd, unhide HF, unhide HA]; simp), ((Below.refl _ _).alloc (Nat.le_refl _) _).trans ((unhide HB2).mono (by omega))⟩
     · have HA := hide ha
       clear ha
       go_wp2_with fail
       refine (numberFits_any e _).mono ?_
       rintro r w3 ⟨rfl, hb3⟩
       have HB3 := hide ((unhide HB2).trans (hb3.mono (by omega)))
       clear hb3
       go_wp2_with fail
       go_ret
       exact ⟨ret_bool (by rw [unhide hd, unhide HF, unhide HA]; simp), ((Below.refl _ _).alloc (Nat.le_refl _) _).trans ((unhide HB3).mono (by omega))⟩
 · have hd : Hid (decide (l.length = 0) = false) := decide_eq_false (by have := unhide HLN; omega)
   have g : ((e.args.len : Int) == 0) = false := by rw [beq_eq_false_iff_ne]; omega
   clear hl
   go_enter Tryz.func146, Tryz.ntmps146
   go_wp2_with fail
   go_ret
   exact ⟨ret_bool (by rw [unhide hd]; simp), (Below.refl _ _).alloc (Nat.le_refl _) _⟩
theorem isExpr_two (n : Nat) (ih : ∀ (e : Tk.E) (x : Tk.ET n) (w : World), Tk.RE w n e x → Calls Tryz.prog 146 #[e.val] w fun r w' => r = .returned (.bool (Tk.exprB n x)) ∧ Below w.heap.size w w')
  (e : Tk.E) (l : List (Tk.ET n)) (w : World) (hnm : e.nm.size ≤ maxLen) (hs : Tk.RS w 5 (Tk.ELies w) (Tk.RE w n) e.args l) (c1 : (e.k == 1) = false) (c2 : (e.k == 2) = true) :
  Calls Tryz.prog 146 #[e.val] w fun r w' => r = .returned (.bool (decide (l.length = 0) && Tk.fitsB e.nm true && l.all (Tk.exprB n) && Tk.numB e.k e.n)) ∧ Below w.heap.size w w' := by
 have hlen := hs.len
 have HS := hide (hs.laterE (w' := w.alloc (.cells #[.int .i64 e.k, .int .i64 e.a, .int .i64 e.n, .string e.nm, .slice e.args.ad e.args.len e.args.cap] 52)) ((Below.refl _ _).alloc (Nat.le_refl _) _) (Nat.le_refl _))
 have HLN := hide hlen
 have IH := hide ih
 have HNM := hide hnm
 clear hs hlen ih hnm
 unfold Tk.E.val
 by_cases hl : e.args.len = 0
 · have hd : Hid (decide (l.length = 0) = true) := decide_eq_true (by have := unhide HLN; omega)
   have g : ((e.args.len : Int) == 0) = true := by rw [beq_iff_eq]; omega
   clear hl
   go_enter Tryz.func146, Tryz.ntmps146
   go_wp2_with fail
   refine (nameFits_any e.nm true _ (unhide HNM)).mono ?_
   rintro r w1 ⟨rfl, hb1⟩
   have hb1' : Below (w.heap.size + 1) (w.alloc (.cells #[.int .i64 e.k, .int .i64 e.a, .int .i64 e.n, .string e.nm, .slice e.args.ad e.args.len e.args.cap] 52)) w1 := hb1.mono (by simp)
   obtain ⟨q0, q1, q2, q3, q4⟩ := Tk.boxed hb1'
   have hz1 := hb1.size
   simp at hz1
   have HS1 := hide ((unhide HS).laterE hb1 (Nat.le_refl _))
   have HB1 := hide hb1'
   clear hb1 hb1'
   cases hf : Tk.fitsB e.nm true
   · have HF := hide hf
     clear hf
     go_wp2_with fail
     go_ret
     exact ⟨ret_bool (by rw [unhide hd, unhide HF]; simp), ((Below.refl _ _).alloc (Nat.le_refl _) _).trans ((unhide HB1).mono (by omega))⟩
   · have HF := hide hf
     clear hf
     go_wp2_with fail
     refine (argsFit_of n (unhide IH) e.args l true _ (unhide HS1)).mono ?_
     rintro r w2 ⟨rfl, hb2⟩
     have hz2 := hb2.size
     have hb2' := (unhide HB1).trans (hb2.mono hz1)
     obtain ⟨r0, r1, r2, r3, r4⟩ := Tk.boxed hb2'
     have HB2 := hide hb2'
     clear hb2 hb2' q0 q1 q2 q3 q4
     rw [show (l.all (Tk.exprB n) && (true || decide (l.length = 0))) = l.all (Tk.exprB n) from by simp]
     cases ha : l.all (Tk.exprB n)
     · have HA := hide ha
       clear ha
       go_wp2_with fail
       go_ret
       exact ⟨ret_bool (by rw [unhide hd, unhide HF, unhide HA]; simp), ((Below.refl _ _).alloc (Nat.le_refl _) _).trans ((unhide HB2).mono (by omega))⟩
     · have HA := hide ha
       clear ha
       go_wp2_with fail
       refine (numberFits_any e _).mono ?_
       rintro r w3 ⟨rfl, hb3⟩
       have HB3 := hide ((unhide HB2).trans (hb3.mono (by omega)))
       clear hb3
       go_wp2_with fail
       go_ret
       exact ⟨ret_bool (by rw [unhide hd, unhide HF, unhide HA]; simp), ((Below.refl _ _).alloc (Nat.le_refl _) _).trans ((unhide HB3).mono (by omega))⟩
 · have hd : Hid (decide (l.length = 0) = false) := decide_eq_false (by have := unhide HLN; omega)
   have g : ((e.args.len : Int) == 0) = false := by rw [beq_eq_false_iff_ne]; omega
   clear hl
   go_enter Tryz.func146, Tryz.ntmps146
   go_wp2_with fail
   go_ret
   exact ⟨ret_bool (by rw [unhide hd]; simp), (Below.refl _ _).alloc (Nat.le_refl _) _⟩
theorem isExpr_three (n : Nat) (ih : ∀ (e : Tk.E) (x : Tk.ET n) (w : World), Tk.RE w n e x → Calls Tryz.prog 146 #[e.val] w fun r w' => r = .returned (.bool (Tk.exprB n x)) ∧ Below w.heap.size w w')
  (e : Tk.E) (l : List (Tk.ET n)) (w : World) (hnm : e.nm.size ≤ maxLen) (hs : Tk.RS w 5 (Tk.ELies w) (Tk.RE w n) e.args l) (c1 : (e.k == 1) = false) (c2 : (e.k == 2) = false) (c3 : (e.k == 3) = true) :
  Calls Tryz.prog 146 #[e.val] w fun r w' => r = .returned (.bool (decide (l.length = 1) && Tk.fitsB e.nm true && l.all (Tk.exprB n) && Tk.numB e.k e.n)) ∧ Below w.heap.size w w' := by
 have hlen := hs.len
 have HS := hide (hs.laterE (w' := w.alloc (.cells #[.int .i64 e.k, .int .i64 e.a, .int .i64 e.n, .string e.nm, .slice e.args.ad e.args.len e.args.cap] 52)) ((Below.refl _ _).alloc (Nat.le_refl _) _) (Nat.le_refl _))
 have HLN := hide hlen
 have IH := hide ih
 have HNM := hide hnm
 clear hs hlen ih hnm
 unfold Tk.E.val
 by_cases hl : e.args.len = 1
 · have hd : Hid (decide (l.length = 1) = true) := decide_eq_true (by have := unhide HLN; omega)
   have g : ((e.args.len : Int) == 1) = true := by rw [beq_iff_eq]; omega
   clear hl
   go_enter Tryz.func146, Tryz.ntmps146
   go_wp2_with fail
   refine (nameFits_any e.nm true _ (unhide HNM)).mono ?_
   rintro r w1 ⟨rfl, hb1⟩
   have hb1' : Below (w.heap.size + 1) (w.alloc (.cells #[.int .i64 e.k, .int .i64 e.a, .int .i64 e.n, .string e.nm, .slice e.args.ad e.args.len e.args.cap] 52)) w1 := hb1.mono (by simp)
   obtain ⟨q0, q1, q2, q3, q4⟩ := Tk.boxed hb1'
   have hz1 := hb1.size
   simp at hz1
   have HS1 := hide ((unhide HS).laterE hb1 (Nat.le_refl _))
   have HB1 := hide hb1'
   clear hb1 hb1'
   cases hf : Tk.fitsB e.nm true
   · have HF := hide hf
     clear hf
     go_wp2_with fail
     go_ret
     exact ⟨ret_bool (by rw [unhide hd, unhide HF]; simp), ((Below.refl _ _).alloc (Nat.le_refl _) _).trans ((unhide HB1).mono (by omega))⟩
   · have HF := hide hf
     clear hf
     go_wp2_with fail
     refine (argsFit_of n (unhide IH) e.args l true _ (unhide HS1)).mono ?_
     rintro r w2 ⟨rfl, hb2⟩
     have hz2 := hb2.size
     have hb2' := (unhide HB1).trans (hb2.mono hz1)
     obtain ⟨r0, r1, r2, r3, r4⟩ := Tk.boxed hb2'
     have HB2 := hide hb2'
     clear hb2 hb2' q0 q1 q2 q3 q4
     rw [show (l.all (Tk.exprB n) && (true || decide (l.length = 0))) = l.all (Tk.exprB n) from by simp]
     cases ha : l.all (Tk.exprB n)
     · have HA := hide ha
       clear ha
       go_wp2_with fail
       go_ret
       exact ⟨ret_bool (by rw [unhide hd, unhide HF, unhide HA]; simp), ((Below.refl _ _).alloc (Nat.le_refl _) _).trans ((unhide HB2).mono (by omega))⟩
     · have HA := hide ha
       clear ha
       go_wp2_with fail
       refine (numberFits_any e _).mono ?_
       rintro r w3 ⟨rfl, hb3⟩
       have HB3 := hide ((unhide HB2).trans (hb3.mono (by omega)))
       clear hb3
       go_wp2_with fail
       go_ret
       exact ⟨ret_bool (by rw [unhide hd, unhide HF, unhide HA]; simp), ((Below.refl _ _).alloc (Nat.le_refl _) _).trans ((unhide HB3).mono (by omega))⟩
 · have hd : Hid (decide (l.length = 1) = false) := decide_eq_false (by have := unhide HLN; omega)
   have g : ((e.args.len : Int) == 1) = false := by rw [beq_eq_false_iff_ne]; omega
   clear hl
   go_enter Tryz.func146, Tryz.ntmps146
   go_wp2_with fail
   go_ret
   exact ⟨ret_bool (by rw [unhide hd]; simp), (Below.refl _ _).alloc (Nat.le_refl _) _⟩
theorem isExpr_more (n : Nat) (ih : ∀ (e : Tk.E) (x : Tk.ET n) (w : World), Tk.RE w n e x → Calls Tryz.prog 146 #[e.val] w fun r w' => r = .returned (.bool (Tk.exprB n x)) ∧ Below w.heap.size w w')
  (e : Tk.E) (l : List (Tk.ET n)) (w : World) (hnm : e.nm.size ≤ maxLen) (hs : Tk.RS w 5 (Tk.ELies w) (Tk.RE w n) e.args l) (c1 : (e.k == 1) = false) (c2 : (e.k == 2) = false) (c3 : (e.k == 3) = false) (c4 : 4 ≤ e.k) (c5 : e.k ≤ 10) :
  Calls Tryz.prog 146 #[e.val] w fun r w' => r = .returned (.bool (decide (l.length = 2) && Tk.fitsB e.nm false && l.all (Tk.exprB n) && Tk.numB e.k e.n)) ∧ Below w.heap.size w w' := by
 have hlen := hs.len
 have HS := hide (hs.laterE (w' := w.alloc (.cells #[.int .i64 e.k, .int .i64 e.a, .int .i64 e.n, .string e.nm, .slice e.args.ad e.args.len e.args.cap] 52)) ((Below.refl _ _).alloc (Nat.le_refl _) _) (Nat.le_refl _))
 have HLN := hide hlen
 have IH := hide ih
 have HNM := hide hnm
 clear hs hlen ih hnm
 unfold Tk.E.val
 by_cases hl : e.args.len = 2
 · have hd : Hid (decide (l.length = 2) = true) := decide_eq_true (by have := unhide HLN; omega)
   have g : ((e.args.len : Int) == 2) = true := by rw [beq_iff_eq]; omega
   clear hl
   go_enter Tryz.func146, Tryz.ntmps146
   go_wp2_with fail
   refine (nameFits_any e.nm false _ (unhide HNM)).mono ?_
   rintro r w1 ⟨rfl, hb1⟩
   have hb1' : Below (w.heap.size + 1) (w.alloc (.cells #[.int .i64 e.k, .int .i64 e.a, .int .i64 e.n, .string e.nm, .slice e.args.ad e.args.len e.args.cap] 52)) w1 := hb1.mono (by simp)
   obtain ⟨q0, q1, q2, q3, q4⟩ := Tk.boxed hb1'
   have hz1 := hb1.size
   simp at hz1
   have HS1 := hide ((unhide HS).laterE hb1 (Nat.le_refl _))
   have HB1 := hide hb1'
   clear hb1 hb1'
   cases hf : Tk.fitsB e.nm false
   · have HF := hide hf
     clear hf
     go_wp2_with fail
     go_ret
     exact ⟨ret_bool (by rw [unhide hd, unhide HF]; simp), ((Below.refl _ _).alloc (Nat.le_refl _) _).trans ((unhide HB1).mono (by omega))⟩
   · have HF := hide hf
     clear hf
     go_wp2_with fail
     refine (argsFit_of n (unhide IH) e.args l true _ (unhide HS1)).mono ?_
     rintro r w2 ⟨rfl, hb2⟩
     have hz2 := hb2.size
     have hb2' := (unhide HB1).trans (hb2.mono hz1)
     obtain ⟨r0, r1, r2, r3, r4⟩ := Tk.boxed hb2'
     have HB2 := hide hb2'
     clear hb2 hb2' q0 q1 q2 q3 q4
     rw [show (l.all (Tk.exprB n) && (true || decide (l.length = 0))) = l.all (Tk.exprB n) from by simp]
     cases ha : l.all (Tk.exprB n)
     · have HA := hide ha
       clear ha
       go_wp2_with fail
       go_ret
       exact ⟨ret_bool (by rw [unhide hd, unhide HF, unhide HA]; simp), ((Below.refl _ _).alloc (Nat.le_refl _) _).trans ((unhide HB2).mono (by omega))⟩
     · have HA := hide ha
       clear ha
       go_wp2_with fail
       refine (numberFits_any e _).mono ?_
       rintro r w3 ⟨rfl, hb3⟩
       have HB3 := hide ((unhide HB2).trans (hb3.mono (by omega)))
       clear hb3
       go_wp2_with fail
       go_ret
       exact ⟨ret_bool (by rw [unhide hd, unhide HF, unhide HA]; simp), ((Below.refl _ _).alloc (Nat.le_refl _) _).trans ((unhide HB3).mono (by omega))⟩
 · have hd : Hid (decide (l.length = 2) = false) := decide_eq_false (by have := unhide HLN; omega)
   have g : ((e.args.len : Int) == 2) = false := by rw [beq_eq_false_iff_ne]; omega
   clear hl
   go_enter Tryz.func146, Tryz.ntmps146
   go_wp2_with fail
   go_ret
   exact ⟨ret_bool (by rw [unhide hd]; simp), (Below.refl _ _).alloc (Nat.le_refl _) _⟩
theorem isExpr_low (e : Tk.E) (w : World) (c1 : (e.k == 1) = false) (c2 : (e.k == 2) = false) (c3 : (e.k == 3) = false) (c4 : ¬ 4 ≤ e.k) :
  Calls Tryz.prog 146 #[e.val] w fun r w' => r = .returned (.bool false) ∧ Below w.heap.size w w' := by
 unfold Tk.E.val
 go_enter Tryz.func146, Tryz.ntmps146
 go_wp2_with fail
 go_ret
 exact ⟨rfl, (Below.refl _ _).alloc (Nat.le_refl _) _⟩
theorem isExpr_high (e : Tk.E) (w : World) (c1 : (e.k == 1) = false) (c2 : (e.k == 2) = false) (c3 : (e.k == 3) = false) (c4 : 4 ≤ e.k) (c5 : ¬ e.k ≤ 10) :
  Calls Tryz.prog 146 #[e.val] w fun r w' => r = .returned (.bool false) ∧ Below w.heap.size w w' := by
 unfold Tk.E.val
 go_enter Tryz.func146, Tryz.ntmps146
 go_wp2_with fail
 go_ret
 exact ⟨rfl, (Below.refl _ _).alloc (Nat.le_refl _) _⟩
theorem Tk.coreB_cases (k m : Int) (nm : ByteArray) (len : Nat) (all : Bool) :
  ((k == 1) = true ∧ Tk.coreB k m nm len all = (decide (len = 0) && Tk.fitsB nm false && all && Tk.numB k m)) ∨
  ((k == 1) = false ∧ (k == 2) = true ∧ Tk.coreB k m nm len all = (decide (len = 0) && Tk.fitsB nm true && all && Tk.numB k m)) ∨
  ((k == 1) = false ∧ (k == 2) = false ∧ (k == 3) = true ∧ Tk.coreB k m nm len all = (decide (len = 1) && Tk.fitsB nm true && all && Tk.numB k m)) ∨
  ((k == 1) = false ∧ (k == 2) = false ∧ (k == 3) = false ∧ (4 ≤ k ∧ k ≤ 10) ∧ Tk.coreB k m nm len all = (decide (len = 2) && Tk.fitsB nm false && all && Tk.numB k m)) ∨
  ((k == 1) = false ∧ (k == 2) = false ∧ (k == 3) = false ∧ ¬ 4 ≤ k ∧ Tk.coreB k m nm len all = false) ∨
  ((k == 1) = false ∧ (k == 2) = false ∧ (k == 3) = false ∧ 4 ≤ k ∧ ¬ k ≤ 10 ∧ Tk.coreB k m nm len all = false) := by
 by_cases h1 : k = 1
 · subst h1; exact Or.inl ⟨rfl, rfl⟩
 · by_cases h2 : k = 2
   · subst h2; exact Or.inr (Or.inl ⟨rfl, rfl, rfl⟩)
   · by_cases h3 : k = 3
     · subst h3; exact Or.inr (Or.inr (Or.inl ⟨rfl, rfl, rfl, rfl⟩))
     · have e1 : (k == 1) = false := beq_eq_false_iff_ne.2 h1
       have e2 : (k == 2) = false := beq_eq_false_iff_ne.2 h2
       have e3 : (k == 3) = false := beq_eq_false_iff_ne.2 h3
       by_cases h4 : 4 ≤ k
       · by_cases h5 : k ≤ 10
         · refine Or.inr (Or.inr (Or.inr (Or.inl ⟨e1, e2, e3, ⟨h4, h5⟩, ?_⟩)))
           unfold Tk.coreB Tk.argsOf
           rw [e2, e3, if_neg h3, if_pos ⟨h4, h5⟩, decide_eq_true (show 1 ≤ k ∧ k ≤ 10 by omega)]
           rfl
         · refine Or.inr (Or.inr (Or.inr (Or.inr (Or.inr ⟨e1, e2, e3, h4, h5, ?_⟩))))
           unfold Tk.coreB
           rw [decide_eq_false (show ¬ (1 ≤ k ∧ k ≤ 10) by omega)]; rfl
       · refine Or.inr (Or.inr (Or.inr (Or.inr (Or.inl ⟨e1, e2, e3, h4, ?_⟩))))
         unfold Tk.coreB
         rw [decide_eq_false (show ¬ (1 ≤ k ∧ k ≤ 10) by omega)]; rfl
theorem isExpr_any : ∀ (n : Nat) (e : Tk.E) (x : Tk.ET n) (w : World), Tk.RE w n e x → Calls Tryz.prog 146 #[e.val] w fun r w' => r = .returned (.bool (Tk.exprB n x)) ∧ Below w.heap.size w w' := by
 intro n
 induction n with
 | zero => intro e x w h; exact absurd h id
 | succ n ih =>
  intro e x w h
  obtain ⟨⟨f1, f2, f3, f4, f5⟩, hs⟩ := h
  have hsp : Tk.exprB (n + 1) x = Tk.coreB e.k e.n e.nm x.2.length (x.2.all (Tk.exprB n)) := by rw [f1, f3, f4]; rfl
  rw [hsp]
  rcases Tk.coreB_cases e.k e.n e.nm x.2.length (x.2.all (Tk.exprB n)) with ⟨c1, hc⟩ | ⟨c1, c2, hc⟩ | ⟨c1, c2, c3, hc⟩ | ⟨c1, c2, c3, ⟨c4, c5⟩, hc⟩ | ⟨c1, c2, c3, c4, hc⟩ | ⟨c1, c2, c3, c4, c5, hc⟩
  · rw [hc]; exact isExpr_one n ih e x.2 w f5 hs c1
  · rw [hc]; exact isExpr_two n ih e x.2 w f5 hs c1 c2
  · rw [hc]; exact isExpr_three n ih e x.2 w f5 hs c1 c2 c3
  · rw [hc]; exact isExpr_more n ih e x.2 w f5 hs c1 c2 c3 c4 c5
  · rw [hc]; exact isExpr_low e w c1 c2 c3 c4
  · rw [hc]; exact isExpr_high e w c1 c2 c3 c4 c5
theorem argsFit_any (n : Nat) (s : Tk.Sl) (l : List (Tk.ET n)) (named : Bool) (w : World) (hs : Tk.RS w 5 (Tk.ELies w) (Tk.RE w n) s l) :
  Calls Tryz.prog 180 #[.slice s.ad s.len s.cap, .bool named] w fun r w' => r = .returned (.bool (l.all (Tk.exprB n) && (named || decide (l.length = 0)))) ∧ Below w.heap.size w w' :=
 argsFit_of n (isExpr_any n) s l named w hs
end Go.Proofs.YtfccpddehpgfoaaGreatDoor
