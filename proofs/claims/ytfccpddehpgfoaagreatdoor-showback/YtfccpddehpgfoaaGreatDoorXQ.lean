/- By the verifier. -/
import Derived.Test.YtfccpddehpgfoaaGreatDoorUD
set_option maxHeartbeats 1600000
namespace Go.Proofs.YtfccpddehpgfoaaGreatDoor
open Go.RowKit
set_option linter.unusedVariables false
def Zep (k : Int) : Nat := if k = 3 then 1 else if 4 ≤ k ∧ k ≤ 10 then 2 else 0
def Za6 (k m : Int) : Bool := if k == 1 then decide (-9999999 ≤ m ∧ m ≤ 9999999) else m == 0
def Zbj (k m : Int) (nm : ByteArray) (len : Nat) (all : Bool) : Bool :=
 decide (1 ≤ k ∧ k ≤ 10) && decide (len = Zep k) && Zar nm (k == 2 || k == 3) && all && Za6 k m
def Zac : (n : Nat) → Zat n → Bool
 | 0, _ => false
 | n + 1, x => Zbj x.1.1 x.1.2.2.1 x.1.2.2.2 x.2.length (x.2.all (Zac n))
theorem Zcm {w w1 : World} {e : Tk.E} (hb : Below (w.heap.size + 1) (w.alloc (.cells #[.int .i64 e.k, .int .i64 e.a, .int .i64 e.n, .string e.nm, .slice e.args.ad e.args.len e.args.cap] 52)) w1) :
  w1.cell? ⟨w.heap.size, 0, none⟩ = some (.int .i64 e.k) ∧ w1.cell? ⟨w.heap.size, 1, none⟩ = some (.int .i64 e.a) ∧ w1.cell? ⟨w.heap.size, 2, none⟩ = some (.int .i64 e.n) ∧
  w1.cell? ⟨w.heap.size, 3, none⟩ = some (.string e.nm) ∧ w1.cell? ⟨w.heap.size, 4, none⟩ = some (.slice e.args.ad e.args.len e.args.cap) := by
 have h : ∀ j, w1.cell? ⟨w.heap.size, j, none⟩ = (w.alloc (.cells #[.int .i64 e.k, .int .i64 e.a, .int .i64 e.n, .string e.nm, .slice e.args.ad e.args.len e.args.cap] 52)).cell? ⟨w.heap.size, j, none⟩ := fun j => hb.cell (p := ⟨w.heap.size, j, none⟩) (by show w.heap.size < _; omega)
 exact ⟨(h 0).trans (by simp), (h 1).trans (by simp), (h 2).trans (by simp), (h 3).trans (by simp), (h 4).trans (by simp)⟩
theorem Zck (e : Tk.E) (w : World) : Calls Tryz.prog 181 #[e.val] w fun r w' => r = .returned (.bool (Za6 e.k e.n)) ∧ Below w.heap.size w w' := by
 unfold Tk.E.val
 cases h1 : (e.k == 1)
 · have hn : Za6 e.k e.n = (e.n == 0) := by unfold Za6; rw [h1]; rfl
   rw [hn]
   have g : (e.k != 1) = true := by rw [bne, h1]; rfl
   clear hn h1
   go_enter Tryz.func181, Tryz.ntmps181
   go_wp2_with fail
   go_ret
   exact ⟨rfl, Zr.alloc Zl _⟩
 have hn : Za6 e.k e.n = decide (-9999999 ≤ e.n ∧ e.n ≤ 9999999) := by unfold Za6; rw [h1]; rfl
 rw [hn]
 have g : (e.k != 1) = false := by rw [bne, h1]; rfl
 have HN := Hd hn
 clear hn h1
 by_cases g1 : -9999999 ≤ e.n
 · by_cases g2 : e.n ≤ 9999999
   · have hd : decide (-9999999 ≤ e.n ∧ e.n ≤ 9999999) = true := decide_eq_true ⟨g1, g2⟩
     rw [hd]
     clear hd
     go_enter Tryz.func181, Tryz.ntmps181
     go_wp2_with fail
     go_ret
     exact ⟨Zaj (by first | rfl | (simp; omega)), Zr.alloc Zl _⟩
   have hd : decide (-9999999 ≤ e.n ∧ e.n ≤ 9999999) = false := decide_eq_false (by omega)
   rw [hd]
   clear hd
   go_enter Tryz.func181, Tryz.ntmps181
   go_wp2_with fail
   go_ret
   exact ⟨Zaj (by first | rfl | (simp; omega)), Zr.alloc Zl _⟩
 have hd : decide (-9999999 ≤ e.n ∧ e.n ≤ 9999999) = false := decide_eq_false (by omega)
 rw [hd]
 clear hd
 go_enter Tryz.func181, Tryz.ntmps181
 go_wp2_with fail
 go_ret
 exact ⟨Zaj (by first | rfl | (simp; omega)), Zr.alloc Zl _⟩
theorem ZcX (n : Nat) (ih : ∀ (e : Tk.E) (x : Zat n) (w : World), Tk.RE w n e x → Calls Tryz.prog 146 #[e.val] w fun r w' => r = .returned (.bool (Zac n x)) ∧ Below w.heap.size w w')
  (s : Tk.Sl) (l : List (Zat n)) (named : Bool) (w : World) (hs : Tk.RS w 5 (Tk.ELies w) (Tk.RE w n) s l) :
  Calls Tryz.prog 180 #[.slice s.ad s.len s.cap, .bool named] w fun r w' => r = .returned (.bool (l.all (Zac n) && (named || decide (l.length = 0)))) ∧ Below w.heap.size w w' := by
 have hlen := hs.len
 have hfew := hs.few
 rw [← hlen] at hfew
 have HS := Hd hs
 have HLN := Hd hlen
 have IH := Hd ih
 clear hs hlen ih
 go_enter Tryz.func180, Tryz.ntmps180
 go_wp2_with fail
 go_loopw [9] (fun iv wr => ∃ i : Nat, i ≤ s.len ∧ iv = .int .i64 i ∧ (∀ j y, j < i → l[j]? = some y → Zac n y = true) ∧ Below w.heap.size w wr) (fun iv _ => s.len - (intOf iv).toNat)
 case atStart => exact ⟨0, Nat.zero_le _, rfl, fun j y h => by omega, Zr⟩
 case round =>
  obtain ⟨i, hi, rfl, hall, hbe⟩ := hrel
  have hz := hbe.size
  have HAL := Hd hall
  have HBE := Hd hbe
  clear hall hbe
  by_cases hlt : i < s.len
  · have hlt2 : i < l.length := by have := uh HLN; omega
    have hy := Zg hlt2
    obtain ⟨b, o, c, had, hb, hlies, hrd⟩ := (uh HS).at_ i _ hy
    generalize l[i] = y at *
    obtain ⟨p0, p1, p2, p3, p4⟩ := hlies.later (uh HBE) Zl hb
    have HRD := Hd (hrd.later (uh HBE) Zl)
    have HY := Hd hy
    clear hlies hrd hy
    have hi0 : (0 : Int) ≤ (i : Int) := by omega
    have hi1 : (i : Int) < (s.len : Int) := by omega
    rw [had]
    go_wp2_with fail
    refine ((uh IH) c y _ ((uh HRD).later (Zr.alloc Zl _) Zl)).mono ?_
    rintro r w1 ⟨rfl, hb1⟩
    have HB1 := Hd (((uh HBE).alloc hz _).trans (hb1.mono (by simp; omega)))
    clear hb1
    cases hx : Zac n y
    · have hf : Hid (l.all (Zac n) = false) := by
       show _ = _
       rw [List.all_eq_false]; exact ⟨y, List.mem_of_getElem? (uh HY), by rw [hx]; decide⟩
      clear hx
      go_wp2_with fail
      go_ret
      exact ⟨Zaj (by rw [uh hf]; rfl), uh HB1⟩
    have HX := Hd hx
    clear hx
    go_wp2_with fail
    refine ⟨⟨i + 1, by omega, by go_num, ?_, uh HB1⟩, by simp [intOf]; omega⟩
    intro j u hj hu
    by_cases e2 : j = i
    · subst e2
      have := uh HY
      rw [this] at hu
      cases hu
      exact uh HX
    exact (uh HAL) j u (by omega) hu
  have hf : Hid (l.all (Zac n) = true) := by
   show _ = _
   rw [List.all_eq_true]
   intro y hy
   obtain ⟨j, hj⟩ := List.getElem?_of_mem hy
   exact (uh HAL) j y (by have := (List.getElem?_eq_some_iff.1 hj).1; have := uh HLN; omega) hj
  cases named
  · have hq : Hid (decide (l.length = 0) = ((s.len : Int) == 0)) := by
     show _ = _
     rw [Bool.eq_iff_iff, decide_eq_true_eq, beq_iff_eq]; have := uh HLN; omega
    go_wp2_with fail
    go_ret
    exact ⟨Zaj (by rw [uh hf, uh hq]; simp), uh HBE⟩
  go_wp2_with fail
  go_ret
  exact ⟨Zaj (by rw [uh hf]; rfl), uh HBE⟩
theorem ZjM (n : Nat) (ih : ∀ (e : Tk.E) (x : Zat n) (w : World), Tk.RE w n e x → Calls Tryz.prog 146 #[e.val] w fun r w' => r = .returned (.bool (Zac n x)) ∧ Below w.heap.size w w')
  (e : Tk.E) (l : List (Zat n)) (w : World) (hnm : e.nm.size ≤ maxLen) (hs : Tk.RS w 5 (Tk.ELies w) (Tk.RE w n) e.args l) (c1 : (e.k == 1) = true) :
  Calls Tryz.prog 146 #[e.val] w fun r w' => r = .returned (.bool (decide (l.length = 0) && Zar e.nm false && l.all (Zac n) && Za6 e.k e.n)) ∧ Below w.heap.size w w' := by
 have hlen := hs.len
 have HS := Hd (hs.laterE (w' := w.alloc (.cells #[.int .i64 e.k, .int .i64 e.a, .int .i64 e.n, .string e.nm, .slice e.args.ad e.args.len e.args.cap] 52)) (Zr.alloc Zl _) Zl)
 have HLN := Hd hlen
 have IH := Hd ih
 have HNM := Hd hnm
 clear hs hlen ih hnm
 unfold Tk.E.val
 by_cases hl : e.args.len = 0
 · have hd : Hid (decide (l.length = 0) = true) := decide_eq_true (by have := uh HLN; omega)
   have g : ((e.args.len : Int) == 0) = true := by rw [beq_iff_eq]; omega
   clear hl
   go_enter Tryz.func146, Tryz.ntmps146
   go_wp2_with fail
   refine (ZbF e.nm false _ (uh HNM)).mono ?_
   rintro r w1 ⟨rfl, hb1⟩
   have hb1' : Below (w.heap.size + 1) (w.alloc (.cells #[.int .i64 e.k, .int .i64 e.a, .int .i64 e.n, .string e.nm, .slice e.args.ad e.args.len e.args.cap] 52)) w1 := hb1.mono (by simp)
   obtain ⟨q0, q1, q2, q3, q4⟩ := Zcm hb1'
   have hz1 := hb1.size
   simp at hz1
   have HS1 := Hd ((uh HS).laterE hb1 Zl)
   have HB1 := Hd hb1'
   clear hb1 hb1'
   cases hf : Zar e.nm false
   · have HF := Hd hf
     clear hf
     go_wp2_with fail
     go_ret
     exact ⟨Zaj (by rw [uh hd, uh HF]; simp), (Zr.alloc Zl _).trans ((uh HB1).mono (by omega))⟩
   have HF := Hd hf
   clear hf
   go_wp2_with fail
   refine (ZcX n (uh IH) e.args l true _ (uh HS1)).mono ?_
   rintro r w2 ⟨rfl, hb2⟩
   have hz2 := hb2.size
   have hb2' := (uh HB1).trans (hb2.mono hz1)
   obtain ⟨r0, r1, r2, r3, r4⟩ := Zcm hb2'
   have HB2 := Hd hb2'
   clear hb2 hb2' q0 q1 q2 q3 q4
   rw [show (l.all (Zac n) && (true || decide (l.length = 0))) = l.all (Zac n) from by simp]
   cases ha : l.all (Zac n)
   · have HA := Hd ha
     clear ha
     go_wp2_with fail
     go_ret
     exact ⟨Zaj (by rw [uh hd, uh HF, uh HA]; simp), (Zr.alloc Zl _).trans ((uh HB2).mono (by omega))⟩
   have HA := Hd ha
   clear ha
   go_wp2_with fail
   refine (Zck e _).mono ?_
   rintro r w3 ⟨rfl, hb3⟩
   have HB3 := Hd ((uh HB2).trans (hb3.mono (by omega)))
   clear hb3
   go_wp2_with fail
   go_ret
   exact ⟨Zaj (by rw [uh hd, uh HF, uh HA]; simp), (Zr.alloc Zl _).trans ((uh HB3).mono (by omega))⟩
 have hd : Hid (decide (l.length = 0) = false) := decide_eq_false (by have := uh HLN; omega)
 have g : ((e.args.len : Int) == 0) = false := by rw [beq_eq_false_iff_ne]; omega
 clear hl
 go_enter Tryz.func146, Tryz.ntmps146
 go_wp2_with fail
 go_ret
 exact ⟨Zaj (by rw [uh hd]; simp), Zr.alloc Zl _⟩
theorem Zkd (n : Nat) (ih : ∀ (e : Tk.E) (x : Zat n) (w : World), Tk.RE w n e x → Calls Tryz.prog 146 #[e.val] w fun r w' => r = .returned (.bool (Zac n x)) ∧ Below w.heap.size w w')
  (e : Tk.E) (l : List (Zat n)) (w : World) (hnm : e.nm.size ≤ maxLen) (hs : Tk.RS w 5 (Tk.ELies w) (Tk.RE w n) e.args l) (c1 : (e.k == 1) = false) (c2 : (e.k == 2) = true) :
  Calls Tryz.prog 146 #[e.val] w fun r w' => r = .returned (.bool (decide (l.length = 0) && Zar e.nm true && l.all (Zac n) && Za6 e.k e.n)) ∧ Below w.heap.size w w' := by
 have hlen := hs.len
 have HS := Hd (hs.laterE (w' := w.alloc (.cells #[.int .i64 e.k, .int .i64 e.a, .int .i64 e.n, .string e.nm, .slice e.args.ad e.args.len e.args.cap] 52)) (Zr.alloc Zl _) Zl)
 have HLN := Hd hlen
 have IH := Hd ih
 have HNM := Hd hnm
 clear hs hlen ih hnm
 unfold Tk.E.val
 by_cases hl : e.args.len = 0
 · have hd : Hid (decide (l.length = 0) = true) := decide_eq_true (by have := uh HLN; omega)
   have g : ((e.args.len : Int) == 0) = true := by rw [beq_iff_eq]; omega
   clear hl
   go_enter Tryz.func146, Tryz.ntmps146
   go_wp2_with fail
   refine (ZbF e.nm true _ (uh HNM)).mono ?_
   rintro r w1 ⟨rfl, hb1⟩
   have hb1' : Below (w.heap.size + 1) (w.alloc (.cells #[.int .i64 e.k, .int .i64 e.a, .int .i64 e.n, .string e.nm, .slice e.args.ad e.args.len e.args.cap] 52)) w1 := hb1.mono (by simp)
   obtain ⟨q0, q1, q2, q3, q4⟩ := Zcm hb1'
   have hz1 := hb1.size
   simp at hz1
   have HS1 := Hd ((uh HS).laterE hb1 Zl)
   have HB1 := Hd hb1'
   clear hb1 hb1'
   cases hf : Zar e.nm true
   · have HF := Hd hf
     clear hf
     go_wp2_with fail
     go_ret
     exact ⟨Zaj (by rw [uh hd, uh HF]; simp), (Zr.alloc Zl _).trans ((uh HB1).mono (by omega))⟩
   have HF := Hd hf
   clear hf
   go_wp2_with fail
   refine (ZcX n (uh IH) e.args l true _ (uh HS1)).mono ?_
   rintro r w2 ⟨rfl, hb2⟩
   have hz2 := hb2.size
   have hb2' := (uh HB1).trans (hb2.mono hz1)
   obtain ⟨r0, r1, r2, r3, r4⟩ := Zcm hb2'
   have HB2 := Hd hb2'
   clear hb2 hb2' q0 q1 q2 q3 q4
   rw [show (l.all (Zac n) && (true || decide (l.length = 0))) = l.all (Zac n) from by simp]
   cases ha : l.all (Zac n)
   · have HA := Hd ha
     clear ha
     go_wp2_with fail
     go_ret
     exact ⟨Zaj (by rw [uh hd, uh HF, uh HA]; simp), (Zr.alloc Zl _).trans ((uh HB2).mono (by omega))⟩
   have HA := Hd ha
   clear ha
   go_wp2_with fail
   refine (Zck e _).mono ?_
   rintro r w3 ⟨rfl, hb3⟩
   have HB3 := Hd ((uh HB2).trans (hb3.mono (by omega)))
   clear hb3
   go_wp2_with fail
   go_ret
   exact ⟨Zaj (by rw [uh hd, uh HF, uh HA]; simp), (Zr.alloc Zl _).trans ((uh HB3).mono (by omega))⟩
 have hd : Hid (decide (l.length = 0) = false) := decide_eq_false (by have := uh HLN; omega)
 have g : ((e.args.len : Int) == 0) = false := by rw [beq_eq_false_iff_ne]; omega
 clear hl
 go_enter Tryz.func146, Tryz.ntmps146
 go_wp2_with fail
 go_ret
 exact ⟨Zaj (by rw [uh hd]; simp), Zr.alloc Zl _⟩
theorem ZhC (n : Nat) (ih : ∀ (e : Tk.E) (x : Zat n) (w : World), Tk.RE w n e x → Calls Tryz.prog 146 #[e.val] w fun r w' => r = .returned (.bool (Zac n x)) ∧ Below w.heap.size w w')
  (e : Tk.E) (l : List (Zat n)) (w : World) (hnm : e.nm.size ≤ maxLen) (hs : Tk.RS w 5 (Tk.ELies w) (Tk.RE w n) e.args l) (c1 : (e.k == 1) = false) (c2 : (e.k == 2) = false) (c3 : (e.k == 3) = true) :
  Calls Tryz.prog 146 #[e.val] w fun r w' => r = .returned (.bool (decide (l.length = 1) && Zar e.nm true && l.all (Zac n) && Za6 e.k e.n)) ∧ Below w.heap.size w w' := by
 have hlen := hs.len
 have HS := Hd (hs.laterE (w' := w.alloc (.cells #[.int .i64 e.k, .int .i64 e.a, .int .i64 e.n, .string e.nm, .slice e.args.ad e.args.len e.args.cap] 52)) (Zr.alloc Zl _) Zl)
 have HLN := Hd hlen
 have IH := Hd ih
 have HNM := Hd hnm
 clear hs hlen ih hnm
 unfold Tk.E.val
 by_cases hl : e.args.len = 1
 · have hd : Hid (decide (l.length = 1) = true) := decide_eq_true (by have := uh HLN; omega)
   have g : ((e.args.len : Int) == 1) = true := by rw [beq_iff_eq]; omega
   clear hl
   go_enter Tryz.func146, Tryz.ntmps146
   go_wp2_with fail
   refine (ZbF e.nm true _ (uh HNM)).mono ?_
   rintro r w1 ⟨rfl, hb1⟩
   have hb1' : Below (w.heap.size + 1) (w.alloc (.cells #[.int .i64 e.k, .int .i64 e.a, .int .i64 e.n, .string e.nm, .slice e.args.ad e.args.len e.args.cap] 52)) w1 := hb1.mono (by simp)
   obtain ⟨q0, q1, q2, q3, q4⟩ := Zcm hb1'
   have hz1 := hb1.size
   simp at hz1
   have HS1 := Hd ((uh HS).laterE hb1 Zl)
   have HB1 := Hd hb1'
   clear hb1 hb1'
   cases hf : Zar e.nm true
   · have HF := Hd hf
     clear hf
     go_wp2_with fail
     go_ret
     exact ⟨Zaj (by rw [uh hd, uh HF]; simp), (Zr.alloc Zl _).trans ((uh HB1).mono (by omega))⟩
   have HF := Hd hf
   clear hf
   go_wp2_with fail
   refine (ZcX n (uh IH) e.args l true _ (uh HS1)).mono ?_
   rintro r w2 ⟨rfl, hb2⟩
   have hz2 := hb2.size
   have hb2' := (uh HB1).trans (hb2.mono hz1)
   obtain ⟨r0, r1, r2, r3, r4⟩ := Zcm hb2'
   have HB2 := Hd hb2'
   clear hb2 hb2' q0 q1 q2 q3 q4
   rw [show (l.all (Zac n) && (true || decide (l.length = 0))) = l.all (Zac n) from by simp]
   cases ha : l.all (Zac n)
   · have HA := Hd ha
     clear ha
     go_wp2_with fail
     go_ret
     exact ⟨Zaj (by rw [uh hd, uh HF, uh HA]; simp), (Zr.alloc Zl _).trans ((uh HB2).mono (by omega))⟩
   have HA := Hd ha
   clear ha
   go_wp2_with fail
   refine (Zck e _).mono ?_
   rintro r w3 ⟨rfl, hb3⟩
   have HB3 := Hd ((uh HB2).trans (hb3.mono (by omega)))
   clear hb3
   go_wp2_with fail
   go_ret
   exact ⟨Zaj (by rw [uh hd, uh HF, uh HA]; simp), (Zr.alloc Zl _).trans ((uh HB3).mono (by omega))⟩
 have hd : Hid (decide (l.length = 1) = false) := decide_eq_false (by have := uh HLN; omega)
 have g : ((e.args.len : Int) == 1) = false := by rw [beq_eq_false_iff_ne]; omega
 clear hl
 go_enter Tryz.func146, Tryz.ntmps146
 go_wp2_with fail
 go_ret
 exact ⟨Zaj (by rw [uh hd]; simp), Zr.alloc Zl _⟩
theorem Zjg (n : Nat) (ih : ∀ (e : Tk.E) (x : Zat n) (w : World), Tk.RE w n e x → Calls Tryz.prog 146 #[e.val] w fun r w' => r = .returned (.bool (Zac n x)) ∧ Below w.heap.size w w')
  (e : Tk.E) (l : List (Zat n)) (w : World) (hnm : e.nm.size ≤ maxLen) (hs : Tk.RS w 5 (Tk.ELies w) (Tk.RE w n) e.args l) (c1 : (e.k == 1) = false) (c2 : (e.k == 2) = false) (c3 : (e.k == 3) = false) (c4 : 4 ≤ e.k) (c5 : e.k ≤ 10) :
  Calls Tryz.prog 146 #[e.val] w fun r w' => r = .returned (.bool (decide (l.length = 2) && Zar e.nm false && l.all (Zac n) && Za6 e.k e.n)) ∧ Below w.heap.size w w' := by
 have hlen := hs.len
 have HS := Hd (hs.laterE (w' := w.alloc (.cells #[.int .i64 e.k, .int .i64 e.a, .int .i64 e.n, .string e.nm, .slice e.args.ad e.args.len e.args.cap] 52)) (Zr.alloc Zl _) Zl)
 have HLN := Hd hlen
 have IH := Hd ih
 have HNM := Hd hnm
 clear hs hlen ih hnm
 unfold Tk.E.val
 by_cases hl : e.args.len = 2
 · have hd : Hid (decide (l.length = 2) = true) := decide_eq_true (by have := uh HLN; omega)
   have g : ((e.args.len : Int) == 2) = true := by rw [beq_iff_eq]; omega
   clear hl
   go_enter Tryz.func146, Tryz.ntmps146
   go_wp2_with fail
   refine (ZbF e.nm false _ (uh HNM)).mono ?_
   rintro r w1 ⟨rfl, hb1⟩
   have hb1' : Below (w.heap.size + 1) (w.alloc (.cells #[.int .i64 e.k, .int .i64 e.a, .int .i64 e.n, .string e.nm, .slice e.args.ad e.args.len e.args.cap] 52)) w1 := hb1.mono (by simp)
   obtain ⟨q0, q1, q2, q3, q4⟩ := Zcm hb1'
   have hz1 := hb1.size
   simp at hz1
   have HS1 := Hd ((uh HS).laterE hb1 Zl)
   have HB1 := Hd hb1'
   clear hb1 hb1'
   cases hf : Zar e.nm false
   · have HF := Hd hf
     clear hf
     go_wp2_with fail
     go_ret
     exact ⟨Zaj (by rw [uh hd, uh HF]; simp), (Zr.alloc Zl _).trans ((uh HB1).mono (by omega))⟩
   have HF := Hd hf
   clear hf
   go_wp2_with fail
   refine (ZcX n (uh IH) e.args l true _ (uh HS1)).mono ?_
   rintro r w2 ⟨rfl, hb2⟩
   have hz2 := hb2.size
   have hb2' := (uh HB1).trans (hb2.mono hz1)
   obtain ⟨r0, r1, r2, r3, r4⟩ := Zcm hb2'
   have HB2 := Hd hb2'
   clear hb2 hb2' q0 q1 q2 q3 q4
   rw [show (l.all (Zac n) && (true || decide (l.length = 0))) = l.all (Zac n) from by simp]
   cases ha : l.all (Zac n)
   · have HA := Hd ha
     clear ha
     go_wp2_with fail
     go_ret
     exact ⟨Zaj (by rw [uh hd, uh HF, uh HA]; simp), (Zr.alloc Zl _).trans ((uh HB2).mono (by omega))⟩
   have HA := Hd ha
   clear ha
   go_wp2_with fail
   refine (Zck e _).mono ?_
   rintro r w3 ⟨rfl, hb3⟩
   have HB3 := Hd ((uh HB2).trans (hb3.mono (by omega)))
   clear hb3
   go_wp2_with fail
   go_ret
   exact ⟨Zaj (by rw [uh hd, uh HF, uh HA]; simp), (Zr.alloc Zl _).trans ((uh HB3).mono (by omega))⟩
 have hd : Hid (decide (l.length = 2) = false) := decide_eq_false (by have := uh HLN; omega)
 have g : ((e.args.len : Int) == 2) = false := by rw [beq_eq_false_iff_ne]; omega
 clear hl
 go_enter Tryz.func146, Tryz.ntmps146
 go_wp2_with fail
 go_ret
 exact ⟨Zaj (by rw [uh hd]; simp), Zr.alloc Zl _⟩
theorem ZjZ (e : Tk.E) (w : World) (c1 : (e.k == 1) = false) (c2 : (e.k == 2) = false) (c3 : (e.k == 3) = false) (c4 : ¬ 4 ≤ e.k) :
  Calls Tryz.prog 146 #[e.val] w fun r w' => r = .returned (.bool false) ∧ Below w.heap.size w w' := by
 unfold Tk.E.val
 go_enter Tryz.func146, Tryz.ntmps146
 go_wp2_with fail
 go_ret
 exact ⟨rfl, Zr.alloc Zl _⟩
theorem ZiI (e : Tk.E) (w : World) (c1 : (e.k == 1) = false) (c2 : (e.k == 2) = false) (c3 : (e.k == 3) = false) (c4 : 4 ≤ e.k) (c5 : ¬ e.k ≤ 10) :
  Calls Tryz.prog 146 #[e.val] w fun r w' => r = .returned (.bool false) ∧ Below w.heap.size w w' := by
 unfold Tk.E.val
 go_enter Tryz.func146, Tryz.ntmps146
 go_wp2_with fail
 go_ret
 exact ⟨rfl, Zr.alloc Zl _⟩
theorem ZdI (k m : Int) (nm : ByteArray) (len : Nat) (all : Bool) :
  ((k == 1) = true ∧ Zbj k m nm len all = (decide (len = 0) && Zar nm false && all && Za6 k m)) ∨
  ((k == 1) = false ∧ (k == 2) = true ∧ Zbj k m nm len all = (decide (len = 0) && Zar nm true && all && Za6 k m)) ∨
  ((k == 1) = false ∧ (k == 2) = false ∧ (k == 3) = true ∧ Zbj k m nm len all = (decide (len = 1) && Zar nm true && all && Za6 k m)) ∨
  ((k == 1) = false ∧ (k == 2) = false ∧ (k == 3) = false ∧ (4 ≤ k ∧ k ≤ 10) ∧ Zbj k m nm len all = (decide (len = 2) && Zar nm false && all && Za6 k m)) ∨
  ((k == 1) = false ∧ (k == 2) = false ∧ (k == 3) = false ∧ ¬ 4 ≤ k ∧ Zbj k m nm len all = false) ∨
  ((k == 1) = false ∧ (k == 2) = false ∧ (k == 3) = false ∧ 4 ≤ k ∧ ¬ k ≤ 10 ∧ Zbj k m nm len all = false) := by
 by_cases h1 : k = 1
 · subst h1; exact Or.inl ⟨rfl, rfl⟩
 by_cases h2 : k = 2
 · subst h2; exact Or.inr (Or.inl ⟨rfl, rfl, rfl⟩)
 by_cases h3 : k = 3
 · subst h3; exact Or.inr (Or.inr (Or.inl ⟨rfl, rfl, rfl, rfl⟩))
 have e1 : (k == 1) = false := beq_eq_false_iff_ne.2 h1
 have e2 : (k == 2) = false := beq_eq_false_iff_ne.2 h2
 have e3 : (k == 3) = false := beq_eq_false_iff_ne.2 h3
 by_cases h4 : 4 ≤ k
 · by_cases h5 : k ≤ 10
   · refine Or.inr (Or.inr (Or.inr (Or.inl ⟨e1, e2, e3, ⟨h4, h5⟩, ?_⟩)))
     unfold Zbj Zep
     rw [e2, e3, if_neg h3, if_pos ⟨h4, h5⟩, decide_eq_true (show 1 ≤ k ∧ k ≤ 10 by omega)]
     rfl
   refine Or.inr (Or.inr (Or.inr (Or.inr (Or.inr ⟨e1, e2, e3, h4, h5, ?_⟩))))
   unfold Zbj
   rw [decide_eq_false (show ¬ (1 ≤ k ∧ k ≤ 10) by omega)]; rfl
 refine Or.inr (Or.inr (Or.inr (Or.inr (Or.inl ⟨e1, e2, e3, h4, ?_⟩))))
 unfold Zbj
 rw [decide_eq_false (show ¬ (1 ≤ k ∧ k ≤ 10) by omega)]; rfl
theorem ZgE : ∀ (n : Nat) (e : Tk.E) (x : Zat n) (w : World), Tk.RE w n e x → Calls Tryz.prog 146 #[e.val] w fun r w' => r = .returned (.bool (Zac n x)) ∧ Below w.heap.size w w' := by
 intro n
 induction n with
 | zero => intro e x w h; exact absurd h id
 | succ n ih =>
  intro e x w h
  obtain ⟨⟨f1, f2, f3, f4, f5⟩, hs⟩ := h
  have hsp : Zac (n + 1) x = Zbj e.k e.n e.nm x.2.length (x.2.all (Zac n)) := by rw [f1, f3, f4]; rfl
  rw [hsp]
  rcases ZdI e.k e.n e.nm x.2.length (x.2.all (Zac n)) with ⟨c1, hc⟩ | ⟨c1, c2, hc⟩ | ⟨c1, c2, c3, hc⟩ | ⟨c1, c2, c3, ⟨c4, c5⟩, hc⟩ | ⟨c1, c2, c3, c4, hc⟩ | ⟨c1, c2, c3, c4, c5, hc⟩
  · rw [hc]; exact ZjM n ih e x.2 w f5 hs c1
  · rw [hc]; exact Zkd n ih e x.2 w f5 hs c1 c2
  · rw [hc]; exact ZhC n ih e x.2 w f5 hs c1 c2 c3
  · rw [hc]; exact Zjg n ih e x.2 w f5 hs c1 c2 c3 c4 c5
  · rw [hc]; exact ZjZ e w c1 c2 c3 c4
  rw [hc]; exact ZiI e w c1 c2 c3 c4 c5
theorem ZiG (n : Nat) (s : Tk.Sl) (l : List (Zat n)) (named : Bool) (w : World) (hs : Tk.RS w 5 (Tk.ELies w) (Tk.RE w n) s l) :
  Calls Tryz.prog 180 #[.slice s.ad s.len s.cap, .bool named] w fun r w' => r = .returned (.bool (l.all (Zac n) && (named || decide (l.length = 0)))) ∧ Below w.heap.size w w' :=
 ZcX n (ZgE n) s l named w hs
structure Tk.C where
 k : Int
 a : Int
 nm : ByteArray
 ot : ByteArray
 ix : Tk.E
 ex : Tk.E
 args : Tk.Sl
 th : Tk.Sl
 el : Tk.Sl
def Tk.C.cells (c : Tk.C) : Array Value := #[.int .i64 c.k, .int .i64 c.a, .string c.nm, .string c.ot, .int .i64 c.ix.k, .int .i64 c.ix.a, .int .i64 c.ix.n, .string c.ix.nm, .slice c.ix.args.ad c.ix.args.len c.ix.args.cap, .int .i64 c.ex.k, .int .i64 c.ex.a, .int .i64 c.ex.n, .string c.ex.nm, .slice c.ex.args.ad c.ex.args.len c.ex.args.cap, .slice c.args.ad c.args.len c.args.cap, .slice c.th.ad c.th.len c.th.cap, .slice c.el.ad c.el.len c.el.cap]
structure Tk.F where
 a : Int
 nm : ByteArray
 ps : Tk.Sl
 vs : Tk.Sl
 cs : Tk.Sl
 re : Tk.E
def Tk.F.cells (f : Tk.F) : Array Value := #[.int .i64 f.a, .string f.nm, .slice f.ps.ad f.ps.len f.ps.cap, .slice f.vs.ad f.vs.len f.vs.cap, .slice f.cs.ad f.cs.len f.cs.cap, .int .i64 f.re.k, .int .i64 f.re.a, .int .i64 f.re.n, .string f.re.nm, .slice f.re.args.ad f.re.args.len f.re.args.cap]
def Zap (m : Nat) : Nat → Type
 | 0 => Empty
 | n + 1 => (Int × Int × ByteArray × ByteArray) × (Zat m × Zat m × List (Zat m)) × (List (Zap m n) × List (Zap m n))
structure Tk.FT (m n : Nat) where
 a : Int
 nm : ByteArray
 ps : List ByteArray
 vs : List (ByteArray × Int)
 cs : List (Zap m n)
 re : Zat m
structure Tk.LC (w : World) (b o : Nat) (c : Tk.C) : Prop where
 c0 : w.cell? ⟨b, o, none⟩ = some (.int .i64 c.k)
 c1 : w.cell? ⟨b, o + 1, none⟩ = some (.int .i64 c.a)
 c2 : w.cell? ⟨b, o + 2, none⟩ = some (.string c.nm)
 c3 : w.cell? ⟨b, o + 3, none⟩ = some (.string c.ot)
 ix : Tk.ELies w b (o + 4) c.ix
 ex : Tk.ELies w b (o + 9) c.ex
 c14 : w.cell? ⟨b, o + 14, none⟩ = some (.slice c.args.ad c.args.len c.args.cap)
 c15 : w.cell? ⟨b, o + 15, none⟩ = some (.slice c.th.ad c.th.len c.th.cap)
 c16 : w.cell? ⟨b, o + 16, none⟩ = some (.slice c.el.ad c.el.len c.el.cap)
structure Tk.LF (w : World) (b o : Nat) (f : Tk.F) : Prop where
 c0 : w.cell? ⟨b, o, none⟩ = some (.int .i64 f.a)
 c1 : w.cell? ⟨b, o + 1, none⟩ = some (.string f.nm)
 c2 : w.cell? ⟨b, o + 2, none⟩ = some (.slice f.ps.ad f.ps.len f.ps.cap)
 c3 : w.cell? ⟨b, o + 3, none⟩ = some (.slice f.vs.ad f.vs.len f.vs.cap)
 c4 : w.cell? ⟨b, o + 4, none⟩ = some (.slice f.cs.ad f.cs.len f.cs.cap)
 re : Tk.ELies w b (o + 5) f.re
def ZeF (w : World) (b o : Nat) (s : ByteArray) : Prop := w.cell? ⟨b, o, none⟩ = some (.string s)
def Zew (w : World) (b o : Nat) (v : ByteArray × Int) : Prop := w.cell? ⟨b, o, none⟩ = some (.string v.1) ∧ w.cell? ⟨b, o + 1, none⟩ = some (.int .i64 v.2)
def Zcv (s y : ByteArray) : Prop := s = y ∧ s.size ≤ maxLen
def Zfe (v y : ByteArray × Int) : Prop := v = y ∧ v.1.size ≤ maxLen
def Tk.RC (w : World) (m : Nat) : (n : Nat) → Tk.C → Zap m n → Prop
 | 0, _, _ => False
 | n + 1, c, x => ((c.k = x.1.1 ∧ c.a = x.1.2.1 ∧ c.nm = x.1.2.2.1 ∧ c.ot = x.1.2.2.2) ∧ c.nm.size ≤ maxLen ∧ c.ot.size ≤ maxLen) ∧
  (Tk.RE w m c.ix x.2.1.1 ∧ Tk.RE w m c.ex x.2.1.2.1 ∧ Tk.RS w 5 (Tk.ELies w) (Tk.RE w m) c.args x.2.1.2.2) ∧
  (Tk.RS w 17 (Tk.LC w) (Tk.RC w m n) c.th x.2.2.1 ∧ Tk.RS w 17 (Tk.LC w) (Tk.RC w m n) c.el x.2.2.2)
structure Tk.RF (w : World) (m n : Nat) (f : Tk.F) (x : Tk.FT m n) : Prop where
 a : f.a = x.a
 nm : f.nm = x.nm
 few : f.nm.size ≤ maxLen
 ps : Tk.RS w 1 (ZeF w) Zcv f.ps x.ps
 vs : Tk.RS w 2 (Zew w) Zfe f.vs x.vs
 cs : Tk.RS w 17 (Tk.LC w) (Tk.RC w m n) f.cs x.cs
 re : Tk.RE w m f.re x.re
abbrev Tk.RT (w : World) (m n : Nat) (s : Tk.Sl) (l : List (Tk.FT m n)) : Prop := Tk.RS w 10 (Tk.LF w) (Tk.RF w m n) s l
section
variable {w w' : World} {B : Nat}
theorem Tk.LC.later {b o : Nat} {c : Tk.C} (h : Tk.LC w b o c) (hb : Below B w w') (hB : w.heap.size ≤ B) (hlt : b < w.heap.size) : Tk.LC w' b o c := by
 have hc : ∀ j, w'.cell? ⟨b, j, none⟩ = w.cell? ⟨b, j, none⟩ := fun j => hb.cell (p := ⟨b, j, none⟩) (by show b < B; omega)
 exact ⟨by rw [hc]; exact h.c0, by rw [hc]; exact h.c1, by rw [hc]; exact h.c2, by rw [hc]; exact h.c3, h.ix.later hb hB hlt, h.ex.later hb hB hlt, by rw [hc]; exact h.c14, by rw [hc]; exact h.c15, by rw [hc]; exact h.c16⟩
theorem Tk.LF.later {b o : Nat} {f : Tk.F} (h : Tk.LF w b o f) (hb : Below B w w') (hB : w.heap.size ≤ B) (hlt : b < w.heap.size) : Tk.LF w' b o f := by
 have hc : ∀ j, w'.cell? ⟨b, j, none⟩ = w.cell? ⟨b, j, none⟩ := fun j => hb.cell (p := ⟨b, j, none⟩) (by show b < B; omega)
 exact ⟨by rw [hc]; exact h.c0, by rw [hc]; exact h.c1, by rw [hc]; exact h.c2, by rw [hc]; exact h.c3, by rw [hc]; exact h.c4, h.re.later hb hB hlt⟩
theorem Tk.RS.laterS {s : Tk.Sl} {l : List ByteArray} (h : Tk.RS w 1 (ZeF w) Zcv s l) (hb : Below B w w') (hB : w.heap.size ≤ B) : Tk.RS w' 1 (ZeF w') Zcv s l :=
 h.later hb.size (fun b o c hlt hl => (hb.cell (p := ⟨b, o, none⟩) (by show b < B; omega)).trans hl) (fun c y _ hr => hr)
theorem Tk.RS.laterV {s : Tk.Sl} {l : List (ByteArray × Int)} (h : Tk.RS w 2 (Zew w) Zfe s l) (hb : Below B w w') (hB : w.heap.size ≤ B) : Tk.RS w' 2 (Zew w') Zfe s l :=
 h.later hb.size (fun b o c hlt hl => ⟨(hb.cell (p := ⟨b, o, none⟩) (by show b < B; omega)).trans hl.1, (hb.cell (p := ⟨b, o + 1, none⟩) (by show b < B; omega)).trans hl.2⟩) (fun c y _ hr => hr)
theorem Tk.RC.later (hb : Below B w w') (hB : w.heap.size ≤ B) (m : Nat) : ∀ (n : Nat) {c : Tk.C} {x : Zap m n}, Tk.RC w m n c x → Tk.RC w' m n c x
 | 0, _, _, h => h
 | n + 1, _, _, h => ⟨h.1, ⟨h.2.1.1.later hb hB, h.2.1.2.1.later hb hB, h.2.1.2.2.laterE hb hB⟩, h.2.2.1.later hb.size (fun b o c hlt hl => hl.later hb hB hlt) (fun c y _ hr => Tk.RC.later hb hB m n hr), h.2.2.2.later hb.size (fun b o c hlt hl => hl.later hb hB hlt) (fun c y _ hr => Tk.RC.later hb hB m n hr)⟩
theorem Tk.RS.laterC {m n : Nat} {s : Tk.Sl} {l : List (Zap m n)} (h : Tk.RS w 17 (Tk.LC w) (Tk.RC w m n) s l) (hb : Below B w w') (hB : w.heap.size ≤ B) : Tk.RS w' 17 (Tk.LC w') (Tk.RC w' m n) s l :=
 h.later hb.size (fun b o c hlt hl => hl.later hb hB hlt) (fun c y _ hr => hr.later hb hB)
theorem Tk.RF.later {m n : Nat} {f : Tk.F} {x : Tk.FT m n} (h : Tk.RF w m n f x) (hb : Below B w w') (hB : w.heap.size ≤ B) : Tk.RF w' m n f x :=
 ⟨h.a, h.nm, h.few, h.ps.laterS hb hB, h.vs.laterV hb hB, h.cs.laterC hb hB, h.re.later hb hB⟩
theorem Tk.RT.later {m n : Nat} {s : Tk.Sl} {l : List (Tk.FT m n)} (h : Tk.RT w m n s l) (hb : Below B w w') (hB : w.heap.size ≤ B) : Tk.RT w' m n s l :=
 Tk.RS.later h hb.size (fun b o c hlt hl => hl.later hb hB hlt) (fun c y _ hr => hr.later hb hB)
end
def Tk.long {m n : Nat} (y : Zap m (n + 1)) : Bool := decide (3 < y.2.1.2.2.length) || decide (15 < Zab m y.2.1.1) || decide (15 < Zab m y.2.1.2.1) || y.2.1.2.2.any fun e => decide (15 < Zab m e)
def Zae {m : Nat} : (n : Nat) → (deep left : Int) → List (Zap m n) → Int
 | 0, _, left, _ => left
 | n + 1, deep, left, l => l.foldl (fun a y => if a ≤ 0 ∨ 5 < deep ∨ Tk.long y = true then -1 else Zae n (deep + 1) (Zae n (deep + 1) (a - 1) y.2.2.1) y.2.2.2) left
def ZaN {m n : Nat} : Int → List (Tk.FT m n) → Bool
 | _, [] => false
 | left, f :: r => decide (3 < f.ps.length) || decide (6 < f.vs.length) || decide (15 < Zab m f.re) || decide (Zae n 1 left f.cs < 0) || ZaN (Zae n 1 left f.cs) r
def Zcs {m n : Nat} (l : List (Tk.FT m n)) : Bool := decide (6 < l.length) || ZaN 40 l
def Zb3 : (n : Nat) → Zat n → Bool
 | 0, _ => false
 | _ + 1, x => decide (x.1.1 = 0) && decide (x.1.2.2.1 = 0) && x.1.2.2.2.toList.isEmpty && decide (x.2.length = 0)
def Zan (m : Nat) (x : Zat m) (named : Bool) : Bool := if named then Zac m x else Zb3 m x
def ZaS (k : Int) : Option (Bool × Bool × Bool × Bool × Bool × Bool × Bool) :=
 if k = 1 then some (true, false, false, true, false, false, false)
 else if k = 2 then some (true, false, true, true, false, false, false)
 else if k = 3 then some (true, true, false, false, true, false, false)
 else if k = 4 then some (true, false, false, false, false, false, false)
 else if k = 5 then some (false, false, false, true, false, false, false)
 else if k = 6 then some (false, false, false, true, false, true, true)
 else if k = 7 then some (false, false, false, true, false, true, false)
 else none
def Zaf {m : Nat} : (n : Nat) → Zap m n → Bool
 | 0, _ => false
 | n + 1, y => match ZaS y.1.1 with
  | none => false
  | some (f1, f2, f3, f4, f5, f6, f7) => Zar y.1.2.2.1 f1 && Zar y.1.2.2.2 f2 && Zan m y.2.1.1 f3 && Zan m y.2.1.2.1 f4 && (y.2.1.2.2.all (Zac m) && (f5 || decide (y.2.1.2.2.length = 0))) &&
   (y.2.2.1.all (Zaf n) && (f6 || decide (y.2.2.1.length = 0))) && (y.2.2.2.all (Zaf n) && (f7 || decide (y.2.2.2.length = 0)))
def Za5 (v : ByteArray × Int) : Bool := Zam v.1 && decide (0 ≤ v.2) && decide (v.2 ≤ 9999999)
def ZaR {m n : Nat} (f : Tk.FT m n) (isMain : Bool) : Bool := !(isMain && decide (0 < f.ps.length)) && f.ps.all Zam && f.vs.all Za5 && Zar f.nm (!isMain) && f.cs.all (Zaf n) && Zan m f.re (!isMain)
def ZaC {m n : Nat} : List (Tk.FT m n) → Bool
 | [] => true
 | f :: r => ZaR f r.isEmpty && ZaC r
def Zay {m n : Nat} (l : List (Tk.FT m n)) : Nat := if Zcs l = true then 2 else if (ZaC l && decide (0 < l.length)) = true then 0 else 1
end Go.Proofs.YtfccpddehpgfoaaGreatDoor
