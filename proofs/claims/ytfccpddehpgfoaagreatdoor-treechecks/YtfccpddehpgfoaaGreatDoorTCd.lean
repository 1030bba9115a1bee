/-
  Contracts of tree's parser: cmd. By the verifier.
-/
import Derived.Test.YtfccpddehpgfoaaGreatDoorTCh
import Derived.Deep.CutBlock
set_option maxRecDepth 100000
set_option maxHeartbeats 3200000
namespace Go.Proofs.YtfccpddehpgfoaaGreatDoor
open Go.RowKit
set_option linter.unusedVariables false
theorem Tryz.sizeTC : (Tryz.prog.info? 56).map (·.size) = some 17 := by kernel_rfl
section
variable (l : List Tp.T) (ta : Option Addr) (c bp : Nat) (e : Int)
theorem tcmd_step {n : Nat} (rec : Nat → Except Nat (Tk.CT 61 n × Nat)) (i : Nat) (HGo : ∀ i x j, rec i = .ok (x, j) → i < j)
  (HR : ∀ (i' : Nat) (W : World), i < i' → i' < l.length → Tp.J l ta c bp e W i' 0 → Calls Tryz.prog 188 #[.pointer (some ⟨bp, 0, none⟩)] W (Tp.Out l ta c bp e (Tp.D1 bp) W 0 (Tp.gC W.heap.size bp n) (rec i')))
  (w : World) (h : Tp.J l ta c bp e w i 0) :
  Calls Tryz.prog 188 #[.pointer (some ⟨bp, 0, none⟩)] w (Tp.Out l ta c bp e (Tp.D1 bp) w 0 (Tp.gC w.heap.size bp (n + 1)) (Tp.cmdF l e rec i)) := by
 obtain ⟨o, ho⟩ : ∃ o, Tp.cmdF l e rec i = o := ⟨_, rfl⟩
 rw [ho]
 have hlt := h.lt
 have HEQ := hide ho
 have HRC := hide HR
 have HG := hide HGo
 have hbA := (Below.refl w.heap.size w).alloc (Nat.le_refl _) (Obj.cells #[.int .i64 0, .int .i64 0, .string ⟨#[]⟩, .string ⟨#[]⟩, .int .i64 0, .int .i64 0, .int .i64 0, .string ⟨#[]⟩, .slice none 0 0, .int .i64 0, .int .i64 0, .int .i64 0, .string ⟨#[]⟩, .slice none 0 0, .slice none 0 0, .slice none 0 0, .slice none 0 0] 56)
 have HA := hide (tat_any l ta c bp e i 0 _ (h.below hbA))
 have HJ := hide (h.below hbA)
 have HB := hide hbA
 have hsa : (w.alloc (Obj.cells #[.int .i64 0, .int .i64 0, .string ⟨#[]⟩, .string ⟨#[]⟩, .int .i64 0, .int .i64 0, .int .i64 0, .string ⟨#[]⟩, .slice none 0 0, .int .i64 0, .int .i64 0, .int .i64 0, .string ⟨#[]⟩, .slice none 0 0, .slice none 0 0, .slice none 0 0, .slice none 0 0] 56)).heap.size = w.heap.size + 1 := by simp
 have HRX := hide (show ∀ j v, (Tk.C.new 0).cells[j]? = some v → (w.alloc (Obj.cells #[.int .i64 0, .int .i64 0, .string ⟨#[]⟩, .string ⟨#[]⟩, .int .i64 0, .int .i64 0, .int .i64 0, .string ⟨#[]⟩, .slice none 0 0, .int .i64 0, .int .i64 0, .int .i64 0, .string ⟨#[]⟩, .slice none 0 0, .slice none 0 0, .slice none 0 0, .slice none 0 0] 56)).cell? ⟨w.heap.size, j, none⟩ = some v from fun j v hj => by go_simp; simpa [Tk.C.new, Tk.C.cells, Tk.E.zero] using hj)
 have HRF := hide (show ∀ j, (w.alloc (Obj.cells #[.int .i64 0, .int .i64 0, .string ⟨#[]⟩, .string ⟨#[]⟩, .int .i64 0, .int .i64 0, .int .i64 0, .string ⟨#[]⟩, .slice none 0 0, .int .i64 0, .int .i64 0, .int .i64 0, .string ⟨#[]⟩, .slice none 0 0, .slice none 0 0, .slice none 0 0, .slice none 0 0] 56)).frozen? ⟨w.heap.size, j, none⟩ = false from fun j => by go_simp)
 clear h ho HR HGo hbA
 go_enter Tryz.func188, Tryz.ntmps188
 go_wp2_with fail
 generalize (w.alloc (Obj.cells #[.int .i64 0, .int .i64 0, .string ⟨#[]⟩, .string ⟨#[]⟩, .int .i64 0, .int .i64 0, .int .i64 0, .string ⟨#[]⟩, .slice none 0 0, .int .i64 0, .int .i64 0, .int .i64 0, .string ⟨#[]⟩, .slice none 0 0, .slice none 0 0, .slice none 0 0, .slice none 0 0] 56)) = wa at *
 refine (unhide HA).mono ?_
 rintro r w1 ⟨rfl, hb1⟩
 obtain ⟨a, ha⟩ : ∃ a, Tp.pl l e i = a := ⟨_, rfl⟩
 rw [ha]
 have HPL := hide ha
 have hs1 := hb1.size
 have hbN := (Below.refl w1.heap.size w1).alloc (Nat.le_refl _) (Obj.cells #[.int .i64 0, .int .i64 a, .string ⟨#[]⟩, .string ⟨#[]⟩, .int .i64 0, .int .i64 0, .int .i64 0, .string ⟨#[]⟩, .slice none 0 0, .int .i64 0, .int .i64 0, .int .i64 0, .string ⟨#[]⟩, .slice none 0 0, .slice none 0 0, .slice none 0 0, .slice none 0 0] 56)
 have hs2 : (w1.alloc (Obj.cells #[.int .i64 0, .int .i64 a, .string ⟨#[]⟩, .string ⟨#[]⟩, .int .i64 0, .int .i64 0, .int .i64 0, .string ⟨#[]⟩, .slice none 0 0, .int .i64 0, .int .i64 0, .int .i64 0, .string ⟨#[]⟩, .slice none 0 0, .slice none 0 0, .slice none 0 0, .slice none 0 0] 56)).heap.size = w1.heap.size + 1 := by simp
 have HC := hide (show Tp.Cb l ta c bp e (w1.alloc (Obj.cells #[.int .i64 0, .int .i64 a, .string ⟨#[]⟩, .string ⟨#[]⟩, .int .i64 0, .int .i64 0, .int .i64 0, .string ⟨#[]⟩, .slice none 0 0, .int .i64 0, .int .i64 0, .int .i64 0, .string ⟨#[]⟩, .slice none 0 0, .slice none 0 0, .slice none 0 0, .slice none 0 0] 56)) w1.heap.size (fun _ => True) (Tk.C.new a).cells i 0 (w1.alloc (Obj.cells #[.int .i64 0, .int .i64 a, .string ⟨#[]⟩, .string ⟨#[]⟩, .int .i64 0, .int .i64 0, .int .i64 0, .string ⟨#[]⟩, .slice none 0 0, .int .i64 0, .int .i64 0, .int .i64 0, .string ⟨#[]⟩, .slice none 0 0, .slice none 0 0, .slice none 0 0, .slice none 0 0] 56)) from
  ⟨((unhide HJ).below hb1).below hbN, Tp.Tu.refl _ _ _, fun j v hj => by go_simp; simpa [Tk.C.new, Tk.C.cells, Tk.E.zero] using hj, fun j => by go_simp, fun _ _ _ => trivial, ⟨by omega, by omega⟩⟩)
 have hbR : (w1.alloc (Obj.cells #[.int .i64 0, .int .i64 a, .string ⟨#[]⟩, .string ⟨#[]⟩, .int .i64 0, .int .i64 0, .int .i64 0, .string ⟨#[]⟩, .slice none 0 0, .int .i64 0, .int .i64 0, .int .i64 0, .string ⟨#[]⟩, .slice none 0 0, .slice none 0 0, .slice none 0 0, .slice none 0 0] 56)).heap[w.heap.size]? = wa.heap[w.heap.size]? := (hbN.block _ (by omega)).trans (hb1.block _ (by omega))
 have HX := hide (show (∀ j v, (Tk.C.new 0).cells[j]? = some v → (w1.alloc (Obj.cells #[.int .i64 0, .int .i64 a, .string ⟨#[]⟩, .string ⟨#[]⟩, .int .i64 0, .int .i64 0, .int .i64 0, .string ⟨#[]⟩, .slice none 0 0, .int .i64 0, .int .i64 0, .int .i64 0, .string ⟨#[]⟩, .slice none 0 0, .slice none 0 0, .slice none 0 0, .slice none 0 0] 56)).cell? ⟨w.heap.size, j, none⟩ = some v) ∧ ∀ j, (w1.alloc (Obj.cells #[.int .i64 0, .int .i64 a, .string ⟨#[]⟩, .string ⟨#[]⟩, .int .i64 0, .int .i64 0, .int .i64 0, .string ⟨#[]⟩, .slice none 0 0, .int .i64 0, .int .i64 0, .int .i64 0, .string ⟨#[]⟩, .slice none 0 0, .slice none 0 0, .slice none 0 0, .slice none 0 0] 56)).frozen? ⟨w.heap.size, j, none⟩ = false from
  ⟨fun j v hj => (World.cell?_of_block (a := ⟨w.heap.size, j, none⟩) hbR).trans ((unhide HRX) j v hj), fun j => (World.frozen?_of_block (a := ⟨w.heap.size, j, none⟩) hbR).trans ((unhide HRF) j)⟩)
 have HT0 := hide (((unhide HB).trans (hb1.mono (by omega))).trans (hbN.mono (by omega)))
 clear hb1 hbN hbR HA HJ HB HRX HRF ha
 go_upto_block 0 with fail
 generalize hw2 : (w1.alloc (Obj.cells #[.int .i64 0, .int .i64 a, .string ⟨#[]⟩, .string ⟨#[]⟩, .int .i64 0, .int .i64 0, .int .i64 0, .string ⟨#[]⟩, .slice none 0 0, .int .i64 0, .int .i64 0, .int .i64 0, .string ⟨#[]⟩, .slice none 0 0, .slice none 0 0, .slice none 0 0, .slice none 0 0] 56)) = w2 at *
 clear hw2
 generalize w1.heap.size = cb at *
 go_cut [] from 4 (fun W => ∃ (x : Tk.CT 61 (n + 1)) (j : Nat) (C : Tk.C), o = .ok (x, j) ∧ Tp.Cb l ta c bp e w2 cb (fun V => Tk.RC V 61 (n + 1) C x) C.cells j 0 W)
 case first =>
  go_wp2_with fail
  obtain ⟨y1, hy1⟩ : ∃ y, Tp.see l i ⟨#[112, 114, 105, 110, 116]⟩ = y := ⟨_, rfl⟩
  have HY1 := hide hy1
  refine (ttakeIf_any l ta c bp e ⟨#[112, 114, 105, 110, 116]⟩ (by decide) i 0 w2 (unhide HC).at_ y1 hy1).mono ?_
  rintro r w3 ⟨rfl, hj, ht⟩
  replace HC := hide ((unhide HC).step hj ht)
  clear hj ht hy1
  cases y1
  · replace HC := hide (show Tp.Cb l ta c bp e w2 cb (fun _ => True) ((Tk.C.mk 0 a ⟨#[]⟩ ⟨#[]⟩ Tk.E.zero Tk.E.zero ⟨none, 0, 0⟩ ⟨none, 0, 0⟩ ⟨none, 0, 0⟩)).cells i 0 w3 from unhide HC)
    go_wp2_with fail
    obtain ⟨y2, hy2⟩ : ∃ y, Tp.see l i ⟨#[105, 102]⟩ = y := ⟨_, rfl⟩
    have HY2 := hide hy2
    refine (ttakeIf_any l ta c bp e ⟨#[105, 102]⟩ (by decide) i 0 w3 (unhide HC).at_ y2 hy2).mono ?_
    rintro r w4 ⟨rfl, hj, ht⟩
    replace HC := hide ((unhide HC).step hj ht)
    clear hj ht hy2
    cases y2
    · replace HC := hide (show Tp.Cb l ta c bp e w2 cb (fun _ => True) ((Tk.C.mk 0 a ⟨#[]⟩ ⟨#[]⟩ Tk.E.zero Tk.E.zero ⟨none, 0, 0⟩ ⟨none, 0, 0⟩ ⟨none, 0, 0⟩)).cells i 0 w4 from unhide HC)
      go_wp2_with fail
      obtain ⟨y3, hy3⟩ : ∃ y, Tp.see l i ⟨#[119, 104, 105, 108, 101]⟩ = y := ⟨_, rfl⟩
      have HY3 := hide hy3
      refine (ttakeIf_any l ta c bp e ⟨#[119, 104, 105, 108, 101]⟩ (by decide) i 0 w4 (unhide HC).at_ y3 hy3).mono ?_
      rintro r w5 ⟨rfl, hj, ht⟩
      replace HC := hide ((unhide HC).step hj ht)
      clear hj ht hy3
      cases y3
      · replace HC := hide (show Tp.Cb l ta c bp e w2 cb (fun _ => True) ((Tk.C.mk 0 a ⟨#[]⟩ ⟨#[]⟩ Tk.E.zero Tk.E.zero ⟨none, 0, 0⟩ ⟨none, 0, 0⟩ ⟨none, 0, 0⟩)).cells i 0 w5 from unhide HC)
        go_wp2_with fail
        have hlc := (unhide HC).lt
        refine (tchange_any l ta c bp e (n := n) cb i w5 (unhide HC).at_ hlc.1 (by rw [unhide HPL]; exact (unhide HC).box) (unhide HC).fz).mono ?_
        intro r w6 h1
        cases hn : Tp.change l e (n := n) i with
        | error j =>
         rw [hn] at h1
         obtain ⟨rfl, ht⟩ := h1
         obtain rfl : o = .error j := by rw [← unhide HEQ]; simp only [Tp.cmdF, unhide HY1, unhide HY2, unhide HY3, Bool.false_eq_true, if_false, hn]
         have HT := hide ((Tp.Tu.of_below (unhide HT0)).trans (((unhide HC).tu.then ht hlc.2.2 (fun _ _ h => h)).mono (by omega) (fun q hq h => by rcases h with h | h; exact h; omega)))
         clear ht
         go_wp2_with fail
         exact ⟨rfl, rfl, unhide HT⟩
        | ok p =>
         obtain ⟨x, j⟩ := p
         rw [hn] at h1
         obtain ⟨⟨rfl, K, hkb, hkf, hko⟩, hj, ht⟩ := h1
         have HN1 := hide hn
         replace HC := hide (show Tp.Cb l ta c bp e w2 cb (fun W => Tk.RC W 61 (n + 1) K x) K.cells j 0 w6 from ⟨hj, (unhide HC).tu.then ht hlc.2.2 (fun _ _ h => h), hkb, hkf, hko.wide hlc.2.2 (by omega) (Or.inl (by omega)), hlc.1, hlc.2.1⟩)
         clear hj ht hn hkb hkf hko hlc
         go_wp2_with fail
         refine (twant_any l ta c bp e ⟨#[59]⟩ (by decide) (j) 0 w6 (unhide HC).at_).mono ?_
         intro r w7 h1
         cases hn : Tp.want l ⟨#[59]⟩ (j) with
         | error j =>
          rw [hn] at h1
          obtain ⟨rfl, ht⟩ := h1
          obtain rfl : o = .error j := by rw [← unhide HEQ]; simp only [Tp.cmdF, unhide HY1, unhide HY2, unhide HY3, Bool.false_eq_true, if_false, unhide HN1, hn]
          have HT := hide ((Tp.Tu.of_below (unhide HT0)).trans (((unhide HC).tu.then ht (unhide HC).lt.2.2 (fun _ _ h => Or.inl h)).mono (by omega) (fun q hq h => by rcases h with h | h; exact h; omega)))
          clear ht
          go_wp2_with fail
          exact ⟨rfl, rfl, unhide HT⟩
         | ok j2 =>
          rw [hn] at h1
          obtain ⟨rfl, hj, ht⟩ := h1
          have HN2 := hide hn
          replace HC := hide ((unhide HC).step hj ht)
          clear hj ht hn
          go_wp2_with fail
          obtain rfl : o = .ok (x, j2) := by rw [← unhide HEQ]; simp only [Tp.cmdF, unhide HY1, unhide HY2, unhide HY3, Bool.false_eq_true, if_false, unhide HN1, unhide HN2]
          go_meet
          case rel => exact ⟨x, j2, K, rfl, (unhide HC).imp (fun V h => h)⟩
      · have hc0 := (unhide HC).box 0 _ rfl
        have hz0 := (unhide HC).fz
        have HC2 := hide ((unhide HC).set 0 (.int .i64 7) ⟨_, rfl⟩ (cs' := ((Tk.C.mk 7 a ⟨#[]⟩ ⟨#[]⟩ Tk.E.zero Tk.E.zero ⟨none, 0, 0⟩ ⟨none, 0, 0⟩ ⟨none, 0, 0⟩)).cells) rfl)
        go_wp2_with fail
        clear hc0 hz0 HC
        generalize (w5.setCell ⟨cb, 0, none⟩ (.int .i64 7)) = wb at *
        have HC := HC2
        clear HC2
        refine (texpr_any l ta c bp e 61 0 (by omega) (by omega) (i + 1) wb (unhide HC).at_).mono ?_
        intro r wc h1
        cases hn : Tp.expr l e 61 0 (i + 1) with
        | error j =>
         rw [hn] at h1
         obtain ⟨rfl, ht⟩ := h1
         obtain rfl : o = .error j := by rw [← unhide HEQ]; simp only [Tp.cmdF, unhide HY1, unhide HY2, unhide HY3, if_true, Bool.false_eq_true, if_false, hn]
         have HT := hide ((Tp.Tu.of_below (unhide HT0)).trans (((unhide HC).tu.then ht (unhide HC).lt.2.2 (fun _ _ h => Or.inl h)).mono (by omega) (fun q hq h => by rcases h with h | h; exact h; omega)))
         clear ht
         go_wp2_with fail
         exact ⟨rfl, rfl, unhide HT⟩
        | ok p =>
         rw [hn] at h1
         obtain ⟨x, j⟩ := p
         obtain ⟨⟨F, rfl, hro⟩, hj, ht⟩ := h1
         have HN1 := hide hn
         replace HC := hide (((unhide HC).step hj ht).and hro (unhide HC).lt.2.2)
         clear hro
         clear hj ht hn
         have hc0 := (unhide HC).box 9 _ rfl
         have hc1 := (unhide HC).box 10 _ rfl
         have hc2 := (unhide HC).box 11 _ rfl
         have hc3 := (unhide HC).box 12 _ rfl
         have hc4 := (unhide HC).box 13 _ rfl
         have hz0 := (unhide HC).fz
         have HC2 := hide ((unhide HC).set5 9 F ⟨_, rfl⟩ ⟨_, rfl⟩ ⟨_, rfl⟩ ⟨_, rfl⟩ ⟨_, rfl⟩ (cs' := ((Tk.C.mk 7 a ⟨#[]⟩ ⟨#[]⟩ Tk.E.zero F ⟨none, 0, 0⟩ ⟨none, 0, 0⟩ ⟨none, 0, 0⟩)).cells) rfl)
         go_wp2_with fail
         clear hz0 hc0 hc1 hc2 hc3 hc4 HC
         generalize (((((wc.setCell ⟨cb, 9, none⟩ (.int .i64 F.k)).setCell ⟨cb, 10, none⟩ (.int .i64 F.a)).setCell ⟨cb, 11, none⟩ (.int .i64 F.n)).setCell ⟨cb, 12, none⟩ (.string F.nm)).setCell ⟨cb, 13, none⟩ (.slice F.args.ad F.args.len F.args.cap)) = wd at *
         have HC := HC2
         clear HC2
         have hgo : i < j := by have := Tp.expr_go 61 (unhide HN1); omega
         refine (tblock_any l ta c bp e rec (j) (unhide HG) (fun i' W h1 h2 hJ => (unhide HRC) i' W (by omega) h2 hJ) wd (unhide HC).at_).mono ?_
         intro r we h1
         cases hn : Tp.block l rec (j) with
         | error j =>
          rw [hn] at h1
          obtain ⟨rfl, ht⟩ := h1
          obtain rfl : o = .error j := by rw [← unhide HEQ]; simp only [Tp.cmdF, unhide HY1, unhide HY2, unhide HY3, if_true, Bool.false_eq_true, if_false, unhide HN1, hn]
          have HT := hide ((Tp.Tu.of_below (unhide HT0)).trans (((unhide HC).tu.then ht (unhide HC).lt.2.2 (fun _ _ h => Or.inl h)).mono (by omega) (fun q hq h => by rcases h with h | h; exact h; omega)))
          clear ht
          go_wp2_with fail
          exact ⟨rfl, rfl, unhide HT⟩
         | ok p =>
          rw [hn] at h1
          obtain ⟨th, j2⟩ := p
          obtain ⟨⟨s, rfl, hro⟩, hj, ht⟩ := h1
          have HN2 := hide hn
          replace HC := hide (((unhide HC).step hj ht).and hro (unhide HC).lt.2.2)
          clear hro
          clear hj ht hn
          obtain rfl : o = .ok (((7, a, ⟨#[]⟩, ⟨#[]⟩), (Tp.zE, x, []), (th, [])), j2) := by rw [← unhide HEQ]; simp only [Tp.cmdF, unhide HY1, unhide HY2, unhide HY3, if_true, Bool.false_eq_true, if_false, unhide HN1, unhide HN2, unhide HPL]
          have hc0 := (unhide HC).box 15 _ rfl
          have hz0 := (unhide HC).fz
          have HC2 := hide ((unhide HC).set 15 (.slice s.ad s.len s.cap) ⟨_, rfl⟩ (cs' := ((Tk.C.mk 7 a ⟨#[]⟩ ⟨#[]⟩ Tk.E.zero F ⟨none, 0, 0⟩ s ⟨none, 0, 0⟩)).cells) rfl)
          go_wp2_with fail
          go_meet
          case rel => exact ⟨((7, a, ⟨#[]⟩, ⟨#[]⟩), (Tp.zE, x, []), (th, [])), j2, (Tk.C.mk 7 a ⟨#[]⟩ ⟨#[]⟩ Tk.E.zero F ⟨none, 0, 0⟩ s ⟨none, 0, 0⟩), rfl, (unhide HC2).imp (fun V h => ⟨⟨⟨rfl, rfl, rfl, rfl⟩, (show (⟨#[]⟩ : ByteArray).size ≤ maxLen by decide), (show (⟨#[]⟩ : ByteArray).size ≤ maxLen by decide)⟩, ⟨Tp.zeroE_any V, h.1.2, Tp.rs_nil _ _ _ _⟩, h.2, Tp.rs_nil _ _ _ _⟩)⟩
    · have hc0 := (unhide HC).box 0 _ rfl
      have hz0 := (unhide HC).fz
      have HC2 := hide ((unhide HC).set 0 (.int .i64 6) ⟨_, rfl⟩ (cs' := ((Tk.C.mk 6 a ⟨#[]⟩ ⟨#[]⟩ Tk.E.zero Tk.E.zero ⟨none, 0, 0⟩ ⟨none, 0, 0⟩ ⟨none, 0, 0⟩)).cells) rfl)
      go_wp2_with fail
      clear hc0 hz0 HC
      generalize (w4.setCell ⟨cb, 0, none⟩ (.int .i64 6)) = wb at *
      have HC := HC2
      clear HC2
      refine (texpr_any l ta c bp e 61 0 (by omega) (by omega) (i + 1) wb (unhide HC).at_).mono ?_
      intro r wc h1
      cases hn : Tp.expr l e 61 0 (i + 1) with
      | error j =>
       rw [hn] at h1
       obtain ⟨rfl, ht⟩ := h1
       obtain rfl : o = .error j := by rw [← unhide HEQ]; simp only [Tp.cmdF, unhide HY1, unhide HY2, if_true, Bool.false_eq_true, if_false, hn]
       have HT := hide ((Tp.Tu.of_below (unhide HT0)).trans (((unhide HC).tu.then ht (unhide HC).lt.2.2 (fun _ _ h => Or.inl h)).mono (by omega) (fun q hq h => by rcases h with h | h; exact h; omega)))
       clear ht
       go_wp2_with fail
       exact ⟨rfl, rfl, unhide HT⟩
      | ok p =>
       rw [hn] at h1
       obtain ⟨x, j⟩ := p
       obtain ⟨⟨F, rfl, hro⟩, hj, ht⟩ := h1
       have HN1 := hide hn
       replace HC := hide (((unhide HC).step hj ht).and hro (unhide HC).lt.2.2)
       clear hro
       clear hj ht hn
       have hc0 := (unhide HC).box 9 _ rfl
       have hc1 := (unhide HC).box 10 _ rfl
       have hc2 := (unhide HC).box 11 _ rfl
       have hc3 := (unhide HC).box 12 _ rfl
       have hc4 := (unhide HC).box 13 _ rfl
       have hz0 := (unhide HC).fz
       have HC2 := hide ((unhide HC).set5 9 F ⟨_, rfl⟩ ⟨_, rfl⟩ ⟨_, rfl⟩ ⟨_, rfl⟩ ⟨_, rfl⟩ (cs' := ((Tk.C.mk 6 a ⟨#[]⟩ ⟨#[]⟩ Tk.E.zero F ⟨none, 0, 0⟩ ⟨none, 0, 0⟩ ⟨none, 0, 0⟩)).cells) rfl)
       go_wp2_with fail
       clear hz0 hc0 hc1 hc2 hc3 hc4 HC
       generalize (((((wc.setCell ⟨cb, 9, none⟩ (.int .i64 F.k)).setCell ⟨cb, 10, none⟩ (.int .i64 F.a)).setCell ⟨cb, 11, none⟩ (.int .i64 F.n)).setCell ⟨cb, 12, none⟩ (.string F.nm)).setCell ⟨cb, 13, none⟩ (.slice F.args.ad F.args.len F.args.cap)) = wd at *
       have HC := HC2
       clear HC2
       have hgo : i < j := by have := Tp.expr_go 61 (unhide HN1); omega
       refine (tblock_any l ta c bp e rec (j) (unhide HG) (fun i' W h1 h2 hJ => (unhide HRC) i' W (by omega) h2 hJ) wd (unhide HC).at_).mono ?_
       intro r we h1
       cases hn : Tp.block l rec (j) with
       | error j =>
        rw [hn] at h1
        obtain ⟨rfl, ht⟩ := h1
        obtain rfl : o = .error j := by rw [← unhide HEQ]; simp only [Tp.cmdF, unhide HY1, unhide HY2, if_true, Bool.false_eq_true, if_false, unhide HN1, hn]
        have HT := hide ((Tp.Tu.of_below (unhide HT0)).trans (((unhide HC).tu.then ht (unhide HC).lt.2.2 (fun _ _ h => Or.inl h)).mono (by omega) (fun q hq h => by rcases h with h | h; exact h; omega)))
        clear ht
        go_wp2_with fail
        exact ⟨rfl, rfl, unhide HT⟩
       | ok p =>
        rw [hn] at h1
        obtain ⟨th, j2⟩ := p
        obtain ⟨⟨s, rfl, hro⟩, hj, ht⟩ := h1
        have HN2 := hide hn
        replace HC := hide (((unhide HC).step hj ht).and hro (unhide HC).lt.2.2)
        clear hro
        clear hj ht hn
        have hc0 := (unhide HC).box 15 _ rfl
        have hz0 := (unhide HC).fz
        have HC2 := hide ((unhide HC).set 15 (.slice s.ad s.len s.cap) ⟨_, rfl⟩ (cs' := ((Tk.C.mk 6 a ⟨#[]⟩ ⟨#[]⟩ Tk.E.zero F ⟨none, 0, 0⟩ s ⟨none, 0, 0⟩)).cells) rfl)
        go_wp2_with fail
        clear hc0 hz0 HC
        generalize (we.setCell ⟨cb, 15, none⟩ (.slice s.ad s.len s.cap)) = wf at *
        have HC := HC2
        clear HC2
        obtain ⟨y4, hy4⟩ : ∃ y, Tp.see l j2 ⟨#[101, 108, 115, 101]⟩ = y := ⟨_, rfl⟩
        have HY4 := hide hy4
        refine (ttakeIf_any l ta c bp e ⟨#[101, 108, 115, 101]⟩ (by decide) j2 0 wf (unhide HC).at_ y4 hy4).mono ?_
        rintro r wg ⟨rfl, hj, ht⟩
        replace HC := hide ((unhide HC).step hj ht)
        clear hj ht hy4
        cases y4
        · replace HC := hide (show Tp.Cb l ta c bp e w2 cb (fun V => (True ∧ Tk.RE V 61 F x) ∧ Tk.RS V 17 (Tk.LC V) (Tk.RC V 61 n) s th) ((Tk.C.mk 6 a ⟨#[]⟩ ⟨#[]⟩ Tk.E.zero F ⟨none, 0, 0⟩ s ⟨none, 0, 0⟩)).cells j2 0 wg from unhide HC)
          go_wp2_with fail
          obtain rfl : o = .ok (((6, a, ⟨#[]⟩, ⟨#[]⟩), (Tp.zE, x, []), (th, [])), j2) := by rw [← unhide HEQ]; simp only [Tp.cmdF, unhide HY1, unhide HY2, if_true, Bool.false_eq_true, if_false, unhide HN1, unhide HN2, unhide HY4, unhide HPL]
          go_meet
          case rel => exact ⟨((6, a, ⟨#[]⟩, ⟨#[]⟩), (Tp.zE, x, []), (th, [])), j2, (Tk.C.mk 6 a ⟨#[]⟩ ⟨#[]⟩ Tk.E.zero F ⟨none, 0, 0⟩ s ⟨none, 0, 0⟩), rfl, (unhide HC).imp (fun V h => ⟨⟨⟨rfl, rfl, rfl, rfl⟩, (show (⟨#[]⟩ : ByteArray).size ≤ maxLen by decide), (show (⟨#[]⟩ : ByteArray).size ≤ maxLen by decide)⟩, ⟨Tp.zeroE_any V, h.1.2, Tp.rs_nil _ _ _ _⟩, h.2, Tp.rs_nil _ _ _ _⟩)⟩
        · go_wp2_with fail
          have hgo : i < j2 + 1 := by have := Tp.expr_go 61 (unhide HN1); have := Tp.block_go (unhide HG) (unhide HN2); omega
          refine (tblock_any l ta c bp e rec (j2 + 1) (unhide HG) (fun i' W h1 h2 hJ => (unhide HRC) i' W (by omega) h2 hJ) wg (unhide HC).at_).mono ?_
          intro r wh h1
          cases hn : Tp.block l rec (j2 + 1) with
          | error j =>
           rw [hn] at h1
           obtain ⟨rfl, ht⟩ := h1
           obtain rfl : o = .error j := by rw [← unhide HEQ]; simp only [Tp.cmdF, unhide HY1, unhide HY2, if_true, Bool.false_eq_true, if_false, unhide HN1, unhide HN2, unhide HY4, hn]
           have HT := hide ((Tp.Tu.of_below (unhide HT0)).trans (((unhide HC).tu.then ht (unhide HC).lt.2.2 (fun _ _ h => Or.inl h)).mono (by omega) (fun q hq h => by rcases h with h | h; exact h; omega)))
           clear ht
           go_wp2_with fail
           exact ⟨rfl, rfl, unhide HT⟩
          | ok p =>
           rw [hn] at h1
           obtain ⟨el, j3⟩ := p
           obtain ⟨⟨u, rfl, hro⟩, hj, ht⟩ := h1
           have HN3 := hide hn
           replace HC := hide (((unhide HC).step hj ht).and hro (unhide HC).lt.2.2)
           clear hro
           clear hj ht hn
           obtain rfl : o = .ok (((6, a, ⟨#[]⟩, ⟨#[]⟩), (Tp.zE, x, []), (th, el)), j3) := by rw [← unhide HEQ]; simp only [Tp.cmdF, unhide HY1, unhide HY2, if_true, Bool.false_eq_true, if_false, unhide HN1, unhide HN2, unhide HY4, unhide HN3, unhide HPL]
           have hc0 := (unhide HC).box 16 _ rfl
           have hz0 := (unhide HC).fz
           have HC2 := hide ((unhide HC).set 16 (.slice u.ad u.len u.cap) ⟨_, rfl⟩ (cs' := ((Tk.C.mk 6 a ⟨#[]⟩ ⟨#[]⟩ Tk.E.zero F ⟨none, 0, 0⟩ s u)).cells) rfl)
           go_wp2_with fail
           go_meet
           case rel => exact ⟨((6, a, ⟨#[]⟩, ⟨#[]⟩), (Tp.zE, x, []), (th, el)), j3, (Tk.C.mk 6 a ⟨#[]⟩ ⟨#[]⟩ Tk.E.zero F ⟨none, 0, 0⟩ s u), rfl, (unhide HC2).imp (fun V h => ⟨⟨⟨rfl, rfl, rfl, rfl⟩, (show (⟨#[]⟩ : ByteArray).size ≤ maxLen by decide), (show (⟨#[]⟩ : ByteArray).size ≤ maxLen by decide)⟩, ⟨Tp.zeroE_any V, h.1.1.2, Tp.rs_nil _ _ _ _⟩, h.1.2, h.2⟩)⟩
  · have hc0 := (unhide HC).box 0 _ rfl
    have hz0 := (unhide HC).fz
    have HC2 := hide ((unhide HC).set 0 (.int .i64 5) ⟨_, rfl⟩ (cs' := ((Tk.C.mk 5 a ⟨#[]⟩ ⟨#[]⟩ Tk.E.zero Tk.E.zero ⟨none, 0, 0⟩ ⟨none, 0, 0⟩ ⟨none, 0, 0⟩)).cells) rfl)
    go_wp2_with fail
    clear hc0 hz0 HC
    generalize (w3.setCell ⟨cb, 0, none⟩ (.int .i64 5)) = wb at *
    have HC := HC2
    clear HC2
    refine (texpr_any l ta c bp e 61 0 (by omega) (by omega) (i + 1) wb (unhide HC).at_).mono ?_
    intro r wc h1
    cases hn : Tp.expr l e 61 0 (i + 1) with
    | error j =>
     rw [hn] at h1
     obtain ⟨rfl, ht⟩ := h1
     obtain rfl : o = .error j := by rw [← unhide HEQ]; simp only [Tp.cmdF, unhide HY1, if_true, hn]
     have HT := hide ((Tp.Tu.of_below (unhide HT0)).trans (((unhide HC).tu.then ht (unhide HC).lt.2.2 (fun _ _ h => Or.inl h)).mono (by omega) (fun q hq h => by rcases h with h | h; exact h; omega)))
     clear ht
     go_wp2_with fail
     exact ⟨rfl, rfl, unhide HT⟩
    | ok p =>
     rw [hn] at h1
     obtain ⟨x, j⟩ := p
     obtain ⟨⟨F, rfl, hro⟩, hj, ht⟩ := h1
     have HN1 := hide hn
     replace HC := hide (((unhide HC).step hj ht).and hro (unhide HC).lt.2.2)
     clear hro
     clear hj ht hn
     have hc0 := (unhide HC).box 9 _ rfl
     have hc1 := (unhide HC).box 10 _ rfl
     have hc2 := (unhide HC).box 11 _ rfl
     have hc3 := (unhide HC).box 12 _ rfl
     have hc4 := (unhide HC).box 13 _ rfl
     have hz0 := (unhide HC).fz
     have HC2 := hide ((unhide HC).set5 9 F ⟨_, rfl⟩ ⟨_, rfl⟩ ⟨_, rfl⟩ ⟨_, rfl⟩ ⟨_, rfl⟩ (cs' := ((Tk.C.mk 5 a ⟨#[]⟩ ⟨#[]⟩ Tk.E.zero F ⟨none, 0, 0⟩ ⟨none, 0, 0⟩ ⟨none, 0, 0⟩)).cells) rfl)
     go_wp2_with fail
     clear hz0 hc0 hc1 hc2 hc3 hc4 HC
     generalize (((((wc.setCell ⟨cb, 9, none⟩ (.int .i64 F.k)).setCell ⟨cb, 10, none⟩ (.int .i64 F.a)).setCell ⟨cb, 11, none⟩ (.int .i64 F.n)).setCell ⟨cb, 12, none⟩ (.string F.nm)).setCell ⟨cb, 13, none⟩ (.slice F.args.ad F.args.len F.args.cap)) = wd at *
     have HC := HC2
     clear HC2
     refine (twant_any l ta c bp e ⟨#[59]⟩ (by decide) (j) 0 wd (unhide HC).at_).mono ?_
     intro r we h1
     cases hn : Tp.want l ⟨#[59]⟩ (j) with
     | error j =>
      rw [hn] at h1
      obtain ⟨rfl, ht⟩ := h1
      obtain rfl : o = .error j := by rw [← unhide HEQ]; simp only [Tp.cmdF, unhide HY1, if_true, unhide HN1, hn]
      have HT := hide ((Tp.Tu.of_below (unhide HT0)).trans (((unhide HC).tu.then ht (unhide HC).lt.2.2 (fun _ _ h => Or.inl h)).mono (by omega) (fun q hq h => by rcases h with h | h; exact h; omega)))
      clear ht
      go_wp2_with fail
      exact ⟨rfl, rfl, unhide HT⟩
     | ok j2 =>
      rw [hn] at h1
      obtain ⟨rfl, hj, ht⟩ := h1
      have HN2 := hide hn
      replace HC := hide ((unhide HC).step hj ht)
      clear hj ht hn
      go_wp2_with fail
      obtain rfl : o = .ok (((5, a, ⟨#[]⟩, ⟨#[]⟩), (Tp.zE, x, []), ([], [])), j2) := by rw [← unhide HEQ]; simp only [Tp.cmdF, unhide HY1, if_true, unhide HN1, unhide HN2, unhide HPL]
      go_meet
      case rel => exact ⟨((5, a, ⟨#[]⟩, ⟨#[]⟩), (Tp.zE, x, []), ([], [])), j2, (Tk.C.mk 5 a ⟨#[]⟩ ⟨#[]⟩ Tk.E.zero F ⟨none, 0, 0⟩ ⟨none, 0, 0⟩ ⟨none, 0, 0⟩), rfl, (unhide HC).imp (fun V h => ⟨⟨⟨rfl, rfl, rfl, rfl⟩, (show (⟨#[]⟩ : ByteArray).size ≤ maxLen by decide), (show (⟨#[]⟩ : ByteArray).size ≤ maxLen by decide)⟩, ⟨Tp.zeroE_any V, h.2, Tp.rs_nil _ _ _ _⟩, Tp.rs_nil _ _ _ _, Tp.rs_nil _ _ _ _⟩)⟩
 case rest =>
  obtain ⟨x, j, K, rfl, hC⟩ := hcut
  have HC := hide hC
  clear hC
  have hlc := (unhide HC).lt
  have hRb : wc.heap[w.heap.size]? = w2.heap[w.heap.size]? := (unhide HC).tu.block _ (by omega) (by omega)
  have hRx : ∀ j v, (Tk.C.new 0).cells[j]? = some v → wc.cell? ⟨w.heap.size, j, none⟩ = some v := fun j v hj => (World.cell?_of_block (a := ⟨w.heap.size, j, none⟩) hRb).trans ((unhide HX).1 j v hj)
  have hRf : ∀ j, wc.frozen? ⟨w.heap.size, j, none⟩ = false := fun j => (World.frozen?_of_block (a := ⟨w.heap.size, j, none⟩) hRb).trans ((unhide HX).2 j)
  have hRe : ∀ j, j < K.cells.size → ∃ u, wc.cell? ⟨w.heap.size, j, none⟩ = some u := fun j hj => ⟨_, hRx j _ (Array.getElem?_eq_getElem (show j < (Tk.C.new 0).cells.size from hj))⟩
  obtain ⟨hp, _, hsS, hkS, htS⟩ := Tp.put_at w.heap.size K.cells.toList 0 wc (fun j _ hj => hRe j (by simpa using hj))
  have hT := ((Tp.Tu.of_below (unhide HT0)).trans ((unhide HC).tu.mono (by omega) (D' := Tp.D1 bp) (fun q hq h => by rcases h with h | h; exact h; omega))).trans (htS _ _ (Nat.le_refl _))
  have hone : ∀ v ∈ K.cells.toList, v.oneCell' = true := fun v hv => by simp [Tk.C.cells] at hv; rcases hv with h | h | h | h | h | h | h | h | h | h | h | h | h | h | h | h | h <;> subst h <;> rfl
  go_upto_region 18 with fail
  refine Tp.handed (cs := K.cells) (cb := cb) (Rb := w.heap.size) (t := 45) (p := 3) (r := 2) rfl rfl rfl rfl rfl rfl rfl rfl (by simp) (by decide) (unhide HC).box hRe hRf hone Tryz.underlying56 rfl Tryz.sizeTC ?_
  go_wp2_with fail
  refine bodyPost_ret (Tp.handedR (cs := K.cells) (r := 2) rfl rfl hRe Tryz.underlying56 rfl Tryz.sizeTC) rfl ?_
  exact ⟨⟨K, rfl, ((unhide HC).own.go (by omega) (fun q h1 _ _ => hkS q (by omega))).wide (B' := w.heap.size) (g' := bp) (by omega) (by omega) (Or.inl (by omega))⟩, (unhide HC).at_.kept (by omega) (fun q hq => hkS q (by omega)), hT⟩
theorem tcmd_any : ∀ (n i : Nat) (w : World), i < l.length → l.length ≤ n + i → Tp.J l ta c bp e w i 0 →
  Calls Tryz.prog 188 #[.pointer (some ⟨bp, 0, none⟩)] w (Tp.Out l ta c bp e (Tp.D1 bp) w 0 (Tp.gC w.heap.size bp n) (Tp.cmd l e n i))
 | 0, i, w, h1, h2, _ => by omega
 | n + 1, i, w, h1, h2, h => tcmd_step l ta c bp e (Tp.cmd l e n) i (fun i x j h => Tp.cmd_go n h) (fun i' W h3 h4 hJ => tcmd_any n i' W h4 (by omega) hJ) w h
end
end Go.Proofs.YtfccpddehpgfoaaGreatDoor
