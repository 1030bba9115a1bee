/-
  Contracts of tree's parser: change. By the verifier.
-/
import Derived.Test.YtfccpddehpgfoaaGreatDoorTCm
import Derived.Test.YtfccpddehpgfoaaGreatDoorTLi
set_option maxRecDepth 100000
set_option maxHeartbeats 3200000
namespace Go.Proofs.YtfccpddehpgfoaaGreatDoor
open Go.RowKit
set_option linter.unusedVariables false
section
variable (l : List Tp.T) (ta : Option Addr) (c bp : Nat) (e : Int)
theorem tchange_any {n : Nat} (cb i : Nat) (w : World) (h : Tp.J l ta c bp e w i 0) (hcb : bp < cb) (hX : ∀ j v, (Tk.C.new (Tp.pl l e i)).cells[j]? = some v → w.cell? ⟨cb, j, none⟩ = some v) (hfz : ∀ j, w.frozen? ⟨cb, j, none⟩ = false) :
  Calls Tryz.prog 205 #[.pointer (some ⟨bp, 0, none⟩), .pointer (some ⟨cb, 0, none⟩)] w (Tp.Out l ta c bp e (fun q => q = bp ∨ q = cb) w 0 (Tp.gChg w.heap.size bp cb (n + 1)) (Tp.change l e (n := n) i)) := by
 obtain ⟨o, ho⟩ : ∃ o, Tp.change l e (n := n) i = o := ⟨_, rfl⟩
 rw [ho]
 have hlt := h.lt
 have hcl : cb < w.heap.size := World.block_lt_of_cell? w _ (hX 0 _ rfl)
 obtain ⟨a, ha⟩ : ∃ a, Tp.pl l e i = a := ⟨_, rfl⟩
 rw [ha] at hX
 have HPL := hide ha
 have HEQ := hide ho
 have hbA : Below w.heap.size w ((w.alloc (Obj.cells #[.pointer (some ⟨bp, 0, none⟩)] 159)).alloc (Obj.cells #[.pointer (some ⟨cb, 0, none⟩)] 219)) := ((Below.refl _ _).alloc (Nat.le_refl _) _).alloc (by simp) _
 have HC := hide (show Tp.Cb l ta c bp e w cb (Tp.Pb w.heap.size bp cb) (Tk.C.new a).cells i 0 ((w.alloc (Obj.cells #[.pointer (some ⟨bp, 0, none⟩)] 159)).alloc (Obj.cells #[.pointer (some ⟨cb, 0, none⟩)] 219)) from
  ⟨h.below hbA, Tp.Tu.of_below hbA, fun k v hk => (hbA.cell (p := ⟨cb, k, none⟩) hcl).trans (hX k v hk), fun k => (World.frozen?_of_block (a := ⟨cb, k, none⟩) (hbA.block cb hcl)).trans (hfz k),
   fun W' h1 h2 => ⟨(World.cell?_of_block (a := ⟨w.heap.size + 1, 0, none⟩) (h2 (w.heap.size + 1) (by omega) (by omega) (by simp))).trans (by simp), (World.cell?_of_block (a := ⟨w.heap.size, 0, none⟩) (h2 w.heap.size (by omega) (by omega) (by simp; omega))).trans (by simp)⟩, hcb, hcl⟩)
 clear h ho ha hX hfz hbA
 go_enter Tryz.func205, Tryz.ntmps205
 go_wp2_with fail
 generalize ((w.alloc (Obj.cells #[.pointer (some ⟨bp, 0, none⟩)] 159)).alloc (Obj.cells #[.pointer (some ⟨cb, 0, none⟩)] 219)) = w1 at *
 have hHeld : (fun V => Tp.Pb w.heap.size bp cb V) (w1).drew := (unhide HC).below (Below.refl _ _).drew |>.own.now
 have HCd := hide ((unhide HC).below (Below.refl _ _).drew)
 have HQ := hide (tname_any l ta c bp e i 0 w1.drew ((unhide HC).below (Below.refl _ _).drew).at_)
 refine Rq.begin (fun j => Nat.beq j 5) (fun V => Tp.Pb w.heap.size bp cb V) (by kernel_rfl) hHeld (fun hHeld hcl => ?_)
 generalize (w1).drew = w1d at *
 refine Rq.tk 0 (.pointer (some ⟨cb, 0, none⟩)) Rq.z (by kernel_rfl) (by kernel_rfl) (by kernel_rfl) (by kernel_rfl) (fun _ _ _ h => h) (by assumption) (by assumption) (by rfl) (fun w hSw => by (try dsimp only at hSw); obtain ⟨hA, hB⟩ := hSw; go_simp) (fun hcl => ?_)
 (try simp only [Act.put, List.setIfInBounds_toArray, List.set_cons_zero, List.set_cons_succ])
 refine Rq.tk 1 (.pointer (some ⟨bp, 0, none⟩)) (Rq.s Rq.z) (by kernel_rfl) (by kernel_rfl) (by kernel_rfl) (by kernel_rfl) (fun _ _ _ h => h) (by assumption) (by assumption) (by rfl) (fun w hSw => by (try dsimp only at hSw); obtain ⟨hA, hB⟩ := hSw; go_simp) (fun hcl => ?_)
 (try simp only [Act.put, List.setIfInBounds_toArray, List.set_cons_zero, List.set_cons_succ])
 refine Rq.on 2 (Rq.s (Rq.s Rq.z)) (by kernel_rfl) (by assumption) (fun K hK => ?_)
 go_simp
 go_at_call 151
 refine (unhide HQ).mono ?_
 intro r w2 h1
 cases hn : Tp.name l i with
 | error j =>
  rw [hn] at h1
  obtain ⟨rfl, ht⟩ := h1
  obtain rfl : o = .error j := by rw [← unhide HEQ]; simp only [Tp.change, hn]
  have HT := hide ((unhide HCd).tu.then ht (unhide HCd).lt.2.2 (fun _ _ h => Or.inl h))
  clear ht hK
  go_simp
  exact ⟨rfl, rfl, unhide HT⟩
 | ok p =>
  obtain ⟨x, j⟩ := p
  rw [hn] at h1
  obtain ⟨⟨rfl, hnm⟩, hj, ht⟩ := h1
  have HN1 := hide hn
  have HNM := hide hnm
  have HCx := hide ((unhide HCd).step hj ht)
  clear hn hnm
  have hp1 := (unhide HCx).own.now
  clear hj ht hHeld hcl HCd HC HQ
  go_simp
  refine hK _ _ (fun _ => hp1) (fun hcl => ?_)
  (try simp only [Act.put, List.setIfInBounds_toArray, List.set_cons_zero, List.set_cons_succ])
  clear hK K
  refine Rq.on 3 (Rq.s (Rq.s (Rq.s Rq.z))) (by kernel_rfl) (by assumption) (fun K hK => ?_)
  go_simp
  refine hK _ _ (fun _ => hp1) (fun hcl => ?_)
  (try simp only [Act.put, List.setIfInBounds_toArray, List.set_cons_zero, List.set_cons_succ])
  clear hK K
  refine Rq.on 4 (Rq.s (Rq.s (Rq.s (Rq.s Rq.z)))) (by kernel_rfl) (by assumption) (fun K hK => ?_)
  go_simp
  refine hK _ _ (fun _ => hp1) (fun hcl => ?_)
  (try simp only [Act.put, List.setIfInBounds_toArray, List.set_cons_zero, List.set_cons_succ])
  clear hK K
  refine Rq.on 5 (Rq.s (Rq.s (Rq.s (Rq.s (Rq.s Rq.z))))) (by kernel_rfl) (by assumption) (fun K hK => ?_)
  have hc0 := (unhide HCx).box 2 _ rfl
  have hz0 := (unhide HCx).fz
  go_simp
  have HC2 := hide ((unhide HCx).set 2 (.string x) ⟨_, rfl⟩ (cs' := ((Tk.C.mk 0 a x ⟨#[]⟩ Tk.E.zero Tk.E.zero ⟨none, 0, 0⟩ ⟨none, 0, 0⟩ ⟨none, 0, 0⟩)).cells) rfl)
  clear hc0 hz0 HCx
  refine hK _ _ (fun e => absurd e (by decide)) (fun hcl => ?_)
  (try simp only [Act.put, List.setIfInBounds_toArray, List.set_cons_zero, List.set_cons_succ])
  refine Rq.done (by kernel_rfl) ?_ _
  clear hK K hp1 hcl
  generalize (w2.setCell ⟨cb, 2, none⟩ (.string x)) = w3 at *
  have HC := HC2
  clear HC2
  obtain ⟨hb0, hb1⟩ := (unhide HC).own.now
  obtain ⟨nm, rfl⟩ : ∃ nm, nm = x := ⟨x, rfl⟩
  obtain ⟨i1, rfl⟩ : ∃ i1, i1 = j := ⟨j, rfl⟩
  obtain ⟨y1, hy1⟩ : ∃ y, Tp.see l i1 ⟨#[91]⟩ = y := ⟨_, rfl⟩
  have HY1 := hide hy1
  go_wp2_with fail
  refine (tsees_any l ta c bp e ⟨#[91]⟩ i1 0 w3 (unhide HC).at_ y1 hy1).mono ?_
  rintro r w4 ⟨rfl, hb4⟩
  replace HC := hide ((unhide HC).below hb4)
  clear hb4 hy1 hb0 hb1
  obtain ⟨hb0, hb1⟩ := (unhide HC).own.now
  cases y1
  · go_wp2_with fail
    refine (twant_any l ta c bp e ⟨#[61]⟩ (by decide) i1 0 w4 (unhide HC).at_).mono ?_
    intro r w5 h1
    cases hn : Tp.want l ⟨#[61]⟩ i1 with
    | error j =>
     rw [hn] at h1
     obtain ⟨rfl, ht⟩ := h1
     obtain rfl : o = .error j := by rw [← unhide HEQ]; simp only [Tp.change, unhide HN1, unhide HY1, Bool.false_eq_true, if_false, hn]
     have HT := hide ((unhide HC).tu.then ht (unhide HC).lt.2.2 (fun _ _ h => Or.inl h))
     clear ht
     go_wp2_with fail
     exact ⟨rfl, rfl, unhide HT⟩
    | ok i2 =>
     rw [hn] at h1
     obtain ⟨rfl, hj, ht⟩ := h1
     have HNi2 := hide hn
     replace HC := hide ((unhide HC).step hj ht)
     clear hj ht hn hb0 hb1
     obtain ⟨hb0, hb1⟩ := (unhide HC).own.now
     obtain ⟨y2, hy2⟩ : ∃ y, Tp.see l i2 ⟨#[114, 101, 97, 100]⟩ = y := ⟨_, rfl⟩
     have HY2 := hide hy2
     go_wp2_with fail
     refine (ttakeIf_any l ta c bp e ⟨#[114, 101, 97, 100]⟩ (by decide) i2 0 w5 (unhide HC).at_ y2 hy2).mono ?_
     rintro r w6 ⟨rfl, hj, ht⟩
     replace HC := hide ((unhide HC).step hj ht)
     clear hj ht hy2 hb0 hb1
     obtain ⟨hb0, hb1⟩ := (unhide HC).own.now
     cases y2
     · replace HC := hide (show Tp.Cb l ta c bp e w cb (Tp.Pb w.heap.size bp cb) ((Tk.C.mk 0 a nm ⟨#[]⟩ Tk.E.zero Tk.E.zero ⟨none, 0, 0⟩ ⟨none, 0, 0⟩ ⟨none, 0, 0⟩)).cells i2 0 w6 by simpa using unhide HC)
       obtain ⟨y3, hy3⟩ : ∃ y, Tp.isN l i2 = y := ⟨_, rfl⟩
       have HY3 := hide hy3
       go_wp2_with fail
       refine (tseesN_any l ta c bp e i2 0 w6 (unhide HC).at_ y3 hy3).mono ?_
       rintro r w7 ⟨rfl, hb7⟩
       replace HC := hide ((unhide HC).below hb7)
       clear hb7 hy3 hb0 hb1
       obtain ⟨hb0, hb1⟩ := (unhide HC).own.now
       cases y3
       · have hc0 := (unhide HC).box 0 _ rfl
         have hz0 := (unhide HC).fz
         have HC2 := hide ((unhide HC).set 0 (.int .i64 1) ⟨_, rfl⟩ (cs' := ((Tk.C.mk 1 a nm ⟨#[]⟩ Tk.E.zero Tk.E.zero ⟨none, 0, 0⟩ ⟨none, 0, 0⟩ ⟨none, 0, 0⟩)).cells) rfl)
         go_wp2_with fail
         clear hc0 hz0 HC hb0 hb1
         generalize (w7.setCell ⟨cb, 0, none⟩ (.int .i64 1)) = wa at *
         have HC := HC2
         clear HC2
         obtain ⟨hb0, hb1⟩ := (unhide HC).own.now
         have hHeld : (fun V => Tp.Pb w.heap.size bp cb V) (wa).drew := (unhide HC).below (Below.refl _ _).drew |>.own.now
         have HCd := hide ((unhide HC).below (Below.refl _ _).drew)
         have HQ := hide (texpr_any l ta c bp e 61 0 (by omega) (by omega) i2 wa.drew ((unhide HC).below (Below.refl _ _).drew).at_)
         refine Rq.begin (fun j => Nat.beq j 5) (fun V => Tp.Pb w.heap.size bp cb V) (by kernel_rfl) hHeld (fun hHeld hcl => ?_)
         generalize (wa).drew = wad at *
         refine Rq.tk 0 (.pointer (some ⟨cb, 0, none⟩)) Rq.z (by kernel_rfl) (by kernel_rfl) (by kernel_rfl) (by kernel_rfl) (fun _ _ _ h => h) (by assumption) (by assumption) (by rfl) (fun w hSw => by (try dsimp only at hSw); obtain ⟨hA, hB⟩ := hSw; go_simp) (fun hcl => ?_)
         (try simp only [Act.put, List.setIfInBounds_toArray, List.set_cons_zero, List.set_cons_succ])
         refine Rq.tk 1 (.pointer (some ⟨bp, 0, none⟩)) (Rq.s Rq.z) (by kernel_rfl) (by kernel_rfl) (by kernel_rfl) (by kernel_rfl) (fun _ _ _ h => h) (by assumption) (by assumption) (by rfl) (fun w hSw => by (try dsimp only at hSw); obtain ⟨hA, hB⟩ := hSw; go_simp) (fun hcl => ?_)
         (try simp only [Act.put, List.setIfInBounds_toArray, List.set_cons_zero, List.set_cons_succ])
         refine Rq.on 2 (Rq.s (Rq.s Rq.z)) (by kernel_rfl) (by assumption) (fun K hK => ?_)
         go_simp
         go_at_call 156
         refine (unhide HQ).mono ?_
         intro r wb h1
         cases hn : Tp.expr l e 61 0 i2 with
         | error j =>
          rw [hn] at h1
          obtain ⟨rfl, ht⟩ := h1
          obtain rfl : o = .error j := by rw [← unhide HEQ]; simp only [Tp.change, unhide HN1, unhide HY1, Bool.false_eq_true, if_false, unhide HNi2, unhide HY2, unhide HY3, Bool.false_and, hn]
          have HT := hide ((unhide HCd).tu.then ht (unhide HCd).lt.2.2 (fun _ _ h => Or.inl h))
          clear ht hK
          go_simp
          exact ⟨rfl, rfl, unhide HT⟩
         | ok p =>
          obtain ⟨x, j⟩ := p
          rw [hn] at h1
          obtain ⟨⟨F, rfl, hro⟩, hj, ht⟩ := h1
          have HNX := hide hn
          have HCx := hide (((unhide HCd).step hj ht).and hro (unhide HCd).lt.2.2)
          clear hn hro
          have hp1 := (unhide HCx).own.now.1
          clear hj ht hHeld hcl HCd HC HQ
          go_simp
          refine hK _ _ (fun _ => hp1) (fun hcl => ?_)
          (try simp only [Act.put, List.setIfInBounds_toArray, List.set_cons_zero, List.set_cons_succ])
          clear hK K
          refine Rq.on 3 (Rq.s (Rq.s (Rq.s Rq.z))) (by kernel_rfl) (by assumption) (fun K hK => ?_)
          go_simp
          refine hK _ _ (fun _ => hp1) (fun hcl => ?_)
          (try simp only [Act.put, List.setIfInBounds_toArray, List.set_cons_zero, List.set_cons_succ])
          clear hK K
          refine Rq.on 4 (Rq.s (Rq.s (Rq.s (Rq.s Rq.z)))) (by kernel_rfl) (by assumption) (fun K hK => ?_)
          go_simp
          refine hK _ _ (fun _ => hp1) (fun hcl => ?_)
          (try simp only [Act.put, List.setIfInBounds_toArray, List.set_cons_zero, List.set_cons_succ])
          clear hK K
          refine Rq.on 5 (Rq.s (Rq.s (Rq.s (Rq.s (Rq.s Rq.z))))) (by kernel_rfl) (by assumption) (fun K hK => ?_)
          have hz0 := (unhide HCx).fz
          have hc0 := (unhide HCx).box 9 _ rfl
          have hc1 := (unhide HCx).box 10 _ rfl
          have hc2 := (unhide HCx).box 11 _ rfl
          have hc3 := (unhide HCx).box 12 _ rfl
          have hc4 := (unhide HCx).box 13 _ rfl
          go_simp
          have HC2 := hide ((unhide HCx).set5 9 F ⟨_, rfl⟩ ⟨_, rfl⟩ ⟨_, rfl⟩ ⟨_, rfl⟩ ⟨_, rfl⟩ (cs' := ((Tk.C.mk 1 a nm ⟨#[]⟩ Tk.E.zero F ⟨none, 0, 0⟩ ⟨none, 0, 0⟩ ⟨none, 0, 0⟩)).cells) rfl)
          clear hz0 hc0 hc1 hc2 hc3 hc4 HCx
          refine hK _ _ (fun e => absurd e (by decide)) (fun hcl => ?_)
          (try simp only [Act.put, List.setIfInBounds_toArray, List.set_cons_zero, List.set_cons_succ])
          refine Rq.done (by kernel_rfl) ?_ _
          clear hK K hp1 hcl
          generalize (((((wb.setCell ⟨cb, 9, none⟩ (.int .i64 F.k)).setCell ⟨cb, 10, none⟩ (.int .i64 F.a)).setCell ⟨cb, 11, none⟩ (.int .i64 F.n)).setCell ⟨cb, 12, none⟩ (.string F.nm)).setCell ⟨cb, 13, none⟩ (.slice F.args.ad F.args.len F.args.cap)) = wc at *
          have HC := HC2
          clear HC2
          obtain ⟨hb0, hb1⟩ := (unhide HC).own.now.1
          obtain rfl : o = .ok (((1, a, nm, ⟨#[]⟩), (Tp.zE, x, []), ([], [])), j) := by rw [← unhide HEQ]; simp only [Tp.change, unhide HN1, unhide HY1, Bool.false_eq_true, if_false, unhide HNi2, unhide HY2, unhide HY3, Bool.false_and, unhide HNX, unhide HPL]
          go_wp2_with fail
          go_end0
          exact ⟨⟨rfl, _, (unhide HC).box, (unhide HC).fz, fun W' h1 h2 => ⟨⟨⟨rfl, rfl, rfl, rfl⟩, unhide HNM, (show (⟨#[]⟩ : ByteArray).size ≤ maxLen by decide)⟩, ⟨Tp.zeroE_any W', ((unhide HC).own W' h1 h2).2, Tp.rs_nil _ _ _ _⟩, Tp.rs_nil _ _ _ _, Tp.rs_nil _ _ _ _⟩⟩, (unhide HC).at_, (unhide HC).tu⟩
       · have HA := hide (tahead_any l ta c bp e 1 (by omega) i2 0 _ (unhide HC).at_)
         obtain ⟨y4, hy4⟩ : ∃ y, Tp.see l (i2 + 1) ⟨#[40]⟩ = y := ⟨_, rfl⟩
         have HY4 := hide hy4
         unfold Tp.see at hy4
         obtain ⟨t, htk⟩ : ∃ t, Tp.tk l (i2 + 1) = t := ⟨_, rfl⟩
         rw [htk] at HA hy4
         rw [show (⟨#[40]⟩ : ByteArray).toList = [40] from by rw [ByteArray.toList_mk]] at hy4
         have hfd : ∀ W : World, (Instr.field 63 (.agg #[.int .i64 t.k, .int .i64 t.a, .string t.t]) 2).run Tryz.prog W = .ok (.string t.t) W := fun _ => by kernel_rfl
         go_wp2_with fail
         refine (unhide HA).mono ?_
         rintro r w8 ⟨rfl, hb8⟩
         replace HC := hide ((unhide HC).below hb8)
         clear hb8 HA hb0 hb1 htk
         obtain ⟨hb0, hb1⟩ := (unhide HC).own.now
         cases y4
         · have hc0 := (unhide HC).box 0 _ rfl
           have hz0 := (unhide HC).fz
           have HC2 := hide ((unhide HC).set 0 (.int .i64 1) ⟨_, rfl⟩ (cs' := ((Tk.C.mk 1 a nm ⟨#[]⟩ Tk.E.zero Tk.E.zero ⟨none, 0, 0⟩ ⟨none, 0, 0⟩ ⟨none, 0, 0⟩)).cells) rfl)
           go_wp2_with fail
           clear hc0 hz0 HC hb0 hb1
           generalize (w8.setCell ⟨cb, 0, none⟩ (.int .i64 1)) = wa at *
           have HC := HC2
           clear HC2
           obtain ⟨hb0, hb1⟩ := (unhide HC).own.now
           have hHeld : (fun V => Tp.Pb w.heap.size bp cb V) (wa).drew := (unhide HC).below (Below.refl _ _).drew |>.own.now
           have HCd := hide ((unhide HC).below (Below.refl _ _).drew)
           have HQ := hide (texpr_any l ta c bp e 61 0 (by omega) (by omega) i2 wa.drew ((unhide HC).below (Below.refl _ _).drew).at_)
           refine Rq.begin (fun j => Nat.beq j 5) (fun V => Tp.Pb w.heap.size bp cb V) (by kernel_rfl) hHeld (fun hHeld hcl => ?_)
           generalize (wa).drew = wad at *
           refine Rq.tk 0 (.pointer (some ⟨cb, 0, none⟩)) Rq.z (by kernel_rfl) (by kernel_rfl) (by kernel_rfl) (by kernel_rfl) (fun _ _ _ h => h) (by assumption) (by assumption) (by rfl) (fun w hSw => by (try dsimp only at hSw); obtain ⟨hA, hB⟩ := hSw; go_simp) (fun hcl => ?_)
           (try simp only [Act.put, List.setIfInBounds_toArray, List.set_cons_zero, List.set_cons_succ])
           refine Rq.tk 1 (.pointer (some ⟨bp, 0, none⟩)) (Rq.s Rq.z) (by kernel_rfl) (by kernel_rfl) (by kernel_rfl) (by kernel_rfl) (fun _ _ _ h => h) (by assumption) (by assumption) (by rfl) (fun w hSw => by (try dsimp only at hSw); obtain ⟨hA, hB⟩ := hSw; go_simp) (fun hcl => ?_)
           (try simp only [Act.put, List.setIfInBounds_toArray, List.set_cons_zero, List.set_cons_succ])
           refine Rq.on 2 (Rq.s (Rq.s Rq.z)) (by kernel_rfl) (by assumption) (fun K hK => ?_)
           go_simp
           go_at_call 156
           refine (unhide HQ).mono ?_
           intro r wb h1
           cases hn : Tp.expr l e 61 0 i2 with
           | error j =>
            rw [hn] at h1
            obtain ⟨rfl, ht⟩ := h1
            obtain rfl : o = .error j := by rw [← unhide HEQ]; simp only [Tp.change, unhide HN1, unhide HY1, Bool.false_eq_true, if_false, unhide HNi2, unhide HY2, unhide HY3, unhide HY4, Bool.true_and, hn]
            have HT := hide ((unhide HCd).tu.then ht (unhide HCd).lt.2.2 (fun _ _ h => Or.inl h))
            clear ht hK
            go_simp
            exact ⟨rfl, rfl, unhide HT⟩
           | ok p =>
            obtain ⟨x, j⟩ := p
            rw [hn] at h1
            obtain ⟨⟨F, rfl, hro⟩, hj, ht⟩ := h1
            have HNX := hide hn
            have HCx := hide (((unhide HCd).step hj ht).and hro (unhide HCd).lt.2.2)
            clear hn hro
            have hp1 := (unhide HCx).own.now.1
            clear hj ht hHeld hcl HCd HC HQ
            go_simp
            refine hK _ _ (fun _ => hp1) (fun hcl => ?_)
            (try simp only [Act.put, List.setIfInBounds_toArray, List.set_cons_zero, List.set_cons_succ])
            clear hK K
            refine Rq.on 3 (Rq.s (Rq.s (Rq.s Rq.z))) (by kernel_rfl) (by assumption) (fun K hK => ?_)
            go_simp
            refine hK _ _ (fun _ => hp1) (fun hcl => ?_)
            (try simp only [Act.put, List.setIfInBounds_toArray, List.set_cons_zero, List.set_cons_succ])
            clear hK K
            refine Rq.on 4 (Rq.s (Rq.s (Rq.s (Rq.s Rq.z)))) (by kernel_rfl) (by assumption) (fun K hK => ?_)
            go_simp
            refine hK _ _ (fun _ => hp1) (fun hcl => ?_)
            (try simp only [Act.put, List.setIfInBounds_toArray, List.set_cons_zero, List.set_cons_succ])
            clear hK K
            refine Rq.on 5 (Rq.s (Rq.s (Rq.s (Rq.s (Rq.s Rq.z))))) (by kernel_rfl) (by assumption) (fun K hK => ?_)
            have hz0 := (unhide HCx).fz
            have hc0 := (unhide HCx).box 9 _ rfl
            have hc1 := (unhide HCx).box 10 _ rfl
            have hc2 := (unhide HCx).box 11 _ rfl
            have hc3 := (unhide HCx).box 12 _ rfl
            have hc4 := (unhide HCx).box 13 _ rfl
            go_simp
            have HC2 := hide ((unhide HCx).set5 9 F ⟨_, rfl⟩ ⟨_, rfl⟩ ⟨_, rfl⟩ ⟨_, rfl⟩ ⟨_, rfl⟩ (cs' := ((Tk.C.mk 1 a nm ⟨#[]⟩ Tk.E.zero F ⟨none, 0, 0⟩ ⟨none, 0, 0⟩ ⟨none, 0, 0⟩)).cells) rfl)
            clear hz0 hc0 hc1 hc2 hc3 hc4 HCx
            refine hK _ _ (fun e => absurd e (by decide)) (fun hcl => ?_)
            (try simp only [Act.put, List.setIfInBounds_toArray, List.set_cons_zero, List.set_cons_succ])
            refine Rq.done (by kernel_rfl) ?_ _
            clear hK K hp1 hcl
            generalize (((((wb.setCell ⟨cb, 9, none⟩ (.int .i64 F.k)).setCell ⟨cb, 10, none⟩ (.int .i64 F.a)).setCell ⟨cb, 11, none⟩ (.int .i64 F.n)).setCell ⟨cb, 12, none⟩ (.string F.nm)).setCell ⟨cb, 13, none⟩ (.slice F.args.ad F.args.len F.args.cap)) = wc at *
            have HC := HC2
            clear HC2
            obtain ⟨hb0, hb1⟩ := (unhide HC).own.now.1
            obtain rfl : o = .ok (((1, a, nm, ⟨#[]⟩), (Tp.zE, x, []), ([], [])), j) := by rw [← unhide HEQ]; simp only [Tp.change, unhide HN1, unhide HY1, Bool.false_eq_true, if_false, unhide HNi2, unhide HY2, unhide HY3, unhide HY4, Bool.true_and, unhide HNX, unhide HPL]
            go_wp2_with fail
            go_end0
            exact ⟨⟨rfl, _, (unhide HC).box, (unhide HC).fz, fun W' h1 h2 => ⟨⟨⟨rfl, rfl, rfl, rfl⟩, unhide HNM, (show (⟨#[]⟩ : ByteArray).size ≤ maxLen by decide)⟩, ⟨Tp.zeroE_any W', ((unhide HC).own W' h1 h2).2, Tp.rs_nil _ _ _ _⟩, Tp.rs_nil _ _ _ _, Tp.rs_nil _ _ _ _⟩⟩, (unhide HC).at_, (unhide HC).tu⟩
         · have hc0 := (unhide HC).box 0 _ rfl
           have hz0 := (unhide HC).fz
           have HC2 := hide ((unhide HC).set 0 (.int .i64 3) ⟨_, rfl⟩ (cs' := ((Tk.C.mk 3 a nm ⟨#[]⟩ Tk.E.zero Tk.E.zero ⟨none, 0, 0⟩ ⟨none, 0, 0⟩ ⟨none, 0, 0⟩)).cells) rfl)
           go_wp2_with fail
           clear hc0 hz0 HC hb0 hb1
           generalize (w8.setCell ⟨cb, 0, none⟩ (.int .i64 3)) = wa at *
           have HC := HC2
           clear HC2
           obtain ⟨hb0, hb1⟩ := (unhide HC).own.now
           have hHeld : (fun V => Tp.Pb w.heap.size bp cb V) (wa).drew := (unhide HC).below (Below.refl _ _).drew |>.own.now
           have HCd := hide ((unhide HC).below (Below.refl _ _).drew)
           have HQ := hide (tname_any l ta c bp e i2 0 wa.drew ((unhide HC).below (Below.refl _ _).drew).at_)
           refine Rq.begin (fun j => Nat.beq j 5) (fun V => Tp.Pb w.heap.size bp cb V) (by kernel_rfl) hHeld (fun hHeld hcl => ?_)
           generalize (wa).drew = wad at *
           refine Rq.tk 0 (.pointer (some ⟨cb, 0, none⟩)) Rq.z (by kernel_rfl) (by kernel_rfl) (by kernel_rfl) (by kernel_rfl) (fun _ _ _ h => h) (by assumption) (by assumption) (by rfl) (fun w hSw => by (try dsimp only at hSw); obtain ⟨hA, hB⟩ := hSw; go_simp) (fun hcl => ?_)
           (try simp only [Act.put, List.setIfInBounds_toArray, List.set_cons_zero, List.set_cons_succ])
           refine Rq.tk 1 (.pointer (some ⟨bp, 0, none⟩)) (Rq.s Rq.z) (by kernel_rfl) (by kernel_rfl) (by kernel_rfl) (by kernel_rfl) (fun _ _ _ h => h) (by assumption) (by assumption) (by rfl) (fun w hSw => by (try dsimp only at hSw); obtain ⟨hA, hB⟩ := hSw; go_simp) (fun hcl => ?_)
           (try simp only [Act.put, List.setIfInBounds_toArray, List.set_cons_zero, List.set_cons_succ])
           refine Rq.on 2 (Rq.s (Rq.s Rq.z)) (by kernel_rfl) (by assumption) (fun K hK => ?_)
           go_simp
           go_at_call 151
           refine (unhide HQ).mono ?_
           intro r wb h1
           cases hn : Tp.name l i2 with
           | error j =>
            rw [hn] at h1
            obtain ⟨rfl, ht⟩ := h1
            obtain rfl : o = .error j := by unfold Tp.name at hn; rw [unhide HY3] at hn; cases hn
            have HT := hide ((unhide HCd).tu.then ht (unhide HCd).lt.2.2 (fun _ _ h => Or.inl h))
            clear ht hK
            go_simp
            exact ⟨rfl, rfl, unhide HT⟩
           | ok p =>
            obtain ⟨x, j⟩ := p
            rw [hn] at h1
            obtain ⟨⟨rfl, hot⟩, hj, ht⟩ := h1
            have HN2 := hide hn
            have HOT := hide hot
            have HCx := hide ((unhide HCd).step hj ht)
            clear hn hot
            have hp1 := (unhide HCx).own.now
            clear hj ht hHeld hcl HCd HC HQ
            go_simp
            refine hK _ _ (fun _ => hp1) (fun hcl => ?_)
            (try simp only [Act.put, List.setIfInBounds_toArray, List.set_cons_zero, List.set_cons_succ])
            clear hK K
            refine Rq.on 3 (Rq.s (Rq.s (Rq.s Rq.z))) (by kernel_rfl) (by assumption) (fun K hK => ?_)
            go_simp
            refine hK _ _ (fun _ => hp1) (fun hcl => ?_)
            (try simp only [Act.put, List.setIfInBounds_toArray, List.set_cons_zero, List.set_cons_succ])
            clear hK K
            refine Rq.on 4 (Rq.s (Rq.s (Rq.s (Rq.s Rq.z)))) (by kernel_rfl) (by assumption) (fun K hK => ?_)
            go_simp
            refine hK _ _ (fun _ => hp1) (fun hcl => ?_)
            (try simp only [Act.put, List.setIfInBounds_toArray, List.set_cons_zero, List.set_cons_succ])
            clear hK K
            refine Rq.on 5 (Rq.s (Rq.s (Rq.s (Rq.s (Rq.s Rq.z))))) (by kernel_rfl) (by assumption) (fun K hK => ?_)
            have hc0 := (unhide HCx).box 3 _ rfl
            have hz0 := (unhide HCx).fz
            go_simp
            have HC2 := hide ((unhide HCx).set 3 (.string x) ⟨_, rfl⟩ (cs' := ((Tk.C.mk 3 a nm x Tk.E.zero Tk.E.zero ⟨none, 0, 0⟩ ⟨none, 0, 0⟩ ⟨none, 0, 0⟩)).cells) rfl)
            clear hc0 hz0 HCx
            refine hK _ _ (fun e => absurd e (by decide)) (fun hcl => ?_)
            (try simp only [Act.put, List.setIfInBounds_toArray, List.set_cons_zero, List.set_cons_succ])
            refine Rq.done (by kernel_rfl) ?_ _
            clear hK K hp1 hcl
            generalize (wb.setCell ⟨cb, 3, none⟩ (.string x)) = wc at *
            have HC := HC2
            clear HC2
            obtain ⟨hb0, hb1⟩ := (unhide HC).own.now
            obtain ⟨hx, hj1⟩ : x = (Tp.tk l i2).t ∧ j = i2 + 1 := by
             have h := unhide HN2
             unfold Tp.name at h
             rw [unhide HY3] at h
             cases h
             exact ⟨rfl, rfl⟩
            subst hj1
            have HX := hide hx
            clear hx
            have hlt2 := (unhide HC).lt
            have hbc := (unhide HC).box 14 _ rfl
            have HL := hide (tlist2_any l ta c bp e cb w.heap.size (w.heap.size + 1) (.pointer (some ⟨cb, 0, none⟩)) 14 52 5 Tk.E.cl (fun W => Tk.RE W 61) (Tp.expr l e 61 1) (w.heap.size + 1) (i2 + 1) wc
             (fun i x j h => Tp.expr_go 61 h) (fun v es acc i W hl h => tchg1_any l ta c bp e cb w.heap.size (w.heap.size + 1) wc v es acc i W hl h)
             ⟨(unhide HC).at_, Tp.Tu.refl _ _ _, hbc, fun _ _ => rfl, (unhide HC).fz, hb1, hb0, Tp.Rw.nil _ _ _ _ _ _ _, ⟨hlt2.1, by omega, by omega, by have := World.block_lt_of_cell? wc _ hb1; exact this, by omega⟩, ⟨by omega, by have := World.block_lt_of_cell? wc _ hb0; exact this, by omega⟩⟩)
            clear hbc
            go_wp2_with fail
            refine (unhide HL).mono ?_
            intro r wd h1
            cases hn : Tp.list l (Tp.expr l e 61 1) (i2 + 1) with
            | error j =>
             rw [hn] at h1
             obtain ⟨rfl, ht⟩ := h1
             obtain rfl : o = .error j := by rw [← unhide HEQ]; simp only [Tp.change, unhide HN1, unhide HY1, Bool.false_eq_true, if_false, unhide HNi2, unhide HY2, unhide HY3, unhide HY4, Bool.and_self, if_true, hn]
             have HT := hide ((unhide HC).tu.trans (ht.mono (unhide HC).lt.2.2 (fun _ _ h => h)))
             clear ht
             go_wp2_with fail
             exact ⟨rfl, rfl, unhide HT⟩
            | ok p =>
             obtain ⟨xs, j⟩ := p
             rw [hn] at h1
             obtain ⟨rfl, v, es, hls⟩ := h1
             obtain rfl : o = .ok (((3, a, nm, x), (Tp.zE, Tp.zE, xs), ([], [])), j) := by rw [← unhide HEQ]; simp only [Tp.change, unhide HN1, unhide HY1, Bool.false_eq_true, if_false, unhide HNi2, unhide HY2, unhide HY3, unhide HY4, Bool.and_self, if_true, hn, unhide HPL, unhide HX]
             have hfl := hls.row.row.1
             obtain ⟨s, hC⟩ := (unhide HC).list hls (fun _ => rfl) Tk.E.lies_cl (by
              have h2 := Tp.list_few l _ hn
              have h3 := (unhide HC).at_.fine.few
              omega)
             replace HC := hide hC
             clear hls hC hb0 hb1 HL hfl
             go_wp2_with fail
             go_end0
             exact ⟨⟨rfl, (Tk.C.mk 3 a nm x Tk.E.zero Tk.E.zero s ⟨none, 0, 0⟩ ⟨none, 0, 0⟩), (unhide HC).box, (unhide HC).fz, fun W' h1 h2 => ⟨⟨⟨rfl, rfl, rfl, rfl⟩, unhide HNM, unhide HOT⟩, ⟨Tp.zeroE_any W', Tp.zeroE_any W', ((unhide HC).own W' h1 h2).2⟩, Tp.rs_nil _ _ _ _, Tp.rs_nil _ _ _ _⟩⟩, (unhide HC).at_, (unhide HC).tu⟩
     · obtain rfl : o = .ok (((4, a, nm, ⟨#[]⟩), (Tp.zE, Tp.zE, []), ([], [])), i2 + 1) := by rw [← unhide HEQ]; simp only [Tp.change, unhide HN1, unhide HY1, Bool.false_eq_true, if_false, unhide HNi2, unhide HY2, if_true, unhide HPL]
       have hc0 := (unhide HC).box 0 _ rfl
       have hz0 := (unhide HC).fz
       have HC2 := hide ((unhide HC).set 0 (.int .i64 4) ⟨_, rfl⟩ (cs' := ((Tk.C.mk 4 a nm ⟨#[]⟩ Tk.E.zero Tk.E.zero ⟨none, 0, 0⟩ ⟨none, 0, 0⟩ ⟨none, 0, 0⟩)).cells) rfl)
       go_wp2_with fail
       clear hc0 hz0 HC hb0 hb1
       have HC := HC2
       clear HC2
       go_end0
       exact ⟨⟨rfl, _, (unhide HC).box, (unhide HC).fz, fun W' h1 h2 => ⟨⟨⟨rfl, rfl, rfl, rfl⟩, unhide HNM, (show (⟨#[]⟩ : ByteArray).size ≤ maxLen by decide)⟩, ⟨Tp.zeroE_any W', Tp.zeroE_any W', Tp.rs_nil _ _ _ _⟩, Tp.rs_nil _ _ _ _, Tp.rs_nil _ _ _ _⟩⟩, (unhide HC).at_, (unhide HC).tu⟩
  · have hc0 := (unhide HC).box 0 _ rfl
    have hz0 := (unhide HC).fz
    have HC2 := hide ((unhide HC).set 0 (.int .i64 2) ⟨_, rfl⟩ (cs' := ((Tk.C.mk 2 a nm ⟨#[]⟩ Tk.E.zero Tk.E.zero ⟨none, 0, 0⟩ ⟨none, 0, 0⟩ ⟨none, 0, 0⟩)).cells) rfl)
    go_wp2_with fail
    clear hc0 hz0 HC hb0 hb1
    generalize (w4.setCell ⟨cb, 0, none⟩ (.int .i64 2)) = wa at *
    have HC := HC2
    clear HC2
    obtain ⟨hb0, hb1⟩ := (unhide HC).own.now
    have hHeld : (fun V => Tp.Pb w.heap.size bp cb V) (wa).drew := (unhide HC).below (Below.refl _ _).drew |>.own.now
    have HCd := hide ((unhide HC).below (Below.refl _ _).drew)
    have HQ := hide (tindex_any l ta c bp e (Tp.expr l e 61) 0 (by omega) (fun i W hb hJ => texpr_any l ta c bp e 61 (0 + 1) (by omega) hb i W hJ) i1 wa.drew ((unhide HC).below (Below.refl _ _).drew).at_)
    refine Rq.begin (fun j => Nat.beq j 5) (fun V => Tp.Pb w.heap.size bp cb V) (by kernel_rfl) hHeld (fun hHeld hcl => ?_)
    generalize (wa).drew = wad at *
    refine Rq.tk 0 (.pointer (some ⟨cb, 0, none⟩)) Rq.z (by kernel_rfl) (by kernel_rfl) (by kernel_rfl) (by kernel_rfl) (fun _ _ _ h => h) (by assumption) (by assumption) (by rfl) (fun w hSw => by (try dsimp only at hSw); obtain ⟨hA, hB⟩ := hSw; go_simp) (fun hcl => ?_)
    (try simp only [Act.put, List.setIfInBounds_toArray, List.set_cons_zero, List.set_cons_succ])
    refine Rq.tk 1 (.pointer (some ⟨bp, 0, none⟩)) (Rq.s Rq.z) (by kernel_rfl) (by kernel_rfl) (by kernel_rfl) (by kernel_rfl) (fun _ _ _ h => h) (by assumption) (by assumption) (by rfl) (fun w hSw => by (try dsimp only at hSw); obtain ⟨hA, hB⟩ := hSw; go_simp) (fun hcl => ?_)
    (try simp only [Act.put, List.setIfInBounds_toArray, List.set_cons_zero, List.set_cons_succ])
    refine Rq.on 2 (Rq.s (Rq.s Rq.z)) (by kernel_rfl) (by assumption) (fun K hK => ?_)
    go_simp
    go_at_call 190
    refine (unhide HQ).mono ?_
    intro r wb h1
    cases hn : Tp.index l (Tp.expr l e 61) 0 i1 with
    | error j =>
     rw [hn] at h1
     obtain ⟨rfl, ht⟩ := h1
     obtain rfl : o = .error j := by rw [← unhide HEQ]; simp only [Tp.change, unhide HN1, unhide HY1, if_true, hn]
     have HT := hide ((unhide HCd).tu.then ht (unhide HCd).lt.2.2 (fun _ _ h => Or.inl h))
     clear ht hK
     go_simp
     exact ⟨rfl, rfl, unhide HT⟩
    | ok p =>
     obtain ⟨x, j⟩ := p
     rw [hn] at h1
     obtain ⟨⟨I, rfl, hro⟩, hj, ht⟩ := h1
     have HNI := hide hn
     have HCx := hide (((unhide HCd).step hj ht).and hro (unhide HCd).lt.2.2)
     clear hn hro
     have hp1 := (unhide HCx).own.now.1
     clear hj ht hHeld hcl HCd HC HQ
     go_simp
     refine hK _ _ (fun _ => hp1) (fun hcl => ?_)
     (try simp only [Act.put, List.setIfInBounds_toArray, List.set_cons_zero, List.set_cons_succ])
     clear hK K
     refine Rq.on 3 (Rq.s (Rq.s (Rq.s Rq.z))) (by kernel_rfl) (by assumption) (fun K hK => ?_)
     go_simp
     refine hK _ _ (fun _ => hp1) (fun hcl => ?_)
     (try simp only [Act.put, List.setIfInBounds_toArray, List.set_cons_zero, List.set_cons_succ])
     clear hK K
     refine Rq.on 4 (Rq.s (Rq.s (Rq.s (Rq.s Rq.z)))) (by kernel_rfl) (by assumption) (fun K hK => ?_)
     go_simp
     refine hK _ _ (fun _ => hp1) (fun hcl => ?_)
     (try simp only [Act.put, List.setIfInBounds_toArray, List.set_cons_zero, List.set_cons_succ])
     clear hK K
     refine Rq.on 5 (Rq.s (Rq.s (Rq.s (Rq.s (Rq.s Rq.z))))) (by kernel_rfl) (by assumption) (fun K hK => ?_)
     have hz0 := (unhide HCx).fz
     have hc0 := (unhide HCx).box 4 _ rfl
     have hc1 := (unhide HCx).box 5 _ rfl
     have hc2 := (unhide HCx).box 6 _ rfl
     have hc3 := (unhide HCx).box 7 _ rfl
     have hc4 := (unhide HCx).box 8 _ rfl
     go_simp
     have HC2 := hide ((unhide HCx).set5 4 I ⟨_, rfl⟩ ⟨_, rfl⟩ ⟨_, rfl⟩ ⟨_, rfl⟩ ⟨_, rfl⟩ (cs' := ((Tk.C.mk 2 a nm ⟨#[]⟩ I Tk.E.zero ⟨none, 0, 0⟩ ⟨none, 0, 0⟩ ⟨none, 0, 0⟩)).cells) rfl)
     clear hz0 hc0 hc1 hc2 hc3 hc4 HCx
     refine hK _ _ (fun e => absurd e (by decide)) (fun hcl => ?_)
     (try simp only [Act.put, List.setIfInBounds_toArray, List.set_cons_zero, List.set_cons_succ])
     refine Rq.done (by kernel_rfl) ?_ _
     clear hK K hp1 hcl
     generalize (((((wb.setCell ⟨cb, 4, none⟩ (.int .i64 I.k)).setCell ⟨cb, 5, none⟩ (.int .i64 I.a)).setCell ⟨cb, 6, none⟩ (.int .i64 I.n)).setCell ⟨cb, 7, none⟩ (.string I.nm)).setCell ⟨cb, 8, none⟩ (.slice I.args.ad I.args.len I.args.cap)) = wc at *
     have HC := HC2
     clear HC2
     obtain ⟨hb0, hb1⟩ := (unhide HC).own.now.1
     obtain ⟨xi, rfl⟩ : ∃ xi, xi = x := ⟨x, rfl⟩
     go_wp2_with fail
     refine (twant_any l ta c bp e ⟨#[61]⟩ (by decide) j 0 wc (unhide HC).at_).mono ?_
     intro r wd h1
     cases hn : Tp.want l ⟨#[61]⟩ j with
     | error j =>
      rw [hn] at h1
      obtain ⟨rfl, ht⟩ := h1
      obtain rfl : o = .error j := by rw [← unhide HEQ]; simp only [Tp.change, unhide HN1, unhide HY1, if_true, unhide HNI, hn]
      have HT := hide ((unhide HC).tu.then ht (unhide HC).lt.2.2 (fun _ _ h => Or.inl h))
      clear ht
      go_wp2_with fail
      exact ⟨rfl, rfl, unhide HT⟩
     | ok i2 =>
      rw [hn] at h1
      obtain ⟨rfl, hj, ht⟩ := h1
      have HNi2 := hide hn
      replace HC := hide ((unhide HC).step hj ht)
      clear hj ht hn hb0 hb1
      obtain ⟨hb0, hb1⟩ := (unhide HC).own.now.1
      go_wp2_with fail
      have hHeld : (fun V => Tp.Pb w.heap.size bp cb V) (wd).drew := (unhide HC).below (Below.refl _ _).drew |>.own.now.1
      have HCd := hide ((unhide HC).below (Below.refl _ _).drew)
      have HQ := hide (texpr_any l ta c bp e 61 0 (by omega) (by omega) i2 wd.drew ((unhide HC).below (Below.refl _ _).drew).at_)
      refine Rq.begin (fun j => Nat.beq j 5) (fun V => Tp.Pb w.heap.size bp cb V) (by kernel_rfl) hHeld (fun hHeld hcl => ?_)
      generalize (wd).drew = wdd at *
      refine Rq.tk 0 (.pointer (some ⟨cb, 0, none⟩)) Rq.z (by kernel_rfl) (by kernel_rfl) (by kernel_rfl) (by kernel_rfl) (fun _ _ _ h => h) (by assumption) (by assumption) (by rfl) (fun w hSw => by (try dsimp only at hSw); obtain ⟨hA, hB⟩ := hSw; go_simp) (fun hcl => ?_)
      (try simp only [Act.put, List.setIfInBounds_toArray, List.set_cons_zero, List.set_cons_succ])
      refine Rq.tk 1 (.pointer (some ⟨bp, 0, none⟩)) (Rq.s Rq.z) (by kernel_rfl) (by kernel_rfl) (by kernel_rfl) (by kernel_rfl) (fun _ _ _ h => h) (by assumption) (by assumption) (by rfl) (fun w hSw => by (try dsimp only at hSw); obtain ⟨hA, hB⟩ := hSw; go_simp) (fun hcl => ?_)
      (try simp only [Act.put, List.setIfInBounds_toArray, List.set_cons_zero, List.set_cons_succ])
      refine Rq.on 2 (Rq.s (Rq.s Rq.z)) (by kernel_rfl) (by assumption) (fun K hK => ?_)
      go_simp
      go_at_call 156
      refine (unhide HQ).mono ?_
      intro r we h1
      cases hn : Tp.expr l e 61 0 i2 with
      | error j =>
       rw [hn] at h1
       obtain ⟨rfl, ht⟩ := h1
       obtain rfl : o = .error j := by rw [← unhide HEQ]; simp only [Tp.change, unhide HN1, unhide HY1, if_true, unhide HNI, unhide HNi2, hn]
       have HT := hide ((unhide HCd).tu.then ht (unhide HCd).lt.2.2 (fun _ _ h => Or.inl h))
       clear ht hK
       go_simp
       exact ⟨rfl, rfl, unhide HT⟩
      | ok p =>
       obtain ⟨x, j⟩ := p
       rw [hn] at h1
       obtain ⟨⟨F, rfl, hro⟩, hj, ht⟩ := h1
       have HNX := hide hn
       have HCx := hide (((unhide HCd).step hj ht).and hro (unhide HCd).lt.2.2)
       clear hn hro
       have hp1 := (unhide HCx).own.now.1.1
       clear hj ht hHeld hcl HCd HC HQ
       go_simp
       refine hK _ _ (fun _ => hp1) (fun hcl => ?_)
       (try simp only [Act.put, List.setIfInBounds_toArray, List.set_cons_zero, List.set_cons_succ])
       clear hK K
       refine Rq.on 3 (Rq.s (Rq.s (Rq.s Rq.z))) (by kernel_rfl) (by assumption) (fun K hK => ?_)
       go_simp
       refine hK _ _ (fun _ => hp1) (fun hcl => ?_)
       (try simp only [Act.put, List.setIfInBounds_toArray, List.set_cons_zero, List.set_cons_succ])
       clear hK K
       refine Rq.on 4 (Rq.s (Rq.s (Rq.s (Rq.s Rq.z)))) (by kernel_rfl) (by assumption) (fun K hK => ?_)
       go_simp
       refine hK _ _ (fun _ => hp1) (fun hcl => ?_)
       (try simp only [Act.put, List.setIfInBounds_toArray, List.set_cons_zero, List.set_cons_succ])
       clear hK K
       refine Rq.on 5 (Rq.s (Rq.s (Rq.s (Rq.s (Rq.s Rq.z))))) (by kernel_rfl) (by assumption) (fun K hK => ?_)
       have hz0 := (unhide HCx).fz
       have hc0 := (unhide HCx).box 9 _ rfl
       have hc1 := (unhide HCx).box 10 _ rfl
       have hc2 := (unhide HCx).box 11 _ rfl
       have hc3 := (unhide HCx).box 12 _ rfl
       have hc4 := (unhide HCx).box 13 _ rfl
       go_simp
       have HC2 := hide ((unhide HCx).set5 9 F ⟨_, rfl⟩ ⟨_, rfl⟩ ⟨_, rfl⟩ ⟨_, rfl⟩ ⟨_, rfl⟩ (cs' := ((Tk.C.mk 2 a nm ⟨#[]⟩ I F ⟨none, 0, 0⟩ ⟨none, 0, 0⟩ ⟨none, 0, 0⟩)).cells) rfl)
       clear hz0 hc0 hc1 hc2 hc3 hc4 HCx
       refine hK _ _ (fun e => absurd e (by decide)) (fun hcl => ?_)
       (try simp only [Act.put, List.setIfInBounds_toArray, List.set_cons_zero, List.set_cons_succ])
       refine Rq.done (by kernel_rfl) ?_ _
       clear hK K hp1 hcl
       generalize (((((we.setCell ⟨cb, 9, none⟩ (.int .i64 F.k)).setCell ⟨cb, 10, none⟩ (.int .i64 F.a)).setCell ⟨cb, 11, none⟩ (.int .i64 F.n)).setCell ⟨cb, 12, none⟩ (.string F.nm)).setCell ⟨cb, 13, none⟩ (.slice F.args.ad F.args.len F.args.cap)) = wf at *
       have HC := HC2
       clear HC2
       obtain ⟨hb0, hb1⟩ := (unhide HC).own.now.1.1
       obtain rfl : o = .ok (((2, a, nm, ⟨#[]⟩), (xi, x, []), ([], [])), j) := by rw [← unhide HEQ]; simp only [Tp.change, unhide HN1, unhide HY1, if_true, unhide HNI, unhide HNi2, unhide HNX, unhide HPL]
       go_wp2_with fail
       refine bodyPost_ret (results_none rfl _ _ _) rfl ?_
       exact ⟨⟨rfl, _, (unhide HC).box, (unhide HC).fz, fun W' h1 h2 => ⟨⟨⟨rfl, rfl, rfl, rfl⟩, unhide HNM, (show (⟨#[]⟩ : ByteArray).size ≤ maxLen by decide)⟩, ⟨((unhide HC).own W' h1 h2).1.2, ((unhide HC).own W' h1 h2).2, Tp.rs_nil _ _ _ _⟩, Tp.rs_nil _ _ _ _, Tp.rs_nil _ _ _ _⟩⟩, (unhide HC).at_, (unhide HC).tu⟩
end
end Go.Proofs.YtfccpddehpgfoaaGreatDoor
