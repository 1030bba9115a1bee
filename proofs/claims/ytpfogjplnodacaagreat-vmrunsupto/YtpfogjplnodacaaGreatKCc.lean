/-
  The contract of the document's CheckCode. By the verifier; written by mkkc2.py.
-/
import Derived.Test.YtpfogjplnodacaaGreatKCa
set_option maxRecDepth 100000
set_option maxHeartbeats 3200000
namespace Go.Proofs.YtpfogjplnodacaaGreat
open Go.RowKit
set_option linter.unusedVariables false
def Kd.bad (n : Nat) (fs : List Int) (ss : List (List Int)) : Bool := fs.any (Kd.noAt n) || ss.any (fun s => s.any Pg.noSize)
theorem Kd.bad_drop {n : Nat} {fs : List Int} {ss : List (List Int)} {i : Nat} {z : Int} {s : List Int} (h1 : fs[i]? = some z) (h2 : ss[i]? = some s) : Kd.bad n (fs.drop i) (ss.drop i) = (Kd.noAt n z || (s.any Pg.noSize || Kd.bad n (fs.drop (i + 1)) (ss.drop (i + 1)))) := by
 obtain ⟨a1, a2⟩ := List.getElem?_eq_some_iff.1 h1
 obtain ⟨b1, b2⟩ := List.getElem?_eq_some_iff.1 h2
 rw [List.drop_eq_getElem_cons a1, List.drop_eq_getElem_cons b1, a2, b2]
 unfold Kd.bad
 simp only [List.any_cons]
 cases Kd.noAt n z <;> cases s.any Pg.noSize <;> simp
theorem Kd.any_drop {P : Int → Bool} {s : List Int} {k : Nat} {z : Int} (h : s[k]? = some z) : (s.drop k).any P = (P z || (s.drop (k + 1)).any P) := by
 obtain ⟨a1, a2⟩ := List.getElem?_eq_some_iff.1 h
 rw [List.drop_eq_getElem_cons a1, a2]
 rfl
theorem Kd.noAt_is (n : Nat) (z : Int) : decide (0 ≤ z ∧ z ≤ (n : Int) - 1) = !Kd.noAt n z := by unfold Kd.noAt; rw [Bool.not_not]; exact decide_eq_decide.2 (by omega)
theorem Kd.noSize_is (z : Int) : decide (0 ≤ z ∧ z ≤ 8) = !Pg.noSize z := by unfold Pg.noSize; rw [Bool.eq_iff_iff]; simp
theorem cc_switch {U : Array Value} {w : World} {Q : Exit → Act → World → Prop} (x : Kd.I) (il fl fc bx b7 : Nat) (fa : Option Addr) (hk : 1 ≤ x.k ∧ x.k ≤ 14) (hil : il ≤ 35184372088832) (hfl : fl ≤ 35184372088832) (hz : U.size = 151) (u1 : U[1]? = some (.pointer (some ⟨bx, 0, none⟩))) (u3 : U[3]? = some (.int .i64 (il : Nat))) (u7 : U[7]? = some (.pointer (some ⟨b7, 0, none⟩))) (u8 : U[8]? = some (.bool true)) (u78 : U[78]? = some (.int .i64 x.k))
  (c1 : w.cell? ⟨bx, 1, none⟩ = some (.slice fa fl fc)) (g1 : w.cell? ⟨b7, 1, none⟩ = some (.int .i64 x.a)) (g2 : w.cell? ⟨b7, 2, none⟩ = some (.int .i64 x.b)) (hQ : ∀ U', Fq.Kp 8 U U' → U'[8]? = some (.bool (Kd.inR il fl x)) → Q .normal ⟨U', []⟩ w) : (Fq.blk Tryz.f6 6).wp Tryz.prog Q ⟨U, []⟩ w := by
 obtain ⟨k, a, b⟩ := x
 dsimp only at *
 conv => arg 2; whnf
 refine wp_seq ?_
 refine Fq.at_ Tryz.f6 24 (by kernel_rfl) ?_
 refine cc_r24 hz u78 rfl (fun V1 ⟨k1, h79⟩ => ?_)
 have z1 := k1.size.trans hz
 refine Fq.ok ?_
 refine Fq.cond 79 h79 (fun hb => ?_) (fun hb => ?_)
 · have e2 := of_decide_eq_true hb
   refine Fq.at_ Tryz.f6 25 (by kernel_rfl) ?_
   refine cc_r25 z1 ((k1.at_ 7 (by omega)).trans u7) g1 rfl (fun V2 ⟨k2, h8⟩ => hQ _ ((k1.mono (by omega)).trans k2) (h8.trans ?_))
   unfold Kd.inR
   rw [if_pos e2]
 have e2 := of_decide_eq_false hb
 clear hb
 have v78 := (k1.at_ 78 (by omega)).trans u78
 refine Fq.cut (fun V3 v => Fq.Kp 79 V1 V3 ∧ V3[84]? = some (.bool (decide (k = 10 ∨ k = 11))) ∧ v = w) (fun Q' hQ' => ?_) (fun V3 w3 ⟨k3, h84, hw⟩ => ?_)
 · refine wp_seq ?_
   refine Fq.at_ Tryz.f6 26 (by kernel_rfl) ?_
   refine cc_r26 z1 v78 rfl (fun V2 ⟨k2, h84⟩ => ?_)
   refine Fq.ok ?_
   refine Fq.cond 84 h84 (fun hb => ?_) (fun hb => ?_)
   · have e10 := of_decide_eq_true hb
     exact Fq.skip (hQ' _ _ ⟨k2, h84.trans (by rw [hb, decide_eq_true (Or.inl e10)]), rfl⟩)
   · have e10 := of_decide_eq_false hb
     refine Fq.at_ Tryz.f6 27 (by kernel_rfl) ?_
     refine cc_r27 (k2.size.trans z1) ((k2.at_ 78 (by omega)).trans v78) rfl (fun V3 ⟨k3, h84'⟩ => hQ' _ _ ⟨k2.trans k3, h84'.trans ?_, rfl⟩)
     congr 2
     exact decide_eq_decide.2 ⟨Or.inr, fun h => h.resolve_left e10⟩
 subst hw
 have z3 := k3.size.trans z1
 have y78 := (k3.at_ 78 (by omega)).trans v78
 have y7 := (k3.at_ 7 (by omega)).trans ((k1.at_ 7 (by omega)).trans u7)
 have kk : Fq.Kp 8 U V3 := (k1.mono (by omega)).trans (k3.mono (by omega))
 refine Fq.cond 84 h84 (fun hb => ?_) (fun hb => ?_)
 · have eA := of_decide_eq_true hb
   refine Fq.at_ Tryz.f6 28 (by kernel_rfl) ?_
   refine cc_r28 z3 ((kk.at_ 3 (by omega)).trans u3) y7 g1 hil rfl (fun V4 ⟨k4, h8⟩ => hQ _ (kk.trans k4) (h8.trans ?_))
   unfold Kd.inR
   rw [if_neg e2, if_pos eA]
   congr 2
   exact decide_eq_decide.2 (show _ ↔ (0 ≤ a ∧ a < (il : Int)) by omega)
 have eA := of_decide_eq_false hb
 refine wp_seq ?_
 refine Fq.at_ Tryz.f6 29 (by kernel_rfl) ?_
 refine cc_r29 z3 y78 rfl (fun V4 ⟨k4, h92⟩ => ?_)
 have z4 := k4.size.trans z3
 have k8 : Fq.Kp 8 U V4 := kk.trans (k4.mono (by omega))
 have x78 := (k4.at_ 78 (by omega)).trans y78
 have x7 := (k4.at_ 7 (by omega)).trans y7
 refine Fq.ok ?_
 refine Fq.cond 92 h92 (fun hb => ?_) (fun hb => ?_)
 · have e5 := of_decide_eq_true hb
   refine Fq.at_ Tryz.f6 30 (by kernel_rfl) ?_
   refine cc_r30 z4 x7 g1 rfl (fun V5 ⟨k5, h8⟩ => hQ _ (k8.trans k5) (h8.trans ?_))
   unfold Kd.inR
   rw [if_neg e2, if_neg eA, if_pos e5]
 have e5 := of_decide_eq_false hb
 refine wp_seq ?_
 refine Fq.at_ Tryz.f6 31 (by kernel_rfl) ?_
 refine cc_r31 z4 x78 rfl (fun V5 ⟨k5, h97⟩ => ?_)
 have z5 := k5.size.trans z4
 have k9 : Fq.Kp 8 U V5 := k8.trans (k5.mono (by omega))
 have t78 := (k5.at_ 78 (by omega)).trans x78
 have t7 := (k5.at_ 7 (by omega)).trans x7
 refine Fq.ok ?_
 refine Fq.cond 97 h97 (fun hb => ?_) (fun hb => ?_)
 · have e12 := of_decide_eq_true hb
   refine Fq.at_ Tryz.f6 32 (by kernel_rfl) ?_
   refine cc_r32 z5 ((k9.at_ 1 (by omega)).trans u1) t7 g1 g2 c1 hfl rfl rfl (fun V6 ⟨k6, h8⟩ => hQ _ (k9.trans k6) (h8.trans ?_))
   unfold Kd.inR
   rw [if_neg e2, if_neg eA, if_neg e5, if_pos e12]
   congr 3
   exact decide_eq_decide.2 (show _ ↔ (0 ≤ a ∧ a < (fl : Int)) by omega)
 have e12 := of_decide_eq_false hb
 have hfin : Kd.inR il fl ⟨k, a, b⟩ = if k = 9 ∨ k = 13 ∨ k = 14 then true else decide (0 ≤ a) := by
  unfold Kd.inR
  rw [if_neg e2, if_neg eA, if_neg e5, if_neg e12]
 refine Fq.cut (fun V7 v => Fq.Kp 79 V5 V7 ∧ V7[111]? = some (.bool (decide (¬ (k = 9 ∨ k = 13 ∨ k = 14)))) ∧ v = w3) (fun Q' hQ' => ?_) (fun V7 w7 ⟨k7, h111, hw⟩ => ?_)
 · refine wp_seq ?_
   refine Fq.at_ Tryz.f6 33 (by kernel_rfl) ?_
   refine cc_r33 z5 t78 rfl (fun X33 ⟨j33, i33⟩ => ?_)
   refine Fq.ok ?_
   refine Fq.cond 111 i33 (fun hb => ?_) (fun hb => ?_)
   · have ee := of_decide_eq_true hb
     exact Fq.skip (hQ' _ _ ⟨j33, i33.trans (by rw [hb, decide_eq_true (by omega)]), rfl⟩)
   have f33 := of_decide_eq_false hb
   refine wp_seq ?_
   refine Fq.at_ Tryz.f6 34 (by kernel_rfl) ?_
   refine cc_r34 (j33.size.trans z5) ((j33.at_ 78 (by omega)).trans t78) rfl (fun X34 ⟨j34, i34⟩ => ?_)
   refine Fq.ok ?_
   refine Fq.cond 111 i34 (fun hb => ?_) (fun hb => ?_)
   · have ee := of_decide_eq_true hb
     exact Fq.skip (hQ' _ _ ⟨j33.trans j34, i34.trans (by rw [hb, decide_eq_true (by omega)]), rfl⟩)
   have f34 := of_decide_eq_false hb
   refine wp_seq ?_
   refine Fq.at_ Tryz.f6 35 (by kernel_rfl) ?_
   refine cc_r35 (j34.size.trans (j33.size.trans z5)) ((j34.at_ 78 (by omega)).trans ((j33.at_ 78 (by omega)).trans t78)) rfl (fun X35 ⟨j35, i35⟩ => ?_)
   refine Fq.ok ?_
   refine Fq.cond 111 i35 (fun hb => ?_) (fun hb => ?_)
   · have ee := of_decide_eq_true hb
     exact Fq.skip (hQ' _ _ ⟨(j33.trans j34).trans j35, i35.trans (by rw [hb, decide_eq_true (by omega)]), rfl⟩)
   have f35 := of_decide_eq_false hb
   refine wp_seq ?_
   refine Fq.at_ Tryz.f6 36 (by kernel_rfl) ?_
   refine cc_r36 (j35.size.trans (j34.size.trans (j33.size.trans z5))) ((j35.at_ 78 (by omega)).trans ((j34.at_ 78 (by omega)).trans ((j33.at_ 78 (by omega)).trans t78))) rfl (fun X36 ⟨j36, i36⟩ => ?_)
   refine Fq.ok ?_
   refine Fq.cond 111 i36 (fun hb => ?_) (fun hb => ?_)
   · have ee := of_decide_eq_true hb
     exact Fq.skip (hQ' _ _ ⟨((j33.trans j34).trans j35).trans j36, i36.trans (by rw [hb, decide_eq_true (by omega)]), rfl⟩)
   have f36 := of_decide_eq_false hb
   refine wp_seq ?_
   refine Fq.at_ Tryz.f6 37 (by kernel_rfl) ?_
   refine cc_r37 (j36.size.trans (j35.size.trans (j34.size.trans (j33.size.trans z5)))) ((j36.at_ 78 (by omega)).trans ((j35.at_ 78 (by omega)).trans ((j34.at_ 78 (by omega)).trans ((j33.at_ 78 (by omega)).trans t78)))) rfl (fun X37 ⟨j37, i37⟩ => ?_)
   refine Fq.ok ?_
   refine Fq.cond 111 i37 (fun hb => ?_) (fun hb => ?_)
   · have ee := of_decide_eq_true hb
     exact Fq.skip (hQ' _ _ ⟨(((j33.trans j34).trans j35).trans j36).trans j37, i37.trans (by rw [hb, decide_eq_true (by omega)]), rfl⟩)
   have f37 := of_decide_eq_false hb
   refine Fq.at_ Tryz.f6 38 (by kernel_rfl) ?_
   refine cc_r38 (j37.size.trans (j36.size.trans (j35.size.trans (j34.size.trans (j33.size.trans z5))))) ((j37.at_ 78 (by omega)).trans ((j36.at_ 78 (by omega)).trans ((j35.at_ 78 (by omega)).trans ((j34.at_ 78 (by omega)).trans ((j33.at_ 78 (by omega)).trans t78))))) rfl (fun X38 ⟨j38, i38⟩ => hQ' _ _ ⟨((((j33.trans j34).trans j35).trans j36).trans j37).trans j38, i38.trans ?_, rfl⟩)
   congr 2
   exact decide_eq_decide.2 (by omega)
 subst hw
 have k10 : Fq.Kp 8 U V7 := k9.trans (k7.mono (by omega))
 refine Fq.cond 111 h111 (fun hb => ?_) (fun hb => ?_)
 · have en := of_decide_eq_true hb
   refine Fq.at_ Tryz.f6 39 (by kernel_rfl) ?_
   refine cc_r39 (k7.size.trans z5) ((k7.at_ 7 (by omega)).trans t7) g1 rfl (fun V8 ⟨k11, h8⟩ => hQ _ (k10.trans k11) (h8.trans ?_))
   rw [hfin, if_neg en]
 · have en : k = 9 ∨ k = 13 ∨ k = 14 := Decidable.of_not_not (of_decide_eq_false hb)
   refine Fq.skip (hQ _ k10 ?_)
   rw [hfin, if_pos en]
   have q8 := (k7.at_ 8 (by omega)).trans ((k5.at_ 8 (by omega)).trans ((k4.at_ 8 (by omega)).trans ((k3.at_ 8 (by omega)).trans (k1.at_ 8 (by omega)))))
   exact q8.trans u8
theorem CheckCode_any (si sf sz : Pg.Sl) (l : List Kd.I) (fs : List Int) (ss : List (List Int)) (w : World) (h : Kd.RCo w si sf sz l fs ss) :
  Calls Tryz.prog 6 #[.agg #[.slice si.ad si.len si.cap, .slice sf.ad sf.len sf.cap, .slice sz.ad sz.len sz.cap]] w fun r w' => r = .returned (.int .i64 (Kd.chk l fs ss : Nat)) ∧ Below w.heap.size w w' := by
 obtain ⟨ia, il, ic⟩ := si
 obtain ⟨fa, fl, fc⟩ := sf
 obtain ⟨sa, sl, sc⟩ := sz
 dsimp only
 have hil : il = l.length := h.ins.len
 have hfl : fl = fs.length := h.fst.len
 have hsl : sl = ss.length := h.szs.len
 have hif : il ≤ 35184372088832 := by rw [hil]; exact h.ins.few
 have hff : fl ≤ 35184372088832 := by rw [hfl]; exact h.fst.few
 have hsf : sl ≤ 35184372088832 := by rw [hsl]; exact h.szs.few
 have hb0 := (Below.refl w.heap.size w).alloc (Nat.le_refl _) (Obj.cells #[.slice ia il ic, .slice fa fl fc, .slice sa sl sc] 26)
 have hx := heap_alloc_new w (Obj.cells #[.slice ia il ic, .slice fa fl fc, .slice sa sl sc] 26)
 have hlt : w.heap.size < (w.alloc (Obj.cells #[.slice ia il ic, .slice fa fl fc, .slice sa sl sc] 26)).heap.size := by simp
 obtain ⟨R, hR⟩ : ∃ R, R = Kd.chk l fs ss := ⟨_, rfl⟩
 rw [← hR]
 refine calls_of_wp Tryz.func6 rfl ?_
 rw [show Tryz.f6.ntmps - (#[.agg #[.slice ia il ic, .slice fa fl fc, .slice sa sl sc]] : Array Value).size = 150 by rw [Tryz.ntmps6]; rfl]
 obtain ⟨T0, hT0⟩ : ∃ T0 : Array Value, T0 = (#[Value.agg #[Value.slice ia il ic, Value.slice fa fl fc, Value.slice sa sl sc]] : Array Value) ++ Array.replicate 150 undef := ⟨_, rfl⟩
 have hT : T0.size = 151 := by rw [hT0, Array.size_append, Array.size_replicate]; rfl
 have s0 : T0[0]? = some (.agg #[.slice ia il ic, .slice fa fl fc, .slice sa sl sc]) := by rw [hT0]; simp
 rw [← hT0]
 clear hT0
 refine wp_seq ?_
 refine Fq.at_ Tryz.f6 0 (by kernel_rfl) ?_
 refine cc_r0 hT s0 (fun U1 ⟨k1, a1⟩ => ?_)
 generalize w.alloc (Obj.cells #[.slice ia il ic, .slice fa fl fc, .slice sa sl sc] 26) = W1 at *
 have CL : ∀ V : World, Below W1.heap.size W1 V → (V.cell? ⟨w.heap.size, 0, none⟩ = some (.slice ia il ic) ∧ V.cell? ⟨w.heap.size, 1, none⟩ = some (.slice fa fl fc) ∧ V.cell? ⟨w.heap.size, 2, none⟩ = some (.slice sa sl sc) ∧ Below w.heap.size w V ∧ Kd.RCo V ⟨ia, il, ic⟩ ⟨fa, fl, fc⟩ ⟨sa, sl, sc⟩ l fs ss) := fun V hV => by
  have hh := (hV.block w.heap.size hlt).trans hx
  have hbb := hb0.trans (hV.mono hb0.size)
  exact ⟨(cell_of_row V _ 0 _ _ _ hh).trans rfl, (cell_of_row V _ 1 _ _ _ hh).trans rfl, (cell_of_row V _ 2 _ _ _ hh).trans rfl, hbb, h.later hbb (Nat.le_refl _)⟩
 obtain ⟨c0, c1, c2, hbw, hco⟩ := CL W1 (Below.refl _ _)
 have z1 := k1.size.trans hT
 refine Fq.ok ?_
 refine wp_seq ?_
 refine Fq.at_ Tryz.f6 1 (by kernel_rfl) ?_
 refine cc_r1 z1 a1 c0 (fun U2 ⟨k2, a3⟩ => ?_)
 have z2 := k2.size.trans z1
 have b1 := (k2.at_ 1 (by omega)).trans a1
 refine Fq.ok ?_
 refine wp_seq (wp_seq ?_)
 refine Fq.at_ Tryz.f6 2 (by kernel_rfl) ?_
 refine cc_r2 z2 a3 rfl (fun U3 ⟨k3, h13⟩ => ?_)
 have z3 := k3.size.trans z2
 have d1 := (k3.at_ 1 (by omega)).trans b1
 have d3 := (k3.at_ 3 (by omega)).trans a3
 refine Fq.ok ?_
 refine Fq.cond 13 h13 (fun hb => ?_) (fun hb => ?_)
 · have hRv : R = 2 := by rw [hR]; unfold Kd.chk; rw [if_pos (by have := of_decide_eq_true hb; omega)]
   refine wp_seq ?_
   refine Fq.at_ Tryz.f6 3 (by kernel_rfl) ?_
   refine cc_r3 z3 (fun U' ⟨_, h2⟩ => ?_)
   refine Fq.ok (wp_ret ?_)
   repeat (first | with_reducible refine Fq.thR ?_ | with_reducible refine Fq.blR ?_)
   exact Fq.ret rfl h2 ⟨by rw [hRv]; rfl, hb0⟩
 have h30 : ¬ 3000 < l.length := by have := of_decide_eq_false hb; omega
 refine Fq.skip (Fq.ok ?_)
 refine wp_seq (wp_seq ?_)
 refine Fq.at_ Tryz.f6 4 (by kernel_rfl) ?_
 refine cc_r4 z3 d1 c1 c2 rfl (fun U4 ⟨k4, h26⟩ => ?_)
 have z4 := k4.size.trans z3
 have e1 := (k4.at_ 1 (by omega)).trans d1
 have e3 := (k4.at_ 3 (by omega)).trans d3
 refine Fq.ok ?_
 refine Fq.cond 26 h26 (fun hb => ?_) (fun hb => ?_)
 · have hRv : R = 1 := by rw [hR]; unfold Kd.chk; rw [if_neg h30, if_pos (by have := of_decide_eq_true hb; omega)]
   refine wp_seq ?_
   refine Fq.at_ Tryz.f6 5 (by kernel_rfl) ?_
   refine cc_r5 z4 (fun U' ⟨_, h2⟩ => ?_)
   refine Fq.ok (wp_ret ?_)
   repeat (first | with_reducible refine Fq.thR ?_ | with_reducible refine Fq.blR ?_)
   exact Fq.ret rfl h2 ⟨by rw [hRv]; rfl, hb0⟩
 have hfs := of_decide_eq_false hb
 have hR2 : R = if Kd.bad l.length fs ss then 3 else Pg.first (l.map (Kd.ck l.length fs.length)) := by rw [hR]; unfold Kd.chk; rw [if_neg h30, if_neg (by omega)]; rfl
 rw [← hil, ← hfl] at hR2
 refine Fq.skip (Fq.ok ?_)
 clear hb h26 h13 k4 k3 k2 k1 a1 a3 b1 d1 d3 z1 z2 z3 hR hT s0
 refine wp_seq (wp_seq ?_)
 refine Fq.at_ Tryz.f6 6 (by kernel_rfl) ?_
 refine cc_r6 z4 (fun U5 ⟨k5, a4⟩ => ?_)
 have z5 := k5.size.trans z4
 have f1 := (k5.at_ 1 (by omega)).trans e1
 have f3 := (k5.at_ 3 (by omega)).trans e3
 refine Fq.ok ?_
 refine wp_block ?_
 refine wp_loop_ghost (fun d a v => ∃ (U' : Array Value) (i : Nat), a = ⟨U', []⟩ ∧ i ≤ fl ∧ d = fl - i ∧ U'.size = 151 ∧ U'[1]? = some (.pointer (some ⟨w.heap.size, 0, none⟩)) ∧ U'[3]? = some (.int .i64 (il : Nat)) ∧ U'[4]? = some (.int .i64 (i : Nat)) ∧ v = W1 ∧ Kd.bad il fs ss = Kd.bad il (fs.drop i) (ss.drop i)) fl ⟨U5, 0, rfl, Nat.zero_le _, rfl, z5, f1, f3, a4, rfl, by rw [List.drop_zero, List.drop_zero]⟩ ?_
 clear z4 z5 f1 f3 a4 e1 e3 k5
 rintro d aa v ⟨Ua, i, rfl, hi, rfl, za, g1, g3, g4, hv, hbd⟩
 subst hv
 refine wp_seq (wp_seq ?_)
 refine Fq.at_ Tryz.f6 7 (by kernel_rfl) ?_
 refine cc_r7 za g1 g4 c1 rfl (fun Ub ⟨kb, h31⟩ => ?_)
 have zb := kb.size.trans za
 have i1 := (kb.at_ 1 (by omega)).trans g1
 have i3 := (kb.at_ 3 (by omega)).trans g3
 have i4 := (kb.at_ 4 (by omega)).trans g4
 refine Fq.ok ?_
 refine Fq.cond 31 h31 (fun hb => ?_) (fun hb => ?_)
 · have hlt2 : i < fl := by have := of_decide_eq_true hb; omega
   have hy := List.getElem?_eq_getElem (l := fs) (i := i) (by omega)
   have hs := List.getElem?_eq_getElem (l := ss) (i := i) (by omega)
   obtain ⟨b, o, had, hbb, hz⟩ := hco.fst.at_ i _ hy
   obtain ⟨b2, o2, ts, had2, hbb2, hz2, hrn⟩ := hco.szs.at_ i _ hs
   have hdr := Kd.bad_drop (n := il) hy hs
   generalize fs[i]'(by omega) = z at *
   generalize ss[i]'(by omega) = s at *
   have had' : fa = some ⟨b, o, none⟩ := had
   have had2' : sa = some ⟨b2, o2, none⟩ := had2
   obtain ⟨ta, tn, tc⟩ := ts
   have htn : tn = s.length := hrn.len
   have htf : tn ≤ 35184372088832 := by rw [htn]; exact hrn.few
   have hi0 : (0 : Int) ≤ (i : Int) := by omega
   have hi1 : (i : Int) < (sl : Int) := by omega
   refine Fq.skip (Fq.ok ?_)
   refine wp_seq (wp_block ?_)
   refine wp_seq (wp_seq ?_)
   refine Fq.at_ Tryz.f6 9 (by kernel_rfl) ?_
   refine cc_r9 (b := b) (o := o) zb i1 i3 i4 (c1.trans (by rw [had'])) hlt2 hff hif hz (Kd.noAt_is il z) (fun Uc ⟨kc, h42⟩ => ?_)
   have zc := kc.size.trans zb
   have j1 := (kc.at_ 1 (by omega)).trans i1
   have j3 := (kc.at_ 3 (by omega)).trans i3
   have j4 := (kc.at_ 4 (by omega)).trans i4
   rw [Bool.not_not] at h42
   refine Fq.ok ?_
   refine Fq.cond 42 h42 (fun hb => ?_) (fun hb => ?_)
   · have hRv : R = 3 := by rw [hR2, hbd, hdr, hb]; rfl
     refine wp_seq ?_
     refine Fq.at_ Tryz.f6 10 (by kernel_rfl) ?_
     refine cc_r10 zc (fun U' ⟨_, h2⟩ => ?_)
     refine Fq.ok (wp_ret ?_)
     repeat (first | with_reducible refine Fq.thR ?_ | with_reducible refine Fq.blR ?_)
     exact Fq.ret rfl h2 ⟨by rw [hRv]; rfl, hb0⟩
   refine Fq.skip (Fq.ok ?_)
   rw [hb, Bool.false_or] at hdr
   refine wp_seq ?_
   refine Fq.at_ Tryz.f6 11 (by kernel_rfl) ?_
   refine cc_r11 zc (fun Ud ⟨kd, a5⟩ => ?_)
   have zd := kd.size.trans zc
   have m1 := (kd.at_ 1 (by omega)).trans j1
   have m3 := (kd.at_ 3 (by omega)).trans j3
   have m4 := (kd.at_ 4 (by omega)).trans j4
   refine Fq.ok ?_
   refine wp_block ?_
   refine wp_loop_ghost (fun d a v' => ∃ (U' : Array Value) (k : Nat), a = ⟨U', []⟩ ∧ k ≤ tn ∧ d = tn - k ∧ U'.size = 151 ∧ U'[1]? = some (.pointer (some ⟨w.heap.size, 0, none⟩)) ∧ U'[3]? = some (.int .i64 (il : Nat)) ∧ U'[4]? = some (.int .i64 (i : Nat)) ∧ U'[5]? = some (.int .i64 (k : Nat)) ∧ v' = v ∧ s.any Pg.noSize = (s.drop k).any Pg.noSize) tn ⟨Ud, 0, rfl, Nat.zero_le _, rfl, zd, m1, m3, m4, a5, rfl, by rw [List.drop_zero]⟩ ?_
   clear kd a5 zd m1 m3 m4 h42 kc zc j1 j3 j4
   rintro d2 aa2 v2 ⟨Ue, k, rfl, hk, rfl, ze, n1, n3, n4, n5, hv2, hsd⟩
   subst hv2
   refine wp_seq (wp_seq ?_)
   refine Fq.at_ Tryz.f6 12 (by kernel_rfl) ?_
   refine cc_r12 (b := b2) (o := o2) (ta := ta) (tn := tn) (tc := tc) ze n1 n4 n5 (c2.trans (by rw [had2'])) hi0 hi1 hz2 rfl (fun Uf ⟨kf, h50⟩ => ?_)
   have zf := kf.size.trans ze
   have o1 := (kf.at_ 1 (by omega)).trans n1
   have o3 := (kf.at_ 3 (by omega)).trans n3
   have o4 := (kf.at_ 4 (by omega)).trans n4
   have o5 := (kf.at_ 5 (by omega)).trans n5
   refine Fq.ok ?_
   refine Fq.cond 50 h50 (fun hb2 => ?_) (fun hb2 => ?_)
   · have hlt3 : k < tn := by have := of_decide_eq_true hb2; omega
     have hy2 := List.getElem?_eq_getElem (l := s) (i := k) (by omega)
     obtain ⟨b3, o6, had3, hbb3, hz3⟩ := hrn.at_ k _ hy2
     have hsd2 := Kd.any_drop (P := Pg.noSize) hy2
     generalize s[k]'(by omega) = y at *
     have had3' : ta = some ⟨b3, o6, none⟩ := had3
     refine Fq.skip (Fq.ok ?_)
     refine wp_seq (wp_block ?_)
     refine wp_seq ?_
     refine Fq.at_ Tryz.f6 14 (by kernel_rfl) ?_
     refine cc_r14 (b := b2) (o := o2) (b2 := b3) (o2 := o6) (tn := tn) (tc := tc) zf o1 o4 o5 (c2.trans (by rw [had2'])) hi0 hi1 (hz2.trans (by rw [had3'])) (by omega) (by omega) hz3 (Kd.noSize_is y) (fun Ug ⟨kg, h62⟩ => ?_)
     have zg := kg.size.trans zf
     rw [Bool.not_not] at h62
     refine Fq.ok ?_
     refine Fq.cond 62 h62 (fun hb3 => ?_) (fun hb3 => ?_)
     · have hRv : R = 3 := by rw [hR2, hbd, hdr, hsd, hsd2, hb3]; rfl
       refine wp_seq ?_
       refine Fq.at_ Tryz.f6 15 (by kernel_rfl) ?_
       refine cc_r15 zg (fun U' ⟨_, h2⟩ => ?_)
       refine Fq.ok (wp_ret ?_)
       repeat (first | with_reducible refine Fq.thR ?_ | with_reducible refine Fq.blR ?_)
       exact Fq.ret rfl h2 ⟨by rw [hRv]; rfl, hb0⟩
     refine Fq.skip (Fq.blN (Fq.ok ?_))
     refine Fq.at_ Tryz.f6 13 (by kernel_rfl) ?_
     refine cc_r13 zg ((kg.at_ 5 (by omega)).trans o5) (by omega) (fun Uh ⟨kh, p5⟩ => ?_)
     exact ⟨tn - (k + 1), by omega, Uh, k + 1, rfl, by omega, rfl, kh.size.trans zg, (kh.at_ 1 (by omega)).trans ((kg.at_ 1 (by omega)).trans o1), (kh.at_ 3 (by omega)).trans ((kg.at_ 3 (by omega)).trans o3), (kh.at_ 4 (by omega)).trans ((kg.at_ 4 (by omega)).trans o4), p5, rfl, by rw [hsd, hsd2, hb3]; rfl⟩
   · have hke : ¬ k < tn := by have := of_decide_eq_false hb2; omega
     refine wp_exit (Fq.thX (Fq.thX (Fq.blX (Fq.blN (Fq.ok ?_)))))
     refine Fq.at_ Tryz.f6 8 (by kernel_rfl) ?_
     refine cc_r8 zf o4 (by omega) (fun Uh ⟨kh, p4⟩ => ?_)
     have hs0 : s.drop k = [] := List.drop_of_length_le (by omega)
     rw [hsd, hs0, show ([] : List Int).any Pg.noSize = false from rfl, Bool.false_or] at hdr
     exact ⟨fl - (i + 1), by omega, Uh, i + 1, rfl, by omega, rfl, kh.size.trans zf, (kh.at_ 1 (by omega)).trans o1, (kh.at_ 3 (by omega)).trans o3, p4, rfl, by rw [hbd, hdr]⟩
 · have hie : ¬ i < fl := by have := of_decide_eq_false hb; omega
   rw [hbd, List.drop_of_length_le (by omega), List.drop_of_length_le (by omega), show Kd.bad il [] [] = false from rfl] at hR2
   simp only [Bool.false_eq_true, if_false] at hR2
   refine wp_exit (Fq.thX (Fq.thX (Fq.blX (Fq.ok ?_))))
   clear hbd h31 kb i4 g1 g3 g4 za
   refine wp_seq (wp_seq ?_)
   refine Fq.at_ Tryz.f6 16 (by kernel_rfl) ?_
   refine cc_r16 zb (fun Uc ⟨kc, a6⟩ => ?_)
   refine Fq.ok ?_
   refine wp_block ?_
   refine wp_loop_ghost (fun d a v' => ∃ (U' : Array Value) (j : Nat), a = ⟨U', []⟩ ∧ j ≤ il ∧ d = il - j ∧ U'.size = 151 ∧ U'[1]? = some (.pointer (some ⟨w.heap.size, 0, none⟩)) ∧ U'[3]? = some (.int .i64 (il : Nat)) ∧ U'[6]? = some (.int .i64 (j : Nat)) ∧ Below v.heap.size v v' ∧ R = Pg.first ((l.drop j).map (Kd.ck il fl))) il ⟨Uc, 0, rfl, Nat.zero_le _, rfl, kc.size.trans zb, (kc.at_ 1 (by omega)).trans i1, (kc.at_ 3 (by omega)).trans i3, a6, Below.refl _ _, by rw [List.drop_zero]; exact hR2⟩ ?_
   clear kc a6 zb i1 i3 hR2
   rintro d aa v2 ⟨Ud, j, rfl, hj, rfl, zd, m1, m3, m6, hbv, hRj⟩
   obtain ⟨t0, t1, t2, hbw2, hco2⟩ := CL v2 hbv
   refine wp_seq (wp_seq ?_)
   refine Fq.at_ Tryz.f6 17 (by kernel_rfl) ?_
   refine cc_r17 zd m3 m6 rfl (fun Ue ⟨ke, h65⟩ => ?_)
   have ze := ke.size.trans zd
   have n1 := (ke.at_ 1 (by omega)).trans m1
   have n3 := (ke.at_ 3 (by omega)).trans m3
   have n6 := (ke.at_ 6 (by omega)).trans m6
   refine Fq.ok ?_
   refine Fq.cond 65 h65 (fun hb2 => ?_) (fun hb2 => ?_)
   · have hlt4 : j < il := by have := of_decide_eq_true hb2; omega
     have hy := List.getElem?_eq_getElem (l := l) (i := j) (by omega)
     obtain ⟨b, o, had, hbb, q0, q1, q2⟩ := hco2.ins.at_ j _ hy
     have hfd := Pg.first_drop (Kd.ck il fl) l j _ hy
     generalize l[j]'(by omega) = x at *
     have had' : ia = some ⟨b, o, none⟩ := had
     refine Fq.skip (Fq.ok ?_)
     refine wp_seq (wp_block ?_)
     refine wp_seq ?_
     refine Fq.at_ Tryz.f6 19 (by kernel_rfl) ?_
     refine cc_r19 (b := b) (o := o) ze n1 n6 (t0.trans (by rw [had'])) (by omega) (by omega) q0 q1 q2 (fun Uf ⟨kf, h7⟩ => ?_)
     have zf := kf.size.trans ze
     have o1 := (kf.at_ 1 (by omega)).trans n1
     have o3 := (kf.at_ 3 (by omega)).trans n3
     have o6 := (kf.at_ 6 (by omega)).trans n6
     have hal := (Below.refl v2.heap.size v2).alloc (Nat.le_refl _) (Obj.cells #[.int .i64 x.k, .int .i64 x.a, .int .i64 x.b] 54)
     have hnb := heap_alloc_new v2 (Obj.cells #[.int .i64 x.k, .int .i64 x.a, .int .i64 x.b] 54)
     have hbv3 := hbv.trans (hal.mono hbv.size)
     generalize v2.alloc (Obj.cells #[.int .i64 x.k, .int .i64 x.a, .int .i64 x.b] 54) = v3 at *
     have y0 := (cell_of_row v3 v2.heap.size 0 _ _ _ hnb).trans rfl
     have y1 := (cell_of_row v3 v2.heap.size 1 _ _ _ hnb).trans rfl
     have y2 := (cell_of_row v3 v2.heap.size 2 _ _ _ hnb).trans rfl
     obtain ⟨s0, s1, s2, hbw3, hco3⟩ := CL v3 hbv3
     refine Fq.ok ?_
     refine wp_seq (wp_seq ?_)
     refine Fq.at_ Tryz.f6 20 (by kernel_rfl) ?_
     refine cc_r20 zf h7 y0 rfl (fun Ug ⟨kg, h76⟩ => ?_)
     have zg := kg.size.trans zf
     have p1 := (kg.at_ 1 (by omega)).trans o1
     have p3 := (kg.at_ 3 (by omega)).trans o3
     have p6 := (kg.at_ 6 (by omega)).trans o6
     have p7 := (kg.at_ 7 (by omega)).trans h7
     refine Fq.ok ?_
     refine Fq.cond 76 h76 (fun hb3 => ?_) (fun hb3 => ?_)
     · have hRv : R = 7 := by
        have hk : ¬ (1 ≤ x.k ∧ x.k ≤ 14) := fun h => by rw [decide_eq_true h] at hb3; cases hb3
        rw [hRj, hfd]
        unfold Kd.ck
        rw [if_neg hk]
        rfl
       refine wp_seq ?_
       refine Fq.at_ Tryz.f6 21 (by kernel_rfl) ?_
       refine cc_r21 zg (fun U' ⟨_, h2⟩ => ?_)
       refine Fq.ok (wp_ret ?_)
       repeat (first | with_reducible refine Fq.thR ?_ | with_reducible refine Fq.blR ?_)
       exact Fq.ret rfl h2 ⟨by rw [hRv]; rfl, hbw3⟩
     have hk : 1 ≤ x.k ∧ x.k ≤ 14 := Decidable.of_not_not (fun h => by rw [decide_eq_false h] at hb3; cases hb3)
     have hck : Kd.ck il fl x = if Kd.inR il fl x then (if Kd.bare x then 0 else 1) else 3 := by unfold Kd.ck; rw [if_pos hk]
     rw [hck] at hfd
     refine Fq.skip (Fq.ok ?_)
     refine wp_seq ?_
     refine Fq.at_ Tryz.f6 22 (by kernel_rfl) ?_
     refine cc_r22 zg (fun Uh ⟨kh, h8⟩ => ?_)
     have zh := kh.size.trans zg
     refine Fq.ok ?_
     refine wp_seq (wp_seq ?_)
     refine Fq.at_ Tryz.f6 23 (by kernel_rfl) ?_
     refine cc_r23 zh ((kh.at_ 7 (by omega)).trans p7) y0 (fun Ui ⟨ki, h78⟩ => ?_)
     have zi := ki.size.trans zh
     have khi : Fq.Kp 8 Ug Ui := kh.trans (ki.mono (by omega))
     refine Fq.ok ?_
     refine wp_block ?_
     refine Fq.in_ Tryz.f6 6 (by kernel_rfl) ?_
     refine cc_switch x il fl fc w.heap.size v2.heap.size fa hk hif hff zi ((khi.at_ 1 (by omega)).trans p1) ((khi.at_ 3 (by omega)).trans p3) ((khi.at_ 7 (by omega)).trans p7) ((ki.at_ 8 (by omega)).trans h8) h78 s1 y1 y2 (fun Uj kj hj8 => ?_)
     have kgj : Fq.Kp 8 Ug Uj := khi.trans kj
     have zj := kgj.size.trans zg
     refine Fq.blN (Fq.ok ?_)
     refine wp_seq (wp_seq ?_)
     refine Fq.at_ Tryz.f6 40 (by kernel_rfl) ?_
     refine cc_r40 zj hj8 (fun Uk ⟨kk, h122⟩ => ?_)
     have zk := kk.size.trans zj
     have kgk : Fq.Kp 8 Ug Uk := kgj.trans (kk.mono (by omega))
     refine Fq.ok ?_
     refine Fq.cond 122 h122 (fun hb4 => ?_) (fun hb4 => ?_)
     · have hin : Kd.inR il fl x = false := by simpa using hb4
       have hRv : R = 3 := by rw [hRj, hfd, hin]; rfl
       refine wp_seq ?_
       refine Fq.at_ Tryz.f6 41 (by kernel_rfl) ?_
       refine cc_r41 zk (fun U' ⟨_, h2⟩ => ?_)
       refine Fq.ok (wp_ret ?_)
       repeat (first | with_reducible refine Fq.thR ?_ | with_reducible refine Fq.blR ?_)
       exact Fq.ret rfl h2 ⟨by rw [hRv]; rfl, hbw3⟩
     have hin : Kd.inR il fl x = true := by simpa using hb4
     rw [if_pos hin] at hfd
     refine Fq.skip (Fq.ok ?_)
     refine wp_seq ?_
     refine Fq.at_ Tryz.f6 42 (by kernel_rfl) ?_
     refine cc_r42 zk ((kgk.at_ 7 (by omega)).trans p7) y0 y1 y2 rfl (fun Ul ⟨kl, h150⟩ => ?_)
     have zl := kl.size.trans zk
     have kgl : Fq.Kp 8 Ug Ul := kgk.trans (kl.mono (by omega))
     refine Fq.ok ?_
     refine Fq.cond 150 h150 (fun hb5 => ?_) (fun hb5 => ?_)
     · have hRv : R = 1 := by
        have hbr : Kd.bare x = false := by simpa using hb5
        rw [hRj, hfd, hbr]
        rfl
       refine wp_seq ?_
       refine Fq.at_ Tryz.f6 43 (by kernel_rfl) ?_
       refine cc_r43 zl (fun U' ⟨_, h2⟩ => ?_)
       refine Fq.ok (wp_ret ?_)
       repeat (first | with_reducible refine Fq.thR ?_ | with_reducible refine Fq.blR ?_)
       exact Fq.ret rfl h2 ⟨by rw [hRv]; rfl, hbw3⟩
     have hbr : Kd.bare x = true := by simpa using hb5
     refine Fq.skip (Fq.blN (Fq.ok ?_))
     refine Fq.at_ Tryz.f6 18 (by kernel_rfl) ?_
     refine cc_r18 zl ((kgl.at_ 6 (by omega)).trans p6) (by omega) (fun Um ⟨km, p6'⟩ => ?_)
     exact ⟨il - (j + 1), by omega, Um, j + 1, rfl, by omega, rfl, km.size.trans zl, (km.at_ 1 (by omega)).trans ((kgl.at_ 1 (by omega)).trans p1), (km.at_ 3 (by omega)).trans ((kgl.at_ 3 (by omega)).trans p3), p6', hbv3, by rw [hRj, hfd, hbr]; rfl⟩
   · have hje : ¬ j < il := by have := of_decide_eq_false hb2; omega
     have hRv : R = 0 := by rw [hRj, List.drop_of_length_le (by omega)]; rfl
     refine wp_exit (Fq.thX (Fq.thX (Fq.blX (Fq.ok ?_))))
     refine wp_seq ?_
     refine Fq.at_ Tryz.f6 44 (by kernel_rfl) ?_
     refine cc_r44 ze (fun U' ⟨_, h2⟩ => ?_)
     refine Fq.ok (wp_ret ?_)
     repeat (first | with_reducible refine Fq.thR ?_ | with_reducible refine Fq.blR ?_)
     exact Fq.ret rfl h2 ⟨by rw [hRv]; rfl, hbw2⟩
end Go.Proofs.YtpfogjplnodacaaGreat
