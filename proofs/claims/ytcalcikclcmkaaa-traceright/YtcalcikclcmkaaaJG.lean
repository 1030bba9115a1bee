/-
  YPush, YOk. By the verifier.
-/
import Derived.Test.YtcalcikclcmkaaaJF
import Derived.Test.YtcalcikclcmkaaaJE
import Derived.Test.YtcalcikclcmkaaaJA
set_option maxRecDepth 100000
set_option maxHeartbeats 6400000
namespace Go.Proofs.Ytcalcikclcmkaaa
open Go.RowKit
set_option linter.unusedVariables false
theorem Try.infoTk : (Try.prog.info? 82).map (fun i => (i.zero, i.size, i.bytes)) = some (some (.agg #[.int .i64 0, .int .i64 0, .int .i64 0, .int .i64 0, .int .i64 0, .slice none 0 0, .int .i64 0, .int .i64 0, .slice none 0 0, .slice none 0 0, .slice none 0 0, .slice none 0 0, .int .i64 0, .bool false, .bool false]), 15, 192) := by kernel_rfl
def Mc.fwC {m : Nat} : List (Mc.K m) → List Pg.C → List Value
 | k :: ks, c :: cs => Mc.tC k c ++ Mc.fwC ks cs
 | _, _ => []
theorem Mc.fwC_snoc {m : Nat} : ∀ (ks : List (Mc.K m)) (cs : List Pg.C) (k : Mc.K m) (c : Pg.C), ks.length = cs.length → Mc.fwC (ks ++ [k]) (cs ++ [c]) = Mc.fwC ks cs ++ Mc.tC k c
 | [], [], k, c, _ => by
  show Mc.tC k c ++ [] = [] ++ Mc.tC k c
  rw [List.append_nil, List.nil_append]
 | a :: ks, b :: cs, k, c, h => by
  show Mc.tC a b ++ Mc.fwC (ks ++ [k]) (cs ++ [c]) = (Mc.tC a b ++ Mc.fwC ks cs) ++ Mc.tC k c
  rw [Mc.fwC_snoc ks cs k c (by simpa using h), List.append_assoc]
 | [], _ :: _, _, _, h => by simp at h
 | _ :: _, [], _, _, h => by simp at h
theorem Mc.fwC_len {m : Nat} : ∀ (ks : List (Mc.K m)) (cs : List Pg.C), ks.length = cs.length → (Mc.fwC ks cs).length = ks.length * 15
 | [], [], _ => rfl
 | k :: ks, c :: cs, h => by
  show (Mc.tC k c ++ Mc.fwC ks cs).length = _
  rw [List.length_append, Mc.fwC_len ks cs (by simpa using h), List.length_cons, Mc.tC_len]
  omega
 | [], _ :: _, h => by simp at h
 | _ :: _, [], h => by simp at h
theorem Mc.fwC_at {m : Nat} : ∀ (ks : List (Mc.K m)) (cs : List Pg.C) (i : Nat) (k : Mc.K m) (c : Pg.C) (j : Nat) (v : Value), ks[i]? = some k → cs[i]? = some c → (Mc.tC k c)[j]? = some v → (Mc.fwC ks cs)[i * 15 + j]? = some v
 | a :: ks, b :: cs, 0, k, c, j, v, hk, hc, hv => by
  have ek : a = k := by simpa using hk
  have ec : b = c := by simpa using hc
  subst ek ec
  show (Mc.tC a b ++ Mc.fwC ks cs)[0 * 15 + j]? = _
  rw [Nat.zero_mul, Nat.zero_add, List.getElem?_append_left (List.getElem?_eq_some_iff.1 hv).1]
  exact hv
 | a :: ks, b :: cs, i + 1, k, c, j, v, hk, hc, hv => by
  show (Mc.tC a b ++ Mc.fwC ks cs)[(i + 1) * 15 + j]? = _
  rw [List.getElem?_append_right (by rw [Mc.tC_len]; omega), Mc.tC_len, show (i + 1) * 15 + j - 15 = i * 15 + j by omega]
  exact Mc.fwC_at ks cs i k c j v (by simpa using hk) (by simpa using hc) hv
 | [], _, i, k, c, j, v, hk, _, _ => by simp at hk
 | _ :: _, [], i, k, c, j, v, _, hc, _ => by simp at hc
structure Mc.Pu {m : Nat} (W : World) (sa : Option Addr) (tl : Nat) (ps : List (Mc.K m)) (ccs : List Pg.C) (A : Nat → Nat) : Prop where
 pl : ps.length = tl
 cl : ccs.length = tl
 few : tl ≤ 1000
 top : ∀ i, i ≤ tl → A i ≤ 1000
 at_ : ∀ i, i < tl → ∃ (cc : Pg.C) (k : Mc.K m) (c1 c2 b o : Nat), ccs[i]? = some cc ∧ ps[i]? = some k ∧ k.isNone = false ∧ Mc.kat k = A i ∧ A (i + 1) = A i + (1 + (c1 + c2)) ∧ sa = some ⟨b, o, none⟩ ∧ b < W.heap.size ∧ Pg.LC W b (o + i * 12) cc ∧
  (∀ V, Below W.heap.size W V → Calls Try.prog 73 #[.slice cc.thn.ad cc.thn.len cc.thn.cap] V fun r w' => r = .returned (.int .i64 (c1 : Nat)) ∧ Below V.heap.size V w') ∧
  (∀ V, Below W.heap.size W V → Calls Try.prog 73 #[.slice cc.els.ad cc.els.len cc.els.cap] V fun r w' => r = .returned (.int .i64 (c2 : Nat)) ∧ Below V.heap.size V w')
structure Mc.Gr {m : Nat} (B : Nat) (W W' : World) (bf oq : Nat) (tv tv' : Value) (ks : List (Mc.K m)) (kc : List Pg.C) : Prop where
 os : W'.os = W.os
 tape : W'.tape = W.tape
 output : W'.output = W.output
 size : W.heap.size ≤ W'.heap.size
 blk : ∀ q, q < W.heap.size → q ≠ bf → tv.ownBlock ≠ some q → W'.heap[q]? = W.heap[q]?
 bfb : W'.heap[bf]? = (W.setCell ⟨bf, oq, none⟩ tv').heap[bf]?
 row : W'.ownsRow B 82 15 tv' ks.length (Mc.tsC ks kc)
 at_ : tv'.ownBlock = tv.ownBlock ∨ ∀ q, tv'.ownBlock = some q → W.heap.size ≤ q
theorem Mc.Gr.next {m : Nat} {B : Nat} {W wr W2 w6 : World} {bf oq : Nat} {tv tv1 : Value} {ks : List (Mc.K m)} {kc : List Pg.C} (h : Mc.Gr B W wr bf oq tv tv1 ks kc) (hne : tv.ownBlock ≠ some bf) (hbf : bf < W.heap.size) (hb : Below wr.heap.size wr W2) (hg : W2.grownBy w6 tv1.ownBlock) (k : Mc.K m) (c : Pg.C) (g cp : Nat)
  (ho : w6.ownsRow B 82 15 (.slice (some ⟨g, 0, none⟩) (ks.length + 1) cp) (ks.length + 1) (Mc.tsC ks kc ++ Mc.tC k c)) (hat : tv1.ownBlock = some g ∨ g = W2.heap.size) :
  Mc.Gr B W (w6.setCell ⟨bf, oq, none⟩ (.slice (some ⟨g, 0, none⟩) (ks.length + 1) cp)) bf oq tv (.slice (some ⟨g, 0, none⟩) (ks.length + 1) cp) (k :: ks) (c :: kc) := by
 have h1 := h.size
 have h2 := hb.size
 have h3 := hg.size
 have hn1 : tv1.ownBlock ≠ some bf := by
  rcases h.at_ with e | e
  · rw [e]; exact hne
  · intro e2; have := e bf e2; omega
 have hgb : g ≠ bf := by
  rintro rfl
  rcases hat with e | e
  · exact hn1 e
  · omega
 refine ⟨hg.os.trans (hb.os.trans h.os), hg.tape.trans (hb.tape.trans h.tape), hg.output.trans (hb.output.trans h.output), by rw [World.size_setCell]; omega, fun q q1 q2 q3 => ?_, ?_, ?_, ?_⟩
 · have hn2 : tv1.ownBlock ≠ some q := by
    rcases h.at_ with e | e
    · rw [e]; exact q3
    · intro e2; have := e q e2; omega
   exact (Xr.set_other q2).trans ((hg.block q (by omega) (fun e => hn2 e.symm)).trans ((hb.block q (by omega)).trans (h.blk q q1 q2 q3)))
 · have kb : w6.heap[bf]? = wr.heap[bf]? := (hg.block bf (by omega) (fun e => hn1 e.symm)).trans (hb.block bf (by omega))
   rw [Mc.set_congr (kb.trans h.bfb), Mc.set_set]
 · refine Xr.ow_kept ho (fun q hq => ?_)
   cases hq
   exact Xr.set_other hgb
 · rcases hat with e | e
   · rcases h.at_ with f | f
     · left
       show some g = _
       rw [← f, e]
     · right
       intro q hq
       cases hq
       exact f g e
   · right
     intro q hq
     cases hq
     show W.heap.size ≤ g
     omega
theorem Push_any {m : Nat} (W : World) (B : Nat) (hB : B ≤ W.heap.size) (bf of_ : Nat) (sa : Option Addr) (tl tc a : Nat) (ps : List (Mc.K m)) (ccs : List Pg.C) (A : Nat → Nat) (hA0 : A 0 = a) (hpu : Mc.Pu W sa tl ps ccs A)
  (tv : Value) (ks : List (Mc.K m)) (kc : List Pg.C) (hkl : ks.length ≤ 100000) (hc4 : W.cell? ⟨bf, of_ + 4, none⟩ = some tv) (hfz : W.frozen? ⟨bf, of_ + 4, none⟩ = false) (hrow : W.ownsRow B 82 15 tv ks.length (Mc.tsC ks kc)) (hne : tv.ownBlock ≠ some bf) :
  Calls Try.prog 39 #[.pointer (some ⟨bf, of_, none⟩), .slice sa tl tc, .int .i64 (a : Nat)] W fun r W' => r = .returned (.tuple #[]) ∧ ∃ tv', Mc.Gr B W W' bf (of_ + 4) tv tv' (ps ++ ks) (ccs ++ kc) := by
 have hbf : bf < W.heap.size := World.block_lt_of_cell? W _ hc4
 obtain ⟨i0, hi0, hz0, hz1', hz2⟩ := info_of Try.infoTk
 have HI := hide hi0
 have HZ0 := hide hz0
 have HZ1 := hide hz1'
 have HZ2 := hide hz2
 have HPU := hide hpu
 have HA0 := hide hA0
 have HROW := hide hrow
 have HNE := hide hne
 have hfew := hpu.few
 have HPL := hide hpu.pl
 have HCL := hide hpu.cl
 clear hi0 hz0 hz1' hz2 hpu hA0 hrow hne
 go_enter Try.func39, Try.ntmps39
 go_wp2_with fail
 go_loopw [2, 6, 7] (fun av ov iv wr => ∃ (i : Nat) (oa : Option Addr) (oc : Nat), i ≤ tl ∧ iv = .int .i64 i ∧ av = .int .i64 (A i : Nat) ∧ ov = .slice oa i oc ∧ wr.ownsRow W.heap.size 82 15 (.slice oa i oc) i (Mc.fwC (ps.take i) (ccs.take i)) ∧ Below W.heap.size W wr) (fun _ _ iv _ => tl - (intOf iv).toNat)
 case atStart => exact ⟨0, none, 0, Nat.zero_le _, rfl, by rw [unhide HA0], rfl, ⟨rfl, .inl ⟨rfl, rfl⟩⟩, Below.refl _ _⟩
 case round =>
  obtain ⟨i, oa, oc, hi, rfl, rfl, rfl, how, hbe⟩ := hrel
  by_cases hlt : i < tl
  · obtain ⟨cc, k, c1, c2, b, o, hcc, hk, hkn, hka, hAn, had, hb, hlc, hT, hE⟩ := (unhide HPU).at_ i hlt
    have hAt := (unhide HPU).top (i + 1) (by omega)
    have hlv := hlc.later hbe (Nat.le_refl _) hb
    have HNF := hide (show Mc.fwC (ps.take (i + 1)) (ccs.take (i + 1)) = Mc.fwC (ps.take i) (ccs.take i) ++ [.int .i64 cc.k, .int .i64 cc.v, .int .i64 cc.f, .int .i64 cc.ix.k, .int .i64 cc.ix.n, .slice cc.ix.args.ad cc.ix.args.len cc.ix.args.cap, .int .i64 cc.ex.k, .int .i64 cc.ex.n, .slice cc.ex.args.ad cc.ex.args.len cc.ex.args.cap, .slice cc.args.ad cc.args.len cc.args.cap, .slice cc.thn.ad cc.thn.len cc.thn.cap, .slice cc.els.ad cc.els.len cc.els.cap, .int .i64 (A i : Nat), .bool false, .bool false] by
     have h1 := (List.getElem?_eq_some_iff.1 hk)
     have h2 := (List.getElem?_eq_some_iff.1 hcc)
     rw [List.take_succ_eq_append_getElem h1.1, List.take_succ_eq_append_getElem h2.1, h1.2, h2.2, Mc.fwC_snoc _ _ _ _ (by rw [List.length_take, List.length_take, unhide HPL, unhide HCL])]
     unfold Mc.tC
     rw [hka, hkn]
     rfl)
    obtain ⟨p0, p1, p2, p3, p4, p5, p6, p7, p8, p9, p10, p11⟩ := hlv
    have HAN := hide hAn
    have HT := hide hT
    have HE := hide hE
    have HLC := hide hlc
    have hsz := hbe.size
    have HBE := hide hbe
    have HOW := hide how
    obtain ⟨xs, hxs⟩ : ∃ xs, xs = Mc.fwC (ps.take i) (ccs.take i) := ⟨_, rfl⟩
    rw [← hxs] at HOW HNF
    have HXS := hide hxs
    generalize hAi : A i = ai at *
    have hc12 : ai + (1 + (c1 + c2)) ≤ 1000 := by omega
    have had' : sa = some ⟨b, o, none⟩ := had
    subst had'
    have hi0 : (0 : Int) ≤ (i : Int) := by omega
    have hi1 : (i : Int) < (tl : Int) := by omega
    have hw1 : IntKind.i64.wrap (1 + (c1 : Int)) = 1 + (c1 : Int) := Xr.wrap_id (by omega) (by omega)
    have hw2 : IntKind.i64.wrap (1 + (c1 : Int) + (c2 : Int)) = 1 + (c1 : Int) + (c2 : Int) := Xr.wrap_id (by omega) (by omega)
    have hw3 : IntKind.i64.wrap ((ai : Int) + (1 + (c1 : Int) + (c2 : Int))) = (ai : Int) + (1 + (c1 : Int) + (c2 : Int)) := Xr.wrap_id (by omega) (by omega)
    clear hcc hk hkn hka hAn had hlc hT hE hbe how hxs hAt
    have HBK := hide (heap_alloc_new wr (Obj.cells #[.int .i64 cc.k, .int .i64 cc.v, .int .i64 cc.f, .int .i64 cc.ix.k, .int .i64 cc.ix.n, .slice cc.ix.args.ad cc.ix.args.len cc.ix.args.cap, .int .i64 cc.ex.k, .int .i64 cc.ex.n, .slice cc.ex.args.ad cc.ex.args.len cc.ex.args.cap, .slice cc.args.ad cc.args.len cc.args.cap, .slice cc.thn.ad cc.thn.len cc.thn.cap, .slice cc.els.ad cc.els.len cc.els.cap, .int .i64 (ai : Nat), .bool false, .bool false] 82))
    have HBD := hide (show Below wr.heap.size wr (wr.alloc (Obj.cells #[.int .i64 cc.k, .int .i64 cc.v, .int .i64 cc.f, .int .i64 cc.ix.k, .int .i64 cc.ix.n, .slice cc.ix.args.ad cc.ix.args.len cc.ix.args.cap, .int .i64 cc.ex.k, .int .i64 cc.ex.n, .slice cc.ex.args.ad cc.ex.args.len cc.ex.args.cap, .slice cc.args.ad cc.args.len cc.args.cap, .slice cc.thn.ad cc.thn.len cc.thn.cap, .slice cc.els.ad cc.els.len cc.els.cap, .int .i64 (ai : Nat), .bool false, .bool false] 82)) from (Below.refl _ _).alloc (Nat.le_refl _) _)
    have HLT := hide (show ∀ q, (Value.slice oa i oc).ownBlock = some q → W.heap.size ≤ q from fun q hq => ((unhide HOW).lt q hq).1)
    go_upto_region 5 with (at_builtin; refine wpList_append_lies _ (by rfl) _ _ _ (by rfl) W.heap.size 82 i0 _ 15 192 Try.underlying83 (unhide HI) (unhide HZ0) (unhide HZ1) (unhide HZ2) rfl (by omega) (.slice oa i oc) i xs (by rfl) (Pg.ow_below (unhide HOW) (unhide HBD)) ⟨wr.heap.size, 0, none⟩ 1 1 [.int .i64 cc.k, .int .i64 cc.v, .int .i64 cc.f, .int .i64 cc.ix.k, .int .i64 cc.ix.n, .slice cc.ix.args.ad cc.ix.args.len cc.ix.args.cap, .int .i64 cc.ex.k, .int .i64 cc.ex.n, .slice cc.ex.args.ad cc.ex.args.len cc.ex.args.cap, .slice cc.args.ad cc.args.len cc.args.cap, .slice cc.thn.ad cc.thn.len cc.thn.cap, .slice cc.els.ad cc.els.len cc.els.cap, .int .i64 (ai : Nat), .bool false, .bool false] (by rfl) (by rfl) (World.news_of_block (unhide HBK)) (by simp [Value.oneCell']) (by omega) (by unfold maxLen; omega) (by omega) (by simp; omega) (wr.heap.size + 1) (by simp) ?_; intro gA cA w6 hoA hgA hatA hltA; have HOA := hide hoA; have HB6 := hide (show Below W.heap.size W w6 from Below.grown ((unhide HBE).trans ((unhide HBD).mono hsz)) hgA (Nat.le_trans hsz (unhide HBD).size) (unhide HLT)); clear hoA hgA hatA hltA)
    have HKM := hide (show ∀ V : World, Below w6.heap.size w6 V → (V.cell? ⟨b, o + i * 12 + 10, none⟩ = some (.slice cc.thn.ad cc.thn.len cc.thn.cap) ∧ V.cell? ⟨b, o + i * 12 + 11, none⟩ = some (.slice cc.els.ad cc.els.len cc.els.cap) ∧ Below w6.heap.size w6 V) from fun V hV => by
     have h1 := (unhide HB6).trans (hV.mono (unhide HB6).size)
     exact ⟨((unhide HLC).later h1 (Nat.le_refl _) hb).c10, ((unhide HLC).later h1 (Nat.le_refl _) hb).c11, hV⟩)
    clear p0 p1 p2 p3 p4 p5 p6 p7 p8 p9 p10 p11
    go_region_held3 (fun V => V.cell? ⟨b, o + i * 12 + 10, none⟩ = some (.slice cc.thn.ad cc.thn.len cc.thn.cap) ∧ V.cell? ⟨b, o + i * 12 + 11, none⟩ = some (.slice cc.els.ad cc.els.len cc.els.cap) ∧ Below w6.heap.size w6 V)
     (first | assumption | exact (unhide HKM) _ ((Below.refl _ _).drew) | exact (unhide HKM) _ (Below.trans (And.right (And.right (by assumption))) ((unhide HB5).mono (Below.size (And.right (And.right (by assumption)))))))
     (first
      | (go_at_call_of 73 (Value.slice cc.thn.ad cc.thn.len cc.thn.cap); refine ((unhide HT) _ ?_).mono ?_; exact (unhide HB6).trans (Below.mono (And.right (And.right (by assumption))) (unhide HB6).size); rintro r w5 ⟨rfl, hb5⟩; have HB5 := hide hb5; clear hb5)
      | (go_at_call_of 73 (Value.slice cc.els.ad cc.els.len cc.els.cap); refine ((unhide HE) _ ?_).mono ?_; exact (unhide HB6).trans (Below.mono (And.right (And.right (by assumption))) (unhide HB6).size); rintro r w5 ⟨rfl, hb5⟩; have HB5 := hide hb5; clear hb5))
    all_goals
     go_wp2_with fail
     refine ⟨⟨i + 1, some ⟨gA, 0, none⟩, cA, by omega, by go_num, by rw [unhide HAN]; go_num, rfl, ?_, ?_⟩, by simp [intOf]; omega⟩
     · rw [unhide HNF]
       exact Pg.ow_below (unhide HOA) (And.right (And.right (by assumption)))
     · exact (unhide HB6).trans (Below.mono (And.right (And.right (by assumption))) (unhide HB6).size)
  · have hie : i = tl := by omega
    subst hie
    have HOW := hide (show wr.ownsRow W.heap.size 82 15 (.slice oa i oc) i (Mc.fwC ps ccs) by
     have h1 := how
     rw [List.take_of_length_le (by rw [unhide HPL]; exact Nat.le_refl _), List.take_of_length_le (by rw [unhide HCL]; exact Nat.le_refl _)] at h1
     exact h1)
    have HBE := hide hbe
    have hsz := hbe.size
    have w4 := (hbe.cell (p := ⟨bf, of_ + 4, none⟩) hbf).trans hc4
    have wf := (hbe.frozen (p := ⟨bf, of_ + 4, none⟩) hbf).trans hfz
    have HG0 := hide (show Mc.Gr B wr wr bf (of_ + 4) tv tv (ps.drop i ++ ks) (ccs.drop i ++ kc) by
     rw [List.drop_eq_nil_of_le (by rw [unhide HPL]; exact Nat.le_refl _), List.drop_eq_nil_of_le (by rw [unhide HCL]; exact Nat.le_refl _)]
     exact ⟨rfl, rfl, rfl, Nat.le_refl _, fun _ _ _ _ => rfl, (Mc.set_id w4).symm, Pg.ow_below (unhide HROW) hbe, .inl rfl⟩)
    have HTV := hide (show ∀ q, tv.ownBlock = some q → q < W.heap.size from fun q hq => ((unhide HROW).lt q hq).2)
    obtain ⟨W1, hW1⟩ : ∃ W1, W1 = wr := ⟨_, rfl⟩
    subst hW1
    have hw0 : IntKind.i64.wrap ((i : Int) - 1) = (i : Int) - 1 := by rw [IntKind.wrap_i64]; omega
    clear how hbe
    go_wp2_with fail
    go_loopw [8] (fun iv wr => ∃ (q : Nat) (tv1 : Value), q ≤ i ∧ iv = .int .i64 ((q : Int) - 1) ∧ Mc.Gr B W1 wr bf (of_ + 4) tv tv1 (ps.drop q ++ ks) (ccs.drop q ++ kc)) (fun iv _ => (intOf iv + 1).toNat)
    case atStart => exact ⟨i, tv, Nat.le_refl _, by go_num, unhide HG0⟩
    case round =>
     obtain ⟨q, tv1, hq, rfl, hgr⟩ := hrel
     rcases Nat.eq_zero_or_pos q with h0 | h0
     · subst h0
       have HGR := hide hgr
       clear hgr
       go_wp2_with fail
       go_end0
       refine ⟨rfl, tv1, ?_⟩
       have hg := unhide HGR
       have hb := unhide HBE
       rw [List.drop_zero, List.drop_zero] at hg
       refine ⟨hg.os.trans hb.os, hg.tape.trans hb.tape, hg.output.trans hb.output, Nat.le_trans hb.size hg.size, fun k h1 h2 h3 => (hg.blk k (by omega) h2 h3).trans (hb.block k h1), ?_, hg.row, ?_⟩
       · rw [hg.bfb]
         exact Mc.set_congr (hb.block bf hbf) _ _
       · rcases hg.at_ with e | e
         · exact .inl e
         · exact .inr fun k hk => Nat.le_trans hb.size (e k hk)
     · obtain ⟨e, rfl⟩ : ∃ e, q = e + 1 := ⟨q - 1, by omega⟩
       have hel : e < i := by omega
       obtain ⟨cc, k, c1, c2, b, o, hcc, hk, hkn, hka, hAn, had, hb, hlc, hT, hE⟩ := (unhide HPU).at_ e hel
       obtain ⟨go, rfl⟩ : ∃ go, oa = some ⟨go, 0, none⟩ := by
        rcases (unhide HOW).2 with ⟨h1, h2⟩ | ⟨g, cap, cur, hv, _⟩
        · omega
        · exact ⟨g, by cases hv; rfl⟩
       have hgo := (unhide HOW).lt go rfl
       have hkb : wr.heap[go]? = W1.heap[go]? := hgr.blk go hgo.2 (by omega) (fun e2 => by have := (unhide HTV) go e2; omega)
       have hat : ∀ j v, (Mc.tC k cc)[j]? = some v → wr.cell? ⟨go, e * 15 + j, none⟩ = some v := fun j v hv => by
        rw [Xr.cell_kept hkb, (unhide HOW).cellAt _ (by have := (List.getElem?_eq_some_iff.1 hv).1; rw [Mc.tC_len] at this; omega)]
        exact Mc.fwC_at ps ccs e k cc j v hk hcc hv
       generalize hAi : A e = ai at *
       have htc : Mc.tC k cc = [.int .i64 cc.k, .int .i64 cc.v, .int .i64 cc.f, .int .i64 cc.ix.k, .int .i64 cc.ix.n, .slice cc.ix.args.ad cc.ix.args.len cc.ix.args.cap, .int .i64 cc.ex.k, .int .i64 cc.ex.n, .slice cc.ex.args.ad cc.ex.args.len cc.ex.args.cap, .slice cc.args.ad cc.args.len cc.args.cap, .slice cc.thn.ad cc.thn.len cc.thn.cap, .slice cc.els.ad cc.els.len cc.els.cap, .int .i64 (ai : Nat), .bool false, .bool false] := by
        unfold Mc.tC
        rw [hka, hkn]
        rfl
       have HTC := hide htc
       rw [htc] at hat
       have y0 : wr.cell? ⟨go, e * 15, none⟩ = some (.int .i64 cc.k) := hat 0 _ rfl
       have y1 := hat 1 _ rfl
       have y2 := hat 2 _ rfl
       have y3 := hat 3 _ rfl
       have y4 := hat 4 _ rfl
       have y5 := hat 5 _ rfl
       have y6 := hat 6 _ rfl
       have y7 := hat 7 _ rfl
       have y8 := hat 8 _ rfl
       have y9 := hat 9 _ rfl
       have y10 := hat 10 _ rfl
       have y11 := hat 11 _ rfl
       have y12 := hat 12 _ rfl
       have y13 := hat 13 _ rfl
       have y14 := hat 14 _ rfl
       have HPD := hide (show ps.drop e = k :: ps.drop (e + 1) by
        have h1 := (List.getElem?_eq_some_iff.1 hk)
        rw [List.drop_eq_getElem_cons h1.1, h1.2])
       have HCD := hide (show ccs.drop e = cc :: ccs.drop (e + 1) by
        have h1 := (List.getElem?_eq_some_iff.1 hcc)
        rw [List.drop_eq_getElem_cons h1.1, h1.2])
       have hlen : (ps.drop (e + 1) ++ ks).length ≤ 200000 := by rw [List.length_append, List.length_drop, unhide HPL]; omega
       have hz4 : wr.cell? ⟨bf, of_ + 4, none⟩ = some tv1 := (Xr.cell_kept hgr.bfb (of_ + 4)).trans (World.cell?_setCell_same _ _ _ w4)
       have hzf : wr.frozen? ⟨bf, of_ + 4, none⟩ = false := (Xr.frz_kept hgr.bfb (of_ + 4)).trans (by rw [World.frozen?_setCell]; exact wf)
       obtain ⟨ra, rc, rfl⟩ : ∃ a c, tv1 = .slice a (ps.drop (e + 1) ++ ks).length c := by
        rcases hgr.row.2 with ⟨h1, h2⟩ | ⟨g, cap, cur, hv, _⟩
        · exact ⟨none, 0, by rw [h2]; exact h1⟩
        · exact ⟨_, _, hv⟩
       have HR1 := hide hgr.row
       have hgs := hgr.size
       have HN1 := hide (show (Value.slice ra (ps.drop (e + 1) ++ ks).length rc).ownBlock ≠ some bf by
        rcases hgr.at_ with e2 | e2
        · rw [e2]; exact unhide HNE
        · intro e3; have := e2 bf e3; omega)
       have HNX := hide (fun (W2 w6 : World) (h1 : Below wr.heap.size wr W2) (h2 : W2.grownBy w6 (Value.slice ra (ps.drop (e + 1) ++ ks).length rc).ownBlock) (gA cA : Nat) (h3 : w6.ownsRow B 82 15 (.slice (some ⟨gA, 0, none⟩) ((ps.drop (e + 1) ++ ks).length + 1) cA) ((ps.drop (e + 1) ++ ks).length + 1) (Mc.tsC (ps.drop (e + 1) ++ ks) (ccs.drop (e + 1) ++ kc) ++ [.int .i64 cc.k, .int .i64 cc.v, .int .i64 cc.f, .int .i64 cc.ix.k, .int .i64 cc.ix.n, .slice cc.ix.args.ad cc.ix.args.len cc.ix.args.cap, .int .i64 cc.ex.k, .int .i64 cc.ex.n, .slice cc.ex.args.ad cc.ex.args.len cc.ex.args.cap, .slice cc.args.ad cc.args.len cc.args.cap, .slice cc.thn.ad cc.thn.len cc.thn.cap, .slice cc.els.ad cc.els.len cc.els.cap, .int .i64 (ai : Nat), .bool false, .bool false])) (h4 : (Value.slice ra (ps.drop (e + 1) ++ ks).length rc).ownBlock = some gA ∨ gA = W2.heap.size) => hgr.next (unhide HNE) (by omega) h1 h2 k cc gA cA (by rw [unhide HTC]; exact h3) h4)
       have HBF := hide (show bf < wr.heap.size by omega)
       have he0 : (0 : Int) ≤ (e : Int) := by omega
       have he1 : (e : Int) < (i : Int) := by omega
       have hq1 : (((e + 1 : Nat) : Int) - 1) = (e : Int) := by omega
       rw [hq1]
       have hw9 : IntKind.i64.wrap ((e : Int) - 1) = (e : Int) - 1 := by rw [IntKind.wrap_i64]; omega
       clear hat hcc hk hkn hka hAn had hlc hT hE hgr htc hkb
       generalize hnn : (ps.drop (e + 1) ++ ks).length = nn at *
       generalize hxs : Mc.tsC (ps.drop (e + 1) ++ ks) (ccs.drop (e + 1) ++ kc) = xs at *
       clear hnn hxs
       have HBK := hide (heap_alloc_new wr (Obj.cells #[.int .i64 cc.k, .int .i64 cc.v, .int .i64 cc.f, .int .i64 cc.ix.k, .int .i64 cc.ix.n, .slice cc.ix.args.ad cc.ix.args.len cc.ix.args.cap, .int .i64 cc.ex.k, .int .i64 cc.ex.n, .slice cc.ex.args.ad cc.ex.args.len cc.ex.args.cap, .slice cc.args.ad cc.args.len cc.args.cap, .slice cc.thn.ad cc.thn.len cc.thn.cap, .slice cc.els.ad cc.els.len cc.els.cap, .int .i64 (ai : Nat), .bool false, .bool false] 82))
       have HBD := hide (show Below wr.heap.size wr (wr.alloc (Obj.cells #[.int .i64 cc.k, .int .i64 cc.v, .int .i64 cc.f, .int .i64 cc.ix.k, .int .i64 cc.ix.n, .slice cc.ix.args.ad cc.ix.args.len cc.ix.args.cap, .int .i64 cc.ex.k, .int .i64 cc.ex.n, .slice cc.ex.args.ad cc.ex.args.len cc.ex.args.cap, .slice cc.args.ad cc.args.len cc.args.cap, .slice cc.thn.ad cc.thn.len cc.thn.cap, .slice cc.els.ad cc.els.len cc.els.cap, .int .i64 (ai : Nat), .bool false, .bool false] 82)).drew from ((Below.refl wr.heap.size wr).alloc (Nat.le_refl _) _).drew)
       have hz4b : (wr.alloc (Obj.cells #[.int .i64 cc.k, .int .i64 cc.v, .int .i64 cc.f, .int .i64 cc.ix.k, .int .i64 cc.ix.n, .slice cc.ix.args.ad cc.ix.args.len cc.ix.args.cap, .int .i64 cc.ex.k, .int .i64 cc.ex.n, .slice cc.ex.args.ad cc.ex.args.len cc.ex.args.cap, .slice cc.args.ad cc.args.len cc.args.cap, .slice cc.thn.ad cc.thn.len cc.thn.cap, .slice cc.els.ad cc.els.len cc.els.cap, .int .i64 (ai : Nat), .bool false, .bool false] 82)).cell? ⟨bf, of_ + 4, none⟩ = some (.slice ra nn rc) := (((Below.refl wr.heap.size wr).alloc (Nat.le_refl _) _).cell (p := ⟨bf, of_ + 4, none⟩) (unhide HBF)).trans hz4
       go_upto_region 9 with fail
       go_region_law (first
        | (refine step_append_lies _ rfl (.tmp 51) (.tmp 56) 83 rfl B 82 i0 _ 15 192 Try.underlying83 (unhide HI) (unhide HZ0) (unhide HZ1) (unhide HZ2) rfl (by omega) (.slice ra nn rc) nn xs rfl (Pg.ow_below (unhide HR1) (unhide HBD)) _ 1 1 [.int .i64 cc.k, .int .i64 cc.v, .int .i64 cc.f, .int .i64 cc.ix.k, .int .i64 cc.ix.n, .slice cc.ix.args.ad cc.ix.args.len cc.ix.args.cap, .int .i64 cc.ex.k, .int .i64 cc.ex.n, .slice cc.ex.args.ad cc.ex.args.len cc.ex.args.cap, .slice cc.args.ad cc.args.len cc.args.cap, .slice cc.thn.ad cc.thn.len cc.thn.cap, .slice cc.els.ad cc.els.len cc.els.cap, .int .i64 (ai : Nat), .bool false, .bool false] rfl rfl (World.news_of_block (unhide HBK)) (by simp [Value.oneCell']) (by omega) (by unfold maxLen; omega) (by omega) (by simp; omega) _ rfl ?_; intro gA cA w6 hoA hgA hatA hltA; have HGA := hide hgA; have HOA := hide hoA; have HAT := hide hatA; have hbb := (hgA.block bf (by simp; omega) (fun e2 => (unhide HN1) e2.symm)).trans ((unhide HBD).block bf (unhide HBF)); have z4 := (Xr.cell_kept hbb (of_ + 4)).trans hz4; have z5 := (Xr.frz_kept hbb (of_ + 4)).trans hzf; clear hatA hltA hoA hgA hbb))
       all_goals
        go_wp2_with fail
        refine ⟨⟨e, .slice (some ⟨gA, 0, none⟩) (nn + 1) cA, by omega, by go_num, ?_⟩, by simp [intOf]⟩
        rw [unhide HPD, unhide HCD]
        exact (unhide HNX) _ _ (unhide HBD) (unhide HGA) _ _ (unhide HOA) (unhide HAT)
end Go.Proofs.Ytcalcikclcmkaaa
namespace Go.Proofs.Ytcalcikclcmkaaa
open Go.RowKit
set_option linter.unusedVariables false
section
variable {m n : Nat}
def Mc.TOk (p : List (Pg.FT m n)) (now : Nat) (x : Pg.FT m n) (k : Mc.K m) : Prop :=
 match k with
 | none => True
 | some ⟨j, c, a⟩ => (Pg.wcm p now x c = 0 ∧ Pg.wcs p now x j c.2.2.1 = 0 ∧ Pg.wcs p now x j c.2.2.2 = 0) ∧ a + Pg.cnt (j + 1) c ≤ 100
def Mc.isCall (k : Mc.K m) : Prop := match k with | some ⟨_, c, _⟩ => c.1.1 = 3 | none => False
structure Mc.FOk (p : List (Pg.FT m n)) (fuel : Nat) (f : Mc.F m) : Prop where
 ex : ∃ x, p[f.fn]? = some x ∧ Xr.Sh f.fr.vs x.sizes ∧ ∀ k ∈ f.ks, Mc.TOk p f.fn x k
 last : ∃ l, f.ks = l ++ [none]
 few : f.ks.length + 200 * fuel ≤ 200 * 501
structure Mc.Ok (p : List (Pg.FT m n)) (t : Mc.St m) : Prop where
 ne : t.fs ≠ []
 top : t.fs.length ≤ 6
 all : ∀ f ∈ t.fs, Mc.FOk p t.s.fuel f
 wait : ∀ f ∈ t.fs.tail, ∃ k ks, f.ks = k :: ks ∧ Mc.isCall k
 fuel : t.s.fuel ≤ 500
 fn : ∀ f ∈ t.fs.dropLast, f.fn + 1 < p.length
theorem Mc.FOk.le {p : List (Pg.FT m n)} {fuel fuel' : Nat} {f : Mc.F m} (h : Mc.FOk p fuel f) (hf : fuel' ≤ fuel) : Mc.FOk p fuel' f := ⟨h.ex, h.last, by have := h.few; omega⟩
theorem Mc.cnts_len {j : Nat} (l : List (Pg.CT m (j + 1))) : l.length ≤ Pg.cnts l := by
 unfold Pg.cnts
 induction l with
 | nil => exact Nat.zero_le _
 | cons c r ih =>
  rw [List.map_cons, List.sum_cons, List.length_cons, Pg.cnt_succ]
  omega
theorem Mc.pushes_len (j : Nat) : ∀ (l : List (Pg.CT m (j + 1))) (a : Nat), (Mc.pushes j l a).length = l.length
 | [], _ => rfl
 | c :: r, a => by
  show (Mc.pushes j r _).length + 1 = _
  rw [Mc.pushes_len j r]
  rfl
theorem Mc.push_len (j : Nat) (l : List (Pg.CT m j)) (a : Nat) : (Mc.push j l a).length ≤ Pg.cnts l ∧ (Mc.push j l a).length = l.length := by
 cases j with
 | zero =>
  cases l with
  | nil => exact ⟨Nat.zero_le _, rfl⟩
  | cons y r => exact Empty.elim y
 | succ j => exact ⟨by show (Mc.pushes j l a).length ≤ _; rw [Mc.pushes_len]; exact Mc.cnts_len l, Mc.pushes_len j l a⟩
theorem Mc.pushes_ok {p : List (Pg.FT m n)} {now : Nat} {x : Pg.FT m n} (j : Nat) : ∀ (l : List (Pg.CT m (j + 1))) (a : Nat), Pg.wcs p now x (j + 1) l = 0 → a + Pg.cnts l ≤ 100 → ∀ k ∈ Mc.pushes j l a, Mc.TOk p now x k
 | [], _, _, _, k, hk => by cases hk
 | c :: r, a, hw, ha, k, hk => by
  have h1 := Xr.wcs_ok hw
  have e1 : Pg.cnts (c :: r) = Pg.cnt (j + 1) c + Pg.cnts r := by
   unfold Pg.cnts
   rw [List.map_cons, List.sum_cons]
  have hw2 : Pg.wcs p now x (j + 1) r = 0 := by
   have h2 : Pg.first ((c :: r).map fun y => Pg.orW (Pg.wcm p now x y) (Pg.orW (Pg.wcs p now x j y.2.2.1) (Pg.wcs p now x j y.2.2.2))) = 0 := hw
   rw [List.map_cons] at h2
   unfold Pg.first at h2
   split at h2
   · exact h2
   · rename_i h3
     exact absurd h2 h3
  rcases List.mem_cons.1 (show k ∈ some ⟨j, c, a⟩ :: Mc.pushes j r (a + Pg.cnt (j + 1) c) from hk) with rfl | hk
  · exact ⟨h1 c List.mem_cons_self, by omega⟩
  · exact Mc.pushes_ok j r (a + Pg.cnt (j + 1) c) hw2 (by omega) k hk
theorem Mc.push_ok {p : List (Pg.FT m n)} {now : Nat} {x : Pg.FT m n} (j : Nat) (l : List (Pg.CT m j)) (a : Nat) (hw : Pg.wcs p now x j l = 0) (ha : a + Pg.cnts l ≤ 100) : ∀ k ∈ Mc.push j l a, Mc.TOk p now x k := by
 cases j with
 | zero => intro k hk; cases hk
 | succ j => exact Mc.pushes_ok j l a hw ha
theorem Mc.par_sh {sz : List Int} : ∀ (zs : List Int) (i : Nat) (g : Xr.F), Xr.Sh g.vs sz → Xr.Sh (Xr.parF i zs g).vs sz
 | [], i, g, hg => hg
 | z :: r, i, g, hg => Mc.par_sh r _ _ (hg.upd _ _ _)
theorem Mc.first_le {p : List (Pg.FT m n)} (hc : (p.map (fun f => Pg.cnts f.cmds)).sum ≤ 40) {q : Nat} {x : Pg.FT m n} (hx : p[q]? = some x) : Xr.firstOf p q + Pg.cnts x.cmds ≤ 40 := by
 have h1 := Pg.sumTo_succ (fun f : Pg.FT m n => Pg.cnts f.cmds) p q x hx
 have h2 := Pg.sumTo_le (fun f : Pg.FT m n => Pg.cnts f.cmds) p (q + 1) (by have := (List.getElem?_eq_some_iff.1 hx).1; omega)
 unfold Xr.firstOf
 omega
theorem Mc.wfn_cmds {p : List (Pg.FT m n)} {q : Nat} {x : Pg.FT m n} (h : Pg.wfn p q x = 0) : Pg.wcs p q x n x.cmds = 0 := by
 obtain ⟨hw1, hw2⟩ := Pg.orW_zero (show Pg.orW _ (Pg.orW _ _) = 0 from h)
 exact (Pg.orW_zero hw2).1
theorem Mc.new_ok {p : List (Pg.FT m n)} (hok : ∀ (i : Nat) (x : Pg.FT m n), p[i]? = some x → Pg.wfn p i x = 0) (hc : (p.map (fun f => Pg.cnts f.cmds)).sum ≤ 40) {q : Nat} {x : Pg.FT m n} (hx : p[q]? = some x) (g : Xr.F) (hg : Xr.Sh g.vs x.sizes) {fuel : Nat} (hf : fuel ≤ 500) : Mc.FOk p fuel ⟨g, q, Mc.push n x.cmds (Xr.firstOf p q) ++ [none]⟩ := by
 have h1 := Mc.first_le hc hx
 refine ⟨⟨x, hx, hg, fun k hk => ?_⟩, ⟨_, rfl⟩, ?_⟩
 · rcases List.mem_append.1 hk with hk | hk
   · exact Mc.push_ok n x.cmds _ (Mc.wfn_cmds (hok q x hx)) (by omega) k hk
   · simp at hk
     subst hk
     trivial
 · have h2 := (Mc.push_len n x.cmds (Xr.firstOf p q)).1
   show (_ ++ [none]).length + _ ≤ _
   rw [List.length_append]
   show _ + 1 + _ ≤ _
   omega
theorem Mc.fuel_tell (s : Xr.S) (e : Ev) : (Xr.tell s e).fuel = s.fuel := by unfold Xr.tell; split <;> rfl
theorem Mc.fuel_val {k : Nat} (s : Xr.S) (f : Xr.F) (y : Pg.XT k) : (Xr.valS s f y).fuel = s.fuel := by
 unfold Xr.valS
 split
 · rfl
 split
 · rfl
 · exact Mc.fuel_tell _ _
theorem Mc.fuel_arg {k : Nat} (f : Xr.F) : ∀ (l : List (Pg.XT k)) (s : Xr.S), (Xr.argS f l s).fuel = s.fuel
 | [], s => rfl
 | y :: r, s => (Mc.fuel_arg f r _).trans (Mc.fuel_val s f y)
theorem Mc.fuel_par (g : Xr.F) (a : Int) : ∀ (zs : List Int) (i : Nat) (s : Xr.S), (Xr.parS g a i zs s).fuel = s.fuel
 | [], i, s => rfl
 | z :: r, i, s => (Mc.fuel_par g a r (i + 1) _).trans (Mc.fuel_tell _ _)
theorem Mc.fuel_put {k : Nat} (s : Xr.S) (f : Xr.F) (v : Int) (ix ex : Pg.XT k) : (Xr.putS s f v ix ex).fuel = s.fuel := by
 unfold Xr.putS
 split
 · exact (Mc.fuel_tell _ _).trans ((Mc.fuel_val _ _ _).trans (Mc.fuel_val _ _ _))
 · exact (Mc.fuel_tell _ _).trans ((Mc.fuel_val _ _ _).trans (Mc.fuel_val _ _ _))
theorem Mc.put_sh {k : Nat} {sz : List Int} (s : Xr.S) (f : Xr.F) (v : Int) (ix ex : Pg.XT k) (h : Xr.Sh f.vs sz) : Xr.Sh (Xr.putF s f v ix ex).vs sz := by
 unfold Xr.putF
 split
 · exact h.upd _ _ _
 · exact h
theorem Mc.do_ok {p : List (Pg.FT m n)} (hok : ∀ (i : Nat) (x : Pg.FT m n), p[i]? = some x → Pg.wfn p i x = 0) (hc : (p.map (fun f => Pg.cnts f.cmds)).sum ≤ 40) {t : Mc.St m} (h : Mc.Ok p t) (he : t.s.ended = false) (he2 : (Mc.do1 p t).s.ended = false) : Mc.Ok p (Mc.do1 p t) := by
 obtain ⟨s, fs⟩ := t
 cases fs with
 | nil => exact absurd rfl h.ne
 | cons f r =>
  have hf := h.all f List.mem_cons_self
  have hfu := h.fuel
  have htop := h.top
  obtain ⟨x, hx, hsh, htk⟩ := hf.ex
  obtain ⟨fr, fn, ks⟩ := f
  dsimp only at *
  have hrest : ∀ g ∈ r, Mc.FOk p s.fuel g := fun g hg => h.all g (List.mem_cons_of_mem _ hg)
  have hwait : ∀ g ∈ r, ∃ k ks, g.ks = k :: ks ∧ Mc.isCall k := h.wait
  have hrl : r.length ≤ 5 := by rw [List.length_cons] at htop; omega
  have hfns : ∀ g ∈ (⟨fr, fn, ks⟩ :: r : List (Mc.F m)).dropLast, g.fn + 1 < p.length := h.fn
  cases ks with
  | nil =>
   obtain ⟨l, hl⟩ := hf.last
   exact absurd hl (by simp)
  | cons k ks =>
   have hlast : k ≠ none → ∃ l, ks = l ++ [none] := fun hk => by
    obtain ⟨l, hl⟩ := hf.last
    have hl' : k :: ks = l ++ [none] := hl
    cases l with
    | nil => simp at hl'; exact absurd hl'.1 hk
    | cons a l => exact ⟨l, by simp at hl'; exact hl'.2⟩
   cases k with
   | none =>
    have hd : Mc.do1 p ⟨s, ⟨fr, fn, none :: ks⟩ :: r⟩ = Mc.back p s ⟨fr, fn, none :: ks⟩ r := rfl
    rw [hd] at he2 ⊢
    cases r with
    | nil => exact absurd he2 (by simp [Mc.back, Xr.fin])
    | cons g r2 =>
     unfold Mc.back at he2 ⊢
     dsimp only at he2 ⊢
     rw [hx] at he2 ⊢
     dsimp only at he2 ⊢
     have hg := hrest g List.mem_cons_self
     obtain ⟨kk, kks, hgk, hcall⟩ := hwait g List.mem_cons_self
     obtain ⟨xg, hxg, hshg, htkg⟩ := hg.ex
     have hfe : (Xr.wrS (Xr.tell (Xr.valS s fr x.res) ⟨6, fr.num, g.fr.at_, 0, 0, Xr.valV s fr x.res⟩) g.fr g.fr.at_ (Mc.var g.ks) 0 (Xr.valV s fr x.res)).fuel = s.fuel := (Mc.fuel_tell _ _).trans ((Mc.fuel_tell _ _).trans (Mc.fuel_val _ _ _))
     have hgf := hg.few
     refine ⟨by simp, by rw [List.length_cons] at htop hrl; show (_ :: r2).length ≤ 6; rw [List.length_cons]; omega, fun f' hf' => ?_, fun f' hf' => hwait f' (List.mem_cons_of_mem _ hf'), by rw [hfe]; exact hfu, fun f' hf' => ?_⟩
     rotate_left
     · cases r2 with
       | nil => cases hf'
       | cons g2 r3 =>
        have hf2 : f' ∈ (⟨Xr.wrF g.fr (Mc.var g.ks) 0 (Xr.valV s fr x.res), g.fn, g.ks.tail⟩ : Mc.F m) :: (g2 :: r3).dropLast := hf'
        rcases List.mem_cons.1 hf2 with rfl | hf2
        · exact hfns g (List.mem_cons_of_mem _ (show g ∈ g :: (g2 :: r3).dropLast from List.mem_cons_self))
        · exact hfns f' (List.mem_cons_of_mem _ (show f' ∈ g :: (g2 :: r3).dropLast from List.mem_cons_of_mem _ hf2))
     show Mc.FOk p (Xr.S.fuel _) f'
     rw [hfe]
     rcases List.mem_cons.1 (show f' ∈ _ :: r2 from hf') with rfl | hf'
     · refine ⟨⟨xg, hxg, hshg.upd _ _ _, fun k hk => htkg k (List.mem_of_mem_tail hk)⟩, ?_, ?_⟩
       · obtain ⟨l, hl⟩ := hg.last
         show ∃ l, g.ks.tail = l ++ [none]
         rw [hgk] at hl ⊢
         cases l with
         | nil =>
          simp at hl
          rw [hl.1] at hcall
          exact absurd hcall id
         | cons a l => exact ⟨l, by simp at hl; exact hl.2⟩
       · show g.ks.tail.length + _ ≤ _
         rw [List.length_tail]
         omega
     · exact hrest f' (List.mem_cons_of_mem _ hf')
   | some q =>
    obtain ⟨j, c, a⟩ := q
    obtain ⟨l0, hl0⟩ := hlast (by simp)
    have hd : Mc.do1 p ⟨s, ⟨fr, fn, some ⟨j, c, a⟩ :: ks⟩ :: r⟩ = if s.fuel = 0 then ⟨Xr.fin s fr a 1, []⟩ else Mc.cmd p j c a (Xr.stepS s fr a) (Xr.stepF s fr a) fn ks r := rfl
    rw [hd] at he2 ⊢
    by_cases h0 : s.fuel = 0
    · rw [if_pos h0] at he2
      exact absurd he2 (by simp [Xr.fin])
    · rw [if_neg h0] at he2 ⊢
      obtain ⟨q1, q2⟩ := Mc.step_not he h0 fr a
      have hsf : (Xr.stepF s fr a).vs = fr.vs := by unfold Xr.stepF; rw [if_neg h0]
      have hsh1 : Xr.Sh (Xr.stepF s fr a).vs x.sizes := by rw [hsf]; exact hsh
      have hk0 : Mc.TOk p fn x (some ⟨j, c, a⟩) := htk _ List.mem_cons_self
      obtain ⟨⟨w1, w2, w3⟩, w4⟩ := hk0
      have hcc := Pg.cnt_succ c
      have hkn : (some ⟨j, c, a⟩ :: ks : List (Mc.K m)).length + 200 * s.fuel ≤ 200 * 501 := hf.few
      rw [List.length_cons] at hkn
      generalize Xr.stepS s fr a = s1 at *
      generalize Xr.stepF s fr a = f1 at *
      have hrest1 : ∀ g ∈ r, Mc.FOk p s1.fuel g := fun g hg => (hrest g hg).le (by omega)
      have top1 : ∀ (f2 : Xr.F) (l : List (Mc.K m)), Xr.Sh f2.vs x.sizes → (∀ k ∈ l, Mc.TOk p fn x k) → l.length ≤ 150 → Mc.FOk p s1.fuel ⟨f2, fn, l ++ ks⟩ := fun f2 l h1 h2 h3 => by
       refine ⟨⟨x, hx, h1, fun k hk => ?_⟩, ⟨l ++ l0, by show l ++ ks = _; rw [hl0, List.append_assoc]⟩, ?_⟩
       · rcases List.mem_append.1 hk with hk | hk
         · exact h2 k hk
         · exact htk k (List.mem_cons_of_mem _ hk)
       · show (l ++ ks).length + _ ≤ _
         rw [List.length_append]
         omega
      have fin : ∀ (s2 : Xr.S) (f2 : Xr.F) (l : List (Mc.K m)), s2.fuel = s1.fuel → Xr.Sh f2.vs x.sizes → (∀ k ∈ l, Mc.TOk p fn x k) → l.length ≤ 150 → Mc.Ok p ⟨s2, ⟨f2, fn, l ++ ks⟩ :: r⟩ := fun s2 f2 l hs2 h1 h2 h3 => by
       refine ⟨by simp, by rw [List.length_cons] at htop ⊢; exact htop, fun f' hf' => ?_, hwait, by show s2.fuel ≤ 500; omega, fun f' hf' => ?_⟩
       rotate_left
       · cases r with
         | nil => cases hf'
         | cons g2 r3 =>
          have hf2 : f' ∈ (⟨f2, fn, l ++ ks⟩ : Mc.F m) :: (g2 :: r3).dropLast := hf'
          rcases List.mem_cons.1 hf2 with rfl | hf2
          · exact hfns ⟨fr, fn, some ⟨j, c, a⟩ :: ks⟩ (show _ ∈ _ :: (g2 :: r3).dropLast from List.mem_cons_self)
          · exact hfns f' (show f' ∈ _ :: (g2 :: r3).dropLast from List.mem_cons_of_mem _ hf2)
       show Mc.FOk p s2.fuel f'
       rw [hs2]
       rcases List.mem_cons.1 hf' with rfl | hf'
       · exact top1 f2 l h1 h2 h3
       · exact hrest1 f' hf'
      have none' : ∀ k ∈ ([] : List (Mc.K m)), Mc.TOk p fn x k := fun k hk => by cases hk
      unfold Mc.cmd at he2 ⊢
      by_cases c1 : c.1.1 = 1
      · rw [if_pos c1]
        exact fin _ _ [] ((Mc.fuel_tell _ _).trans (Mc.fuel_val _ _ _)) (hsh1.upd _ _ _) none' (by simp)
      rw [if_neg c1] at he2 ⊢
      by_cases c2 : c.1.1 = 2
      · rw [if_pos c2]
        exact fin _ _ [] (Mc.fuel_put _ _ _ _ _) (Mc.put_sh _ _ _ _ _ hsh1) none' (by simp)
      rw [if_neg c2] at he2 ⊢
      by_cases c3 : c.1.1 = 3
      · rw [if_pos c3] at he2 ⊢
        unfold Mc.call at he2 ⊢
        by_cases h5 : r.length = 5
        · rw [if_pos h5] at he2
          exact absurd he2 (by simp [Xr.fin])
        · rw [if_neg h5] at he2 ⊢
          cases hq : p[c.1.2.2.toNat]? with
          | none => exact fin _ _ [] rfl hsh1 none' (by simp)
          | some xq =>
           dsimp only
           have hfe : (Xr.parS (Xr.newF ((Xr.argS f1 c.2.1.2.2 s1).made + 1) (f1.deep + 1) xq.sizes) f1.at_ 0 (Xr.argV f1 c.2.1.2.2 s1) (Xr.tell { Xr.argS f1 c.2.1.2.2 s1 with made := (Xr.argS f1 c.2.1.2.2 s1).made + 1 } ⟨5, f1.num, f1.at_, (c.1.2.2.toNat : Nat), 0, (Xr.newF ((Xr.argS f1 c.2.1.2.2 s1).made + 1) (f1.deep + 1) xq.sizes).num⟩)).fuel = s1.fuel := (Mc.fuel_par _ _ _ _ _).trans ((Mc.fuel_tell _ _).trans (Mc.fuel_arg _ _ _))
           refine ⟨by simp, by show (_ :: _ :: r).length ≤ 6; rw [List.length_cons, List.length_cons]; omega, fun f' hf' => ?_, fun f' hf' => ?_, by rw [hfe]; omega, fun f' hf' => ?_⟩
           · show Mc.FOk p (Xr.S.fuel _) f'
             rw [hfe]
             rcases List.mem_cons.1 (show f' ∈ _ :: _ :: r from hf') with rfl | hf'
             · exact Mc.new_ok hok hc hq _ (Mc.par_sh _ _ _ (Xr.Sh.new _ _ _)) (by omega)
             rcases List.mem_cons.1 hf' with rfl | hf'
             · refine ⟨⟨x, hx, hsh1, htk⟩, hf.last, ?_⟩
               show (some ⟨j, c, a⟩ :: ks).length + _ ≤ _
               rw [List.length_cons]
               omega
             · exact hrest1 f' hf'
           · rcases List.mem_cons.1 (show f' ∈ _ :: r from hf') with rfl | hf'
             · exact ⟨_, _, rfl, c3⟩
             · exact hwait f' hf'
           · have hf2 : f' ∈ (⟨Xr.parF 0 (Xr.argV f1 c.2.1.2.2 s1) (Xr.newF ((Xr.argS f1 c.2.1.2.2 s1).made + 1) (f1.deep + 1) xq.sizes), c.1.2.2.toNat, Mc.push n xq.cmds (Xr.firstOf p c.1.2.2.toNat) ++ [none]⟩ : Mc.F m) :: ((⟨f1, fn, some ⟨j, c, a⟩ :: ks⟩ : Mc.F m) :: r).dropLast := hf'
             rcases List.mem_cons.1 hf2 with rfl | hf2
             · obtain ⟨_, _, hmy, _, _, _⟩ := Xr.wc_ok (show Pg.wc c.1.1 (Pg.at? x.sizes c.1.2.1) (Pg.may fn p.length c.1.2.2) _ (decide ((c.2.1.2.2.length : Int) = Pg.parOf p c.1.2.2)) _ _ _ = 0 from w1)
               have := of_decide_eq_true (show decide (0 ≤ c.1.2.2 ∧ c.1.2.2 ≤ (fn : Int) ∧ c.1.2.2 < (p.length : Int) - 1) = true from (hmy c3).1)
               show c.1.2.2.toNat + 1 < p.length
               omega
             · cases r with
               | nil => cases hf2
               | cons g2 r3 =>
                rcases List.mem_cons.1 (show f' ∈ _ :: (g2 :: r3).dropLast from hf2) with rfl | hf2
                · exact hfns ⟨fr, fn, some ⟨j, c, a⟩ :: ks⟩ (show _ ∈ _ :: (g2 :: r3).dropLast from List.mem_cons_self)
                · exact hfns f' (show f' ∈ _ :: (g2 :: r3).dropLast from List.mem_cons_of_mem _ hf2)
      rw [if_neg c3] at he2 ⊢
      by_cases c4 : c.1.1 = 4
      · rw [if_pos c4]
        exact fin _ _ [] ((Mc.fuel_tell _ _).trans (Mc.fuel_tell _ _)) (hsh1.upd _ _ _) none' (by simp)
      rw [if_neg c4] at he2 ⊢
      by_cases c5 : c.1.1 = 5
      · rw [if_pos c5]
        exact fin _ _ [] ((Mc.fuel_tell _ _).trans (Mc.fuel_val _ _ _)) hsh1 none' (by simp)
      rw [if_neg c5] at he2 ⊢
      have p1 := (Mc.push_len j c.2.2.1 (a + 1)).1
      have p2 := (Mc.push_len j c.2.2.2 (a + 1 + Pg.cnts c.2.2.1)).1
      have o1 := Mc.push_ok (now := fn) (x := x) (p := p) j c.2.2.1 (a + 1) w2 (by omega)
      have o2 := Mc.push_ok (now := fn) (x := x) (p := p) j c.2.2.2 (a + 1 + Pg.cnts c.2.2.1) w3 (by omega)
      by_cases c6 : c.1.1 = 6
      · rw [if_pos c6]
        refine fin _ _ _ (Mc.fuel_val _ _ _) hsh1 (fun k hk => ?_) ?_
        · split at hk
          · exact o1 k hk
          · exact o2 k hk
        · split <;> omega
      · rw [if_neg c6]
        by_cases hv : Xr.valV s1 f1 c.2.1.2.1 ≠ 0
        · rw [if_pos hv]
          have := fin (Xr.valS s1 f1 c.2.1.2.1) f1 (Mc.push j c.2.2.1 (a + 1) ++ [some ⟨j, c, a⟩]) (Mc.fuel_val _ _ _) hsh1 (fun k hk => by
           rcases List.mem_append.1 hk with hk | hk
           · exact o1 k hk
           · simp at hk
             rw [hk]
             exact htk _ List.mem_cons_self) (by rw [List.length_append]; show _ + 1 ≤ 150; omega)
          rw [List.append_assoc] at this
          exact this
        · rw [if_neg hv]
          exact fin _ _ [] (Mc.fuel_val _ _ _) hsh1 none' (by simp)
end
end Go.Proofs.Ytcalcikclcmkaaa
