/-
  SR6, SR7. By the verifier.
-/
import Derived.Test.YtfccpddehpgfoaaGreatDoorSR1
import Derived.Test.YtfccpddehpgfoaaGreatDoorYE
import Derived.Test.YtfccpddehpgfoaaGreatDoorYB
set_option maxRecDepth 100000
set_option maxHeartbeats 3200000
namespace Go.Proofs.YtfccpddehpgfoaaGreatDoor
open Go.RowKit
set_option linter.unusedVariables false
structure Cx.F (T : Array Value) (s : Tk.Sl) (inn out : ByteArray) (i : Nat) : Prop where
 size : T.size = 162
 s0 : T[0]? = some (.slice s.ad s.len s.cap)
 s1 : T[1]? = some (.string inn)
 s5 : T[5]? = some (.string out)
 s6 : T[6]? = some (.int .i64 (i : Nat))
structure Cx.M (T : Array Value) (s : Tk.Sl) (inn out : ByteArray) (i bx : Nat) (e : ByteArray) : Prop extends Cx.F T s inn out i where
 s7 : T[7]? = some (.pointer (some ⟨bx, 0, none⟩))
 s8 : T[8]? = some (.string e)
theorem Cx.F.kp {T T' : Array Value} {s : Tk.Sl} {inn out : ByteArray} {i : Nat} (h : Cx.F T s inn out i) (k : Fq.Kp 7 T T') : Cx.F T' s inn out i :=
 ⟨k.size.trans h.size, (k.at_ 0 (by omega)).trans h.s0, (k.at_ 1 (by omega)).trans h.s1, (k.at_ 5 (by omega)).trans h.s5, (k.at_ 6 (by omega)).trans h.s6⟩
theorem Cx.M.kp {T T' : Array Value} {s : Tk.Sl} {inn out e : ByteArray} {i bx : Nat} (h : Cx.M T s inn out i bx e) (k : Fq.Kp 9 T T') : Cx.M T' s inn out i bx e :=
 ⟨h.toF.kp (k.mono (by omega)), (k.at_ 7 (by omega)).trans h.s7, (k.at_ 8 (by omega)).trans h.s8⟩
theorem Cx.M.put {T T' : Array Value} {s : Tk.Sl} {inn out out2 e : ByteArray} {i bx : Nat} (h : Cx.M T s inn out i bx e) (k : Fq.Kp 5 T T') (g5 : T'[5]? = some (.string out2)) (g6 : T'[6]? = some (.int .i64 (i : Nat))) (g7 : T'[7]? = some (.pointer (some ⟨bx, 0, none⟩))) (g8 : T'[8]? = some (.string e)) : Cx.M T' s inn out2 i bx e :=
 ⟨⟨k.size.trans h.size, (k.at_ 0 (by omega)).trans h.s0, (k.at_ 1 (by omega)).trans h.s1, g5, g6⟩, g7, g8⟩
theorem Pr.noE_not : ∀ (n : Nat) (x : Tk.ET n), Pr.ok Pr.NK n x → Tk.noE n x = false
 | 0, _, h => h.elim
 | n + 1, x, h => by
  have hk : x.1.1 ≠ 0 := by
   rcases h.2 with ⟨h, _⟩ | h | ⟨h, _⟩ | ⟨h, _⟩ <;> omega
  show (decide (x.1.1 = 0) && decide (x.1.2.2.1 = 0) && x.1.2.2.2.toList.isEmpty && decide (x.2.length = 0)) = false
  rw [decide_eq_false hk]
  simp
theorem Pr.noE_34 {m n : Nat} (y : Tk.CT m (n + 1)) (h : Tk.cmdB (n + 1) y = true) (hk : y.1.1 = 3 ∨ y.1.1 = 4) : Tk.noE m y.2.1.2.1 = true := by
 have h : (match Tk.flds y.1.1 with
  | none => false
  | some (f1, f2, f3, f4, f5, f6, f7) => Tk.fitsB y.1.2.2.1 f1 && Tk.fitsB y.1.2.2.2 f2 && Tk.exprFit m y.2.1.1 f3 && Tk.exprFit m y.2.1.2.1 f4 && (y.2.1.2.2.all (Tk.exprB m) && (f5 || decide (y.2.1.2.2.length = 0))) &&
   (y.2.2.1.all (Tk.cmdB n) && (f6 || decide (y.2.2.1.length = 0))) && (y.2.2.2.all (Tk.cmdB n) && (f7 || decide (y.2.2.2.length = 0)))) = true := h
 rcases hk with hk | hk
 · rw [hk] at h
   have h : (Tk.fitsB y.1.2.2.1 true && Tk.fitsB y.1.2.2.2 true && Tk.exprFit m y.2.1.1 false && Tk.exprFit m y.2.1.2.1 false && (y.2.1.2.2.all (Tk.exprB m) && (true || decide (y.2.1.2.2.length = 0))) && (y.2.2.1.all (Tk.cmdB n) && (false || decide (y.2.2.1.length = 0))) && (y.2.2.2.all (Tk.cmdB n) && (false || decide (y.2.2.2.length = 0)))) = true := h
   simp only [Bool.and_eq_true] at h
   exact h.1.1.1.2
 · rw [hk] at h
   have h : (Tk.fitsB y.1.2.2.1 true && Tk.fitsB y.1.2.2.2 false && Tk.exprFit m y.2.1.1 false && Tk.exprFit m y.2.1.2.1 false && (y.2.1.2.2.all (Tk.exprB m) && (false || decide (y.2.1.2.2.length = 0))) && (y.2.2.1.all (Tk.cmdB n) && (false || decide (y.2.2.1.length = 0))) && (y.2.2.2.all (Tk.cmdB n) && (false || decide (y.2.2.2.length = 0)))) = true := h
   simp only [Bool.and_eq_true] at h
   exact h.1.1.1.2
theorem Cx.take_one {α β : Type} (f : α → β) (l : List α) (k : Nat) (x : α) (h : l[k]? = some x) : (l.map f).take (k + 1) = (l.map f).take k ++ [f x] := by
 rw [List.take_add_one, List.getElem?_map, h]
 rfl
theorem Qd.nk_size (i : Int) (h : Pr.NK i) : (Qd.num i).size ≤ 20 := Qd.num_size i (by have := h.1; omega) (by have := h.2; omega)
theorem cx_switch {m n d : Nat} {w W : World} {s : Tk.Sl} {i bx : Nat} {q : Tk.C} {y : Tk.CT m (n + 1)} {U : Array Value} {A : List UInt8} {k0 : Nat} {e : ByteArray} {Q : Exit → Act → World → Prop} (ih : ∀ (d k : Nat) (s : Tk.Sl) (l : List (Tk.CT m n)) (w : World), Tk.RS w 17 (Tk.LC w) (Tk.RC w m n) s l → (∀ y ∈ l, Tk.cmdB n y = true) → (∀ y ∈ l, Pr.cok Pr.NK n d y) → k + 2 * d ≤ 900 → (l.flatMap (Pr.cmd Qd.num n k)).length ≤ 140737488355328 → Calls Tryz.prog 42 #[.slice s.ad s.len s.cap, .string (Pr.bl (k))] w fun r w' => r = .returned (.string (Pr.by (l.flatMap (Pr.cmd Qd.num n k)))) ∧ Below w.heap.size w w') (hbW : Below w.heap.size w W) (hM : Cx.M U s (Pr.bl k0) (Pr.by A) i bx e) (h29 : U[29]? = some (.int .i64 q.k)) (hbv : Tk.BV W bx q.cells) (hbx : bx < W.heap.size)
  (hk : q.k = y.1.1) (hn1 : q.nm = y.1.2.2.1) (hn2 : q.ot = y.1.2.2.2) (hix : Tk.RE w m q.ix y.2.1.1) (hargs : Tk.RS w 5 (Tk.ELies w) (Tk.RE w m) q.args y.2.1.2.2) (hth : Tk.RS w 17 (Tk.LC w) (Tk.RC w m n) q.th y.2.2.1) (hel : Tk.RS w 17 (Tk.LC w) (Tk.RC w m n) q.el y.2.2.2)
  (hb1 : ∀ c ∈ y.2.2.1, Tk.cmdB n c = true) (hb3 : ∀ c ∈ y.2.2.2, Tk.cmdB n c = true) (hck : Pr.cok Pr.NK (n + 1) d y) (he : ¬ (y.1.1 = 3 ∨ y.1.1 = 4) → e = Pr.text Qd.num m y.2.1.2.1) (hkd : k0 + 2 * d ≤ 900) (hlen : A.length + (Pr.cmd Qd.num (n + 1) k0 y).length ≤ 140737488355328)
  (hN : ∀ T' v, Cx.F T' s (Pr.bl k0) (Pr.by (A ++ Pr.cmd Qd.num (n + 1) k0 y)) i → Below W.heap.size W v → Q .normal ⟨T', []⟩ v) :
  (Fq.blk Tryz.f42 2).wp Tryz.prog Q ⟨U, []⟩ W := by
 have hn1s : q.nm.size = y.1.2.2.1.size := by rw [hn1]
 have hn2s : q.ot.size = y.1.2.2.2.size := by rw [hn2]
 refine Fq.in_ Tryz.f42 2 (by kernel_rfl) ?_
 obtain ⟨V1, hV1⟩ : ∃ b, b = (q.k == 1) := ⟨_, rfl⟩
 refine wp_seq ?_
 refine Fq.at_ Tryz.f42 10 (by kernel_rfl) ?_
 refine cx_r10 hM.size h29 hV1 (fun U1 ⟨k1, t1, h29b⟩ => ?_)
 replace hM := hM.kp (k1.mono (by omega))
 replace h29 := h29b
 clear k1 h29b
 refine Fq.ok (Fq.cond 30 t1 (fun he1 => ?_) (fun he1 => ?_))
 · have hkk : y.1.1 = 1 := by rw [← hk]; simpa using hV1.symm.trans he1
   have hcm : Pr.cmd Qd.num (n + 1) k0 y = Pr.set Qd.num k0 y.1.2.2.1 y.2.1.2.1 := by
    show (if _ then _ else _) = _
    rw [if_pos hkk]
   rw [hcm] at hlen hN
   have hee := he (by omega)
   subst hee
   have hzz := congrArg ByteArray.size (Pr.t_set Qd.num A k0 y.1.2.2.1 y.2.1.2.1)
   simp only [ByteArray.size_append, Pr.by_size, Pr.bl_size, List.length_append] at hzz
   have z0 : (⟨#[32, 61, 32]⟩ : ByteArray).size = 3 := rfl
   have z1 : (⟨#[59, 10]⟩ : ByteArray).size = 2 := rfl
   refine Fq.at_ Tryz.f42 11 (by kernel_rfl) ?_
   refine cx_r11 hM.size hM.s1 hM.s5 hM.s6 hM.s7 hM.s8 (hbv 2 _ rfl) (by rw [Pr.by_size, Pr.bl_size]; omega) (fun U2 ⟨k2, g5, g6, g7, g8⟩ => ?_)
   rw [hn1, Pr.t_set Qd.num A k0 y.1.2.2.1 y.2.1.2.1] at g5
   exact hN _ _ (hM.put k2 g5 g6 g7 g8).toF (Below.refl _ _)
 obtain ⟨V2, hV2⟩ : ∃ b, b = (q.k == 2) := ⟨_, rfl⟩
 refine wp_seq ?_
 refine Fq.at_ Tryz.f42 12 (by kernel_rfl) ?_
 refine cx_r12 hM.size h29 hV2 (fun U1 ⟨k1, t1, h29b⟩ => ?_)
 replace hM := hM.kp (k1.mono (by omega))
 replace h29 := h29b
 clear k1 h29b
 refine Fq.ok (Fq.cond 42 t1 (fun he2 => ?_) (fun he2 => ?_))
 · have hkk : y.1.1 = 2 := by rw [← hk]; simpa using hV2.symm.trans he2
   have hcm : Pr.cmd Qd.num (n + 1) k0 y = Pr.put Qd.num k0 y.1.2.2.1 y.2.1.1 y.2.1.2.1 := by
    show (if _ then _ else _) = _
    rw [if_neg (by omega), if_pos hkk]
   rw [hcm] at hlen hN
   have hee := he (by omega)
   subst hee
   have hf : y.1.2.2.1.size ≤ 64 ∧ Pr.eok Pr.NK y.2.1.2.1 ∧ Pr.eok Pr.NK y.2.1.1 := by
    rcases hck with ⟨e0, h⟩ | ⟨e0, h⟩ | ⟨e0, h⟩ | e0 | ⟨e0, h⟩ | ⟨e0, h⟩ | ⟨e0, h⟩
    all_goals (first | exact h | (exfalso; omega))
   have hzz := congrArg ByteArray.size (Pr.t_put Qd.num A k0 y.1.2.2.1 y.2.1.1 y.2.1.2.1)
   simp only [ByteArray.size_append, Pr.by_size, Pr.bl_size, List.length_append] at hzz
   have z0 : (⟨#[91]⟩ : ByteArray).size = 1 := rfl
   have z1 : (⟨#[93, 32, 61, 32]⟩ : ByteArray).size = 4 := rfl
   have z2 : (⟨#[59, 10]⟩ : ByteArray).size = 2 := rfl
   refine Fq.at_ Tryz.f42 13 (by kernel_rfl) ?_
   refine cx_r13 hM.size hM.s1 hM.s5 hM.s6 hM.s7 hM.s8 hbv hbx (by rw [Pr.by_size, Pr.bl_size]; omega) (fun V hV => refExpr_any Qd.nk_size m q.ix y.2.1.1 V (hix.later (hbW.trans (hV.mono hbW.size)) (Nat.le_refl _)) hf.2.2.1 hf.2.2.2) (fun U2 W2 ⟨k2, g5, g6, g7, g8, hb2⟩ => ?_)
   rw [hn1, Pr.t_put Qd.num A k0 y.1.2.2.1 y.2.1.1 y.2.1.2.1] at g5
   exact hN _ _ (hM.put k2 g5 g6 g7 g8).toF hb2
 obtain ⟨V3, hV3⟩ : ∃ b, b = (q.k == 3) := ⟨_, rfl⟩
 refine wp_seq ?_
 refine Fq.at_ Tryz.f42 14 (by kernel_rfl) ?_
 refine cx_r14 hM.size h29 hV3 (fun U1 ⟨k1, t1, h29b⟩ => ?_)
 replace hM := hM.kp (k1.mono (by omega))
 replace h29 := h29b
 clear k1 h29b
 refine Fq.ok (Fq.cond 59 t1 (fun he3 => ?_) (fun he3 => ?_))
 · have hkk : y.1.1 = 3 := by rw [← hk]; simpa using hV3.symm.trans he3
   have hcm : Pr.cmd Qd.num (n + 1) k0 y = Pr.call Qd.num k0 y.1.2.2.1 y.1.2.2.2 y.2.1.2.2 := by
    show (if _ then _ else _) = _
    rw [if_neg (by omega), if_neg (by omega), if_pos hkk]
   rw [hcm] at hlen hN
   have hf : (∀ a ∈ y.2.1.2.2, Pr.eok Pr.NK a) ∧ y.2.1.2.2.length ≤ 1000 := by
    rcases hck with ⟨e0, h⟩ | ⟨e0, h⟩ | ⟨e0, h⟩ | e0 | ⟨e0, h⟩ | ⟨e0, h⟩ | ⟨e0, h⟩
    all_goals (first | exact h | (exfalso; omega))
   obtain ⟨hf1, hf2⟩ := hf
   have hzz := congrArg ByteArray.size (Pr.t_call Qd.num A k0 y.1.2.2.1 y.1.2.2.2 y.2.1.2.2)
   simp only [ByteArray.size_append, Pr.by_size, Pr.bl_size, List.length_append] at hzz
   have z0 : (⟨#[32, 61, 32]⟩ : ByteArray).size = 3 := rfl
   have z1 : (⟨#[40]⟩ : ByteArray).size = 1 := rfl
   have z2 : (⟨#[41, 59, 10]⟩ : ByteArray).size = 3 := rfl
   refine wp_seq ?_
   refine Fq.at_ Tryz.f42 15 (by kernel_rfl) ?_
   refine cx_r15 hM.size (fun U2 ⟨k2, h9⟩ => ?_)
   have hM2 := hM.kp k2
   refine Fq.ok (wp_seq (wp_seq ?_))
   refine Fq.at_ Tryz.f42 16 (by kernel_rfl) ?_
   refine cx_r16 hM2.size (fun U3 ⟨k3, h10⟩ => ?_)
   have hM3 := hM2.kp (k3.mono (by omega))
   have h93 := (k3.at_ 9 (by omega)).trans h9
   refine Fq.ok (wp_block ?_)
   have hln := (hargs.laterE hbW (Nat.le_refl _)).len
   obtain ⟨ts, hts⟩ : ∃ ts, ts = y.2.1.2.2.map (Pr.text Qd.num m) := ⟨_, rfl⟩
   have htl : ts.length = y.2.1.2.2.length := by rw [hts, List.length_map]
   have hsz : ∀ t ∈ ts, t.size ≤ 2000 := fun t ht => by
    rw [hts] at ht
    obtain ⟨a, ha, rfl⟩ := List.mem_map.1 ht
    have := Pr.eok_len Qd.nk_size a (hf1 a ha)
    omega
   refine wp_loop_ghost (fun d a v => ∃ (U' : Array Value) (k : Nat) (gv : Value), a = ⟨U', []⟩ ∧ k ≤ q.args.len ∧ d = q.args.len - k ∧ Cx.M U' s (Pr.bl k0) (Pr.by A) i bx e ∧ U'[9]? = some gv ∧ v.ownsRow W.heap.size 9 1 gv k ((ts.take k).map Value.string) ∧ U'[10]? = some (.int .i64 (k : Nat)) ∧ Below W.heap.size W v) q.args.len ⟨U3, 0, _, rfl, Nat.zero_le _, rfl, hM3, h93, World.ownsRow_nil _ _ _ _, h10, Below.refl _ _⟩ ?_
   rintro d' a v ⟨Ua, k, gv, rfl, hka, rfl, hMa, h9a, hrow, h10a, hbv2⟩
   have hbvv := hbW.trans (hbv2.mono hbW.size)
   have hBVv := hbv.below hbv2 hbx
   have hz2 := hbv2.size
   obtain ⟨ga, ca, rfl⟩ := ownsRow_slice hrow
   have x14 : v.cell? ⟨bx, 14, none⟩ = some (.slice q.args.ad q.args.len q.args.cap) := hBVv 14 _ rfl
   refine wp_seq (wp_seq ?_)
   refine Fq.at_ Tryz.f42 17 (by kernel_rfl) ?_
   refine cx_r17 hMa.size hMa.s7 h10a x14 rfl (fun Ub ⟨kb, h65⟩ => ?_)
   have hMb := hMa.kp (kb.mono (by omega))
   have h10b := (kb.at_ 10 (by omega)).trans h10a
   have h9b := (kb.at_ 9 (by omega)).trans h9a
   refine Fq.ok (Fq.cond 65 h65 (fun hb => ?_) (fun hb => ?_))
   · have hkt : k < q.args.len := by have := of_decide_eq_true hb; omega
     have hkt2 : k < y.2.1.2.2.length := by omega
     have hyk := List.getElem?_eq_getElem hkt2
     have hok1 := hf1 _ (List.getElem_mem hkt2)
     obtain ⟨ba, oa, x, had', hb', hlies', hrd'⟩ := (hargs.laterE hbvv (Nat.le_refl _)).at_ k _ hyk
     have hta := Cx.take_one (Pr.text Qd.num m) y.2.1.2.2 k _ hyk
     rw [← hts] at hta
     generalize y.2.1.2.2[k] = z at *
     have hcl := refExpr_any Qd.nk_size m x z v hrd' hok1.1 hok1.2
     unfold Tk.E.val at hcl
     rw [had'] at x14
     refine Fq.skip (Fq.ok (wp_seq (wp_block ?_)))
     refine Fq.at_ Tryz.f42 19 (by kernel_rfl) ?_
     refine cx_r19 (ts := ts.take k) hMb.size hMb.s7 h9b h10b x14 hkt hlies'.c0 hlies'.c1 hlies'.c2 hlies'.c3 hlies'.c4 hcl hrow (by omega) hz2 (fun Uc vc gv2 ⟨kc, g9, g10, hrow2, hbc⟩ => ?_)
     have hMc := hMb.kp kc
     rw [← hta] at hrow2
     refine Fq.blN (Fq.ok ?_)
     refine Fq.at_ Tryz.f42 18 (by kernel_rfl) ?_
     refine cx_r18 hMc.size g10 (by omega) (fun Ud ⟨kd, h10d⟩ => ?_)
     exact ⟨q.args.len - (k + 1), by omega, Ud, k + 1, gv2, rfl, by omega, rfl, hMc.kp (kd.mono (by omega)), (kd.at_ 9 (by omega)).trans g9, hrow2, h10d, hbv2.trans hbc⟩
   · have hge : k = q.args.len := by have := of_decide_eq_false hb; omega
     subst hge
     rw [List.take_of_length_le (by omega)] at hrow
     have hrow : v.ownsRow W.heap.size 9 1 (.slice ga q.args.len ca) ts.length (ts.map Value.string) := by rw [htl, ← hln]; exact hrow
     have hcom := fun V (hV : Below v.heap.size v V) => refCommas_own W.heap.size _ ts V (Sp.row_below hrow hV) (by omega) hsz
     refine wp_exit ?_
     refine Fq.thX (Fq.thX (Fq.blX (Fq.ok ?_)))
     refine Fq.at_ Tryz.f42 20 (by kernel_rfl) ?_
     refine cx_r20 hMb.size hMb.s1 hMb.s5 hMb.s6 hMb.s7 hMb.s8 h9b hBVv (Nat.lt_of_lt_of_le hbx hz2) (by rw [Pr.by_size, Pr.bl_size, hts]; omega) hcom (fun U2 W2 ⟨k2, g5, g6, g7, g8, hb2⟩ => ?_)
     rw [hn1, hn2, hts, Pr.t_call Qd.num A k0 y.1.2.2.1 y.1.2.2.2 y.2.1.2.2] at g5
     exact hN _ _ (hMb.put k2 g5 g6 g7 g8).toF (hbv2.trans (hb2.mono hz2))
 obtain ⟨V4, hV4⟩ : ∃ b, b = (q.k == 4) := ⟨_, rfl⟩
 refine wp_seq ?_
 refine Fq.at_ Tryz.f42 21 (by kernel_rfl) ?_
 refine cx_r21 hM.size h29 hV4 (fun U1 ⟨k1, t1, h29b⟩ => ?_)
 replace hM := hM.kp (k1.mono (by omega))
 replace h29 := h29b
 clear k1 h29b
 refine Fq.ok (Fq.cond 92 t1 (fun he4 => ?_) (fun he4 => ?_))
 · have hkk : y.1.1 = 4 := by rw [← hk]; simpa using hV4.symm.trans he4
   have hcm : Pr.cmd Qd.num (n + 1) k0 y = Pr.read k0 y.1.2.2.1 := by
    show (if _ then _ else _) = _
    rw [if_neg (by omega), if_neg (by omega), if_neg (by omega), if_pos hkk]
   rw [hcm] at hlen hN
   have hzz := congrArg ByteArray.size (Pr.t_read A k0 y.1.2.2.1)
   simp only [ByteArray.size_append, Pr.by_size, Pr.bl_size, List.length_append] at hzz
   have z0 : (⟨#[32, 61, 32, 114, 101, 97, 100, 59, 10]⟩ : ByteArray).size = 9 := rfl
   refine Fq.at_ Tryz.f42 22 (by kernel_rfl) ?_
   refine cx_r22 hM.size hM.s1 hM.s5 hM.s6 hM.s7 hM.s8 (hbv 2 _ rfl) (by rw [Pr.by_size, Pr.bl_size]; omega) (fun U2 ⟨k2, g5, g6, g7, g8⟩ => ?_)
   rw [hn1, Pr.t_read A k0 y.1.2.2.1] at g5
   exact hN _ _ (hM.put k2 g5 g6 g7 g8).toF (Below.refl _ _)
 obtain ⟨V5, hV5⟩ : ∃ b, b = (q.k == 5) := ⟨_, rfl⟩
 refine wp_seq ?_
 refine Fq.at_ Tryz.f42 23 (by kernel_rfl) ?_
 refine cx_r23 hM.size h29 hV5 (fun U1 ⟨k1, t1, h29b⟩ => ?_)
 replace hM := hM.kp (k1.mono (by omega))
 replace h29 := h29b
 clear k1 h29b
 refine Fq.ok (Fq.cond 101 t1 (fun he5 => ?_) (fun he5 => ?_))
 · have hkk : y.1.1 = 5 := by rw [← hk]; simpa using hV5.symm.trans he5
   have hcm : Pr.cmd Qd.num (n + 1) k0 y = Pr.prin Qd.num k0 y.2.1.2.1 := by
    show (if _ then _ else _) = _
    rw [if_neg (by omega), if_neg (by omega), if_neg (by omega), if_neg (by omega), if_pos hkk]
   rw [hcm] at hlen hN
   have hee := he (by omega)
   subst hee
   have hzz := congrArg ByteArray.size (Pr.t_prin Qd.num A k0 y.2.1.2.1)
   simp only [ByteArray.size_append, Pr.by_size, Pr.bl_size, List.length_append] at hzz
   have z0 : (⟨#[112, 114, 105, 110, 116, 32]⟩ : ByteArray).size = 6 := rfl
   have z1 : (⟨#[59, 10]⟩ : ByteArray).size = 2 := rfl
   refine Fq.at_ Tryz.f42 24 (by kernel_rfl) ?_
   refine cx_r24 hM.size hM.s1 hM.s5 hM.s6 hM.s7 hM.s8 (by rw [Pr.by_size, Pr.bl_size]; omega) (fun U2 ⟨k2, g5, g6, g7, g8⟩ => ?_)
   rw [Pr.t_prin Qd.num A k0 y.2.1.2.1] at g5
   exact hN _ _ (hM.put k2 g5 g6 g7 g8).toF (Below.refl _ _)
 obtain ⟨V6, hV6⟩ : ∃ b, b = (q.k == 6) := ⟨_, rfl⟩
 refine wp_seq ?_
 refine Fq.at_ Tryz.f42 25 (by kernel_rfl) ?_
 refine cx_r25 hM.size h29 hV6 (fun U1 ⟨k1, t1, h29b⟩ => ?_)
 replace hM := hM.kp (k1.mono (by omega))
 replace h29 := h29b
 clear k1 h29b
 refine Fq.ok (Fq.cond 110 t1 (fun he6 => ?_) (fun he6 => ?_))
 · have hkk : y.1.1 = 6 := by rw [← hk]; simpa using hV6.symm.trans he6
   have hcm : Pr.cmd Qd.num (n + 1) k0 y = Pr.iff Qd.num k0 (Pr.cmd Qd.num n (k0 + 2)) y.2.1.2.1 y.2.2.1 y.2.2.2 := by
    show (if _ then _ else _) = _
    rw [if_neg (by omega), if_neg (by omega), if_neg (by omega), if_neg (by omega), if_neg (by omega), if_pos hkk]
   rw [hcm] at hlen hN
   have hee := he (by omega)
   subst hee
   have hf : Pr.eok Pr.NK y.2.1.2.1 ∧ 0 < d ∧ (∀ a ∈ y.2.2.1, Pr.cok Pr.NK n (d - 1) a) ∧ ∀ a ∈ y.2.2.2, Pr.cok Pr.NK n (d - 1) a := by
    rcases hck with ⟨e0, h⟩ | ⟨e0, h⟩ | ⟨e0, h⟩ | e0 | ⟨e0, h⟩ | ⟨e0, h⟩ | ⟨e0, h⟩
    all_goals (first | exact h | (exfalso; omega))
   obtain ⟨hf1, hd, hf2, hf3⟩ := hf
   have hii := congrArg List.length (Pr.iff_is Qd.num A k0 (Pr.cmd Qd.num n (k0 + 2)) y.2.1.2.1 y.2.2.1 y.2.2.2)
   simp only [List.length_append] at hii
   have hzz := congrArg ByteArray.size (Pr.t_if1 Qd.num A k0 (Pr.cmd Qd.num n (k0 + 2)) y.2.1.2.1 y.2.2.1)
   simp only [ByteArray.size_append, Pr.by_size, Pr.bl_size, List.length_append] at hzz
   have z0 : (⟨#[105, 102, 32]⟩ : ByteArray).size = 3 := rfl
   have z1 : (⟨#[32, 123, 10]⟩ : ByteArray).size = 3 := rfl
   have z2 : (⟨#[125, 32, 101, 108, 115, 101, 32, 123, 10]⟩ : ByteArray).size = 9 := rfl
   have z3 : (⟨#[125, 10]⟩ : ByteArray).size = 2 := rfl
   have hz5 := congrArg ByteArray.size (Pr.t_end [] k0)
   simp only [ByteArray.size_append, Pr.by_size, Pr.bl_size, List.length_append] at hz5
   have hcall := ih (d - 1) (k0 + 2) q.th y.2.2.1 W (hth.laterC hbW (Nat.le_refl _)) hb1 hf2 (by omega) (by omega)
   rw [← Pr.bl_two] at hcall
   refine wp_seq ?_
   refine Fq.at_ Tryz.f42 26 (by kernel_rfl) ?_
   refine cx_r26 hM.size hM.s1 hM.s5 hM.s6 hM.s7 hM.s8 (hbv 15 _ rfl) (by rw [Pr.by_size, Pr.by_size, Pr.bl_size]; omega) hcall (fun U2 W2 ⟨k2, g5, g6, g7, g8, hb2⟩ => ?_)
   rw [Pr.t_if1 Qd.num A k0 (Pr.cmd Qd.num n (k0 + 2)) y.2.1.2.1 y.2.2.1] at g5
   have hM2 := hM.put k2 g5 g6 g7 g8
   have hbv2 := hbv.below hb2 hbx
   have hbx2 : bx < W2.heap.size := Nat.lt_of_lt_of_le hbx hb2.size
   have hbW2 := hbW.trans (hb2.mono hbW.size)
   refine Fq.ok (wp_seq (wp_seq ?_))
   refine Fq.at_ Tryz.f42 27 (by kernel_rfl) ?_
   refine cx_r27 hM2.size hM2.s7 (hbv2 16 _ rfl) rfl (fun U3 ⟨k3, h128⟩ => ?_)
   replace hM2 := hM2.kp (k3.mono (by omega))
   refine Fq.ok (Fq.cond 128 h128 (fun hb => ?_) (fun hb => ?_))
   · have hel0 : 0 < y.2.2.2.length := by have := of_decide_eq_true hb; have := hel.len; omega
     have hz2 := congrArg ByteArray.size (Pr.t_if2 (A ++ Pr.if1 Qd.num k0 (Pr.cmd Qd.num n (k0 + 2)) y.2.1.2.1 y.2.2.1) k0 (Pr.cmd Qd.num n (k0 + 2)) y.2.2.2 hel0)
     simp only [ByteArray.size_append, Pr.by_size, Pr.bl_size, List.length_append] at hz2
     have hcall2 := ih (d - 1) (k0 + 2) q.el y.2.2.2 W2 (hel.laterC hbW2 (Nat.le_refl _)) hb3 hf3 (by omega) (by omega)
     rw [← Pr.bl_two] at hcall2
     refine Fq.at_ Tryz.f42 28 (by kernel_rfl) ?_
     refine cx_r28 hM2.size hM2.s1 hM2.s5 hM2.s6 hM2.s7 hM2.s8 (hbv2 16 _ rfl) (by rw [Pr.by_size, Pr.by_size, Pr.bl_size, List.length_append]; omega) hcall2 (fun U4 W4 ⟨k4, p5, p6, p7, p8, hb4⟩ => ?_)
     rw [Pr.t_if2 (A ++ Pr.if1 Qd.num k0 (Pr.cmd Qd.num n (k0 + 2)) y.2.1.2.1 y.2.2.1) k0 (Pr.cmd Qd.num n (k0 + 2)) y.2.2.2 hel0] at p5
     have hM4 := hM2.put k4 p5 p6 p7 p8
     refine Fq.ok ?_
     refine Fq.at_ Tryz.f42 29 (by kernel_rfl) ?_
     refine cx_r29 hM4.size hM4.s1 hM4.s5 hM4.s6 hM4.s7 hM4.s8 (by rw [Pr.by_size, Pr.bl_size, List.length_append, List.length_append]; omega) (fun U5 ⟨k5, q5, q6, q7, q8⟩ => ?_)
     rw [Pr.t_end, Pr.iff_is] at q5
     exact hN _ _ (hM4.put k5 q5 q6 q7 q8).toF (hb2.trans (hb4.mono hb2.size))
   · have hel0 : ¬ 0 < y.2.2.2.length := by have := of_decide_eq_false hb; have := hel.len; omega
     have h0 := Pr.t_if0 (A ++ Pr.if1 Qd.num k0 (Pr.cmd Qd.num n (k0 + 2)) y.2.1.2.1 y.2.2.1) k0 (Pr.cmd Qd.num n (k0 + 2)) y.2.2.2 hel0
     have hM4 := hM2
     rw [h0] at hM4
     refine Fq.skip (Fq.ok ?_)
     refine Fq.at_ Tryz.f42 29 (by kernel_rfl) ?_
     refine cx_r29 hM4.size hM4.s1 hM4.s5 hM4.s6 hM4.s7 hM4.s8 (by rw [Pr.by_size, Pr.bl_size, List.length_append, List.length_append]; omega) (fun U5 ⟨k5, q5, q6, q7, q8⟩ => ?_)
     rw [Pr.t_end, Pr.iff_is] at q5
     exact hN _ _ (hM4.put k5 q5 q6 q7 q8).toF hb2
 obtain ⟨V7, hV7⟩ : ∃ b, b = (q.k == 7) := ⟨_, rfl⟩
 refine wp_seq ?_
 refine Fq.at_ Tryz.f42 30 (by kernel_rfl) ?_
 refine cx_r30 hM.size h29 hV7 (fun U1 ⟨k1, t1, h29b⟩ => ?_)
 replace hM := hM.kp (k1.mono (by omega))
 replace h29 := h29b
 clear k1 h29b
 refine Fq.ok (Fq.cond 143 t1 (fun he7 => ?_) (fun he7 => ?_))
 · have hkk : y.1.1 = 7 := by rw [← hk]; simpa using hV7.symm.trans he7
   have hcm : Pr.cmd Qd.num (n + 1) k0 y = Pr.whil Qd.num k0 (Pr.cmd Qd.num n (k0 + 2)) y.2.1.2.1 y.2.2.1 := by
    show (if _ then _ else _) = _
    rw [if_neg (by omega), if_neg (by omega), if_neg (by omega), if_neg (by omega), if_neg (by omega), if_neg (by omega)]
   rw [hcm] at hlen hN
   have hee := he (by omega)
   subst hee
   have hf : Pr.eok Pr.NK y.2.1.2.1 ∧ 0 < d ∧ ∀ a ∈ y.2.2.1, Pr.cok Pr.NK n (d - 1) a := by
    rcases hck with ⟨e0, h⟩ | ⟨e0, h⟩ | ⟨e0, h⟩ | e0 | ⟨e0, h⟩ | ⟨e0, h⟩ | ⟨e0, h⟩
    all_goals (first | exact h | (exfalso; omega))
   obtain ⟨hf1, hd, hf2⟩ := hf
   have hzz := congrArg ByteArray.size (Pr.t_whil Qd.num A k0 (Pr.cmd Qd.num n (k0 + 2)) y.2.1.2.1 y.2.2.1)
   simp only [ByteArray.size_append, Pr.by_size, Pr.bl_size, List.length_append] at hzz
   have z0 : (⟨#[119, 104, 105, 108, 101, 32]⟩ : ByteArray).size = 6 := rfl
   have z1 : (⟨#[32, 123, 10]⟩ : ByteArray).size = 3 := rfl
   have z2 : (⟨#[125, 10]⟩ : ByteArray).size = 2 := rfl
   have hcall := ih (d - 1) (k0 + 2) q.th y.2.2.1 W (hth.laterC hbW (Nat.le_refl _)) hb1 hf2 (by omega) (by omega)
   rw [← Pr.bl_two] at hcall
   refine Fq.at_ Tryz.f42 31 (by kernel_rfl) ?_
   refine cx_r31 hM.size hM.s1 hM.s5 hM.s6 hM.s7 hM.s8 (hbv 15 _ rfl) (by rw [Pr.by_size, Pr.by_size, Pr.bl_size]; omega) hcall (fun U2 W2 ⟨k2, g5, g6, g7, g8, hb2⟩ => ?_)
   rw [Pr.t_whil Qd.num A k0 (Pr.cmd Qd.num n (k0 + 2)) y.2.1.2.1 y.2.2.1] at g5
   exact hN _ _ (hM.put k2 g5 g6 g7 g8).toF hb2
 exfalso
 have w1 : ¬ y.1.1 = 1 := by rw [← hk]; intro h; rw [h] at hV1; have := hV1.symm.trans he1; simp at this
 have w2 : ¬ y.1.1 = 2 := by rw [← hk]; intro h; rw [h] at hV2; have := hV2.symm.trans he2; simp at this
 have w3 : ¬ y.1.1 = 3 := by rw [← hk]; intro h; rw [h] at hV3; have := hV3.symm.trans he3; simp at this
 have w4 : ¬ y.1.1 = 4 := by rw [← hk]; intro h; rw [h] at hV4; have := hV4.symm.trans he4; simp at this
 have w5 : ¬ y.1.1 = 5 := by rw [← hk]; intro h; rw [h] at hV5; have := hV5.symm.trans he5; simp at this
 have w6 : ¬ y.1.1 = 6 := by rw [← hk]; intro h; rw [h] at hV6; have := hV6.symm.trans he6; simp at this
 have w7 : ¬ y.1.1 = 7 := by rw [← hk]; intro h; rw [h] at hV7; have := hV7.symm.trans he7; simp at this
 rcases hck with ⟨e0, h⟩ | ⟨e0, h⟩ | ⟨e0, h⟩ | e0 | ⟨e0, h⟩ | ⟨e0, h⟩ | ⟨e0, h⟩ <;> omega
end Go.Proofs.YtfccpddehpgfoaaGreatDoor
namespace Go.Proofs.YtfccpddehpgfoaaGreatDoor
open Go.RowKit
set_option linter.unusedVariables false
theorem cx_r5 {T : Array Value} {w : World} {Q : Exit → Act → World → Prop} {q : Tk.C} {s : Tk.Sl} {b o i : Nat} (hT : T.size = 162) (s0 : T[0]? = some (.slice s.ad s.len s.cap)) (s6 : T[6]? = some (.int .i64 (i : Nat))) (had : s.ad = some ⟨b, o, none⟩) (hlt : i < s.len) (hcell : ∀ j v, q.cells[j]? = some v → w.cell? ⟨b, o + i * 17 + j, none⟩ = some v)
  (hQ : ∀ T', (Fq.Kp 7 T T' ∧ T'[7]? = some (.pointer (some ⟨w.heap.size, 0, none⟩))) → Q .normal ⟨T', []⟩ (w.alloc (Obj.cells q.cells 56))) : (Fq.reg Tryz.f42 5).wp Tryz.prog Q ⟨T, []⟩ w := by
 conv => arg 2; whnf
 have e : T = (T.toList).toArray := by simp
 rw [had] at s0
 refine Fq.fr e ?_
 refine Tp.elem6 (cs := q.cells) (z := (Tk.C.zero).cells) (b := b) (o := o) (i := i) (a0 := 0) (a1 := 6) (p := 17) (q := 18) (tA := 19) (tL := 20) (tB := 7) rfl rfl rfl rfl rfl rfl rfl rfl rfl rfl rfl rfl rfl rfl rfl rfl rfl rfl (by simpa using s0) (by simpa using s6) (by simp [hT]) (by simp [hT]) (by decide) (by decide) hlt (by simp [hT]) (by simp [hT]) (by simp [hT]) (by decide) (by decide) Tryz.underlying49 Tryz.zeroTC rfl rfl Tryz.underlying56 rfl hcell (Tk.C.one q) ?_
 refine hQ _ ⟨⟨by simp, fun k hk => ?_⟩, ?_⟩
 · rw [List.getElem?_toArray, List.getElem?_set_ne (by omega), List.getElem?_set_ne (by omega), List.getElem?_set_ne (by omega), List.getElem?_set_ne (by omega), List.getElem?_set_ne (by omega), Array.getElem?_toList]
 · rw [List.getElem?_toArray, List.getElem?_set_self (by simp [hT])]
theorem cx_round {m n d : Nat} (ih : ∀ (d k : Nat) (s : Tk.Sl) (l : List (Tk.CT m n)) (w : World), Tk.RS w 17 (Tk.LC w) (Tk.RC w m n) s l → (∀ y ∈ l, Tk.cmdB n y = true) → (∀ y ∈ l, Pr.cok Pr.NK n d y) → k + 2 * d ≤ 900 → (l.flatMap (Pr.cmd Qd.num n k)).length ≤ 140737488355328 → Calls Tryz.prog 42 #[.slice s.ad s.len s.cap, .string (Pr.bl (k))] w fun r w' => r = .returned (.string (Pr.by (l.flatMap (Pr.cmd Qd.num n k)))) ∧ Below w.heap.size w w') {s : Tk.Sl} {w wr : World} (hbw : Below w.heap.size w wr) {b o i : Nat} (had : s.ad = some ⟨b, o, none⟩) (hlt : i < s.len) {q : Tk.C} {y : Tk.CT m (n + 1)} (hrd : Tk.RC w m (n + 1) q y)
  (hcell : ∀ j v, q.cells[j]? = some v → wr.cell? ⟨b, o + i * 17 + j, none⟩ = some v) (hcb : Tk.cmdB (n + 1) y = true) (hck : Pr.cok Pr.NK (n + 1) d y) {k0 : Nat} (hkd : k0 + 2 * d ≤ 900) {A : List UInt8} (hlen : A.length + (Pr.cmd Qd.num (n + 1) k0 y).length ≤ 140737488355328) {U : Array Value} (hF : Cx.F U s (Pr.bl k0) (Pr.by A) i) {Q : Exit → Act → World → Prop}
  (hQ : ∀ U' v, Cx.F U' s (Pr.bl k0) (Pr.by (A ++ Pr.cmd Qd.num (n + 1) k0 y)) i → Below wr.heap.size wr v → Q .normal ⟨U', []⟩ v) :
  (Fq.blk Tryz.f42 1).wp Tryz.prog Q ⟨U, []⟩ wr := by
 obtain ⟨⟨⟨hk, -, hn1, hn2⟩, hnm, hot⟩, ⟨hix, hex, hargs⟩, hth, hel⟩ := hrd
 obtain ⟨-, -, hb1, hb3⟩ := Pr.cmd_parts y hcb
 have hal := (Below.refl wr.heap.size wr).alloc (Nat.le_refl _) (Obj.cells q.cells 56)
 have hBV : Tk.BV (wr.alloc (Obj.cells q.cells 56)) wr.heap.size q.cells := Tk.BX.new2 wr q
 have hbx : wr.heap.size < (wr.alloc (Obj.cells q.cells 56)).heap.size := by simp
 have hW1 := hbw.trans (hal.mono hbw.size)
 refine Fq.in_ Tryz.f42 1 (by kernel_rfl) ?_
 refine wp_seq ?_
 refine Fq.at_ Tryz.f42 5 (by kernel_rfl) ?_
 refine cx_r5 hF.size hF.s0 hF.s6 had hlt hcell (fun U1 ⟨k1, h7⟩ => ?_)
 have hF1 := hF.kp k1
 generalize wr.alloc (Obj.cells q.cells 56) = W1 at *
 refine Fq.ok (wp_seq ?_)
 refine Fq.at_ Tryz.f42 6 (by kernel_rfl) ?_
 refine cx_r6 hF1.size (fun U2 ⟨k2, h8⟩ => ?_)
 have hM2 : Cx.M U2 s (Pr.bl k0) (Pr.by A) i wr.heap.size ⟨#[]⟩ := ⟨hF1.kp (k2.mono (by omega)), (k2.at_ 7 (by omega)).trans h7, h8⟩
 refine Fq.ok ?_
 refine Fq.cut (fun T' v => ∃ e, Cx.M T' s (Pr.bl k0) (Pr.by A) i wr.heap.size e ∧ Below W1.heap.size W1 v ∧ (¬ (y.1.1 = 3 ∨ y.1.1 = 4) → e = Pr.text Qd.num m y.2.1.2.1)) (fun Q' hN => ?_) (fun T' v ⟨e, hM, hv, he⟩ => ?_)
 · refine wp_seq ?_
   refine Fq.at_ Tryz.f42 7 (by kernel_rfl) ?_
   refine cx_r7 hM2.size hM2.s7 (hBV 9 _ rfl) (hBV 10 _ rfl) (hBV 11 _ rfl) (hBV 12 _ rfl) (hBV 13 _ rfl) (noExpr_any m q.ex y.2.1.2.1 W1 (hex.later hW1 (Nat.le_refl _))) (fun U3 W3 ⟨k3, h24, hb⟩ => ?_)
   have hM3 := hM2.kp (k3.mono (by omega))
   have hBV3 := hBV.below hb hbx
   have hW3 := hW1.trans (hb.mono hW1.size)
   refine Fq.ok (Fq.cond 24 h24 (fun hc => ?_) (fun hc => ?_))
   · have hne : Tk.noE m y.2.1.2.1 = false := by simpa using hc
     have hnk : ¬ (y.1.1 = 3 ∨ y.1.1 = 4) := fun h => by rw [Pr.noE_34 y hcb h] at hne; cases hne
     have hok : Pr.eok Pr.NK y.2.1.2.1 := by
      rcases hck with ⟨e0, h⟩ | ⟨e0, h⟩ | ⟨e0, h⟩ | e0 | ⟨e0, h⟩ | ⟨e0, h⟩ | ⟨e0, h⟩
      · exact h
      · exact h.2.1
      · exact absurd (.inl e0) hnk
      · exact absurd (.inr e0) hnk
      · exact h
      · exact h.1
      · exact h.1
     refine Fq.at_ Tryz.f42 8 (by kernel_rfl) ?_
     refine cx_r8 hM3.size hM3.s7 (hBV3 9 _ rfl) (hBV3 10 _ rfl) (hBV3 11 _ rfl) (hBV3 12 _ rfl) (hBV3 13 _ rfl) (refExpr_any Qd.nk_size m q.ex y.2.1.2.1 W3 (hex.later hW3 (Nat.le_refl _)) hok.1 hok.2) (fun U4 W4 ⟨k4, h8', hb4⟩ => ?_)
     exact hN _ _ ⟨_, ⟨hM3.toF.kp (k4.mono (by omega)), (k4.at_ 7 (by omega)).trans hM3.s7, h8'⟩, hb.trans (hb4.mono hb.size), fun _ => rfl⟩
   · have hne : Tk.noE m y.2.1.2.1 = true := by simpa using hc
     refine Fq.skip (hN _ _ ⟨_, hM3, hb, fun hnk => ?_⟩)
     exfalso
     have hok : Pr.eok Pr.NK y.2.1.2.1 := by
      rcases hck with ⟨e0, h⟩ | ⟨e0, h⟩ | ⟨e0, h⟩ | e0 | ⟨e0, h⟩ | ⟨e0, h⟩ | ⟨e0, h⟩
      · exact h
      · exact h.2.1
      · exact absurd (.inl e0) hnk
      · exact absurd (.inr e0) hnk
      · exact h
      · exact h.1
      · exact h.1
     rw [Pr.noE_not m _ hok.1] at hne
     cases hne
 · have hBVv := hBV.below hv hbx
   have hWv := hW1.trans (hv.mono hW1.size)
   have hR : Below wr.heap.size wr v := hal.trans (hv.mono hal.size)
   refine wp_seq ?_
   refine Fq.at_ Tryz.f42 9 (by kernel_rfl) ?_
   refine cx_r9 hM.size hM.s7 (hBVv 0 _ rfl) (fun U4 ⟨k4, h29⟩ => ?_)
   refine Fq.ok (wp_block ?_)
   refine Fq.in_ Tryz.f42 2 (by kernel_rfl) ?_
   exact cx_switch ih hWv (hM.kp (k4.mono (by omega))) h29 hBVv (Nat.lt_of_lt_of_le hbx hv.size) hk hn1 hn2 hix hargs hth hel hb1 hb3 hck he hkd hlen (fun T' v' h hb => Fq.blN (hQ T' v' h (hR.trans (hb.mono hR.size))))
theorem cx_loop (s : Tk.Sl) (htl : s.len ≤ 35184372088832) (inn : ByteArray) (w : World) (g : Nat → List UInt8) (hg : g 0 = [])
  (hround : ∀ i, i < s.len → ∀ (wr : World), Below w.heap.size w wr → ∀ (U : Array Value), Cx.F U s inn (Pr.by (g i)) i → ∀ Q : Exit → Act → World → Prop, (∀ U' v, Cx.F U' s inn (Pr.by (g (i + 1))) i → Below wr.heap.size wr v → Q .normal ⟨U', []⟩ v) → (Fq.blk Tryz.f42 1).wp Tryz.prog Q ⟨U, []⟩ wr) :
  Calls Tryz.prog 42 #[.slice s.ad s.len s.cap, .string inn] w fun r w' => r = .returned (.string (Pr.by (g s.len))) ∧ Below w.heap.size w w' := by
 refine calls_of_wp Tryz.func42 rfl ?_
 rw [show Tryz.f42.ntmps - (#[.slice s.ad s.len s.cap, .string inn] : Array Value).size = 160 by rw [Tryz.ntmps42]; rfl]
 obtain ⟨T0, hT0⟩ : ∃ T0, T0 = #[.slice s.ad s.len s.cap, .string inn] ++ Array.replicate 160 undef := ⟨_, rfl⟩
 have hT : T0.size = 162 := by rw [hT0, Array.size_append, Array.size_replicate]; rfl
 have s0 : T0[0]? = some (.slice s.ad s.len s.cap) := by rw [hT0]; simp
 have s1 : T0[1]? = some (.string inn) := by rw [hT0]; simp
 rw [← hT0]
 clear hT0
 refine wp_seq ?_
 refine Fq.at_ Tryz.f42 0 (by kernel_rfl) ?_
 refine cx_r0 hT (fun U1 ⟨k1, h4⟩ => ?_)
 refine Fq.ok ?_
 refine wp_seq ?_
 refine Fq.at_ Tryz.f42 1 (by kernel_rfl) ?_
 refine cx_r1 (k1.size.trans hT) (fun U2 ⟨k2, h5⟩ => ?_)
 refine Fq.ok ?_
 refine wp_seq (wp_seq ?_)
 have s02 := (k2.at_ 0 (by omega)).trans ((k1.at_ 0 (by omega)).trans s0)
 have s12 := (k2.at_ 1 (by omega)).trans ((k1.at_ 1 (by omega)).trans s1)
 refine Fq.at_ Tryz.f42 2 (by kernel_rfl) ?_
 refine cx_r2 (k2.size.trans (k1.size.trans hT)) (fun U3 ⟨k3, h6⟩ => ?_)
 have hF : Cx.F U3 s inn (Pr.by (g 0)) 0 := ⟨k3.size.trans (k2.size.trans (k1.size.trans hT)), (k3.at_ 0 (by omega)).trans s02, (k3.at_ 1 (by omega)).trans s12, by rw [hg]; exact (k3.at_ 5 (by omega)).trans h5, h6⟩
 refine Fq.ok ?_
 refine wp_block ?_
 refine wp_loop_ghost (fun d a v => ∃ (U' : Array Value) (i : Nat), a = ⟨U', []⟩ ∧ i ≤ s.len ∧ d = s.len - i ∧ Cx.F U' s inn (Pr.by (g i)) i ∧ Below w.heap.size w v) s.len ⟨U3, 0, rfl, Nat.zero_le _, rfl, hF, Below.refl _ _⟩ ?_
 rintro d a v ⟨Ua, i, rfl, hi, rfl, hFa, hbv⟩
 refine wp_seq (wp_seq ?_)
 refine Fq.at_ Tryz.f42 3 (by kernel_rfl) ?_
 refine cx_r3 hFa.size hFa.s0 hFa.s6 htl rfl (fun Ub ⟨kb, h14⟩ => ?_)
 have hFb := hFa.kp (kb.mono (by omega))
 refine Fq.ok ?_
 refine Fq.cond 14 h14 (fun hb => ?_) (fun hb => ?_)
 · have hlt : i < s.len := by have := of_decide_eq_true hb; omega
   refine Fq.skip ?_
   refine Fq.ok ?_
   refine wp_seq (wp_block ?_)
   refine Fq.in_ Tryz.f42 1 (by kernel_rfl) ?_
   refine hround i hlt v hbv Ub hFb _ (fun Uc vc hFc hbc => ?_)
   refine Fq.blN (Fq.ok ?_)
   refine Fq.at_ Tryz.f42 4 (by kernel_rfl) ?_
   refine cx_r4 hFc.size hFc.s6 (by omega) (fun Ud ⟨kd, hd6⟩ => ?_)
   exact ⟨s.len - (i + 1), by omega, Ud, i + 1, rfl, by omega, rfl, ⟨kd.size.trans hFc.size, (kd.at_ 0 (by omega)).trans hFc.s0, (kd.at_ 1 (by omega)).trans hFc.s1, (kd.at_ 5 (by omega)).trans hFc.s5, hd6⟩, hbv.trans (hbc.mono hbv.size)⟩
 · have hge : i = s.len := by have := of_decide_eq_false hb; omega
   subst hge
   refine wp_exit ?_
   refine Fq.thX (Fq.thX (Fq.blX (Fq.ok ?_)))
   refine wp_seq ?_
   refine Fq.at_ Tryz.f42 32 (by kernel_rfl) ?_
   refine cx_r32 hFb.size hFb.s5 (fun Ue ⟨_, h4⟩ => ?_)
   refine Fq.ok (wp_ret ?_)
   exact Fq.ret rfl h4 ⟨rfl, hbv⟩
theorem refCmds_any {m : Nat} : ∀ (n : Nat), ∀ (d k : Nat) (s : Tk.Sl) (l : List (Tk.CT m n)) (w : World), Tk.RS w 17 (Tk.LC w) (Tk.RC w m n) s l → (∀ y ∈ l, Tk.cmdB n y = true) → (∀ y ∈ l, Pr.cok Pr.NK n d y) → k + 2 * d ≤ 900 → (l.flatMap (Pr.cmd Qd.num n k)).length ≤ 140737488355328 → Calls Tryz.prog 42 #[.slice s.ad s.len s.cap, .string (Pr.bl (k))] w fun r w' => r = .returned (.string (Pr.by (l.flatMap (Pr.cmd Qd.num n k)))) ∧ Below w.heap.size w w' := by
 intro n
 induction n with
 | zero =>
  intro d k s l w hs _ _ _ _
  obtain rfl : l = [] := by cases l with | nil => rfl | cons y r => exact nomatch (show Empty from y)
  have h0 : s.len = 0 := hs.len
  have h := cx_loop s (by omega) (Pr.bl k) w (fun _ => []) rfl (fun i hi => absurd hi (by omega))
  exact h
 | succ n ih =>
  intro d k s l w hs hcb hck hkd hlen
  have hln := hs.len
  have hfew := hs.few
  have h := cx_loop s (by omega) (Pr.bl k) w (fun i => (l.take i).flatMap (Pr.cmd Qd.num (n + 1) k)) rfl (fun i hi wr hbw U hF Q hQ => by
   have hlt2 : i < l.length := by omega
   have hy := List.getElem?_eq_getElem hlt2
   obtain ⟨b, o, q, had, hb, hlies, hrd⟩ := hs.at_ i _ hy
   have hft := Pr.flat_take (Pr.cmd Qd.num (n + 1) k) l i _ hy
   have hle := Pr.flat_le (Pr.cmd Qd.num (n + 1) k) l (i + 1)
   rw [hft, List.length_append] at hle
   refine cx_round ih hbw had hi hrd (hlies.later hbw (Nat.le_refl _) hb).cells (hcb _ (List.getElem_mem hlt2)) (hck _ (List.getElem_mem hlt2)) hkd (by omega) hF (fun U' v hF' hv => hQ U' v ?_ hv)
   show Cx.F U' s (Pr.bl k) (Pr.by ((l.take (i + 1)).flatMap (Pr.cmd Qd.num (n + 1) k))) i
   rw [hft]
   exact hF')
  rw [hln] at h
  rw [List.take_length] at h
  rw [hln]
  exact h
end Go.Proofs.YtfccpddehpgfoaaGreatDoor
