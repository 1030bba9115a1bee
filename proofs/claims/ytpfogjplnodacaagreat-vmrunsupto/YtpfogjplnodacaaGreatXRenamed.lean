/-
  The contract of trace's renamed. By the verifier.
-/
import Derived.Test.YtpfogjplnodacaaGreatLM
set_option maxRecDepth 100000
set_option maxHeartbeats 3200000
namespace Go.Proofs.YtpfogjplnodacaaGreat
open Go.RowKit
set_option linter.unusedVariables false
theorem Tryz.infoEx : (Tryz.prog.info? 69).map (fun i => (i.zero, i.size, i.bytes)) = some (some (.agg #[.int .i64 0, .int .i64 0, .slice none 0 0]), 3, 40) := by kernel_rfl
theorem Xr.Rg.name {w wr : World} {bl left : Nat} {k v : Int} {m : Nat} {rv : Value} {es : List Pg.E} {ys : List (Pg.XT m)} (h : Xr.Rg w wr bl left k v m rv es ys) (v' : Int) : Xr.Rg w (wr.setCell ⟨w.heap.size + 1 + 1, 1, none⟩ (.int .i64 v')) bl left k v' m rv es ys := by
 have h1 := h.sz
 have h2 := h.hbl
 have kk : ∀ q, q ≠ w.heap.size + 1 + 1 → (wr.setCell ⟨w.heap.size + 1 + 1, 1, none⟩ (.int .i64 v')).heap[q]? = wr.heap[q]? := fun q hq => Xr.set_other hq
 have b0 := kk bl (by omega)
 have b1 := kk (w.heap.size + 1) (by omega)
 have o2 : ∀ j, j ≠ 1 → (wr.setCell ⟨w.heap.size + 1 + 1, 1, none⟩ (.int .i64 v')).cell? ⟨w.heap.size + 1 + 1, j, none⟩ = wr.cell? ⟨w.heap.size + 1 + 1, j, none⟩ := fun j hj => World.cell?_setCell_other _ _ _ _ (by intro hh; exact hj (congrArg Addr.off hh).symm)
 exact ⟨⟨h.bt.os, h.bt.tape, h.bt.output, by rw [World.size_setCell]; exact h.bt.size, fun q q1 q2 => (kk q (by omega)).trans (h.bt.block q q1 q2)⟩, by rw [World.size_setCell]; omega, h2, (Xr.cell_kept b0 0).trans h.cl, (Xr.frz_kept b0 0).trans h.fl, (Xr.cell_kept b1 0).trans h.r0, (Xr.cell_kept b1 1).trans h.r1, (Xr.cell_kept b1 2).trans h.r2, fun j => (Xr.frz_kept b1 j).trans (h.rf j), (o2 0 (by omega)).trans h.c0, World.cell?_setCell_same _ _ _ h.c1, (o2 2 (by omega)).trans h.c2, fun j => by rw [World.frozen?_setCell]; exact h.fz j,
  Xr.ow_kept h.row (fun q hq => kk q (by have := (h.rlt q hq).1; omega)), h.gd.kept (by rw [World.size_setCell]; exact Nat.le_refl _) (fun q q1 q2 _ => kk q (by omega))⟩
theorem Xr.Rg.fin {w wr W' : World} {bl left : Nat} {k v : Int} {m : Nat} {es : List Pg.E} {ys : List (Pg.XT m)} {a : Option Addr} {n c : Nat} (h : Xr.Rg w wr bl left k v m (.slice a n c) es ys) (hn : es.length = n) (hl : n ≤ 4000) (hb : ∀ q, q ≠ w.heap.size + 1 → W'.heap[q]? = wr.heap[q]?) (hs : W'.heap.size = wr.heap.size) (ho : W'.os = wr.os) (ht : W'.tape = wr.tape) (hu : W'.output = wr.output) :
  Xr.RO w.heap.size W'.heap.size W' (m + 1) ⟨k, v, ⟨a, n, c⟩⟩ ((k, v), ys) ∧ W'.cell? ⟨bl, 0, none⟩ = some (.int .i64 (left : Nat)) ∧ W'.frozen? ⟨bl, 0, none⟩ = false ∧ Xr.Bt bl w.heap.size w W' := by
 have h2 := h.hbl
 have h3 := h.sz
 have hr := h.row
 rw [hn] at hr
 have h1 := Xr.ro_own k v hr h.sz (by rw [← h.gd.len]; exact hn) hl h.gd
 rw [hs]
 have b0 := hb bl (by omega)
 exact ⟨(h1.kept (Nat.le_of_eq hs.symm) (fun q q1 q2 => hb q (by omega))).mono (by omega), (Xr.cell_kept b0 0).trans h.cl, (Xr.frz_kept b0 0).trans h.fl, ⟨ho.trans h.bt.os, ht.trans h.bt.tape, hu.trans h.bt.output, by rw [hs]; exact h.bt.size, fun q q1 q2 => (hb q (by omega)).trans (h.bt.block q q1 q2)⟩⟩
theorem Xr.out_below {B hi bl lf : Nat} {w W W' : World} {n : Nat} {e : Pg.E} {x : Pg.XT n} (h : Xr.RO B W.heap.size W n e x ∧ W.cell? ⟨bl, 0, none⟩ = some (.int .i64 (lf : Nat)) ∧ W.frozen? ⟨bl, 0, none⟩ = false ∧ Xr.Bt bl hi w W) (hb : Below W.heap.size W W') (h1 : bl < W.heap.size) (h2 : hi ≤ W.heap.size) :
  Xr.RO B W'.heap.size W' n e x ∧ W'.cell? ⟨bl, 0, none⟩ = some (.int .i64 (lf : Nat)) ∧ W'.frozen? ⟨bl, 0, none⟩ = false ∧ Xr.Bt bl hi w W' := by
 have h3 := hb.size
 have hk := hb.block bl h1
 have ho := h.1.kept (W' := W') h3 (fun q _ q2 => hb.block q q2)
 exact ⟨⟨Nat.le_trans ho.lo h3, Nat.le_refl _, fun V v1 v2 => ho.is V (by omega) (fun q q1 q2 => v2 q q1 (by omega))⟩, (Xr.cell_kept hk 0).trans h.2.1, (Xr.frz_kept hk 0).trans h.2.2.1, h.2.2.2.trans (Xr.Bt.of (hb.mono h2))⟩
theorem renamed_any {w0 : World} (sa : Option Addr) (sl sc : Nat) (vs : List (List Int)) (hrv : Pg.RV w0 ⟨sa, sl, sc⟩ vs) : ∀ (n : Nat) (e : Pg.E) (x : Pg.XT n) (bl left : Nat) (w : World), Pg.RX w0 n e x → Below w0.heap.size w0 w → w0.heap.size ≤ bl → bl < w.heap.size → w.cell? ⟨bl, 0, none⟩ = some (.int .i64 (left : Nat)) → w.frozen? ⟨bl, 0, none⟩ = false → left ≤ 15 →
  Calls Tryz.prog 94 #[e.val, .slice sa sl sc, .pointer (some ⟨bl, 0, none⟩)] w fun r w' => ∃ E : Pg.E, r = .returned E.val ∧ Xr.RO w.heap.size w'.heap.size w' n E (Xr.rn vs n left x).1 ∧ w'.cell? ⟨bl, 0, none⟩ = some (.int .i64 ((Xr.rn vs n left x).2 : Nat)) ∧ w'.frozen? ⟨bl, 0, none⟩ = false ∧ Xr.Bt bl w.heap.size w w' := by
 intro n
 induction n with
 | zero => intro e x bl left w h; exact absurd h id
 | succ n ih =>
  intro e x bl left w hre hbw hb0 hbl hcl hfl hle
  obtain ⟨⟨hk, hn⟩, hs⟩ := hre
  have HRV := hide hrv
  have IH := hide ih
  have HS := hide hs
  have HLN := hide hs.len
  have hfew : e.args.len ≤ 35184372088832 := by rw [hs.len]; exact hs.few
  have HBW := hide hbw
  have HRN := hide (show Xr.rn vs (n + 1) left x = (((e.k, if e.k = 2 ∨ e.k = 3 then ((Pg.kindV vs e.n : Nat) : Int) else e.n), (Xr.rnL (Xr.rn vs n) left x.2).1), (Xr.rnL (Xr.rn vs n) left x.2).2) by rw [hk, hn]; rfl)
  obtain ⟨i0, hi0, hz0, hz1', hz2⟩ := info_of Tryz.infoEx
  have HI := hide hi0
  have HZ0 := hide hz0
  have HZ1 := hide hz1'
  have HZ2 := hide hz2
  clear hrv ih hs hbw hk hn hi0 hz0 hz1' hz2
  have hbA := (((Below.refl w.heap.size w).alloc (Nat.le_refl _) (Obj.cells #[.int .i64 e.k, .int .i64 e.n, .slice e.args.ad e.args.len e.args.cap] 69)).alloc (by simp) (Obj.cells #[.int .i64 0, .int .i64 0, .slice none 0 0] 69)).alloc (by simp; omega) (Obj.cells #[.int .i64 e.k, .int .i64 e.n, .slice none 0 0] 69)
  have HG0 := hide (show Xr.Rg w (((w.alloc (Obj.cells #[.int .i64 e.k, .int .i64 e.n, .slice e.args.ad e.args.len e.args.cap] 69)).alloc (Obj.cells #[.int .i64 0, .int .i64 0, .slice none 0 0] 69)).alloc (Obj.cells #[.int .i64 e.k, .int .i64 e.n, .slice none 0 0] 69)) bl left e.k e.n n (.slice none 0 0) [] [] from
   ⟨Xr.Bt.of hbA, by simp, hbl, (Xr.cell_kept (hbA.block bl hbl) 0).trans hcl, (Xr.frz_kept (hbA.block bl hbl) 0).trans hfl, by go_simp, by go_simp, by go_simp, fun j => by go_simp, by go_simp, by go_simp, by go_simp, fun j => by go_simp, ⟨rfl, .inl ⟨rfl, rfl⟩⟩, Xr.Gd.nil _ _ _ _⟩)
  have z0 : (((w.alloc (Obj.cells #[.int .i64 e.k, .int .i64 e.n, .slice e.args.ad e.args.len e.args.cap] 69)).alloc (Obj.cells #[.int .i64 0, .int .i64 0, .slice none 0 0] 69)).alloc (Obj.cells #[.int .i64 e.k, .int .i64 e.n, .slice none 0 0] 69)).cell? ⟨w.heap.size, 0, none⟩ = some (.int .i64 e.k) := by go_simp
  have z1 : (((w.alloc (Obj.cells #[.int .i64 e.k, .int .i64 e.n, .slice e.args.ad e.args.len e.args.cap] 69)).alloc (Obj.cells #[.int .i64 0, .int .i64 0, .slice none 0 0] 69)).alloc (Obj.cells #[.int .i64 e.k, .int .i64 e.n, .slice none 0 0] 69)).cell? ⟨w.heap.size, 1, none⟩ = some (.int .i64 e.n) := by go_simp
  have z2 : (((w.alloc (Obj.cells #[.int .i64 e.k, .int .i64 e.n, .slice e.args.ad e.args.len e.args.cap] 69)).alloc (Obj.cells #[.int .i64 0, .int .i64 0, .slice none 0 0] 69)).alloc (Obj.cells #[.int .i64 e.k, .int .i64 e.n, .slice none 0 0] 69)).cell? ⟨w.heap.size, 2, none⟩ = some (.slice e.args.ad e.args.len e.args.cap) := by go_simp
  clear hbA hcl hfl
  unfold Pg.E.val
  go_enter Tryz.func94, Tryz.ntmps94
  go_upto_region 2 with fail
  generalize (((w.alloc (Obj.cells #[.int .i64 e.k, .int .i64 e.n, .slice e.args.ad e.args.len e.args.cap] 69)).alloc (Obj.cells #[.int .i64 0, .int .i64 0, .slice none 0 0] 69)).alloc (Obj.cells #[.int .i64 e.k, .int .i64 e.n, .slice none 0 0] 69)) = W1 at *
  have HKO := hide (kindOf_any e.n ⟨sa, sl, sc⟩ vs W1 ((unhide HRV).later (show Below w0.heap.size w0 W1 from ⟨(unhide HG0).bt.os.trans (unhide HBW).os, (unhide HG0).bt.tape.trans (unhide HBW).tape, (unhide HG0).bt.output.trans (unhide HBW).output, Nat.le_trans (unhide HBW).size (unhide HG0).bt.size, fun q hq => ((unhide HG0).bt.block q (by have := (unhide HBW).size; omega) (by omega)).trans ((unhide HBW).block q hq)⟩) (Nat.le_refl _)))
  by_cases h23 : e.k = 2 ∨ e.k = 3
  · have HN := hide (show Xr.rn vs (n + 1) left x = (((e.k, ((Pg.kindV vs e.n : Nat) : Int)), (Xr.rnL (Xr.rn vs n) left x.2).1), (Xr.rnL (Xr.rn vs n) left x.2).2) by rw [unhide HRN, if_pos h23])
    have u1 := (unhide HG0).c1
    have u2 := (unhide HG0).fz 1
    have HG1 := hide ((unhide HG0).name ((Pg.kindV vs e.n : Nat) : Int))
    have y2 := (Xr.cell_kept (Xr.set_other (W := W1) (b := w.heap.size + 1 + 1) (o := 1) (v := .int .i64 ((Pg.kindV vs e.n : Nat) : Int)) (show w.heap.size ≠ w.heap.size + 1 + 1 by omega)) 2).trans z2
    rcases h23 with h23 | h23
    · have g2 : (e.k == 2) = true := by simp [h23]
      clear h23
      go_upto_region 4 with (first | (go_at_call 110; refine (unhide HKO).mono ?_; rintro r w5 ⟨rfl, rfl⟩))
      clear z0 z1 z2 u1 u2 HKO HG0 HRN g2
      generalize w5.setCell _ _ = W2 at *
      generalize ((Pg.kindV vs e.n : Nat) : Int) = v at *
      go_wp2_with fail
      clear y2
      go_loopw [31] (fun iv wr => ∃ (i lf : Nat) (rv : Value) (es : List Pg.E) (ys : List (Pg.XT n)), i ≤ e.args.len ∧ iv = .int .i64 i ∧ Hid (es.length = i) ∧ i + lf ≤ 15 ∧ Hid (Xr.rnL (Xr.rn vs n) left x.2 = (ys ++ (Xr.rnL (Xr.rn vs n) lf (x.2.drop i)).1, (Xr.rnL (Xr.rn vs n) lf (x.2.drop i)).2)) ∧ Xr.Rg w wr bl lf e.k v n rv es ys) (fun iv _ => e.args.len - (intOf iv).toNat)
      case atStart => exact ⟨0, left, _, [], [], Nat.zero_le _, rfl, rfl, by omega, by show _ = _; rw [List.drop_zero, List.nil_append], unhide HG1⟩
      case round =>
       obtain ⟨i, lf, rv, es, ys, hi, rfl, hel, hlf, hrel, hrg⟩ := hrel
       have HEL := hide (unhide hel)
       have HRL := hide (unhide hrel)
       have HRG := hide hrg
       have HWB := hide (show Below w0.heap.size w0 wr from ⟨hrg.bt.os.trans (unhide HBW).os, hrg.bt.tape.trans (unhide HBW).tape, hrg.bt.output.trans (unhide HBW).output, Nat.le_trans (unhide HBW).size hrg.bt.size, fun q hq => (hrg.bt.block q (by have := (unhide HBW).size; omega) (by omega)).trans ((unhide HBW).block q hq)⟩)
       obtain ⟨ra, rc, rfl⟩ : ∃ a c, rv = .slice a i c := by
        rcases hrg.row.2 with ⟨h1, h2⟩ | ⟨g, cap, cur, hv, _⟩
        · exact ⟨none, 0, by rw [← unhide hel, h2]; exact h1⟩
        · exact ⟨_, _, by rw [← unhide hel]; exact hv⟩
       have m0 := hrg.c0
       have m1 := hrg.c1
       have m2 := hrg.c2
       have f0 := hrg.rf 0
       have f1 := hrg.rf 1
       have f2 := hrg.rf 2
       have q1 : w.heap.size + 1 < wr.heap.size := by have := hrg.sz; omega
       have q2 : w.heap.size + 1 + 1 < wr.heap.size := by have := hrg.sz; omega
       have n0 := hrg.r0
       have n1 := hrg.r1
       have n2 := hrg.r2
       have HSW := hide (Xr.ret3 hrg.r0 hrg.r1 hrg.r2 (.int .i64 e.k) (.int .i64 v) (.slice ra i rc))
       have HFN := hide (hrg.fin (unhide hel) (by omega) (unhide HSW).2.2 (unhide HSW).2.1 rfl rfl rfl)
       clear hel hrel hrg
       by_cases hlt : i < e.args.len
       · have hlt2 : i < x.2.length := by have := unhide HLN; omega
         have hy := List.getElem?_eq_getElem hlt2
         have HDR := hide (List.drop_eq_getElem_cons hlt2)
         obtain ⟨b, o, cc, had, hb, hlies, hrd⟩ := (unhide HS).at_ i _ hy
         generalize x.2[i] = y at *
         obtain ⟨p0, p1, p2⟩ := hlies.later (unhide HWB) (Nat.le_refl _) hb
         have hbr : b < wr.heap.size := by have := (unhide HWB).size; omega
         have HRD := hide hrd
         clear hlies hrd hy
         have hi0 : (0 : Int) ≤ (i : Int) := by omega
         have hi1 : (i : Int) < (e.args.len : Int) := by omega
         rw [had]
         have hsz := (unhide HRG).sz
         have hblr : bl < wr.heap.size := by omega
         cases lf with
         | zero =>
          have k0 : wr.cell? ⟨bl, 0, none⟩ = some (.int .i64 0) := (unhide HRG).cl
          have HR := hide (show Xr.rn vs (n + 1) left x = (((e.k, v), ys), 0) by rw [unhide HN, unhide HRL, Xr.rnL_zero, List.append_nil])
          go_wp2_with fail
          obtain ⟨⟨s0, s1, s2⟩, hsS, hkS⟩ := unhide HSW
          have hF := unhide HFN
          generalize (((wr.setCell ⟨w.heap.size + 1, 0, none⟩ (.int .i64 e.k)).setCell ⟨w.heap.size + 1, 1, none⟩ (.int .i64 v)).setCell ⟨w.heap.size + 1, 2, none⟩ (.slice ra i rc)) = S at *
          have s3 : w.heap.size + 1 < S.heap.size := by omega
          refine bodyPost_ret (v := .agg #[.int .i64 e.k, .int .i64 v, .slice ra i rc]) (by simp [results, Tryz.results94, go_sem, s0, s1, s2, s3]) rfl ?_
          refine ⟨⟨e.k, v, ⟨ra, i, rc⟩⟩, rfl, ?_⟩
          rw [unhide HR]
          exact Xr.out_below hF ((Below.refl _ _).alloc (Nat.le_refl _) _) (by omega) (by omega)
         | succ l =>
          have k0 : wr.cell? ⟨bl, 0, none⟩ = some (.int .i64 ((l : Int) + 1)) := (unhide HRG).cl
          have k1 := (unhide HRG).fl
          have gl : (((l : Int) + 1) == 0) = false := by simp; omega
          have hR8 := ((unhide HRG).less l).below ((Below.refl _ (wr.setCell ⟨bl, 0, none⟩ (.int .i64 (l : Int)))).alloc (Nat.le_refl _) (Obj.cells #[.int .i64 cc.k, .int .i64 cc.n, .slice cc.args.ad cc.args.len cc.args.cap] 69))
          have t0 : ((wr.setCell ⟨bl, 0, none⟩ (.int .i64 (l : Int))).alloc (Obj.cells #[.int .i64 cc.k, .int .i64 cc.n, .slice cc.args.ad cc.args.len cc.args.cap] 69)).cell? ⟨wr.heap.size, 0, none⟩ = some (.int .i64 cc.k) := by go_simp
          have t1 : ((wr.setCell ⟨bl, 0, none⟩ (.int .i64 (l : Int))).alloc (Obj.cells #[.int .i64 cc.k, .int .i64 cc.n, .slice cc.args.ad cc.args.len cc.args.cap] 69)).cell? ⟨wr.heap.size, 1, none⟩ = some (.int .i64 cc.n) := by go_simp
          have t2 : ((wr.setCell ⟨bl, 0, none⟩ (.int .i64 (l : Int))).alloc (Obj.cells #[.int .i64 cc.k, .int .i64 cc.n, .slice cc.args.ad cc.args.len cc.args.cap] 69)).cell? ⟨wr.heap.size, 2, none⟩ = some (.slice cc.args.ad cc.args.len cc.args.cap) := by go_simp
          have t3 : wr.heap.size < ((wr.setCell ⟨bl, 0, none⟩ (.int .i64 (l : Int))).alloc (Obj.cells #[.int .i64 cc.k, .int .i64 cc.n, .slice cc.args.ad cc.args.len cc.args.cap] 69)).heap.size := by simp
          have HR8 := hide hR8
          clear hR8
          go_upto_region 9 with fail
          clear k0 k1 gl p0 p1 p2 m0 m1 m2 f0 f1 f2 n0 n1 n2 HSW HFN
          generalize ((wr.setCell ⟨bl, 0, none⟩ (.int .i64 (l : Int))).alloc (Obj.cells #[.int .i64 cc.k, .int .i64 cc.n, .slice cc.args.ad cc.args.len cc.args.cap] 69)) = V8 at *
          have HRd := hide ((unhide HR8).below ((Below.refl _ _).drew))
          have HIC := hide ((unhide IH) cc y bl l V8.drew (unhide HRD) (show Below w0.heap.size w0 V8.drew from ⟨(unhide HRd).bt.os.trans (unhide HBW).os, (unhide HRd).bt.tape.trans (unhide HBW).tape, (unhide HRd).bt.output.trans (unhide HBW).output, Nat.le_trans (unhide HBW).size (unhide HRd).bt.size, fun q hq => ((unhide HRd).bt.block q (by have := (unhide HBW).size; omega) (by omega)).trans ((unhide HBW).block q hq)⟩) hb0 (show bl < V8.heap.size by omega) (unhide HRd).cl (unhide HRd).fl (by omega))
          unfold Pg.E.val at HIC
          have k8 := (unhide HR8).c2
          have kf := (unhide HR8).fz 2
          go_region_law (first
           | (go_simp; go_at_call 94; refine (unhide HIC).mono ?_; rintro r w5 ⟨⟨ek, en, ⟨ea, el, ec⟩⟩, rfl, hro, hc5, hf5, hbt⟩; have HR5 := hide ((unhide HRd).kept hbt hc5 hf5); have HRO := hide hro; have k8 := (unhide HR5).c2; have kf := (unhide HR5).fz 2; have q5 : w.heap.size + 1 + 1 < w5.heap.size := by have := (unhide HR5).sz; omega
              have HBD := hide ((Below.refl w5.heap.size w5).alloc (Nat.le_refl _) (Obj.cells #[.int .i64 ek, .int .i64 en, .slice ea el ec] 69)); have HNW := hide (show ∀ j u, [Value.int .i64 ek, .int .i64 en, .slice ea el ec][j]? = some u → (w5.alloc (Obj.cells #[.int .i64 ek, .int .i64 en, .slice ea el ec] 69)).cell? ((⟨w5.heap.size, 0, none⟩ : Addr).add j) = some u from World.news_of_block (heap_alloc_new w5 (Obj.cells #[.int .i64 ek, .int .i64 en, .slice ea el ec] 69)))
              have HROW := hide (show w5.ownsRow (w.heap.size + 3) 69 3 (.slice ra i rc) i (Xr.exC es) from by have h := (unhide HR5).row; rw [unhide HEL] at h; exact h)
              clear hro hc5 hf5 hbt)
           | (refine step_append_lies _ rfl (.tmp 45) (.tmp 50) 67 rfl (w.heap.size + 3) 69 i0 _ 3 40 Tryz.underlying67 (unhide HI) (unhide HZ0) (unhide HZ1) (unhide HZ2) rfl (by omega) (.slice ra i rc) i (Xr.exC es) rfl (Pg.ow_below (unhide HROW) (unhide HBD)) _ 1 1 [.int .i64 ek, .int .i64 en, .slice ea el ec] rfl rfl (unhide HNW) (by simp [Value.oneCell']) (by omega) (by unfold maxLen; omega) (by omega) (by simp; omega) _ rfl ?_; intro gA cA w6 hoA hgA hatA hltA; have HGA := hide hgA; have HOA := hide hoA; have HAT := hide hatA; have hbb := (hgA.block (w.heap.size + 1 + 1) (by simp; omega) (fun e => by have := ((unhide HR5).rlt _ e.symm).1; omega)).trans ((unhide HBD).block (w.heap.size + 1 + 1) (by omega)); have z4 := (Xr.cell_kept hbb 2).trans (unhide HR5).c2; have z5 := (Xr.frz_kept hbb 2).trans ((unhide HR5).fz 2); clear hatA hltA hoA hgA hbb))
          all_goals
           go_wp2_with fail
           have hA := (unhide HR5).app (E := ⟨ek, en, ⟨ea, el, ec⟩⟩) (by have := (unhide HR8).sz; exact this) (unhide HRO) (fun g hg => ((unhide HR8).rlt g hg).2) (unhide HBD) (unhide HGA) gA cA (by rw [unhide HEL]; exact unhide HOA) (unhide HAT)
           rw [unhide HEL] at hA
           refine ⟨⟨i + 1, _, _, _, _, by omega, by go_num, ?_, ?_, ?_, hA⟩, by simp [intOf]; omega⟩
           · show _ = _
             rw [List.length_append, unhide HEL]
             rfl
           · have h1 := Xr.rn_sum vs n l y
             have h2 := Pg.parts_pos n (Xr.rn vs n l y).1
             omega
           · show _ = _
             rw [unhide HRL, unhide HDR]
             show (ys ++ ((Xr.rn vs n l y).1 :: (Xr.rnL (Xr.rn vs n) (Xr.rn vs n l y).2 (x.2.drop (i + 1))).1), _) = _
             rw [List.append_assoc]
             rfl
       · have HR := hide (show Xr.rn vs (n + 1) left x = (((e.k, v), ys), lf) by
          have hd : x.2.drop i = [] := List.drop_eq_nil_of_le (by have := unhide HLN; omega)
          rw [unhide HN, unhide HRL, hd]
          show (((e.k, v), ys ++ (Xr.rnL (Xr.rn vs n) lf []).1), (Xr.rnL (Xr.rn vs n) lf []).2) = _
          unfold Xr.rnL
          rw [List.append_nil])
         have hi1 : ¬ ((i : Int) < (e.args.len : Int)) := by omega
         go_wp2_with fail
         obtain ⟨⟨s0, s1, s2⟩, hsS, hkS⟩ := unhide HSW
         have hF := unhide HFN
         generalize (((wr.setCell ⟨w.heap.size + 1, 0, none⟩ (.int .i64 e.k)).setCell ⟨w.heap.size + 1, 1, none⟩ (.int .i64 v)).setCell ⟨w.heap.size + 1, 2, none⟩ (.slice ra i rc)) = S at *
         refine bodyPost_ret (v := .agg #[.int .i64 e.k, .int .i64 v, .slice ra i rc]) (by simp [results, Tryz.results94, go_sem, s0, s1, s2]) rfl ?_
         refine ⟨⟨e.k, v, ⟨ra, i, rc⟩⟩, rfl, ?_⟩
         rw [unhide HR]
         exact hF
    · have g2 : (e.k == 2) = false := by simp [h23]
      have g3 : (e.k == 3) = true := by simp [h23]
      clear h23
      go_upto_region 4 with (first | (go_at_call 110; refine (unhide HKO).mono ?_; rintro r w5 ⟨rfl, rfl⟩))
      clear z0 z1 z2 u1 u2 HKO HG0 HRN g2 g3
      generalize w5.setCell _ _ = W2 at *
      generalize ((Pg.kindV vs e.n : Nat) : Int) = v at *
      go_wp2_with fail
      clear y2
      go_loopw [31] (fun iv wr => ∃ (i lf : Nat) (rv : Value) (es : List Pg.E) (ys : List (Pg.XT n)), i ≤ e.args.len ∧ iv = .int .i64 i ∧ Hid (es.length = i) ∧ i + lf ≤ 15 ∧ Hid (Xr.rnL (Xr.rn vs n) left x.2 = (ys ++ (Xr.rnL (Xr.rn vs n) lf (x.2.drop i)).1, (Xr.rnL (Xr.rn vs n) lf (x.2.drop i)).2)) ∧ Xr.Rg w wr bl lf e.k v n rv es ys) (fun iv _ => e.args.len - (intOf iv).toNat)
      case atStart => exact ⟨0, left, _, [], [], Nat.zero_le _, rfl, rfl, by omega, by show _ = _; rw [List.drop_zero, List.nil_append], unhide HG1⟩
      case round =>
       obtain ⟨i, lf, rv, es, ys, hi, rfl, hel, hlf, hrel, hrg⟩ := hrel
       have HEL := hide (unhide hel)
       have HRL := hide (unhide hrel)
       have HRG := hide hrg
       have HWB := hide (show Below w0.heap.size w0 wr from ⟨hrg.bt.os.trans (unhide HBW).os, hrg.bt.tape.trans (unhide HBW).tape, hrg.bt.output.trans (unhide HBW).output, Nat.le_trans (unhide HBW).size hrg.bt.size, fun q hq => (hrg.bt.block q (by have := (unhide HBW).size; omega) (by omega)).trans ((unhide HBW).block q hq)⟩)
       obtain ⟨ra, rc, rfl⟩ : ∃ a c, rv = .slice a i c := by
        rcases hrg.row.2 with ⟨h1, h2⟩ | ⟨g, cap, cur, hv, _⟩
        · exact ⟨none, 0, by rw [← unhide hel, h2]; exact h1⟩
        · exact ⟨_, _, by rw [← unhide hel]; exact hv⟩
       have m0 := hrg.c0
       have m1 := hrg.c1
       have m2 := hrg.c2
       have f0 := hrg.rf 0
       have f1 := hrg.rf 1
       have f2 := hrg.rf 2
       have q1 : w.heap.size + 1 < wr.heap.size := by have := hrg.sz; omega
       have q2 : w.heap.size + 1 + 1 < wr.heap.size := by have := hrg.sz; omega
       have n0 := hrg.r0
       have n1 := hrg.r1
       have n2 := hrg.r2
       have HSW := hide (Xr.ret3 hrg.r0 hrg.r1 hrg.r2 (.int .i64 e.k) (.int .i64 v) (.slice ra i rc))
       have HFN := hide (hrg.fin (unhide hel) (by omega) (unhide HSW).2.2 (unhide HSW).2.1 rfl rfl rfl)
       clear hel hrel hrg
       by_cases hlt : i < e.args.len
       · have hlt2 : i < x.2.length := by have := unhide HLN; omega
         have hy := List.getElem?_eq_getElem hlt2
         have HDR := hide (List.drop_eq_getElem_cons hlt2)
         obtain ⟨b, o, cc, had, hb, hlies, hrd⟩ := (unhide HS).at_ i _ hy
         generalize x.2[i] = y at *
         obtain ⟨p0, p1, p2⟩ := hlies.later (unhide HWB) (Nat.le_refl _) hb
         have hbr : b < wr.heap.size := by have := (unhide HWB).size; omega
         have HRD := hide hrd
         clear hlies hrd hy
         have hi0 : (0 : Int) ≤ (i : Int) := by omega
         have hi1 : (i : Int) < (e.args.len : Int) := by omega
         rw [had]
         have hsz := (unhide HRG).sz
         have hblr : bl < wr.heap.size := by omega
         cases lf with
         | zero =>
          have k0 : wr.cell? ⟨bl, 0, none⟩ = some (.int .i64 0) := (unhide HRG).cl
          have HR := hide (show Xr.rn vs (n + 1) left x = (((e.k, v), ys), 0) by rw [unhide HN, unhide HRL, Xr.rnL_zero, List.append_nil])
          go_wp2_with fail
          obtain ⟨⟨s0, s1, s2⟩, hsS, hkS⟩ := unhide HSW
          have hF := unhide HFN
          generalize (((wr.setCell ⟨w.heap.size + 1, 0, none⟩ (.int .i64 e.k)).setCell ⟨w.heap.size + 1, 1, none⟩ (.int .i64 v)).setCell ⟨w.heap.size + 1, 2, none⟩ (.slice ra i rc)) = S at *
          have s3 : w.heap.size + 1 < S.heap.size := by omega
          refine bodyPost_ret (v := .agg #[.int .i64 e.k, .int .i64 v, .slice ra i rc]) (by simp [results, Tryz.results94, go_sem, s0, s1, s2, s3]) rfl ?_
          refine ⟨⟨e.k, v, ⟨ra, i, rc⟩⟩, rfl, ?_⟩
          rw [unhide HR]
          exact Xr.out_below hF ((Below.refl _ _).alloc (Nat.le_refl _) _) (by omega) (by omega)
         | succ l =>
          have k0 : wr.cell? ⟨bl, 0, none⟩ = some (.int .i64 ((l : Int) + 1)) := (unhide HRG).cl
          have k1 := (unhide HRG).fl
          have gl : (((l : Int) + 1) == 0) = false := by simp; omega
          have hR8 := ((unhide HRG).less l).below ((Below.refl _ (wr.setCell ⟨bl, 0, none⟩ (.int .i64 (l : Int)))).alloc (Nat.le_refl _) (Obj.cells #[.int .i64 cc.k, .int .i64 cc.n, .slice cc.args.ad cc.args.len cc.args.cap] 69))
          have t0 : ((wr.setCell ⟨bl, 0, none⟩ (.int .i64 (l : Int))).alloc (Obj.cells #[.int .i64 cc.k, .int .i64 cc.n, .slice cc.args.ad cc.args.len cc.args.cap] 69)).cell? ⟨wr.heap.size, 0, none⟩ = some (.int .i64 cc.k) := by go_simp
          have t1 : ((wr.setCell ⟨bl, 0, none⟩ (.int .i64 (l : Int))).alloc (Obj.cells #[.int .i64 cc.k, .int .i64 cc.n, .slice cc.args.ad cc.args.len cc.args.cap] 69)).cell? ⟨wr.heap.size, 1, none⟩ = some (.int .i64 cc.n) := by go_simp
          have t2 : ((wr.setCell ⟨bl, 0, none⟩ (.int .i64 (l : Int))).alloc (Obj.cells #[.int .i64 cc.k, .int .i64 cc.n, .slice cc.args.ad cc.args.len cc.args.cap] 69)).cell? ⟨wr.heap.size, 2, none⟩ = some (.slice cc.args.ad cc.args.len cc.args.cap) := by go_simp
          have t3 : wr.heap.size < ((wr.setCell ⟨bl, 0, none⟩ (.int .i64 (l : Int))).alloc (Obj.cells #[.int .i64 cc.k, .int .i64 cc.n, .slice cc.args.ad cc.args.len cc.args.cap] 69)).heap.size := by simp
          have HR8 := hide hR8
          clear hR8
          go_upto_region 9 with fail
          clear k0 k1 gl p0 p1 p2 m0 m1 m2 f0 f1 f2 n0 n1 n2 HSW HFN
          generalize ((wr.setCell ⟨bl, 0, none⟩ (.int .i64 (l : Int))).alloc (Obj.cells #[.int .i64 cc.k, .int .i64 cc.n, .slice cc.args.ad cc.args.len cc.args.cap] 69)) = V8 at *
          have HRd := hide ((unhide HR8).below ((Below.refl _ _).drew))
          have HIC := hide ((unhide IH) cc y bl l V8.drew (unhide HRD) (show Below w0.heap.size w0 V8.drew from ⟨(unhide HRd).bt.os.trans (unhide HBW).os, (unhide HRd).bt.tape.trans (unhide HBW).tape, (unhide HRd).bt.output.trans (unhide HBW).output, Nat.le_trans (unhide HBW).size (unhide HRd).bt.size, fun q hq => ((unhide HRd).bt.block q (by have := (unhide HBW).size; omega) (by omega)).trans ((unhide HBW).block q hq)⟩) hb0 (show bl < V8.heap.size by omega) (unhide HRd).cl (unhide HRd).fl (by omega))
          unfold Pg.E.val at HIC
          have k8 := (unhide HR8).c2
          have kf := (unhide HR8).fz 2
          go_region_law (first
           | (go_simp; go_at_call 94; refine (unhide HIC).mono ?_; rintro r w5 ⟨⟨ek, en, ⟨ea, el, ec⟩⟩, rfl, hro, hc5, hf5, hbt⟩; have HR5 := hide ((unhide HRd).kept hbt hc5 hf5); have HRO := hide hro; have k8 := (unhide HR5).c2; have kf := (unhide HR5).fz 2; have q5 : w.heap.size + 1 + 1 < w5.heap.size := by have := (unhide HR5).sz; omega
              have HBD := hide ((Below.refl w5.heap.size w5).alloc (Nat.le_refl _) (Obj.cells #[.int .i64 ek, .int .i64 en, .slice ea el ec] 69)); have HNW := hide (show ∀ j u, [Value.int .i64 ek, .int .i64 en, .slice ea el ec][j]? = some u → (w5.alloc (Obj.cells #[.int .i64 ek, .int .i64 en, .slice ea el ec] 69)).cell? ((⟨w5.heap.size, 0, none⟩ : Addr).add j) = some u from World.news_of_block (heap_alloc_new w5 (Obj.cells #[.int .i64 ek, .int .i64 en, .slice ea el ec] 69)))
              have HROW := hide (show w5.ownsRow (w.heap.size + 3) 69 3 (.slice ra i rc) i (Xr.exC es) from by have h := (unhide HR5).row; rw [unhide HEL] at h; exact h)
              clear hro hc5 hf5 hbt)
           | (refine step_append_lies _ rfl (.tmp 45) (.tmp 50) 67 rfl (w.heap.size + 3) 69 i0 _ 3 40 Tryz.underlying67 (unhide HI) (unhide HZ0) (unhide HZ1) (unhide HZ2) rfl (by omega) (.slice ra i rc) i (Xr.exC es) rfl (Pg.ow_below (unhide HROW) (unhide HBD)) _ 1 1 [.int .i64 ek, .int .i64 en, .slice ea el ec] rfl rfl (unhide HNW) (by simp [Value.oneCell']) (by omega) (by unfold maxLen; omega) (by omega) (by simp; omega) _ rfl ?_; intro gA cA w6 hoA hgA hatA hltA; have HGA := hide hgA; have HOA := hide hoA; have HAT := hide hatA; have hbb := (hgA.block (w.heap.size + 1 + 1) (by simp; omega) (fun e => by have := ((unhide HR5).rlt _ e.symm).1; omega)).trans ((unhide HBD).block (w.heap.size + 1 + 1) (by omega)); have z4 := (Xr.cell_kept hbb 2).trans (unhide HR5).c2; have z5 := (Xr.frz_kept hbb 2).trans ((unhide HR5).fz 2); clear hatA hltA hoA hgA hbb))
          all_goals
           go_wp2_with fail
           have hA := (unhide HR5).app (E := ⟨ek, en, ⟨ea, el, ec⟩⟩) (by have := (unhide HR8).sz; exact this) (unhide HRO) (fun g hg => ((unhide HR8).rlt g hg).2) (unhide HBD) (unhide HGA) gA cA (by rw [unhide HEL]; exact unhide HOA) (unhide HAT)
           rw [unhide HEL] at hA
           refine ⟨⟨i + 1, _, _, _, _, by omega, by go_num, ?_, ?_, ?_, hA⟩, by simp [intOf]; omega⟩
           · show _ = _
             rw [List.length_append, unhide HEL]
             rfl
           · have h1 := Xr.rn_sum vs n l y
             have h2 := Pg.parts_pos n (Xr.rn vs n l y).1
             omega
           · show _ = _
             rw [unhide HRL, unhide HDR]
             show (ys ++ ((Xr.rn vs n l y).1 :: (Xr.rnL (Xr.rn vs n) (Xr.rn vs n l y).2 (x.2.drop (i + 1))).1), _) = _
             rw [List.append_assoc]
             rfl
       · have HR := hide (show Xr.rn vs (n + 1) left x = (((e.k, v), ys), lf) by
          have hd : x.2.drop i = [] := List.drop_eq_nil_of_le (by have := unhide HLN; omega)
          rw [unhide HN, unhide HRL, hd]
          show (((e.k, v), ys ++ (Xr.rnL (Xr.rn vs n) lf []).1), (Xr.rnL (Xr.rn vs n) lf []).2) = _
          unfold Xr.rnL
          rw [List.append_nil])
         have hi1 : ¬ ((i : Int) < (e.args.len : Int)) := by omega
         go_wp2_with fail
         obtain ⟨⟨s0, s1, s2⟩, hsS, hkS⟩ := unhide HSW
         have hF := unhide HFN
         generalize (((wr.setCell ⟨w.heap.size + 1, 0, none⟩ (.int .i64 e.k)).setCell ⟨w.heap.size + 1, 1, none⟩ (.int .i64 v)).setCell ⟨w.heap.size + 1, 2, none⟩ (.slice ra i rc)) = S at *
         refine bodyPost_ret (v := .agg #[.int .i64 e.k, .int .i64 v, .slice ra i rc]) (by simp [results, Tryz.results94, go_sem, s0, s1, s2]) rfl ?_
         refine ⟨⟨e.k, v, ⟨ra, i, rc⟩⟩, rfl, ?_⟩
         rw [unhide HR]
         exact hF
  · have HN := hide (show Xr.rn vs (n + 1) left x = (((e.k, e.n), (Xr.rnL (Xr.rn vs n) left x.2).1), (Xr.rnL (Xr.rn vs n) left x.2).2) by rw [unhide HRN, if_neg h23])
    have HG1 := hide (unhide HG0)
    have y2 := z2
    have g2 : (e.k == 2) = false := by simp; omega
    have g3 : (e.k == 3) = false := by simp; omega
    obtain ⟨v, hv⟩ : ∃ v, v = e.n := ⟨_, rfl⟩
    rw [← hv] at HG1 HN
    clear hv h23
    go_upto_region 4 with fail
    clear z0 z1 z2 HKO HG0 HRN g2 g3
    generalize W1 = W2 at *
    go_wp2_with fail
    clear y2
    go_loopw [31] (fun iv wr => ∃ (i lf : Nat) (rv : Value) (es : List Pg.E) (ys : List (Pg.XT n)), i ≤ e.args.len ∧ iv = .int .i64 i ∧ Hid (es.length = i) ∧ i + lf ≤ 15 ∧ Hid (Xr.rnL (Xr.rn vs n) left x.2 = (ys ++ (Xr.rnL (Xr.rn vs n) lf (x.2.drop i)).1, (Xr.rnL (Xr.rn vs n) lf (x.2.drop i)).2)) ∧ Xr.Rg w wr bl lf e.k v n rv es ys) (fun iv _ => e.args.len - (intOf iv).toNat)
    case atStart => exact ⟨0, left, _, [], [], Nat.zero_le _, rfl, rfl, by omega, by show _ = _; rw [List.drop_zero, List.nil_append], unhide HG1⟩
    case round =>
     obtain ⟨i, lf, rv, es, ys, hi, rfl, hel, hlf, hrel, hrg⟩ := hrel
     have HEL := hide (unhide hel)
     have HRL := hide (unhide hrel)
     have HRG := hide hrg
     have HWB := hide (show Below w0.heap.size w0 wr from ⟨hrg.bt.os.trans (unhide HBW).os, hrg.bt.tape.trans (unhide HBW).tape, hrg.bt.output.trans (unhide HBW).output, Nat.le_trans (unhide HBW).size hrg.bt.size, fun q hq => (hrg.bt.block q (by have := (unhide HBW).size; omega) (by omega)).trans ((unhide HBW).block q hq)⟩)
     obtain ⟨ra, rc, rfl⟩ : ∃ a c, rv = .slice a i c := by
      rcases hrg.row.2 with ⟨h1, h2⟩ | ⟨g, cap, cur, hv, _⟩
      · exact ⟨none, 0, by rw [← unhide hel, h2]; exact h1⟩
      · exact ⟨_, _, by rw [← unhide hel]; exact hv⟩
     have m0 := hrg.c0
     have m1 := hrg.c1
     have m2 := hrg.c2
     have f0 := hrg.rf 0
     have f1 := hrg.rf 1
     have f2 := hrg.rf 2
     have q1 : w.heap.size + 1 < wr.heap.size := by have := hrg.sz; omega
     have q2 : w.heap.size + 1 + 1 < wr.heap.size := by have := hrg.sz; omega
     have n0 := hrg.r0
     have n1 := hrg.r1
     have n2 := hrg.r2
     have HSW := hide (Xr.ret3 hrg.r0 hrg.r1 hrg.r2 (.int .i64 e.k) (.int .i64 v) (.slice ra i rc))
     have HFN := hide (hrg.fin (unhide hel) (by omega) (unhide HSW).2.2 (unhide HSW).2.1 rfl rfl rfl)
     clear hel hrel hrg
     by_cases hlt : i < e.args.len
     · have hlt2 : i < x.2.length := by have := unhide HLN; omega
       have hy := List.getElem?_eq_getElem hlt2
       have HDR := hide (List.drop_eq_getElem_cons hlt2)
       obtain ⟨b, o, cc, had, hb, hlies, hrd⟩ := (unhide HS).at_ i _ hy
       generalize x.2[i] = y at *
       obtain ⟨p0, p1, p2⟩ := hlies.later (unhide HWB) (Nat.le_refl _) hb
       have hbr : b < wr.heap.size := by have := (unhide HWB).size; omega
       have HRD := hide hrd
       clear hlies hrd hy
       have hi0 : (0 : Int) ≤ (i : Int) := by omega
       have hi1 : (i : Int) < (e.args.len : Int) := by omega
       rw [had]
       have hsz := (unhide HRG).sz
       have hblr : bl < wr.heap.size := by omega
       cases lf with
       | zero =>
        have k0 : wr.cell? ⟨bl, 0, none⟩ = some (.int .i64 0) := (unhide HRG).cl
        have HR := hide (show Xr.rn vs (n + 1) left x = (((e.k, v), ys), 0) by rw [unhide HN, unhide HRL, Xr.rnL_zero, List.append_nil])
        go_wp2_with fail
        obtain ⟨⟨s0, s1, s2⟩, hsS, hkS⟩ := unhide HSW
        have hF := unhide HFN
        generalize (((wr.setCell ⟨w.heap.size + 1, 0, none⟩ (.int .i64 e.k)).setCell ⟨w.heap.size + 1, 1, none⟩ (.int .i64 v)).setCell ⟨w.heap.size + 1, 2, none⟩ (.slice ra i rc)) = S at *
        have s3 : w.heap.size + 1 < S.heap.size := by omega
        refine bodyPost_ret (v := .agg #[.int .i64 e.k, .int .i64 v, .slice ra i rc]) (by simp [results, Tryz.results94, go_sem, s0, s1, s2, s3]) rfl ?_
        refine ⟨⟨e.k, v, ⟨ra, i, rc⟩⟩, rfl, ?_⟩
        rw [unhide HR]
        exact Xr.out_below hF ((Below.refl _ _).alloc (Nat.le_refl _) _) (by omega) (by omega)
       | succ l =>
        have k0 : wr.cell? ⟨bl, 0, none⟩ = some (.int .i64 ((l : Int) + 1)) := (unhide HRG).cl
        have k1 := (unhide HRG).fl
        have gl : (((l : Int) + 1) == 0) = false := by simp; omega
        have hR8 := ((unhide HRG).less l).below ((Below.refl _ (wr.setCell ⟨bl, 0, none⟩ (.int .i64 (l : Int)))).alloc (Nat.le_refl _) (Obj.cells #[.int .i64 cc.k, .int .i64 cc.n, .slice cc.args.ad cc.args.len cc.args.cap] 69))
        have t0 : ((wr.setCell ⟨bl, 0, none⟩ (.int .i64 (l : Int))).alloc (Obj.cells #[.int .i64 cc.k, .int .i64 cc.n, .slice cc.args.ad cc.args.len cc.args.cap] 69)).cell? ⟨wr.heap.size, 0, none⟩ = some (.int .i64 cc.k) := by go_simp
        have t1 : ((wr.setCell ⟨bl, 0, none⟩ (.int .i64 (l : Int))).alloc (Obj.cells #[.int .i64 cc.k, .int .i64 cc.n, .slice cc.args.ad cc.args.len cc.args.cap] 69)).cell? ⟨wr.heap.size, 1, none⟩ = some (.int .i64 cc.n) := by go_simp
        have t2 : ((wr.setCell ⟨bl, 0, none⟩ (.int .i64 (l : Int))).alloc (Obj.cells #[.int .i64 cc.k, .int .i64 cc.n, .slice cc.args.ad cc.args.len cc.args.cap] 69)).cell? ⟨wr.heap.size, 2, none⟩ = some (.slice cc.args.ad cc.args.len cc.args.cap) := by go_simp
        have t3 : wr.heap.size < ((wr.setCell ⟨bl, 0, none⟩ (.int .i64 (l : Int))).alloc (Obj.cells #[.int .i64 cc.k, .int .i64 cc.n, .slice cc.args.ad cc.args.len cc.args.cap] 69)).heap.size := by simp
        have HR8 := hide hR8
        clear hR8
        go_upto_region 9 with fail
        clear k0 k1 gl p0 p1 p2 m0 m1 m2 f0 f1 f2 n0 n1 n2 HSW HFN
        generalize ((wr.setCell ⟨bl, 0, none⟩ (.int .i64 (l : Int))).alloc (Obj.cells #[.int .i64 cc.k, .int .i64 cc.n, .slice cc.args.ad cc.args.len cc.args.cap] 69)) = V8 at *
        have HRd := hide ((unhide HR8).below ((Below.refl _ _).drew))
        have HIC := hide ((unhide IH) cc y bl l V8.drew (unhide HRD) (show Below w0.heap.size w0 V8.drew from ⟨(unhide HRd).bt.os.trans (unhide HBW).os, (unhide HRd).bt.tape.trans (unhide HBW).tape, (unhide HRd).bt.output.trans (unhide HBW).output, Nat.le_trans (unhide HBW).size (unhide HRd).bt.size, fun q hq => ((unhide HRd).bt.block q (by have := (unhide HBW).size; omega) (by omega)).trans ((unhide HBW).block q hq)⟩) hb0 (show bl < V8.heap.size by omega) (unhide HRd).cl (unhide HRd).fl (by omega))
        unfold Pg.E.val at HIC
        have k8 := (unhide HR8).c2
        have kf := (unhide HR8).fz 2
        go_region_law (first
         | (go_simp; go_at_call 94; refine (unhide HIC).mono ?_; rintro r w5 ⟨⟨ek, en, ⟨ea, el, ec⟩⟩, rfl, hro, hc5, hf5, hbt⟩; have HR5 := hide ((unhide HRd).kept hbt hc5 hf5); have HRO := hide hro; have k8 := (unhide HR5).c2; have kf := (unhide HR5).fz 2; have q5 : w.heap.size + 1 + 1 < w5.heap.size := by have := (unhide HR5).sz; omega
            have HBD := hide ((Below.refl w5.heap.size w5).alloc (Nat.le_refl _) (Obj.cells #[.int .i64 ek, .int .i64 en, .slice ea el ec] 69)); have HNW := hide (show ∀ j u, [Value.int .i64 ek, .int .i64 en, .slice ea el ec][j]? = some u → (w5.alloc (Obj.cells #[.int .i64 ek, .int .i64 en, .slice ea el ec] 69)).cell? ((⟨w5.heap.size, 0, none⟩ : Addr).add j) = some u from World.news_of_block (heap_alloc_new w5 (Obj.cells #[.int .i64 ek, .int .i64 en, .slice ea el ec] 69)))
            have HROW := hide (show w5.ownsRow (w.heap.size + 3) 69 3 (.slice ra i rc) i (Xr.exC es) from by have h := (unhide HR5).row; rw [unhide HEL] at h; exact h)
            clear hro hc5 hf5 hbt)
         | (refine step_append_lies _ rfl (.tmp 45) (.tmp 50) 67 rfl (w.heap.size + 3) 69 i0 _ 3 40 Tryz.underlying67 (unhide HI) (unhide HZ0) (unhide HZ1) (unhide HZ2) rfl (by omega) (.slice ra i rc) i (Xr.exC es) rfl (Pg.ow_below (unhide HROW) (unhide HBD)) _ 1 1 [.int .i64 ek, .int .i64 en, .slice ea el ec] rfl rfl (unhide HNW) (by simp [Value.oneCell']) (by omega) (by unfold maxLen; omega) (by omega) (by simp; omega) _ rfl ?_; intro gA cA w6 hoA hgA hatA hltA; have HGA := hide hgA; have HOA := hide hoA; have HAT := hide hatA; have hbb := (hgA.block (w.heap.size + 1 + 1) (by simp; omega) (fun e => by have := ((unhide HR5).rlt _ e.symm).1; omega)).trans ((unhide HBD).block (w.heap.size + 1 + 1) (by omega)); have z4 := (Xr.cell_kept hbb 2).trans (unhide HR5).c2; have z5 := (Xr.frz_kept hbb 2).trans ((unhide HR5).fz 2); clear hatA hltA hoA hgA hbb))
        all_goals
         go_wp2_with fail
         have hA := (unhide HR5).app (E := ⟨ek, en, ⟨ea, el, ec⟩⟩) (by have := (unhide HR8).sz; exact this) (unhide HRO) (fun g hg => ((unhide HR8).rlt g hg).2) (unhide HBD) (unhide HGA) gA cA (by rw [unhide HEL]; exact unhide HOA) (unhide HAT)
         rw [unhide HEL] at hA
         refine ⟨⟨i + 1, _, _, _, _, by omega, by go_num, ?_, ?_, ?_, hA⟩, by simp [intOf]; omega⟩
         · show _ = _
           rw [List.length_append, unhide HEL]
           rfl
         · have h1 := Xr.rn_sum vs n l y
           have h2 := Pg.parts_pos n (Xr.rn vs n l y).1
           omega
         · show _ = _
           rw [unhide HRL, unhide HDR]
           show (ys ++ ((Xr.rn vs n l y).1 :: (Xr.rnL (Xr.rn vs n) (Xr.rn vs n l y).2 (x.2.drop (i + 1))).1), _) = _
           rw [List.append_assoc]
           rfl
     · have HR := hide (show Xr.rn vs (n + 1) left x = (((e.k, v), ys), lf) by
        have hd : x.2.drop i = [] := List.drop_eq_nil_of_le (by have := unhide HLN; omega)
        rw [unhide HN, unhide HRL, hd]
        show (((e.k, v), ys ++ (Xr.rnL (Xr.rn vs n) lf []).1), (Xr.rnL (Xr.rn vs n) lf []).2) = _
        unfold Xr.rnL
        rw [List.append_nil])
       have hi1 : ¬ ((i : Int) < (e.args.len : Int)) := by omega
       go_wp2_with fail
       obtain ⟨⟨s0, s1, s2⟩, hsS, hkS⟩ := unhide HSW
       have hF := unhide HFN
       generalize (((wr.setCell ⟨w.heap.size + 1, 0, none⟩ (.int .i64 e.k)).setCell ⟨w.heap.size + 1, 1, none⟩ (.int .i64 v)).setCell ⟨w.heap.size + 1, 2, none⟩ (.slice ra i rc)) = S at *
       refine bodyPost_ret (v := .agg #[.int .i64 e.k, .int .i64 v, .slice ra i rc]) (by simp [results, Tryz.results94, go_sem, s0, s1, s2]) rfl ?_
       refine ⟨⟨e.k, v, ⟨ra, i, rc⟩⟩, rfl, ?_⟩
       rw [unhide HR]
       exact hF
end Go.Proofs.YtpfogjplnodacaaGreat
