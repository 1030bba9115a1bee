/-
  The contract of state's framesBehind. By the verifier.
-/
import Derived.Test.YtildjlaphkjegaaXStk
namespace Go.Proofs.Ytildjlaphkjegaa
open Go.RowKit
set_option linter.unusedVariables false

theorem Try.infoFr : (Try.prog.info? 45).map (fun i => (i.zero, i.size, i.bytes)) = some (some (.agg #[.int .i64 0, .int .i64 0, .slice none 0 0]), 3, 40) := by kernel_rfl
theorem Xr.Sk.base {w W0 W : World} {rv : Value} {ms : List (Xr.Fr × Xr.Mf)} (h : Xr.Sk W0 W rv ms) (hb : Below w.heap.size w W0) : Xr.Sk w W rv ms :=
  ⟨hb.trans (h.bel.mono hb.size), Pg.ow_base h.row hb.size, fun m hm => (h.zf m hm).lo hb.size, h.nd, h.rvn⟩
theorem Xr.Sk.one {W0 W1 : World} (hb : Below W0.heap.size W0 W1) (fr : Xr.Fr) (z : Xr.Mf) (hz : Xr.Zf W1 W0.heap.size z.gv z.vb z.c fr.vs) : Xr.Sk W0 (W1.alloc (Obj.cells #[.int .i64 fr.num, .int .i64 fr.fn, .slice (z.gv.map fun g => ⟨g, 0, none⟩) fr.vs.length z.c] 45)) (.slice (some ⟨W1.heap.size, 0, none⟩) 1 1) [(fr, z)] := by
  refine ⟨hb.alloc hb.size _, ⟨rfl, .inr ⟨W1.heap.size, 1, _, rfl, hb.size, heap_alloc_new _ _, Nat.le_refl _, by unfold maxLen; omega, rfl, rfl⟩⟩, fun m hm => ?_, ?_, fun q hq hin => ?_⟩
  · simp at hm
    subst hm
    exact hz.below ((Below.refl _ _).alloc (Nat.le_refl _) _)
  · show ([(fr, z)].flatMap fun m => m.2.bl).Nodup
    simp
    exact hz.nd
  · cases hq
    have h1 : W1.heap.size ∈ z.bl := by simpa [Xr.bls] using hin
    have := (hz.ge _ h1).2
    omega
/-- The last of frames, as they lie. -/
theorem Xr.last_split {ms : List (Xr.Fr × Xr.Mf)} {st0 : List Xr.Fr} {t : Xr.Fr} (h : ms.map Prod.fst = st0 ++ [t]) : ∃ ms0 z, ms = ms0 ++ [(t, z)] ∧ ms0.map Prod.fst = st0 := by
  have hne : ms ≠ [] := fun e => by rw [e] at h; simp at h
  obtain ⟨ms0, m, rfl⟩ : ∃ ms0 m, ms = ms0 ++ [m] := ⟨ms.dropLast, ms.getLast hne, (List.dropLast_concat_getLast hne).symm⟩
  rw [List.map_append] at h
  obtain ⟨h1, h2⟩ := List.append_inj' h rfl
  cases h2
  exact ⟨ms0, m.2, rfl, h1⟩
theorem mainOf_any (qa : Option Addr) (k qc : Nat) (w : World) (hk : k ≤ 35184372088832) : Calls Try.prog 55 #[.agg #[.slice qa (k + 1) qc]] w fun r w' => r = .returned (.int .i64 (k : Nat)) ∧ Below w.heap.size w w' := by
  have hb := (Below.refl w.heap.size w).alloc (Nat.le_refl _) (Obj.cells #[.slice qa (k + 1) qc] 36)
  have HB := hide hb
  clear hb
  go_enter Try.func55, Try.ntmps55
  go_wp2_with fail
  go_ret
  exact ⟨ret_int (by omega), unhide HB⟩

set_option maxRecDepth 100000 in
set_option maxHeartbeats 3200000 in
theorem framesBehind_any {m n : Nat} (qa : Option Addr) (ql qc : Nat) (p : List (Pg.FT m n)) (x : Pg.FT m n) (l : List Ev) (ad : Option Addr) (cap : Nat) (w : World) (hp : Pg.RP w m n ⟨qa, ql, qc⟩ p) (hc : Pg.chkP p = 0) (hx : p[p.length - 1]? = some x) (hr : Cl.RE w ad l) (hl : l.length ≤ 4000) (hg : Xr.good p [⟨0, ((p.length - 1 : Nat) : Int), Xr.zeros x.sizes⟩] l) :
    Calls Try.prog 34 #[.agg #[.slice qa ql qc], .slice ad l.length cap] w fun r w' => ∃ rv ms, r = .returned rv ∧ Xr.Sk w w' rv ms ∧ ms.map Prod.fst = Xr.reps p [⟨0, ((p.length - 1 : Nat) : Int), Xr.zeros x.sizes⟩] l := by
  have hfine := Xr.fine_of hc
  have HSZ := hide (show ∀ (q : Nat) (y : Pg.FT m n), p[q]? = some y → y.sizes.length ≤ 100 ∧ ∀ z ∈ y.sizes, 0 ≤ z ∧ z ≤ 100 from fun q y hy => by
    obtain ⟨h1, _⟩ := Pg.orW_zero (show Pg.orW _ (Pg.orW _ _) = 0 from hfine q y hy)
    obtain ⟨_, _, h2, h3⟩ := Xr.head_ok h1
    exact ⟨by omega, fun z hz => by have := h3 z hz; omega⟩)
  obtain ⟨k, hk⟩ : ∃ k, p.length = k + 1 := ⟨p.length - 1, by have := (List.getElem?_eq_some_iff.1 hx).1; omega⟩
  have hql : ql = k + 1 := (show ql = p.length from hp.len).trans hk
  have hk2 : k ≤ 35184372088832 := by have := hp.few; omega
  subst hql
  rw [show p.length - 1 = k by omega] at hx hg ⊢
  obtain ⟨bq, oq, _, hqa, _, _, _⟩ := hp.at_ k x hx
  have hqa' : qa = some ⟨bq, oq, none⟩ := hqa
  subst hqa'
  have hb1 := (Below.refl w.heap.size w).alloc (Nat.le_refl _) (Obj.cells #[.slice (some ⟨bq, oq, none⟩) (k + 1) qc] 36)
  have hpc : (w.alloc (Obj.cells #[.slice (some ⟨bq, oq, none⟩) (k + 1) qc] 36)).cell? ⟨w.heap.size, 0, none⟩ = some (.slice (some ⟨bq, oq, none⟩) (k + 1) qc) := by go_simp
  have HP := hide (fun (V : World) (hV : Below w.heap.size w V) => Pg.RP.later hp hV (Nat.le_refl _))
  have HR := hide (fun (V : World) (hV : Below w.heap.size w V) => hr.later hV (Nat.le_refl _))
  have HNF := hide (fun (V : World) (hV : Below w.heap.size w V) (num : Int) (q : Nat) (y : Pg.FT m n) (hy : p[q]? = some y) => newFrameS_any (some ⟨bq, oq, none⟩) (k + 1) qc p num q y V ((unhide HP) V hV) hy ((unhide HSZ) q y hy).1 ((unhide HSZ) q y hy).2)
  have HSO := hide (fun (q : Nat) (y : Pg.FT m n) (hy : p[q]? = some y) => show Xr.szOf p (q : Nat) = y.sizes from by unfold Xr.szOf; rw [Int.toNat_natCast, hy]; rfl)
  have HX := hide hx
  have HG := hide hg
  have HB1 := hide hb1
  obtain ⟨nl, hnl⟩ : ∃ nl, nl = l.length := ⟨_, rfl⟩
  rw [← hnl] at hl ⊢
  have HNL := hide hnl
  obtain ⟨ini, hini⟩ : ∃ ini : List Xr.Fr, ini = [⟨0, ((k : Nat) : Int), Xr.zeros x.sizes⟩] := ⟨_, rfl⟩
  rw [← hini] at HG ⊢
  have HIN := hide hini
  have hzl : (Xr.zeros x.sizes).length = x.sizes.length := by unfold Xr.zeros; rw [List.length_map]
  have HZL := hide hzl
  clear hp hr hx hg hb1 hnl hc hfine hqa hk hini hzl
  obtain ⟨i0, hi0', hz0, hz1', hz2⟩ := info_of Try.infoFr
  have HI := hide hi0'
  have HZ0 := hide hz0
  have HZ1 := hide hz1'
  have HZ2 := hide hz2
  clear hi0' hz0 hz1' hz2
  go_enter Try.func34, Try.ntmps34
  go_upto_region 1 with fail
  generalize w.alloc (Obj.cells #[.slice (some ⟨bq, oq, none⟩) (k + 1) qc] 36) = W1 at *
  have hlt1 := World.block_lt_of_cell? _ _ hpc
  have HKM := hide (show ∀ V : World, Below W1.heap.size W1 V → (V.cell? ⟨w.heap.size, 0, none⟩ = some (.slice (some ⟨bq, oq, none⟩) (k + 1) qc) ∧ Below W1.heap.size W1 V) from fun V hV => ⟨(hV.cell (p := ⟨w.heap.size, 0, none⟩) hlt1).trans hpc, hV⟩)
  go_cut [5] (fun v V => ∃ (a : Option Addr) (c : Nat) (z : Xr.Mf), v = .slice a 1 c ∧ Xr.Sk W1 V (.slice a 1 c) [(⟨0, ((k : Nat) : Int), Xr.zeros x.sizes⟩, z)])
  case first =>
    go_region_held3 (fun V => V.cell? ⟨w.heap.size, 0, none⟩ = some (.slice (some ⟨bq, oq, none⟩) (k + 1) qc) ∧ Below W1.heap.size W1 V)
      (first | assumption | exact (unhide HKM) _ ((Below.refl _ _).drew) | exact (unhide HKM) _ (unhide HB5) | exact (unhide HKM) _ (unhide HB6) | exact (unhide HKM) _ ((unhide HB6).alloc (unhide HB6).size _))
      (first
        | (go_at_call 55; refine (mainOf_any _ k qc _ hk2).mono ?_; rintro r w5 ⟨rfl, hb5⟩; have HB5 := hide (((Below.refl W1.heap.size W1).drew).trans (hb5.mono (Nat.le_refl _))); clear hb5)
        | (go_at_call 54; refine ((unhide HNF) w5 ((unhide HB1).trans ((unhide HB5).mono (unhide HB1).size)) 0 k x (unhide HX)).mono ?_; rintro r w6 ⟨gv, vb, c6, rfl, hzf6, hb6⟩; have HB6 := hide ((unhide HB5).trans (hb6.mono (unhide HB5).size)); have HZF := hide (hzf6.lo (unhide HB5).size); clear hzf6 hb6))
    all_goals
      go_wp2_with fail
      go_meet
      case rel =>
        refine ⟨_, _, ⟨gv, vb, c6⟩, rfl, ?_⟩
        have h1 := Xr.Sk.one (unhide HB6) ⟨0, ((k : Nat) : Int), Xr.zeros x.sizes⟩ ⟨gv, vb, c6⟩ (unhide HZF)
        dsimp only at h1
        rw [unhide HZL] at h1
        exact h1
  case rest =>
    rename World => V1
    obtain ⟨a1, c1, z1, rfl, hsk⟩ := hcut
    have HSK1 := hide hsk
    have HM0 := hide (show [((⟨0, ((k : Nat) : Int), Xr.zeros x.sizes⟩, z1) : Xr.Fr × Xr.Mf)].map Prod.fst = Xr.reps p ini (l.take 0) from by rw [unhide HIN]; rfl)
    clear hsk
    go_wp2_with fail
    go_loopw [5, 16] (fun fv iv wr => ∃ (i c nf : Nat) (a : Option Addr) (ms : List (Xr.Fr × Xr.Mf)), i ≤ nl ∧ iv = .int .i64 i ∧ fv = .slice a nf c ∧ nf ≤ i + 1 ∧ Hid (ms.length = nf ∧ ms.map Prod.fst = Xr.reps p ini (l.take i)) ∧ Xr.Sk W1 wr (.slice a nf c) ms) (fun _ iv _ => nl - (intOf iv).toNat)
    case atStart => exact ⟨0, c1, 1, a1, _, Nat.zero_le _, rfl, rfl, by omega, ⟨rfl, unhide HM0⟩, unhide HSK1⟩
    case round =>
      obtain ⟨i, c, nf, a, ms, hi, rfl, rfl, hnf, hhid, hsk⟩ := hrel
      have HMM := hide (unhide hhid).1
      have HMR := hide (unhide hhid).2
      clear hhid
      by_cases hlt : i < nl
      · have hlt2 : i < l.length := by have := unhide HNL; omega
        have hy := List.getElem?_eq_getElem hlt2
        have hbw := (unhide HB1).trans (hsk.bel.mono (unhide HB1).size)
        obtain ⟨b, o, had, hb, p0, p1, p2, p3, p4, p5⟩ := ((unhide HR) wr hbw).at_ i _ hy
        have HST := hide (show Xr.reps p ini (l.take (i + 1)) = Xr.rep1 p (ms.map Prod.fst) l[i] by rw [List.take_succ_eq_append_getElem hlt2, Xr.reps_snoc, unhide HMR])
        obtain ⟨st0, tt, hst, g2, g5, g6⟩ := (unhide HG) (l.take i) l[i] (l.drop (i + 1)) (by rw [← List.drop_eq_getElem_cons hlt2, List.take_append_drop])
        rw [← unhide HMR] at hst
        obtain ⟨ms0, z, rfl, hms0⟩ := Xr.last_split hst
        have HM0S := hide hms0
        have hnf0 : ms0.length + 1 = nf := by have := unhide HMM; rw [List.length_append] at this; exact this
        generalize l[i] = e at *
        have hal := (Below.refl wr.heap.size wr).alloc (Nat.le_refl _) (Obj.cells #[.int .i64 e.n0, .int .i64 e.n1, .int .i64 e.n2, .int .i64 e.n3, .int .i64 e.n4, .int .i64 e.n5] 100)
        have HSK := hide (hsk.below hal)
        have HBA := hide (hsk.bel.trans (hal.mono hsk.bel.size))
        have HBW := hide (hbw.trans (hal.mono hbw.size))
        have had' : ad = some ⟨b, o, none⟩ := had
        subst had'
        have hi0 : (0 : Int) ≤ (i : Int) := by omega
        have hi1 : (i : Int) < (nl : Int) := by omega
        have x0 : (wr.alloc (Obj.cells #[.int .i64 e.n0, .int .i64 e.n1, .int .i64 e.n2, .int .i64 e.n3, .int .i64 e.n4, .int .i64 e.n5] 100)).cell? ⟨wr.heap.size, 0, none⟩ = some (.int .i64 e.n0) := by go_simp
        have x3 : (wr.alloc (Obj.cells #[.int .i64 e.n0, .int .i64 e.n1, .int .i64 e.n2, .int .i64 e.n3, .int .i64 e.n4, .int .i64 e.n5] 100)).cell? ⟨wr.heap.size, 3, none⟩ = some (.int .i64 e.n3) := by go_simp
        have x4 : (wr.alloc (Obj.cells #[.int .i64 e.n0, .int .i64 e.n1, .int .i64 e.n2, .int .i64 e.n3, .int .i64 e.n4, .int .i64 e.n5] 100)).cell? ⟨wr.heap.size, 4, none⟩ = some (.int .i64 e.n4) := by go_simp
        have x5 : (wr.alloc (Obj.cells #[.int .i64 e.n0, .int .i64 e.n1, .int .i64 e.n2, .int .i64 e.n3, .int .i64 e.n4, .int .i64 e.n5] 100)).cell? ⟨wr.heap.size, 5, none⟩ = some (.int .i64 e.n5) := by go_simp
        have hpw := ((unhide HKM) (wr.alloc (Obj.cells #[.int .i64 e.n0, .int .i64 e.n1, .int .i64 e.n2, .int .i64 e.n3, .int .i64 e.n4, .int .i64 e.n5] 100)) (unhide HBA)).1
        have HMM2 := hide hnf0
        obtain ⟨nf1, rfl⟩ : ∃ nf1, nf = nf1 + 1 := ⟨ms0.length, hnf0.symm⟩
        have HN1 := hide (show ms0.length = nf1 by omega)
        clear hy hb had hlt2 hal hbw hsk hst hms0 hnf0 HMM
        go_upto_region 6 with fail
        generalize wr.alloc (Obj.cells #[.int .i64 e.n0, .int .i64 e.n1, .int .i64 e.n2, .int .i64 e.n3, .int .i64 e.n4, .int .i64 e.n5] 100) = W2 at *
        clear p0 p1 p2 p3 p4 p5
        generalize wr.heap.size = bx at *
        have hcap := Xr.own_cap (n := nf1 + 1) (by have h1 := (unhide HSK).row; rw [List.length_append, unhide HN1] at h1; exact h1)
        have hrow : W2.ownsRow W1.heap.size 45 3 (.slice a (nf1 + 1) c) (nf1 + 1) (Xr.frC (ms0 ++ [(tt, z)])) := by have h1 := (unhide HSK).row; rw [List.length_append, unhide HN1] at h1; exact h1
        obtain ⟨ga, cc, hform, hga1, hga2⟩ := hrow.form (by omega)
        have haa : a = some ⟨ga, 0, none⟩ := by cases hform; rfl
        subst haa
        have HROW := hide hrow
        have r2 : W2.cell? ⟨ga, nf1 * 3 + 2, none⟩ = some (.slice (z.gv.map fun g => ⟨g, 0, none⟩) tt.vs.length z.c) := by
          have h1 := hrow.cells (g := ga) rfl (nf1 * 3 + 2) (.slice (z.gv.map fun g => ⟨g, 0, none⟩) tt.vs.length z.c) (by
            rw [Xr.frC_snoc, List.getElem?_append_right (by rw [Xr.frC_len, unhide HN1]; omega), Xr.frC_len, unhide HN1, show nf1 * 3 + 2 - nf1 * 3 = 2 by omega]
            rfl)
          rw [Xr.add_at] at h1
          exact h1
        clear hrow hform
        have hnf4 : nf1 ≤ 4000 := by omega
        have HMP := hide (show (ms0 ++ [(tt, z)]).map Prod.fst = st0 ++ [tt] by rw [List.map_append, unhide HM0S]; rfl)
        by_cases k5 : e.n0 = 5
        · have b5 : (e.n0 == 5) = true := by simp [k5]
          obtain ⟨_, q, y, h3, hy⟩ := g5 k5
          have HN := hide ((unhide HNF) W2 (unhide HBW) e.n5 q y hy)
          have HRP := hide (show Xr.reps p ini (l.take (i + 1)) = (ms0 ++ [(tt, z)]).map Prod.fst ++ [⟨e.n5, ((q : Nat) : Int), Xr.zeros y.sizes⟩] by rw [unhide HST, Xr.rep1_call _ k5, h3, (unhide HSO) q y hy])
          have hzl : (Xr.zeros y.sizes).length = y.sizes.length := by unfold Xr.zeros; rw [List.length_map]
          have HZL2 := hide hzl
          rw [h3] at x3
          clear k5 g2 g5 g6 h3 hzl hy
          go_wp2_with fail
          refine (unhide HN).mono ?_
          rintro r w5 ⟨gv, vb, c5, rfl, hzf, hb5⟩
          have HZF := hide hzf
          have HB5 := hide hb5
          have hs5 := hb5.size
          have hs1 := (unhide HSK).bel.size
          have HROW5 := hide (Pg.ow_below (unhide HROW) hb5)
          clear hzf hb5
          obtain ⟨XS, hXS⟩ : ∃ XS, XS = Xr.frC (ms0 ++ [(tt, z)]) := ⟨_, rfl⟩
          rw [← hXS] at HROW5
          have HXS := hide hXS
          clear hXS
          have HBK := hide (heap_alloc_new w5 (Obj.cells #[.int .i64 e.n5, .int .i64 (q : Nat), .slice (gv.map fun g => ⟨g, 0, none⟩) y.sizes.length c5] 45))
          have HBD := hide (show Below w5.heap.size w5 (w5.alloc (Obj.cells #[.int .i64 e.n5, .int .i64 (q : Nat), .slice (gv.map fun g => ⟨g, 0, none⟩) y.sizes.length c5] 45)) from (Below.refl _ _).alloc (Nat.le_refl _) _)
          go_wp2_with (at_builtin; refine wpList_append_lies _ (by rfl) _ _ _ (by rfl) W1.heap.size 45 i0 _ 3 40 Try.underlying38 (unhide HI) (unhide HZ0) (unhide HZ1) (unhide HZ2) rfl (by omega) (.slice (some ⟨ga, 0, none⟩) (nf1 + 1) c) (nf1 + 1) XS (by rfl) (Pg.ow_below (unhide HROW5) (unhide HBD)) ⟨w5.heap.size, 0, none⟩ 1 1 [.int .i64 e.n5, .int .i64 (q : Nat), .slice (gv.map fun g => ⟨g, 0, none⟩) y.sizes.length c5] (by rfl) (by rfl) (World.news_of_block (unhide HBK)) (by simp [Value.oneCell']) (by omega) (by unfold maxLen; omega) (by omega) (by simp; omega) (w5.heap.size + 1) (by simp) ?_; intro gA cA w6 hoA hgA hatA hltA; have HOA := hide hoA; have HGA := hide hgA; have HAT := hide hatA; clear hoA hgA hatA hltA)
          have hPush := (unhide HSK).push (n := nf1 + 1) (by rw [List.length_append, unhide HN1]; rfl) (unhide HB5) ⟨e.n5, ((q : Nat) : Int), Xr.zeros y.sizes⟩ ⟨gv, vb, c5⟩ (unhide HZF) (unhide HBD) (unhide HGA) gA cA (by
            have h1 := unhide HOA
            rw [unhide HXS] at h1
            show w6.ownsRow _ _ _ _ _ (Xr.frC (ms0 ++ [(tt, z)]) ++ [.int .i64 e.n5, .int .i64 (q : Nat), .slice (gv.map fun g => ⟨g, 0, none⟩) (Xr.zeros y.sizes).length c5])
            rw [unhide HZL2]
            exact h1) (by
            have h1 := unhide HAT
            rcases h1 with h1 | h1
            · exact .inl h1
            · exact .inr (by rw [h1]; simp))
          exact ⟨⟨i + 1, cA, nf1 + 1 + 1, some ⟨gA, 0, none⟩, _, by omega, by go_num, rfl, by omega, ⟨by rw [List.length_append, List.length_append, unhide HN1]; rfl, by rw [unhide HRP, List.map_append]; rfl⟩, hPush⟩, by simp [intOf]; omega⟩
        · have b5 : (e.n0 == 5) = false := by simpa using k5
          by_cases k6 : e.n0 = 6
          · have b6 : (e.n0 == 6) = true := by simp [k6]
            have HRP := hide (show Xr.reps p ini (l.take (i + 1)) = ms0.map Prod.fst by rw [unhide HST, unhide HMP, Xr.rep1_back _ _ k6, unhide HM0S])
            have HPOP := hide ((unhide HSK).pop (unhide HN1))
            have s1 : (0 : Int) ≤ (nf1 : Int) := by omega
            have s2 : (nf1 : Int) ≤ (c : Int) := by omega
            clear k5 k6 g2 g5 g6
            go_wp2_with fail
            exact ⟨⟨i + 1, c, nf1, some ⟨ga, 0, none⟩, ms0, by omega, by go_num, rfl, by omega, ⟨unhide HN1, (unhide HRP).symm⟩, unhide HPOP⟩, by simp [intOf]; omega⟩
          · have b6 : (e.n0 == 6) = false := by simpa using k6
            by_cases k2 : e.n0 = 2
            · have b2 : (e.n0 == 2) = true := by simp [k2]
              obtain ⟨_, v, j, lv, h3, h4, hv, hj⟩ := g2 k2
              have hzf := (unhide HSK).zf (tt, z) (by simp)
              have hvl : v < z.vb.length := by rw [hzf.len]; exact (List.getElem?_eq_some_iff.1 hv).1
              have hvb := List.getElem?_eq_getElem hvl
              generalize z.vb[v] = bv at hvb
              obtain ⟨gg, cg, f1, f2, f3, f4, f5, f6⟩ := hzf.at_ v bv lv hvb hv
              have hfw := hzf.few
              have y0 := f5 j lv[j] (List.getElem?_eq_getElem hj)
              have y6 := f6 j
              have HSET := hide (((unhide HSK).below ((Below.refl _ _).drew)).set hv hvb hj e.n5)
              have HRP := hide (show Xr.reps p ini (l.take (i + 1)) = ms0.map Prod.fst ++ [⟨tt.num, tt.fn, Xr.upd tt.vs v j e.n5⟩] by rw [unhide HST, unhide HMP, Xr.rep1_wr _ _ k2, unhide HM0S, h3, h4, Int.toNat_natCast, Int.toNat_natCast])
              rw [h3] at x3
              rw [h4] at x4
              rw [f1] at r2
              have r2' : W2.cell? ⟨ga, nf1 * 3 + 2, none⟩ = some (.slice (some ⟨gg, 0, none⟩) tt.vs.length z.c) := r2
              have hv1 : v < tt.vs.length := (List.getElem?_eq_some_iff.1 hv).1
              have s0 : (0 : Int) ≤ (nf1 : Int) := by omega
              have s1 : (nf1 : Int) < ((nf1 + 1 : Nat) : Int) := by omega
              have s1' : (nf1 : Int) < (nf1 : Int) + 1 := by omega
              have s2 : (0 : Int) ≤ (v : Int) := by omega
              have s3 : (v : Int) < (tt.vs.length : Int) := by omega
              have s4 : (0 : Int) ≤ (j : Int) := by omega
              have s5 : (j : Int) < (lv.length : Int) := by omega
              generalize lv[j] = yy at *
              generalize tt.vs.length = nvs at *
              generalize lv.length = nlv at *
              clear k5 k6 k2 g2 g5 g6 hzf hvl hvb hv f1 f5 f6 h3 h4 r2 hj
              go_upto_region 12 with fail
              go_region_law (fail)
              all_goals
                go_wp2_with fail
                exact ⟨⟨i + 1, c, nf1 + 1, some ⟨ga, 0, none⟩, _, by omega, by go_num, rfl, by omega, ⟨by rw [List.length_append, unhide HN1]; rfl, by rw [unhide HRP, List.map_append]; rfl⟩, unhide HSET⟩, by simp [intOf]; omega⟩
            · have b2 : (e.n0 == 2) = false := by simpa using k2
              have HRP := hide (show Xr.reps p ini (l.take (i + 1)) = (ms0 ++ [(tt, z)]).map Prod.fst by rw [unhide HST, Xr.rep1_no _ k5 k6 k2])
              clear k5 k6 k2 g2 g5 g6
              go_wp2_with fail
              exact ⟨⟨i + 1, c, nf1 + 1, some ⟨ga, 0, none⟩, ms0 ++ [(tt, z)], by omega, by go_num, rfl, by omega, ⟨by rw [List.length_append, unhide HN1]; rfl, (unhide HRP).symm⟩, unhide HSK⟩, by simp [intOf]; omega⟩
      · have HF := hide (show ms.map Prod.fst = Xr.reps p ini l by
          have h1 := unhide HMR
          rw [List.take_of_length_le (by have := unhide HNL; omega)] at h1
          exact h1)
        have HSB := hide (hsk.base (unhide HB1))
        have hi1 : ¬ (i : Int) < (nl : Int) := by omega
        clear hsk
        go_wp2_with fail
        go_ret
        first | exact ⟨_, ms, rfl, unhide HSB, unhide HF⟩ | exact ⟨_, rfl, ms, unhide HSB, unhide HF⟩
end Go.Proofs.Ytildjlaphkjegaa
