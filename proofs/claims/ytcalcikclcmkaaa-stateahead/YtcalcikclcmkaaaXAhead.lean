/-
  The law StateAhead, walked, by what stateBegun answers. By the verifier.
-/
import Derived.Test.YtcalcikclcmkaaaXAtF
namespace Go.Proofs.Ytcalcikclcmkaaa
open Go.RowKit
set_option linter.unusedVariables false

theorem Xr.atE_ok {m n : Nat} {p : List (Pg.FT m n)} {l : List Ev} {time : Int} (h : Xr.atE p l time = 0) : Xr.StOk p l ∧ 0 ≤ time ∧ time ≤ l.length := by
  unfold Xr.atE at h
  split at h
  · rename_i h0
    split at h
    · cases h
    · rename_i h1
      exact ⟨Xr.StOk.of h0, by omega, by omega⟩
  · rename_i h0
    exact absurd h h0
theorem Xr.atE_take {m n : Nat} {p : List (Pg.FT m n)} {l : List Ev} (h : Xr.StOk p l) {t : Nat} (ht : t ≤ l.length) : Xr.atE p (l.take t) (t : Nat) = 0 := by
  unfold Xr.atE
  rw [h.take t, if_pos rfl, if_neg (by rw [List.length_take]; omega)]

theorem Xr.reps_len {m n : Nat} (p : List (Pg.FT m n)) : ∀ (l : List Ev) (st : List Xr.Fr), (Xr.reps p st l).length ≤ st.length + l.length
  | [], st => Nat.le_refl _
  | e :: r, st => by
    have h1 := Xr.reps_len p r (Xr.rep1 p st e)
    have h2 : (Xr.rep1 p st e).length ≤ st.length + 1 := by
      unfold Xr.rep1
      split
      · simp
      · split
        · rw [List.length_dropLast]; omega
        · split
          · split
            · omega
            · rename_i t ht
              rw [List.length_append, List.length_dropLast]
              simp
          · omega
    show (Xr.reps p (Xr.rep1 p st e) r).length ≤ _
    rw [List.length_cons]
    omega

set_option maxRecDepth 100000 in
set_option maxHeartbeats 3200000 in
theorem sahead_any (hsb : ∀ V : World, Calls Try.prog 20 #[] V fun r w' => r = .returned (.bool true) ∧ Below V.heap.size V w') {m n : Nat} (qa : Option Addr) (ql qc : Nat) (p : List (Pg.FT m n)) (l : List Ev) (ad : Option Addr) (cap : Nat) (time : Int) (w : World) (hp : Pg.RP w m n ⟨qa, ql, qc⟩ p) (hpf : Pg.parFit p) (hr : Cl.RE w ad l) (hl : l.length ≤ 35184372088832) (hcap : l.length ≤ cap) :
    Calls Try.prog 7 #[.agg #[.slice qa ql qc], .slice ad l.length cap, .int .i64 time] w fun r w' => r = .returned (.bool true) ∧ Below w.heap.size w w' := by
  have hb0 := (Below.refl w.heap.size w).alloc (Nat.le_refl _) (Obj.cells #[.slice qa ql qc] 36)
  have q0 : (w.alloc (Obj.cells #[.slice qa ql qc] 36)).cell? ⟨w.heap.size, 0, none⟩ = some (.slice qa ql qc) := by go_simp
  have HSB := hide hsb
  have HAT := hide (fun (V : World) (hV : Below w.heap.size w V) => At_any qa ql qc p l ad cap time V (Pg.RP.later hp hV (Nat.le_refl _)) hpf (hr.later hV (Nat.le_refl _)) hl hcap)
  have HAT2 := hide (fun (V : World) (hV : Below w.heap.size w V) (t : Nat) (ht : t ≤ l.length) (hs : Xr.StOk p l) => show Calls Try.prog 21 #[.agg #[.slice qa ql qc], .slice ad t cap, .int .i64 (t : Nat)] V fun r w' => ∃ a nf c, r = .returned (.tuple #[.slice a nf c, .int .i64 0]) ∧ (∃ ms, Xr.Sk V w' (.slice a nf c) ms ∧ ms.length = nf ∧ ms.map Prod.fst = Xr.reps p (Xr.ini p) (l.take t)) ∧ Below V.heap.size V w' from by
    have htl : (l.take t).length = t := by rw [List.length_take]; omega
    have h1 := At_any qa ql qc p (l.take t) ad cap (t : Nat) V (Pg.RP.later hp hV (Nat.le_refl _)) hpf ((hr.later hV (Nat.le_refl _)).takeN t) (by omega) (by omega)
    rw [htl, Xr.atE_take hs ht] at h1
    refine h1.mono ?_
    rintro r w' ⟨a, nf, c, rfl, hat, hb⟩
    obtain ⟨ms, e1, e2, e3⟩ := hat.yes (Xr.atE_take hs ht)
    exact ⟨a, nf, c, rfl, ⟨ms, e1, e2, by rw [e3, Int.toNat_natCast, List.take_take, Nat.min_self]⟩, hb⟩)
  have HR := hide (fun (V : World) (hV : Below w.heap.size w V) => hr.later hV (Nat.le_refl _))
  have HB0 := hide hb0
  have HOK := hide (fun (h : Xr.atE p l time = 0) => Xr.atE_ok h)
  obtain ⟨nl, hnl⟩ : ∃ nl, nl = l.length := ⟨_, rfl⟩
  rw [← hnl] at hl hcap HAT ⊢
  have HNL := hide hnl
  clear hp hpf hr hb0 hsb hnl
  go_enter Try.func7, Try.ntmps7
  go_wp2_with fail
  generalize w.alloc (Obj.cells #[.slice qa ql qc] 36) = W0 at *
  refine ((unhide HSB) W0).mono ?_
  rintro r w1 ⟨rfl, hb1⟩
  have q1 := (hb1.cell (p := ⟨w.heap.size, 0, none⟩) (World.block_lt_of_cell? _ _ q0)).trans q0
  have HB1 := hide ((unhide HB0).trans (hb1.mono (unhide HB0).size))
  have HA1 := hide ((unhide HAT) w1 (unhide HB1))
  clear hb1 q0 HSB HAT HB0
  go_wp2_with fail
  refine (unhide HA1).mono ?_
  rintro r w2 ⟨a, nf, c, rfl, hat, hb2⟩
  have q2 := (hb2.cell (p := ⟨w.heap.size, 0, none⟩) (World.block_lt_of_cell? _ _ q1)).trans q1
  have hlt2 := World.block_lt_of_cell? _ _ q2
  have HB2 := hide ((unhide HB1).trans (hb2.mono (unhide HB1).size))
  clear hb2 q1 HA1
  by_cases hE : Xr.atE p l time = 0
  case neg =>
    have hn := hat.no hE
    subst hn
    have bE : (((Xr.atE p l time : Nat) : Int) != 0) = true := by simp; exact hE
    clear hat hE
    go_wp2_with fail
    go_ret
    exact ⟨rfl, unhide HB2⟩
  case pos =>
    obtain ⟨hst, ht0, ht1⟩ := (unhide HOK) hE
    obtain ⟨ms, hsk, hms, hmr⟩ := hat.yes hE
    obtain ⟨t, rfl⟩ : ∃ t : Nat, time = t := ⟨time.toNat, by omega⟩
    rw [Int.toNat_natCast] at hmr
    have htn : t ≤ l.length := by omega
    have HA2 := hide (fun (V : World) (hV : Below w2.heap.size w2 V) => (unhide HAT2) V ((unhide HB2).trans (hV.mono (unhide HB2).size)) t htn hst)
    have hnf : nf ≤ 35184372088832 := by
      have h1 := congrArg List.length hmr
      rw [List.length_map, hms] at h1
      have h2 := Xr.reps_len p (l.take t) (Xr.ini p)
      have h3 : (Xr.ini p).length = 1 := rfl
      rw [List.length_take] at h2
      have := hst.few
      omega
    have HRD := hide (show Xr.RFr w2 ⟨a, nf, c⟩ (Xr.reps p (Xr.ini p) (l.take t)) by rw [← hmr]; exact hsk.rd hms hnf)
    have hne := hst.there t
    have hpos : 0 < nf := by
      rcases Nat.eq_zero_or_pos nf with h | h
      · rw [h] at hms
        have : ms = [] := List.eq_nil_of_length_eq_zero hms
        rw [this] at hmr
        exact absurd hmr.symm hne
      · exact h
    have HST := hide hst
    have HLR := hide (show (Xr.reps p (Xr.ini p) (l.take t)).length = nf by rw [← hmr, List.length_map]; exact hms)
    have htl : t ≤ nl := by have := unhide HNL; omega
    have s0 : (0 : Int) ≤ (t : Int) := by omega
    have s1 : (t : Int) ≤ (cap : Int) := by omega
    have s2 : ¬ (nl : Int) < (t : Int) := by omega
    have HKM := hide (show ∀ V : World, Below w2.heap.size w2 V → (V.cell? ⟨w.heap.size, 0, none⟩ = some (.slice qa ql qc) ∧ Below w2.heap.size w2 V) from fun V hV => ⟨(hV.cell (p := ⟨w.heap.size, 0, none⟩) hlt2).trans q2, hV⟩)
    rw [hE]
    obtain ⟨RS, hRS⟩ : ∃ RS, RS = Xr.reps p (Xr.ini p) (l.take t) := ⟨_, rfl⟩
    rw [← hRS] at HA2 HRD HLR
    have HRS := hide hRS
    clear hat hE hst ht0 ht1 hsk hms hmr htn hne HAT2 HOK hRS
    go_upto_region 8 with fail
    go_cut [8, 9] (fun v8 v9 V => v8 = .int .i64 0 ∧ ∃ a' nf' c', v9 = .slice a' nf' c' ∧ Xr.RFr V ⟨a', nf', c'⟩ RS ∧ Below w2.heap.size w2 V)
    case first =>
      go_region_held3 (fun V => V.cell? ⟨w.heap.size, 0, none⟩ = some (.slice qa ql qc) ∧ Below w2.heap.size w2 V)
        (first | assumption | exact (unhide HKM) _ ((Below.refl _ _).drew) | exact (unhide HKM) _ (unhide HB6))
        (first
          | (go_at_call 21; refine ((unhide HA2) _ ?_).mono ?_; exact (Below.refl _ _).drew; rintro r w6 ⟨a6, n6, c6, rfl, ⟨ms6, hsk6, hl6, hm6⟩, hb6⟩; have HRD6 := hide (show Xr.RFr w6 ⟨a6, n6, c6⟩ RS by rw [← hm6]; exact hsk6.rd hl6 (by have h1 := congrArg List.length hm6; rw [List.length_map, hl6] at h1; have := unhide HLR; omega)); have HB6 := hide (((Below.refl w2.heap.size w2).drew).trans (hb6.mono (Nat.le_refl _))); clear hsk6 hl6 hm6 hb6))
      all_goals
        go_wp2_with fail
        go_meet
        case rel => exact ⟨rfl, a6, n6, c6, rfl, unhide HRD6, unhide HB6⟩
    case rest =>
      rename World => w3
      obtain ⟨rfl, a3, n3, c3, rfl, hrd3, hb3⟩ := hcut
      have HSF := hide (SameFrames_eq RS ⟨a, nf, c⟩ ⟨a3, n3, c3⟩ w3 ((unhide HRD).later hb3 (Nat.le_refl _)) hrd3)
      have HB3 := hide ((unhide HB2).trans (hb3.mono (unhide HB2).size))
      have HRD3 := hide ((unhide HRD).later hb3 (Nat.le_refl _))
      clear hrd3 hb3 HRD HA2
      have bnf : ((nf : Int) == 0) = false := by simp; omega
      go_wp2_with fail
      refine (unhide HSF).mono ?_
      rintro r w4 ⟨rfl, hb4⟩
      have HB4 := hide ((unhide HB3).trans (hb4.mono (unhide HB3).size))
      have HRD4 := hide ((unhide HRD3).later hb4 (Nat.le_refl _))
      clear hb4 HRD3 HB3 HSF
      rcases Nat.eq_zero_or_pos t with ht | ht
      · subst ht
        go_wp2_with fail
        go_ret
        exact ⟨rfl, unhide HB4⟩
      · obtain ⟨u, rfl⟩ : ∃ u, t = u + 1 := ⟨t - 1, by omega⟩
        have hul : u < l.length := by have := unhide HNL; omega
        have hy := List.getElem?_eq_getElem hul
        obtain ⟨b, o, had, hb, p0, p1, p2, p3, p4, p5⟩ := ((unhide HR) w4 (unhide HB4)).at_ u _ hy
        have HWR := hide (fun h2 => (unhide HST).wrote hy h2)
        generalize l[u] = e at *
        have had' : ad = some ⟨b, o, none⟩ := had
        subst had'
        have bt : (((u + 1 : Nat) : Int) == 0) = false := by simp; omega
        have bt2 : ((u : Int) + 1 == 0) = false := by simp; omega
        have hu0 : (0 : Int) ≤ (u : Int) := by omega
        have hu1 : (u : Int) < (nl : Int) := by omega
        clear hy had hb hul
        by_cases k2 : e.n0 = 2
        · obtain ⟨st0, fr, v, i, lv, hreps, h1, h3, h4, hv, hi⟩ := (unhide HWR) k2
          obtain ⟨en0, en1, en2, en3, en4, en5⟩ := e
          dsimp only at *
          subst h1 h3 h4 k2
          have hRS : RS = st0 ++ [fr] := (unhide HRS).trans hreps
          obtain ⟨k, hk⟩ : ∃ k, nf = k + 1 := ⟨st0.length, by rw [← unhide HLR, hRS, List.length_append]; rfl⟩
          have hk2 : st0.length = k := by have h9 := unhide HLR; rw [hRS, List.length_append] at h9; simp at h9; omega
          obtain ⟨b2, o2, ⟨s1a, nv, cv⟩, hda, hb2', x0, x1, x2, hrv⟩ := (unhide HRD4).at_ k fr (by rw [hRS, List.getElem?_append_right (by omega), hk2]; simp)
          obtain ⟨b3, o3, ⟨s2a, ni, ci⟩, hdb, hb3', y0, hrn⟩ := hrv.at_ v lv hv
          obtain ⟨b4, o4, hdc, hb4', z0⟩ := hrn.at_ i en5 hi
          have hda' : a = some ⟨b2, o2, none⟩ := hda
          have hdb' : s1a = some ⟨b3, o3, none⟩ := hdb
          have hdc' : s2a = some ⟨b4, o4, none⟩ := hdc
          have hvl : v < nv := by have h9 : nv = fr.vs.length := hrv.len; have := (List.getElem?_eq_some_iff.1 hv).1; omega
          have hil : i < ni := by have h9 : ni = lv.length := hrn.len; have := (List.getElem?_eq_some_iff.1 hi).1; omega
          have hnvf : nv ≤ 35184372088832 := by have h9 : nv = fr.vs.length := hrv.len; have := hrv.few; omega
          have hnif : ni ≤ 35184372088832 := by have h9 : ni = lv.length := hrn.len; have := hrn.few; omega
          subst hda' hdb' hdc' hk
          dsimp only at x0 x1 x2 y0 z0
          have HB5 := hide (((Below.refl w4.heap.size w4).alloc (Nat.le_refl _) (Obj.cells #[.int .i64 2, .int .i64 fr.num, .int .i64 en2, .int .i64 (v : Nat), .int .i64 (i : Nat), .int .i64 en5] 50)).alloc (by simp) (Obj.cells #[.int .i64 fr.num, .int .i64 fr.fn, .slice (some ⟨b3, o3, none⟩) nv cv] 58))
          have e1 : ((w4.alloc (Obj.cells #[.int .i64 2, .int .i64 fr.num, .int .i64 en2, .int .i64 (v : Nat), .int .i64 (i : Nat), .int .i64 en5] 50)).alloc (Obj.cells #[.int .i64 fr.num, .int .i64 fr.fn, .slice (some ⟨b3, o3, none⟩) nv cv] 58)).cell? ⟨w4.heap.size, 1, none⟩ = some (.int .i64 fr.num) := by go_simp
          have e3 : ((w4.alloc (Obj.cells #[.int .i64 2, .int .i64 fr.num, .int .i64 en2, .int .i64 (v : Nat), .int .i64 (i : Nat), .int .i64 en5] 50)).alloc (Obj.cells #[.int .i64 fr.num, .int .i64 fr.fn, .slice (some ⟨b3, o3, none⟩) nv cv] 58)).cell? ⟨w4.heap.size, 3, none⟩ = some (.int .i64 (v : Nat)) := by go_simp
          have e4 : ((w4.alloc (Obj.cells #[.int .i64 2, .int .i64 fr.num, .int .i64 en2, .int .i64 (v : Nat), .int .i64 (i : Nat), .int .i64 en5] 50)).alloc (Obj.cells #[.int .i64 fr.num, .int .i64 fr.fn, .slice (some ⟨b3, o3, none⟩) nv cv] 58)).cell? ⟨w4.heap.size, 4, none⟩ = some (.int .i64 (i : Nat)) := by go_simp
          have e5 : ((w4.alloc (Obj.cells #[.int .i64 2, .int .i64 fr.num, .int .i64 en2, .int .i64 (v : Nat), .int .i64 (i : Nat), .int .i64 en5] 50)).alloc (Obj.cells #[.int .i64 fr.num, .int .i64 fr.fn, .slice (some ⟨b3, o3, none⟩) nv cv] 58)).cell? ⟨w4.heap.size, 5, none⟩ = some (.int .i64 en5) := by go_simp
          have f0 : ((w4.alloc (Obj.cells #[.int .i64 2, .int .i64 fr.num, .int .i64 en2, .int .i64 (v : Nat), .int .i64 (i : Nat), .int .i64 en5] 50)).alloc (Obj.cells #[.int .i64 fr.num, .int .i64 fr.fn, .slice (some ⟨b3, o3, none⟩) nv cv] 58)).cell? ⟨w4.heap.size + 1, 0, none⟩ = some (.int .i64 fr.num) := by go_simp
          have f2 : ((w4.alloc (Obj.cells #[.int .i64 2, .int .i64 fr.num, .int .i64 en2, .int .i64 (v : Nat), .int .i64 (i : Nat), .int .i64 en5] 50)).alloc (Obj.cells #[.int .i64 fr.num, .int .i64 fr.fn, .slice (some ⟨b3, o3, none⟩) nv cv] 58)).cell? ⟨w4.heap.size + 1, 2, none⟩ = some (.slice (some ⟨b3, o3, none⟩) nv cv) := by go_simp
          have x0' := ((Below.refl w4.heap.size w4).alloc (Nat.le_refl _) (Obj.cells #[.int .i64 2, .int .i64 fr.num, .int .i64 en2, .int .i64 (v : Nat), .int .i64 (i : Nat), .int .i64 en5] 50)).cell (p := ⟨b2, o2 + k * 3, none⟩) hb2' |>.trans x0
          have x1' := ((Below.refl w4.heap.size w4).alloc (Nat.le_refl _) (Obj.cells #[.int .i64 2, .int .i64 fr.num, .int .i64 en2, .int .i64 (v : Nat), .int .i64 (i : Nat), .int .i64 en5] 50)).cell (p := ⟨b2, o2 + k * 3 + 1, none⟩) hb2' |>.trans x1
          have x2' := ((Below.refl w4.heap.size w4).alloc (Nat.le_refl _) (Obj.cells #[.int .i64 2, .int .i64 fr.num, .int .i64 en2, .int .i64 (v : Nat), .int .i64 (i : Nat), .int .i64 en5] 50)).cell (p := ⟨b2, o2 + k * 3 + 2, none⟩) hb2' |>.trans x2
          have y0' := (unhide HB5).cell (p := ⟨b3, o3 + v, none⟩) hb3' |>.trans y0
          have z0' := (unhide HB5).cell (p := ⟨b4, o4 + i, none⟩) hb4' |>.trans z0
          have hw45 : (w4.alloc (Obj.cells #[.int .i64 2, .int .i64 fr.num, .int .i64 en2, .int .i64 (v : Nat), .int .i64 (i : Nat), .int .i64 en5] 50)).heap.size = w4.heap.size + 1 := by simp
          have HW45 := hide hw45
          clear hw45 hreps hRS hrv hrn hda hdb hdc hv hi x0 x1 x2 y0 z0 HWR HRD4 HLR hb2' hb3' hb4'
          have k0 : (0 : Int) ≤ (k : Int) := by omega
          have k1 : (k : Int) < ((k + 1 : Nat) : Int) := by omega
          have kc : (((k + 1 : Nat) : Int) - 1) = (k : Int) := by omega
          have uc : (((u + 1 : Nat) : Int) - 1) = (u : Int) := by omega
          go_upto_region 15 with fail
          generalize (w4.alloc (Obj.cells #[.int .i64 2, .int .i64 fr.num, .int .i64 en2, .int .i64 (v : Nat), .int .i64 (i : Nat), .int .i64 en5] 50)).alloc (Obj.cells #[.int .i64 fr.num, .int .i64 fr.fn, .slice (some ⟨b3, o3, none⟩) nv cv] 58) = W6 at *
          generalize w4.alloc (Obj.cells #[.int .i64 2, .int .i64 fr.num, .int .i64 en2, .int .i64 (v : Nat), .int .i64 (i : Nat), .int .i64 en5] 50) = W5 at *
          have v0 : (0 : Int) ≤ (v : Int) := by omega
          have v1 : (v : Int) < (nv : Int) := by omega
          have i00 : (0 : Int) ≤ (i : Int) := by omega
          have i1 : (i : Int) < (ni : Int) := by omega
          clear p0 p1 p2 p3 p4 p5 x0' x1' x2' hk2
          go_quiet (fail)
          go_wp2_with fail
          go_ret
          exact ⟨rfl, below_drewN ((unhide HB4).trans ((unhide HB5).mono (unhide HB4).size)) _⟩
        · have b2 : (e.n0 != 2) = true := by simpa using k2
          go_wp2_with fail
          go_ret
          exact ⟨rfl, unhide HB4⟩
end Go.Proofs.Ytcalcikclcmkaaa
