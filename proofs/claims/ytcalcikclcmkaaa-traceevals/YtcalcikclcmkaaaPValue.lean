/-
  The contract of the document's ValueOf. By the verifier.
-/
import Derived.Test.YtcalcikclcmkaaaPReckon
import Derived.Test.YtcalcikclcmkaaaPAll
namespace Go.Proofs.Ytcalcikclcmkaaa
open Go.RowKit
set_option linter.unusedVariables false

theorem Try.infoI : (Try.prog.info? 3).map (fun i => (i.zero, i.size, i.bytes)) = some (some (.int .i64 0), 1, 8) := by kernel_rfl
theorem Pg.one_i (l : List Int) : ∀ u ∈ l.map (Value.int .i64), u.oneCell' = true := by
  intro u hu
  obtain ⟨x, _, rfl⟩ := List.mem_map.1 hu
  rfl
/-- What stands at a round's beginning. -/
structure Pg.Vk (w W : World) (e : Pg.E) (i : Nat) (ls : List Int) (v : Value) : Prop where
  len : ls.length = i
  row : W.ownsRow (w.heap.size + 1) 3 1 v i (ls.map (Value.int .i64))
  lo : w.heap.size + 1 ≤ W.heap.size
  e0 : W.cell? ⟨w.heap.size, 0, none⟩ = some (.int .i64 e.k)
  e1 : W.cell? ⟨w.heap.size, 1, none⟩ = some (.int .i64 e.n)
  e2 : W.cell? ⟨w.heap.size, 2, none⟩ = some (.slice e.args.ad e.args.len e.args.cap)
  bel : Below w.heap.size w W
theorem Pg.Vk.later {w W W' : World} {e : Pg.E} {i : Nat} {ls : List Int} {v : Value} (h : Pg.Vk w W e i ls v) (hb : Below W.heap.size W W') : Pg.Vk w W' e i ls v := by
  have l2 := World.block_lt_of_cell? W _ h.e0
  exact ⟨h.len, Pg.ow_below h.row hb, Nat.le_trans h.lo hb.size, (hb.cell (p := ⟨w.heap.size, 0, none⟩) l2).trans h.e0, (hb.cell (p := ⟨w.heap.size, 1, none⟩) l2).trans h.e1, (hb.cell (p := ⟨w.heap.size, 2, none⟩) l2).trans h.e2, h.bel.trans (hb.mono h.bel.size)⟩
theorem Pg.Vk.form {w W : World} {e : Pg.E} {i : Nat} {ls : List Int} {v : Value} (h : Pg.Vk w W e i ls v) : ∃ a c, v = .slice a i c := by
  rcases h.row.2 with ⟨hv, hx⟩ | ⟨g, cap, cur, hv, _⟩
  · exact ⟨none, 0, by rw [hv, hx]⟩
  · exact ⟨_, _, hv⟩
/-- One more. -/
theorem Pg.Vk.put {w W : World} {e : Pg.E} {i : Nat} {ls : List Int} {a : Option Addr} {c : Nat} (h : Pg.Vk w W e i ls (.slice a i c)) (hi : i ≤ 2) (z : Int) :
    ∃ v' W', (Builtin.append_ #[37, 37] 37 #[.slice a i c, .slice (some ⟨W.heap.size, 0, none⟩) 1 1]).run Try.prog (W.alloc (Obj.cells #[.int .i64 z] 3)) = .ok v' W' ∧ Pg.Vk w W' e (i + 1) (ls ++ [z]) v' := by
  have hal := (Below.refl W.heap.size W).alloc (Nat.le_refl _) (Obj.cells #[.int .i64 z] 3)
  have h1 := h.later hal
  obtain ⟨i0, hi', hz0, hz1, hz2⟩ := info_of Try.infoI
  obtain ⟨v', W', hrun, hown, hgr, _, _⟩ := run_append_own_at (P := Try.prog) (W.alloc (Obj.cells #[.int .i64 z] 3)) (w.heap.size + 1) 37 37 3 i0 _ 1 8 Try.underlying37 hi' hz0 hz1 hz2 rfl (by decide) (.slice a i c) i (ls.map (Value.int .i64)) h1.row ⟨W.heap.size, 0, none⟩ 1 1 [.int .i64 z] rfl (fun j u hj => by
    match j, hj with
    | 0, hj => cases hj; rw [Go.WideShapes.add_plain]; go_simp
    | j + 1, hj => simp at hj) (by simp [Value.oneCell']) (by unfold maxLen; omega) (by omega) h1.lo
  have hne : some w.heap.size ≠ (Value.slice a i c).ownBlock := fun e => by have := (h1.row.lt _ e.symm).1; omega
  have l2 := World.block_lt_of_cell? _ _ h1.e0
  have hc : ∀ j, W'.cell? ⟨w.heap.size, j, none⟩ = (W.alloc (Obj.cells #[.int .i64 z] 3)).cell? ⟨w.heap.size, j, none⟩ := fun j => hgr.cell_far ⟨w.heap.size, j, none⟩ l2 hne
  refine ⟨v', W', hrun, ⟨by simp [h.len], by rw [List.map_append]; exact hown, Nat.le_trans h1.lo hgr.size, (hc 0).trans h1.e0, (hc 1).trans h1.e1, (hc 2).trans h1.e2, h1.bel.grown hgr h1.bel.size (fun q hq => by have := (h1.row.lt _ hq).1; omega)⟩⟩
/-- A number of the row. -/
theorem Pg.Vk.at_ {w W : World} {e : Pg.E} {i : Nat} {ls : List Int} {v : Value} (h : Pg.Vk w W e i ls v) (hi : 0 < i) : ∃ g c, v = .slice (some ⟨g, 0, none⟩) i c ∧ ∀ j, j < i → W.cell? ⟨g, j, none⟩ = some (.int .i64 ((ls[j]?).getD 0)) := by
  obtain ⟨g, c, rfl, _, _⟩ := h.row.form hi
  refine ⟨g, c, rfl, fun j hj => ?_⟩
  have hl := h.len
  have := h.row.cells (g := g) rfl j (.int .i64 ((ls[j]?).getD 0)) (by rw [List.getElem?_map, List.getElem?_eq_getElem (by omega)]; rfl)
  rw [Go.WideShapes.add_plain, Nat.zero_add] at this
  exact this

set_option maxRecDepth 100000 in
set_option maxHeartbeats 6400000 in
theorem ValueOf_any (sa : Option Addr) (sl sc : Nat) (vs : List (List Int)) : ∀ (n : Nat) (e : Pg.E) (x : Pg.XT n) (w : World), Pg.RX w n e x → Pg.RV w ⟨sa, sl, sc⟩ vs → Pg.okV vs n x →
    Calls Try.prog 10 #[e.val, .slice sa sl sc] w fun r w' => r = .returned (.tuple #[.int .i64 (Pg.val vs n x).1, .int .i64 (Pg.val vs n x).2]) ∧ Below w.heap.size w w' := by
  intro n
  induction n with
  | zero => intro e x w h; exact absurd h id
  | succ n ih =>
    intro e x w hre hrv hok
    obtain ⟨⟨hk, hn⟩, hs⟩ := hre
    obtain ⟨hK, hA, hV2, hV3, hsub⟩ := hok
    have hlen := hs.len
    have hsl : sl = vs.length := hrv.len
    have hsf : sl ≤ 35184372088832 := by rw [hsl]; exact hrv.few
    have HSL := hide hsl
    clear hsl
    have hAle : Pg.argsN x.1.1 ≤ 2 := by unfold Pg.argsN; split <;> (try split) <;> omega
    have hl2 : e.args.len ≤ 2 := by omega
    obtain ⟨V, hV⟩ : ∃ V, V = Pg.val vs (n + 1) x := ⟨_, rfl⟩
    rw [← hV]
    have HV := hide (show V = (match Pg.evs (Pg.val vs n) x.2 with | .error h => (0, h) | .ok ls => Pg.fin vs e.k e.n ls) by rw [hV, hk, hn]; rfl)
    have HS := hide hs
    have HLN := hide hlen
    have IH := hide ih
    have HRV := hide hrv
    have HSUB := hide hsub
    rw [← hk] at hK hA hV2 hV3
    rw [← hn] at hV2 hV3
    have HK := hide hK
    have HA := hide (hlen.trans hA)
    have HV2 := hide hV2
    have HV3 := hide hV3
    clear hs hlen ih hrv hsub hV hk hn hK hA hV2 hV3 hAle
    have hb0 := (Below.refl w.heap.size w).alloc (Nat.le_refl _) (Obj.cells #[.int .i64 e.k, .int .i64 e.n, .slice e.args.ad e.args.len e.args.cap] 24)
    have HB0 := hide hb0
    have HRV0 := hide ((unhide HRV).later hb0 (Nat.le_refl _))
    clear hb0
    unfold Pg.E.val
    go_enter Try.func10, Try.ntmps10
    by_cases k1 : e.k = 1
    · have b1 : (e.k == 1) = true := by simp [k1]
      have HN := hide (show V = (e.n, 0) by
        have h0 : x.2 = [] := List.eq_nil_of_length_eq_zero (by have a := unhide HA; have b := unhide HLN; rw [k1] at a; have : Pg.argsN 1 = 0 := rfl; omega)
        rw [unhide HV, h0]
        exact Pg.fin_num k1)
      clear k1
      go_wp2_with fail
      exact bodyPost_ret (v := .tuple #[.int .i64 (e.n), .int .i64 (0)]) (by simp [results, Try.results10, go_sem]) rfl ⟨by rw [unhide HN], unhide HB0⟩
    · have b1 : (e.k == 1) = false := by simpa using k1
      by_cases k2 : e.k = 2
      · have b2 : (e.k == 2) = true := by simp [k2]
        obtain ⟨l, hv, hne⟩ := (unhide HV2) k2
        obtain ⟨j, hj, hjl⟩ := Pg.var_some hv
        obtain ⟨b, o, t, had, hb, hc, hrn⟩ := (unhide HRV0).at_ j l hjl
        cases l with
        | nil => exact absurd rfl hne
        | cons a r =>
          obtain ⟨b2', o2, had2, hb2, hc2⟩ := hrn.at_ 0 a rfl
          have HN := hide (show V = (a, 0) by
            have h0 : x.2 = [] := List.eq_nil_of_length_eq_zero (by have a := unhide HA; have b := unhide HLN; rw [k2] at a; have : Pg.argsN 2 = 0 := rfl; omega)
            rw [unhide HV, h0]
            exact Pg.fin_var k2 hv)
          have had' : sa = some ⟨b, o, none⟩ := had
          subst had'
          have hj3 : (j : Int) < (sl : Int) := by have := (List.getElem?_eq_some_iff.1 hjl).1; have := unhide HSL; omega
          have hj2 : (0 : Int) ≤ (j : Int) := by omega
          have htl : (0 : Int) < (t.len : Int) := by rw [hrn.len]; simp
          rw [had2] at hc
          rw [Nat.add_zero] at hc2
          have HNJ := hide hj
          rw [hj] at *
          clear k1 k2 hv hjl hrn had hne
          go_wp2_with fail
          exact bodyPost_ret (v := .tuple #[.int .i64 (a), .int .i64 (0)]) (by simp [results, Try.results10, go_sem]) rfl ⟨by rw [unhide HN], (Below.refl _ _).alloc (Nat.le_refl _) _⟩
      · have b2 : (e.k == 2) = false := by simpa using k2
        go_wp2_with fail
        go_loopw [6, 7] (fun sv iv wr => ∃ (i : Nat) (ls : List Int), i ≤ e.args.len ∧ iv = .int .i64 i ∧ Hid (Pg.evs (Pg.val vs n) x.2 = Pg.cont ls (Pg.evs (Pg.val vs n) (x.2.drop i))) ∧ Pg.Vk w wr e i ls sv) (fun _ iv _ => e.args.len - (intOf iv).toNat)
        case atStart => exact ⟨0, [], Nat.zero_le _, rfl, by show _ = _; rw [List.drop_zero]; cases Pg.evs (Pg.val vs n) x.2 <;> rfl, ⟨rfl, World.ownsRow_nil _ _ _ _, by simp, by go_simp, by go_simp, by go_simp, unhide HB0⟩⟩
        case round =>
          obtain ⟨i, ls, hi, rfl, hrel, hvk⟩ := hrel
          obtain ⟨ra, rc, rfl⟩ := hvk.form
          have HRL := hide (unhide hrel)
          have HVK := hide hvk
          have hz := hvk.bel.size
          have e2 := hvk.e2
          clear hrel hvk
          by_cases hlt : i < e.args.len
          · have hlt2 : i < x.2.length := by have := unhide HLN; omega
            have hy := List.getElem?_eq_getElem hlt2
            obtain ⟨b, o, cc, had, hb, hlies, hrd⟩ := (unhide HS).at_ i _ hy
            have hoky := (unhide HSUB) _ (List.mem_of_getElem? hy)
            have HY := hide (fun h => Pg.evs_yes (Pg.val vs n) x.2 i _ hy h)
            have HNO := hide (fun h => Pg.evs_no (Pg.val vs n) x.2 i _ hy h)
            generalize x.2[i] = y at *
            obtain ⟨p0, p1, p2⟩ := hlies.later (unhide HVK).bel (Nat.le_refl _) hb
            have HIC := hide ((unhide IH) cc y wr (hrd.later (unhide HVK).bel (Nat.le_refl _)) ((unhide HRV).later (unhide HVK).bel (Nat.le_refl _)) hoky)
            obtain ⟨v, hw, hvv⟩ : ∃ v hw, Pg.val vs n y = (v, hw) := ⟨_, _, rfl⟩
            rw [hvv] at HIC HY HNO
            clear hlies hrd hy hoky hvv
            have hi0 : (0 : Int) ≤ (i : Int) := by omega
            have hi1 : (i : Int) < (e.args.len : Int) := by omega
            rw [had] at e2
            rw [had]
            unfold Pg.E.val at HIC
            go_wp2_with fail
            refine (unhide HIC).mono ?_
            rintro r w1 ⟨rfl, hb1⟩
            have hvk1 := (unhide HVK).later hb1
            have HV1 := hide hvk1
            clear hb1 p0 p1 p2
            by_cases hw0 : hw = 0
            · have g : (hw != 0) = false := by simp [hw0]
              have HN := hide (show Pg.evs (Pg.val vs n) x.2 = Pg.cont (ls ++ [v]) (Pg.evs (Pg.val vs n) (x.2.drop (i + 1))) by rw [unhide HRL, (unhide HY) hw0, Pg.cont_cont])
              obtain ⟨v', W', hrun, hvk2⟩ := hvk1.put (by omega) v
              obtain ⟨ra', rc', rfl⟩ := hvk2.form
              have HRN := hide hrun
              have HV2' := hide hvk2
              clear hw0 hvk1 hrun hvk2 e2
              go_wp2_with (at_builtin; refine Pg.wp_append_run rfl _ _ 37 rfl _ _ _ rfl rfl (unhide HRN) ?_)
              exact ⟨⟨i + 1, ls ++ [v], by omega, by go_num, unhide HN, unhide HV2'⟩, by simp [intOf]; omega⟩
            · have g : (hw != 0) = true := by simpa using hw0
              have HN := hide (show V = (0, hw) by rw [unhide HV, unhide HRL, (unhide HNO) hw0]; rfl)
              clear hw0 hvk1 e2
              go_wp2_with fail
              exact bodyPost_ret (v := .tuple #[.int .i64 (0), .int .i64 (hw)]) (by simp [results, Try.results10, go_sem]) rfl ⟨by rw [unhide HN], (unhide HV1).bel⟩
          · have hil : i = e.args.len := by omega
            have HF := hide (show V = Pg.fin vs e.k e.n ls by
              rw [unhide HV, unhide HRL, List.drop_of_length_le (by have := unhide HLN; omega)]
              show Pg.fin vs e.k e.n (ls ++ []) = _
              rw [List.append_nil])
            have hi0 : 0 < i := by
              have a := unhide HA
              have : 1 ≤ Pg.argsN e.k := by unfold Pg.argsN; rw [if_neg (by omega)]; split <;> omega
              omega
            obtain ⟨g, c, hsv, hcells⟩ := (unhide HVK).at_ hi0
            cases hsv
            have e0 := (unhide HVK).e0
            have e1 := (unhide HVK).e1
            have a0 := hcells 0 hi0
            obtain ⟨L0, hL0⟩ : ∃ L0, (ls[0]?).getD 0 = L0 := ⟨_, rfl⟩
            obtain ⟨L1, hL1⟩ : ∃ L1, (ls[1]?).getD 0 = L1 := ⟨_, rfl⟩
            rw [hL0] at a0
            have HL0 := hide hL0
            have HL1 := hide hL1
            have HBR := hide (unhide HVK).bel
            have HRVR := hide ((unhide HRV).later (unhide HVK).bel (Nat.le_refl _))
            clear hL0 HVK HV HS HLN IH HRV HSUB HB0 HRL HRV0
            by_cases k3 : e.k = 3
            · have b3 : (e.k == 3) = true := by simp [k3]
              obtain ⟨l, hv⟩ := (unhide HV3) k3
              obtain ⟨j, hj, hjl⟩ := Pg.var_some hv
              obtain ⟨b, o, t, had, hb, hc, hrn⟩ := (unhide HRVR).at_ j l hjl
              have had' : sa = some ⟨b, o, none⟩ := had
              subst had'
              have hj3 : (j : Int) < (sl : Int) := by have := (List.getElem?_eq_some_iff.1 hjl).1; have := unhide HSL; omega
              have hj2 : (0 : Int) ≤ (j : Int) := by omega
              have htl := hrn.len
              have htf := hrn.few
              rw [← htl] at htf
              rw [hj] at e1
              have hlt' : ¬ (i : Int) < (e.args.len : Int) := by omega
              have hi2'' : (0 : Int) < (i : Int) := by omega
              by_cases hin : 0 ≤ L0 ∧ L0 < (t.len : Int)
              · obtain ⟨q, rfl⟩ : ∃ q : Nat, L0 = q := ⟨L0.toNat, by omega⟩
                obtain ⟨v, hvq⟩ : ∃ v, l[q]? = some v := ⟨_, List.getElem?_eq_getElem (by omega)⟩
                obtain ⟨b2', o2, had2, hb2, hc2⟩ := hrn.at_ q v hvq
                have HN := hide (show V = (v, 0) by rw [unhide HF, Pg.fin_cell k3 hv (unhide HL0) (by unfold Pg.at?; rw [if_pos (by omega), Int.toNat_natCast]; exact hvq)])
                have HIS := hide (fun W => show Calls Try.prog 31 #[.int .i64 (q : Int), .int .i64 0, .int .i64 ((t.len : Int) - 1)] W fun r w' => r = .returned (.bool true) ∧ w' = W by
                  have := between_any (q : Int) 0 ((t.len : Int) - 1) W
                  rw [decide_eq_true (by omega)] at this
                  exact this)
                have hq1 : (0 : Int) ≤ (q : Int) := by omega
                have hq2 : (q : Int) < (t.len : Int) := by omega
                rw [had2] at hc
                clear k1 k2 k3 hv hj hjl hrn had hin hvq had2 htl hil hcells hL1 hi
                go_wp2_with fail
                go_quiet ((go_at_call 31; exact Calls.quiet_of_same ((unhide HIS) _)))
                go_wp2_with fail
                go_quiet (fail)
                go_wp2_with fail
                exact bodyPost_ret (v := .tuple #[.int .i64 (v), .int .i64 (0)]) (by simp [results, Try.results10, go_sem]) rfl ⟨by rw [unhide HN], below_drewN (below_drewN (unhide HBR) _) _⟩
              · have HN := hide (show V = (0, 3) by rw [unhide HF, Pg.fin_none k3 hv (unhide HL0) (Pg.at_out (by omega))])
                have HIS := hide (fun W => show Calls Try.prog 31 #[.int .i64 L0, .int .i64 0, .int .i64 ((t.len : Int) - 1)] W fun r w' => r = .returned (.bool false) ∧ w' = W by
                  have := between_any L0 0 ((t.len : Int) - 1) W
                  rw [decide_eq_false (by omega)] at this
                  exact this)
                clear k1 k2 k3 hv hj hjl hrn had hin htl hil hcells hL1 hi
                go_wp2_with fail
                go_quiet ((go_at_call 31; exact Calls.quiet_of_same ((unhide HIS) _)))
                go_wp2_with fail
                exact bodyPost_ret (v := .tuple #[.int .i64 (0), .int .i64 (3)]) (by simp [results, Try.results10, go_sem]) rfl ⟨by rw [unhide HN], below_drewN (unhide HBR) _⟩
            · have b3 : (e.k == 3) = false := by simpa using k3
              have HN := hide (show V = Pg.op e.k L0 L1 by rw [unhide HF, Pg.fin_op k1 k2 k3 (unhide HL0) (unhide HL1)])
              have hk4 : 4 ≤ e.k ∧ e.k ≤ 10 := by have := unhide HK; omega
              have hi2 : i = 2 := by
                have a := unhide HA
                have : Pg.argsN e.k = 2 := by unfold Pg.argsN; rw [if_neg (by omega), if_neg k3]
                omega
              have a1 := hcells 1 (by omega)
              rw [hL1] at a1
              have HJ := hide (fun W => op_any e.k L0 L1 W hk4)
              have hlt' : ¬ (i : Int) < (e.args.len : Int) := by omega
              have hi2' : (1 : Int) < (i : Int) := by omega
              have hi2'' : (0 : Int) < (i : Int) := by omega
              clear k1 k2 k3 hk4 hil hi2 hcells hL1 hi
              generalize Pg.op e.k L0 L1 = OP at *
              go_wp2_with fail
              go_quiet ((go_at_call 32; exact Calls.quiet_of_same ((unhide HJ) _)))
              go_wp2_with fail
              exact bodyPost_ret (v := .tuple #[.int .i64 (OP.1), .int .i64 (OP.2)]) (by simp [results, Try.results10, go_sem]) rfl ⟨by rw [unhide HN], below_drewN (unhide HBR) _⟩
end Go.Proofs.Ytcalcikclcmkaaa
