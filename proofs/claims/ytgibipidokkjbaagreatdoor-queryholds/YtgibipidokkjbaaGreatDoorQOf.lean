/-
  The contract of the document's own HoldsOf. By the verifier.
-/
import Derived.Test.YtgibipidokkjbaaGreatDoorQMarks
import Derived.Test.YtgibipidokkjbaaGreatDoorQAt
namespace Go.Proofs.YtgibipidokkjbaaGreatDoor
open Go.RowKit
set_option linter.unusedVariables false

theorem Qk.row_of {w : World} {base : Nat} {v : Value} {s : List Bool} (h : w.ownsRow base 4 1 v s.length (s.map Value.bool)) (hs : 0 < s.length) : ∃ g c, v = .slice (some ⟨g, 0, none⟩) s.length c ∧ base ≤ g ∧ Qk.Row w g s := by
  rcases h.2 with ⟨_, h0⟩ | ⟨g, cap, cur, rfl, hB, hg, hn, hcap, hsz, htk⟩
  · omega
  · refine ⟨g, cap, rfl, hB, cur, hg, fun i b hi => ?_⟩
    have hlt := (List.getElem?_eq_some_iff.1 hi).1
    have e1 : (cur.toList.take (s.length * 1))[i]? = (s.map Value.bool)[i]? := by rw [htk]
    rw [List.getElem?_take_of_lt (by omega), List.getElem?_map, hi] at e1
    simpa using e1

set_option maxRecDepth 100000 in
set_option maxHeartbeats 1600000 in
theorem HoldsOf_nil : ∀ (n : Nat) (e : Qk.E) (x : Qk.AT n) (ad : Option Addr) (cap : Nat) (w : World), Qk.RA w n e x → Qk.wrong n x = 0 →
    Calls Tryz.prog 17 #[e.val, .slice ad 0 cap] w fun r w' => r = .returned (.slice none 0 0) ∧ Below w.heap.size w w' := by
  intro n
  induction n with
  | zero => intro e x ad cap w h; exact absurd h id
  | succ n ih =>
    intro e x ad cap w hre h0
    obtain ⟨⟨hk, hn⟩, hs⟩ := hre
    obtain ⟨g1, g2, g3, g4⟩ := Qk.wrong_ok h0
    have hlen := hs.len
    have hfew : e.args.len ≤ 2 := by rw [hlen, g2]; unfold Qk.argsN; split <;> (try split) <;> omega
    have HS := hide hs
    have HLN := hide hlen
    have IH := hide ih
    have H4 := hide g4
    obtain ⟨i0, hi, hz0, hz1, hz2⟩ := info_parts Tryz.infoBs
    have HI := hide hi
    have HZ0 := hide hz0
    have HZ1 := hide hz1
    have HZ2 := hide hz2
    clear hs hk hn hlen ih g1 g2 g3 g4 h0 hi hz0 hz1 hz2
    unfold Qk.E.val
    go_enter Tryz.func17, Tryz.ntmps17
    go_wp2_with fail
    obtain ⟨W1, hW1⟩ : ∃ W1, W1 = w.alloc (.cells #[.int .i64 e.k, .int .i64 e.n, .slice e.args.ad e.args.len e.args.cap] 24) := ⟨_, rfl⟩
    have hs1 : w.heap.size + 1 ≤ W1.heap.size := by rw [hW1]; simp
    have HB1 := hide (show Below w.heap.size w W1 by rw [hW1]; exact (Below.refl _ _).alloc (Nat.le_refl _) _)
    have HC1 := hide (show W1.cell? ⟨w.heap.size, 2, none⟩ = some (.slice e.args.ad e.args.len e.args.cap) by rw [hW1]; simp)
    rw [← hW1]
    clear hW1
    go_loopw [5, 6] (fun v iv wr => ∃ (i : Nat) (cs : List Value), i ≤ e.args.len ∧ iv = .int .i64 i ∧ wr.ownsRow W1.heap.size 38 1 v i cs ∧ Below W1.heap.size W1 wr) (fun _ iv _ => e.args.len - (intOf iv).toNat)
    case atStart => exact ⟨0, [], Nat.zero_le _, rfl, World.ownsRow_nil _ _ _ _, Below.refl _ _⟩
    case round =>
      obtain ⟨i, cs, hi, rfl, how, hbe⟩ := hrel
      have hz := hbe.size
      have b2 := (hbe.cell (p := ⟨w.heap.size, 2, none⟩) (by show w.heap.size < _; omega)).trans (unhide HC1)
      have HOW := hide how
      have HBE := hide hbe
      have HBW := hide ((unhide HB1).trans (hbe.mono (by omega)))
      clear how hbe
      by_cases hlt : i < e.args.len
      · have hlt2 : i < x.2.length := by have := unhide HLN; omega
        have hy := List.getElem?_eq_getElem hlt2
        obtain ⟨b, o, c, had, hb, hlies, hrd⟩ := (unhide HS).at_ i _ hy
        have HY0 := hide ((unhide H4) _ (List.mem_of_getElem? hy))
        generalize x.2[i] = y at *
        have hll := hlies.later (unhide HBW) (Nat.le_refl _) hb
        obtain ⟨p0, p1, p2⟩ := hll
        have HRD := hide (hrd.later (unhide HBW) (Nat.le_refl _))
        clear hlies hrd hy
        have hi0 : (0 : Int) ≤ (i : Int) := by omega
        have hi1 : (i : Int) < (e.args.len : Int) := by omega
        rw [had] at b2 ⊢
        go_wp2_with fail
        refine ((unhide IH) c y ad cap _ (unhide HRD) (unhide HY0)).mono ?_
        rintro r w2 ⟨rfl, hb2⟩
        have hz2 := hb2.size
        have HO2 := hide (Ix.ow_below (unhide HOW) hb2)
        have HBE2 := hide ((unhide HBE).trans (hb2.mono hz))
        clear hb2 p0 p1 p2 b2
        have tok1 : True := trivial
        go_wp2_with (at_builtin; have _t := tok1; clear tok1 _t; refine wpList_append_own_at _ rfl _ _ 60 rfl W1.heap.size 38 i0 (.slice none 0 0) 1 24 Tryz.underlying60 (unhide HI) (unhide HZ0) (unhide HZ1) (unhide HZ2) rfl (by decide) _ _ _ rfl ((unhide HO2).alloc _) ⟨w2.heap.size, 0, none⟩ 1 1 [.slice none 0 0] rfl rfl (cell_one_new _ _ _) (by simp [Value.oneCell']) (by unfold maxLen; omega) (by omega) (by simp; omega) ?_; intro v' w3 hown' hgrow hnil hloc; have HOWN' := hide hown'; have HG := hide ((World.grownBy_alloc w2 _ _).trans hgrow); clear hown' hgrow hnil hloc)
        have HLT := hide (unhide HO2).lt
        refine ⟨⟨i + 1, cs ++ [.slice none 0 0], by omega, by go_num, unhide HOWN', (unhide HBE2).grown (unhide HG) (by omega) (fun q hq => ((unhide HLT) q hq).1)⟩, by simp [intOf]; omega⟩
      · go_wp2_with fail
        obtain ⟨wo, hwo⟩ : ∃ wo, wo = wr := ⟨wr, rfl⟩
        subst hwo
        go_loop [7, 8] (fun v iv => v = .slice none 0 0 ∧ iv = .int .i64 0) (fun _ _ => 0)
        case atStart => exact ⟨rfl, rfl⟩
        case round =>
          obtain ⟨rfl, rfl⟩ := hrel
          go_wp2_with fail
          go_ret
          exact ⟨rfl, unhide HBW⟩

set_option maxRecDepth 100000 in
set_option maxHeartbeats 3200000 in
theorem HoldsOf_any : ∀ (n : Nat) (e : Qk.E) (x : Qk.AT n) (l : List Ev) (ad : Option Addr) (cap : Nat) (w : World), Qk.RA w n e x → Qk.wrong n x = 0 → Cl.RE w ad l → 0 < l.length → l.length ≤ 4000 →
    Calls Tryz.prog 17 #[e.val, .slice ad l.length cap] w fun r w' => ∃ g c, r = .returned (.slice (some ⟨g, 0, none⟩) l.length c) ∧ w.heap.size ≤ g ∧ Qk.Row w' g (Qk.marks n x l) ∧ (Qk.marks n x l).length = l.length ∧ Below w.heap.size w w' := by
  intro n
  induction n with
  | zero => intro e x l ad cap w h; exact absurd h id
  | succ n ih =>
    intro e x l ad cap w hre h0 hr hpos hf
    obtain ⟨⟨hk, hn⟩, hs⟩ := hre
    obtain ⟨g1, g2, g3, g4⟩ := Qk.wrong_ok h0
    have hlen := hs.len
    have hlen2 : e.args.len = Qk.argsN e.k := by rw [hlen, g2, hk]
    have hfew : e.args.len ≤ 2 := by rw [hlen2]; unfold Qk.argsN; split <;> (try split) <;> omega
    have HS := hide hs
    have HLN := hide hlen
    have IH := hide ih
    have HR := hide hr
    have H4 := hide g4
    have HML := hide (Qk.marks_length n x l)
    have HMX := hide (show Qk.marks (n + 1) x l = (List.range l.length).map (Qk.ev e.k e.n l (Qk.sub (x.2.map fun y => Qk.marks n y l) 0) (Qk.sub (x.2.map fun y => Qk.marks n y l) 1)) by rw [hk, hn]; rfl)
    have HAT := hide (fun (v : Value) (t : Nat) (W : World) (h1 : Cl.RE W ad l) (h2 : Qk.RG W v (x.2.map fun y => Qk.marks n y l) l.length) (ht : t < l.length) => HoldsAt_any e.k e.n l ad e.args.ad cap e.args.len e.args.cap v (x.2.map fun y => Qk.marks n y l) t W h1 (by rw [hk]; exact g1) h2 (by rw [List.length_map, ← hlen, hlen2]) ht hf)
    obtain ⟨i0, hi, hz0, hz1, hz2⟩ := info_parts Tryz.infoBs
    have HI := hide hi
    have HZ0 := hide hz0
    have HZ1 := hide hz1
    have HZ2 := hide hz2
    obtain ⟨j0, hj, hy0, hy1, hy2⟩ := info_parts Tryz.infoB
    have HJ := hide hj
    have HY0' := hide hy0
    have HY1 := hide hy1
    have HY2 := hide hy2
    generalize Qk.marks (n + 1) x l = MX at *
    generalize Qk.ev e.k e.n l (Qk.sub (x.2.map fun y => Qk.marks n y l) 0) (Qk.sub (x.2.map fun y => Qk.marks n y l) 1) = M at *
    clear hs hk hn hlen hlen2 ih g1 g2 g3 g4 h0 hr hi hz0 hz1 hz2 hj hy0 hy1 hy2
    unfold Qk.E.val
    go_enter Tryz.func17, Tryz.ntmps17
    go_wp2_with fail
    obtain ⟨W1, hW1⟩ : ∃ W1, W1 = w.alloc (.cells #[.int .i64 e.k, .int .i64 e.n, .slice e.args.ad e.args.len e.args.cap] 24) := ⟨_, rfl⟩
    have hs1 : w.heap.size + 1 ≤ W1.heap.size := by rw [hW1]; simp
    have HB1 := hide (show Below w.heap.size w W1 by rw [hW1]; exact (Below.refl _ _).alloc (Nat.le_refl _) _)
    have HC1 := hide (show W1.cell? ⟨w.heap.size, 0, none⟩ = some (.int .i64 e.k) ∧ W1.cell? ⟨w.heap.size, 1, none⟩ = some (.int .i64 e.n) ∧ W1.cell? ⟨w.heap.size, 2, none⟩ = some (.slice e.args.ad e.args.len e.args.cap) by rw [hW1]; exact ⟨by simp, by simp, by simp⟩)
    rw [← hW1]
    clear hW1
    go_loopw [5, 6] (fun v iv wr => ∃ (i : Nat) (cs : List Value), i ≤ e.args.len ∧ iv = .int .i64 i ∧ wr.ownsRow W1.heap.size 38 1 v i cs ∧ Qk.Subs wr cs ((x.2.take i).map fun y => Qk.marks n y l) l.length ∧ Below W1.heap.size W1 wr) (fun _ iv _ => e.args.len - (intOf iv).toNat)
    case atStart => exact ⟨0, [], Nat.zero_le _, rfl, World.ownsRow_nil _ _ _ _, ⟨rfl, fun j x h => by simp at h⟩, Below.refl _ _⟩
    case round =>
      obtain ⟨i, cs, hi, rfl, how, hsub, hbe⟩ := hrel
      have hz := hbe.size
      have b0 := (hbe.cell (p := ⟨w.heap.size, 0, none⟩) (by show w.heap.size < _; omega)).trans (unhide HC1).1
      have b1 := (hbe.cell (p := ⟨w.heap.size, 1, none⟩) (by show w.heap.size < _; omega)).trans (unhide HC1).2.1
      have b2 := (hbe.cell (p := ⟨w.heap.size, 2, none⟩) (by show w.heap.size < _; omega)).trans (unhide HC1).2.2
      have HOW := hide how
      have HSUB := hide hsub
      have HBE := hide hbe
      have HBW := hide ((unhide HB1).trans (hbe.mono (by omega)))
      clear how hsub hbe
      by_cases hlt : i < e.args.len
      · have hlt2 : i < x.2.length := by have := unhide HLN; omega
        have hy := List.getElem?_eq_getElem hlt2
        obtain ⟨b, o, c, had, hb, hlies, hrd⟩ := (unhide HS).at_ i _ hy
        have HTK := hide (show (x.2.take (i + 1)).map (fun y => Qk.marks n y l) = (x.2.take i).map (fun y => Qk.marks n y l) ++ [Qk.marks n x.2[i] l] by rw [List.take_succ_eq_append_getElem hlt2, List.map_append]; rfl)
        have HY0 := hide ((unhide H4) _ (List.mem_of_getElem? hy))
        generalize x.2[i] = y at *
        have hll := hlies.later (unhide HBW) (Nat.le_refl _) hb
        obtain ⟨p0, p1, p2⟩ := hll
        have HRD := hide (hrd.later (unhide HBW) (Nat.le_refl _))
        clear hlies hrd hy
        have hi0 : (0 : Int) ≤ (i : Int) := by omega
        have hi1 : (i : Int) < (e.args.len : Int) := by omega
        rw [had] at b2 ⊢
        go_wp2_with fail
        refine ((unhide IH) c y l ad cap _ (unhide HRD) (unhide HY0) ((unhide HR).later (unhide HBW) (Nat.le_refl _)) hpos hf).mono ?_
        rintro r w2 ⟨g, c', rfl, hgn, hrow, hrl, hb2⟩
        have hz2 := hb2.size
        have HROW := hide hrow
        have HRL := hide hrl
        have HO2 := hide (Ix.ow_below (unhide HOW) hb2)
        have HS2 := hide ((unhide HSUB).below hb2)
        have HBE2 := hide ((unhide HBE).trans (hb2.mono hz))
        clear hrow hrl hb2 p0 p1 p2 b0 b1 b2
        have tok1 : True := trivial
        go_wp2_with (at_builtin; have _t := tok1; clear tok1 _t; refine wpList_append_own_at _ rfl _ _ 60 rfl W1.heap.size 38 i0 (.slice none 0 0) 1 24 Tryz.underlying60 (unhide HI) (unhide HZ0) (unhide HZ1) (unhide HZ2) rfl (by decide) _ _ _ rfl ((unhide HO2).alloc _) ⟨w2.heap.size, 0, none⟩ 1 1 [.slice (some ⟨g, 0, none⟩) l.length c'] rfl rfl (cell_one_new _ _ _) (by simp [Value.oneCell']) (by unfold maxLen; omega) (by omega) (by simp; omega) ?_; intro v' w3 hown' hgrow hnil hloc; have HOWN' := hide hown'; have HG := hide ((World.grownBy_alloc w2 _ _).trans hgrow); clear hown' hgrow hnil hloc)
        have HLT := hide (unhide HO2).lt
        refine ⟨⟨i + 1, cs ++ [.slice (some ⟨g, 0, none⟩) l.length c'], by omega, by go_num, unhide HOWN', ?_, (unhide HBE2).grown (unhide HG) (by omega) (fun q hq => ((unhide HLT) q hq).1)⟩, by simp [intOf]; omega⟩
        rw [unhide HTK]
        exact (unhide HS2).snoc (unhide HO2) (unhide HG) (unhide HROW) (unhide HRL)
      · have hie : i = e.args.len := by omega
        have HRG := hide (show Qk.RG wr u5 (x.2.map fun y => Qk.marks n y l) l.length by
          have := (unhide HSUB).rg (unhide HOW)
          rw [List.take_of_length_le (by have := unhide HLN; omega)] at this
          exact this)
        clear hie
        go_wp2_with fail
        obtain ⟨wo, hwo⟩ : ∃ wo, wo = wr := ⟨wr, rfl⟩
        subst hwo
        go_loopw [7, 8] (fun v iv wr => ∃ (t : Nat) (s : List Bool), t ≤ l.length ∧ iv = .int .i64 t ∧ s = (List.range t).map M ∧ s.length = t ∧ wr.ownsRow wo.heap.size 4 1 v s.length (s.map Value.bool) ∧ Below wo.heap.size wo wr) (fun _ iv _ => l.length - (intOf iv).toNat)
        case atStart => exact ⟨0, [], Nat.zero_le _, rfl, rfl, rfl, World.ownsRow_nil _ _ _ _, Below.refl _ _⟩
        case round =>
          obtain ⟨t, s, ht, rfl, hsM, hsl, how, hbe⟩ := hrel
          have hz9 := hbe.size
          have hlo : w.heap.size < wo.heap.size := by omega
          have d0 := (hbe.cell (p := ⟨w.heap.size, 0, none⟩) hlo).trans b0
          have d1 := (hbe.cell (p := ⟨w.heap.size, 1, none⟩) hlo).trans b1
          have d2 := (hbe.cell (p := ⟨w.heap.size, 2, none⟩) hlo).trans b2
          have HSM := hide hsM
          have hsl1 : s.length ≤ t := by omega
          have HSL := hide hsl
          have HOW9 := hide how
          have HBE9 := hide hbe
          clear hsM hsl how hbe b0 b1 b2
          by_cases hlt9 : t < l.length
          · have HRG9 := hide (show Qk.RG wr u5 (x.2.map fun y => Qk.marks n y l) l.length from (unhide HRG).below (unhide HBE9))
            have HR9 := hide (((unhide HR).later (unhide HBW) (Nat.le_refl _)).later (unhide HBE9) (Nat.le_refl _))
            go_wp2_with fail
            refine ((unhide HAT) u5 t _ (unhide HR9) (unhide HRG9) hlt9).mono ?_
            rintro r w2 ⟨rfl, hb2⟩
            have hz2 := hb2.size
            have HO2 := hide (Ix.ow_below (unhide HOW9) hb2)
            have HBE2 := hide ((unhide HBE9).trans (hb2.mono hz9))
            have HLT := hide (unhide HO2).lt
            have HNX := hide (show s ++ [M t] = (List.range (t + 1)).map M by rw [List.range_succ, List.map_append, ← unhide HSM]; rfl)
            clear hb2 d0 d1 d2
            have tok1 : True := trivial
            go_wp2_with (at_builtin; have _t := tok1; clear tok1 _t; refine wpList_append_own_at _ rfl _ _ 38 rfl wo.heap.size 4 j0 (.bool false) 1 1 Tryz.underlying38 (unhide HJ) (unhide HY0') (unhide HY1) (unhide HY2) rfl (by decide) _ _ _ rfl ((unhide HO2).alloc _) ⟨w2.heap.size, 0, none⟩ 1 1 [.bool (M t)] rfl rfl (cell_one_new _ _ _) (by simp [Value.oneCell']) (by unfold maxLen; omega) (by omega) (by simp; omega) ?_; intro v' w3 hown' hgrow hnil hloc; have HOWN' := hide hown'; have HG := hide ((World.grownBy_alloc w2 _ _).trans hgrow); clear hown' hgrow hnil hloc)
            refine ⟨⟨t + 1, s ++ [M t], by omega, by go_num, unhide HNX, by rw [List.length_append, unhide HSL]; rfl, by rw [List.length_append, List.map_append]; exact unhide HOWN', (unhide HBE2).grown (unhide HG) (by omega) (fun q hq => ((unhide HLT) q hq).1)⟩, by simp [intOf]; omega⟩
          · have hte : t = l.length := by omega
            have HSX := hide (show s = MX by rw [unhide HSM, hte, unhide HMX])
            have HFIN := hide (Qk.row_of (unhide HOW9) (by rw [unhide HSL]; omega))
            obtain ⟨g, c, rfl, hgb, hrow⟩ := unhide HFIN
            have hsl2 : s.length = l.length := by rw [unhide HSL, hte]
            have HBF := hide ((unhide HBW).trans ((unhide HBE9).mono (by omega)))
            have HRW := hide hrow
            have HL2 := hide hsl2
            clear hte hsl2 hrow HFIN
            go_wp2_with fail
            go_ret
            rw [unhide HL2]
            first
              | exact ⟨g, ⟨c, rfl⟩, by omega, by rw [← unhide HSX]; exact unhide HRW, unhide HML, unhide HBF⟩
              | exact ⟨g, c, rfl, by omega, by rw [← unhide HSX]; exact unhide HRW, unhide HML, unhide HBF⟩
end Go.Proofs.YtgibipidokkjbaaGreatDoor
