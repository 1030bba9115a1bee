/-
  The walk of LogOpens. By the verifier.
-/
import Derived.Test.YtpekejebimkleaaLOpensLem
import Derived.Deep.DeepCutAuto
namespace Go.Proofs.Ytpekejebimkleaa
open Go.RowKit
set_option linter.unusedVariables false

set_option maxRecDepth 100000 in
set_option maxHeartbeats 1600000 in
theorem lopens_err (n : Int) (ba : Option Addr) (bl bc : Nat) (aa : Option Addr) (al ac : Nat) (ka : Option Addr) (kl kc : Nat) (w : World) (h : n < 4 ∨ 600 < n) :
    Calls Try.prog 3 #[.int .i64 n, .slice ba bl bc, .slice aa al ac, .slice ka kl kc] w fun e w' => e = .returned (.bool true) ∧ Below w.heap.size w w' := by
  have HF := hide (fun W => Format_err n W h)
  rcases h with h | h
  · go_enter Try.func3, Try.ntmps3
    go_wp2_with fail
    refine (logBegun_any _).mono ?_
    rintro e w1 ⟨rfl, hb1⟩
    have HB1 := hide hb1
    clear hb1
    go_wp2_with fail
    refine (diskBegun_any _).mono ?_
    rintro e w2 ⟨rfl, hb2⟩
    have HB2 := hide ((unhide HB1).trans (hb2.mono (unhide HB1).size))
    clear hb2
    go_wp2_with fail
    refine ((unhide HF) _).mono ?_
    rintro e w3 ⟨rfl, hb3⟩
    have HB3 := hide ((unhide HB2).trans (hb3.mono (unhide HB2).size))
    clear hb3
    go_wp2_with fail
    go_ret
    exact ⟨rfl, (unhide HB3).alloc (unhide HB3).size _⟩
  · have h4 : ¬ n < 4 := by omega
    go_enter Try.func3, Try.ntmps3
    go_wp2_with fail
    refine (logBegun_any _).mono ?_
    rintro e w1 ⟨rfl, hb1⟩
    have HB1 := hide hb1
    clear hb1
    go_wp2_with fail
    refine (diskBegun_any _).mono ?_
    rintro e w2 ⟨rfl, hb2⟩
    have HB2 := hide ((unhide HB1).trans (hb2.mono (unhide HB1).size))
    clear hb2
    go_wp2_with fail
    refine ((unhide HF) _).mono ?_
    rintro e w3 ⟨rfl, hb3⟩
    have HB3 := hide ((unhide HB2).trans (hb3.mono (unhide HB2).size))
    clear hb3
    go_wp2_with fail
    go_ret
    exact ⟨rfl, (unhide HB3).alloc (unhide HB3).size _⟩

set_option maxRecDepth 100000 in
set_option maxHeartbeats 3200000 in
theorem lopens_ok (n : Nat) (bs : List (List Ev)) (ba : Option Addr) (bc : Nat) (zs : List Int) (aa : Option Addr) (ac : Nat) (ps : List Bool) (ka : Option Addr) (kc : Nat) (w : World) (h4 : 4 ≤ n) (h6 : n ≤ 600)
    (hb : Lg.RL w ba bs) (ha : ∀ i x, zs[i]? = some x → ∃ b o, aa = some ⟨b, o, none⟩ ∧ b < w.heap.size ∧ w.cell? ⟨b, o + i, none⟩ = some (.int .i64 x)) (hp : Dk.RB w ka ps) (hbl : bs.length ≤ 35184372088832) (hal : zs.length ≤ 35184372088832) :
    Calls Try.prog 3 #[.int .i64 n, .slice ba bs.length bc, .slice aa zs.length ac, .slice ka ps.length kc] w fun e w' => e = .returned (.bool true) ∧ Below w.heap.size w w' := by
  have HB := hide hb
  have HA := hide ha
  have HP := hide hp
  have g4 : ¬ (n : Int) < 4 := by omega
  have g6 : ¬ (n : Int) > 600 := by omega
  have gn : ((n : Int) != (n : Int)) = false := by simp
  clear hb ha hp
  go_enter Try.func3, Try.ntmps3
  go_wp2_with fail
  refine (logBegun_any _).mono ?_
  rintro e w1 ⟨rfl, hb1⟩
  have HB1 := hide hb1
  clear hb1
  go_wp2_with fail
  refine (diskBegun_any _).mono ?_
  rintro e w2 ⟨rfl, hb2⟩
  have HB2 := hide ((unhide HB1).trans (hb2.mono (unhide HB1).size))
  clear hb2
  go_wp2_with fail
  refine (Format_ok n _ h4 h6).mono ?_
  rintro e w3 ⟨g, c, rfl, hr3, hb3, hg3, hc3⟩
  have HB3 := hide ((unhide HB2).trans (hb3.mono (unhide HB2).size))
  have HR3 := hide hr3
  have HCK := hide (fun (W : World) (hb : Below w3.heap.size w3 W) => (show Calls Try.prog 11 #[.agg #[.slice (some ⟨g, 0, none⟩) n c, .slice none 0 0]] W fun e w' => e = .returned (.int .i64 0) ∧ Below W.heap.size W w' by
    have := CheckDisk_any (some ⟨g, 0, none⟩) (Lg.fmt n) c none [] 0 W (hr3.later hb (Nat.le_refl _)) (Dk.RW.nil _ _)
    rw [Lg.fmt_len n (by omega), Lg.fmt_img, Lg.img_chk (n := n) (fun s hs => by rw [List.eq_of_mem_replicate hs]; exact Dk.zeros_size 32) (by unfold Lg.used; simp; omega) h6] at this
    exact this))
  clear hb3 hr3
  go_wp2_with fail
  refine ((unhide HCK) _ ((Below.refl _ _).alloc (Nat.le_refl _) _)).mono ?_
  rintro e w4 ⟨rfl, hb4⟩
  have hB34 := below_two hb4
  have HB4 := hide ((unhide HB3).trans (hB34.mono (unhide HB3).size))
  have HVR := hide ((Lg.Vr.made w3 (.slice (some ⟨g, 0, none⟩) n c) (.slice none 0 0) 29).below hb4)
  have HR4 := hide ((unhide HR3).later hB34 (Nat.le_refl _))
  have hb9 := (unhide HB3).size
  have v0 := (unhide HVR).c0
  have v1 := (unhide HVR).c1
  clear hb4 hB34 HCK
  generalize hgb : w3.heap.size = b9 at *
  clear hgb
  go_wp2_with fail
  clear v0 v1
  go_loopw [11, 12, 13] (fun tv nd v wr => ∃ (k : Nat) (there : List (List Ev)) (free : List ByteArray) (svs : List Value) (g c : Nat) (z : Int), k ≤ bs.length ∧ k ≤ 40 ∧ v = .int .i64 k ∧ nd = .int .i64 z ∧ Lg.Rd w n b9 k there free svs g c tv z wr) (fun _ _ v _ => bs.length - (intOf v).toNat)
  case atStart =>
    refine ⟨0, [], List.replicate (n - 1) (Dk.zeros 32), [], g, c, 4, Nat.zero_le _, by omega, rfl, rfl, ⟨Nat.le_refl _, by simp, fun s hs => by rw [List.eq_of_mem_replicate hs]; exact Dk.zeros_size 32, by unfold Lg.used; simp; omega, by unfold Lg.used; simp, by simp, Lg.BE.nil _, World.ownsRow_nil _ _ _ _, ⟨none, 0, rfl⟩, unhide HVR, ?_, hc3, hb9, unhide HB4⟩⟩
    exact unhide HR4
  case round =>
    obtain ⟨k, there, free, svs, g', c', z, hk, hk4, rfl, rfl, hrd⟩ := hrel
    have HRD := hide hrd
    clear hrd
    by_cases hlt : k < bs.length
    · by_cases hlt4 : k < 40
      · obtain ⟨l, hl⟩ : ∃ t, bs[k]? = some t := ⟨bs[k], List.getElem?_eq_getElem hlt⟩
        obtain ⟨bb, bo, la, lc, rfl, hbb, c0, hre⟩ := (unhide HB).at_ k l hl
        have d0 := ((unhide HRD).bel.cell (p := ⟨bb, bo + k, none⟩) hbb).trans c0
        have HRE := hide hre
        have HL := hide hl
        clear hre hl c0
        have hk1 : (0 : Int) ≤ (k : Int) := by omega
        have hk2 : (k : Int) < (bs.length : Int) := by omega
        have hk3 : (k : Int) < 40 := by omega
        by_cases hl6 : l.length ≤ 60
        · have hl6' : ¬ (l.length : Int) > 60 := by omega
          go_wp2_with fail
          refine (AreSmall_any l la lc _ ((unhide HRE).later (unhide HRD).bel (Nat.le_refl _)) (by omega)).mono ?_
          rintro e w5 ⟨rfl, hb5⟩
          have HB5 := hide hb5
          clear hb5 d0
          cases hok : l.all Ev.ok
          · clear hok
            go_wp2_with fail
            exact ⟨⟨k + 1, there, free, svs, g', c', z, by omega, by omega, by go_num, rfl, (unhide HRD).next (unhide HB5)⟩, by simp [intOf]; omega⟩
          · have HG := hide (show Lg.Good l from ⟨hok, hl6⟩)
            clear hok
            have v0 := ((unhide HRD).var.below (unhide HB5)).c0
            have v1 := ((unhide HRD).var.below (unhide HB5)).c1
            by_cases hroom : l.length + 1 ≤ free.length
            · have hLb : Below w.heap.size w w5 := (unhide HRD).bel.trans ((unhide HB5).mono (unhide HRD).bel.size)
              go_wp2_with fail
              refine (lappend_ok (unhide HRD) (by omega) h6 l (unhide HG) la lc hroom _ (unhide HB5) ((unhide HRE).later hLb (Nat.le_refl _))).mono ?_
              rintro e w6 ⟨g0, c0, gw, cw, rfl, hx6, hc6, hd6, hb6⟩
              have hb6a := hb6.trans ((Below.refl w6.heap.size w6).alloc (Nat.le_refl _) (Obj.cells #[.slice (some ⟨g0, 0, none⟩) n c0, .slice none 0 0] 29) |>.mono hb6.size)
              have hA := (Below.refl w6.heap.size w6).alloc (Nat.le_refl _) (Obj.cells #[.slice (some ⟨g0, 0, none⟩) n c0, .slice none 0 0] 29)
              have HB6 := hide ((unhide HB5).trans (hb6a.mono (unhide HB5).size))
              have HX6 := hide (hx6.later hA (Nat.le_refl _))
              have HD6 := hide (hd6.later hA (Nat.le_refl _))
              have v60 := ((unhide HRD).var.below (unhide HB6)).c0
              have v61 := ((unhide HRD).var.below (unhide HB6)).c1
              have x60 := (Lg.Vr.made w6 (.slice (some ⟨g0, 0, none⟩) n c0) (.slice none 0 0) 29).c0
              have x61 := (Lg.Vr.made w6 (.slice (some ⟨g0, 0, none⟩) n c0) (.slice none 0 0) 29).c1
              clear hx6 hd6 hb6 hb6a hA v0 v1
              go_wp2_with fail
              refine (lwayIs_ok (unhide HRD) h6 l (unhide HG) hroom g0 c0 gw cw _ (unhide HB6) (unhide HX6) hc6 (unhide HD6)).mono ?_
              rintro e w7 ⟨rfl, hb7⟩
              have HB7 := hide ((unhide HB6).trans (hb7.mono (unhide HB6).size))
              have HD7 := hide ((unhide HD6).later hb7 (Nat.le_refl _))
              have HL7 := hide ((unhide HRD).bel.trans ((unhide HB7).mono (unhide HRD).bel.size))
              clear hb7 v60 v61 x60 x61 HX6 HD6 HB6 hc6 hLb HB5
              go_upto_region 21 with fail
              go_cut [146] (fun v wx => v = .bool (Lg.selB zs k (l.length + 4)) ∧ wx = w7)
              case first =>
                cases hz : zs[k]? with
                | none =>
                  have hz1 : ¬ (k : Int) < (zs.length : Int) := by have := List.getElem?_eq_none_iff.1 hz; omega
                  have HZ := hide (show Lg.selB zs k (l.length + 4) = false by unfold Lg.selB; rw [hz])
                  clear hz
                  go_wp2_with fail
                  go_meet
                  case rel => exact ⟨by rw [unhide HZ], rfl⟩
                | some x =>
                  have hz1 : (k : Int) < (zs.length : Int) := by have := (List.getElem?_eq_some_iff.1 hz).1; omega
                  have HZ := hide (show Lg.selB zs k (l.length + 4) = (decide (0 ≤ x) && decide (x < ((l.length + 4 : Nat) : Int))) by unfold Lg.selB; rw [hz])
                  obtain ⟨ab, ao, rfl, hab, cx⟩ := (unhide HA) k x hz
                  have cx7 := ((unhide HL7).cell (p := ⟨ab, ao + k, none⟩) hab).trans cx
                  clear hz cx
                  by_cases hx0 : 0 ≤ x
                  · by_cases hx1 : x < (l.length : Int) + 4
                    · go_wp2_with fail
                      go_meet
                      case rel => exact ⟨by rw [unhide HZ]; simp; omega, rfl⟩
                    · go_wp2_with fail
                      go_meet
                      case rel => exact ⟨by rw [unhide HZ]; simp; omega, rfl⟩
                  · go_wp2_with fail
                    go_meet
                    case rel => exact ⟨by rw [unhide HZ]; simp; omega, rfl⟩
              case rest =>
                obtain ⟨rfl, rfl⟩ := hcut
                go_upto_if 146 with fail
                go_cut [18] (fun v wx => ∃ j : Nat, v = .int .i64 j ∧ j < l.length + 4 ∧ wx = wc)
                case first =>
                  cases hsel : Lg.selB zs k (l.length + 4)
                  · clear hsel
                    go_wp2_with fail
                    go_meet
                    case rel => exact ⟨l.length + 3, congrArg (Value.int .i64) (by omega), by omega, rfl⟩
                  · obtain ⟨x, hz, hx0, hx1⟩ : ∃ x, zs[k]? = some x ∧ 0 ≤ x ∧ x < ((l.length + 4 : Nat) : Int) := by
                      unfold Lg.selB at hsel
                      split at hsel
                      · rename_i x hx
                        simp only [Bool.and_eq_true, decide_eq_true_eq] at hsel
                        exact ⟨x, hx, hsel.1, hsel.2⟩
                      · cases hsel
                    have hz1 : (k : Int) < (zs.length : Int) := by have := (List.getElem?_eq_some_iff.1 hz).1; omega
                    obtain ⟨ab, ao, rfl, hab, cx⟩ := (unhide HA) k x hz
                    have cx7 := ((unhide HL7).cell (p := ⟨ab, ao + k, none⟩) hab).trans cx
                    clear hz cx hsel
                    go_wp2_with fail
                    go_meet
                    case rel => exact ⟨x.toNat, congrArg (Value.int .i64) (by omega), by omega, rfl⟩
                case rest =>
                  obtain ⟨j, rfl, hj, rfl⟩ := hcut
                  have hwl := Lg.way_len (Lg.img there free) (Lg.used there) (Lg.laid l) (Lg.hd (there.length + 1))
                  rw [Lg.laid_len] at hwl
                  obtain ⟨d, hd⟩ : ∃ d, (Lg.way (Lg.img there free) (Lg.used there) (Lg.laid l) (Lg.hd (there.length + 1)))[j]? = some d := ⟨_, List.getElem?_eq_getElem (by omega)⟩
                  obtain ⟨gb, ob, B0, B1, he, hgb, e0, e1, hdr⟩ := (unhide HD7).at_ j d hd
                  cases he
                  rw [Nat.zero_add] at e0 e1
                  have HCR := hide (lcrash_ok (unhide HRD) h6 l (unhide HG) hroom j d hd B0 B1 ps ka kc _ hdr ((unhide HP).later (unhide HL7) (Nat.le_refl _)))
                  have hj1 : (0 : Int) ≤ (j : Int) := by omega
                  have hj2 : (j : Int) < (l.length : Int) + 4 := by omega
                  clear hd hdr hwl HD7
                  go_wp2_with fail
                  refine (unhide HCR).mono ?_
                  rintro e w8 ⟨gy, cy, f, rfl, hgy, hcy, hf32, hcase, hb8⟩
                  have hA8 := (Below.refl w8.heap.size w8).alloc (Nat.le_refl _) (Obj.cells #[.slice (some ⟨gy, 0, none⟩) n cy, .slice none 0 0] 29)
                  have HB8 := hide (((unhide HB7).trans (hb8.mono (unhide HB7).size)).trans (hA8.mono ((unhide HB7).trans (hb8.mono (unhide HB7).size)).size))
                  have HVY := hide (Lg.Vr.made w8 (.slice (some ⟨gy, 0, none⟩) n cy) (.slice none 0 0) 29)
                  have y80 := (unhide HVY).c0
                  have y81 := (unhide HVY).c1
                  have h9y : b9 < gy := Nat.lt_of_lt_of_le ((unhide HRD).var.below (unhide HB7)).lt hgy
                  obtain ⟨ta, tc, htv⟩ := (unhide HRD).tva
                  subst htv
                  have him := (unhide HRD).img
                  have hnd := (unhide HRD).need
                  have hndm := (unhide HRD).needM
                  have hthl := (unhide HRD).len
                  clear hb8 e0 e1 HCR hgy
                  rcases hcase with ⟨hr8, hfl, hj3⟩ | ⟨hr8, hfl⟩
                  · have HGD := hide (unhide HRD).good
                    have HUS := hide (show Lg.used there + f.length = n by omega)
                    have gj : ((j : Int) == (l.length : Int) + 4 - 1) = false := by simp; omega
                    go_wp2_with fail
                    have HRK8 := hide (hr8.later hA8 (Nat.le_refl _))
                    clear hr8 hA8
                    refine (lopen_ok n h6 there f ?_ there.length rfl (by have := (unhide HRD).len; omega) hf32 ?_ gy cy hcy _ (unhide HRK8)).mono ?_
                    · exact unhide HGD
                    · exact unhide HUS
                    rintro e w9 ⟨oa, oc, rfl, hrl9, hb9'⟩
                    have HB9 := hide ((unhide HB8).trans (hb9'.mono (unhide HB8).size))
                    have HVY9 := hide ((unhide HVY).below hb9')
                    have HRK9 := hide ((unhide HRK8).later hb9' (Nat.le_refl _))
                    obtain ⟨v1, w10, q2, c2, w11, r1, r2, orow, hbw⟩ := lwhole (unhide HRD) hk4 l la lc (unhide HRE) 22 22 w9 (unhide HB9)
                    have HR1 := hide r1
                    have HR2 := hide r2
                    have HOR := hide orow
                    have HRL := hide (hrl9.later hbw (Nat.le_refl _))
                    have HB11 := hide ((unhide HB9).trans (hbw.mono (unhide HB9).size))
                    have HVY11 := hide ((unhide HVY9).below hbw)
                    have HRK11 := hide ((unhide HRK9).later hbw (Nat.le_refl _))
                    have tok1 : True := trivial
                    have tok2 : True := trivial
                    clear r1 r2 orow hrl9 hb9' hbw y80 y81 HVY HRK8 HB8 HVY9 HRK9
                    go_wp2_with (first
                      | (at_builtin; have _t := tok1; refine Lg.wp_append_run rfl _ _ 22 rfl _ _ _ rfl rfl (unhide HR1) ?_; clear tok1 _t)
                      | (at_builtin; have _t := tok2; refine Lg.wp_append_run rfl _ _ 22 rfl _ _ _ rfl rfl (unhide HR2) ?_; clear tok2 _t))
                    refine (SameBatches_no oa (some ⟨q2, 0, none⟩) there.length (there.length + 1) oc c2 _ (by omega) (by omega) (by omega)).mono ?_
                    rintro e w12 ⟨rfl, rfl⟩
                    have HLW := hide ((unhide HRD).bel.trans ((unhide HB11).mono (unhide HRD).bel.size))
                    go_wp2_with fail
                    refine (lsame_eq there there.length rfl (by omega) (unhide HGD) oa ta oc tc _ (unhide HRL) ((unhide HRD).be.rl (unhide HLW) (Cl.ow_below (unhide HRD).row (unhide HB11)))).mono ?_
                    rintro e w13 ⟨rfl, hb13⟩
                    have HB13 := hide ((unhide HB11).trans (hb13.mono (unhide HB11).size))
                    have HVY13 := hide ((unhide HVY11).below hb13)
                    have HRK13 := hide ((unhide HRK11).later hb13 (Nat.le_refl _))
                    have HOR13 := hide (Cl.ow_below (unhide HOR) hb13)
                    have HV13 := hide ((unhide HRD).var.below (unhide HB13))
                    have y0 := (unhide HVY13).c0
                    have y1 := (unhide HVY13).c1
                    have d0 := (unhide HV13).c0
                    have d1 := (unhide HV13).c1
                    have f0 := (unhide HV13).f0
                    have f1 := (unhide HV13).f1
                    clear hb13 HB11 HVY11 HRK11 HRL HOR
                    go_wp2_with fail
                    exact ⟨⟨k + 1, there, f, svs, gy, cy, z, by omega, by omega, by go_num, rfl, (unhide HRD).turn (unhide HB13) (by omega) (unhide HGD) hf32 (unhide HUS) hnd (by omega) (unhide HRD).be (Cl.ow_below (unhide HRD).row (unhide HB13)) ⟨ta, tc, rfl⟩ (unhide HRK13) hcy h9y⟩, by simp [intOf]; omega⟩
                  · have HGD := hide (show ∀ x ∈ there ++ [l], Lg.Good x from fun x hx => by
                      rcases List.mem_append.1 hx with hx | hx
                      · exact (unhide HRD).good x hx
                      · simp at hx
                        subst hx
                        exact unhide HG)
                    have HUS := hide (show Lg.used (there ++ [l]) + f.length = n by rw [Lg.used_snoc]; omega)
                    go_wp2_with fail
                    have HRK8 := hide (hr8.later hA8 (Nat.le_refl _))
                    clear hr8 hA8
                    refine (lopen_ok n h6 (there ++ [l]) f ?_ (there.length + 1) (by simp) (by have := (unhide HRD).len; omega) hf32 ?_ gy cy hcy _ (unhide HRK8)).mono ?_
                    · exact unhide HGD
                    · exact unhide HUS
                    rintro e w9 ⟨oa, oc, rfl, hrl9, hb9'⟩
                    have HB9 := hide ((unhide HB8).trans (hb9'.mono (unhide HB8).size))
                    have HVY9 := hide ((unhide HVY).below hb9')
                    have HRK9 := hide ((unhide HRK8).later hb9' (Nat.le_refl _))
                    obtain ⟨v1, w10, q2, c2, w11, r1, r2, orow, hbw⟩ := lwhole (unhide HRD) hk4 l la lc (unhide HRE) 22 22 w9 (unhide HB9)
                    have HR1 := hide r1
                    have HR2 := hide r2
                    have HOR := hide orow
                    have HRL := hide (hrl9.later hbw (Nat.le_refl _))
                    have HB11 := hide ((unhide HB9).trans (hbw.mono (unhide HB9).size))
                    have HVY11 := hide ((unhide HVY9).below hbw)
                    have HRK11 := hide ((unhide HRK9).later hbw (Nat.le_refl _))
                    have tok1 : True := trivial
                    have tok2 : True := trivial
                    clear r1 r2 orow hrl9 hb9' hbw y80 y81 HVY HRK8 HB8 HVY9 HRK9
                    go_wp2_with (first
                      | (at_builtin; have _t := tok1; refine Lg.wp_append_run rfl _ _ 22 rfl _ _ _ rfl rfl (unhide HR1) ?_; clear tok1 _t)
                      | (at_builtin; have _t := tok2; refine Lg.wp_append_run rfl _ _ 22 rfl _ _ _ rfl rfl (unhide HR2) ?_; clear tok2 _t))
                    have HLW := hide ((unhide HRD).bel.trans ((unhide HB11).mono (unhide HRD).bel.size))
                    have HBE2 := hide ((unhide HRD).be.snoc la l lc (unhide HRE))
                    refine (lsame_eq (there ++ [l]) (there.length + 1) (by simp) (by omega) (unhide HGD) oa (some ⟨q2, 0, none⟩) oc c2 _ (unhide HRL) ((unhide HBE2).rl (unhide HLW) (unhide HOR))).mono ?_
                    rintro e w13 ⟨rfl, hb13⟩
                    have HB13 := hide ((unhide HB11).trans (hb13.mono (unhide HB11).size))
                    have HVY13 := hide ((unhide HVY11).below hb13)
                    have HRK13 := hide ((unhide HRK11).later hb13 (Nat.le_refl _))
                    have HOR13 := hide (Cl.ow_below (unhide HOR) hb13)
                    have HV13 := hide ((unhide HRD).var.below (unhide HB13))
                    have y0 := (unhide HVY13).c0
                    have y1 := (unhide HVY13).c1
                    have d0 := (unhide HV13).c0
                    have d1 := (unhide HV13).c1
                    have f0 := (unhide HV13).f0
                    have f1 := (unhide HV13).f1
                    clear hb13 HB11 HVY11 HRK11 HRL HOR
                    go_wp2_with fail
                    exact ⟨⟨k + 1, there ++ [l], f, svs ++ [.slice la l.length lc], gy, cy, z + (2 + (l.length : Int)), by omega, by omega, by go_num, rfl, (unhide HRD).turn (unhide HB13) (by simp; omega) (unhide HGD) hf32 (unhide HUS) (by rw [Lg.used_snoc]; omega) (by omega) (unhide HBE2) (by rw [List.length_append]; exact unhide HOR13) ⟨some ⟨q2, 0, none⟩, c2, by simp⟩ (unhide HRK13) hcy h9y⟩, by simp [intOf]; omega⟩
            · have hnd := (unhide HRD).need
              have him := (unhide HRD).img
              have hndm := (unhide HRD).needM
              have hspace : z + 2 + (l.length : Int) > (n : Int) := by omega
              go_wp2_with fail
              refine (lappend_no (unhide HRD) (by omega) h6 l (unhide HG) la lc (by omega) _ (unhide HB5) ((unhide HRE).later ((unhide HRD).bel.trans ((unhide HB5).mono (unhide HRD).bel.size)) (Nat.le_refl _))).mono ?_
              rintro e w6 ⟨rfl, hb6⟩
              have HB6 := hide ((unhide HB5).trans (hb6.mono (unhide HB5).size))
              clear hb6 v0 v1
              go_wp2_with fail
              go_ret
              have hbb := (unhide HRD).bel.trans ((unhide HB6).mono (unhide HRD).bel.size)
              exact ⟨rfl, hbb.alloc hbb.size _⟩
        · have hl6' : (l.length : Int) > 60 := by omega
          go_wp2_with fail
          exact ⟨⟨k + 1, there, free, svs, g', c', z, by omega, by omega, by go_num, rfl, (unhide HRD).next (Below.refl _ _)⟩, by simp [intOf]; omega⟩
      · have hk3 : ¬ (k : Int) < 40 := by omega
        have hk2 : (k : Int) < (bs.length : Int) := by omega
        go_wp2_with fail
        go_ret
        exact ⟨rfl, (unhide HRD).bel⟩
    · have hk2 : ¬ (k : Int) < (bs.length : Int) := by omega
      go_wp2_with fail
      go_ret
      exact ⟨rfl, (unhide HRD).bel⟩
end Go.Proofs.Ytpekejebimkleaa
