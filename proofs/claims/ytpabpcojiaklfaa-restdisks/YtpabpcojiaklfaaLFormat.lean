/-
  The contract of log's Format. By the verifier.
-/
import Derived.Test.YtpabpcojiaklfaaLLaid
import Derived.Test.YtpabpcojiaklfaaDBox
import Derived.Deep.RegionWith
namespace Go.Proofs.Ytpabpcojiaklfaa
open Go.RowKit
set_option linter.unusedVariables false

/-- A disk with no batches. -/
def Lg.fmt (n : Nat) : List ByteArray := Lg.sc Lg.headM ⟨0, 0, 0, 0, 0, 0⟩ :: List.replicate (n - 1) (Dk.zeros 32)
theorem Lg.fmt_len (n : Nat) (h : 1 ≤ n) : (Lg.fmt n).length = n := by unfold Lg.fmt; simp; omega

theorem Lg.fz_below {W W' : World} {b : Nat} (h : W.frozen? ⟨b, 0, none⟩ = false ∧ W.frozen? ⟨b, 1, none⟩ = false) (hb : Below W.heap.size W W') (hl : b < W.heap.size) : W'.frozen? ⟨b, 0, none⟩ = false ∧ W'.frozen? ⟨b, 1, none⟩ = false :=
  ⟨(hb.frozen (p := ⟨b, 0, none⟩) hl).trans h.1, (hb.frozen (p := ⟨b, 1, none⟩) hl).trans h.2⟩
theorem Lg.bb {w1 W W' : World} (h : Below w1.heap.size w1 W) (hb : Below W.heap.size W W') : Below w1.heap.size w1 W' := h.trans (hb.mono h.size)
theorem Lg.bs {w1 W : World} (h : Below w1.heap.size w1 W) (u v : Value) : Below w1.heap.size w1 ((W.setCell ⟨w1.heap.size, 0, none⟩ u).setCell ⟨w1.heap.size, 1, none⟩ v) := (h.setCell (Nat.le_refl _) _).setCell (Nat.le_refl _) _
theorem Dk.D6.keep {b : Nat} {w1 W : World} (h : Dk.D6 b w1) (hb : Below w1.heap.size w1 W) : Dk.D6 b W := h.below hb
theorem Lg.fmt_wr (n : Nat) (h4 : 4 ≤ n) (h6 : n ≤ 600) : Dk.wrE (List.replicate n (Dk.zeros 32)) [] 0 (Lg.sc Lg.headM ⟨0, 0, 0, 0, 0, 0⟩) = 0 := by
  have e1 : Dk.chk (List.replicate n (Dk.zeros 32)) [] = 0 := by
    unfold Dk.chk
    rw [if_pos (by simp; omega), if_pos (by simp [Dk.is32, Dk.zeros_size])]
    rfl
  have e2 : Dk.chkW (List.replicate n (Dk.zeros 32)).length (0, Lg.sc Lg.headM ⟨0, 0, 0, 0, 0, 0⟩) = 0 := by
    unfold Dk.chkW
    rw [if_pos (by simp [Dk.inn]; omega), if_pos (by simp [Dk.is32]; exact Lg.sc_size _ _ rfl)]
  unfold Dk.wrE
  rw [if_pos e1, if_pos e2]
  rfl

theorem Lg.fmt_chk (n : Nat) (h4 : 4 ≤ n) (h6 : n ≤ 600) : Dk.chk (List.replicate n (Dk.zeros 32)) [(0, Lg.sc Lg.headM ⟨0, 0, 0, 0, 0, 0⟩)] = 0 := by
  unfold Dk.chk
  rw [if_pos (by simp; omega), if_pos (by simp [Dk.is32, Dk.zeros_size])]
  rw [if_neg (by simp)]
  have e2 : Dk.chkW (List.replicate n (Dk.zeros 32)).length (0, Lg.sc Lg.headM ⟨0, 0, 0, 0, 0, 0⟩) = 0 := by
    unfold Dk.chkW
    rw [if_pos (by simp [Dk.inn]; omega), if_pos (by simp [Dk.is32]; exact Lg.sc_size _ _ rfl)]
  unfold Dk.chkWs
  rw [e2]
  rfl
theorem Lg.fmt_kept (n : Nat) (h4 : 4 ≤ n) : Dk.keptTo (fun _ => true) (List.replicate n (Dk.zeros 32)) [(0, Lg.sc Lg.headM ⟨0, 0, 0, 0, 0, 0⟩)] [((0 : Int), Lg.sc Lg.headM ⟨0, 0, 0, 0, 0, 0⟩)].length = Lg.fmt n := by
  show Dk.keptTo (fun _ => true) (List.replicate n (Dk.zeros 32)) [(0, Lg.sc Lg.headM ⟨0, 0, 0, 0, 0, 0⟩)] (0 + 1) = _
  rw [Dk.keptTo_step _ _ _ 0 (0, Lg.sc Lg.headM ⟨0, 0, 0, 0, 0, 0⟩) rfl, if_pos rfl]
  obtain ⟨m, rfl⟩ : ∃ m, n = m + 1 := ⟨n - 1, by omega⟩
  rfl

set_option maxHeartbeats 800000 in
theorem Format_err (n : Int) (w : World) (h : n < 4 ∨ 600 < n) :
    Calls Try.prog 10 #[.int .i64 n] w fun e w' => e = .returned (.tuple #[.agg #[.slice none 0 0, .slice none 0 0], .int .i64 3]) ∧ Below w.heap.size w w' := by
  by_cases h4 : n < 4
  · clear h
    go_enter Try.func10, Try.ntmps10
    go_wp2_with fail
    exact bodyPost_ret (v := .tuple #[.agg #[.slice none 0 0, .slice none 0 0], .int .i64 3]) (by simp [results, Try.results10, go_sem]) rfl ⟨rfl, (Below.refl _ _).alloc (Nat.le_refl _) _⟩
  · have h6 : 600 < n := by omega
    have HC := hide (show Dk.cnt n = false by simp [Dk.cnt]; omega)
    clear h
    go_enter Try.func10, Try.ntmps10
    go_wp2_with fail
    refine (New_err n _ (unhide HC)).mono ?_
    rintro e w1 ⟨rfl, hb⟩
    have d6 : Dk.D6 w.heap.size w1 := Dk.D6.below (b6 := w.heap.size) (W := w.alloc (Obj.cells #[.slice none 0 0, .slice none 0 0] 29)) ⟨by go_simp, by go_simp, by go_simp, by go_simp⟩ hb
    have d7 := d6.alloc (Obj.cells #[.slice none 0 0, .slice none 0 0] 29)
    have x0 := d7.c0
    have x1 := d7.c1
    have x2 := d7.f0
    have x3 := d7.f1
    have HB := hide (below_two hb)
    have hz := (below_two hb).size
    have hz1 := hb.size
    simp at hz1
    clear hb d6 d7
    go_wp2_with fail
    exact bodyPost_ret (v := .tuple #[.agg #[.slice none 0 0, .slice none 0 0], .int .i64 3]) (by simp [results, Try.results10, go_sem, x0, x1]) rfl ⟨rfl, (((unhide HB).alloc hz _).setCell (by simp; try omega) _).setCell (by simp; try omega) _⟩

set_option maxRecDepth 100000 in
set_option maxHeartbeats 800000 in
theorem Format_ok (n : Nat) (w : World) (h4 : 4 ≤ n) (h6 : n ≤ 600) :
    Calls Try.prog 10 #[.int .i64 n] w fun e w' => ∃ g cap', e = .returned (.tuple #[.agg #[.slice (some ⟨g, 0, none⟩) n cap', .slice none 0 0], .int .i64 0]) ∧ Dk.RK w' (some ⟨g, 0, none⟩) (Lg.fmt n) ∧ Below w.heap.size w w' ∧ w.heap.size ≤ g ∧ n ≤ cap' := by
  have g4 : ¬ (n : Int) < 4 := by omega
  obtain ⟨s0, hs0⟩ : ∃ s0, Lg.sc Lg.headM ⟨0, 0, 0, 0, 0, 0⟩ = s0 := ⟨_, rfl⟩
  have HH := hide (show ∀ W : World, Calls Try.prog 36 #[.int .i64 0] W fun r w' => r = .returned (.string s0) ∧ Below W.heap.size W w' from fun W => by rw [← hs0]; exact head_any 0 W)
  have HSZ := hide (show s0.size ≤ maxLen by rw [← hs0, Lg.sc_size _ _ rfl]; unfold maxLen; omega)
  have HF := hide (show Lg.fmt n = s0 :: List.replicate (n - 1) (Dk.zeros 32) by rw [← hs0]; rfl)
  obtain ⟨ks, hks⟩ : ∃ ks, List.replicate n (Dk.zeros 32) = ks := ⟨_, rfl⟩
  have hkl : ks.length = n := by rw [← hks]; simp
  have HNW := hide (show ∀ W : World, Calls Try.prog 31 #[.int .i64 n] W fun e w' => ∃ g, e = .returned (.tuple #[.agg #[.slice (some ⟨g, 0, none⟩) n n, .slice none 0 0], .int .i64 0]) ∧ Dk.RK w' (some ⟨g, 0, none⟩) ks ∧ Below W.heap.size W w' from fun W => by rw [← hks]; exact New_ok n W (by omega) h6)
  have HWC := hide (show ∀ (g : Nat) (W : World), Dk.RK W (some ⟨g, 0, none⟩) ks → Calls Try.prog 32 #[.agg #[.slice (some ⟨g, 0, none⟩) n n, .slice none 0 0], .int .i64 0, .string s0] W fun e w' => ∃ gk ck gw cw, e = .returned (.tuple #[.agg #[.slice (some ⟨gk, 0, none⟩) n ck, .slice (some ⟨gw, 0, none⟩) 1 cw], .int .i64 0]) ∧ Dk.RK w' (some ⟨gk, 0, none⟩) ks ∧ Dk.RW w' (some ⟨gw, 0, none⟩) [(0, s0)] ∧ Below W.heap.size W w' ∧ W.heap.size ≤ gk ∧ W.heap.size ≤ gw from fun g W hr => by
    have h := Write_own (some ⟨g, 0, none⟩) ks n none [] 0 0 s0 W hr (Dk.RW.nil _ _) (by rw [← hks, ← hs0]; exact Lg.fmt_wr n h4 h6) (unhide HSZ)
    rw [hkl] at h
    exact h.mono fun e w' ⟨gk, ck, gw, cw, h1, h2, h3, h4, h5, h6, _⟩ => ⟨gk, ck, gw, cw, h1, h2, h3, h4, h5, h6⟩)
  have HFL := hide (show ∀ (gk ck gw cw : Nat) (W : World), Dk.RK W (some ⟨gk, 0, none⟩) ks → Dk.RW W (some ⟨gw, 0, none⟩) [(0, s0)] → Calls Try.prog 26 #[.agg #[.slice (some ⟨gk, 0, none⟩) n ck, .slice (some ⟨gw, 0, none⟩) 1 cw]] W fun e w' => ∃ g c, e = .returned (.tuple #[.agg #[.slice (some ⟨g, 0, none⟩) n c, .slice none 0 0], .int .i64 0]) ∧ Dk.RK w' (some ⟨g, 0, none⟩) (Lg.fmt n) ∧ Below W.heap.size W w' ∧ W.heap.size ≤ g ∧ n ≤ c from fun gk ck gw cw W h1 h2 => by
    have h := Flush_own (some ⟨gk, 0, none⟩) ks ck (some ⟨gw, 0, none⟩) [(0, s0)] cw W h1 h2 (by rw [← hks, ← hs0]; exact Lg.fmt_chk n h4 h6)
    rw [hkl, ← hks, ← hs0, Lg.fmt_kept n h4] at h
    exact h)
  clear hs0 hks
  go_enter Try.func10, Try.ntmps10
  go_wp2_with fail
  refine ((unhide HNW) _).mono ?_
  rintro e w1 ⟨g, rfl, hrk, hb⟩
  have d6 : Dk.D6 w.heap.size w1 := Dk.D6.below (b6 := w.heap.size) (W := w.alloc (Obj.cells #[.slice none 0 0, .slice none 0 0] 29)) ⟨by go_simp, by go_simp, by go_simp, by go_simp⟩ hb
  have HD6 := hide d6
  have HRK := hide hrk
  have HB := hide (below_two hb)
  have hz := (below_two hb).size
  have hz1 := hb.size
  simp at hz1
  have hw1 : w.heap.size < w1.heap.size := by omega
  clear hb d6 hrk
  go_wp2_with fail
  have HBS := hide (show Dk.BS w1 (.slice (some ⟨g, 0, none⟩) n n) (.slice none 0 0) (w1.alloc (Obj.cells #[.slice (some ⟨g, 0, none⟩) n n, .slice none 0 0] 29)) from ⟨by go_simp, by go_simp, (Below.refl _ _).alloc (Nat.le_refl _) _⟩)
  have HFZ := hide (show (w1.alloc (Obj.cells #[.slice (some ⟨g, 0, none⟩) n n, .slice none 0 0] 29)).drew.frozen? ⟨w1.heap.size, 0, none⟩ = false ∧ (w1.alloc (Obj.cells #[.slice (some ⟨g, 0, none⟩) n n, .slice none 0 0] 29)).drew.frozen? ⟨w1.heap.size, 1, none⟩ = false from ⟨by go_simp, by go_simp⟩)
  go_cut [4] (fun xv wc => ∃ (gk ck gw cw : Nat), xv = .pointer (some ⟨w1.heap.size, 0, none⟩) ∧ Dk.BS w1 (.slice (some ⟨gk, 0, none⟩) n ck) (.slice (some ⟨gw, 0, none⟩) 1 cw) wc ∧ Dk.RK wc (some ⟨gk, 0, none⟩) ks ∧ Dk.RW wc (some ⟨gw, 0, none⟩) [(0, s0)])
  case first =>
    replace HBS := hide (Dk.BS.drew (unhide HBS))
    go_region_with
      (first
        | (go_at_call 36; refine ((unhide HH) _).mono ?_; rintro e w2 ⟨rfl, hb2⟩; have HB2 := hide hb2; replace HFZ := hide (Lg.fz_below (unhide HFZ) hb2 (Dk.BS.lt (unhide HBS))); replace HBS := hide (Dk.BS.below (unhide HBS) hb2); have x0 := (unhide HBS).1; have x1 := (unhide HBS).2.1; clear hb2)
        | (go_at_call 32; refine ((unhide HWC) g _ ?_).mono ?_; exact (unhide HRK).later (unhide HBS).2.2 (Nat.le_refl _); rintro e w3 ⟨gk, ck, gw, cw, rfl, hrk3, hrw3, hb3, hgk, hgw⟩; have HB3 := hide hb3; have HRK3 := hide hrk3; have HRW3 := hide hrw3; replace HFZ := hide (Lg.fz_below (unhide HFZ) hb3 (Dk.BS.lt (unhide HBS))); have hgb := Dk.BS.lt (unhide HBS); replace HBS := hide (Dk.BS.below (unhide HBS) hb3); have y0 := (unhide HBS).1; have y1 := (unhide HBS).2.1; have y2 := (unhide HFZ).1; have y3 := (unhide HFZ).2; clear hb3 hrk3 hrw3))
    all_goals
      go_wp2_with fail
      go_meet
      case rel =>
        refine ⟨gk, ck, gw, cw, rfl, ⟨?_, ?_, Lg.bs (unhide HBS).2.2 _ _⟩, Dk.RK.set2 (unhide HRK3) (fun q o e => by cases e; omega) _ _, Dk.RW.set2 (unhide HRW3) (fun q o e => by cases e; omega) _ _⟩
        · rw [World.cell?_setCell_other _ _ _ _ (by intro hh; have := congrArg Addr.off hh; simp at this)]
          exact World.cell?_setCell_same _ _ _ y0
        · exact World.cell?_setCell_same _ _ _ (u := .slice none 0 0) (by rw [World.cell?_setCell_other _ _ _ _ (by intro hh; have := congrArg Addr.off hh; simp at this)]; exact y1)
  case rest =>
    obtain ⟨gk, ck, gw, cw, rfl, hbs, hrk, hrw⟩ := hcut
    have hlt := Dk.BS.lt hbs
    have x0 := hbs.1
    have x1 := hbs.2.1
    have hd6 := Dk.D6.keep (unhide HD6) hbs.2.2
    have HRK2 := hide hrk
    have HRW2 := hide hrw
    have HBC := hide ((unhide HB).trans (hbs.2.2.mono hz))
    have HDC := hide hd6
    clear hbs hrk hrw hd6
    go_wp2_with fail
    refine ((unhide HFL) gk ck gw cw _ (unhide HRK2) (unhide HRW2)).mono ?_
    rintro e w4 ⟨g4, c4, rfl, hrk4, hb4, hg4, hn4⟩
    have hd := (unhide HDC).below hb4
    have y0 := hd.c0
    have y1 := hd.c1
    have y2 := hd.f0
    have y3 := hd.f1
    have hz4 := hb4.size
    have HB4 := hide ((unhide HBC).trans (hb4.mono (unhide HBC).size))
    have HRK4 := hide hrk4
    have hzz := (unhide HBC).size
    clear hb4 hrk4 hd x0 x1
    go_wp2_with fail
    refine bodyPost_ret (v := .tuple #[.agg #[.slice (some ⟨g4, 0, none⟩) n c4, .slice none 0 0], .int .i64 0]) (by simp [results, Try.results10, go_sem, y0, y1]) rfl ⟨g4, c4, rfl, ?_, ((unhide HB4).setCell (by simp; try omega) _).setCell (by simp; try omega) _, by omega, hn4⟩
    exact Dk.RK.stored (unhide HRK4) (by omega) _ _ _
end Go.Proofs.Ytpabpcojiaklfaa
