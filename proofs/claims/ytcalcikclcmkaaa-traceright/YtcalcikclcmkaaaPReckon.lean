/-
  The contract of trace's reckon. By the verifier.
-/
import Derived.Test.YtcalcikclcmkaaaPVars
import Derived.Deep.RegionHeld3
import Derived.Deep.DeepCutAuto
set_option maxRecDepth 100000
set_option maxHeartbeats 3200000
namespace Go.Proofs.Ytcalcikclcmkaaa
open Go.RowKit
set_option linter.unusedVariables false
def Pg.okV (vs : List (List Int)) : (n : Nat) → Pg.XT n → Prop
 | 0, _ => False
 | n + 1, x => (1 ≤ x.1.1 ∧ x.1.1 ≤ 10) ∧ x.2.length = Pg.argsN x.1.1 ∧ (x.1.1 = 2 → ∃ l, Pg.var? vs x.1.2 = some l ∧ l ≠ []) ∧ (x.1.1 = 3 → ∃ l, Pg.var? vs x.1.2 = some l) ∧ ∀ y ∈ x.2, Pg.okV vs n y
theorem Pg.cont_cont (a b : List Int) (e : Except Int (List Int)) : Pg.cont a (Pg.cont b e) = Pg.cont (a ++ b) e := by
 cases e with
 | error h => rfl
 | ok c => show Except.ok _ = Except.ok _; rw [List.append_assoc]
theorem Pg.evs_yes {α : Type} (f : α → Int × Int) (l : List α) (i : Nat) (y : α) (hy : l[i]? = some y) (h : (f y).2 = 0) : Pg.evs f (l.drop i) = Pg.cont [(f y).1] (Pg.evs f (l.drop (i + 1))) := by
 obtain ⟨hk, hx⟩ := List.getElem?_eq_some_iff.1 hy
 rw [List.drop_eq_getElem_cons hk, hx]
 show (if (f y).2 = 0 then Pg.cont [(f y).1] (Pg.evs f (l.drop (i + 1))) else Except.error (f y).2) = _
 rw [if_pos h]
theorem Pg.evs_no {α : Type} (f : α → Int × Int) (l : List α) (i : Nat) (y : α) (hy : l[i]? = some y) (h : (f y).2 ≠ 0) : Pg.evs f (l.drop i) = .error (f y).2 := by
 obtain ⟨hk, hx⟩ := List.getElem?_eq_some_iff.1 hy
 rw [List.drop_eq_getElem_cons hk, hx]
 show (if (f y).2 = 0 then Pg.cont [(f y).1] (Pg.evs f (l.drop (i + 1))) else Except.error (f y).2) = _
 rw [if_neg h]
structure Pg.Rk (w W : World) (e : Pg.E) (i : Nat) (ls : List Int) : Prop where
 len : ls.length = i
 a0 : W.cell? ⟨w.heap.size + 1, 0, none⟩ = some (.int .i64 ((ls[0]?).getD 0))
 a1 : W.cell? ⟨w.heap.size + 1, 1, none⟩ = some (.int .i64 ((ls[1]?).getD 0))
 f0 : W.frozen? ⟨w.heap.size + 1, 0, none⟩ = false
 f1 : W.frozen? ⟨w.heap.size + 1, 1, none⟩ = false
 e0 : W.cell? ⟨w.heap.size, 0, none⟩ = some (.int .i64 e.k)
 e1 : W.cell? ⟨w.heap.size, 1, none⟩ = some (.int .i64 e.n)
 e2 : W.cell? ⟨w.heap.size, 2, none⟩ = some (.slice e.args.ad e.args.len e.args.cap)
 bel : Below w.heap.size w W
theorem Pg.Rk.later {w W W' : World} {e : Pg.E} {i : Nat} {ls : List Int} (h : Pg.Rk w W e i ls) (hb : Below W.heap.size W W') : Pg.Rk w W' e i ls := by
 have l1 := World.block_lt_of_cell? W _ h.a0
 have l2 := World.block_lt_of_cell? W _ h.e0
 exact ⟨h.len, (hb.cell (p := ⟨w.heap.size + 1, 0, none⟩) l1).trans h.a0, (hb.cell (p := ⟨w.heap.size + 1, 1, none⟩) l1).trans h.a1, (hb.frozen (p := ⟨w.heap.size + 1, 0, none⟩) l1).trans h.f0, (hb.frozen (p := ⟨w.heap.size + 1, 1, none⟩) l1).trans h.f1, (hb.cell (p := ⟨w.heap.size, 0, none⟩) l2).trans h.e0, (hb.cell (p := ⟨w.heap.size, 1, none⟩) l2).trans h.e1, (hb.cell (p := ⟨w.heap.size, 2, none⟩) l2).trans h.e2, h.bel.trans (hb.mono h.bel.size)⟩
theorem Pg.Rk.put {w W : World} {e : Pg.E} {i : Nat} {ls : List Int} (h : Pg.Rk w W e i ls) (hi : i < 2) (v : Int) : Pg.Rk w (W.setCell ⟨w.heap.size + 1, i, none⟩ (.int .i64 v)) e (i + 1) (ls ++ [v]) := by
 have n : ∀ j : Nat, (⟨w.heap.size + 1, i, none⟩ : Addr) ≠ ⟨w.heap.size, j, none⟩ := fun j hh => by have := congrArg Addr.block hh; simp at this
 have hl := h.len
 have o : ∀ j : Nat, j ≠ i → (⟨w.heap.size + 1, i, none⟩ : Addr) ≠ ⟨w.heap.size + 1, j, none⟩ := fun j hj hh => by have := congrArg Addr.off hh; simp at this; omega
 refine ⟨by simp [hl], ?_, ?_, by rw [World.frozen?_setCell]; exact h.f0, by rw [World.frozen?_setCell]; exact h.f1, by rw [World.cell?_setCell_other _ _ _ _ (n _)]; exact h.e0, by rw [World.cell?_setCell_other _ _ _ _ (n _)]; exact h.e1, by rw [World.cell?_setCell_other _ _ _ _ (n _)]; exact h.e2, h.bel.setCell (by show w.heap.size ≤ w.heap.size + 1; omega) _⟩
 · by_cases h0 : i = 0
   · subst h0
     rw [World.cell?_setCell_same _ _ _ h.a0, List.getElem?_append_right (by omega), hl]
     rfl
   · rw [World.cell?_setCell_other _ _ _ _ (o 0 (fun e => h0 e.symm)), List.getElem?_append_left (by omega)]
     exact h.a0
 · by_cases h1 : i = 1
   · subst h1
     rw [World.cell?_setCell_same _ _ _ h.a1, List.getElem?_append_right (by omega), hl]
     rfl
   · rw [World.cell?_setCell_other _ _ _ _ (o 1 (fun e => h1 e.symm))]
     have : i = 0 := by omega
     subst this
     rw [h.a1, List.getElem?_eq_none (by omega), List.getElem?_eq_none (by simp [hl])]
theorem Pg.fin_num {vs : List (List Int)} {k n : Int} {ls : List Int} (h : k = 1) : Pg.fin vs k n ls = (n, 0) := by unfold Pg.fin; rw [if_pos h]
theorem Pg.fin_var {vs : List (List Int)} {k n a : Int} {r ls : List Int} (h : k = 2) (hv : Pg.var? vs n = some (a :: r)) : Pg.fin vs k n ls = (a, 0) := by unfold Pg.fin; rw [if_neg (by omega), if_pos h, hv]; rfl
theorem Pg.fin_cell {vs : List (List Int)} {k n v L : Int} {l ls : List Int} (h : k = 3) (hv : Pg.var? vs n = some l) (hL : (ls[0]?).getD 0 = L) (ha : Pg.at? l L = some v) : Pg.fin vs k n ls = (v, 0) := by
 unfold Pg.fin
 rw [if_neg (by omega), if_neg (by omega), if_pos h, hv, hL]
 show (match Pg.at? l L with | none => ((0 : Int), (3 : Int)) | some v => (v, 0)) = _
 rw [ha]
theorem Pg.fin_none {vs : List (List Int)} {k n L : Int} {l ls : List Int} (h : k = 3) (hv : Pg.var? vs n = some l) (hL : (ls[0]?).getD 0 = L) (ha : Pg.at? l L = none) : Pg.fin vs k n ls = (0, 3) := by
 unfold Pg.fin
 rw [if_neg (by omega), if_neg (by omega), if_pos h, hv, hL]
 show (match Pg.at? l L with | none => ((0 : Int), (3 : Int)) | some v => (v, 0)) = _
 rw [ha]
theorem Pg.fin_op {vs : List (List Int)} {k n L0 L1 : Int} {ls : List Int} (h1 : k ≠ 1) (h2 : k ≠ 2) (h3 : k ≠ 3) (hL : (ls[0]?).getD 0 = L0) (hM : (ls[1]?).getD 0 = L1) : Pg.fin vs k n ls = Pg.op k L0 L1 := by
 unfold Pg.fin
 rw [if_neg h1, if_neg h2, if_neg h3, hL, hM]
theorem Pg.at_out {l : List Int} {n : Int} (h : ¬ (0 ≤ n ∧ n < (l.length : Int))) : Pg.at? l n = none := by
 unfold Pg.at?
 split
 · exact List.getElem?_eq_none (by omega)
 · rfl
theorem Pg.var_some {vs : List (List Int)} {n : Int} {l : List Int} (h : Pg.var? vs n = some l) : ∃ j : Nat, n = j ∧ vs[j]? = some l := by
 unfold Pg.var? at h
 split at h
 · exact ⟨n.toNat, by omega, h⟩
 · cases h
theorem reckon_any (sa : Option Addr) (sl sc : Nat) (vs : List (List Int)) : ∀ (n : Nat) (e : Pg.E) (x : Pg.XT n) (w : World), Pg.RX w n e x → Pg.RV w ⟨sa, sl, sc⟩ vs → Pg.okV vs n x →
  Calls Try.prog 28 #[e.val, .slice sa sl sc] w fun r w' => r = .returned (.tuple #[.int .i64 (Pg.val vs n x).1, .int .i64 (Pg.val vs n x).2]) ∧ Below w.heap.size w w' := by
 intro n
 induction n with
 | zero => intro e x w h; exact absurd h id
 | succ n ih =>
  intro e x w hre hrv hok
  obtain ⟨⟨hk, hn⟩, hs⟩ := hre
  obtain ⟨hK, hA, hV2, hV3, hsub⟩ := hok
  have hlen := hs.len
  have hsl : sl = vs.length := hrv.len
  have hsf : sl ≤ 35184372088832 := by rw [hsl]; exact hrv.few
  have HSL := hide hsl
  clear hsl
  have hAle : Pg.argsN x.1.1 ≤ 2 := by unfold Pg.argsN; split <;> (try split) <;> omega
  have hl2 : e.args.len ≤ 2 := by omega
  obtain ⟨V, hV⟩ : ∃ V, V = Pg.val vs (n + 1) x := ⟨_, rfl⟩
  rw [← hV]
  have HV := hide (show V = (match Pg.evs (Pg.val vs n) x.2 with | .error h => (0, h) | .ok ls => Pg.fin vs e.k e.n ls) by rw [hV, hk, hn]; rfl)
  have HS := hide hs
  have HLN := hide hlen
  have IH := hide ih
  have HRV := hide hrv
  have HSUB := hide hsub
  rw [← hk] at hK hA hV2 hV3
  rw [← hn] at hV2 hV3
  have HK := hide hK
  have HA := hide (hlen.trans hA)
  have HV2 := hide hV2
  have HV3 := hide hV3
  clear hs hlen ih hrv hsub hV hk hn hK hA hV2 hV3 hAle
  have hb0 := ((Below.refl w.heap.size w).alloc (Nat.le_refl _) (Obj.cells #[.int .i64 e.k, .int .i64 e.n, .slice e.args.ad e.args.len e.args.cap] 24)).alloc (by simp) (Obj.cells #[.int .i64 0, .int .i64 0] 113)
  have HB0 := hide hb0
  clear hb0
  unfold Pg.E.val
  go_enter Try.func28, Try.ntmps28
  go_wp2_with fail
  go_loopw [14] (fun iv wr => ∃ (i : Nat) (ls : List Int), i ≤ e.args.len ∧ iv = .int .i64 i ∧ Hid (Pg.evs (Pg.val vs n) x.2 = Pg.cont ls (Pg.evs (Pg.val vs n) (x.2.drop i))) ∧ Pg.Rk w wr e i ls) (fun iv _ => e.args.len - (intOf iv).toNat)
  case atStart => exact ⟨0, [], Nat.zero_le _, rfl, by show _ = _; rw [List.drop_zero]; cases Pg.evs (Pg.val vs n) x.2 <;> rfl, ⟨rfl, by go_simp, by go_simp, by go_simp, by go_simp, by go_simp, by go_simp, by go_simp, unhide HB0⟩⟩
  case round =>
   obtain ⟨i, ls, hi, rfl, hrel, hrk⟩ := hrel
   have HRL := hide (unhide hrel)
   have HRK := hide hrk
   have hz := hrk.bel.size
   clear hrel hrk
   by_cases hlt : i < e.args.len
   · have hlt2 : i < x.2.length := by have := unhide HLN; omega
     have hy := List.getElem?_eq_getElem hlt2
     obtain ⟨b, o, cc, had, hb, hlies, hrd⟩ := (unhide HS).at_ i _ hy
     have hoky := (unhide HSUB) _ (List.mem_of_getElem? hy)
     have HY := hide (fun h => Pg.evs_yes (Pg.val vs n) x.2 i _ hy h)
     have HNO := hide (fun h => Pg.evs_no (Pg.val vs n) x.2 i _ hy h)
     generalize x.2[i] = y at *
     obtain ⟨p0, p1, p2⟩ := hlies.later (unhide HRK).bel (Nat.le_refl _) hb
     have hal := (Below.refl wr.heap.size wr).alloc (Nat.le_refl _) (Obj.cells #[.int .i64 cc.k, .int .i64 cc.n, .slice cc.args.ad cc.args.len cc.args.cap] 24)
     have hrka := (unhide HRK).later hal
     have HIC := hide ((unhide IH) cc y _ (hrd.later hrka.bel (Nat.le_refl _)) ((unhide HRV).later hrka.bel (Nat.le_refl _)) hoky)
     have HRA := hide hrka
     obtain ⟨v, hw, hvv⟩ : ∃ v hw, Pg.val vs n y = (v, hw) := ⟨_, _, rfl⟩
     rw [hvv] at HIC HY HNO
     clear hlies hrd hy hal hrka hoky hvv
     have hi0 : (0 : Int) ≤ (i : Int) := by omega
     have hi1 : (i : Int) < (e.args.len : Int) := by omega
     rw [had]
     unfold Pg.E.val at HIC
     go_wp2_with fail
     refine (unhide HIC).mono ?_
     rintro r w1 ⟨rfl, hb1⟩
     have hrk1 := (unhide HRA).later hb1
     have HR1 := hide hrk1
     clear hb1 p0 p1 p2
     by_cases hw0 : hw = 0
     · have g : (hw != 0) = false := by simp [hw0]
       have HN := hide (show Pg.evs (Pg.val vs n) x.2 = Pg.cont (ls ++ [v]) (Pg.evs (Pg.val vs n) (x.2.drop (i + 1))) by rw [unhide HRL, (unhide HY) hw0, Pg.cont_cont])
       have a0 := hrk1.a0
       have a1 := hrk1.a1
       have f0 := hrk1.f0
       have f1 := hrk1.f1
       have h01 : i = 0 ∨ i = 1 := by omega
       clear hw0 hrk1
       rcases h01 with rfl | rfl
       · go_wp2_with fail
         exact ⟨⟨1, ls ++ [v], by omega, by go_num, unhide HN, (unhide HR1).put (by omega) v⟩, by simp [intOf]; omega⟩
       · go_wp2_with fail
         exact ⟨⟨2, ls ++ [v], by omega, by go_num, unhide HN, (unhide HR1).put (by omega) v⟩, by simp [intOf]; omega⟩
     · have g : (hw != 0) = true := by simpa using hw0
       have HN := hide (show V = (0, hw) by rw [unhide HV, unhide HRL, (unhide HNO) hw0]; rfl)
       clear hw0 hrk1
       go_wp2_with fail
       exact bodyPost_ret (v := .tuple #[.int .i64 0, .int .i64 hw]) (by simp [results, Try.results28, go_sem]) rfl ⟨by rw [unhide HN], (unhide HR1).bel⟩
   · have hil : i = e.args.len := by omega
     have HF := hide (show V = Pg.fin vs e.k e.n ls by
      rw [unhide HV, unhide HRL, List.drop_of_length_le (by have := unhide HLN; omega)]
      show Pg.fin vs e.k e.n (ls ++ []) = _
      rw [List.append_nil])
     have e0 := (unhide HRK).e0
     have e1 := (unhide HRK).e1
     have a0 := (unhide HRK).a0
     have a1 := (unhide HRK).a1
     obtain ⟨L0, hL0⟩ : ∃ L0, (ls[0]?).getD 0 = L0 := ⟨_, rfl⟩
     obtain ⟨L1, hL1⟩ : ∃ L1, (ls[1]?).getD 0 = L1 := ⟨_, rfl⟩
     rw [hL0] at a0
     rw [hL1] at a1
     have HL0 := hide hL0
     have HL1 := hide hL1
     clear hL0 hL1
     have HFN := hide (unhide HF)
     have HBR := hide (unhide HRK).bel
     have HRVR := hide ((unhide HRV).later (unhide HRK).bel (Nat.le_refl _))
     clear hil HF HRK HV HS HLN IH HRV HSUB HA HB0 HRL
     by_cases k1 : e.k = 1
     · have b1 : (e.k == 1) = true := by simp [k1]
       have HN := hide (show V = (e.n, 0) by rw [unhide HFN, Pg.fin_num k1])
       clear k1
       go_wp2_with fail
       exact bodyPost_ret (v := .tuple #[.int .i64 (e.n), .int .i64 (0)]) (by simp [results, Try.results28, go_sem]) rfl ⟨by rw [unhide HN], unhide HBR⟩
     · have b1 : (e.k == 1) = false := by simpa using k1
       by_cases k2 : e.k = 2
       · have b2 : (e.k == 2) = true := by simp [k2]
         obtain ⟨l, hv, hne⟩ := (unhide HV2) k2
         obtain ⟨j, hj, hjl⟩ := Pg.var_some hv
         obtain ⟨b, o, t, had, hb, hc, hrn⟩ := (unhide HRVR).at_ j l hjl
         cases l with
         | nil => exact absurd rfl hne
         | cons a r =>
          obtain ⟨b2', o2, had2, hb2, hc2⟩ := hrn.at_ 0 a rfl
          have HN := hide (show V = (a, 0) by rw [unhide HFN, Pg.fin_var k2 hv])
          have had' : sa = some ⟨b, o, none⟩ := had
          subst had'
          have hj3 : (j : Int) < (sl : Int) := by have := (List.getElem?_eq_some_iff.1 hjl).1; have := unhide HSL; omega
          have hj2 : (0 : Int) ≤ (j : Int) := by omega
          have htl : (0 : Int) < (t.len : Int) := by rw [hrn.len]; simp
          rw [had2] at hc
          rw [hj] at e1
          rw [Nat.add_zero] at hc2
          clear k1 k2 hv hj hjl hrn had hne
          go_wp2_with fail
          exact bodyPost_ret (v := .tuple #[.int .i64 (a), .int .i64 (0)]) (by simp [results, Try.results28, go_sem]) rfl ⟨by rw [unhide HN], unhide HBR⟩
       · have b2 : (e.k == 2) = false := by simpa using k2
         by_cases k3 : e.k = 3
         · have b3 : (e.k == 3) = true := by simp [k3]
           obtain ⟨l, hv⟩ := (unhide HV3) k3
           obtain ⟨j, hj, hjl⟩ := Pg.var_some hv
           obtain ⟨b, o, t, had, hb, hc, hrn⟩ := (unhide HRVR).at_ j l hjl
           have had' : sa = some ⟨b, o, none⟩ := had
           subst had'
           have hj3 : (j : Int) < (sl : Int) := by have := (List.getElem?_eq_some_iff.1 hjl).1; have := unhide HSL; omega
           have hj2 : (0 : Int) ≤ (j : Int) := by omega
           have htl := hrn.len
           have htf := hrn.few
           rw [← htl] at htf
           rw [hj] at e1
           by_cases hin : 0 ≤ L0 ∧ L0 < (t.len : Int)
           · obtain ⟨q, rfl⟩ : ∃ q : Nat, L0 = q := ⟨L0.toNat, by omega⟩
             obtain ⟨v, hvq⟩ : ∃ v, l[q]? = some v := ⟨_, List.getElem?_eq_getElem (by omega)⟩
             obtain ⟨b2', o2, had2, hb2, hc2⟩ := hrn.at_ q v hvq
             have HN := hide (show V = (v, 0) by rw [unhide HFN, Pg.fin_cell k3 hv (unhide HL0) (by unfold Pg.at?; rw [if_pos (by omega), Int.toNat_natCast]; exact hvq)])
             have HIS := hide (fun W => show Calls Try.prog 61 #[.int .i64 (q : Int), .slice (some ⟨b2', o2, none⟩) t.len t.cap] W fun r w' => r = .returned (.bool true) ∧ w' = W by
              have := isCell_any (q : Int) (some ⟨b2', o2, none⟩) t.len t.cap W htf
              rw [decide_eq_true hin] at this
              exact this)
             have hq1 : (0 : Int) ≤ (q : Int) := by omega
             have hq2 : (q : Int) < (t.len : Int) := by omega
             rw [had2] at hc
             clear k1 k2 k3 hv hj hjl hrn had hin hvq had2 htl
             go_wp2_with fail
             go_quiet ((go_at_call 61; exact Calls.quiet_of_same ((unhide HIS) _)))
             go_wp2_with fail
             go_quiet (fail)
             go_wp2_with fail
             exact bodyPost_ret (v := .tuple #[.int .i64 (v), .int .i64 (0)]) (by simp [results, Try.results28, go_sem]) rfl ⟨by rw [unhide HN], below_drewN (below_drewN (unhide HBR) _) _⟩
           · have HN := hide (show V = (0, 3) by rw [unhide HFN, Pg.fin_none k3 hv (unhide HL0) (Pg.at_out (by omega))])
             have HIS := hide (fun W => show Calls Try.prog 61 #[.int .i64 L0, .slice t.ad t.len t.cap] W fun r w' => r = .returned (.bool false) ∧ w' = W by
              have := isCell_any L0 t.ad t.len t.cap W htf
              rw [decide_eq_false hin] at this
              exact this)
             clear k1 k2 k3 hv hj hjl hrn had hin htl
             go_wp2_with fail
             go_quiet ((go_at_call 61; exact Calls.quiet_of_same ((unhide HIS) _)))
             go_wp2_with fail
             exact bodyPost_ret (v := .tuple #[.int .i64 0, .int .i64 3]) (by simp [results, Try.results28, go_sem]) rfl ⟨by rw [unhide HN], below_drewN (unhide HBR) _⟩
         · have b3 : (e.k == 3) = false := by simpa using k3
           have HN := hide (show V = Pg.op e.k L0 L1 by rw [unhide HFN, Pg.fin_op k1 k2 k3 (unhide HL0) (unhide HL1)])
           have hk4 : 4 ≤ e.k ∧ e.k ≤ 10 := by have := unhide HK; omega
           have HJ := hide (fun W => join_any e.k L0 L1 W hk4)
           clear k1 k2 k3 hk4
           generalize Pg.op e.k L0 L1 = OP at *
           go_wp2_with fail
           refine ((unhide HJ) _).mono ?_
           rintro r w3 ⟨rfl, hw3⟩
           subst hw3
           go_wp2_with fail
           exact bodyPost_ret (v := .tuple #[.int .i64 OP.1, .int .i64 OP.2]) (by simp [results, Try.results28, go_sem]) rfl ⟨by rw [unhide HN], unhide HBR⟩
end Go.Proofs.Ytcalcikclcmkaaa
