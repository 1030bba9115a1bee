/-
  The document's ExprText. By the verifier; written by mksr1.py.
-/
import Derived.Test.YtfccpddehpgfoaaGreatDoorXB
import Derived.Test.YtfccpddehpgfoaaGreatDoorYB
import Derived.Test.YtfccpddehpgfoaaGreatDoorYD
set_option maxRecDepth 100000
set_option maxHeartbeats 6400000
namespace Go.Proofs.YtfccpddehpgfoaaGreatDoor
open Go.RowKit
set_option linter.unusedVariables false
section
theorem refExpr_1 (e : Tk.E) (w : World) (hk : e.k = 1) (hN : Pr.NK e.n) : Calls Tryz.prog 43 #[e.val] w fun r w' => r = .returned (.string (Qd.num e.n)) ∧ Below w.heap.size w w' := by
 unfold Tk.E.val
 rw [hk]
 have hbA := (Below.refl w.heap.size w).alloc (Nat.le_refl _) (Obj.cells #[.int .i64 1, .int .i64 e.a, .int .i64 e.n, .string e.nm, .slice e.args.ad e.args.len e.args.cap] 52)
 have HQ := hide (Digits_any e.n (by have := hN.1; omega) (by have := hN.2; omega) (w.alloc (Obj.cells #[.int .i64 1, .int .i64 e.a, .int .i64 e.n, .string e.nm, .slice e.args.ad e.args.len e.args.cap] 52)))
 have HB := hide hbA
 clear hbA hN hk
 go_enter Tryz.func43, Tryz.ntmps43
 go_wp2_with fail
 refine (unhide HQ).mono ?_
 rintro r w1 ⟨rfl, hb1⟩
 have HB1 := hide ((unhide HB).trans (hb1.mono (unhide HB).size))
 clear hb1
 go_wp2_with fail
 go_ret
 exact ⟨rfl, unhide HB1⟩
theorem refExpr_2 (e : Tk.E) (w : World) (hk : e.k = 2) : Calls Tryz.prog 43 #[e.val] w fun r w' => r = .returned (.string e.nm) ∧ Below w.heap.size w w' := by
 unfold Tk.E.val
 rw [hk]
 have HB := hide ((Below.refl w.heap.size w).alloc (Nat.le_refl _) (Obj.cells #[.int .i64 2, .int .i64 e.a, .int .i64 e.n, .string e.nm, .slice e.args.ad e.args.len e.args.cap] 52))
 clear hk
 go_enter Tryz.func43, Tryz.ntmps43
 go_wp2_with fail
 go_ret
 exact ⟨rfl, unhide HB⟩
theorem refExpr_3 (e y : Tk.E) (b o cap : Nat) (t : ByteArray) (w : World) (hk : e.k = 3) (hn : e.nm.size ≤ 64) (ht : t.size ≤ 2000) (ha : e.args = ⟨some ⟨b, o, none⟩, 1, cap⟩) (hlt : b < w.heap.size) (hl : Tk.ELies w b (o + 0 * 5) y)
  (hE : ∀ W, Below w.heap.size w W → Calls Tryz.prog 43 #[y.val] W fun r w' => r = .returned (.string t) ∧ Below W.heap.size W w') :
  Calls Tryz.prog 43 #[e.val] w fun r w' => r = .returned (.string (Pr.cell e.nm t)) ∧ Below w.heap.size w w' := by
 obtain ⟨k, a, n, nm, args⟩ := e
 have hk : k = 3 := hk
 have ha : args = ⟨some ⟨b, o, none⟩, 1, cap⟩ := ha
 subst hk
 subst ha
 unfold Tk.E.val at *
 have hbA := (Below.refl w.heap.size w).alloc (Nat.le_refl _) (Obj.cells #[.int .i64 3, .int .i64 a, .int .i64 n, .string nm, .slice (some ⟨b, o, none⟩) 1 cap] 52)
 have HB := hide hbA
 obtain ⟨g0, g1, g2, g3, g4⟩ := hl.later hbA (Nat.le_refl _) hlt
 rw [Nat.zero_mul, Nat.add_zero] at g0 g1 g2 g3 g4
 have HC := hide hE
 have hn : nm.size ≤ 64 := hn
 have e4 : (⟨#[91]⟩ : ByteArray).size = 1 := rfl
 have e5 : (⟨#[93]⟩ : ByteArray).size = 1 := rfl
 have a1 : ∀ W : World, (Op.stringOp .add nm ⟨#[91]⟩).run Tryz.prog W = .ok (.string (nm ++ ⟨#[91]⟩)) W := fun W => run_string_add_sum W _ _ (by simp only [e4]; omega)
 have a2 : ∀ W : World, (Op.stringOp .add (nm ++ ⟨#[91]⟩) t).run Tryz.prog W = .ok (.string ((nm ++ ⟨#[91]⟩) ++ t)) W := fun W => run_string_add_sum W _ _ (by simp only [ByteArray.size_append, e4]; omega)
 have a3 : ∀ W : World, (Op.stringOp .add ((nm ++ ⟨#[91]⟩) ++ t) ⟨#[93]⟩).run Tryz.prog W = .ok (.string (((nm ++ ⟨#[91]⟩) ++ t) ++ ⟨#[93]⟩)) W := fun W => run_string_add_sum W _ _ (by simp only [ByteArray.size_append, e4, e5]; omega)
 clear hE hl hbA e4 e5 hn ht
 unfold Tk.E.val at *
 go_enter Tryz.func43, Tryz.ntmps43
 go_wp2_with fail
 go_region_held3 (fun V => Below w.heap.size w V ∧ V.cell? ⟨w.heap.size, 3, none⟩ = some (.string nm) ∧ V.cell? ⟨w.heap.size, 4, none⟩ = some (.slice (some ⟨b, o, none⟩) 1 cap) ∧ V.cell? ⟨b, o, none⟩ = some (.int .i64 y.k) ∧ V.cell? ⟨b, o + 1, none⟩ = some (.int .i64 y.a) ∧ V.cell? ⟨b, o + 2, none⟩ = some (.int .i64 y.n) ∧ V.cell? ⟨b, o + 3, none⟩ = some (.string y.nm) ∧ V.cell? ⟨b, o + 4, none⟩ = some (.slice y.args.ad y.args.len y.args.cap))
  (first | exact ⟨(unhide HB).drew, by simp, by simp, g0, g1, g2, g3, g4⟩ | exact Pr.S3.below (by assumption) (unhide HB1))
  (first
   | (go_at_call 43; refine ((unhide HC) _ (And.left (by assumption))).mono ?_; rintro r w1 ⟨rfl, hb1⟩; have HB1 := hide hb1; clear hb1))
 all_goals
  go_wp2_with fail
  go_ret
  exact ⟨rfl, And.left (by assumption)⟩
theorem refExpr_4 (e y z : Tk.E) (b o cap : Nat) (t u : ByteArray) (w : World) (hk : 4 ≤ e.k ∧ e.k ≤ 10) (ht : t.size ≤ 2000) (hu : u.size ≤ 2000) (ha : e.args = ⟨some ⟨b, o, none⟩, 2, cap⟩) (hlt : b < w.heap.size) (hl : Tk.ELies w b (o + 0 * 5) y) (hl2 : Tk.ELies w b (o + 1 * 5) z)
  (hE : ∀ W, Below w.heap.size w W → Calls Tryz.prog 43 #[y.val] W fun r w' => r = .returned (.string t) ∧ Below W.heap.size W w')
  (hE2 : ∀ W, Below w.heap.size w W → Calls Tryz.prog 43 #[z.val] W fun r w' => r = .returned (.string u) ∧ Below W.heap.size W w') :
  Calls Tryz.prog 43 #[e.val] w fun r w' => r = .returned (.string (Pr.two (Pr.sign e.k) t u)) ∧ Below w.heap.size w w' := by
 obtain ⟨k, a, n, nm, args⟩ := e
 have hk : 4 ≤ k ∧ k ≤ 10 := hk
 have ha : args = ⟨some ⟨b, o, none⟩, 2, cap⟩ := ha
 subst ha
 have k1 : (k == 1) = false := by rw [beq_eq_false_iff_ne]; omega
 have k2 : (k == 2) = false := by rw [beq_eq_false_iff_ne]; omega
 have k3 : (k == 3) = false := by rw [beq_eq_false_iff_ne]; omega
 unfold Tk.E.val at *
 have hbA := (Below.refl w.heap.size w).alloc (Nat.le_refl _) (Obj.cells #[.int .i64 k, .int .i64 a, .int .i64 n, .string nm, .slice (some ⟨b, o, none⟩) 2 cap] 52)
 have HB := hide hbA
 obtain ⟨g0, g1, g2, g3, g4⟩ := hl.later hbA (Nat.le_refl _) hlt
 rw [Nat.zero_mul, Nat.add_zero] at g0 g1 g2 g3 g4
 obtain ⟨d0, d1, d2, d3, d4⟩ := hl2.later hbA (Nat.le_refl _) hlt
 rw [Nat.one_mul] at d0 d1 d2 d3 d4
 have HE := hide hE
 have HE2 := hide hE2
 have e1 : (⟨#[32]⟩ : ByteArray).size = 1 := rfl
 have e2 : (⟨#[40]⟩ : ByteArray).size = 1 := rfl
 have e3 : (⟨#[41]⟩ : ByteArray).size = 1 := rfl
 have e4 := Pr.sign_size k
 have HR : Hid (Pr.two (Pr.sign k) t u = (((((⟨#[40]⟩ ++ t) ++ ⟨#[32]⟩) ++ Pr.sign k) ++ ⟨#[32]⟩) ++ u) ++ ⟨#[41]⟩) := rfl
 generalize Pr.two (Pr.sign k) t u = R at *
 obtain ⟨s, hs⟩ : ∃ s, s = Pr.sign k := ⟨_, rfl⟩
 rw [← hs] at HR e4
 have HSG := hide hs
 clear hs
 have a1 : ∀ W : World, (Op.stringOp .add ⟨#[40]⟩ t).run Tryz.prog W = .ok (.string (⟨#[40]⟩ ++ t)) W := fun W => run_string_add_sum W _ _ (by simp only [e2]; omega)
 have a2 : ∀ W : World, (Op.stringOp .add (⟨#[40]⟩ ++ t) ⟨#[32]⟩).run Tryz.prog W = .ok (.string ((⟨#[40]⟩ ++ t) ++ ⟨#[32]⟩)) W := fun W => run_string_add_sum W _ _ (by simp only [ByteArray.size_append, e1, e2]; omega)
 have a3 : ∀ W : World, (Op.stringOp .add ((⟨#[40]⟩ ++ t) ++ ⟨#[32]⟩) s).run Tryz.prog W = .ok (.string (((⟨#[40]⟩ ++ t) ++ ⟨#[32]⟩) ++ s)) W := fun W => run_string_add_sum W _ _ (by simp only [ByteArray.size_append, e1, e2]; omega)
 have a4 : ∀ W : World, (Op.stringOp .add (((⟨#[40]⟩ ++ t) ++ ⟨#[32]⟩) ++ s) ⟨#[32]⟩).run Tryz.prog W = .ok (.string ((((⟨#[40]⟩ ++ t) ++ ⟨#[32]⟩) ++ s) ++ ⟨#[32]⟩)) W := fun W => run_string_add_sum W _ _ (by simp only [ByteArray.size_append, e1, e2]; omega)
 have a5 : ∀ W : World, (Op.stringOp .add ((((⟨#[40]⟩ ++ t) ++ ⟨#[32]⟩) ++ s) ++ ⟨#[32]⟩) u).run Tryz.prog W = .ok (.string (((((⟨#[40]⟩ ++ t) ++ ⟨#[32]⟩) ++ s) ++ ⟨#[32]⟩) ++ u)) W := fun W => run_string_add_sum W _ _ (by simp only [ByteArray.size_append, e1, e2]; omega)
 have a6 : ∀ W : World, (Op.stringOp .add (((((⟨#[40]⟩ ++ t) ++ ⟨#[32]⟩) ++ s) ++ ⟨#[32]⟩) ++ u) ⟨#[41]⟩).run Tryz.prog W = .ok (.string ((((((⟨#[40]⟩ ++ t) ++ ⟨#[32]⟩) ++ s) ++ ⟨#[32]⟩) ++ u) ++ ⟨#[41]⟩)) W := fun W => run_string_add_sum W _ _ (by simp only [ByteArray.size_append, e1, e2, e3]; omega)
 have HK := hide (show k = 4 ∨ k = 5 ∨ k = 6 ∨ k = 7 ∨ k = 8 ∨ k = 9 ∨ k = 10 by omega)
 have HS := hide (show Pr.S5 w w.heap.size b o cap 2 nm k y z (w.alloc (Obj.cells #[.int .i64 k, .int .i64 a, .int .i64 n, .string nm, .slice (some ⟨b, o, none⟩) 2 cap] 52)) from ⟨by simp, by simp, by simp, ⟨g0, g1, g2, g3, g4⟩, ⟨d0, d1, d2, d3, d4⟩, hbA⟩)
 clear hE hE2 hl hl2 hbA hk e1 e2 e3 e4 ht hu g0 g1 g2 g3 g4 d0 d1 d2 d3 d4
 go_enter Tryz.func43, Tryz.ntmps43
 go_upto_region 8 with fail
 generalize (w.alloc (Obj.cells #[.int .i64 k, .int .i64 a, .int .i64 n, .string nm, .slice (some ⟨b, o, none⟩) 2 cap] 52)) = wa at *
 have q0 := ((unhide HS).below ((Below.refl _ _).alloc (Nat.le_refl _) (Obj.cells #[.string ⟨#[]⟩, .string ⟨#[]⟩, .string ⟨#[]⟩, .string ⟨#[]⟩, .string ⟨#[43]⟩, .string ⟨#[45]⟩, .string ⟨#[42]⟩, .string ⟨#[47]⟩, .string ⟨#[37]⟩, .string ⟨#[60]⟩, .string ⟨#[61, 61]⟩] 9))).1
 go_cut [3] (fun sv wx => sv = .string s ∧ Pr.S5 w w.heap.size b o cap 2 nm k y z wx)
 case first =>
  rcases unhide HK with rfl | rfl | rfl | rfl | rfl | rfl | rfl
  all_goals
   go_wp2_with fail
   go_meet
   exact ⟨by rw [unhide HSG]; rfl, (unhide HS).below ((Below.refl _ _).alloc (Nat.le_refl _) _)⟩
 case rest =>
 obtain ⟨rfl, hs5⟩ := hcut
 have HS := hide hs5
 clear hs5
 go_wp2_with fail
 go_region_held3 (fun W => W.cell? ⟨w.heap.size, 0, none⟩ = some (.int .i64 k) ∧ W.cell? ⟨w.heap.size, 3, none⟩ = some (.string nm) ∧ W.cell? ⟨w.heap.size, 4, none⟩ = some (.slice (some ⟨b, o, none⟩) 2 cap) ∧
 (W.cell? ⟨b, o, none⟩ = some (.int .i64 y.k) ∧ W.cell? ⟨b, o + 1, none⟩ = some (.int .i64 y.a) ∧ W.cell? ⟨b, o + 2, none⟩ = some (.int .i64 y.n) ∧ W.cell? ⟨b, o + 3, none⟩ = some (.string y.nm) ∧ W.cell? ⟨b, o + 4, none⟩ = some (.slice y.args.ad y.args.len y.args.cap)) ∧
 (W.cell? ⟨b, o + 5, none⟩ = some (.int .i64 z.k) ∧ W.cell? ⟨b, o + 5 + 1, none⟩ = some (.int .i64 z.a) ∧ W.cell? ⟨b, o + 5 + 2, none⟩ = some (.int .i64 z.n) ∧ W.cell? ⟨b, o + 5 + 3, none⟩ = some (.string z.nm) ∧ W.cell? ⟨b, o + 5 + 4, none⟩ = some (.slice z.args.ad z.args.len z.args.cap)) ∧ Below w.heap.size w W)
  (first
   | exact Pr.S5.below (by assumption) (unhide HBS)
   | exact Pr.S5.drew (unhide HS))
  (first
   | (go_at_call_of 43 (Value.agg #[.int .i64 y.k, .int .i64 y.a, .int .i64 y.n, .string y.nm, .slice y.args.ad y.args.len y.args.cap]); refine ((unhide HE) _ (Pr.S5.bel (by assumption))).mono ?_; rintro r w4 ⟨rfl, hb4⟩; have HBS := hide hb4; clear hb4)
   | (go_at_call_of 43 (Value.agg #[.int .i64 z.k, .int .i64 z.a, .int .i64 z.n, .string z.nm, .slice z.args.ad z.args.len z.args.cap]); refine ((unhide HE2) _ (Pr.S5.bel (by assumption))).mono ?_; rintro r w6 ⟨rfl, hb6⟩; have HBS := hide hb6; clear hb6))
 all_goals
  go_wp2_with fail
  go_ret
  exact ⟨by rw [unhide HR]; rfl, Pr.S5.bel (by assumption)⟩
theorem refExpr_any (hsz : ∀ i, Pr.NK i → (Qd.num i).size ≤ 20) : ∀ (n : Nat) (e : Tk.E) (x : Tk.ET n) (w : World), Tk.RE w n e x → Pr.ok Pr.NK n x → Tk.parts n x ≤ 15 → Calls Tryz.prog 43 #[e.val] w fun r w' => r = .returned (.string (Pr.text Qd.num n x)) ∧ Below w.heap.size w w' := by
 intro n
 induction n with
 | zero => intro e x w h; exact h.elim
 | succ n ih =>
  intro e x w h hok hp
  obtain ⟨⟨f1, f2, f3, f4, f5⟩, hs⟩ := h
  obtain ⟨⟨k, a, m, nm⟩, l⟩ := x
  obtain ⟨h0, h⟩ := hok
  have hlen := hs.len
  have hpl : Tk.parts (n + 1) ((k, a, m, nm), l) = 1 + (l.map (Tk.parts n)).sum := rfl
  rw [hpl] at hp
  rcases h with ⟨hk, hm⟩ | hk | ⟨hk, y, hl, hy⟩ | ⟨hk, y, z, hl, hy, hz⟩
  · have hk : k = 1 := hk
    subst hk
    have f3 : e.n = m := f3
    show Calls _ _ _ _ (fun r w' => r = .returned (.string (Qd.num m)) ∧ _)
    rw [← f3]
    exact refExpr_1 e w f1 (by rw [f3]; exact hm)
  · have hk : k = 2 := hk
    subst hk
    have f4 : e.nm = nm := f4
    show Calls _ _ _ _ (fun r w' => r = .returned (.string nm) ∧ _)
    rw [← f4]
    exact refExpr_2 e w f1
  · have hk : k = 3 := hk
    subst hk
    have hl : l = [y] := hl
    subst hl
    have f4 : e.nm = nm := f4
    obtain ⟨b, o, q, hb, hlt, hli, hre⟩ := hs.at_ 0 y rfl
    have ha : e.args = ⟨some ⟨b, o, none⟩, 1, e.args.cap⟩ := by
     have hlen : e.args.len = 1 := hlen
     rw [← hb, ← hlen]
    have hs1 := Pr.text_size hsz n y hy
    have hp' : 1 + (Tk.parts n y + 0) ≤ 15 := hp
    show Calls _ _ _ _ (fun r w' => r = .returned (.string (Pr.cell nm (Pr.text Qd.num n y))) ∧ _)
    rw [← f4]
    exact refExpr_3 e q b o _ _ w f1 (by rw [f4]; exact h0) (by omega) ha hlt hli (fun W hb => ih q y W (hre.later hb (Nat.le_refl _)) hy (by omega))
  · have hk : 4 ≤ k ∧ k ≤ 10 := hk
    have hl : l = [y, z] := hl
    subst hl
    have f1 : e.k = k := f1
    obtain ⟨b, o, q, hb, hlt, hli, hre⟩ := hs.at_ 0 y rfl
    obtain ⟨b2, o2, q2, hb2, hlt2, hli2, hre2⟩ := hs.at_ 1 z rfl
    obtain ⟨rfl, rfl⟩ : b = b2 ∧ o = o2 := by simpa using hb.symm.trans hb2
    have ha : e.args = ⟨some ⟨b, o, none⟩, 2, e.args.cap⟩ := by
     have hlen : e.args.len = 2 := hlen
     rw [← hb, ← hlen]
    have hs1 := Pr.text_size hsz n y hy
    have hs2 := Pr.text_size hsz n z hz
    have hp' : 1 + (Tk.parts n y + (Tk.parts n z + 0)) ≤ 15 := hp
    have ht : Pr.text Qd.num (n + 1) ((k, a, m, nm), [y, z]) = Pr.two (Pr.sign k) (Pr.text Qd.num n y) (Pr.text Qd.num n z) := by
     show (if k = 1 then _ else if k = 2 then _ else _) = _
     rw [if_neg (by omega), if_neg (by omega)]
     rfl
    rw [ht, ← f1]
    exact refExpr_4 e q q2 b o _ _ _ w (by rw [f1]; exact hk) (by omega) (by omega) ha hlt hli hli2 (fun W hb => ih q y W (hre.later hb (Nat.le_refl _)) hy (by omega)) (fun W hb => ih q2 z W (hre2.later hb (Nat.le_refl _)) hz (by omega))
end
end Go.Proofs.YtfccpddehpgfoaaGreatDoor
