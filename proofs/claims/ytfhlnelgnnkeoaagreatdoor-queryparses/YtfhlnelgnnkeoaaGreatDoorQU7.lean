/-
  Ask of the document's Reader, at a word. By the verifier.
-/
import Derived.Test.YtfhlnelgnnkeoaaGreatDoorQU5
namespace Go.Proofs.YtfhlnelgnnkeoaaGreatDoor
open Go.RowKit
set_option linter.unusedVariables false

set_option maxRecDepth 100000 in
set_option maxHeartbeats 3200000 in
theorem Ask_k10 (l : List Qp.T) (ta : Option Addr) (c bp i a d : Nat) (e : Int) (w : World) (hp : Qp.Rd w bp ta l.length c (i : Nat) e false) (hr : Qp.RT w ta l) (hne : ∀ b o, ta = some ⟨b, o, none⟩ → b ≠ bp) (hf : l.length ≤ 10000) (hg : Qp.Good l) (hi : i ≤ l.length) (ha : a ≤ 60) (hin : Qp.inW [⟨#[40]⟩] (Qp.tk l i).t = false)
    (rec : Nat → Except Nat (Qk.AT d × Nat)) (h60 : a = 60 → ∀ k, rec k = .error k)
    (HQ : a < 60 → ∀ (k : Nat) (f : Bool) (W : World), Qp.Rd W bp ta l.length c (k : Nat) e f → Qp.RT W ta l → k ≤ l.length → Calls Tryz.prog 34 #[.pointer (some ⟨bp, 0, none⟩), .int .i64 ((a : Int) + 1)] W (Qp.AskP bp ta l c e W (Qp.orec rec k f)))
    (hfd : Qp.find Qp.ones (Qp.tk l i).t = some 10) :
    Calls Tryz.prog 34 #[.pointer (some ⟨bp, 0, none⟩), .int .i64 (a : Nat)] w (Qp.AskP bp ta l c e w (Qp.wordF l rec i)) := by
  have HR := hide (fun (W : World) (hb : Qk.But1 bp w.heap.size w W) => hr.but hne hb)
  have HTT := hide (fun (k : Nat) (f : Bool) (hk : k ≤ l.length) (W : World) (h1 : Qp.Rd W bp ta l.length c (k : Nat) e f) (h2 : Qp.RT W ta l) => Text_any l ta c bp k e f W h1 h2 hf (by omega))
  have HND := hide (fun (s : ByteArray) (k : Nat) (f : Bool) (hk : k ≤ l.length) (W : World) (h1 : Qp.Rd W bp ta l.length c (k : Nat) e f) (h2 : Qp.RT W ta l) => Need_any l s ta c bp k e f W h1 h2 hf (by omega))
  have HNU := hide (fun (k : Nat) (f : Bool) (hk : k ≤ l.length) (W : World) (h1 : Qp.Rd W bp ta l.length c (k : Nat) e f) (h2 : Qp.RT W ta l) => Number_any l ta c bp k e f W h1 h2 hf (by omega) hg)
  have HT := hide (fun (W : World) => (unhide HTT) i false hi W)
  have HGD := hide hg
  have hop := Qp.rt_in hin
  rw [Qp.toList_40] at hop
  have HQH := hide (And.intro h60 HQ)
  have HP := hide hp
  have hblt := hp.lt
  obtain ⟨o, ho⟩ : ∃ o, Qp.wordF l rec i = o := ⟨_, rfl⟩
  rw [ho]
  have HO := hide ho
  have HFD := hide hfd
  clear HQ hp hr hin ho h60 hg
  go_enter Tryz.func34, Tryz.ntmps34
  go_wp2_with fail
  have hLA : Qp.Lp w ((w.alloc (Obj.cells #[.int .i64 0, .int .i64 0, .slice none 0 0] 24)).alloc (Obj.cells #[.int .i64 0, .int .i64 0, .slice none 0 0] 24)) ((w.alloc (Obj.cells #[.int .i64 0, .int .i64 0, .slice none 0 0] 24)).alloc (Obj.cells #[.int .i64 0, .int .i64 0, .slice none 0 0] 24)) bp ta l.length c i e false 0 :=
    have hb := ((Below.refl w.heap.size w).alloc (Nat.le_refl _) (Obj.cells #[.int .i64 0, .int .i64 0, .slice none 0 0] 24)).alloc (by simp) (Obj.cells #[.int .i64 0, .int .i64 0, .slice none 0 0] 24)
    ⟨⟨by go_simp, by go_simp, by go_simp⟩, ⟨⟨.int .i64 0, by go_simp⟩, ⟨.int .i64 0, by go_simp⟩, ⟨.slice none 0 0, by go_simp⟩, fun i => by go_simp⟩, ⟨⟨.int .i64 0, by go_simp⟩, ⟨.int .i64 0, by go_simp⟩, ⟨.slice none 0 0, by go_simp⟩, fun i => by go_simp⟩, (unhide HP).below hb, (Qk.But1.refl bp w.heap.size w).below hb, Qp.Ab.refl _ _⟩
  have hsA : ((w.alloc (Obj.cells #[.int .i64 0, .int .i64 0, .slice none 0 0] 24)).alloc (Obj.cells #[.int .i64 0, .int .i64 0, .slice none 0 0] 24)).heap.size = w.heap.size + 2 := by simp
  have HLA := hide hLA
  clear hLA
  generalize ((w.alloc (Obj.cells #[.int .i64 0, .int .i64 0, .slice none 0 0] 24)).alloc (Obj.cells #[.int .i64 0, .int .i64 0, .slice none 0 0] 24)) = WA at *
  refine ((unhide HTT) i false hi _ (unhide HLA).r ((unhide HR) _ (unhide HLA).b)).mono ?_
  rintro r w0 ⟨rfl, hb0⟩
  have HL0 := hide (show Qp.Lp w w0 w0 bp ta l.length c i e false (Qp.fnd false (Qp.rt l i false) 1) from ⟨((unhide HLA).below hb0).q, ((unhide HLA).below hb0).y, ((unhide HLA).below hb0).z, ((unhide HLA).below hb0).r, ((unhide HLA).below hb0).b, Qp.Ab.refl _ _⟩)
  clear hb0
  go_wp2_with fail
  go_loopw [9] (fun v wr => ∃ k : Nat, 1 ≤ k ∧ k ≤ 15 ∧ v = .int .i64 ((k : Nat) : Int) ∧ Qp.Lp w w0 wr bp ta l.length c (i) e false (Qp.fnd false (Qp.rt l (i) false) k)) (fun v _ => 15 - (intOf v).toNat)
  case atStart => exact ⟨1, Nat.le_refl _, by decide, rfl, unhide HL0⟩
  case round =>
    obtain ⟨k, hk1, hk2, rfl, hL⟩ := hrel
    have HL := hide hL
    clear hL
    by_cases hk : k ≤ 14
    · have hk3 : (k : Int) ≤ 14 := by omega
      obtain ⟨u0, u1, u2⟩ := (unhide HL).q
      have uf := (unhide HL).y.f 0
      have hz := (unhide HL).lt
      go_wp2_with fail
      refine (AskArgs_any ((k : Nat) : Int) _).mono ?_
      rintro r w1 ⟨rfl, hw1⟩
      obtain rfl : wr = w1 := hw1.symm
      by_cases hA : Qk.argsN ((k : Nat) : Int) < 2
      · have hA1 : ((Qk.argsN ((k : Nat) : Int) : Nat) : Int) < 2 := by omega
        have hA2 : decide (Qk.argsN ((k : Nat) : Int) = 2) = false := by simp; omega
        go_wp2_with fail
        refine ((unhide HT) _ (unhide HL).r ((unhide HR) _ (unhide HL).b)).mono ?_
        rintro r w2 ⟨rfl, hb2⟩
        have HL2 := hide ((unhide HL).below hb2)
        clear hb2
        go_wp2_with fail
        refine (askWord_any ((k : Nat) : Int) (Qk.isK_nat k (by omega) (by omega)) _).mono ?_
        rintro r w3 ⟨rfl, hb3⟩
        have HL3 := hide ((unhide HL2).below hb3)
        clear hb3 u0 u1 u2 uf hz
        obtain ⟨u0, u1, u2⟩ := (unhide HL3).q
        have uf := (unhide HL3).y.f 0
        have hz := (unhide HL3).lt
        cases htx : ((Qp.rt l (i) false).toList == (Qk.word ((k : Nat) : Int)).toList)
        · have HN := hide (show Qp.fnd false (Qp.rt l (i) false) (k + 1) = Qp.fnd false (Qp.rt l (i) false) k by
            show (if (decide (Qk.argsN ((k : Nat) : Int) = 2) == false && (decide (1 ≤ k) && ((Qp.rt l (i) false).toList == (Qk.word ((k : Nat) : Int)).toList))) = true then k else _) = _
            rw [htx]; simp)
          go_wp2_with fail
          go_round
          case rel => exact ⟨k + 1, by omega, by omega, by go_num, by rw [unhide HN]; exact unhide HL3⟩
          case measure => simp [intOf]; omega
        · have HN := hide (show Qp.fnd false (Qp.rt l (i) false) (k + 1) = k by
            show (if (decide (Qk.argsN ((k : Nat) : Int) = 2) == false && (decide (1 ≤ k) && ((Qp.rt l (i) false).toList == (Qk.word ((k : Nat) : Int)).toList))) = true then k else _) = _
            rw [htx, hA2, decide_eq_true (show 1 ≤ k by omega)]; rfl)
          go_wp2_with fail
          go_round
          case rel => exact ⟨k + 1, by omega, by omega, by go_num, by rw [unhide HN]; exact (unhide HL3).set hblt k⟩
          case measure => simp [intOf]; omega
      · have hA1 : ¬ ((Qk.argsN ((k : Nat) : Int) : Nat) : Int) < 2 := by omega
        have hA2 : decide (Qk.argsN ((k : Nat) : Int) = 2) = true := by have := Qk.args_two (k := ((k : Nat) : Int)); simp; omega
        have HN := hide (show Qp.fnd false (Qp.rt l (i) false) (k + 1) = Qp.fnd false (Qp.rt l (i) false) k by
          show (if (decide (Qk.argsN ((k : Nat) : Int) = 2) == false && (decide (1 ≤ k) && ((Qp.rt l (i) false).toList == (Qk.word ((k : Nat) : Int)).toList))) = true then k else _) = _
          rw [hA2]; rfl)
        go_wp2_with fail
        go_round
        case rel => exact ⟨k + 1, by omega, by omega, by go_num, by rw [unhide HN]; exact unhide HL⟩
        case measure => simp [intOf]; omega
    · have hk3 : ¬ (k : Int) ≤ 14 := by omega
      obtain rfl : k = 15 := by omega
      have hK : Qp.fnd false (Qp.rt l i false) 15 = 10 := by
        have e := (Qp.fnd_is (Qp.tk l i).t).1
        rw [hfd] at e
        exact e
      have HL2 := hide (show Qp.Lp w w0 wr bp ta l.length c i e false 10 by rw [← hK]; exact unhide HL)
      have HO2 := hide (show o = _ from (unhide HO).symm.trans (Qp.wordF_at hfd))
      have hjl : i < l.length := by
        by_cases hh : i < l.length
        · exact hh
        · have := (Qp.find_some hfd).1
          rw [Qp.tk_none (by omega)] at this
          exact absurd (congrArg ByteArray.toList this).symm (by rw [Qp.empty_eq]; exact Qp.word_ne (by decide) (by decide))
      have HNW := hide (show Qp.nd l (Qk.word 10) i false = (i + 1, false) from Qp.nd_word hfd)
      clear HL hK hfd HFD
      obtain ⟨u0, u1, u2⟩ := (unhide HL2).q
      have hzr := (unhide HL2).lt
      go_wp2_with fail
      refine (askWord_any 10 rfl _).mono ?_
      rintro r w3 ⟨rfl, hb3⟩
      have HL3 := hide ((unhide HL2).below hb3)
      have hs3 := hb3.size
      clear hb3 u0 u1 u2
      go_wp2_with fail
      refine ((unhide HND) (Qk.word 10) i false hi w3 (unhide HL3).r ((unhide HR) _ (unhide HL3).b)).mono ?_
      rw [unhide HNW]
      rintro r V ⟨rfl, hrdV, hbV⟩
      have HRV := hide hrdV
      have HQV := hide (show Qk.Lies V (w.heap.size + 1) 0 ⟨10, 0, ⟨none, 0, 0⟩⟩ ∧ Qp.Z3 V (w.heap.size + 1) ∧ Qp.Z3 V w.heap.size from And.intro ((unhide HL3).q.but hbV (by omega)) (And.intro ((unhide HL3).y.but hbV (by omega)) ((unhide HL3).z.but hbV (by omega))))
      have HBV := hide ((unhide HL3).b.trans hbV (unhide HL3).b.size)
      have hsV := hbV.size
      have hzV := (unhide HQV).2.1.lt
      clear hrdV hbV
      obtain ⟨u0, u1, u2⟩ := (unhide HQV).1
      go_wp2_with fail
      clear u0 u1 u2
      have HNR := hide (show Qp.NR (if 0 < Qk.most (((10 : Nat) : Nat) : Int) then Qp.num l (Qk.least (((10 : Nat) : Nat) : Int)) (i + 1) else .ok (0, i + 1)) 0 (i + 1) false from ⟨rfl, rfl, rfl⟩)
      have HQU := HQV
      have HRU := HRV
      have HBU := HBV
      generalize hVU : V = U at *
      refine (AskArgs_any 10 U).mono ?_
      rintro r w7 ⟨rfl, hw7⟩
      obtain rfl : U = w7 := hw7.symm
      rw [show Qk.argsN 10 = 1 from rfl]
      obtain ⟨y0, y1, y2⟩ := (unhide HQU).1
      by_cases ha6 : a = 60
      · have hrec := (unhide HQH).1 ha6
        have ha7 : ((a : Int) == 60) = true := by rw [ha6]; rfl
        obtain ⟨v0, m0⟩ := (unhide HQU).2.2.c0
        obtain ⟨v1, m1⟩ := (unhide HQU).2.2.c1
        obtain ⟨v2, m2⟩ := (unhide HQU).2.2.c2
        have z0 := (unhide HQU).2.2.f 0
        have z1 := (unhide HQU).2.2.f 1
        have z2 := (unhide HQU).2.2.f 2
        obtain ⟨r0, r1, r2, r3, rf1, rf3⟩ := unhide HRU
        have hzU2 := (unhide HQU).2.1.lt
        have hneq : bp ≠ w.heap.size := by omega
        have hneq2 : bp ≠ w.heap.size + 1 := by omega
        have HSR := hide (Qp.ret3 ((unhide HQU).2.2.kept (show (U.setCell ⟨bp, 3, none⟩ (.bool true)).heap[w.heap.size]? = U.heap[w.heap.size]? from Below.heap_setCell _ _ _ _ (show w.heap.size ≠ bp by omega))) (.int .i64 10) (.int .i64 (0)) (.slice none 0 0))
        have HRF := hide (unhide HRU).fail
        have HBF := hide ((unhide HBU).set (o := 3) (.bool true))
        clear ha6
        go_wp2_with fail
        obtain ⟨⟨s0, s1, s2⟩, hsS, hbS, haS, hkS⟩ := unhide HSR
        refine bodyPost_ret (v := .agg #[.int .i64 10, .int .i64 (0), .slice none 0 0]) (by simp [results, Tryz.results34, go_sem, s0, s1, s2]) rfl ?_
        refine ⟨⟨10, 0, ⟨none, 0, 0⟩⟩, i + 1, true, rfl, (unhide HRF).kept (hkS bp (by omega)), (unhide HBF).below hbS, by omega, ?_⟩
        have hnr := unhide HNR
        rw [unhide HO2]
        cases hres : (if 0 < Qk.most (((10 : Nat) : Nat) : Int) then Qp.num l (Qk.least (((10 : Nat) : Nat) : Int)) (i + 1) else .ok (0, i + 1)) with
        | error j' => rw [hres] at hnr; exact ⟨rfl, hnr.2⟩
        | ok p =>
          obtain ⟨m, j'⟩ := p
          rw [hres] at hnr
          obtain ⟨hg1, hj1, hm1⟩ := hnr
          simp only [show Qk.argsN (((10 : Nat) : Nat) : Int) = 1 from rfl, if_true, hrec j']
          exact ⟨trivial, hj1⟩
      · have ha7 : ((a : Int) == 60) = false := by simp; omega
        have HQ1 := hide ((unhide HQH).2 (by omega))
        go_wp2_with fail
        refine ((unhide HQ1) (i + 1) false U (unhide HRU) ((unhide HR) _ (unhide HBU)) (by omega)).mono ?_
        rintro r w8 ⟨E, j8, g8, rfl, hrd8, hb8, hj8, hst8⟩
        have HST8 := hide (show (match Qp.orec rec (i + 1) false with | .error j' => g8 = true ∧ j8 = j' | .ok (x, j') => g8 = false ∧ j8 = j' ∧ Qp.RO U.heap.size w8 d E x) from hst8)
        have HR8 := hide hrd8
        have HQ8 := hide (And.intro ((unhide HQU).1.but hb8 (by omega)) (And.intro ((unhide HQU).2.1.but hb8 (by omega)) ((unhide HQU).2.2.but hb8 (by omega))))
        have HB8 := hide ((unhide HBU).trans hb8 (unhide HBU).size)
        have hs8 := hb8.size
        have hzU3 := (unhide HQU).2.1.lt
        clear hrd8 hb8 hst8 y0 y1 y2
        obtain ⟨y0, y1, y2⟩ := (unhide HQ8).1
        have yf := (unhide HQ8).2.1.f 2
        have hy8 := (unhide HQ8).2.1.lt
        obtain ⟨v0, m0⟩ := (unhide HQ8).2.2.c0
        obtain ⟨v1, m1⟩ := (unhide HQ8).2.2.c1
        obtain ⟨v2, m2⟩ := (unhide HQ8).2.2.c2
        have z0 := (unhide HQ8).2.2.f 0
        have z1 := (unhide HQ8).2.2.f 1
        have z2 := (unhide HQ8).2.2.f 2
        have hneA : w.heap.size ≠ w.heap.size + 1 := by omega
        have hneB : w.heap.size + 1 ≠ w.heap.size := by omega
        have hltw := (unhide HQ8).2.2.lt
        have hk9 : ∀ q, q ≠ w.heap.size + 1 → (w8.setCell ⟨w.heap.size + 1, 2, none⟩ (.slice (some ⟨w8.heap.size + 1, 0, none⟩) 1 1)).heap[q]? = w8.heap[q]? := fun q hq => Below.heap_setCell _ _ _ _ hq
        have HS9 := hide (show (w8.setCell ⟨w.heap.size + 1, 2, none⟩ (.slice (some ⟨w8.heap.size + 1, 0, none⟩) 1 1)).heap.size = w8.heap.size by simp [World.setCell])
        have HZ9 := hide ((unhide HQ8).2.2.kept (hk9 w.heap.size hneA))
        have HR9 := hide ((unhide HR8).kept (hk9 bp (by omega)))
        have HB9 := hide ((unhide HB8).below (Qp.set_below (W := w8) (b := w.heap.size + 1) (o := 2) (.slice (some ⟨w8.heap.size + 1, 0, none⟩) 1 1) (show w.heap.size ≤ w.heap.size + 1 by omega)))
        have HA9 := hide (Qp.Ab.set (o := 2) w8 (.slice (some ⟨w8.heap.size + 1, 0, none⟩) 1 1) (show w.heap.size + 1 < w.heap.size + 2 by omega))
        have HSR := hide (Qp.ret3 (unhide HZ9) (.int .i64 10) (.int .i64 (0)) (.slice (some ⟨w8.heap.size + 1, 0, none⟩) 1 1))
        clear hk9
        go_wp2_with fail
        generalize (w8.setCell ⟨w.heap.size + 1, 2, none⟩ (.slice (some ⟨w8.heap.size + 1, 0, none⟩) 1 1)) = w9 at *
        obtain ⟨⟨s0, s1, s2⟩, hsS, hbS, haS, hkS⟩ := unhide HSR
        generalize (((w9.setCell ⟨w.heap.size, 0, none⟩ (.int .i64 10)).setCell ⟨w.heap.size, 1, none⟩ (.int .i64 (0))).setCell ⟨w.heap.size, 2, none⟩ (.slice (some ⟨w8.heap.size + 1, 0, none⟩) 1 1)) = S at *
        have hs9 := unhide HS9
        have hsS8 : w8.heap.size = S.heap.size := by omega
        rw [hsS8] at s2 ⊢
        have hbV1 := (Below.refl S.heap.size S).alloc (Nat.le_refl _) (Obj.cells #[.int .i64 E.k, .int .i64 E.n, .slice E.args.ad E.args.len E.args.cap] 24)
        have hsV1 : (S.alloc (Obj.cells #[.int .i64 E.k, .int .i64 E.n, .slice E.args.ad E.args.len E.args.cap] 24)).heap.size = S.heap.size + 1 := by simp
        have hbV2 := hbV1.alloc hbV1.size (Obj.cells #[.int .i64 E.k, .int .i64 E.n, .slice E.args.ad E.args.len E.args.cap] 24)
        have s3 : w.heap.size < S.heap.size := by omega
        have s4 : w.heap.size < S.heap.size + 1 := by omega
        refine bodyPost_ret (v := .agg #[.int .i64 10, .int .i64 (0), .slice (some ⟨S.heap.size + 1, 0, none⟩) 1 1]) (by simp [results, Tryz.results34, go_sem, s0, s1, s2, s3, s4]) rfl ?_
        refine ⟨⟨10, 0, ⟨some ⟨S.heap.size + 1, 0, none⟩, 1, 1⟩⟩, j8, g8, rfl, ((unhide HR9).kept (hkS bp (by omega))).below hbV2, ((unhide HB9).below hbS).below (hbV2.mono (by omega)), hj8, ?_⟩
        have hnr := unhide HNR
        have hst8 := unhide HST8
        rw [unhide HO2]
        cases hres : (if 0 < Qk.most (((10 : Nat) : Nat) : Int) then Qp.num l (Qk.least (((10 : Nat) : Nat) : Int)) (i + 1) else .ok (0, i + 1)) with
        | error j' =>
          rw [hres] at hnr
          have hg1 : false = true := hnr.1
          have hor : Qp.orec rec (i + 1) false = .error (i + 1) := by rw [hg1]; rfl
          rw [hor] at hst8
          exact ⟨hst8.1, hst8.2.trans hnr.2⟩
        | ok p =>
          obtain ⟨m, j'⟩ := p
          rw [hres] at hnr
          obtain ⟨hg1, hj1, hm1⟩ := hnr
          have hor : Qp.orec rec (i + 1) false = rec j' := by rw [hg1, hj1]; rfl
          rw [hor] at hst8
          simp only [show Qk.argsN (((10 : Nat) : Nat) : Int) = 1 from rfl, if_true]
          cases hrj : rec j' with
          | error j'' => rw [hrj] at hst8; exact hst8
          | ok px =>
            obtain ⟨x, j''⟩ := px
            rw [hrj] at hst8
            obtain ⟨hg8, hj9, hro⟩ := hst8
            have hr1 := ((((hro.mono (show w.heap.size + 2 ≤ U.heap.size by omega)).ab (unhide HA9)).ab (haS _ (by omega))).ab (Qp.Ab.of_below hbV2))
            have hL1 := Qp.lies_new (S.alloc (Obj.cells #[.int .i64 E.k, .int .i64 E.n, .slice E.args.ad E.args.len E.args.cap] 24)) E
            rw [hsV1] at hL1
            subst hm1
            exact ⟨hg8, hj9, (Qp.RO.one hL1 (by omega) hr1).mono (by omega)⟩

set_option maxRecDepth 100000 in
set_option maxHeartbeats 3200000 in
theorem Ask_k11 (l : List Qp.T) (ta : Option Addr) (c bp i a d : Nat) (e : Int) (w : World) (hp : Qp.Rd w bp ta l.length c (i : Nat) e false) (hr : Qp.RT w ta l) (hne : ∀ b o, ta = some ⟨b, o, none⟩ → b ≠ bp) (hf : l.length ≤ 10000) (hg : Qp.Good l) (hi : i ≤ l.length) (ha : a ≤ 60) (hin : Qp.inW [⟨#[40]⟩] (Qp.tk l i).t = false)
    (rec : Nat → Except Nat (Qk.AT d × Nat)) (h60 : a = 60 → ∀ k, rec k = .error k)
    (HQ : a < 60 → ∀ (k : Nat) (f : Bool) (W : World), Qp.Rd W bp ta l.length c (k : Nat) e f → Qp.RT W ta l → k ≤ l.length → Calls Tryz.prog 34 #[.pointer (some ⟨bp, 0, none⟩), .int .i64 ((a : Int) + 1)] W (Qp.AskP bp ta l c e W (Qp.orec rec k f)))
    (hfd : Qp.find Qp.ones (Qp.tk l i).t = some 11) :
    Calls Tryz.prog 34 #[.pointer (some ⟨bp, 0, none⟩), .int .i64 (a : Nat)] w (Qp.AskP bp ta l c e w (Qp.wordF l rec i)) := by
  have HR := hide (fun (W : World) (hb : Qk.But1 bp w.heap.size w W) => hr.but hne hb)
  have HTT := hide (fun (k : Nat) (f : Bool) (hk : k ≤ l.length) (W : World) (h1 : Qp.Rd W bp ta l.length c (k : Nat) e f) (h2 : Qp.RT W ta l) => Text_any l ta c bp k e f W h1 h2 hf (by omega))
  have HND := hide (fun (s : ByteArray) (k : Nat) (f : Bool) (hk : k ≤ l.length) (W : World) (h1 : Qp.Rd W bp ta l.length c (k : Nat) e f) (h2 : Qp.RT W ta l) => Need_any l s ta c bp k e f W h1 h2 hf (by omega))
  have HNU := hide (fun (k : Nat) (f : Bool) (hk : k ≤ l.length) (W : World) (h1 : Qp.Rd W bp ta l.length c (k : Nat) e f) (h2 : Qp.RT W ta l) => Number_any l ta c bp k e f W h1 h2 hf (by omega) hg)
  have HT := hide (fun (W : World) => (unhide HTT) i false hi W)
  have HGD := hide hg
  have hop := Qp.rt_in hin
  rw [Qp.toList_40] at hop
  have HQH := hide (And.intro h60 HQ)
  have HP := hide hp
  have hblt := hp.lt
  obtain ⟨o, ho⟩ : ∃ o, Qp.wordF l rec i = o := ⟨_, rfl⟩
  rw [ho]
  have HO := hide ho
  have HFD := hide hfd
  clear HQ hp hr hin ho h60 hg
  go_enter Tryz.func34, Tryz.ntmps34
  go_wp2_with fail
  have hLA : Qp.Lp w ((w.alloc (Obj.cells #[.int .i64 0, .int .i64 0, .slice none 0 0] 24)).alloc (Obj.cells #[.int .i64 0, .int .i64 0, .slice none 0 0] 24)) ((w.alloc (Obj.cells #[.int .i64 0, .int .i64 0, .slice none 0 0] 24)).alloc (Obj.cells #[.int .i64 0, .int .i64 0, .slice none 0 0] 24)) bp ta l.length c i e false 0 :=
    have hb := ((Below.refl w.heap.size w).alloc (Nat.le_refl _) (Obj.cells #[.int .i64 0, .int .i64 0, .slice none 0 0] 24)).alloc (by simp) (Obj.cells #[.int .i64 0, .int .i64 0, .slice none 0 0] 24)
    ⟨⟨by go_simp, by go_simp, by go_simp⟩, ⟨⟨.int .i64 0, by go_simp⟩, ⟨.int .i64 0, by go_simp⟩, ⟨.slice none 0 0, by go_simp⟩, fun i => by go_simp⟩, ⟨⟨.int .i64 0, by go_simp⟩, ⟨.int .i64 0, by go_simp⟩, ⟨.slice none 0 0, by go_simp⟩, fun i => by go_simp⟩, (unhide HP).below hb, (Qk.But1.refl bp w.heap.size w).below hb, Qp.Ab.refl _ _⟩
  have hsA : ((w.alloc (Obj.cells #[.int .i64 0, .int .i64 0, .slice none 0 0] 24)).alloc (Obj.cells #[.int .i64 0, .int .i64 0, .slice none 0 0] 24)).heap.size = w.heap.size + 2 := by simp
  have HLA := hide hLA
  clear hLA
  generalize ((w.alloc (Obj.cells #[.int .i64 0, .int .i64 0, .slice none 0 0] 24)).alloc (Obj.cells #[.int .i64 0, .int .i64 0, .slice none 0 0] 24)) = WA at *
  refine ((unhide HTT) i false hi _ (unhide HLA).r ((unhide HR) _ (unhide HLA).b)).mono ?_
  rintro r w0 ⟨rfl, hb0⟩
  have HL0 := hide (show Qp.Lp w w0 w0 bp ta l.length c i e false (Qp.fnd false (Qp.rt l i false) 1) from ⟨((unhide HLA).below hb0).q, ((unhide HLA).below hb0).y, ((unhide HLA).below hb0).z, ((unhide HLA).below hb0).r, ((unhide HLA).below hb0).b, Qp.Ab.refl _ _⟩)
  clear hb0
  go_wp2_with fail
  go_loopw [9] (fun v wr => ∃ k : Nat, 1 ≤ k ∧ k ≤ 15 ∧ v = .int .i64 ((k : Nat) : Int) ∧ Qp.Lp w w0 wr bp ta l.length c (i) e false (Qp.fnd false (Qp.rt l (i) false) k)) (fun v _ => 15 - (intOf v).toNat)
  case atStart => exact ⟨1, Nat.le_refl _, by decide, rfl, unhide HL0⟩
  case round =>
    obtain ⟨k, hk1, hk2, rfl, hL⟩ := hrel
    have HL := hide hL
    clear hL
    by_cases hk : k ≤ 14
    · have hk3 : (k : Int) ≤ 14 := by omega
      obtain ⟨u0, u1, u2⟩ := (unhide HL).q
      have uf := (unhide HL).y.f 0
      have hz := (unhide HL).lt
      go_wp2_with fail
      refine (AskArgs_any ((k : Nat) : Int) _).mono ?_
      rintro r w1 ⟨rfl, hw1⟩
      obtain rfl : wr = w1 := hw1.symm
      by_cases hA : Qk.argsN ((k : Nat) : Int) < 2
      · have hA1 : ((Qk.argsN ((k : Nat) : Int) : Nat) : Int) < 2 := by omega
        have hA2 : decide (Qk.argsN ((k : Nat) : Int) = 2) = false := by simp; omega
        go_wp2_with fail
        refine ((unhide HT) _ (unhide HL).r ((unhide HR) _ (unhide HL).b)).mono ?_
        rintro r w2 ⟨rfl, hb2⟩
        have HL2 := hide ((unhide HL).below hb2)
        clear hb2
        go_wp2_with fail
        refine (askWord_any ((k : Nat) : Int) (Qk.isK_nat k (by omega) (by omega)) _).mono ?_
        rintro r w3 ⟨rfl, hb3⟩
        have HL3 := hide ((unhide HL2).below hb3)
        clear hb3 u0 u1 u2 uf hz
        obtain ⟨u0, u1, u2⟩ := (unhide HL3).q
        have uf := (unhide HL3).y.f 0
        have hz := (unhide HL3).lt
        cases htx : ((Qp.rt l (i) false).toList == (Qk.word ((k : Nat) : Int)).toList)
        · have HN := hide (show Qp.fnd false (Qp.rt l (i) false) (k + 1) = Qp.fnd false (Qp.rt l (i) false) k by
            show (if (decide (Qk.argsN ((k : Nat) : Int) = 2) == false && (decide (1 ≤ k) && ((Qp.rt l (i) false).toList == (Qk.word ((k : Nat) : Int)).toList))) = true then k else _) = _
            rw [htx]; simp)
          go_wp2_with fail
          go_round
          case rel => exact ⟨k + 1, by omega, by omega, by go_num, by rw [unhide HN]; exact unhide HL3⟩
          case measure => simp [intOf]; omega
        · have HN := hide (show Qp.fnd false (Qp.rt l (i) false) (k + 1) = k by
            show (if (decide (Qk.argsN ((k : Nat) : Int) = 2) == false && (decide (1 ≤ k) && ((Qp.rt l (i) false).toList == (Qk.word ((k : Nat) : Int)).toList))) = true then k else _) = _
            rw [htx, hA2, decide_eq_true (show 1 ≤ k by omega)]; rfl)
          go_wp2_with fail
          go_round
          case rel => exact ⟨k + 1, by omega, by omega, by go_num, by rw [unhide HN]; exact (unhide HL3).set hblt k⟩
          case measure => simp [intOf]; omega
      · have hA1 : ¬ ((Qk.argsN ((k : Nat) : Int) : Nat) : Int) < 2 := by omega
        have hA2 : decide (Qk.argsN ((k : Nat) : Int) = 2) = true := by have := Qk.args_two (k := ((k : Nat) : Int)); simp; omega
        have HN := hide (show Qp.fnd false (Qp.rt l (i) false) (k + 1) = Qp.fnd false (Qp.rt l (i) false) k by
          show (if (decide (Qk.argsN ((k : Nat) : Int) = 2) == false && (decide (1 ≤ k) && ((Qp.rt l (i) false).toList == (Qk.word ((k : Nat) : Int)).toList))) = true then k else _) = _
          rw [hA2]; rfl)
        go_wp2_with fail
        go_round
        case rel => exact ⟨k + 1, by omega, by omega, by go_num, by rw [unhide HN]; exact unhide HL⟩
        case measure => simp [intOf]; omega
    · have hk3 : ¬ (k : Int) ≤ 14 := by omega
      obtain rfl : k = 15 := by omega
      have hK : Qp.fnd false (Qp.rt l i false) 15 = 11 := by
        have e := (Qp.fnd_is (Qp.tk l i).t).1
        rw [hfd] at e
        exact e
      have HL2 := hide (show Qp.Lp w w0 wr bp ta l.length c i e false 11 by rw [← hK]; exact unhide HL)
      have HO2 := hide (show o = _ from (unhide HO).symm.trans (Qp.wordF_at hfd))
      have hjl : i < l.length := by
        by_cases hh : i < l.length
        · exact hh
        · have := (Qp.find_some hfd).1
          rw [Qp.tk_none (by omega)] at this
          exact absurd (congrArg ByteArray.toList this).symm (by rw [Qp.empty_eq]; exact Qp.word_ne (by decide) (by decide))
      have HNW := hide (show Qp.nd l (Qk.word 11) i false = (i + 1, false) from Qp.nd_word hfd)
      clear HL hK hfd HFD
      obtain ⟨u0, u1, u2⟩ := (unhide HL2).q
      have hzr := (unhide HL2).lt
      go_wp2_with fail
      refine (askWord_any 11 rfl _).mono ?_
      rintro r w3 ⟨rfl, hb3⟩
      have HL3 := hide ((unhide HL2).below hb3)
      have hs3 := hb3.size
      clear hb3 u0 u1 u2
      go_wp2_with fail
      refine ((unhide HND) (Qk.word 11) i false hi w3 (unhide HL3).r ((unhide HR) _ (unhide HL3).b)).mono ?_
      rw [unhide HNW]
      rintro r V ⟨rfl, hrdV, hbV⟩
      have HRV := hide hrdV
      have HQV := hide (show Qk.Lies V (w.heap.size + 1) 0 ⟨11, 0, ⟨none, 0, 0⟩⟩ ∧ Qp.Z3 V (w.heap.size + 1) ∧ Qp.Z3 V w.heap.size from And.intro ((unhide HL3).q.but hbV (by omega)) (And.intro ((unhide HL3).y.but hbV (by omega)) ((unhide HL3).z.but hbV (by omega))))
      have HBV := hide ((unhide HL3).b.trans hbV (unhide HL3).b.size)
      have hsV := hbV.size
      have hzV := (unhide HQV).2.1.lt
      clear hrdV hbV
      obtain ⟨u0, u1, u2⟩ := (unhide HQV).1
      go_wp2_with fail
      clear u0 u1 u2
      have HNR := hide (show Qp.NR (if 0 < Qk.most (((11 : Nat) : Nat) : Int) then Qp.num l (Qk.least (((11 : Nat) : Nat) : Int)) (i + 1) else .ok (0, i + 1)) 0 (i + 1) false from ⟨rfl, rfl, rfl⟩)
      have HQU := HQV
      have HRU := HRV
      have HBU := HBV
      generalize hVU : V = U at *
      refine (AskArgs_any 11 U).mono ?_
      rintro r w7 ⟨rfl, hw7⟩
      obtain rfl : U = w7 := hw7.symm
      rw [show Qk.argsN 11 = 1 from rfl]
      obtain ⟨y0, y1, y2⟩ := (unhide HQU).1
      by_cases ha6 : a = 60
      · have hrec := (unhide HQH).1 ha6
        have ha7 : ((a : Int) == 60) = true := by rw [ha6]; rfl
        obtain ⟨v0, m0⟩ := (unhide HQU).2.2.c0
        obtain ⟨v1, m1⟩ := (unhide HQU).2.2.c1
        obtain ⟨v2, m2⟩ := (unhide HQU).2.2.c2
        have z0 := (unhide HQU).2.2.f 0
        have z1 := (unhide HQU).2.2.f 1
        have z2 := (unhide HQU).2.2.f 2
        obtain ⟨r0, r1, r2, r3, rf1, rf3⟩ := unhide HRU
        have hzU2 := (unhide HQU).2.1.lt
        have hneq : bp ≠ w.heap.size := by omega
        have hneq2 : bp ≠ w.heap.size + 1 := by omega
        have HSR := hide (Qp.ret3 ((unhide HQU).2.2.kept (show (U.setCell ⟨bp, 3, none⟩ (.bool true)).heap[w.heap.size]? = U.heap[w.heap.size]? from Below.heap_setCell _ _ _ _ (show w.heap.size ≠ bp by omega))) (.int .i64 11) (.int .i64 (0)) (.slice none 0 0))
        have HRF := hide (unhide HRU).fail
        have HBF := hide ((unhide HBU).set (o := 3) (.bool true))
        clear ha6
        go_wp2_with fail
        obtain ⟨⟨s0, s1, s2⟩, hsS, hbS, haS, hkS⟩ := unhide HSR
        refine bodyPost_ret (v := .agg #[.int .i64 11, .int .i64 (0), .slice none 0 0]) (by simp [results, Tryz.results34, go_sem, s0, s1, s2]) rfl ?_
        refine ⟨⟨11, 0, ⟨none, 0, 0⟩⟩, i + 1, true, rfl, (unhide HRF).kept (hkS bp (by omega)), (unhide HBF).below hbS, by omega, ?_⟩
        have hnr := unhide HNR
        rw [unhide HO2]
        cases hres : (if 0 < Qk.most (((11 : Nat) : Nat) : Int) then Qp.num l (Qk.least (((11 : Nat) : Nat) : Int)) (i + 1) else .ok (0, i + 1)) with
        | error j' => rw [hres] at hnr; exact ⟨rfl, hnr.2⟩
        | ok p =>
          obtain ⟨m, j'⟩ := p
          rw [hres] at hnr
          obtain ⟨hg1, hj1, hm1⟩ := hnr
          simp only [show Qk.argsN (((11 : Nat) : Nat) : Int) = 1 from rfl, if_true, hrec j']
          exact ⟨trivial, hj1⟩
      · have ha7 : ((a : Int) == 60) = false := by simp; omega
        have HQ1 := hide ((unhide HQH).2 (by omega))
        go_wp2_with fail
        refine ((unhide HQ1) (i + 1) false U (unhide HRU) ((unhide HR) _ (unhide HBU)) (by omega)).mono ?_
        rintro r w8 ⟨E, j8, g8, rfl, hrd8, hb8, hj8, hst8⟩
        have HST8 := hide (show (match Qp.orec rec (i + 1) false with | .error j' => g8 = true ∧ j8 = j' | .ok (x, j') => g8 = false ∧ j8 = j' ∧ Qp.RO U.heap.size w8 d E x) from hst8)
        have HR8 := hide hrd8
        have HQ8 := hide (And.intro ((unhide HQU).1.but hb8 (by omega)) (And.intro ((unhide HQU).2.1.but hb8 (by omega)) ((unhide HQU).2.2.but hb8 (by omega))))
        have HB8 := hide ((unhide HBU).trans hb8 (unhide HBU).size)
        have hs8 := hb8.size
        have hzU3 := (unhide HQU).2.1.lt
        clear hrd8 hb8 hst8 y0 y1 y2
        obtain ⟨y0, y1, y2⟩ := (unhide HQ8).1
        have yf := (unhide HQ8).2.1.f 2
        have hy8 := (unhide HQ8).2.1.lt
        obtain ⟨v0, m0⟩ := (unhide HQ8).2.2.c0
        obtain ⟨v1, m1⟩ := (unhide HQ8).2.2.c1
        obtain ⟨v2, m2⟩ := (unhide HQ8).2.2.c2
        have z0 := (unhide HQ8).2.2.f 0
        have z1 := (unhide HQ8).2.2.f 1
        have z2 := (unhide HQ8).2.2.f 2
        have hneA : w.heap.size ≠ w.heap.size + 1 := by omega
        have hneB : w.heap.size + 1 ≠ w.heap.size := by omega
        have hltw := (unhide HQ8).2.2.lt
        have hk9 : ∀ q, q ≠ w.heap.size + 1 → (w8.setCell ⟨w.heap.size + 1, 2, none⟩ (.slice (some ⟨w8.heap.size + 1, 0, none⟩) 1 1)).heap[q]? = w8.heap[q]? := fun q hq => Below.heap_setCell _ _ _ _ hq
        have HS9 := hide (show (w8.setCell ⟨w.heap.size + 1, 2, none⟩ (.slice (some ⟨w8.heap.size + 1, 0, none⟩) 1 1)).heap.size = w8.heap.size by simp [World.setCell])
        have HZ9 := hide ((unhide HQ8).2.2.kept (hk9 w.heap.size hneA))
        have HR9 := hide ((unhide HR8).kept (hk9 bp (by omega)))
        have HB9 := hide ((unhide HB8).below (Qp.set_below (W := w8) (b := w.heap.size + 1) (o := 2) (.slice (some ⟨w8.heap.size + 1, 0, none⟩) 1 1) (show w.heap.size ≤ w.heap.size + 1 by omega)))
        have HA9 := hide (Qp.Ab.set (o := 2) w8 (.slice (some ⟨w8.heap.size + 1, 0, none⟩) 1 1) (show w.heap.size + 1 < w.heap.size + 2 by omega))
        have HSR := hide (Qp.ret3 (unhide HZ9) (.int .i64 11) (.int .i64 (0)) (.slice (some ⟨w8.heap.size + 1, 0, none⟩) 1 1))
        clear hk9
        go_wp2_with fail
        generalize (w8.setCell ⟨w.heap.size + 1, 2, none⟩ (.slice (some ⟨w8.heap.size + 1, 0, none⟩) 1 1)) = w9 at *
        obtain ⟨⟨s0, s1, s2⟩, hsS, hbS, haS, hkS⟩ := unhide HSR
        generalize (((w9.setCell ⟨w.heap.size, 0, none⟩ (.int .i64 11)).setCell ⟨w.heap.size, 1, none⟩ (.int .i64 (0))).setCell ⟨w.heap.size, 2, none⟩ (.slice (some ⟨w8.heap.size + 1, 0, none⟩) 1 1)) = S at *
        have hs9 := unhide HS9
        have hsS8 : w8.heap.size = S.heap.size := by omega
        rw [hsS8] at s2 ⊢
        have hbV1 := (Below.refl S.heap.size S).alloc (Nat.le_refl _) (Obj.cells #[.int .i64 E.k, .int .i64 E.n, .slice E.args.ad E.args.len E.args.cap] 24)
        have hsV1 : (S.alloc (Obj.cells #[.int .i64 E.k, .int .i64 E.n, .slice E.args.ad E.args.len E.args.cap] 24)).heap.size = S.heap.size + 1 := by simp
        have hbV2 := hbV1.alloc hbV1.size (Obj.cells #[.int .i64 E.k, .int .i64 E.n, .slice E.args.ad E.args.len E.args.cap] 24)
        have s3 : w.heap.size < S.heap.size := by omega
        have s4 : w.heap.size < S.heap.size + 1 := by omega
        refine bodyPost_ret (v := .agg #[.int .i64 11, .int .i64 (0), .slice (some ⟨S.heap.size + 1, 0, none⟩) 1 1]) (by simp [results, Tryz.results34, go_sem, s0, s1, s2, s3, s4]) rfl ?_
        refine ⟨⟨11, 0, ⟨some ⟨S.heap.size + 1, 0, none⟩, 1, 1⟩⟩, j8, g8, rfl, ((unhide HR9).kept (hkS bp (by omega))).below hbV2, ((unhide HB9).below hbS).below (hbV2.mono (by omega)), hj8, ?_⟩
        have hnr := unhide HNR
        have hst8 := unhide HST8
        rw [unhide HO2]
        cases hres : (if 0 < Qk.most (((11 : Nat) : Nat) : Int) then Qp.num l (Qk.least (((11 : Nat) : Nat) : Int)) (i + 1) else .ok (0, i + 1)) with
        | error j' =>
          rw [hres] at hnr
          have hg1 : false = true := hnr.1
          have hor : Qp.orec rec (i + 1) false = .error (i + 1) := by rw [hg1]; rfl
          rw [hor] at hst8
          exact ⟨hst8.1, hst8.2.trans hnr.2⟩
        | ok p =>
          obtain ⟨m, j'⟩ := p
          rw [hres] at hnr
          obtain ⟨hg1, hj1, hm1⟩ := hnr
          have hor : Qp.orec rec (i + 1) false = rec j' := by rw [hg1, hj1]; rfl
          rw [hor] at hst8
          simp only [show Qk.argsN (((11 : Nat) : Nat) : Int) = 1 from rfl, if_true]
          cases hrj : rec j' with
          | error j'' => rw [hrj] at hst8; exact hst8
          | ok px =>
            obtain ⟨x, j''⟩ := px
            rw [hrj] at hst8
            obtain ⟨hg8, hj9, hro⟩ := hst8
            have hr1 := ((((hro.mono (show w.heap.size + 2 ≤ U.heap.size by omega)).ab (unhide HA9)).ab (haS _ (by omega))).ab (Qp.Ab.of_below hbV2))
            have hL1 := Qp.lies_new (S.alloc (Obj.cells #[.int .i64 E.k, .int .i64 E.n, .slice E.args.ad E.args.len E.args.cap] 24)) E
            rw [hsV1] at hL1
            subst hm1
            exact ⟨hg8, hj9, (Qp.RO.one hL1 (by omega) hr1).mono (by omega)⟩

set_option maxRecDepth 100000 in
set_option maxHeartbeats 3200000 in
theorem Ask_k12 (l : List Qp.T) (ta : Option Addr) (c bp i a d : Nat) (e : Int) (w : World) (hp : Qp.Rd w bp ta l.length c (i : Nat) e false) (hr : Qp.RT w ta l) (hne : ∀ b o, ta = some ⟨b, o, none⟩ → b ≠ bp) (hf : l.length ≤ 10000) (hg : Qp.Good l) (hi : i ≤ l.length) (ha : a ≤ 60) (hin : Qp.inW [⟨#[40]⟩] (Qp.tk l i).t = false)
    (rec : Nat → Except Nat (Qk.AT d × Nat)) (h60 : a = 60 → ∀ k, rec k = .error k)
    (HQ : a < 60 → ∀ (k : Nat) (f : Bool) (W : World), Qp.Rd W bp ta l.length c (k : Nat) e f → Qp.RT W ta l → k ≤ l.length → Calls Tryz.prog 34 #[.pointer (some ⟨bp, 0, none⟩), .int .i64 ((a : Int) + 1)] W (Qp.AskP bp ta l c e W (Qp.orec rec k f)))
    (hfd : Qp.find Qp.ones (Qp.tk l i).t = some 12) :
    Calls Tryz.prog 34 #[.pointer (some ⟨bp, 0, none⟩), .int .i64 (a : Nat)] w (Qp.AskP bp ta l c e w (Qp.wordF l rec i)) := by
  have HR := hide (fun (W : World) (hb : Qk.But1 bp w.heap.size w W) => hr.but hne hb)
  have HTT := hide (fun (k : Nat) (f : Bool) (hk : k ≤ l.length) (W : World) (h1 : Qp.Rd W bp ta l.length c (k : Nat) e f) (h2 : Qp.RT W ta l) => Text_any l ta c bp k e f W h1 h2 hf (by omega))
  have HND := hide (fun (s : ByteArray) (k : Nat) (f : Bool) (hk : k ≤ l.length) (W : World) (h1 : Qp.Rd W bp ta l.length c (k : Nat) e f) (h2 : Qp.RT W ta l) => Need_any l s ta c bp k e f W h1 h2 hf (by omega))
  have HNU := hide (fun (k : Nat) (f : Bool) (hk : k ≤ l.length) (W : World) (h1 : Qp.Rd W bp ta l.length c (k : Nat) e f) (h2 : Qp.RT W ta l) => Number_any l ta c bp k e f W h1 h2 hf (by omega) hg)
  have HT := hide (fun (W : World) => (unhide HTT) i false hi W)
  have HGD := hide hg
  have hop := Qp.rt_in hin
  rw [Qp.toList_40] at hop
  have HQH := hide (And.intro h60 HQ)
  have HP := hide hp
  have hblt := hp.lt
  obtain ⟨o, ho⟩ : ∃ o, Qp.wordF l rec i = o := ⟨_, rfl⟩
  rw [ho]
  have HO := hide ho
  have HFD := hide hfd
  clear HQ hp hr hin ho h60 hg
  go_enter Tryz.func34, Tryz.ntmps34
  go_wp2_with fail
  have hLA : Qp.Lp w ((w.alloc (Obj.cells #[.int .i64 0, .int .i64 0, .slice none 0 0] 24)).alloc (Obj.cells #[.int .i64 0, .int .i64 0, .slice none 0 0] 24)) ((w.alloc (Obj.cells #[.int .i64 0, .int .i64 0, .slice none 0 0] 24)).alloc (Obj.cells #[.int .i64 0, .int .i64 0, .slice none 0 0] 24)) bp ta l.length c i e false 0 :=
    have hb := ((Below.refl w.heap.size w).alloc (Nat.le_refl _) (Obj.cells #[.int .i64 0, .int .i64 0, .slice none 0 0] 24)).alloc (by simp) (Obj.cells #[.int .i64 0, .int .i64 0, .slice none 0 0] 24)
    ⟨⟨by go_simp, by go_simp, by go_simp⟩, ⟨⟨.int .i64 0, by go_simp⟩, ⟨.int .i64 0, by go_simp⟩, ⟨.slice none 0 0, by go_simp⟩, fun i => by go_simp⟩, ⟨⟨.int .i64 0, by go_simp⟩, ⟨.int .i64 0, by go_simp⟩, ⟨.slice none 0 0, by go_simp⟩, fun i => by go_simp⟩, (unhide HP).below hb, (Qk.But1.refl bp w.heap.size w).below hb, Qp.Ab.refl _ _⟩
  have hsA : ((w.alloc (Obj.cells #[.int .i64 0, .int .i64 0, .slice none 0 0] 24)).alloc (Obj.cells #[.int .i64 0, .int .i64 0, .slice none 0 0] 24)).heap.size = w.heap.size + 2 := by simp
  have HLA := hide hLA
  clear hLA
  generalize ((w.alloc (Obj.cells #[.int .i64 0, .int .i64 0, .slice none 0 0] 24)).alloc (Obj.cells #[.int .i64 0, .int .i64 0, .slice none 0 0] 24)) = WA at *
  refine ((unhide HTT) i false hi _ (unhide HLA).r ((unhide HR) _ (unhide HLA).b)).mono ?_
  rintro r w0 ⟨rfl, hb0⟩
  have HL0 := hide (show Qp.Lp w w0 w0 bp ta l.length c i e false (Qp.fnd false (Qp.rt l i false) 1) from ⟨((unhide HLA).below hb0).q, ((unhide HLA).below hb0).y, ((unhide HLA).below hb0).z, ((unhide HLA).below hb0).r, ((unhide HLA).below hb0).b, Qp.Ab.refl _ _⟩)
  clear hb0
  go_wp2_with fail
  go_loopw [9] (fun v wr => ∃ k : Nat, 1 ≤ k ∧ k ≤ 15 ∧ v = .int .i64 ((k : Nat) : Int) ∧ Qp.Lp w w0 wr bp ta l.length c (i) e false (Qp.fnd false (Qp.rt l (i) false) k)) (fun v _ => 15 - (intOf v).toNat)
  case atStart => exact ⟨1, Nat.le_refl _, by decide, rfl, unhide HL0⟩
  case round =>
    obtain ⟨k, hk1, hk2, rfl, hL⟩ := hrel
    have HL := hide hL
    clear hL
    by_cases hk : k ≤ 14
    · have hk3 : (k : Int) ≤ 14 := by omega
      obtain ⟨u0, u1, u2⟩ := (unhide HL).q
      have uf := (unhide HL).y.f 0
      have hz := (unhide HL).lt
      go_wp2_with fail
      refine (AskArgs_any ((k : Nat) : Int) _).mono ?_
      rintro r w1 ⟨rfl, hw1⟩
      obtain rfl : wr = w1 := hw1.symm
      by_cases hA : Qk.argsN ((k : Nat) : Int) < 2
      · have hA1 : ((Qk.argsN ((k : Nat) : Int) : Nat) : Int) < 2 := by omega
        have hA2 : decide (Qk.argsN ((k : Nat) : Int) = 2) = false := by simp; omega
        go_wp2_with fail
        refine ((unhide HT) _ (unhide HL).r ((unhide HR) _ (unhide HL).b)).mono ?_
        rintro r w2 ⟨rfl, hb2⟩
        have HL2 := hide ((unhide HL).below hb2)
        clear hb2
        go_wp2_with fail
        refine (askWord_any ((k : Nat) : Int) (Qk.isK_nat k (by omega) (by omega)) _).mono ?_
        rintro r w3 ⟨rfl, hb3⟩
        have HL3 := hide ((unhide HL2).below hb3)
        clear hb3 u0 u1 u2 uf hz
        obtain ⟨u0, u1, u2⟩ := (unhide HL3).q
        have uf := (unhide HL3).y.f 0
        have hz := (unhide HL3).lt
        cases htx : ((Qp.rt l (i) false).toList == (Qk.word ((k : Nat) : Int)).toList)
        · have HN := hide (show Qp.fnd false (Qp.rt l (i) false) (k + 1) = Qp.fnd false (Qp.rt l (i) false) k by
            show (if (decide (Qk.argsN ((k : Nat) : Int) = 2) == false && (decide (1 ≤ k) && ((Qp.rt l (i) false).toList == (Qk.word ((k : Nat) : Int)).toList))) = true then k else _) = _
            rw [htx]; simp)
          go_wp2_with fail
          go_round
          case rel => exact ⟨k + 1, by omega, by omega, by go_num, by rw [unhide HN]; exact unhide HL3⟩
          case measure => simp [intOf]; omega
        · have HN := hide (show Qp.fnd false (Qp.rt l (i) false) (k + 1) = k by
            show (if (decide (Qk.argsN ((k : Nat) : Int) = 2) == false && (decide (1 ≤ k) && ((Qp.rt l (i) false).toList == (Qk.word ((k : Nat) : Int)).toList))) = true then k else _) = _
            rw [htx, hA2, decide_eq_true (show 1 ≤ k by omega)]; rfl)
          go_wp2_with fail
          go_round
          case rel => exact ⟨k + 1, by omega, by omega, by go_num, by rw [unhide HN]; exact (unhide HL3).set hblt k⟩
          case measure => simp [intOf]; omega
      · have hA1 : ¬ ((Qk.argsN ((k : Nat) : Int) : Nat) : Int) < 2 := by omega
        have hA2 : decide (Qk.argsN ((k : Nat) : Int) = 2) = true := by have := Qk.args_two (k := ((k : Nat) : Int)); simp; omega
        have HN := hide (show Qp.fnd false (Qp.rt l (i) false) (k + 1) = Qp.fnd false (Qp.rt l (i) false) k by
          show (if (decide (Qk.argsN ((k : Nat) : Int) = 2) == false && (decide (1 ≤ k) && ((Qp.rt l (i) false).toList == (Qk.word ((k : Nat) : Int)).toList))) = true then k else _) = _
          rw [hA2]; rfl)
        go_wp2_with fail
        go_round
        case rel => exact ⟨k + 1, by omega, by omega, by go_num, by rw [unhide HN]; exact unhide HL⟩
        case measure => simp [intOf]; omega
    · have hk3 : ¬ (k : Int) ≤ 14 := by omega
      obtain rfl : k = 15 := by omega
      have hK : Qp.fnd false (Qp.rt l i false) 15 = 12 := by
        have e := (Qp.fnd_is (Qp.tk l i).t).1
        rw [hfd] at e
        exact e
      have HL2 := hide (show Qp.Lp w w0 wr bp ta l.length c i e false 12 by rw [← hK]; exact unhide HL)
      have HO2 := hide (show o = _ from (unhide HO).symm.trans (Qp.wordF_at hfd))
      have hjl : i < l.length := by
        by_cases hh : i < l.length
        · exact hh
        · have := (Qp.find_some hfd).1
          rw [Qp.tk_none (by omega)] at this
          exact absurd (congrArg ByteArray.toList this).symm (by rw [Qp.empty_eq]; exact Qp.word_ne (by decide) (by decide))
      have HNW := hide (show Qp.nd l (Qk.word 12) i false = (i + 1, false) from Qp.nd_word hfd)
      clear HL hK hfd HFD
      obtain ⟨u0, u1, u2⟩ := (unhide HL2).q
      have hzr := (unhide HL2).lt
      go_wp2_with fail
      refine (askWord_any 12 rfl _).mono ?_
      rintro r w3 ⟨rfl, hb3⟩
      have HL3 := hide ((unhide HL2).below hb3)
      have hs3 := hb3.size
      clear hb3 u0 u1 u2
      go_wp2_with fail
      refine ((unhide HND) (Qk.word 12) i false hi w3 (unhide HL3).r ((unhide HR) _ (unhide HL3).b)).mono ?_
      rw [unhide HNW]
      rintro r V ⟨rfl, hrdV, hbV⟩
      have HRV := hide hrdV
      have HQV := hide (show Qk.Lies V (w.heap.size + 1) 0 ⟨12, 0, ⟨none, 0, 0⟩⟩ ∧ Qp.Z3 V (w.heap.size + 1) ∧ Qp.Z3 V w.heap.size from And.intro ((unhide HL3).q.but hbV (by omega)) (And.intro ((unhide HL3).y.but hbV (by omega)) ((unhide HL3).z.but hbV (by omega))))
      have HBV := hide ((unhide HL3).b.trans hbV (unhide HL3).b.size)
      have hsV := hbV.size
      have hzV := (unhide HQV).2.1.lt
      clear hrdV hbV
      obtain ⟨u0, u1, u2⟩ := (unhide HQV).1
      go_wp2_with fail
      clear u0 u1 u2
      have HNR := hide (show Qp.NR (if 0 < Qk.most (((12 : Nat) : Nat) : Int) then Qp.num l (Qk.least (((12 : Nat) : Nat) : Int)) (i + 1) else .ok (0, i + 1)) 0 (i + 1) false from ⟨rfl, rfl, rfl⟩)
      have HQU := HQV
      have HRU := HRV
      have HBU := HBV
      generalize hVU : V = U at *
      refine (AskArgs_any 12 U).mono ?_
      rintro r w7 ⟨rfl, hw7⟩
      obtain rfl : U = w7 := hw7.symm
      rw [show Qk.argsN 12 = 1 from rfl]
      obtain ⟨y0, y1, y2⟩ := (unhide HQU).1
      by_cases ha6 : a = 60
      · have hrec := (unhide HQH).1 ha6
        have ha7 : ((a : Int) == 60) = true := by rw [ha6]; rfl
        obtain ⟨v0, m0⟩ := (unhide HQU).2.2.c0
        obtain ⟨v1, m1⟩ := (unhide HQU).2.2.c1
        obtain ⟨v2, m2⟩ := (unhide HQU).2.2.c2
        have z0 := (unhide HQU).2.2.f 0
        have z1 := (unhide HQU).2.2.f 1
        have z2 := (unhide HQU).2.2.f 2
        obtain ⟨r0, r1, r2, r3, rf1, rf3⟩ := unhide HRU
        have hzU2 := (unhide HQU).2.1.lt
        have hneq : bp ≠ w.heap.size := by omega
        have hneq2 : bp ≠ w.heap.size + 1 := by omega
        have HSR := hide (Qp.ret3 ((unhide HQU).2.2.kept (show (U.setCell ⟨bp, 3, none⟩ (.bool true)).heap[w.heap.size]? = U.heap[w.heap.size]? from Below.heap_setCell _ _ _ _ (show w.heap.size ≠ bp by omega))) (.int .i64 12) (.int .i64 (0)) (.slice none 0 0))
        have HRF := hide (unhide HRU).fail
        have HBF := hide ((unhide HBU).set (o := 3) (.bool true))
        clear ha6
        go_wp2_with fail
        obtain ⟨⟨s0, s1, s2⟩, hsS, hbS, haS, hkS⟩ := unhide HSR
        refine bodyPost_ret (v := .agg #[.int .i64 12, .int .i64 (0), .slice none 0 0]) (by simp [results, Tryz.results34, go_sem, s0, s1, s2]) rfl ?_
        refine ⟨⟨12, 0, ⟨none, 0, 0⟩⟩, i + 1, true, rfl, (unhide HRF).kept (hkS bp (by omega)), (unhide HBF).below hbS, by omega, ?_⟩
        have hnr := unhide HNR
        rw [unhide HO2]
        cases hres : (if 0 < Qk.most (((12 : Nat) : Nat) : Int) then Qp.num l (Qk.least (((12 : Nat) : Nat) : Int)) (i + 1) else .ok (0, i + 1)) with
        | error j' => rw [hres] at hnr; exact ⟨rfl, hnr.2⟩
        | ok p =>
          obtain ⟨m, j'⟩ := p
          rw [hres] at hnr
          obtain ⟨hg1, hj1, hm1⟩ := hnr
          simp only [show Qk.argsN (((12 : Nat) : Nat) : Int) = 1 from rfl, if_true, hrec j']
          exact ⟨trivial, hj1⟩
      · have ha7 : ((a : Int) == 60) = false := by simp; omega
        have HQ1 := hide ((unhide HQH).2 (by omega))
        go_wp2_with fail
        refine ((unhide HQ1) (i + 1) false U (unhide HRU) ((unhide HR) _ (unhide HBU)) (by omega)).mono ?_
        rintro r w8 ⟨E, j8, g8, rfl, hrd8, hb8, hj8, hst8⟩
        have HST8 := hide (show (match Qp.orec rec (i + 1) false with | .error j' => g8 = true ∧ j8 = j' | .ok (x, j') => g8 = false ∧ j8 = j' ∧ Qp.RO U.heap.size w8 d E x) from hst8)
        have HR8 := hide hrd8
        have HQ8 := hide (And.intro ((unhide HQU).1.but hb8 (by omega)) (And.intro ((unhide HQU).2.1.but hb8 (by omega)) ((unhide HQU).2.2.but hb8 (by omega))))
        have HB8 := hide ((unhide HBU).trans hb8 (unhide HBU).size)
        have hs8 := hb8.size
        have hzU3 := (unhide HQU).2.1.lt
        clear hrd8 hb8 hst8 y0 y1 y2
        obtain ⟨y0, y1, y2⟩ := (unhide HQ8).1
        have yf := (unhide HQ8).2.1.f 2
        have hy8 := (unhide HQ8).2.1.lt
        obtain ⟨v0, m0⟩ := (unhide HQ8).2.2.c0
        obtain ⟨v1, m1⟩ := (unhide HQ8).2.2.c1
        obtain ⟨v2, m2⟩ := (unhide HQ8).2.2.c2
        have z0 := (unhide HQ8).2.2.f 0
        have z1 := (unhide HQ8).2.2.f 1
        have z2 := (unhide HQ8).2.2.f 2
        have hneA : w.heap.size ≠ w.heap.size + 1 := by omega
        have hneB : w.heap.size + 1 ≠ w.heap.size := by omega
        have hltw := (unhide HQ8).2.2.lt
        have hk9 : ∀ q, q ≠ w.heap.size + 1 → (w8.setCell ⟨w.heap.size + 1, 2, none⟩ (.slice (some ⟨w8.heap.size + 1, 0, none⟩) 1 1)).heap[q]? = w8.heap[q]? := fun q hq => Below.heap_setCell _ _ _ _ hq
        have HS9 := hide (show (w8.setCell ⟨w.heap.size + 1, 2, none⟩ (.slice (some ⟨w8.heap.size + 1, 0, none⟩) 1 1)).heap.size = w8.heap.size by simp [World.setCell])
        have HZ9 := hide ((unhide HQ8).2.2.kept (hk9 w.heap.size hneA))
        have HR9 := hide ((unhide HR8).kept (hk9 bp (by omega)))
        have HB9 := hide ((unhide HB8).below (Qp.set_below (W := w8) (b := w.heap.size + 1) (o := 2) (.slice (some ⟨w8.heap.size + 1, 0, none⟩) 1 1) (show w.heap.size ≤ w.heap.size + 1 by omega)))
        have HA9 := hide (Qp.Ab.set (o := 2) w8 (.slice (some ⟨w8.heap.size + 1, 0, none⟩) 1 1) (show w.heap.size + 1 < w.heap.size + 2 by omega))
        have HSR := hide (Qp.ret3 (unhide HZ9) (.int .i64 12) (.int .i64 (0)) (.slice (some ⟨w8.heap.size + 1, 0, none⟩) 1 1))
        clear hk9
        go_wp2_with fail
        generalize (w8.setCell ⟨w.heap.size + 1, 2, none⟩ (.slice (some ⟨w8.heap.size + 1, 0, none⟩) 1 1)) = w9 at *
        obtain ⟨⟨s0, s1, s2⟩, hsS, hbS, haS, hkS⟩ := unhide HSR
        generalize (((w9.setCell ⟨w.heap.size, 0, none⟩ (.int .i64 12)).setCell ⟨w.heap.size, 1, none⟩ (.int .i64 (0))).setCell ⟨w.heap.size, 2, none⟩ (.slice (some ⟨w8.heap.size + 1, 0, none⟩) 1 1)) = S at *
        have hs9 := unhide HS9
        have hsS8 : w8.heap.size = S.heap.size := by omega
        rw [hsS8] at s2 ⊢
        have hbV1 := (Below.refl S.heap.size S).alloc (Nat.le_refl _) (Obj.cells #[.int .i64 E.k, .int .i64 E.n, .slice E.args.ad E.args.len E.args.cap] 24)
        have hsV1 : (S.alloc (Obj.cells #[.int .i64 E.k, .int .i64 E.n, .slice E.args.ad E.args.len E.args.cap] 24)).heap.size = S.heap.size + 1 := by simp
        have hbV2 := hbV1.alloc hbV1.size (Obj.cells #[.int .i64 E.k, .int .i64 E.n, .slice E.args.ad E.args.len E.args.cap] 24)
        have s3 : w.heap.size < S.heap.size := by omega
        have s4 : w.heap.size < S.heap.size + 1 := by omega
        refine bodyPost_ret (v := .agg #[.int .i64 12, .int .i64 (0), .slice (some ⟨S.heap.size + 1, 0, none⟩) 1 1]) (by simp [results, Tryz.results34, go_sem, s0, s1, s2, s3, s4]) rfl ?_
        refine ⟨⟨12, 0, ⟨some ⟨S.heap.size + 1, 0, none⟩, 1, 1⟩⟩, j8, g8, rfl, ((unhide HR9).kept (hkS bp (by omega))).below hbV2, ((unhide HB9).below hbS).below (hbV2.mono (by omega)), hj8, ?_⟩
        have hnr := unhide HNR
        have hst8 := unhide HST8
        rw [unhide HO2]
        cases hres : (if 0 < Qk.most (((12 : Nat) : Nat) : Int) then Qp.num l (Qk.least (((12 : Nat) : Nat) : Int)) (i + 1) else .ok (0, i + 1)) with
        | error j' =>
          rw [hres] at hnr
          have hg1 : false = true := hnr.1
          have hor : Qp.orec rec (i + 1) false = .error (i + 1) := by rw [hg1]; rfl
          rw [hor] at hst8
          exact ⟨hst8.1, hst8.2.trans hnr.2⟩
        | ok p =>
          obtain ⟨m, j'⟩ := p
          rw [hres] at hnr
          obtain ⟨hg1, hj1, hm1⟩ := hnr
          have hor : Qp.orec rec (i + 1) false = rec j' := by rw [hg1, hj1]; rfl
          rw [hor] at hst8
          simp only [show Qk.argsN (((12 : Nat) : Nat) : Int) = 1 from rfl, if_true]
          cases hrj : rec j' with
          | error j'' => rw [hrj] at hst8; exact hst8
          | ok px =>
            obtain ⟨x, j''⟩ := px
            rw [hrj] at hst8
            obtain ⟨hg8, hj9, hro⟩ := hst8
            have hr1 := ((((hro.mono (show w.heap.size + 2 ≤ U.heap.size by omega)).ab (unhide HA9)).ab (haS _ (by omega))).ab (Qp.Ab.of_below hbV2))
            have hL1 := Qp.lies_new (S.alloc (Obj.cells #[.int .i64 E.k, .int .i64 E.n, .slice E.args.ad E.args.len E.args.cap] 24)) E
            rw [hsV1] at hL1
            subst hm1
            exact ⟨hg8, hj9, (Qp.RO.one hL1 (by omega) hr1).mono (by omega)⟩

end Go.Proofs.YtfhlnelgnnkeoaaGreatDoor
