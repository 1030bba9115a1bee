/-
  Ask of the document's Reader, at a word. By the verifier.
-/
import Derived.Test.YtfhlnelgnnkeoaaGreatDoorQU5
namespace Go.Proofs.YtfhlnelgnnkeoaaGreatDoor
open Go.RowKit
set_option linter.unusedVariables false

set_option maxRecDepth 100000 in
set_option maxHeartbeats 3200000 in
theorem Ask_k1 (l : List Qp.T) (ta : Option Addr) (c bp i a d : Nat) (e : Int) (w : World) (hp : Qp.Rd w bp ta l.length c (i : Nat) e false) (hr : Qp.RT w ta l) (hne : ∀ b o, ta = some ⟨b, o, none⟩ → b ≠ bp) (hf : l.length ≤ 10000) (hg : Qp.Good l) (hi : i ≤ l.length) (ha : a ≤ 60) (hin : Qp.inW [⟨#[40]⟩] (Qp.tk l i).t = false)
    (rec : Nat → Except Nat (Qk.AT d × Nat)) (h60 : a = 60 → ∀ k, rec k = .error k)
    (HQ : a < 60 → ∀ (k : Nat) (f : Bool) (W : World), Qp.Rd W bp ta l.length c (k : Nat) e f → Qp.RT W ta l → k ≤ l.length → Calls Tryz.prog 34 #[.pointer (some ⟨bp, 0, none⟩), .int .i64 ((a : Int) + 1)] W (Qp.AskP bp ta l c e W (Qp.orec rec k f)))
    (hfd : Qp.find Qp.ones (Qp.tk l i).t = some 1) :
    Calls Tryz.prog 34 #[.pointer (some ⟨bp, 0, none⟩), .int .i64 (a : Nat)] w (Qp.AskP bp ta l c e w (Qp.wordF l rec i)) := by
  have HR := hide (fun (W : World) (hb : Qk.But1 bp w.heap.size w W) => hr.but hne hb)
  have HTT := hide (fun (k : Nat) (f : Bool) (hk : k ≤ l.length) (W : World) (h1 : Qp.Rd W bp ta l.length c (k : Nat) e f) (h2 : Qp.RT W ta l) => Text_any l ta c bp k e f W h1 h2 hf (by omega))
  have HND := hide (fun (s : ByteArray) (k : Nat) (f : Bool) (hk : k ≤ l.length) (W : World) (h1 : Qp.Rd W bp ta l.length c (k : Nat) e f) (h2 : Qp.RT W ta l) => Need_any l s ta c bp k e f W h1 h2 hf (by omega))
  have HNU := hide (fun (k : Nat) (f : Bool) (hk : k ≤ l.length) (W : World) (h1 : Qp.Rd W bp ta l.length c (k : Nat) e f) (h2 : Qp.RT W ta l) => Number_any l ta c bp k e f W h1 h2 hf (by omega) hg)
  have HT := hide (fun (W : World) => (unhide HTT) i false hi W)
  have HGD := hide hg
  have hop := Qp.rt_in hin
  rw [Qp.toList_40] at hop
  have HQH := hide (And.intro h60 HQ)
  have HP := hide hp
  have hblt := hp.lt
  obtain ⟨o, ho⟩ : ∃ o, Qp.wordF l rec i = o := ⟨_, rfl⟩
  rw [ho]
  have HO := hide ho
  have HFD := hide hfd
  clear HQ hp hr hin ho h60 hg
  go_enter Tryz.func34, Tryz.ntmps34
  go_wp2_with fail
  have hLA : Qp.Lp w ((w.alloc (Obj.cells #[.int .i64 0, .int .i64 0, .slice none 0 0] 24)).alloc (Obj.cells #[.int .i64 0, .int .i64 0, .slice none 0 0] 24)) ((w.alloc (Obj.cells #[.int .i64 0, .int .i64 0, .slice none 0 0] 24)).alloc (Obj.cells #[.int .i64 0, .int .i64 0, .slice none 0 0] 24)) bp ta l.length c i e false 0 :=
    have hb := ((Below.refl w.heap.size w).alloc (Nat.le_refl _) (Obj.cells #[.int .i64 0, .int .i64 0, .slice none 0 0] 24)).alloc (by simp) (Obj.cells #[.int .i64 0, .int .i64 0, .slice none 0 0] 24)
    ⟨⟨by go_simp, by go_simp, by go_simp⟩, ⟨⟨.int .i64 0, by go_simp⟩, ⟨.int .i64 0, by go_simp⟩, ⟨.slice none 0 0, by go_simp⟩, fun i => by go_simp⟩, ⟨⟨.int .i64 0, by go_simp⟩, ⟨.int .i64 0, by go_simp⟩, ⟨.slice none 0 0, by go_simp⟩, fun i => by go_simp⟩, (unhide HP).below hb, (Qk.But1.refl bp w.heap.size w).below hb, Qp.Ab.refl _ _⟩
  have hsA : ((w.alloc (Obj.cells #[.int .i64 0, .int .i64 0, .slice none 0 0] 24)).alloc (Obj.cells #[.int .i64 0, .int .i64 0, .slice none 0 0] 24)).heap.size = w.heap.size + 2 := by simp
  have HLA := hide hLA
  clear hLA
  generalize ((w.alloc (Obj.cells #[.int .i64 0, .int .i64 0, .slice none 0 0] 24)).alloc (Obj.cells #[.int .i64 0, .int .i64 0, .slice none 0 0] 24)) = WA at *
  refine ((unhide HTT) i false hi _ (unhide HLA).r ((unhide HR) _ (unhide HLA).b)).mono ?_
  rintro r w0 ⟨rfl, hb0⟩
  have HL0 := hide (show Qp.Lp w w0 w0 bp ta l.length c i e false (Qp.fnd false (Qp.rt l i false) 1) from ⟨((unhide HLA).below hb0).q, ((unhide HLA).below hb0).y, ((unhide HLA).below hb0).z, ((unhide HLA).below hb0).r, ((unhide HLA).below hb0).b, Qp.Ab.refl _ _⟩)
  clear hb0
  go_wp2_with fail
  go_loopw [9] (fun v wr => ∃ k : Nat, 1 ≤ k ∧ k ≤ 15 ∧ v = .int .i64 ((k : Nat) : Int) ∧ Qp.Lp w w0 wr bp ta l.length c (i) e false (Qp.fnd false (Qp.rt l (i) false) k)) (fun v _ => 15 - (intOf v).toNat)
  case atStart => exact ⟨1, Nat.le_refl _, by decide, rfl, unhide HL0⟩
  case round =>
    obtain ⟨k, hk1, hk2, rfl, hL⟩ := hrel
    have HL := hide hL
    clear hL
    by_cases hk : k ≤ 14
    · have hk3 : (k : Int) ≤ 14 := by omega
      obtain ⟨u0, u1, u2⟩ := (unhide HL).q
      have uf := (unhide HL).y.f 0
      have hz := (unhide HL).lt
      go_wp2_with fail
      refine (AskArgs_any ((k : Nat) : Int) _).mono ?_
      rintro r w1 ⟨rfl, hw1⟩
      obtain rfl : wr = w1 := hw1.symm
      by_cases hA : Qk.argsN ((k : Nat) : Int) < 2
      · have hA1 : ((Qk.argsN ((k : Nat) : Int) : Nat) : Int) < 2 := by omega
        have hA2 : decide (Qk.argsN ((k : Nat) : Int) = 2) = false := by simp; omega
        go_wp2_with fail
        refine ((unhide HT) _ (unhide HL).r ((unhide HR) _ (unhide HL).b)).mono ?_
        rintro r w2 ⟨rfl, hb2⟩
        have HL2 := hide ((unhide HL).below hb2)
        clear hb2
        go_wp2_with fail
        refine (askWord_any ((k : Nat) : Int) (Qk.isK_nat k (by omega) (by omega)) _).mono ?_
        rintro r w3 ⟨rfl, hb3⟩
        have HL3 := hide ((unhide HL2).below hb3)
        clear hb3 u0 u1 u2 uf hz
        obtain ⟨u0, u1, u2⟩ := (unhide HL3).q
        have uf := (unhide HL3).y.f 0
        have hz := (unhide HL3).lt
        cases htx : ((Qp.rt l (i) false).toList == (Qk.word ((k : Nat) : Int)).toList)
        · have HN := hide (show Qp.fnd false (Qp.rt l (i) false) (k + 1) = Qp.fnd false (Qp.rt l (i) false) k by
            show (if (decide (Qk.argsN ((k : Nat) : Int) = 2) == false && (decide (1 ≤ k) && ((Qp.rt l (i) false).toList == (Qk.word ((k : Nat) : Int)).toList))) = true then k else _) = _
            rw [htx]; simp)
          go_wp2_with fail
          go_round
          case rel => exact ⟨k + 1, by omega, by omega, by go_num, by rw [unhide HN]; exact unhide HL3⟩
          case measure => simp [intOf]; omega
        · have HN := hide (show Qp.fnd false (Qp.rt l (i) false) (k + 1) = k by
            show (if (decide (Qk.argsN ((k : Nat) : Int) = 2) == false && (decide (1 ≤ k) && ((Qp.rt l (i) false).toList == (Qk.word ((k : Nat) : Int)).toList))) = true then k else _) = _
            rw [htx, hA2, decide_eq_true (show 1 ≤ k by omega)]; rfl)
          go_wp2_with fail
          go_round
          case rel => exact ⟨k + 1, by omega, by omega, by go_num, by rw [unhide HN]; exact (unhide HL3).set hblt k⟩
          case measure => simp [intOf]; omega
      · have hA1 : ¬ ((Qk.argsN ((k : Nat) : Int) : Nat) : Int) < 2 := by omega
        have hA2 : decide (Qk.argsN ((k : Nat) : Int) = 2) = true := by have := Qk.args_two (k := ((k : Nat) : Int)); simp; omega
        have HN := hide (show Qp.fnd false (Qp.rt l (i) false) (k + 1) = Qp.fnd false (Qp.rt l (i) false) k by
          show (if (decide (Qk.argsN ((k : Nat) : Int) = 2) == false && (decide (1 ≤ k) && ((Qp.rt l (i) false).toList == (Qk.word ((k : Nat) : Int)).toList))) = true then k else _) = _
          rw [hA2]; rfl)
        go_wp2_with fail
        go_round
        case rel => exact ⟨k + 1, by omega, by omega, by go_num, by rw [unhide HN]; exact unhide HL⟩
        case measure => simp [intOf]; omega
    · have hk3 : ¬ (k : Int) ≤ 14 := by omega
      obtain rfl : k = 15 := by omega
      have hK : Qp.fnd false (Qp.rt l i false) 15 = 1 := by
        have e := (Qp.fnd_is (Qp.tk l i).t).1
        rw [hfd] at e
        exact e
      have HL2 := hide (show Qp.Lp w w0 wr bp ta l.length c i e false 1 by rw [← hK]; exact unhide HL)
      have HO2 := hide (show o = _ from (unhide HO).symm.trans (Qp.wordF_at hfd))
      have hjl : i < l.length := by
        by_cases hh : i < l.length
        · exact hh
        · have := (Qp.find_some hfd).1
          rw [Qp.tk_none (by omega)] at this
          exact absurd (congrArg ByteArray.toList this).symm (by rw [Qp.empty_eq]; exact Qp.word_ne (by decide) (by decide))
      have HNW := hide (show Qp.nd l (Qk.word 1) i false = (i + 1, false) from Qp.nd_word hfd)
      clear HL hK hfd HFD
      obtain ⟨u0, u1, u2⟩ := (unhide HL2).q
      have hzr := (unhide HL2).lt
      go_wp2_with fail
      refine (askWord_any 1 rfl _).mono ?_
      rintro r w3 ⟨rfl, hb3⟩
      have HL3 := hide ((unhide HL2).below hb3)
      have hs3 := hb3.size
      clear hb3 u0 u1 u2
      go_wp2_with fail
      refine ((unhide HND) (Qk.word 1) i false hi w3 (unhide HL3).r ((unhide HR) _ (unhide HL3).b)).mono ?_
      rw [unhide HNW]
      rintro r V ⟨rfl, hrdV, hbV⟩
      have HRV := hide hrdV
      have HQV := hide (show Qk.Lies V (w.heap.size + 1) 0 ⟨1, 0, ⟨none, 0, 0⟩⟩ ∧ Qp.Z3 V (w.heap.size + 1) ∧ Qp.Z3 V w.heap.size from And.intro ((unhide HL3).q.but hbV (by omega)) (And.intro ((unhide HL3).y.but hbV (by omega)) ((unhide HL3).z.but hbV (by omega))))
      have HBV := hide ((unhide HL3).b.trans hbV (unhide HL3).b.size)
      have hsV := hbV.size
      have hzV := (unhide HQV).2.1.lt
      clear hrdV hbV
      obtain ⟨u0, u1, u2⟩ := (unhide HQV).1
      cases hx1 : Qp.inW [⟨#[97, 110, 121]⟩] (Qp.tk l (i + 1)).t
      · have hx2 := Qp.rt_in hx1
        rw [Qp.toList_any] at hx2
        go_wp2_with fail
        refine ((unhide HTT) (i + 1) false (by omega) V (unhide HRV) ((unhide HR) _ (unhide HBV))).mono ?_
        rintro r V1 ⟨rfl, hbV1⟩
        have HRV1 := hide ((unhide HRV).below hbV1)
        have HQV1 := hide (And.intro ((unhide HQV).1.bel hbV1) (And.intro ((unhide HQV).2.1.later hbV1) ((unhide HQV).2.2.later hbV1)))
        have HBV1 := hide ((unhide HBV).below (hbV1.mono (unhide HBV).size))
        have hsV1 := hbV1.size
        clear hbV1
        clear u0 u1 u2
        go_wp2_with fail
        have hnb := Qp.rnum_bound (unhide HGD) (i + 1) false
        have hjU : (Qp.rnum l (i + 1) false).2.1 ≤ l.length := Qp.rnum_le (by omega)
        refine ((unhide HNU) (i + 1) false (by omega) V1 (unhide HRV1) ((unhide HR) _ (unhide HBV1))).mono ?_
        rintro r V2 ⟨rfl, hrdV2, hbV2⟩
        have HRV2 := hide hrdV2
        have HQV2 := hide (And.intro ((unhide HQV1).1.but hbV2 (by omega)) (And.intro ((unhide HQV1).2.1.but hbV2 (by omega)) ((unhide HQV1).2.2.but hbV2 (by omega))))
        have HBV2 := hide ((unhide HBV1).trans hbV2 (unhide HBV1).size)
        have hsV2 := hbV2.size
        clear hrdV2 hbV2
        generalize hrn : Qp.rnum l (i + 1) false = R at *
        obtain ⟨M, J, G⟩ := R
        replace hnb : 0 ≤ M ∧ M < 100000000 := hnb
        obtain ⟨hn0, hn1⟩ := hnb
        have hkU : ∀ q, q ≠ w.heap.size + 1 → (V2.setCell ⟨w.heap.size + 1, 1, none⟩ (.int .i64 (M))).heap[q]? = V2.heap[q]? := fun q hq => Below.heap_setCell _ _ _ _ hq
        have HQU := hide (And.intro ((unhide HQV2).1.set1 (M)) (And.intro ((unhide HQV2).2.1.set 1 (.int .i64 (M))) ((unhide HQV2).2.2.kept (hkU _ (by omega)))))
        have HRU := hide ((unhide HRV2).kept (hkU bp (by omega)))
        have HBU := hide ((unhide HBV2).below (Qp.set_below (W := V2) (b := w.heap.size + 1) (o := 1) (.int .i64 (M)) (show w.heap.size ≤ w.heap.size + 1 by omega)))
        have hsU : (V2.setCell ⟨w.heap.size + 1, 1, none⟩ (.int .i64 (M))).heap.size = V2.heap.size := by simp [World.setCell]
        obtain ⟨u0, u1, u2⟩ := (unhide HQV2).1
        have uf := (unhide HQV2).2.1.f 1
        have hzU := (unhide HQV2).2.1.lt
        clear hkU
        go_wp2_with fail
        clear u0 u1 u2 uf
        generalize (V2.setCell ⟨w.heap.size + 1, 1, none⟩ (.int .i64 (M))) = U at *
        have HNR := hide (show Qp.NR (if 0 < Qk.most (((1 : Nat) : Nat) : Int) then Qp.num l (Qk.least (((1 : Nat) : Nat) : Int)) (i + 1) else .ok (0, i + 1)) M J G by
          have e : Qp.num l (Qk.least (((1 : Nat) : Nat) : Int)) (i + 1) = Qp.dig l (i + 1) := by
            unfold Qp.num
            rw [hx1, Bool.and_false]
            rfl
          rw [if_pos (by decide), e]
          have := Qp.NR.dig l (i + 1)
          rw [hrn] at this
          exact this)
        refine (AskArgs_any 1 U).mono ?_
        rintro r w7 ⟨rfl, hw7⟩
        obtain rfl : U = w7 := hw7.symm
        rw [show Qk.argsN 1 = 0 from rfl]
        obtain ⟨y0, y1, y2⟩ := (unhide HQU).1
        obtain ⟨v0, m0⟩ := (unhide HQU).2.2.c0
        obtain ⟨v1, m1⟩ := (unhide HQU).2.2.c1
        obtain ⟨v2, m2⟩ := (unhide HQU).2.2.c2
        have z0 := (unhide HQU).2.2.f 0
        have z1 := (unhide HQU).2.2.f 1
        have z2 := (unhide HQU).2.2.f 2
        have HSR := hide (Qp.ret3 (unhide HQU).2.2 (.int .i64 1) (.int .i64 (M)) (.slice none 0 0))
        go_wp2_with fail
        obtain ⟨⟨s0, s1, s2⟩, hsS, hbS, haS, hkS⟩ := unhide HSR
        refine bodyPost_ret (v := .agg #[.int .i64 1, .int .i64 (M), .slice none 0 0]) (by simp [results, Tryz.results34, go_sem, s0, s1, s2]) rfl ?_
        refine ⟨⟨1, M, ⟨none, 0, 0⟩⟩, J, G, rfl, (unhide HRU).kept (hkS bp (by omega)), (unhide HBU).below hbS, by omega, ?_⟩
        have hnr := unhide HNR
        rw [unhide HO2]
        cases hres : (if 0 < Qk.most (((1 : Nat) : Nat) : Int) then Qp.num l (Qk.least (((1 : Nat) : Nat) : Int)) (i + 1) else .ok (0, i + 1)) with
        | error j' => rw [hres] at hnr; exact hnr
        | ok p =>
          obtain ⟨m, j'⟩ := p
          rw [hres] at hnr
          obtain ⟨hg1, hj1, hm1⟩ := hnr
          subst hm1
          exact ⟨hg1, hj1, Qp.RO.leaf _ _ _ _ _ _ _⟩
      · have hx2 := Qp.rt_in hx1
        rw [Qp.toList_any] at hx2
        have hl2 : i + 1 < l.length := Qp.lt_of_in (by simp only [Qp.inW, ByteArray.toList_eq]; decide) hx1
        have hndA : Qp.nd l ⟨#[97, 110, 121]⟩ (i + 1) false = (i + 1 + 1, false) := by
          have h := Qp.rt_in hx1
          unfold Qp.nd
          rw [show (Qp.tk l (i + 1)).t = Qp.rt l (i + 1) false from rfl, h]
          rfl
        go_wp2_with fail
        refine ((unhide HTT) (i + 1) false (by omega) V (unhide HRV) ((unhide HR) _ (unhide HBV))).mono ?_
        rintro r V1 ⟨rfl, hbV1⟩
        have HRV1 := hide ((unhide HRV).below hbV1)
        have HQV1 := hide (And.intro ((unhide HQV).1.bel hbV1) (And.intro ((unhide HQV).2.1.later hbV1) ((unhide HQV).2.2.later hbV1)))
        have HBV1 := hide ((unhide HBV).below (hbV1.mono (unhide HBV).size))
        have hsV1 := hbV1.size
        clear hbV1
        clear u0 u1 u2
        go_wp2_with fail
        refine ((unhide HND) ⟨#[97, 110, 121]⟩ (i + 1) false (by omega) V1 (unhide HRV1) ((unhide HR) _ (unhide HBV1))).mono ?_
        rw [hndA]
        rintro r V2 ⟨rfl, hrdV2, hbV2⟩
        have HRV2 := hide hrdV2
        have HQV2 := hide (And.intro ((unhide HQV1).1.but hbV2 (by omega)) (And.intro ((unhide HQV1).2.1.but hbV2 (by omega)) ((unhide HQV1).2.2.but hbV2 (by omega))))
        have HBV2 := hide ((unhide HBV1).trans hbV2 (unhide HBV1).size)
        have hsV2 := hbV2.size
        clear hrdV2 hbV2
        have hkU : ∀ q, q ≠ w.heap.size + 1 → (V2.setCell ⟨w.heap.size + 1, 1, none⟩ (.int .i64 (-1))).heap[q]? = V2.heap[q]? := fun q hq => Below.heap_setCell _ _ _ _ hq
        have HQU := hide (And.intro ((unhide HQV2).1.set1 (-1)) (And.intro ((unhide HQV2).2.1.set 1 (.int .i64 (-1))) ((unhide HQV2).2.2.kept (hkU _ (by omega)))))
        have HRU := hide ((unhide HRV2).kept (hkU bp (by omega)))
        have HBU := hide ((unhide HBV2).below (Qp.set_below (W := V2) (b := w.heap.size + 1) (o := 1) (.int .i64 (-1)) (show w.heap.size ≤ w.heap.size + 1 by omega)))
        have hsU : (V2.setCell ⟨w.heap.size + 1, 1, none⟩ (.int .i64 (-1))).heap.size = V2.heap.size := by simp [World.setCell]
        obtain ⟨u0, u1, u2⟩ := (unhide HQV2).1
        have uf := (unhide HQV2).2.1.f 1
        have hzU := (unhide HQV2).2.1.lt
        clear hkU
        go_wp2_with fail
        clear u0 u1 u2 uf
        generalize (V2.setCell ⟨w.heap.size + 1, 1, none⟩ (.int .i64 (-1))) = U at *
        have HNR := hide (show Qp.NR (if 0 < Qk.most (((1 : Nat) : Nat) : Int) then Qp.num l (Qk.least (((1 : Nat) : Nat) : Int)) (i + 1) else .ok (0, i + 1)) (-1) (i + 1 + 1) false by
          have e : Qp.num l (Qk.least (((1 : Nat) : Nat) : Int)) (i + 1) = .ok (-1, i + 1 + 1) := by
            unfold Qp.num
            rw [hx1]
            rfl
          rw [if_pos (by decide), e]
          exact ⟨rfl, rfl, rfl⟩)
        refine (AskArgs_any 1 U).mono ?_
        rintro r w7 ⟨rfl, hw7⟩
        obtain rfl : U = w7 := hw7.symm
        rw [show Qk.argsN 1 = 0 from rfl]
        obtain ⟨y0, y1, y2⟩ := (unhide HQU).1
        obtain ⟨v0, m0⟩ := (unhide HQU).2.2.c0
        obtain ⟨v1, m1⟩ := (unhide HQU).2.2.c1
        obtain ⟨v2, m2⟩ := (unhide HQU).2.2.c2
        have z0 := (unhide HQU).2.2.f 0
        have z1 := (unhide HQU).2.2.f 1
        have z2 := (unhide HQU).2.2.f 2
        have HSR := hide (Qp.ret3 (unhide HQU).2.2 (.int .i64 1) (.int .i64 (-1)) (.slice none 0 0))
        go_wp2_with fail
        obtain ⟨⟨s0, s1, s2⟩, hsS, hbS, haS, hkS⟩ := unhide HSR
        refine bodyPost_ret (v := .agg #[.int .i64 1, .int .i64 (-1), .slice none 0 0]) (by simp [results, Tryz.results34, go_sem, s0, s1, s2]) rfl ?_
        refine ⟨⟨1, -1, ⟨none, 0, 0⟩⟩, i + 1 + 1, false, rfl, (unhide HRU).kept (hkS bp (by omega)), (unhide HBU).below hbS, by omega, ?_⟩
        have hnr := unhide HNR
        rw [unhide HO2]
        cases hres : (if 0 < Qk.most (((1 : Nat) : Nat) : Int) then Qp.num l (Qk.least (((1 : Nat) : Nat) : Int)) (i + 1) else .ok (0, i + 1)) with
        | error j' => rw [hres] at hnr; exact hnr
        | ok p =>
          obtain ⟨m, j'⟩ := p
          rw [hres] at hnr
          obtain ⟨hg1, hj1, hm1⟩ := hnr
          subst hm1
          exact ⟨hg1, hj1, Qp.RO.leaf _ _ _ _ _ _ _⟩

set_option maxRecDepth 100000 in
set_option maxHeartbeats 3200000 in
theorem Ask_k2 (l : List Qp.T) (ta : Option Addr) (c bp i a d : Nat) (e : Int) (w : World) (hp : Qp.Rd w bp ta l.length c (i : Nat) e false) (hr : Qp.RT w ta l) (hne : ∀ b o, ta = some ⟨b, o, none⟩ → b ≠ bp) (hf : l.length ≤ 10000) (hg : Qp.Good l) (hi : i ≤ l.length) (ha : a ≤ 60) (hin : Qp.inW [⟨#[40]⟩] (Qp.tk l i).t = false)
    (rec : Nat → Except Nat (Qk.AT d × Nat)) (h60 : a = 60 → ∀ k, rec k = .error k)
    (HQ : a < 60 → ∀ (k : Nat) (f : Bool) (W : World), Qp.Rd W bp ta l.length c (k : Nat) e f → Qp.RT W ta l → k ≤ l.length → Calls Tryz.prog 34 #[.pointer (some ⟨bp, 0, none⟩), .int .i64 ((a : Int) + 1)] W (Qp.AskP bp ta l c e W (Qp.orec rec k f)))
    (hfd : Qp.find Qp.ones (Qp.tk l i).t = some 2) :
    Calls Tryz.prog 34 #[.pointer (some ⟨bp, 0, none⟩), .int .i64 (a : Nat)] w (Qp.AskP bp ta l c e w (Qp.wordF l rec i)) := by
  have HR := hide (fun (W : World) (hb : Qk.But1 bp w.heap.size w W) => hr.but hne hb)
  have HTT := hide (fun (k : Nat) (f : Bool) (hk : k ≤ l.length) (W : World) (h1 : Qp.Rd W bp ta l.length c (k : Nat) e f) (h2 : Qp.RT W ta l) => Text_any l ta c bp k e f W h1 h2 hf (by omega))
  have HND := hide (fun (s : ByteArray) (k : Nat) (f : Bool) (hk : k ≤ l.length) (W : World) (h1 : Qp.Rd W bp ta l.length c (k : Nat) e f) (h2 : Qp.RT W ta l) => Need_any l s ta c bp k e f W h1 h2 hf (by omega))
  have HNU := hide (fun (k : Nat) (f : Bool) (hk : k ≤ l.length) (W : World) (h1 : Qp.Rd W bp ta l.length c (k : Nat) e f) (h2 : Qp.RT W ta l) => Number_any l ta c bp k e f W h1 h2 hf (by omega) hg)
  have HT := hide (fun (W : World) => (unhide HTT) i false hi W)
  have HGD := hide hg
  have hop := Qp.rt_in hin
  rw [Qp.toList_40] at hop
  have HQH := hide (And.intro h60 HQ)
  have HP := hide hp
  have hblt := hp.lt
  obtain ⟨o, ho⟩ : ∃ o, Qp.wordF l rec i = o := ⟨_, rfl⟩
  rw [ho]
  have HO := hide ho
  have HFD := hide hfd
  clear HQ hp hr hin ho h60 hg
  go_enter Tryz.func34, Tryz.ntmps34
  go_wp2_with fail
  have hLA : Qp.Lp w ((w.alloc (Obj.cells #[.int .i64 0, .int .i64 0, .slice none 0 0] 24)).alloc (Obj.cells #[.int .i64 0, .int .i64 0, .slice none 0 0] 24)) ((w.alloc (Obj.cells #[.int .i64 0, .int .i64 0, .slice none 0 0] 24)).alloc (Obj.cells #[.int .i64 0, .int .i64 0, .slice none 0 0] 24)) bp ta l.length c i e false 0 :=
    have hb := ((Below.refl w.heap.size w).alloc (Nat.le_refl _) (Obj.cells #[.int .i64 0, .int .i64 0, .slice none 0 0] 24)).alloc (by simp) (Obj.cells #[.int .i64 0, .int .i64 0, .slice none 0 0] 24)
    ⟨⟨by go_simp, by go_simp, by go_simp⟩, ⟨⟨.int .i64 0, by go_simp⟩, ⟨.int .i64 0, by go_simp⟩, ⟨.slice none 0 0, by go_simp⟩, fun i => by go_simp⟩, ⟨⟨.int .i64 0, by go_simp⟩, ⟨.int .i64 0, by go_simp⟩, ⟨.slice none 0 0, by go_simp⟩, fun i => by go_simp⟩, (unhide HP).below hb, (Qk.But1.refl bp w.heap.size w).below hb, Qp.Ab.refl _ _⟩
  have hsA : ((w.alloc (Obj.cells #[.int .i64 0, .int .i64 0, .slice none 0 0] 24)).alloc (Obj.cells #[.int .i64 0, .int .i64 0, .slice none 0 0] 24)).heap.size = w.heap.size + 2 := by simp
  have HLA := hide hLA
  clear hLA
  generalize ((w.alloc (Obj.cells #[.int .i64 0, .int .i64 0, .slice none 0 0] 24)).alloc (Obj.cells #[.int .i64 0, .int .i64 0, .slice none 0 0] 24)) = WA at *
  refine ((unhide HTT) i false hi _ (unhide HLA).r ((unhide HR) _ (unhide HLA).b)).mono ?_
  rintro r w0 ⟨rfl, hb0⟩
  have HL0 := hide (show Qp.Lp w w0 w0 bp ta l.length c i e false (Qp.fnd false (Qp.rt l i false) 1) from ⟨((unhide HLA).below hb0).q, ((unhide HLA).below hb0).y, ((unhide HLA).below hb0).z, ((unhide HLA).below hb0).r, ((unhide HLA).below hb0).b, Qp.Ab.refl _ _⟩)
  clear hb0
  go_wp2_with fail
  go_loopw [9] (fun v wr => ∃ k : Nat, 1 ≤ k ∧ k ≤ 15 ∧ v = .int .i64 ((k : Nat) : Int) ∧ Qp.Lp w w0 wr bp ta l.length c (i) e false (Qp.fnd false (Qp.rt l (i) false) k)) (fun v _ => 15 - (intOf v).toNat)
  case atStart => exact ⟨1, Nat.le_refl _, by decide, rfl, unhide HL0⟩
  case round =>
    obtain ⟨k, hk1, hk2, rfl, hL⟩ := hrel
    have HL := hide hL
    clear hL
    by_cases hk : k ≤ 14
    · have hk3 : (k : Int) ≤ 14 := by omega
      obtain ⟨u0, u1, u2⟩ := (unhide HL).q
      have uf := (unhide HL).y.f 0
      have hz := (unhide HL).lt
      go_wp2_with fail
      refine (AskArgs_any ((k : Nat) : Int) _).mono ?_
      rintro r w1 ⟨rfl, hw1⟩
      obtain rfl : wr = w1 := hw1.symm
      by_cases hA : Qk.argsN ((k : Nat) : Int) < 2
      · have hA1 : ((Qk.argsN ((k : Nat) : Int) : Nat) : Int) < 2 := by omega
        have hA2 : decide (Qk.argsN ((k : Nat) : Int) = 2) = false := by simp; omega
        go_wp2_with fail
        refine ((unhide HT) _ (unhide HL).r ((unhide HR) _ (unhide HL).b)).mono ?_
        rintro r w2 ⟨rfl, hb2⟩
        have HL2 := hide ((unhide HL).below hb2)
        clear hb2
        go_wp2_with fail
        refine (askWord_any ((k : Nat) : Int) (Qk.isK_nat k (by omega) (by omega)) _).mono ?_
        rintro r w3 ⟨rfl, hb3⟩
        have HL3 := hide ((unhide HL2).below hb3)
        clear hb3 u0 u1 u2 uf hz
        obtain ⟨u0, u1, u2⟩ := (unhide HL3).q
        have uf := (unhide HL3).y.f 0
        have hz := (unhide HL3).lt
        cases htx : ((Qp.rt l (i) false).toList == (Qk.word ((k : Nat) : Int)).toList)
        · have HN := hide (show Qp.fnd false (Qp.rt l (i) false) (k + 1) = Qp.fnd false (Qp.rt l (i) false) k by
            show (if (decide (Qk.argsN ((k : Nat) : Int) = 2) == false && (decide (1 ≤ k) && ((Qp.rt l (i) false).toList == (Qk.word ((k : Nat) : Int)).toList))) = true then k else _) = _
            rw [htx]; simp)
          go_wp2_with fail
          go_round
          case rel => exact ⟨k + 1, by omega, by omega, by go_num, by rw [unhide HN]; exact unhide HL3⟩
          case measure => simp [intOf]; omega
        · have HN := hide (show Qp.fnd false (Qp.rt l (i) false) (k + 1) = k by
            show (if (decide (Qk.argsN ((k : Nat) : Int) = 2) == false && (decide (1 ≤ k) && ((Qp.rt l (i) false).toList == (Qk.word ((k : Nat) : Int)).toList))) = true then k else _) = _
            rw [htx, hA2, decide_eq_true (show 1 ≤ k by omega)]; rfl)
          go_wp2_with fail
          go_round
          case rel => exact ⟨k + 1, by omega, by omega, by go_num, by rw [unhide HN]; exact (unhide HL3).set hblt k⟩
          case measure => simp [intOf]; omega
      · have hA1 : ¬ ((Qk.argsN ((k : Nat) : Int) : Nat) : Int) < 2 := by omega
        have hA2 : decide (Qk.argsN ((k : Nat) : Int) = 2) = true := by have := Qk.args_two (k := ((k : Nat) : Int)); simp; omega
        have HN := hide (show Qp.fnd false (Qp.rt l (i) false) (k + 1) = Qp.fnd false (Qp.rt l (i) false) k by
          show (if (decide (Qk.argsN ((k : Nat) : Int) = 2) == false && (decide (1 ≤ k) && ((Qp.rt l (i) false).toList == (Qk.word ((k : Nat) : Int)).toList))) = true then k else _) = _
          rw [hA2]; rfl)
        go_wp2_with fail
        go_round
        case rel => exact ⟨k + 1, by omega, by omega, by go_num, by rw [unhide HN]; exact unhide HL⟩
        case measure => simp [intOf]; omega
    · have hk3 : ¬ (k : Int) ≤ 14 := by omega
      obtain rfl : k = 15 := by omega
      have hK : Qp.fnd false (Qp.rt l i false) 15 = 2 := by
        have e := (Qp.fnd_is (Qp.tk l i).t).1
        rw [hfd] at e
        exact e
      have HL2 := hide (show Qp.Lp w w0 wr bp ta l.length c i e false 2 by rw [← hK]; exact unhide HL)
      have HO2 := hide (show o = _ from (unhide HO).symm.trans (Qp.wordF_at hfd))
      have hjl : i < l.length := by
        by_cases hh : i < l.length
        · exact hh
        · have := (Qp.find_some hfd).1
          rw [Qp.tk_none (by omega)] at this
          exact absurd (congrArg ByteArray.toList this).symm (by rw [Qp.empty_eq]; exact Qp.word_ne (by decide) (by decide))
      have HNW := hide (show Qp.nd l (Qk.word 2) i false = (i + 1, false) from Qp.nd_word hfd)
      clear HL hK hfd HFD
      obtain ⟨u0, u1, u2⟩ := (unhide HL2).q
      have hzr := (unhide HL2).lt
      go_wp2_with fail
      refine (askWord_any 2 rfl _).mono ?_
      rintro r w3 ⟨rfl, hb3⟩
      have HL3 := hide ((unhide HL2).below hb3)
      have hs3 := hb3.size
      clear hb3 u0 u1 u2
      go_wp2_with fail
      refine ((unhide HND) (Qk.word 2) i false hi w3 (unhide HL3).r ((unhide HR) _ (unhide HL3).b)).mono ?_
      rw [unhide HNW]
      rintro r V ⟨rfl, hrdV, hbV⟩
      have HRV := hide hrdV
      have HQV := hide (show Qk.Lies V (w.heap.size + 1) 0 ⟨2, 0, ⟨none, 0, 0⟩⟩ ∧ Qp.Z3 V (w.heap.size + 1) ∧ Qp.Z3 V w.heap.size from And.intro ((unhide HL3).q.but hbV (by omega)) (And.intro ((unhide HL3).y.but hbV (by omega)) ((unhide HL3).z.but hbV (by omega))))
      have HBV := hide ((unhide HL3).b.trans hbV (unhide HL3).b.size)
      have hsV := hbV.size
      have hzV := (unhide HQV).2.1.lt
      clear hrdV hbV
      obtain ⟨u0, u1, u2⟩ := (unhide HQV).1
      cases hx1 : Qp.inW [⟨#[97, 110, 121]⟩] (Qp.tk l (i + 1)).t
      · have hx2 := Qp.rt_in hx1
        rw [Qp.toList_any] at hx2
        go_wp2_with fail
        refine ((unhide HTT) (i + 1) false (by omega) V (unhide HRV) ((unhide HR) _ (unhide HBV))).mono ?_
        rintro r V1 ⟨rfl, hbV1⟩
        have HRV1 := hide ((unhide HRV).below hbV1)
        have HQV1 := hide (And.intro ((unhide HQV).1.bel hbV1) (And.intro ((unhide HQV).2.1.later hbV1) ((unhide HQV).2.2.later hbV1)))
        have HBV1 := hide ((unhide HBV).below (hbV1.mono (unhide HBV).size))
        have hsV1 := hbV1.size
        clear hbV1
        clear u0 u1 u2
        go_wp2_with fail
        have hnb := Qp.rnum_bound (unhide HGD) (i + 1) false
        have hjU : (Qp.rnum l (i + 1) false).2.1 ≤ l.length := Qp.rnum_le (by omega)
        refine ((unhide HNU) (i + 1) false (by omega) V1 (unhide HRV1) ((unhide HR) _ (unhide HBV1))).mono ?_
        rintro r V2 ⟨rfl, hrdV2, hbV2⟩
        have HRV2 := hide hrdV2
        have HQV2 := hide (And.intro ((unhide HQV1).1.but hbV2 (by omega)) (And.intro ((unhide HQV1).2.1.but hbV2 (by omega)) ((unhide HQV1).2.2.but hbV2 (by omega))))
        have HBV2 := hide ((unhide HBV1).trans hbV2 (unhide HBV1).size)
        have hsV2 := hbV2.size
        clear hrdV2 hbV2
        generalize hrn : Qp.rnum l (i + 1) false = R at *
        obtain ⟨M, J, G⟩ := R
        replace hnb : 0 ≤ M ∧ M < 100000000 := hnb
        obtain ⟨hn0, hn1⟩ := hnb
        have hkU : ∀ q, q ≠ w.heap.size + 1 → (V2.setCell ⟨w.heap.size + 1, 1, none⟩ (.int .i64 (M))).heap[q]? = V2.heap[q]? := fun q hq => Below.heap_setCell _ _ _ _ hq
        have HQU := hide (And.intro ((unhide HQV2).1.set1 (M)) (And.intro ((unhide HQV2).2.1.set 1 (.int .i64 (M))) ((unhide HQV2).2.2.kept (hkU _ (by omega)))))
        have HRU := hide ((unhide HRV2).kept (hkU bp (by omega)))
        have HBU := hide ((unhide HBV2).below (Qp.set_below (W := V2) (b := w.heap.size + 1) (o := 1) (.int .i64 (M)) (show w.heap.size ≤ w.heap.size + 1 by omega)))
        have hsU : (V2.setCell ⟨w.heap.size + 1, 1, none⟩ (.int .i64 (M))).heap.size = V2.heap.size := by simp [World.setCell]
        obtain ⟨u0, u1, u2⟩ := (unhide HQV2).1
        have uf := (unhide HQV2).2.1.f 1
        have hzU := (unhide HQV2).2.1.lt
        clear hkU
        go_wp2_with fail
        clear u0 u1 u2 uf
        generalize (V2.setCell ⟨w.heap.size + 1, 1, none⟩ (.int .i64 (M))) = U at *
        have HNR := hide (show Qp.NR (if 0 < Qk.most (((2 : Nat) : Nat) : Int) then Qp.num l (Qk.least (((2 : Nat) : Nat) : Int)) (i + 1) else .ok (0, i + 1)) M J G by
          have e : Qp.num l (Qk.least (((2 : Nat) : Nat) : Int)) (i + 1) = Qp.dig l (i + 1) := by
            unfold Qp.num
            rw [hx1, Bool.and_false]
            rfl
          rw [if_pos (by decide), e]
          have := Qp.NR.dig l (i + 1)
          rw [hrn] at this
          exact this)
        refine (AskArgs_any 2 U).mono ?_
        rintro r w7 ⟨rfl, hw7⟩
        obtain rfl : U = w7 := hw7.symm
        rw [show Qk.argsN 2 = 0 from rfl]
        obtain ⟨y0, y1, y2⟩ := (unhide HQU).1
        obtain ⟨v0, m0⟩ := (unhide HQU).2.2.c0
        obtain ⟨v1, m1⟩ := (unhide HQU).2.2.c1
        obtain ⟨v2, m2⟩ := (unhide HQU).2.2.c2
        have z0 := (unhide HQU).2.2.f 0
        have z1 := (unhide HQU).2.2.f 1
        have z2 := (unhide HQU).2.2.f 2
        have HSR := hide (Qp.ret3 (unhide HQU).2.2 (.int .i64 2) (.int .i64 (M)) (.slice none 0 0))
        go_wp2_with fail
        obtain ⟨⟨s0, s1, s2⟩, hsS, hbS, haS, hkS⟩ := unhide HSR
        refine bodyPost_ret (v := .agg #[.int .i64 2, .int .i64 (M), .slice none 0 0]) (by simp [results, Tryz.results34, go_sem, s0, s1, s2]) rfl ?_
        refine ⟨⟨2, M, ⟨none, 0, 0⟩⟩, J, G, rfl, (unhide HRU).kept (hkS bp (by omega)), (unhide HBU).below hbS, by omega, ?_⟩
        have hnr := unhide HNR
        rw [unhide HO2]
        cases hres : (if 0 < Qk.most (((2 : Nat) : Nat) : Int) then Qp.num l (Qk.least (((2 : Nat) : Nat) : Int)) (i + 1) else .ok (0, i + 1)) with
        | error j' => rw [hres] at hnr; exact hnr
        | ok p =>
          obtain ⟨m, j'⟩ := p
          rw [hres] at hnr
          obtain ⟨hg1, hj1, hm1⟩ := hnr
          subst hm1
          exact ⟨hg1, hj1, Qp.RO.leaf _ _ _ _ _ _ _⟩
      · have hx2 := Qp.rt_in hx1
        rw [Qp.toList_any] at hx2
        have hl2 : i + 1 < l.length := Qp.lt_of_in (by simp only [Qp.inW, ByteArray.toList_eq]; decide) hx1
        have hndA : Qp.nd l ⟨#[97, 110, 121]⟩ (i + 1) false = (i + 1 + 1, false) := by
          have h := Qp.rt_in hx1
          unfold Qp.nd
          rw [show (Qp.tk l (i + 1)).t = Qp.rt l (i + 1) false from rfl, h]
          rfl
        go_wp2_with fail
        refine ((unhide HTT) (i + 1) false (by omega) V (unhide HRV) ((unhide HR) _ (unhide HBV))).mono ?_
        rintro r V1 ⟨rfl, hbV1⟩
        have HRV1 := hide ((unhide HRV).below hbV1)
        have HQV1 := hide (And.intro ((unhide HQV).1.bel hbV1) (And.intro ((unhide HQV).2.1.later hbV1) ((unhide HQV).2.2.later hbV1)))
        have HBV1 := hide ((unhide HBV).below (hbV1.mono (unhide HBV).size))
        have hsV1 := hbV1.size
        clear hbV1
        clear u0 u1 u2
        go_wp2_with fail
        refine ((unhide HND) ⟨#[97, 110, 121]⟩ (i + 1) false (by omega) V1 (unhide HRV1) ((unhide HR) _ (unhide HBV1))).mono ?_
        rw [hndA]
        rintro r V2 ⟨rfl, hrdV2, hbV2⟩
        have HRV2 := hide hrdV2
        have HQV2 := hide (And.intro ((unhide HQV1).1.but hbV2 (by omega)) (And.intro ((unhide HQV1).2.1.but hbV2 (by omega)) ((unhide HQV1).2.2.but hbV2 (by omega))))
        have HBV2 := hide ((unhide HBV1).trans hbV2 (unhide HBV1).size)
        have hsV2 := hbV2.size
        clear hrdV2 hbV2
        have hkU : ∀ q, q ≠ w.heap.size + 1 → (V2.setCell ⟨w.heap.size + 1, 1, none⟩ (.int .i64 (-1))).heap[q]? = V2.heap[q]? := fun q hq => Below.heap_setCell _ _ _ _ hq
        have HQU := hide (And.intro ((unhide HQV2).1.set1 (-1)) (And.intro ((unhide HQV2).2.1.set 1 (.int .i64 (-1))) ((unhide HQV2).2.2.kept (hkU _ (by omega)))))
        have HRU := hide ((unhide HRV2).kept (hkU bp (by omega)))
        have HBU := hide ((unhide HBV2).below (Qp.set_below (W := V2) (b := w.heap.size + 1) (o := 1) (.int .i64 (-1)) (show w.heap.size ≤ w.heap.size + 1 by omega)))
        have hsU : (V2.setCell ⟨w.heap.size + 1, 1, none⟩ (.int .i64 (-1))).heap.size = V2.heap.size := by simp [World.setCell]
        obtain ⟨u0, u1, u2⟩ := (unhide HQV2).1
        have uf := (unhide HQV2).2.1.f 1
        have hzU := (unhide HQV2).2.1.lt
        clear hkU
        go_wp2_with fail
        clear u0 u1 u2 uf
        generalize (V2.setCell ⟨w.heap.size + 1, 1, none⟩ (.int .i64 (-1))) = U at *
        have HNR := hide (show Qp.NR (if 0 < Qk.most (((2 : Nat) : Nat) : Int) then Qp.num l (Qk.least (((2 : Nat) : Nat) : Int)) (i + 1) else .ok (0, i + 1)) (-1) (i + 1 + 1) false by
          have e : Qp.num l (Qk.least (((2 : Nat) : Nat) : Int)) (i + 1) = .ok (-1, i + 1 + 1) := by
            unfold Qp.num
            rw [hx1]
            rfl
          rw [if_pos (by decide), e]
          exact ⟨rfl, rfl, rfl⟩)
        refine (AskArgs_any 2 U).mono ?_
        rintro r w7 ⟨rfl, hw7⟩
        obtain rfl : U = w7 := hw7.symm
        rw [show Qk.argsN 2 = 0 from rfl]
        obtain ⟨y0, y1, y2⟩ := (unhide HQU).1
        obtain ⟨v0, m0⟩ := (unhide HQU).2.2.c0
        obtain ⟨v1, m1⟩ := (unhide HQU).2.2.c1
        obtain ⟨v2, m2⟩ := (unhide HQU).2.2.c2
        have z0 := (unhide HQU).2.2.f 0
        have z1 := (unhide HQU).2.2.f 1
        have z2 := (unhide HQU).2.2.f 2
        have HSR := hide (Qp.ret3 (unhide HQU).2.2 (.int .i64 2) (.int .i64 (-1)) (.slice none 0 0))
        go_wp2_with fail
        obtain ⟨⟨s0, s1, s2⟩, hsS, hbS, haS, hkS⟩ := unhide HSR
        refine bodyPost_ret (v := .agg #[.int .i64 2, .int .i64 (-1), .slice none 0 0]) (by simp [results, Tryz.results34, go_sem, s0, s1, s2]) rfl ?_
        refine ⟨⟨2, -1, ⟨none, 0, 0⟩⟩, i + 1 + 1, false, rfl, (unhide HRU).kept (hkS bp (by omega)), (unhide HBU).below hbS, by omega, ?_⟩
        have hnr := unhide HNR
        rw [unhide HO2]
        cases hres : (if 0 < Qk.most (((2 : Nat) : Nat) : Int) then Qp.num l (Qk.least (((2 : Nat) : Nat) : Int)) (i + 1) else .ok (0, i + 1)) with
        | error j' => rw [hres] at hnr; exact hnr
        | ok p =>
          obtain ⟨m, j'⟩ := p
          rw [hres] at hnr
          obtain ⟨hg1, hj1, hm1⟩ := hnr
          subst hm1
          exact ⟨hg1, hj1, Qp.RO.leaf _ _ _ _ _ _ _⟩

set_option maxRecDepth 100000 in
set_option maxHeartbeats 3200000 in
theorem Ask_k3 (l : List Qp.T) (ta : Option Addr) (c bp i a d : Nat) (e : Int) (w : World) (hp : Qp.Rd w bp ta l.length c (i : Nat) e false) (hr : Qp.RT w ta l) (hne : ∀ b o, ta = some ⟨b, o, none⟩ → b ≠ bp) (hf : l.length ≤ 10000) (hg : Qp.Good l) (hi : i ≤ l.length) (ha : a ≤ 60) (hin : Qp.inW [⟨#[40]⟩] (Qp.tk l i).t = false)
    (rec : Nat → Except Nat (Qk.AT d × Nat)) (h60 : a = 60 → ∀ k, rec k = .error k)
    (HQ : a < 60 → ∀ (k : Nat) (f : Bool) (W : World), Qp.Rd W bp ta l.length c (k : Nat) e f → Qp.RT W ta l → k ≤ l.length → Calls Tryz.prog 34 #[.pointer (some ⟨bp, 0, none⟩), .int .i64 ((a : Int) + 1)] W (Qp.AskP bp ta l c e W (Qp.orec rec k f)))
    (hfd : Qp.find Qp.ones (Qp.tk l i).t = some 3) :
    Calls Tryz.prog 34 #[.pointer (some ⟨bp, 0, none⟩), .int .i64 (a : Nat)] w (Qp.AskP bp ta l c e w (Qp.wordF l rec i)) := by
  have HR := hide (fun (W : World) (hb : Qk.But1 bp w.heap.size w W) => hr.but hne hb)
  have HTT := hide (fun (k : Nat) (f : Bool) (hk : k ≤ l.length) (W : World) (h1 : Qp.Rd W bp ta l.length c (k : Nat) e f) (h2 : Qp.RT W ta l) => Text_any l ta c bp k e f W h1 h2 hf (by omega))
  have HND := hide (fun (s : ByteArray) (k : Nat) (f : Bool) (hk : k ≤ l.length) (W : World) (h1 : Qp.Rd W bp ta l.length c (k : Nat) e f) (h2 : Qp.RT W ta l) => Need_any l s ta c bp k e f W h1 h2 hf (by omega))
  have HNU := hide (fun (k : Nat) (f : Bool) (hk : k ≤ l.length) (W : World) (h1 : Qp.Rd W bp ta l.length c (k : Nat) e f) (h2 : Qp.RT W ta l) => Number_any l ta c bp k e f W h1 h2 hf (by omega) hg)
  have HT := hide (fun (W : World) => (unhide HTT) i false hi W)
  have HGD := hide hg
  have hop := Qp.rt_in hin
  rw [Qp.toList_40] at hop
  have HQH := hide (And.intro h60 HQ)
  have HP := hide hp
  have hblt := hp.lt
  obtain ⟨o, ho⟩ : ∃ o, Qp.wordF l rec i = o := ⟨_, rfl⟩
  rw [ho]
  have HO := hide ho
  have HFD := hide hfd
  clear HQ hp hr hin ho h60 hg
  go_enter Tryz.func34, Tryz.ntmps34
  go_wp2_with fail
  have hLA : Qp.Lp w ((w.alloc (Obj.cells #[.int .i64 0, .int .i64 0, .slice none 0 0] 24)).alloc (Obj.cells #[.int .i64 0, .int .i64 0, .slice none 0 0] 24)) ((w.alloc (Obj.cells #[.int .i64 0, .int .i64 0, .slice none 0 0] 24)).alloc (Obj.cells #[.int .i64 0, .int .i64 0, .slice none 0 0] 24)) bp ta l.length c i e false 0 :=
    have hb := ((Below.refl w.heap.size w).alloc (Nat.le_refl _) (Obj.cells #[.int .i64 0, .int .i64 0, .slice none 0 0] 24)).alloc (by simp) (Obj.cells #[.int .i64 0, .int .i64 0, .slice none 0 0] 24)
    ⟨⟨by go_simp, by go_simp, by go_simp⟩, ⟨⟨.int .i64 0, by go_simp⟩, ⟨.int .i64 0, by go_simp⟩, ⟨.slice none 0 0, by go_simp⟩, fun i => by go_simp⟩, ⟨⟨.int .i64 0, by go_simp⟩, ⟨.int .i64 0, by go_simp⟩, ⟨.slice none 0 0, by go_simp⟩, fun i => by go_simp⟩, (unhide HP).below hb, (Qk.But1.refl bp w.heap.size w).below hb, Qp.Ab.refl _ _⟩
  have hsA : ((w.alloc (Obj.cells #[.int .i64 0, .int .i64 0, .slice none 0 0] 24)).alloc (Obj.cells #[.int .i64 0, .int .i64 0, .slice none 0 0] 24)).heap.size = w.heap.size + 2 := by simp
  have HLA := hide hLA
  clear hLA
  generalize ((w.alloc (Obj.cells #[.int .i64 0, .int .i64 0, .slice none 0 0] 24)).alloc (Obj.cells #[.int .i64 0, .int .i64 0, .slice none 0 0] 24)) = WA at *
  refine ((unhide HTT) i false hi _ (unhide HLA).r ((unhide HR) _ (unhide HLA).b)).mono ?_
  rintro r w0 ⟨rfl, hb0⟩
  have HL0 := hide (show Qp.Lp w w0 w0 bp ta l.length c i e false (Qp.fnd false (Qp.rt l i false) 1) from ⟨((unhide HLA).below hb0).q, ((unhide HLA).below hb0).y, ((unhide HLA).below hb0).z, ((unhide HLA).below hb0).r, ((unhide HLA).below hb0).b, Qp.Ab.refl _ _⟩)
  clear hb0
  go_wp2_with fail
  go_loopw [9] (fun v wr => ∃ k : Nat, 1 ≤ k ∧ k ≤ 15 ∧ v = .int .i64 ((k : Nat) : Int) ∧ Qp.Lp w w0 wr bp ta l.length c (i) e false (Qp.fnd false (Qp.rt l (i) false) k)) (fun v _ => 15 - (intOf v).toNat)
  case atStart => exact ⟨1, Nat.le_refl _, by decide, rfl, unhide HL0⟩
  case round =>
    obtain ⟨k, hk1, hk2, rfl, hL⟩ := hrel
    have HL := hide hL
    clear hL
    by_cases hk : k ≤ 14
    · have hk3 : (k : Int) ≤ 14 := by omega
      obtain ⟨u0, u1, u2⟩ := (unhide HL).q
      have uf := (unhide HL).y.f 0
      have hz := (unhide HL).lt
      go_wp2_with fail
      refine (AskArgs_any ((k : Nat) : Int) _).mono ?_
      rintro r w1 ⟨rfl, hw1⟩
      obtain rfl : wr = w1 := hw1.symm
      by_cases hA : Qk.argsN ((k : Nat) : Int) < 2
      · have hA1 : ((Qk.argsN ((k : Nat) : Int) : Nat) : Int) < 2 := by omega
        have hA2 : decide (Qk.argsN ((k : Nat) : Int) = 2) = false := by simp; omega
        go_wp2_with fail
        refine ((unhide HT) _ (unhide HL).r ((unhide HR) _ (unhide HL).b)).mono ?_
        rintro r w2 ⟨rfl, hb2⟩
        have HL2 := hide ((unhide HL).below hb2)
        clear hb2
        go_wp2_with fail
        refine (askWord_any ((k : Nat) : Int) (Qk.isK_nat k (by omega) (by omega)) _).mono ?_
        rintro r w3 ⟨rfl, hb3⟩
        have HL3 := hide ((unhide HL2).below hb3)
        clear hb3 u0 u1 u2 uf hz
        obtain ⟨u0, u1, u2⟩ := (unhide HL3).q
        have uf := (unhide HL3).y.f 0
        have hz := (unhide HL3).lt
        cases htx : ((Qp.rt l (i) false).toList == (Qk.word ((k : Nat) : Int)).toList)
        · have HN := hide (show Qp.fnd false (Qp.rt l (i) false) (k + 1) = Qp.fnd false (Qp.rt l (i) false) k by
            show (if (decide (Qk.argsN ((k : Nat) : Int) = 2) == false && (decide (1 ≤ k) && ((Qp.rt l (i) false).toList == (Qk.word ((k : Nat) : Int)).toList))) = true then k else _) = _
            rw [htx]; simp)
          go_wp2_with fail
          go_round
          case rel => exact ⟨k + 1, by omega, by omega, by go_num, by rw [unhide HN]; exact unhide HL3⟩
          case measure => simp [intOf]; omega
        · have HN := hide (show Qp.fnd false (Qp.rt l (i) false) (k + 1) = k by
            show (if (decide (Qk.argsN ((k : Nat) : Int) = 2) == false && (decide (1 ≤ k) && ((Qp.rt l (i) false).toList == (Qk.word ((k : Nat) : Int)).toList))) = true then k else _) = _
            rw [htx, hA2, decide_eq_true (show 1 ≤ k by omega)]; rfl)
          go_wp2_with fail
          go_round
          case rel => exact ⟨k + 1, by omega, by omega, by go_num, by rw [unhide HN]; exact (unhide HL3).set hblt k⟩
          case measure => simp [intOf]; omega
      · have hA1 : ¬ ((Qk.argsN ((k : Nat) : Int) : Nat) : Int) < 2 := by omega
        have hA2 : decide (Qk.argsN ((k : Nat) : Int) = 2) = true := by have := Qk.args_two (k := ((k : Nat) : Int)); simp; omega
        have HN := hide (show Qp.fnd false (Qp.rt l (i) false) (k + 1) = Qp.fnd false (Qp.rt l (i) false) k by
          show (if (decide (Qk.argsN ((k : Nat) : Int) = 2) == false && (decide (1 ≤ k) && ((Qp.rt l (i) false).toList == (Qk.word ((k : Nat) : Int)).toList))) = true then k else _) = _
          rw [hA2]; rfl)
        go_wp2_with fail
        go_round
        case rel => exact ⟨k + 1, by omega, by omega, by go_num, by rw [unhide HN]; exact unhide HL⟩
        case measure => simp [intOf]; omega
    · have hk3 : ¬ (k : Int) ≤ 14 := by omega
      obtain rfl : k = 15 := by omega
      have hK : Qp.fnd false (Qp.rt l i false) 15 = 3 := by
        have e := (Qp.fnd_is (Qp.tk l i).t).1
        rw [hfd] at e
        exact e
      have HL2 := hide (show Qp.Lp w w0 wr bp ta l.length c i e false 3 by rw [← hK]; exact unhide HL)
      have HO2 := hide (show o = _ from (unhide HO).symm.trans (Qp.wordF_at hfd))
      have hjl : i < l.length := by
        by_cases hh : i < l.length
        · exact hh
        · have := (Qp.find_some hfd).1
          rw [Qp.tk_none (by omega)] at this
          exact absurd (congrArg ByteArray.toList this).symm (by rw [Qp.empty_eq]; exact Qp.word_ne (by decide) (by decide))
      have HNW := hide (show Qp.nd l (Qk.word 3) i false = (i + 1, false) from Qp.nd_word hfd)
      clear HL hK hfd HFD
      obtain ⟨u0, u1, u2⟩ := (unhide HL2).q
      have hzr := (unhide HL2).lt
      go_wp2_with fail
      refine (askWord_any 3 rfl _).mono ?_
      rintro r w3 ⟨rfl, hb3⟩
      have HL3 := hide ((unhide HL2).below hb3)
      have hs3 := hb3.size
      clear hb3 u0 u1 u2
      go_wp2_with fail
      refine ((unhide HND) (Qk.word 3) i false hi w3 (unhide HL3).r ((unhide HR) _ (unhide HL3).b)).mono ?_
      rw [unhide HNW]
      rintro r V ⟨rfl, hrdV, hbV⟩
      have HRV := hide hrdV
      have HQV := hide (show Qk.Lies V (w.heap.size + 1) 0 ⟨3, 0, ⟨none, 0, 0⟩⟩ ∧ Qp.Z3 V (w.heap.size + 1) ∧ Qp.Z3 V w.heap.size from And.intro ((unhide HL3).q.but hbV (by omega)) (And.intro ((unhide HL3).y.but hbV (by omega)) ((unhide HL3).z.but hbV (by omega))))
      have HBV := hide ((unhide HL3).b.trans hbV (unhide HL3).b.size)
      have hsV := hbV.size
      have hzV := (unhide HQV).2.1.lt
      clear hrdV hbV
      obtain ⟨u0, u1, u2⟩ := (unhide HQV).1
      cases hx1 : Qp.inW [⟨#[97, 110, 121]⟩] (Qp.tk l (i + 1)).t
      · have hx2 := Qp.rt_in hx1
        rw [Qp.toList_any] at hx2
        go_wp2_with fail
        refine ((unhide HTT) (i + 1) false (by omega) V (unhide HRV) ((unhide HR) _ (unhide HBV))).mono ?_
        rintro r V1 ⟨rfl, hbV1⟩
        have HRV1 := hide ((unhide HRV).below hbV1)
        have HQV1 := hide (And.intro ((unhide HQV).1.bel hbV1) (And.intro ((unhide HQV).2.1.later hbV1) ((unhide HQV).2.2.later hbV1)))
        have HBV1 := hide ((unhide HBV).below (hbV1.mono (unhide HBV).size))
        have hsV1 := hbV1.size
        clear hbV1
        clear u0 u1 u2
        go_wp2_with fail
        have hnb := Qp.rnum_bound (unhide HGD) (i + 1) false
        have hjU : (Qp.rnum l (i + 1) false).2.1 ≤ l.length := Qp.rnum_le (by omega)
        refine ((unhide HNU) (i + 1) false (by omega) V1 (unhide HRV1) ((unhide HR) _ (unhide HBV1))).mono ?_
        rintro r V2 ⟨rfl, hrdV2, hbV2⟩
        have HRV2 := hide hrdV2
        have HQV2 := hide (And.intro ((unhide HQV1).1.but hbV2 (by omega)) (And.intro ((unhide HQV1).2.1.but hbV2 (by omega)) ((unhide HQV1).2.2.but hbV2 (by omega))))
        have HBV2 := hide ((unhide HBV1).trans hbV2 (unhide HBV1).size)
        have hsV2 := hbV2.size
        clear hrdV2 hbV2
        generalize hrn : Qp.rnum l (i + 1) false = R at *
        obtain ⟨M, J, G⟩ := R
        replace hnb : 0 ≤ M ∧ M < 100000000 := hnb
        obtain ⟨hn0, hn1⟩ := hnb
        have hkU : ∀ q, q ≠ w.heap.size + 1 → (V2.setCell ⟨w.heap.size + 1, 1, none⟩ (.int .i64 (M))).heap[q]? = V2.heap[q]? := fun q hq => Below.heap_setCell _ _ _ _ hq
        have HQU := hide (And.intro ((unhide HQV2).1.set1 (M)) (And.intro ((unhide HQV2).2.1.set 1 (.int .i64 (M))) ((unhide HQV2).2.2.kept (hkU _ (by omega)))))
        have HRU := hide ((unhide HRV2).kept (hkU bp (by omega)))
        have HBU := hide ((unhide HBV2).below (Qp.set_below (W := V2) (b := w.heap.size + 1) (o := 1) (.int .i64 (M)) (show w.heap.size ≤ w.heap.size + 1 by omega)))
        have hsU : (V2.setCell ⟨w.heap.size + 1, 1, none⟩ (.int .i64 (M))).heap.size = V2.heap.size := by simp [World.setCell]
        obtain ⟨u0, u1, u2⟩ := (unhide HQV2).1
        have uf := (unhide HQV2).2.1.f 1
        have hzU := (unhide HQV2).2.1.lt
        clear hkU
        go_wp2_with fail
        clear u0 u1 u2 uf
        generalize (V2.setCell ⟨w.heap.size + 1, 1, none⟩ (.int .i64 (M))) = U at *
        have HNR := hide (show Qp.NR (if 0 < Qk.most (((3 : Nat) : Nat) : Int) then Qp.num l (Qk.least (((3 : Nat) : Nat) : Int)) (i + 1) else .ok (0, i + 1)) M J G by
          have e : Qp.num l (Qk.least (((3 : Nat) : Nat) : Int)) (i + 1) = Qp.dig l (i + 1) := by
            unfold Qp.num
            rw [hx1, Bool.and_false]
            rfl
          rw [if_pos (by decide), e]
          have := Qp.NR.dig l (i + 1)
          rw [hrn] at this
          exact this)
        refine (AskArgs_any 3 U).mono ?_
        rintro r w7 ⟨rfl, hw7⟩
        obtain rfl : U = w7 := hw7.symm
        rw [show Qk.argsN 3 = 0 from rfl]
        obtain ⟨y0, y1, y2⟩ := (unhide HQU).1
        obtain ⟨v0, m0⟩ := (unhide HQU).2.2.c0
        obtain ⟨v1, m1⟩ := (unhide HQU).2.2.c1
        obtain ⟨v2, m2⟩ := (unhide HQU).2.2.c2
        have z0 := (unhide HQU).2.2.f 0
        have z1 := (unhide HQU).2.2.f 1
        have z2 := (unhide HQU).2.2.f 2
        have HSR := hide (Qp.ret3 (unhide HQU).2.2 (.int .i64 3) (.int .i64 (M)) (.slice none 0 0))
        go_wp2_with fail
        obtain ⟨⟨s0, s1, s2⟩, hsS, hbS, haS, hkS⟩ := unhide HSR
        refine bodyPost_ret (v := .agg #[.int .i64 3, .int .i64 (M), .slice none 0 0]) (by simp [results, Tryz.results34, go_sem, s0, s1, s2]) rfl ?_
        refine ⟨⟨3, M, ⟨none, 0, 0⟩⟩, J, G, rfl, (unhide HRU).kept (hkS bp (by omega)), (unhide HBU).below hbS, by omega, ?_⟩
        have hnr := unhide HNR
        rw [unhide HO2]
        cases hres : (if 0 < Qk.most (((3 : Nat) : Nat) : Int) then Qp.num l (Qk.least (((3 : Nat) : Nat) : Int)) (i + 1) else .ok (0, i + 1)) with
        | error j' => rw [hres] at hnr; exact hnr
        | ok p =>
          obtain ⟨m, j'⟩ := p
          rw [hres] at hnr
          obtain ⟨hg1, hj1, hm1⟩ := hnr
          subst hm1
          exact ⟨hg1, hj1, Qp.RO.leaf _ _ _ _ _ _ _⟩
      · have hx2 := Qp.rt_in hx1
        rw [Qp.toList_any] at hx2
        have hl2 : i + 1 < l.length := Qp.lt_of_in (by simp only [Qp.inW, ByteArray.toList_eq]; decide) hx1
        have hndA : Qp.nd l ⟨#[97, 110, 121]⟩ (i + 1) false = (i + 1 + 1, false) := by
          have h := Qp.rt_in hx1
          unfold Qp.nd
          rw [show (Qp.tk l (i + 1)).t = Qp.rt l (i + 1) false from rfl, h]
          rfl
        go_wp2_with fail
        refine ((unhide HTT) (i + 1) false (by omega) V (unhide HRV) ((unhide HR) _ (unhide HBV))).mono ?_
        rintro r V1 ⟨rfl, hbV1⟩
        have HRV1 := hide ((unhide HRV).below hbV1)
        have HQV1 := hide (And.intro ((unhide HQV).1.bel hbV1) (And.intro ((unhide HQV).2.1.later hbV1) ((unhide HQV).2.2.later hbV1)))
        have HBV1 := hide ((unhide HBV).below (hbV1.mono (unhide HBV).size))
        have hsV1 := hbV1.size
        clear hbV1
        clear u0 u1 u2
        go_wp2_with fail
        refine ((unhide HND) ⟨#[97, 110, 121]⟩ (i + 1) false (by omega) V1 (unhide HRV1) ((unhide HR) _ (unhide HBV1))).mono ?_
        rw [hndA]
        rintro r V2 ⟨rfl, hrdV2, hbV2⟩
        have HRV2 := hide hrdV2
        have HQV2 := hide (And.intro ((unhide HQV1).1.but hbV2 (by omega)) (And.intro ((unhide HQV1).2.1.but hbV2 (by omega)) ((unhide HQV1).2.2.but hbV2 (by omega))))
        have HBV2 := hide ((unhide HBV1).trans hbV2 (unhide HBV1).size)
        have hsV2 := hbV2.size
        clear hrdV2 hbV2
        have hkU : ∀ q, q ≠ w.heap.size + 1 → (V2.setCell ⟨w.heap.size + 1, 1, none⟩ (.int .i64 (-1))).heap[q]? = V2.heap[q]? := fun q hq => Below.heap_setCell _ _ _ _ hq
        have HQU := hide (And.intro ((unhide HQV2).1.set1 (-1)) (And.intro ((unhide HQV2).2.1.set 1 (.int .i64 (-1))) ((unhide HQV2).2.2.kept (hkU _ (by omega)))))
        have HRU := hide ((unhide HRV2).kept (hkU bp (by omega)))
        have HBU := hide ((unhide HBV2).below (Qp.set_below (W := V2) (b := w.heap.size + 1) (o := 1) (.int .i64 (-1)) (show w.heap.size ≤ w.heap.size + 1 by omega)))
        have hsU : (V2.setCell ⟨w.heap.size + 1, 1, none⟩ (.int .i64 (-1))).heap.size = V2.heap.size := by simp [World.setCell]
        obtain ⟨u0, u1, u2⟩ := (unhide HQV2).1
        have uf := (unhide HQV2).2.1.f 1
        have hzU := (unhide HQV2).2.1.lt
        clear hkU
        go_wp2_with fail
        clear u0 u1 u2 uf
        generalize (V2.setCell ⟨w.heap.size + 1, 1, none⟩ (.int .i64 (-1))) = U at *
        have HNR := hide (show Qp.NR (if 0 < Qk.most (((3 : Nat) : Nat) : Int) then Qp.num l (Qk.least (((3 : Nat) : Nat) : Int)) (i + 1) else .ok (0, i + 1)) (-1) (i + 1 + 1) false by
          have e : Qp.num l (Qk.least (((3 : Nat) : Nat) : Int)) (i + 1) = .ok (-1, i + 1 + 1) := by
            unfold Qp.num
            rw [hx1]
            rfl
          rw [if_pos (by decide), e]
          exact ⟨rfl, rfl, rfl⟩)
        refine (AskArgs_any 3 U).mono ?_
        rintro r w7 ⟨rfl, hw7⟩
        obtain rfl : U = w7 := hw7.symm
        rw [show Qk.argsN 3 = 0 from rfl]
        obtain ⟨y0, y1, y2⟩ := (unhide HQU).1
        obtain ⟨v0, m0⟩ := (unhide HQU).2.2.c0
        obtain ⟨v1, m1⟩ := (unhide HQU).2.2.c1
        obtain ⟨v2, m2⟩ := (unhide HQU).2.2.c2
        have z0 := (unhide HQU).2.2.f 0
        have z1 := (unhide HQU).2.2.f 1
        have z2 := (unhide HQU).2.2.f 2
        have HSR := hide (Qp.ret3 (unhide HQU).2.2 (.int .i64 3) (.int .i64 (-1)) (.slice none 0 0))
        go_wp2_with fail
        obtain ⟨⟨s0, s1, s2⟩, hsS, hbS, haS, hkS⟩ := unhide HSR
        refine bodyPost_ret (v := .agg #[.int .i64 3, .int .i64 (-1), .slice none 0 0]) (by simp [results, Tryz.results34, go_sem, s0, s1, s2]) rfl ?_
        refine ⟨⟨3, -1, ⟨none, 0, 0⟩⟩, i + 1 + 1, false, rfl, (unhide HRU).kept (hkS bp (by omega)), (unhide HBU).below hbS, by omega, ?_⟩
        have hnr := unhide HNR
        rw [unhide HO2]
        cases hres : (if 0 < Qk.most (((3 : Nat) : Nat) : Int) then Qp.num l (Qk.least (((3 : Nat) : Nat) : Int)) (i + 1) else .ok (0, i + 1)) with
        | error j' => rw [hres] at hnr; exact hnr
        | ok p =>
          obtain ⟨m, j'⟩ := p
          rw [hres] at hnr
          obtain ⟨hg1, hj1, hm1⟩ := hnr
          subst hm1
          exact ⟨hg1, hj1, Qp.RO.leaf _ _ _ _ _ _ _⟩

set_option maxRecDepth 100000 in
set_option maxHeartbeats 3200000 in
theorem Ask_k5 (l : List Qp.T) (ta : Option Addr) (c bp i a d : Nat) (e : Int) (w : World) (hp : Qp.Rd w bp ta l.length c (i : Nat) e false) (hr : Qp.RT w ta l) (hne : ∀ b o, ta = some ⟨b, o, none⟩ → b ≠ bp) (hf : l.length ≤ 10000) (hg : Qp.Good l) (hi : i ≤ l.length) (ha : a ≤ 60) (hin : Qp.inW [⟨#[40]⟩] (Qp.tk l i).t = false)
    (rec : Nat → Except Nat (Qk.AT d × Nat)) (h60 : a = 60 → ∀ k, rec k = .error k)
    (HQ : a < 60 → ∀ (k : Nat) (f : Bool) (W : World), Qp.Rd W bp ta l.length c (k : Nat) e f → Qp.RT W ta l → k ≤ l.length → Calls Tryz.prog 34 #[.pointer (some ⟨bp, 0, none⟩), .int .i64 ((a : Int) + 1)] W (Qp.AskP bp ta l c e W (Qp.orec rec k f)))
    (hfd : Qp.find Qp.ones (Qp.tk l i).t = some 5) :
    Calls Tryz.prog 34 #[.pointer (some ⟨bp, 0, none⟩), .int .i64 (a : Nat)] w (Qp.AskP bp ta l c e w (Qp.wordF l rec i)) := by
  have HR := hide (fun (W : World) (hb : Qk.But1 bp w.heap.size w W) => hr.but hne hb)
  have HTT := hide (fun (k : Nat) (f : Bool) (hk : k ≤ l.length) (W : World) (h1 : Qp.Rd W bp ta l.length c (k : Nat) e f) (h2 : Qp.RT W ta l) => Text_any l ta c bp k e f W h1 h2 hf (by omega))
  have HND := hide (fun (s : ByteArray) (k : Nat) (f : Bool) (hk : k ≤ l.length) (W : World) (h1 : Qp.Rd W bp ta l.length c (k : Nat) e f) (h2 : Qp.RT W ta l) => Need_any l s ta c bp k e f W h1 h2 hf (by omega))
  have HNU := hide (fun (k : Nat) (f : Bool) (hk : k ≤ l.length) (W : World) (h1 : Qp.Rd W bp ta l.length c (k : Nat) e f) (h2 : Qp.RT W ta l) => Number_any l ta c bp k e f W h1 h2 hf (by omega) hg)
  have HT := hide (fun (W : World) => (unhide HTT) i false hi W)
  have HGD := hide hg
  have hop := Qp.rt_in hin
  rw [Qp.toList_40] at hop
  have HQH := hide (And.intro h60 HQ)
  have HP := hide hp
  have hblt := hp.lt
  obtain ⟨o, ho⟩ : ∃ o, Qp.wordF l rec i = o := ⟨_, rfl⟩
  rw [ho]
  have HO := hide ho
  have HFD := hide hfd
  clear HQ hp hr hin ho h60 hg
  go_enter Tryz.func34, Tryz.ntmps34
  go_wp2_with fail
  have hLA : Qp.Lp w ((w.alloc (Obj.cells #[.int .i64 0, .int .i64 0, .slice none 0 0] 24)).alloc (Obj.cells #[.int .i64 0, .int .i64 0, .slice none 0 0] 24)) ((w.alloc (Obj.cells #[.int .i64 0, .int .i64 0, .slice none 0 0] 24)).alloc (Obj.cells #[.int .i64 0, .int .i64 0, .slice none 0 0] 24)) bp ta l.length c i e false 0 :=
    have hb := ((Below.refl w.heap.size w).alloc (Nat.le_refl _) (Obj.cells #[.int .i64 0, .int .i64 0, .slice none 0 0] 24)).alloc (by simp) (Obj.cells #[.int .i64 0, .int .i64 0, .slice none 0 0] 24)
    ⟨⟨by go_simp, by go_simp, by go_simp⟩, ⟨⟨.int .i64 0, by go_simp⟩, ⟨.int .i64 0, by go_simp⟩, ⟨.slice none 0 0, by go_simp⟩, fun i => by go_simp⟩, ⟨⟨.int .i64 0, by go_simp⟩, ⟨.int .i64 0, by go_simp⟩, ⟨.slice none 0 0, by go_simp⟩, fun i => by go_simp⟩, (unhide HP).below hb, (Qk.But1.refl bp w.heap.size w).below hb, Qp.Ab.refl _ _⟩
  have hsA : ((w.alloc (Obj.cells #[.int .i64 0, .int .i64 0, .slice none 0 0] 24)).alloc (Obj.cells #[.int .i64 0, .int .i64 0, .slice none 0 0] 24)).heap.size = w.heap.size + 2 := by simp
  have HLA := hide hLA
  clear hLA
  generalize ((w.alloc (Obj.cells #[.int .i64 0, .int .i64 0, .slice none 0 0] 24)).alloc (Obj.cells #[.int .i64 0, .int .i64 0, .slice none 0 0] 24)) = WA at *
  refine ((unhide HTT) i false hi _ (unhide HLA).r ((unhide HR) _ (unhide HLA).b)).mono ?_
  rintro r w0 ⟨rfl, hb0⟩
  have HL0 := hide (show Qp.Lp w w0 w0 bp ta l.length c i e false (Qp.fnd false (Qp.rt l i false) 1) from ⟨((unhide HLA).below hb0).q, ((unhide HLA).below hb0).y, ((unhide HLA).below hb0).z, ((unhide HLA).below hb0).r, ((unhide HLA).below hb0).b, Qp.Ab.refl _ _⟩)
  clear hb0
  go_wp2_with fail
  go_loopw [9] (fun v wr => ∃ k : Nat, 1 ≤ k ∧ k ≤ 15 ∧ v = .int .i64 ((k : Nat) : Int) ∧ Qp.Lp w w0 wr bp ta l.length c (i) e false (Qp.fnd false (Qp.rt l (i) false) k)) (fun v _ => 15 - (intOf v).toNat)
  case atStart => exact ⟨1, Nat.le_refl _, by decide, rfl, unhide HL0⟩
  case round =>
    obtain ⟨k, hk1, hk2, rfl, hL⟩ := hrel
    have HL := hide hL
    clear hL
    by_cases hk : k ≤ 14
    · have hk3 : (k : Int) ≤ 14 := by omega
      obtain ⟨u0, u1, u2⟩ := (unhide HL).q
      have uf := (unhide HL).y.f 0
      have hz := (unhide HL).lt
      go_wp2_with fail
      refine (AskArgs_any ((k : Nat) : Int) _).mono ?_
      rintro r w1 ⟨rfl, hw1⟩
      obtain rfl : wr = w1 := hw1.symm
      by_cases hA : Qk.argsN ((k : Nat) : Int) < 2
      · have hA1 : ((Qk.argsN ((k : Nat) : Int) : Nat) : Int) < 2 := by omega
        have hA2 : decide (Qk.argsN ((k : Nat) : Int) = 2) = false := by simp; omega
        go_wp2_with fail
        refine ((unhide HT) _ (unhide HL).r ((unhide HR) _ (unhide HL).b)).mono ?_
        rintro r w2 ⟨rfl, hb2⟩
        have HL2 := hide ((unhide HL).below hb2)
        clear hb2
        go_wp2_with fail
        refine (askWord_any ((k : Nat) : Int) (Qk.isK_nat k (by omega) (by omega)) _).mono ?_
        rintro r w3 ⟨rfl, hb3⟩
        have HL3 := hide ((unhide HL2).below hb3)
        clear hb3 u0 u1 u2 uf hz
        obtain ⟨u0, u1, u2⟩ := (unhide HL3).q
        have uf := (unhide HL3).y.f 0
        have hz := (unhide HL3).lt
        cases htx : ((Qp.rt l (i) false).toList == (Qk.word ((k : Nat) : Int)).toList)
        · have HN := hide (show Qp.fnd false (Qp.rt l (i) false) (k + 1) = Qp.fnd false (Qp.rt l (i) false) k by
            show (if (decide (Qk.argsN ((k : Nat) : Int) = 2) == false && (decide (1 ≤ k) && ((Qp.rt l (i) false).toList == (Qk.word ((k : Nat) : Int)).toList))) = true then k else _) = _
            rw [htx]; simp)
          go_wp2_with fail
          go_round
          case rel => exact ⟨k + 1, by omega, by omega, by go_num, by rw [unhide HN]; exact unhide HL3⟩
          case measure => simp [intOf]; omega
        · have HN := hide (show Qp.fnd false (Qp.rt l (i) false) (k + 1) = k by
            show (if (decide (Qk.argsN ((k : Nat) : Int) = 2) == false && (decide (1 ≤ k) && ((Qp.rt l (i) false).toList == (Qk.word ((k : Nat) : Int)).toList))) = true then k else _) = _
            rw [htx, hA2, decide_eq_true (show 1 ≤ k by omega)]; rfl)
          go_wp2_with fail
          go_round
          case rel => exact ⟨k + 1, by omega, by omega, by go_num, by rw [unhide HN]; exact (unhide HL3).set hblt k⟩
          case measure => simp [intOf]; omega
      · have hA1 : ¬ ((Qk.argsN ((k : Nat) : Int) : Nat) : Int) < 2 := by omega
        have hA2 : decide (Qk.argsN ((k : Nat) : Int) = 2) = true := by have := Qk.args_two (k := ((k : Nat) : Int)); simp; omega
        have HN := hide (show Qp.fnd false (Qp.rt l (i) false) (k + 1) = Qp.fnd false (Qp.rt l (i) false) k by
          show (if (decide (Qk.argsN ((k : Nat) : Int) = 2) == false && (decide (1 ≤ k) && ((Qp.rt l (i) false).toList == (Qk.word ((k : Nat) : Int)).toList))) = true then k else _) = _
          rw [hA2]; rfl)
        go_wp2_with fail
        go_round
        case rel => exact ⟨k + 1, by omega, by omega, by go_num, by rw [unhide HN]; exact unhide HL⟩
        case measure => simp [intOf]; omega
    · have hk3 : ¬ (k : Int) ≤ 14 := by omega
      obtain rfl : k = 15 := by omega
      have hK : Qp.fnd false (Qp.rt l i false) 15 = 5 := by
        have e := (Qp.fnd_is (Qp.tk l i).t).1
        rw [hfd] at e
        exact e
      have HL2 := hide (show Qp.Lp w w0 wr bp ta l.length c i e false 5 by rw [← hK]; exact unhide HL)
      have HO2 := hide (show o = _ from (unhide HO).symm.trans (Qp.wordF_at hfd))
      have hjl : i < l.length := by
        by_cases hh : i < l.length
        · exact hh
        · have := (Qp.find_some hfd).1
          rw [Qp.tk_none (by omega)] at this
          exact absurd (congrArg ByteArray.toList this).symm (by rw [Qp.empty_eq]; exact Qp.word_ne (by decide) (by decide))
      have HNW := hide (show Qp.nd l (Qk.word 5) i false = (i + 1, false) from Qp.nd_word hfd)
      clear HL hK hfd HFD
      obtain ⟨u0, u1, u2⟩ := (unhide HL2).q
      have hzr := (unhide HL2).lt
      go_wp2_with fail
      refine (askWord_any 5 rfl _).mono ?_
      rintro r w3 ⟨rfl, hb3⟩
      have HL3 := hide ((unhide HL2).below hb3)
      have hs3 := hb3.size
      clear hb3 u0 u1 u2
      go_wp2_with fail
      refine ((unhide HND) (Qk.word 5) i false hi w3 (unhide HL3).r ((unhide HR) _ (unhide HL3).b)).mono ?_
      rw [unhide HNW]
      rintro r V ⟨rfl, hrdV, hbV⟩
      have HRV := hide hrdV
      have HQV := hide (show Qk.Lies V (w.heap.size + 1) 0 ⟨5, 0, ⟨none, 0, 0⟩⟩ ∧ Qp.Z3 V (w.heap.size + 1) ∧ Qp.Z3 V w.heap.size from And.intro ((unhide HL3).q.but hbV (by omega)) (And.intro ((unhide HL3).y.but hbV (by omega)) ((unhide HL3).z.but hbV (by omega))))
      have HBV := hide ((unhide HL3).b.trans hbV (unhide HL3).b.size)
      have hsV := hbV.size
      have hzV := (unhide HQV).2.1.lt
      clear hrdV hbV
      obtain ⟨u0, u1, u2⟩ := (unhide HQV).1
      cases hx1 : Qp.inW [⟨#[45]⟩] (Qp.tk l (i + 1)).t
      · have hx2 := Qp.rt_in hx1
        rw [Qp.toList_min] at hx2
        go_wp2_with fail
        refine ((unhide HTT) (i + 1) false (by omega) V (unhide HRV) ((unhide HR) _ (unhide HBV))).mono ?_
        rintro r V1 ⟨rfl, hbV1⟩
        have HRV1 := hide ((unhide HRV).below hbV1)
        have HQV1 := hide (And.intro ((unhide HQV).1.bel hbV1) (And.intro ((unhide HQV).2.1.later hbV1) ((unhide HQV).2.2.later hbV1)))
        have HBV1 := hide ((unhide HBV).below (hbV1.mono (unhide HBV).size))
        have hsV1 := hbV1.size
        clear hbV1
        clear u0 u1 u2
        go_wp2_with fail
        have hnb := Qp.rnum_bound (unhide HGD) (i + 1) false
        have hjU : (Qp.rnum l (i + 1) false).2.1 ≤ l.length := Qp.rnum_le (by omega)
        refine ((unhide HNU) (i + 1) false (by omega) V1 (unhide HRV1) ((unhide HR) _ (unhide HBV1))).mono ?_
        rintro r V2 ⟨rfl, hrdV2, hbV2⟩
        have HRV2 := hide hrdV2
        have HQV2 := hide (And.intro ((unhide HQV1).1.but hbV2 (by omega)) (And.intro ((unhide HQV1).2.1.but hbV2 (by omega)) ((unhide HQV1).2.2.but hbV2 (by omega))))
        have HBV2 := hide ((unhide HBV1).trans hbV2 (unhide HBV1).size)
        have hsV2 := hbV2.size
        clear hrdV2 hbV2
        generalize hrn : Qp.rnum l (i + 1) false = R at *
        obtain ⟨M, J, G⟩ := R
        replace hnb : 0 ≤ M ∧ M < 100000000 := hnb
        obtain ⟨hn0, hn1⟩ := hnb
        have hkU : ∀ q, q ≠ w.heap.size + 1 → (V2.setCell ⟨w.heap.size + 1, 1, none⟩ (.int .i64 (M))).heap[q]? = V2.heap[q]? := fun q hq => Below.heap_setCell _ _ _ _ hq
        have HQU := hide (And.intro ((unhide HQV2).1.set1 (M)) (And.intro ((unhide HQV2).2.1.set 1 (.int .i64 (M))) ((unhide HQV2).2.2.kept (hkU _ (by omega)))))
        have HRU := hide ((unhide HRV2).kept (hkU bp (by omega)))
        have HBU := hide ((unhide HBV2).below (Qp.set_below (W := V2) (b := w.heap.size + 1) (o := 1) (.int .i64 (M)) (show w.heap.size ≤ w.heap.size + 1 by omega)))
        have hsU : (V2.setCell ⟨w.heap.size + 1, 1, none⟩ (.int .i64 (M))).heap.size = V2.heap.size := by simp [World.setCell]
        obtain ⟨u0, u1, u2⟩ := (unhide HQV2).1
        have uf := (unhide HQV2).2.1.f 1
        have hzU := (unhide HQV2).2.1.lt
        clear hkU
        go_wp2_with fail
        clear u0 u1 u2 uf
        generalize (V2.setCell ⟨w.heap.size + 1, 1, none⟩ (.int .i64 (M))) = U at *
        have HNR := hide (show Qp.NR (if 0 < Qk.most (((5 : Nat) : Nat) : Int) then Qp.num l (Qk.least (((5 : Nat) : Nat) : Int)) (i + 1) else .ok (0, i + 1)) M J G by
          have e : Qp.num l (Qk.least (((5 : Nat) : Nat) : Int)) (i + 1) = Qp.dig l (i + 1) := by
            unfold Qp.num
            rw [hx1, Bool.and_false]
            rfl
          rw [if_pos (by decide), e]
          have := Qp.NR.dig l (i + 1)
          rw [hrn] at this
          exact this)
        refine (AskArgs_any 5 U).mono ?_
        rintro r w7 ⟨rfl, hw7⟩
        obtain rfl : U = w7 := hw7.symm
        rw [show Qk.argsN 5 = 0 from rfl]
        obtain ⟨y0, y1, y2⟩ := (unhide HQU).1
        obtain ⟨v0, m0⟩ := (unhide HQU).2.2.c0
        obtain ⟨v1, m1⟩ := (unhide HQU).2.2.c1
        obtain ⟨v2, m2⟩ := (unhide HQU).2.2.c2
        have z0 := (unhide HQU).2.2.f 0
        have z1 := (unhide HQU).2.2.f 1
        have z2 := (unhide HQU).2.2.f 2
        have HSR := hide (Qp.ret3 (unhide HQU).2.2 (.int .i64 5) (.int .i64 (M)) (.slice none 0 0))
        go_wp2_with fail
        obtain ⟨⟨s0, s1, s2⟩, hsS, hbS, haS, hkS⟩ := unhide HSR
        refine bodyPost_ret (v := .agg #[.int .i64 5, .int .i64 (M), .slice none 0 0]) (by simp [results, Tryz.results34, go_sem, s0, s1, s2]) rfl ?_
        refine ⟨⟨5, M, ⟨none, 0, 0⟩⟩, J, G, rfl, (unhide HRU).kept (hkS bp (by omega)), (unhide HBU).below hbS, by omega, ?_⟩
        have hnr := unhide HNR
        rw [unhide HO2]
        cases hres : (if 0 < Qk.most (((5 : Nat) : Nat) : Int) then Qp.num l (Qk.least (((5 : Nat) : Nat) : Int)) (i + 1) else .ok (0, i + 1)) with
        | error j' => rw [hres] at hnr; exact hnr
        | ok p =>
          obtain ⟨m, j'⟩ := p
          rw [hres] at hnr
          obtain ⟨hg1, hj1, hm1⟩ := hnr
          subst hm1
          exact ⟨hg1, hj1, Qp.RO.leaf _ _ _ _ _ _ _⟩
      · have hx2 := Qp.rt_in hx1
        rw [Qp.toList_min] at hx2
        have hl2 : i + 1 < l.length := Qp.lt_of_in (by simp only [Qp.inW, ByteArray.toList_eq]; decide) hx1
        have hndA : Qp.nd l ⟨#[45]⟩ (i + 1) false = (i + 1 + 1, false) := by
          have h := Qp.rt_in hx1
          unfold Qp.nd
          rw [show (Qp.tk l (i + 1)).t = Qp.rt l (i + 1) false from rfl, h]
          rfl
        go_wp2_with fail
        refine ((unhide HTT) (i + 1) false (by omega) V (unhide HRV) ((unhide HR) _ (unhide HBV))).mono ?_
        rintro r V1 ⟨rfl, hbV1⟩
        have HRV1 := hide ((unhide HRV).below hbV1)
        have HQV1 := hide (And.intro ((unhide HQV).1.bel hbV1) (And.intro ((unhide HQV).2.1.later hbV1) ((unhide HQV).2.2.later hbV1)))
        have HBV1 := hide ((unhide HBV).below (hbV1.mono (unhide HBV).size))
        have hsV1 := hbV1.size
        clear hbV1
        clear u0 u1 u2
        go_wp2_with fail
        refine ((unhide HND) ⟨#[45]⟩ (i + 1) false (by omega) V1 (unhide HRV1) ((unhide HR) _ (unhide HBV1))).mono ?_
        rw [hndA]
        rintro r V3 ⟨rfl, hrdV3, hbV3⟩
        have HRV3 := hide hrdV3
        have HQV3 := hide (And.intro ((unhide HQV1).1.but hbV3 (by omega)) (And.intro ((unhide HQV1).2.1.but hbV3 (by omega)) ((unhide HQV1).2.2.but hbV3 (by omega))))
        have HBV3 := hide ((unhide HBV1).trans hbV3 (unhide HBV1).size)
        have hsV3 := hbV3.size
        clear hrdV3 hbV3
        cases hx3 : Qp.inW [⟨#[48]⟩] (Qp.tk l (i + 1 + 1)).t
        · have hx4 := Qp.rt_in hx3
          rw [Qp.toList_zero] at hx4
          go_wp2_with fail
          refine ((unhide HTT) (i + 1 + 1) false (by omega) V3 (unhide HRV3) ((unhide HR) _ (unhide HBV3))).mono ?_
          rintro r V4 ⟨rfl, hbV4⟩
          have HRV4 := hide ((unhide HRV3).below hbV4)
          have HQV4 := hide (And.intro ((unhide HQV3).1.bel hbV4) (And.intro ((unhide HQV3).2.1.later hbV4) ((unhide HQV3).2.2.later hbV4)))
          have HBV4 := hide ((unhide HBV3).below (hbV4.mono (unhide HBV3).size))
          have hsV4 := hbV4.size
          clear hbV4
          go_wp2_with fail
          have hnb := Qp.rnum_bound (unhide HGD) (i + 1 + 1) false
          have hjU : (Qp.rnum l (i + 1 + 1) false).2.1 ≤ l.length := Qp.rnum_le (by omega)
          refine ((unhide HNU) (i + 1 + 1) false (by omega) V4 (unhide HRV4) ((unhide HR) _ (unhide HBV4))).mono ?_
          rintro r V2 ⟨rfl, hrdV2, hbV2⟩
          have HRV2 := hide hrdV2
          have HQV2 := hide (And.intro ((unhide HQV4).1.but hbV2 (by omega)) (And.intro ((unhide HQV4).2.1.but hbV2 (by omega)) ((unhide HQV4).2.2.but hbV2 (by omega))))
          have HBV2 := hide ((unhide HBV4).trans hbV2 (unhide HBV4).size)
          have hsV2 := hbV2.size
          clear hrdV2 hbV2
          generalize hrn : Qp.rnum l (i + 1 + 1) false = R at *
          obtain ⟨M, J, G⟩ := R
          replace hnb : 0 ≤ M ∧ M < 100000000 := hnb
          obtain ⟨hn0, hn1⟩ := hnb
          have hkU : ∀ q, q ≠ w.heap.size + 1 → (V2.setCell ⟨w.heap.size + 1, 1, none⟩ (.int .i64 (-M))).heap[q]? = V2.heap[q]? := fun q hq => Below.heap_setCell _ _ _ _ hq
          have HQU := hide (And.intro ((unhide HQV2).1.set1 (-M)) (And.intro ((unhide HQV2).2.1.set 1 (.int .i64 (-M))) ((unhide HQV2).2.2.kept (hkU _ (by omega)))))
          have HRU := hide ((unhide HRV2).kept (hkU bp (by omega)))
          have HBU := hide ((unhide HBV2).below (Qp.set_below (W := V2) (b := w.heap.size + 1) (o := 1) (.int .i64 (-M)) (show w.heap.size ≤ w.heap.size + 1 by omega)))
          have hsU : (V2.setCell ⟨w.heap.size + 1, 1, none⟩ (.int .i64 (-M))).heap.size = V2.heap.size := by simp [World.setCell]
          obtain ⟨u0, u1, u2⟩ := (unhide HQV2).1
          have uf := (unhide HQV2).2.1.f 1
          have hzU := (unhide HQV2).2.1.lt
          clear hkU
          go_wp2_with fail
          clear u0 u1 u2 uf
          generalize (V2.setCell ⟨w.heap.size + 1, 1, none⟩ (.int .i64 (-M))) = U at *
          have HNR := hide (show Qp.NR (if 0 < Qk.most (((5 : Nat) : Nat) : Int) then Qp.num l (Qk.least (((5 : Nat) : Nat) : Int)) (i + 1) else .ok (0, i + 1)) (-M) J G by
            have e : Qp.num l (Qk.least (((5 : Nat) : Nat) : Int)) (i + 1) = (match Qp.dig l (i + 1 + 1) with | .error j => .error j | .ok (n, j) => .ok (-n, j)) := by
              unfold Qp.num
              rw [hx1, hx3]
              rfl
            rw [if_pos (by decide), e]
            have := Qp.NR.dig l (i + 1 + 1)
            rw [hrn] at this
            cases hdg : Qp.dig l (i + 1 + 1) with
            | error j' => rw [hdg] at this; exact this
            | ok p => rw [hdg] at this; exact ⟨this.1, this.2.1, by rw [show M = p.1 from this.2.2]⟩)
          refine (AskArgs_any 5 U).mono ?_
          rintro r w7 ⟨rfl, hw7⟩
          obtain rfl : U = w7 := hw7.symm
          rw [show Qk.argsN 5 = 0 from rfl]
          obtain ⟨y0, y1, y2⟩ := (unhide HQU).1
          obtain ⟨v0, m0⟩ := (unhide HQU).2.2.c0
          obtain ⟨v1, m1⟩ := (unhide HQU).2.2.c1
          obtain ⟨v2, m2⟩ := (unhide HQU).2.2.c2
          have z0 := (unhide HQU).2.2.f 0
          have z1 := (unhide HQU).2.2.f 1
          have z2 := (unhide HQU).2.2.f 2
          have HSR := hide (Qp.ret3 (unhide HQU).2.2 (.int .i64 5) (.int .i64 (-M)) (.slice none 0 0))
          go_wp2_with fail
          obtain ⟨⟨s0, s1, s2⟩, hsS, hbS, haS, hkS⟩ := unhide HSR
          refine bodyPost_ret (v := .agg #[.int .i64 5, .int .i64 (-M), .slice none 0 0]) (by simp [results, Tryz.results34, go_sem, s0, s1, s2]) rfl ?_
          refine ⟨⟨5, -M, ⟨none, 0, 0⟩⟩, J, G, rfl, (unhide HRU).kept (hkS bp (by omega)), (unhide HBU).below hbS, by omega, ?_⟩
          have hnr := unhide HNR
          rw [unhide HO2]
          cases hres : (if 0 < Qk.most (((5 : Nat) : Nat) : Int) then Qp.num l (Qk.least (((5 : Nat) : Nat) : Int)) (i + 1) else .ok (0, i + 1)) with
          | error j' => rw [hres] at hnr; exact hnr
          | ok p =>
            obtain ⟨m, j'⟩ := p
            rw [hres] at hnr
            obtain ⟨hg1, hj1, hm1⟩ := hnr
            subst hm1
            exact ⟨hg1, hj1, Qp.RO.leaf _ _ _ _ _ _ _⟩
        · have hx4 := Qp.rt_in hx3
          rw [Qp.toList_zero] at hx4
          go_wp2_with fail
          refine ((unhide HTT) (i + 1 + 1) false (by omega) V3 (unhide HRV3) ((unhide HR) _ (unhide HBV3))).mono ?_
          rintro r V4 ⟨rfl, hbV4⟩
          have HRV4 := hide ((unhide HRV3).below hbV4)
          have HQV4 := hide (And.intro ((unhide HQV3).1.bel hbV4) (And.intro ((unhide HQV3).2.1.later hbV4) ((unhide HQV3).2.2.later hbV4)))
          have HBV4 := hide ((unhide HBV3).below (hbV4.mono (unhide HBV3).size))
          have hsV4 := hbV4.size
          clear hbV4
          have HRV5 := hide (unhide HRV4).fail
          have hkV5 : ∀ q, q ≠ bp → (V4.setCell ⟨bp, 3, none⟩ (.bool true)).heap[q]? = V4.heap[q]? := fun q hq => Below.heap_setCell _ _ _ _ hq
          have hzV4 := (unhide HQV4).2.1.lt
          have HQV5 := hide (And.intro ((unhide HQV4).1.kept (hkV5 _ (by omega))) (And.intro ((unhide HQV4).2.1.kept (hkV5 _ (by omega))) ((unhide HQV4).2.2.kept (hkV5 _ (by omega)))))
          have HBV5 := hide ((unhide HBV4).set (o := 3) (.bool true))
          have hsV5 : (V4.setCell ⟨bp, 3, none⟩ (.bool true)).heap.size = V4.heap.size := by simp [World.setCell]
          obtain ⟨r0, r1, r2, r3, rf1, rf3⟩ := unhide HRV4
          clear hkV5
          go_wp2_with fail
          clear r0 r1 r2 r3 rf1 rf3
          generalize (V4.setCell ⟨bp, 3, none⟩ (.bool true)) = V5 at *
          refine ((unhide HNU) (i + 1 + 1) true (by omega) V5 (unhide HRV5) ((unhide HR) _ (unhide HBV5))).mono ?_
          rintro r V2 ⟨rfl, hrdV2, hbV2⟩
          replace hrdV2 : Qp.Rd V2 bp ta l.length c ((i + 1 + 1 : Nat) : Int) e true := hrdV2
          rw [show (Qp.rnum l (i + 1 + 1) true).1 = 0 from rfl]
          have HRV2 := hide hrdV2
          have HQV2 := hide (And.intro ((unhide HQV5).1.but hbV2 (by omega)) (And.intro ((unhide HQV5).2.1.but hbV2 (by omega)) ((unhide HQV5).2.2.but hbV2 (by omega))))
          have HBV2 := hide ((unhide HBV5).trans hbV2 (unhide HBV5).size)
          have hsV2 := hbV2.size
          clear hrdV2 hbV2
          have hkU : ∀ q, q ≠ w.heap.size + 1 → (V2.setCell ⟨w.heap.size + 1, 1, none⟩ (.int .i64 (0))).heap[q]? = V2.heap[q]? := fun q hq => Below.heap_setCell _ _ _ _ hq
          have HQU := hide (And.intro ((unhide HQV2).1.set1 (0)) (And.intro ((unhide HQV2).2.1.set 1 (.int .i64 (0))) ((unhide HQV2).2.2.kept (hkU _ (by omega)))))
          have HRU := hide ((unhide HRV2).kept (hkU bp (by omega)))
          have HBU := hide ((unhide HBV2).below (Qp.set_below (W := V2) (b := w.heap.size + 1) (o := 1) (.int .i64 (0)) (show w.heap.size ≤ w.heap.size + 1 by omega)))
          have hsU : (V2.setCell ⟨w.heap.size + 1, 1, none⟩ (.int .i64 (0))).heap.size = V2.heap.size := by simp [World.setCell]
          obtain ⟨u0, u1, u2⟩ := (unhide HQV2).1
          have uf := (unhide HQV2).2.1.f 1
          have hzU := (unhide HQV2).2.1.lt
          clear hkU
          go_wp2_with fail
          clear u0 u1 u2 uf
          generalize (V2.setCell ⟨w.heap.size + 1, 1, none⟩ (.int .i64 (0))) = U at *
          have HNR := hide (show Qp.NR (if 0 < Qk.most (((5 : Nat) : Nat) : Int) then Qp.num l (Qk.least (((5 : Nat) : Nat) : Int)) (i + 1) else .ok (0, i + 1)) 0 (i + 1 + 1) true by
            have e : Qp.num l (Qk.least (((5 : Nat) : Nat) : Int)) (i + 1) = .error (i + 1 + 1) := by
              unfold Qp.num
              rw [hx1, hx3]
              rfl
            rw [if_pos (by decide), e]
            exact ⟨rfl, rfl⟩)
          refine (AskArgs_any 5 U).mono ?_
          rintro r w7 ⟨rfl, hw7⟩
          obtain rfl : U = w7 := hw7.symm
          rw [show Qk.argsN 5 = 0 from rfl]
          obtain ⟨y0, y1, y2⟩ := (unhide HQU).1
          obtain ⟨v0, m0⟩ := (unhide HQU).2.2.c0
          obtain ⟨v1, m1⟩ := (unhide HQU).2.2.c1
          obtain ⟨v2, m2⟩ := (unhide HQU).2.2.c2
          have z0 := (unhide HQU).2.2.f 0
          have z1 := (unhide HQU).2.2.f 1
          have z2 := (unhide HQU).2.2.f 2
          have HSR := hide (Qp.ret3 (unhide HQU).2.2 (.int .i64 5) (.int .i64 (0)) (.slice none 0 0))
          go_wp2_with fail
          obtain ⟨⟨s0, s1, s2⟩, hsS, hbS, haS, hkS⟩ := unhide HSR
          refine bodyPost_ret (v := .agg #[.int .i64 5, .int .i64 (0), .slice none 0 0]) (by simp [results, Tryz.results34, go_sem, s0, s1, s2]) rfl ?_
          refine ⟨⟨5, 0, ⟨none, 0, 0⟩⟩, i + 1 + 1, true, rfl, (unhide HRU).kept (hkS bp (by omega)), (unhide HBU).below hbS, by omega, ?_⟩
          have hnr := unhide HNR
          rw [unhide HO2]
          cases hres : (if 0 < Qk.most (((5 : Nat) : Nat) : Int) then Qp.num l (Qk.least (((5 : Nat) : Nat) : Int)) (i + 1) else .ok (0, i + 1)) with
          | error j' => rw [hres] at hnr; exact hnr
          | ok p =>
            obtain ⟨m, j'⟩ := p
            rw [hres] at hnr
            obtain ⟨hg1, hj1, hm1⟩ := hnr
            subst hm1
            exact ⟨hg1, hj1, Qp.RO.leaf _ _ _ _ _ _ _⟩

set_option maxRecDepth 100000 in
set_option maxHeartbeats 3200000 in
theorem Ask_k6 (l : List Qp.T) (ta : Option Addr) (c bp i a d : Nat) (e : Int) (w : World) (hp : Qp.Rd w bp ta l.length c (i : Nat) e false) (hr : Qp.RT w ta l) (hne : ∀ b o, ta = some ⟨b, o, none⟩ → b ≠ bp) (hf : l.length ≤ 10000) (hg : Qp.Good l) (hi : i ≤ l.length) (ha : a ≤ 60) (hin : Qp.inW [⟨#[40]⟩] (Qp.tk l i).t = false)
    (rec : Nat → Except Nat (Qk.AT d × Nat)) (h60 : a = 60 → ∀ k, rec k = .error k)
    (HQ : a < 60 → ∀ (k : Nat) (f : Bool) (W : World), Qp.Rd W bp ta l.length c (k : Nat) e f → Qp.RT W ta l → k ≤ l.length → Calls Tryz.prog 34 #[.pointer (some ⟨bp, 0, none⟩), .int .i64 ((a : Int) + 1)] W (Qp.AskP bp ta l c e W (Qp.orec rec k f)))
    (hfd : Qp.find Qp.ones (Qp.tk l i).t = some 6) :
    Calls Tryz.prog 34 #[.pointer (some ⟨bp, 0, none⟩), .int .i64 (a : Nat)] w (Qp.AskP bp ta l c e w (Qp.wordF l rec i)) := by
  have HR := hide (fun (W : World) (hb : Qk.But1 bp w.heap.size w W) => hr.but hne hb)
  have HTT := hide (fun (k : Nat) (f : Bool) (hk : k ≤ l.length) (W : World) (h1 : Qp.Rd W bp ta l.length c (k : Nat) e f) (h2 : Qp.RT W ta l) => Text_any l ta c bp k e f W h1 h2 hf (by omega))
  have HND := hide (fun (s : ByteArray) (k : Nat) (f : Bool) (hk : k ≤ l.length) (W : World) (h1 : Qp.Rd W bp ta l.length c (k : Nat) e f) (h2 : Qp.RT W ta l) => Need_any l s ta c bp k e f W h1 h2 hf (by omega))
  have HNU := hide (fun (k : Nat) (f : Bool) (hk : k ≤ l.length) (W : World) (h1 : Qp.Rd W bp ta l.length c (k : Nat) e f) (h2 : Qp.RT W ta l) => Number_any l ta c bp k e f W h1 h2 hf (by omega) hg)
  have HT := hide (fun (W : World) => (unhide HTT) i false hi W)
  have HGD := hide hg
  have hop := Qp.rt_in hin
  rw [Qp.toList_40] at hop
  have HQH := hide (And.intro h60 HQ)
  have HP := hide hp
  have hblt := hp.lt
  obtain ⟨o, ho⟩ : ∃ o, Qp.wordF l rec i = o := ⟨_, rfl⟩
  rw [ho]
  have HO := hide ho
  have HFD := hide hfd
  clear HQ hp hr hin ho h60 hg
  go_enter Tryz.func34, Tryz.ntmps34
  go_wp2_with fail
  have hLA : Qp.Lp w ((w.alloc (Obj.cells #[.int .i64 0, .int .i64 0, .slice none 0 0] 24)).alloc (Obj.cells #[.int .i64 0, .int .i64 0, .slice none 0 0] 24)) ((w.alloc (Obj.cells #[.int .i64 0, .int .i64 0, .slice none 0 0] 24)).alloc (Obj.cells #[.int .i64 0, .int .i64 0, .slice none 0 0] 24)) bp ta l.length c i e false 0 :=
    have hb := ((Below.refl w.heap.size w).alloc (Nat.le_refl _) (Obj.cells #[.int .i64 0, .int .i64 0, .slice none 0 0] 24)).alloc (by simp) (Obj.cells #[.int .i64 0, .int .i64 0, .slice none 0 0] 24)
    ⟨⟨by go_simp, by go_simp, by go_simp⟩, ⟨⟨.int .i64 0, by go_simp⟩, ⟨.int .i64 0, by go_simp⟩, ⟨.slice none 0 0, by go_simp⟩, fun i => by go_simp⟩, ⟨⟨.int .i64 0, by go_simp⟩, ⟨.int .i64 0, by go_simp⟩, ⟨.slice none 0 0, by go_simp⟩, fun i => by go_simp⟩, (unhide HP).below hb, (Qk.But1.refl bp w.heap.size w).below hb, Qp.Ab.refl _ _⟩
  have hsA : ((w.alloc (Obj.cells #[.int .i64 0, .int .i64 0, .slice none 0 0] 24)).alloc (Obj.cells #[.int .i64 0, .int .i64 0, .slice none 0 0] 24)).heap.size = w.heap.size + 2 := by simp
  have HLA := hide hLA
  clear hLA
  generalize ((w.alloc (Obj.cells #[.int .i64 0, .int .i64 0, .slice none 0 0] 24)).alloc (Obj.cells #[.int .i64 0, .int .i64 0, .slice none 0 0] 24)) = WA at *
  refine ((unhide HTT) i false hi _ (unhide HLA).r ((unhide HR) _ (unhide HLA).b)).mono ?_
  rintro r w0 ⟨rfl, hb0⟩
  have HL0 := hide (show Qp.Lp w w0 w0 bp ta l.length c i e false (Qp.fnd false (Qp.rt l i false) 1) from ⟨((unhide HLA).below hb0).q, ((unhide HLA).below hb0).y, ((unhide HLA).below hb0).z, ((unhide HLA).below hb0).r, ((unhide HLA).below hb0).b, Qp.Ab.refl _ _⟩)
  clear hb0
  go_wp2_with fail
  go_loopw [9] (fun v wr => ∃ k : Nat, 1 ≤ k ∧ k ≤ 15 ∧ v = .int .i64 ((k : Nat) : Int) ∧ Qp.Lp w w0 wr bp ta l.length c (i) e false (Qp.fnd false (Qp.rt l (i) false) k)) (fun v _ => 15 - (intOf v).toNat)
  case atStart => exact ⟨1, Nat.le_refl _, by decide, rfl, unhide HL0⟩
  case round =>
    obtain ⟨k, hk1, hk2, rfl, hL⟩ := hrel
    have HL := hide hL
    clear hL
    by_cases hk : k ≤ 14
    · have hk3 : (k : Int) ≤ 14 := by omega
      obtain ⟨u0, u1, u2⟩ := (unhide HL).q
      have uf := (unhide HL).y.f 0
      have hz := (unhide HL).lt
      go_wp2_with fail
      refine (AskArgs_any ((k : Nat) : Int) _).mono ?_
      rintro r w1 ⟨rfl, hw1⟩
      obtain rfl : wr = w1 := hw1.symm
      by_cases hA : Qk.argsN ((k : Nat) : Int) < 2
      · have hA1 : ((Qk.argsN ((k : Nat) : Int) : Nat) : Int) < 2 := by omega
        have hA2 : decide (Qk.argsN ((k : Nat) : Int) = 2) = false := by simp; omega
        go_wp2_with fail
        refine ((unhide HT) _ (unhide HL).r ((unhide HR) _ (unhide HL).b)).mono ?_
        rintro r w2 ⟨rfl, hb2⟩
        have HL2 := hide ((unhide HL).below hb2)
        clear hb2
        go_wp2_with fail
        refine (askWord_any ((k : Nat) : Int) (Qk.isK_nat k (by omega) (by omega)) _).mono ?_
        rintro r w3 ⟨rfl, hb3⟩
        have HL3 := hide ((unhide HL2).below hb3)
        clear hb3 u0 u1 u2 uf hz
        obtain ⟨u0, u1, u2⟩ := (unhide HL3).q
        have uf := (unhide HL3).y.f 0
        have hz := (unhide HL3).lt
        cases htx : ((Qp.rt l (i) false).toList == (Qk.word ((k : Nat) : Int)).toList)
        · have HN := hide (show Qp.fnd false (Qp.rt l (i) false) (k + 1) = Qp.fnd false (Qp.rt l (i) false) k by
            show (if (decide (Qk.argsN ((k : Nat) : Int) = 2) == false && (decide (1 ≤ k) && ((Qp.rt l (i) false).toList == (Qk.word ((k : Nat) : Int)).toList))) = true then k else _) = _
            rw [htx]; simp)
          go_wp2_with fail
          go_round
          case rel => exact ⟨k + 1, by omega, by omega, by go_num, by rw [unhide HN]; exact unhide HL3⟩
          case measure => simp [intOf]; omega
        · have HN := hide (show Qp.fnd false (Qp.rt l (i) false) (k + 1) = k by
            show (if (decide (Qk.argsN ((k : Nat) : Int) = 2) == false && (decide (1 ≤ k) && ((Qp.rt l (i) false).toList == (Qk.word ((k : Nat) : Int)).toList))) = true then k else _) = _
            rw [htx, hA2, decide_eq_true (show 1 ≤ k by omega)]; rfl)
          go_wp2_with fail
          go_round
          case rel => exact ⟨k + 1, by omega, by omega, by go_num, by rw [unhide HN]; exact (unhide HL3).set hblt k⟩
          case measure => simp [intOf]; omega
      · have hA1 : ¬ ((Qk.argsN ((k : Nat) : Int) : Nat) : Int) < 2 := by omega
        have hA2 : decide (Qk.argsN ((k : Nat) : Int) = 2) = true := by have := Qk.args_two (k := ((k : Nat) : Int)); simp; omega
        have HN := hide (show Qp.fnd false (Qp.rt l (i) false) (k + 1) = Qp.fnd false (Qp.rt l (i) false) k by
          show (if (decide (Qk.argsN ((k : Nat) : Int) = 2) == false && (decide (1 ≤ k) && ((Qp.rt l (i) false).toList == (Qk.word ((k : Nat) : Int)).toList))) = true then k else _) = _
          rw [hA2]; rfl)
        go_wp2_with fail
        go_round
        case rel => exact ⟨k + 1, by omega, by omega, by go_num, by rw [unhide HN]; exact unhide HL⟩
        case measure => simp [intOf]; omega
    · have hk3 : ¬ (k : Int) ≤ 14 := by omega
      obtain rfl : k = 15 := by omega
      have hK : Qp.fnd false (Qp.rt l i false) 15 = 6 := by
        have e := (Qp.fnd_is (Qp.tk l i).t).1
        rw [hfd] at e
        exact e
      have HL2 := hide (show Qp.Lp w w0 wr bp ta l.length c i e false 6 by rw [← hK]; exact unhide HL)
      have HO2 := hide (show o = _ from (unhide HO).symm.trans (Qp.wordF_at hfd))
      have hjl : i < l.length := by
        by_cases hh : i < l.length
        · exact hh
        · have := (Qp.find_some hfd).1
          rw [Qp.tk_none (by omega)] at this
          exact absurd (congrArg ByteArray.toList this).symm (by rw [Qp.empty_eq]; exact Qp.word_ne (by decide) (by decide))
      have HNW := hide (show Qp.nd l (Qk.word 6) i false = (i + 1, false) from Qp.nd_word hfd)
      clear HL hK hfd HFD
      obtain ⟨u0, u1, u2⟩ := (unhide HL2).q
      have hzr := (unhide HL2).lt
      go_wp2_with fail
      refine (askWord_any 6 rfl _).mono ?_
      rintro r w3 ⟨rfl, hb3⟩
      have HL3 := hide ((unhide HL2).below hb3)
      have hs3 := hb3.size
      clear hb3 u0 u1 u2
      go_wp2_with fail
      refine ((unhide HND) (Qk.word 6) i false hi w3 (unhide HL3).r ((unhide HR) _ (unhide HL3).b)).mono ?_
      rw [unhide HNW]
      rintro r V ⟨rfl, hrdV, hbV⟩
      have HRV := hide hrdV
      have HQV := hide (show Qk.Lies V (w.heap.size + 1) 0 ⟨6, 0, ⟨none, 0, 0⟩⟩ ∧ Qp.Z3 V (w.heap.size + 1) ∧ Qp.Z3 V w.heap.size from And.intro ((unhide HL3).q.but hbV (by omega)) (And.intro ((unhide HL3).y.but hbV (by omega)) ((unhide HL3).z.but hbV (by omega))))
      have HBV := hide ((unhide HL3).b.trans hbV (unhide HL3).b.size)
      have hsV := hbV.size
      have hzV := (unhide HQV).2.1.lt
      clear hrdV hbV
      obtain ⟨u0, u1, u2⟩ := (unhide HQV).1
      cases hx1 : Qp.inW [⟨#[45]⟩] (Qp.tk l (i + 1)).t
      · have hx2 := Qp.rt_in hx1
        rw [Qp.toList_min] at hx2
        go_wp2_with fail
        refine ((unhide HTT) (i + 1) false (by omega) V (unhide HRV) ((unhide HR) _ (unhide HBV))).mono ?_
        rintro r V1 ⟨rfl, hbV1⟩
        have HRV1 := hide ((unhide HRV).below hbV1)
        have HQV1 := hide (And.intro ((unhide HQV).1.bel hbV1) (And.intro ((unhide HQV).2.1.later hbV1) ((unhide HQV).2.2.later hbV1)))
        have HBV1 := hide ((unhide HBV).below (hbV1.mono (unhide HBV).size))
        have hsV1 := hbV1.size
        clear hbV1
        clear u0 u1 u2
        go_wp2_with fail
        have hnb := Qp.rnum_bound (unhide HGD) (i + 1) false
        have hjU : (Qp.rnum l (i + 1) false).2.1 ≤ l.length := Qp.rnum_le (by omega)
        refine ((unhide HNU) (i + 1) false (by omega) V1 (unhide HRV1) ((unhide HR) _ (unhide HBV1))).mono ?_
        rintro r V2 ⟨rfl, hrdV2, hbV2⟩
        have HRV2 := hide hrdV2
        have HQV2 := hide (And.intro ((unhide HQV1).1.but hbV2 (by omega)) (And.intro ((unhide HQV1).2.1.but hbV2 (by omega)) ((unhide HQV1).2.2.but hbV2 (by omega))))
        have HBV2 := hide ((unhide HBV1).trans hbV2 (unhide HBV1).size)
        have hsV2 := hbV2.size
        clear hrdV2 hbV2
        generalize hrn : Qp.rnum l (i + 1) false = R at *
        obtain ⟨M, J, G⟩ := R
        replace hnb : 0 ≤ M ∧ M < 100000000 := hnb
        obtain ⟨hn0, hn1⟩ := hnb
        have hkU : ∀ q, q ≠ w.heap.size + 1 → (V2.setCell ⟨w.heap.size + 1, 1, none⟩ (.int .i64 (M))).heap[q]? = V2.heap[q]? := fun q hq => Below.heap_setCell _ _ _ _ hq
        have HQU := hide (And.intro ((unhide HQV2).1.set1 (M)) (And.intro ((unhide HQV2).2.1.set 1 (.int .i64 (M))) ((unhide HQV2).2.2.kept (hkU _ (by omega)))))
        have HRU := hide ((unhide HRV2).kept (hkU bp (by omega)))
        have HBU := hide ((unhide HBV2).below (Qp.set_below (W := V2) (b := w.heap.size + 1) (o := 1) (.int .i64 (M)) (show w.heap.size ≤ w.heap.size + 1 by omega)))
        have hsU : (V2.setCell ⟨w.heap.size + 1, 1, none⟩ (.int .i64 (M))).heap.size = V2.heap.size := by simp [World.setCell]
        obtain ⟨u0, u1, u2⟩ := (unhide HQV2).1
        have uf := (unhide HQV2).2.1.f 1
        have hzU := (unhide HQV2).2.1.lt
        clear hkU
        go_wp2_with fail
        clear u0 u1 u2 uf
        generalize (V2.setCell ⟨w.heap.size + 1, 1, none⟩ (.int .i64 (M))) = U at *
        have HNR := hide (show Qp.NR (if 0 < Qk.most (((6 : Nat) : Nat) : Int) then Qp.num l (Qk.least (((6 : Nat) : Nat) : Int)) (i + 1) else .ok (0, i + 1)) M J G by
          have e : Qp.num l (Qk.least (((6 : Nat) : Nat) : Int)) (i + 1) = Qp.dig l (i + 1) := by
            unfold Qp.num
            rw [hx1, Bool.and_false]
            rfl
          rw [if_pos (by decide), e]
          have := Qp.NR.dig l (i + 1)
          rw [hrn] at this
          exact this)
        refine (AskArgs_any 6 U).mono ?_
        rintro r w7 ⟨rfl, hw7⟩
        obtain rfl : U = w7 := hw7.symm
        rw [show Qk.argsN 6 = 0 from rfl]
        obtain ⟨y0, y1, y2⟩ := (unhide HQU).1
        obtain ⟨v0, m0⟩ := (unhide HQU).2.2.c0
        obtain ⟨v1, m1⟩ := (unhide HQU).2.2.c1
        obtain ⟨v2, m2⟩ := (unhide HQU).2.2.c2
        have z0 := (unhide HQU).2.2.f 0
        have z1 := (unhide HQU).2.2.f 1
        have z2 := (unhide HQU).2.2.f 2
        have HSR := hide (Qp.ret3 (unhide HQU).2.2 (.int .i64 6) (.int .i64 (M)) (.slice none 0 0))
        go_wp2_with fail
        obtain ⟨⟨s0, s1, s2⟩, hsS, hbS, haS, hkS⟩ := unhide HSR
        refine bodyPost_ret (v := .agg #[.int .i64 6, .int .i64 (M), .slice none 0 0]) (by simp [results, Tryz.results34, go_sem, s0, s1, s2]) rfl ?_
        refine ⟨⟨6, M, ⟨none, 0, 0⟩⟩, J, G, rfl, (unhide HRU).kept (hkS bp (by omega)), (unhide HBU).below hbS, by omega, ?_⟩
        have hnr := unhide HNR
        rw [unhide HO2]
        cases hres : (if 0 < Qk.most (((6 : Nat) : Nat) : Int) then Qp.num l (Qk.least (((6 : Nat) : Nat) : Int)) (i + 1) else .ok (0, i + 1)) with
        | error j' => rw [hres] at hnr; exact hnr
        | ok p =>
          obtain ⟨m, j'⟩ := p
          rw [hres] at hnr
          obtain ⟨hg1, hj1, hm1⟩ := hnr
          subst hm1
          exact ⟨hg1, hj1, Qp.RO.leaf _ _ _ _ _ _ _⟩
      · have hx2 := Qp.rt_in hx1
        rw [Qp.toList_min] at hx2
        have hl2 : i + 1 < l.length := Qp.lt_of_in (by simp only [Qp.inW, ByteArray.toList_eq]; decide) hx1
        have hndA : Qp.nd l ⟨#[45]⟩ (i + 1) false = (i + 1 + 1, false) := by
          have h := Qp.rt_in hx1
          unfold Qp.nd
          rw [show (Qp.tk l (i + 1)).t = Qp.rt l (i + 1) false from rfl, h]
          rfl
        go_wp2_with fail
        refine ((unhide HTT) (i + 1) false (by omega) V (unhide HRV) ((unhide HR) _ (unhide HBV))).mono ?_
        rintro r V1 ⟨rfl, hbV1⟩
        have HRV1 := hide ((unhide HRV).below hbV1)
        have HQV1 := hide (And.intro ((unhide HQV).1.bel hbV1) (And.intro ((unhide HQV).2.1.later hbV1) ((unhide HQV).2.2.later hbV1)))
        have HBV1 := hide ((unhide HBV).below (hbV1.mono (unhide HBV).size))
        have hsV1 := hbV1.size
        clear hbV1
        clear u0 u1 u2
        go_wp2_with fail
        refine ((unhide HND) ⟨#[45]⟩ (i + 1) false (by omega) V1 (unhide HRV1) ((unhide HR) _ (unhide HBV1))).mono ?_
        rw [hndA]
        rintro r V3 ⟨rfl, hrdV3, hbV3⟩
        have HRV3 := hide hrdV3
        have HQV3 := hide (And.intro ((unhide HQV1).1.but hbV3 (by omega)) (And.intro ((unhide HQV1).2.1.but hbV3 (by omega)) ((unhide HQV1).2.2.but hbV3 (by omega))))
        have HBV3 := hide ((unhide HBV1).trans hbV3 (unhide HBV1).size)
        have hsV3 := hbV3.size
        clear hrdV3 hbV3
        cases hx3 : Qp.inW [⟨#[48]⟩] (Qp.tk l (i + 1 + 1)).t
        · have hx4 := Qp.rt_in hx3
          rw [Qp.toList_zero] at hx4
          go_wp2_with fail
          refine ((unhide HTT) (i + 1 + 1) false (by omega) V3 (unhide HRV3) ((unhide HR) _ (unhide HBV3))).mono ?_
          rintro r V4 ⟨rfl, hbV4⟩
          have HRV4 := hide ((unhide HRV3).below hbV4)
          have HQV4 := hide (And.intro ((unhide HQV3).1.bel hbV4) (And.intro ((unhide HQV3).2.1.later hbV4) ((unhide HQV3).2.2.later hbV4)))
          have HBV4 := hide ((unhide HBV3).below (hbV4.mono (unhide HBV3).size))
          have hsV4 := hbV4.size
          clear hbV4
          go_wp2_with fail
          have hnb := Qp.rnum_bound (unhide HGD) (i + 1 + 1) false
          have hjU : (Qp.rnum l (i + 1 + 1) false).2.1 ≤ l.length := Qp.rnum_le (by omega)
          refine ((unhide HNU) (i + 1 + 1) false (by omega) V4 (unhide HRV4) ((unhide HR) _ (unhide HBV4))).mono ?_
          rintro r V2 ⟨rfl, hrdV2, hbV2⟩
          have HRV2 := hide hrdV2
          have HQV2 := hide (And.intro ((unhide HQV4).1.but hbV2 (by omega)) (And.intro ((unhide HQV4).2.1.but hbV2 (by omega)) ((unhide HQV4).2.2.but hbV2 (by omega))))
          have HBV2 := hide ((unhide HBV4).trans hbV2 (unhide HBV4).size)
          have hsV2 := hbV2.size
          clear hrdV2 hbV2
          generalize hrn : Qp.rnum l (i + 1 + 1) false = R at *
          obtain ⟨M, J, G⟩ := R
          replace hnb : 0 ≤ M ∧ M < 100000000 := hnb
          obtain ⟨hn0, hn1⟩ := hnb
          have hkU : ∀ q, q ≠ w.heap.size + 1 → (V2.setCell ⟨w.heap.size + 1, 1, none⟩ (.int .i64 (-M))).heap[q]? = V2.heap[q]? := fun q hq => Below.heap_setCell _ _ _ _ hq
          have HQU := hide (And.intro ((unhide HQV2).1.set1 (-M)) (And.intro ((unhide HQV2).2.1.set 1 (.int .i64 (-M))) ((unhide HQV2).2.2.kept (hkU _ (by omega)))))
          have HRU := hide ((unhide HRV2).kept (hkU bp (by omega)))
          have HBU := hide ((unhide HBV2).below (Qp.set_below (W := V2) (b := w.heap.size + 1) (o := 1) (.int .i64 (-M)) (show w.heap.size ≤ w.heap.size + 1 by omega)))
          have hsU : (V2.setCell ⟨w.heap.size + 1, 1, none⟩ (.int .i64 (-M))).heap.size = V2.heap.size := by simp [World.setCell]
          obtain ⟨u0, u1, u2⟩ := (unhide HQV2).1
          have uf := (unhide HQV2).2.1.f 1
          have hzU := (unhide HQV2).2.1.lt
          clear hkU
          go_wp2_with fail
          clear u0 u1 u2 uf
          generalize (V2.setCell ⟨w.heap.size + 1, 1, none⟩ (.int .i64 (-M))) = U at *
          have HNR := hide (show Qp.NR (if 0 < Qk.most (((6 : Nat) : Nat) : Int) then Qp.num l (Qk.least (((6 : Nat) : Nat) : Int)) (i + 1) else .ok (0, i + 1)) (-M) J G by
            have e : Qp.num l (Qk.least (((6 : Nat) : Nat) : Int)) (i + 1) = (match Qp.dig l (i + 1 + 1) with | .error j => .error j | .ok (n, j) => .ok (-n, j)) := by
              unfold Qp.num
              rw [hx1, hx3]
              rfl
            rw [if_pos (by decide), e]
            have := Qp.NR.dig l (i + 1 + 1)
            rw [hrn] at this
            cases hdg : Qp.dig l (i + 1 + 1) with
            | error j' => rw [hdg] at this; exact this
            | ok p => rw [hdg] at this; exact ⟨this.1, this.2.1, by rw [show M = p.1 from this.2.2]⟩)
          refine (AskArgs_any 6 U).mono ?_
          rintro r w7 ⟨rfl, hw7⟩
          obtain rfl : U = w7 := hw7.symm
          rw [show Qk.argsN 6 = 0 from rfl]
          obtain ⟨y0, y1, y2⟩ := (unhide HQU).1
          obtain ⟨v0, m0⟩ := (unhide HQU).2.2.c0
          obtain ⟨v1, m1⟩ := (unhide HQU).2.2.c1
          obtain ⟨v2, m2⟩ := (unhide HQU).2.2.c2
          have z0 := (unhide HQU).2.2.f 0
          have z1 := (unhide HQU).2.2.f 1
          have z2 := (unhide HQU).2.2.f 2
          have HSR := hide (Qp.ret3 (unhide HQU).2.2 (.int .i64 6) (.int .i64 (-M)) (.slice none 0 0))
          go_wp2_with fail
          obtain ⟨⟨s0, s1, s2⟩, hsS, hbS, haS, hkS⟩ := unhide HSR
          refine bodyPost_ret (v := .agg #[.int .i64 6, .int .i64 (-M), .slice none 0 0]) (by simp [results, Tryz.results34, go_sem, s0, s1, s2]) rfl ?_
          refine ⟨⟨6, -M, ⟨none, 0, 0⟩⟩, J, G, rfl, (unhide HRU).kept (hkS bp (by omega)), (unhide HBU).below hbS, by omega, ?_⟩
          have hnr := unhide HNR
          rw [unhide HO2]
          cases hres : (if 0 < Qk.most (((6 : Nat) : Nat) : Int) then Qp.num l (Qk.least (((6 : Nat) : Nat) : Int)) (i + 1) else .ok (0, i + 1)) with
          | error j' => rw [hres] at hnr; exact hnr
          | ok p =>
            obtain ⟨m, j'⟩ := p
            rw [hres] at hnr
            obtain ⟨hg1, hj1, hm1⟩ := hnr
            subst hm1
            exact ⟨hg1, hj1, Qp.RO.leaf _ _ _ _ _ _ _⟩
        · have hx4 := Qp.rt_in hx3
          rw [Qp.toList_zero] at hx4
          go_wp2_with fail
          refine ((unhide HTT) (i + 1 + 1) false (by omega) V3 (unhide HRV3) ((unhide HR) _ (unhide HBV3))).mono ?_
          rintro r V4 ⟨rfl, hbV4⟩
          have HRV4 := hide ((unhide HRV3).below hbV4)
          have HQV4 := hide (And.intro ((unhide HQV3).1.bel hbV4) (And.intro ((unhide HQV3).2.1.later hbV4) ((unhide HQV3).2.2.later hbV4)))
          have HBV4 := hide ((unhide HBV3).below (hbV4.mono (unhide HBV3).size))
          have hsV4 := hbV4.size
          clear hbV4
          have HRV5 := hide (unhide HRV4).fail
          have hkV5 : ∀ q, q ≠ bp → (V4.setCell ⟨bp, 3, none⟩ (.bool true)).heap[q]? = V4.heap[q]? := fun q hq => Below.heap_setCell _ _ _ _ hq
          have hzV4 := (unhide HQV4).2.1.lt
          have HQV5 := hide (And.intro ((unhide HQV4).1.kept (hkV5 _ (by omega))) (And.intro ((unhide HQV4).2.1.kept (hkV5 _ (by omega))) ((unhide HQV4).2.2.kept (hkV5 _ (by omega)))))
          have HBV5 := hide ((unhide HBV4).set (o := 3) (.bool true))
          have hsV5 : (V4.setCell ⟨bp, 3, none⟩ (.bool true)).heap.size = V4.heap.size := by simp [World.setCell]
          obtain ⟨r0, r1, r2, r3, rf1, rf3⟩ := unhide HRV4
          clear hkV5
          go_wp2_with fail
          clear r0 r1 r2 r3 rf1 rf3
          generalize (V4.setCell ⟨bp, 3, none⟩ (.bool true)) = V5 at *
          refine ((unhide HNU) (i + 1 + 1) true (by omega) V5 (unhide HRV5) ((unhide HR) _ (unhide HBV5))).mono ?_
          rintro r V2 ⟨rfl, hrdV2, hbV2⟩
          replace hrdV2 : Qp.Rd V2 bp ta l.length c ((i + 1 + 1 : Nat) : Int) e true := hrdV2
          rw [show (Qp.rnum l (i + 1 + 1) true).1 = 0 from rfl]
          have HRV2 := hide hrdV2
          have HQV2 := hide (And.intro ((unhide HQV5).1.but hbV2 (by omega)) (And.intro ((unhide HQV5).2.1.but hbV2 (by omega)) ((unhide HQV5).2.2.but hbV2 (by omega))))
          have HBV2 := hide ((unhide HBV5).trans hbV2 (unhide HBV5).size)
          have hsV2 := hbV2.size
          clear hrdV2 hbV2
          have hkU : ∀ q, q ≠ w.heap.size + 1 → (V2.setCell ⟨w.heap.size + 1, 1, none⟩ (.int .i64 (0))).heap[q]? = V2.heap[q]? := fun q hq => Below.heap_setCell _ _ _ _ hq
          have HQU := hide (And.intro ((unhide HQV2).1.set1 (0)) (And.intro ((unhide HQV2).2.1.set 1 (.int .i64 (0))) ((unhide HQV2).2.2.kept (hkU _ (by omega)))))
          have HRU := hide ((unhide HRV2).kept (hkU bp (by omega)))
          have HBU := hide ((unhide HBV2).below (Qp.set_below (W := V2) (b := w.heap.size + 1) (o := 1) (.int .i64 (0)) (show w.heap.size ≤ w.heap.size + 1 by omega)))
          have hsU : (V2.setCell ⟨w.heap.size + 1, 1, none⟩ (.int .i64 (0))).heap.size = V2.heap.size := by simp [World.setCell]
          obtain ⟨u0, u1, u2⟩ := (unhide HQV2).1
          have uf := (unhide HQV2).2.1.f 1
          have hzU := (unhide HQV2).2.1.lt
          clear hkU
          go_wp2_with fail
          clear u0 u1 u2 uf
          generalize (V2.setCell ⟨w.heap.size + 1, 1, none⟩ (.int .i64 (0))) = U at *
          have HNR := hide (show Qp.NR (if 0 < Qk.most (((6 : Nat) : Nat) : Int) then Qp.num l (Qk.least (((6 : Nat) : Nat) : Int)) (i + 1) else .ok (0, i + 1)) 0 (i + 1 + 1) true by
            have e : Qp.num l (Qk.least (((6 : Nat) : Nat) : Int)) (i + 1) = .error (i + 1 + 1) := by
              unfold Qp.num
              rw [hx1, hx3]
              rfl
            rw [if_pos (by decide), e]
            exact ⟨rfl, rfl⟩)
          refine (AskArgs_any 6 U).mono ?_
          rintro r w7 ⟨rfl, hw7⟩
          obtain rfl : U = w7 := hw7.symm
          rw [show Qk.argsN 6 = 0 from rfl]
          obtain ⟨y0, y1, y2⟩ := (unhide HQU).1
          obtain ⟨v0, m0⟩ := (unhide HQU).2.2.c0
          obtain ⟨v1, m1⟩ := (unhide HQU).2.2.c1
          obtain ⟨v2, m2⟩ := (unhide HQU).2.2.c2
          have z0 := (unhide HQU).2.2.f 0
          have z1 := (unhide HQU).2.2.f 1
          have z2 := (unhide HQU).2.2.f 2
          have HSR := hide (Qp.ret3 (unhide HQU).2.2 (.int .i64 6) (.int .i64 (0)) (.slice none 0 0))
          go_wp2_with fail
          obtain ⟨⟨s0, s1, s2⟩, hsS, hbS, haS, hkS⟩ := unhide HSR
          refine bodyPost_ret (v := .agg #[.int .i64 6, .int .i64 (0), .slice none 0 0]) (by simp [results, Tryz.results34, go_sem, s0, s1, s2]) rfl ?_
          refine ⟨⟨6, 0, ⟨none, 0, 0⟩⟩, i + 1 + 1, true, rfl, (unhide HRU).kept (hkS bp (by omega)), (unhide HBU).below hbS, by omega, ?_⟩
          have hnr := unhide HNR
          rw [unhide HO2]
          cases hres : (if 0 < Qk.most (((6 : Nat) : Nat) : Int) then Qp.num l (Qk.least (((6 : Nat) : Nat) : Int)) (i + 1) else .ok (0, i + 1)) with
          | error j' => rw [hres] at hnr; exact hnr
          | ok p =>
            obtain ⟨m, j'⟩ := p
            rw [hres] at hnr
            obtain ⟨hg1, hj1, hm1⟩ := hnr
            subst hm1
            exact ⟨hg1, hj1, Qp.RO.leaf _ _ _ _ _ _ _⟩

end Go.Proofs.YtfhlnelgnnkeoaaGreatDoor
