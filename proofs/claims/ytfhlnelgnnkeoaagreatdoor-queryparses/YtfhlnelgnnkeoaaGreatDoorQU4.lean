/-
  Ask of the document's Reader, at an open bracket. By the verifier.
-/
import Derived.Test.YtfhlnelgnnkeoaaGreatDoorQU3
namespace Go.Proofs.YtfhlnelgnnkeoaaGreatDoor
open Go.RowKit
set_option linter.unusedVariables false

/-- What Ask leaves. -/
def Qp.AskP (bp : Nat) (ta : Option Addr) (l : List Qp.T) (c : Nat) (e : Int) (w : World) {d : Nat} (o : Except Nat (Qk.AT d × Nat)) (r : Ending) (w' : World) : Prop :=
  ∃ (E : Qk.E) (j : Nat) (g : Bool), r = .returned (.agg #[.int .i64 E.k, .int .i64 E.n, .slice E.args.ad E.args.len E.args.cap]) ∧ Qp.Rd w' bp ta l.length c (j : Nat) e g ∧ Qk.But1 bp w.heap.size w w' ∧ j ≤ l.length ∧
    (match o with
    | .error j' => g = true ∧ j = j'
    | .ok (x, j') => g = false ∧ j = j' ∧ Qp.RO w.heap.size w' d E x)
/-- What is read where it may have failed. -/
def Qp.orec {d : Nat} (rec : Nat → Except Nat (Qk.AT d × Nat)) (k : Nat) (f : Bool) : Except Nat (Qk.AT d × Nat) := if f then .error k else rec k
theorem Qp.lies_two (S : World) (E1 E2 : Qk.E) : Qk.Lies (S.alloc (Obj.cells #[.int .i64 E1.k, .int .i64 E1.n, .slice E1.args.ad E1.args.len E1.args.cap, .int .i64 E2.k, .int .i64 E2.n, .slice E2.args.ad E2.args.len E2.args.cap] 24)) S.heap.size 0 E1 ∧ Qk.Lies (S.alloc (Obj.cells #[.int .i64 E1.k, .int .i64 E1.n, .slice E1.args.ad E1.args.len E1.args.cap, .int .i64 E2.k, .int .i64 E2.n, .slice E2.args.ad E2.args.len E2.args.cap] 24)) S.heap.size 3 E2 := ⟨⟨by go_simp, by go_simp, by go_simp⟩, ⟨by go_simp, by go_simp, by go_simp⟩⟩
theorem Qp.fnd_eight (t : ByteArray) : Qp.fnd true t 8 = 0 := rfl
theorem Qp.fnd_one (t : ByteArray) : Qp.fnd false t 1 = 0 := rfl
theorem Qp.nd_le {l : List Qp.T} {s : ByteArray} {i : Nat} {f : Bool} (hs : s.toList ≠ []) (hi : i ≤ l.length) : (Qp.nd l s i f).1 ≤ l.length := by
  unfold Qp.nd
  cases f
  · by_cases h : ((Qp.tk l i).t.toList == s.toList) = true
    · have h2 : (Qp.tk l i).t.toList = s.toList := by simpa using h
      by_cases hl : i < l.length
      · simp [h]; omega
      · rw [Qp.tk_none (by omega), Qp.empty_eq] at h2
        exact absurd h2.symm hs
    · rw [Bool.not_eq_true] at h
      simp [h]; omega
  · exact hi
theorem Qp.rt_in {l : List Qp.T} {i : Nat} {s : ByteArray} {x : Bool} (h : Qp.inW [s] (Qp.tk l i).t = x) : ((Qp.rt l i false).toList == s.toList) = x := by
  unfold Qp.inW at h
  rw [List.any_cons, List.any_nil, Bool.or_false] at h
  exact h
theorem Qp.toList_40 : (⟨#[40]⟩ : ByteArray).toList = [40] := by rw [ByteArray.toList_eq]
theorem Qp.toList_41 : (⟨#[41]⟩ : ByteArray).toList = [41] := by rw [ByteArray.toList_eq]
theorem Qp.word_ne {k : Nat} (h1 : 1 ≤ k) (h2 : k ≤ 14) : (Qk.word ((k : Nat) : Int)).toList ≠ [] := by
  intro h
  have := Qp.empty_no k h1 h2
  rw [h, Qp.empty_eq] at this
  cases this
/-- Where a word is found it stands there. -/
theorem Qp.fnd_pos {l : List Qp.T} {j : Nat} {g : Bool} (h : Qp.fnd true (Qp.rt l j g) 14 ≠ 0) : g = false ∧ Qp.find Qp.twos (Qp.tk l j).t = some (Qp.fnd true (Qp.rt l j g) 14) := by
  cases g
  · refine ⟨rfl, ?_⟩
    have e := (Qp.fnd_is (Qp.tk l j).t).2
    show Qp.find Qp.twos (Qp.tk l j).t = some (Qp.fnd true (Qp.tk l j).t 14)
    have h' : Qp.fnd true (Qp.tk l j).t 14 ≠ 0 := h
    rw [e] at h' ⊢
    cases hf : Qp.find Qp.twos (Qp.tk l j).t with
    | none => rw [hf] at h'; exact absurd rfl h'
    | some k => rfl
  · exact absurd (Qp.fnd_none true _ Qp.empty_no 14 (by decide)) h
theorem Qp.fnd_zero {l : List Qp.T} {j : Nat} (h : Qp.fnd true (Qp.rt l j false) 14 = 0) : Qp.find Qp.twos (Qp.tk l j).t = none := by
  have e := (Qp.fnd_is (Qp.tk l j).t).2
  have h' : Qp.fnd true (Qp.tk l j).t 14 = 0 := h
  rw [e] at h'
  cases hf : Qp.find Qp.twos (Qp.tk l j).t with
  | none => rfl
  | some k =>
    rw [hf] at h'
    have := (Qp.find_some hf).2
    have h0 : k = 0 := h'
    subst h0
    exact absurd this (by decide)
theorem Qp.nd_word {l : List Qp.T} {j k : Nat} {ks : List Nat} (h : Qp.find ks (Qp.tk l j).t = some k) : Qp.nd l (Qk.word ((k : Nat) : Int)) j false = (j + 1, false) := by
  unfold Qp.nd
  rw [(Qp.find_some h).1]
  simp

set_option maxRecDepth 100000 in
set_option maxHeartbeats 3200000 in
theorem Ask_open (l : List Qp.T) (ta : Option Addr) (c bp i a d : Nat) (e : Int) (w : World) (hp : Qp.Rd w bp ta l.length c (i : Nat) e false) (hr : Qp.RT w ta l) (hne : ∀ b o, ta = some ⟨b, o, none⟩ → b ≠ bp) (hf : l.length ≤ 10000) (hi : i ≤ l.length) (ha : a < 60) (hin : Qp.inW [⟨#[40]⟩] (Qp.tk l i).t = true)
    (rec : Nat → Except Nat (Qk.AT d × Nat))
    (HQ : ∀ (k : Nat) (f : Bool) (W : World), Qp.Rd W bp ta l.length c (k : Nat) e f → Qp.RT W ta l → k ≤ l.length → Calls Tryz.prog 34 #[.pointer (some ⟨bp, 0, none⟩), .int .i64 ((a : Int) + 1)] W (Qp.AskP bp ta l c e W (Qp.orec rec k f))) :
    Calls Tryz.prog 34 #[.pointer (some ⟨bp, 0, none⟩), .int .i64 (a : Nat)] w (Qp.AskP bp ta l c e w (Qp.pairF l rec i)) := by
  have HR := hide (fun (W : World) (hb : Qk.But1 bp w.heap.size w W) => hr.but hne hb)
  have HTT := hide (fun (k : Nat) (f : Bool) (hk : k ≤ l.length) (W : World) (h1 : Qp.Rd W bp ta l.length c (k : Nat) e f) (h2 : Qp.RT W ta l) => Text_any l ta c bp k e f W h1 h2 hf (by omega))
  have HND := hide (fun (s : ByteArray) (k : Nat) (f : Bool) (hk : k ≤ l.length) (W : World) (h1 : Qp.Rd W bp ta l.length c (k : Nat) e f) (h2 : Qp.RT W ta l) => Need_any l s ta c bp k e f W h1 h2 hf (by omega))
  have hop := Qp.rt_in hin
  rw [Qp.toList_40] at hop
  have hlt : i < l.length := Qp.lt_of_in Qp.open0 hin
  have HND1 := hide (show Qp.nd l ⟨#[40]⟩ i false = (i + 1, false) by
    have h := Qp.rt_in hin
    unfold Qp.nd
    rw [show (Qp.tk l i).t = Qp.rt l i false from rfl, h]
    rfl)
  have HQH := hide HQ
  have HP := hide hp
  have hblt := hp.lt
  have hq2 : ((a : Int) == 60) = false := by simp; omega
  obtain ⟨o, ho⟩ : ∃ o, Qp.pairF l rec i = o := ⟨_, rfl⟩
  rw [ho]
  have HO := hide ho
  clear HQ hp hr hin ho
  go_enter Tryz.func34, Tryz.ntmps34
  go_wp2_with fail
  have hLA : Qp.Lp w ((w.alloc (Obj.cells #[.int .i64 0, .int .i64 0, .slice none 0 0] 24)).alloc (Obj.cells #[.int .i64 0, .int .i64 0, .slice none 0 0] 24)) ((w.alloc (Obj.cells #[.int .i64 0, .int .i64 0, .slice none 0 0] 24)).alloc (Obj.cells #[.int .i64 0, .int .i64 0, .slice none 0 0] 24)) bp ta l.length c i e false 0 :=
    have hb := ((Below.refl w.heap.size w).alloc (Nat.le_refl _) (Obj.cells #[.int .i64 0, .int .i64 0, .slice none 0 0] 24)).alloc (by simp) (Obj.cells #[.int .i64 0, .int .i64 0, .slice none 0 0] 24)
    ⟨⟨by go_simp, by go_simp, by go_simp⟩, ⟨⟨.int .i64 0, by go_simp⟩, ⟨.int .i64 0, by go_simp⟩, ⟨.slice none 0 0, by go_simp⟩, fun i => by go_simp⟩, ⟨⟨.int .i64 0, by go_simp⟩, ⟨.int .i64 0, by go_simp⟩, ⟨.slice none 0 0, by go_simp⟩, fun i => by go_simp⟩, (unhide HP).below hb, (Qk.But1.refl bp w.heap.size w).below hb, Qp.Ab.refl _ _⟩
  have hsA : ((w.alloc (Obj.cells #[.int .i64 0, .int .i64 0, .slice none 0 0] 24)).alloc (Obj.cells #[.int .i64 0, .int .i64 0, .slice none 0 0] 24)).heap.size = w.heap.size + 2 := by simp
  have HLA := hide hLA
  clear hLA
  generalize ((w.alloc (Obj.cells #[.int .i64 0, .int .i64 0, .slice none 0 0] 24)).alloc (Obj.cells #[.int .i64 0, .int .i64 0, .slice none 0 0] 24)) = WA at *
  refine ((unhide HTT) i false hi _ (unhide HLA).r ((unhide HR) _ (unhide HLA).b)).mono ?_
  rintro r w0 ⟨rfl, hb0⟩
  have HL0 := hide ((unhide HLA).below hb0)
  clear hb0
  go_wp2_with fail
  refine ((unhide HND) ⟨#[40]⟩ i false hi _ (unhide HL0).r ((unhide HR) _ (unhide HL0).b)).mono ?_
  rw [unhide HND1]
  rintro r w1 ⟨rfl, hrd1, hb1⟩
  have HRD1 := hide hrd1
  have hz0 := (unhide HL0).lt
  have HQ1 := hide (And.intro ((unhide HL0).q.but hb1 (by omega)) (And.intro ((unhide HL0).y.but hb1 (by omega)) ((unhide HL0).z.but hb1 (by omega))))
  have HBU1 := hide ((unhide HL0).b.trans hb1 (unhide HL0).b.size)
  have hs1 := hb1.size
  clear hrd1 hb1
  go_wp2_with fail
  refine ((unhide HQH) (i + 1) false w1 (unhide HRD1) ((unhide HR) _ (unhide HBU1)) (by omega)).mono ?_
  rintro r w2 ⟨E1, j1, g1, rfl, hrd2, hb2, hj1, hst1⟩
  have HST1 := hide (show (match rec (i + 1) with | .error j' => g1 = true ∧ j1 = j' | .ok (x, j') => g1 = false ∧ j1 = j' ∧ Qp.RO w1.heap.size w2 d E1 x) from hst1)
  have HRD2 := hide hrd2
  have HQ2 := hide (And.intro ((unhide HQ1).1.but hb2 (by omega)) (And.intro ((unhide HQ1).2.1.but hb2 (by omega)) ((unhide HQ1).2.2.but hb2 (by omega))))
  have HBU2 := hide ((unhide HBU1).trans hb2 (unhide HBU1).size)
  have hs2 := hb2.size
  clear hrd2 hb2 hst1
  have HT := hide (fun (W : World) => (unhide HTT) j1 g1 hj1 W)
  go_wp2_with fail
  have hbC := (Below.refl w2.heap.size w2).alloc (Nat.le_refl _) (Obj.cells #[.int .i64 E1.k, .int .i64 E1.n, .slice E1.args.ad E1.args.len E1.args.cap] 24)
  have HGC := hide (Qp.lies_new w2 E1)
  have HLC := hide (show Qp.Lp w (w2.alloc (Obj.cells #[.int .i64 E1.k, .int .i64 E1.n, .slice E1.args.ad E1.args.len E1.args.cap] 24)) (w2.alloc (Obj.cells #[.int .i64 E1.k, .int .i64 E1.n, .slice E1.args.ad E1.args.len E1.args.cap] 24)) bp ta l.length c j1 e g1 (Qp.fnd true (Qp.rt l j1 g1) 8) from ⟨(unhide HQ2).1.bel hbC, (unhide HQ2).2.1.later hbC, (unhide HQ2).2.2.later hbC, (unhide HRD2).below hbC, (unhide HBU2).below (hbC.mono (unhide HBU2).size), Qp.Ab.refl _ _⟩)
  have HAC := hide (Qp.Ab.of_below (B := w.heap.size + 2) hbC)
  have hsC : (w2.alloc (Obj.cells #[.int .i64 E1.k, .int .i64 E1.n, .slice E1.args.ad E1.args.len E1.args.cap] 24)).heap.size = w2.heap.size + 1 := by simp
  clear hbC
  generalize (w2.alloc (Obj.cells #[.int .i64 E1.k, .int .i64 E1.n, .slice E1.args.ad E1.args.len E1.args.cap] 24)) = W0 at *
  go_loopw [7] (fun v wr => ∃ k : Nat, 8 ≤ k ∧ k ≤ 14 ∧ v = .int .i64 ((k : Nat) : Int) ∧ Qp.Lp w W0 wr bp ta l.length c (j1) e g1 (Qp.fnd true (Qp.rt l (j1) g1) k)) (fun v _ => 14 - (intOf v).toNat)
  case atStart => exact ⟨8, Nat.le_refl _, by decide, rfl, unhide HLC⟩
  case round =>
    obtain ⟨k, hk1, hk2, rfl, hL⟩ := hrel
    have HL := hide hL
    clear hL
    by_cases hk : k ≤ 13
    · have hk3 : (k : Int) ≤ 13 := by omega
      obtain ⟨u0, u1, u2⟩ := (unhide HL).q
      have uf := (unhide HL).y.f 0
      have hz := (unhide HL).lt
      go_wp2_with fail
      refine (AskArgs_any ((k : Nat) : Int) _).mono ?_
      rintro r w1 ⟨rfl, hw1⟩
      obtain rfl : wr = w1 := hw1.symm
      by_cases hA : Qk.argsN ((k : Nat) : Int) = 2
      · have hA1 : ((Qk.argsN ((k : Nat) : Int) : Nat) : Int) = 2 := by omega
        have hA2 : decide (Qk.argsN ((k : Nat) : Int) = 2) = true := by simp; omega
        go_wp2_with fail
        refine ((unhide HT) _ (unhide HL).r ((unhide HR) _ (unhide HL).b)).mono ?_
        rintro r w2 ⟨rfl, hb2⟩
        have HL2 := hide ((unhide HL).below hb2)
        clear hb2
        go_wp2_with fail
        refine (askWord_any ((k : Nat) : Int) (Qk.isK_nat k (by omega) (by omega)) _).mono ?_
        rintro r w3 ⟨rfl, hb3⟩
        have HL3 := hide ((unhide HL2).below hb3)
        clear hb3 u0 u1 u2 uf hz
        obtain ⟨u0, u1, u2⟩ := (unhide HL3).q
        have uf := (unhide HL3).y.f 0
        have hz := (unhide HL3).lt
        cases htx : ((Qp.rt l (j1) g1).toList == (Qk.word ((k : Nat) : Int)).toList)
        · have HN := hide (show Qp.fnd true (Qp.rt l (j1) g1) (k + 1) = Qp.fnd true (Qp.rt l (j1) g1) k by
            show (if (decide (Qk.argsN ((k : Nat) : Int) = 2) == true && (decide (1 ≤ k) && ((Qp.rt l (j1) g1).toList == (Qk.word ((k : Nat) : Int)).toList))) = true then k else _) = _
            rw [htx]; simp)
          go_wp2_with fail
          go_round
          case rel => exact ⟨k + 1, by omega, by omega, by go_num, by rw [unhide HN]; exact unhide HL3⟩
          case measure => simp [intOf]; omega
        · have HN := hide (show Qp.fnd true (Qp.rt l (j1) g1) (k + 1) = k by
            show (if (decide (Qk.argsN ((k : Nat) : Int) = 2) == true && (decide (1 ≤ k) && ((Qp.rt l (j1) g1).toList == (Qk.word ((k : Nat) : Int)).toList))) = true then k else _) = _
            rw [htx, hA2, decide_eq_true (show 1 ≤ k by omega)]; rfl)
          go_wp2_with fail
          go_round
          case rel => exact ⟨k + 1, by omega, by omega, by go_num, by rw [unhide HN]; exact (unhide HL3).set hblt k⟩
          case measure => simp [intOf]; omega
      · have hA1 : ¬ ((Qk.argsN ((k : Nat) : Int) : Nat) : Int) = 2 := by omega
        have hA2 : decide (Qk.argsN ((k : Nat) : Int) = 2) = false := by simp; omega
        have HN := hide (show Qp.fnd true (Qp.rt l (j1) g1) (k + 1) = Qp.fnd true (Qp.rt l (j1) g1) k by
          show (if (decide (Qk.argsN ((k : Nat) : Int) = 2) == true && (decide (1 ≤ k) && ((Qp.rt l (j1) g1).toList == (Qk.word ((k : Nat) : Int)).toList))) = true then k else _) = _
          rw [hA2]; rfl)
        go_wp2_with fail
        go_round
        case rel => exact ⟨k + 1, by omega, by omega, by go_num, by rw [unhide HN]; exact unhide HL⟩
        case measure => simp [intOf]; omega
    · have hk3 : ¬ (k : Int) ≤ 13 := by omega
      obtain rfl : k = 14 := by omega
      obtain ⟨K, hK⟩ : ∃ K, Qp.fnd true (Qp.rt l j1 g1) 14 = K := ⟨_, rfl⟩
      have HL2 := hide (show Qp.Lp w W0 wr bp ta l.length c j1 e g1 K by rw [← hK]; exact unhide HL)
      have hzr := (unhide HL2).lt
      have hgw : w2.heap.size < wr.heap.size := by have := (unhide HL2).a.size; omega
      have HGR := hide ((unhide HGC).kept ((unhide HL2).a.block w2.heap.size (by omega) (by omega)))
      clear HL
      obtain ⟨u0, u1, u2⟩ := (unhide HL2).q
      obtain ⟨r0, r1, r2, r3, rf1, rf3⟩ := (unhide HL2).r
      by_cases hK0 : K = 0
      · subst hK0
        have HO2 := hide (show o = .error j1 by
          rw [← unhide HO]
          unfold Qp.pairF
          have hst := unhide HST1
          cases hd : rec (i + 1) with
          | error j' => rw [hd] at hst; rw [hst.2]
          | ok p =>
            obtain ⟨x, j'⟩ := p
            rw [hd] at hst
            obtain ⟨hg, hj, _⟩ := hst
            subst hg hj
            show (match Qp.find Qp.twos (Qp.tk l j1).t with | none => _ | some k => _) = _
            rw [Qp.fnd_zero hK])
        have HRV := hide (unhide HL2).r.fail
        have hkV : ∀ q, q ≠ bp → (wr.setCell ⟨bp, 3, none⟩ (.bool true)).heap[q]? = wr.heap[q]? := fun q hq => Below.heap_setCell _ _ _ _ hq
        have HQV := hide (And.intro ((unhide HL2).q.kept (hkV _ (by omega))) (And.intro ((unhide HL2).y.kept (hkV _ (by omega))) ((unhide HL2).z.kept (hkV _ (by omega)))))
        have HGV := hide ((unhide HGR).kept (hkV _ (by omega)))
        have HBV := hide ((unhide HL2).b.set (o := 3) (.bool true))
        have hsV : (wr.setCell ⟨bp, 3, none⟩ (.bool true)).heap.size = wr.heap.size := by simp [World.setCell]
        clear hkV
        go_wp2_with fail
        clear u0 u1 u2 r0 r1 r2 r3 rf1 rf3
        generalize (wr.setCell ⟨bp, 3, none⟩ (.bool true)) = V at *
        refine ((unhide HQH) j1 true V (unhide HRV) ((unhide HR) _ (unhide HBV)) hj1).mono ?_
        rintro r w4 ⟨E2, j2, g2, rfl, hrd4, hb4, hj2, hg2, hjj⟩
        subst hg2
        have hjj2 := hjj.symm
        subst hjj2
        obtain rfl : o = .error j1 := unhide HO2
        have HQ4 := hide (And.intro ((unhide HQV).1.but hb4 (by omega)) (And.intro ((unhide HQV).2.1.but hb4 (by omega)) ((unhide HQV).2.2.but hb4 (by omega))))
        have HG4 := hide ((unhide HGV).but hb4 (by omega))
        have HRD4 := hide hrd4
        have HBU4 := hide ((unhide HBV).trans hb4 (unhide HBV).size)
        have hs4 := hb4.size
        clear hrd4 hb4
        go_wp2_with fail
        have hb5 := (Below.refl w4.heap.size w4).alloc (Nat.le_refl _) (Obj.cells #[.int .i64 E2.k, .int .i64 E2.n, .slice E2.args.ad E2.args.len E2.args.cap] 24)
        have HM5 := hide (Qp.lies_new w4 E2)
        have HQ5 := hide (And.intro ((unhide HQ4).1.bel hb5) (And.intro ((unhide HQ4).2.1.later hb5) ((unhide HQ4).2.2.later hb5)))
        have HG5 := hide ((unhide HG4).bel hb5)
        have HRD5 := hide ((unhide HRD4).below hb5)
        have HBU5 := hide ((unhide HBU4).below (hb5.mono (unhide HBU4).size))
        have hs5 : (w4.alloc (Obj.cells #[.int .i64 E2.k, .int .i64 E2.n, .slice E2.args.ad E2.args.len E2.args.cap] 24)).heap.size = w4.heap.size + 1 := by simp
        have HA5 := hide (Qp.Ab.of_below (B := w.heap.size + 2) hb5)
        clear hb5
        generalize (w4.alloc (Obj.cells #[.int .i64 E2.k, .int .i64 E2.n, .slice E2.args.ad E2.args.len E2.args.cap] 24)) = W5 at *
        refine ((unhide HND) ⟨#[41]⟩ j1 true hj2 W5 (unhide HRD5) ((unhide HR) _ (unhide HBU5))).mono ?_
        rintro r w6 ⟨rfl, hrd6, hb6⟩
        have HRD6 := hide hrd6
        have HQ6 := hide (And.intro ((unhide HQ5).1.but hb6 (by omega)) (And.intro ((unhide HQ5).2.1.but hb6 (by omega)) ((unhide HQ5).2.2.but hb6 (by omega))))
        have HG6 := hide ((unhide HG5).but hb6 (by omega))
        have HM6 := hide ((unhide HM5).but hb6 (by omega))
        have HBU6 := hide ((unhide HBU5).trans hb6 (unhide HBU5).size)
        have HA6 := hide ((unhide HA5).trans (Qp.Ab.of_but (B := w.heap.size + 2) hb6 (by omega)))
        have hs6 := hb6.size
        clear hrd6 hb6
        obtain ⟨p0, p1, p2⟩ := unhide HG6
        obtain ⟨q0, q1, q2⟩ := unhide HM6
        obtain ⟨y0, y1, y2⟩ := (unhide HQ6).1
        have yf := (unhide HQ6).2.1.f 2
        have hy6 := (unhide HQ6).2.1.lt
        obtain ⟨v0, m0⟩ := (unhide HQ6).2.2.c0
        obtain ⟨v1, m1⟩ := (unhide HQ6).2.2.c1
        obtain ⟨v2, m2⟩ := (unhide HQ6).2.2.c2
        have z0 := (unhide HQ6).2.2.f 0
        have z1 := (unhide HQ6).2.2.f 1
        have z2 := (unhide HQ6).2.2.f 2
        have hneA : w.heap.size ≠ w.heap.size + 1 := by omega
        have hneB : w.heap.size + 1 ≠ w.heap.size := by omega
        have hneC : w2.heap.size ≠ w.heap.size + 1 := by omega
        have hneD : w4.heap.size ≠ w.heap.size + 1 := by omega
        have hltw : w.heap.size < w6.heap.size := by omega
        have hltw2 : w2.heap.size < w6.heap.size := by omega
        have hltw4 : w4.heap.size < w6.heap.size := by omega
        have hk9 : ∀ q, q ≠ w.heap.size + 1 → (w6.setCell ⟨w.heap.size + 1, 2, none⟩ (.slice (some ⟨w6.heap.size, 0, none⟩) 2 2)).heap[q]? = w6.heap[q]? := fun q hq => Below.heap_setCell _ _ _ _ hq
        have HS9 := hide (show (w6.setCell ⟨w.heap.size + 1, 2, none⟩ (.slice (some ⟨w6.heap.size, 0, none⟩) 2 2)).heap.size = w6.heap.size by simp [World.setCell])
        have HZ9 := hide ((unhide HQ6).2.2.kept (hk9 w.heap.size hneA))
        have HRD9 := hide ((unhide HRD6).kept (hk9 bp (by omega)))
        have HBU9 := hide ((unhide HBU6).below (Qp.set_below (W := w6) (b := w.heap.size + 1) (o := 2) (.slice (some ⟨w6.heap.size, 0, none⟩) 2 2) (show w.heap.size ≤ w.heap.size + 1 by omega)))
        have HA9 := hide ((unhide HA6).trans (Qp.Ab.set (o := 2) w6 (.slice (some ⟨w6.heap.size, 0, none⟩) 2 2) (show w.heap.size + 1 < w.heap.size + 2 by omega)))
        have HSR := hide (Qp.ret3 (unhide HZ9) (.int .i64 0) (.int .i64 0) (.slice (some ⟨w6.heap.size, 0, none⟩) 2 2))
        clear hk9
        go_wp2_with fail
        generalize (w6.setCell ⟨w.heap.size + 1, 2, none⟩ (.slice (some ⟨w6.heap.size, 0, none⟩) 2 2)) = w9 at *
        obtain ⟨⟨s0, s1, s2⟩, hsS, hbS, haS, hkS⟩ := unhide HSR
        generalize (((w9.setCell ⟨w.heap.size, 0, none⟩ (.int .i64 0)).setCell ⟨w.heap.size, 1, none⟩ (.int .i64 0)).setCell ⟨w.heap.size, 2, none⟩ (.slice (some ⟨w6.heap.size, 0, none⟩) 2 2)) = S at *
        have hs9 := unhide HS9
        have hsS6 : w6.heap.size = S.heap.size := by omega
        rw [hsS6] at s2 ⊢
        have hbV := (Below.refl S.heap.size S).alloc (Nat.le_refl _) (Obj.cells #[.int .i64 E1.k, .int .i64 E1.n, .slice E1.args.ad E1.args.len E1.args.cap, .int .i64 E2.k, .int .i64 E2.n, .slice E2.args.ad E2.args.len E2.args.cap] 24)
        have s3 : w.heap.size < S.heap.size := by omega
        refine bodyPost_ret (v := .agg #[.int .i64 0, .int .i64 0, .slice (some ⟨S.heap.size, 0, none⟩) 2 2]) (by simp [results, Tryz.results34, go_sem, s0, s1, s2, s3]) rfl ?_
        refine ⟨⟨0, 0, ⟨some ⟨S.heap.size, 0, none⟩, 2, 2⟩⟩, _, _, rfl, ((unhide HRD9).kept (hkS bp (by omega))).below hbV, ((unhide HBU9).below hbS).below (hbV.mono (by omega)), Qp.nd_le (by rw [Qp.toList_41]; decide) hj2, ?_⟩
        exact ⟨rfl, rfl⟩
      · obtain ⟨hg1, hfd⟩ := Qp.fnd_pos (l := l) (j := j1) (g := g1) (by rw [hK]; exact hK0)
        rw [hK] at hfd
        subst hg1
        have hst := unhide HST1
        cases hd : rec (i + 1) with
        | error j' => rw [hd] at hst; exact absurd hst.1 (by decide)
        | ok p =>
          obtain ⟨x, j'⟩ := p
          rw [hd] at hst
          obtain ⟨_, hj, hro1⟩ := hst
          subst hj
          have hmem := (Qp.find_some hfd).2
          obtain ⟨hK1, hK2⟩ : 1 ≤ K ∧ K ≤ 14 := by simp [Qp.twos] at hmem; omega
          have hjl : j1 < l.length := by
            by_cases hh : j1 < l.length
            · exact hh
            · have := (Qp.find_some hfd).1
              rw [Qp.tk_none (by omega)] at this
              exact absurd (congrArg ByteArray.toList this).symm (by rw [Qp.empty_eq]; exact Qp.word_ne hK1 hK2)
          have HNW := hide (Qp.nd_word (l := l) hfd)
          have HROR := hide (((hro1.mono (show w.heap.size + 2 ≤ w1.heap.size by omega)).ab (unhide HAC)).ab (unhide HL2).a)
          have hKi : ¬ ((K : Int) == 0) = true := by simp; omega
          have hKi2 : ((K : Int) == 0) = false := by simp; omega
          clear hro1 hmem
          go_wp2_with fail
          refine (askWord_any ((K : Nat) : Int) (Qk.isK_nat K hK1 hK2) _).mono ?_
          rintro r w3 ⟨rfl, hb3⟩
          have HL3 := hide ((unhide HL2).below hb3)
          have HG3 := hide ((unhide HGR).bel hb3)
          have HRO3 := hide ((unhide HROR).ab (Qp.Ab.of_below hb3))
          have hs3 := hb3.size
          clear hb3 u0 u1 u2 r0 r1 r2 r3 rf1 rf3
          go_wp2_with fail
          refine ((unhide HND) (Qk.word ((K : Nat) : Int)) j1 false (by omega) w3 (unhide HL3).r ((unhide HR) _ (unhide HL3).b)).mono ?_
          rw [unhide HNW]
          rintro r V ⟨rfl, hrdV, hbV⟩
          have HRV := hide hrdV
          have HQV := hide (And.intro ((unhide HL3).q.but hbV (by omega)) (And.intro ((unhide HL3).y.but hbV (by omega)) ((unhide HL3).z.but hbV (by omega))))
          have HGV := hide ((unhide HG3).but hbV (by omega))
          have HBV := hide ((unhide HL3).b.trans hbV (unhide HL3).b.size)
          have HROV := hide ((unhide HRO3).ab (Qp.Ab.of_but hbV (by omega)))
          have hsV := hbV.size
          clear hrdV hbV
          go_wp2_with fail
          refine ((unhide HQH) (j1 + 1) false V (unhide HRV) ((unhide HR) _ (unhide HBV)) (by omega)).mono ?_
          rintro r w4 ⟨E2, j2, g2, rfl, hrd4, hb4, hj2, hst2⟩
          have HRO4 := hide ((unhide HROV).ab (Qp.Ab.of_but hb4 (by omega)))
          have HST2 := hide (show (match rec (j1 + 1) with | .error j' => g2 = true ∧ j2 = j' | .ok (x, j') => g2 = false ∧ j2 = j' ∧ Qp.RO V.heap.size w4 d E2 x) from hst2)
          clear hst2
          have HQ4 := hide (And.intro ((unhide HQV).1.but hb4 (by omega)) (And.intro ((unhide HQV).2.1.but hb4 (by omega)) ((unhide HQV).2.2.but hb4 (by omega))))
          have HG4 := hide ((unhide HGV).but hb4 (by omega))
          have HRD4 := hide hrd4
          have HBU4 := hide ((unhide HBV).trans hb4 (unhide HBV).size)
          have hs4 := hb4.size
          clear hrd4 hb4
          go_wp2_with fail
          have hb5 := (Below.refl w4.heap.size w4).alloc (Nat.le_refl _) (Obj.cells #[.int .i64 E2.k, .int .i64 E2.n, .slice E2.args.ad E2.args.len E2.args.cap] 24)
          have HM5 := hide (Qp.lies_new w4 E2)
          have HQ5 := hide (And.intro ((unhide HQ4).1.bel hb5) (And.intro ((unhide HQ4).2.1.later hb5) ((unhide HQ4).2.2.later hb5)))
          have HG5 := hide ((unhide HG4).bel hb5)
          have HRD5 := hide ((unhide HRD4).below hb5)
          have HBU5 := hide ((unhide HBU4).below (hb5.mono (unhide HBU4).size))
          have hs5 : (w4.alloc (Obj.cells #[.int .i64 E2.k, .int .i64 E2.n, .slice E2.args.ad E2.args.len E2.args.cap] 24)).heap.size = w4.heap.size + 1 := by simp
          have HA5 := hide (Qp.Ab.of_below (B := w.heap.size + 2) hb5)
          clear hb5
          generalize (w4.alloc (Obj.cells #[.int .i64 E2.k, .int .i64 E2.n, .slice E2.args.ad E2.args.len E2.args.cap] 24)) = W5 at *
          refine ((unhide HND) ⟨#[41]⟩ j2 g2 hj2 W5 (unhide HRD5) ((unhide HR) _ (unhide HBU5))).mono ?_
          rintro r w6 ⟨rfl, hrd6, hb6⟩
          have HRD6 := hide hrd6
          have HQ6 := hide (And.intro ((unhide HQ5).1.but hb6 (by omega)) (And.intro ((unhide HQ5).2.1.but hb6 (by omega)) ((unhide HQ5).2.2.but hb6 (by omega))))
          have HG6 := hide ((unhide HG5).but hb6 (by omega))
          have HM6 := hide ((unhide HM5).but hb6 (by omega))
          have HBU6 := hide ((unhide HBU5).trans hb6 (unhide HBU5).size)
          have HA6 := hide ((unhide HA5).trans (Qp.Ab.of_but (B := w.heap.size + 2) hb6 (by omega)))
          have hs6 := hb6.size
          clear hrd6 hb6
          obtain ⟨p0, p1, p2⟩ := unhide HG6
          obtain ⟨q0, q1, q2⟩ := unhide HM6
          obtain ⟨y0, y1, y2⟩ := (unhide HQ6).1
          have yf := (unhide HQ6).2.1.f 2
          have hy6 := (unhide HQ6).2.1.lt
          obtain ⟨v0, m0⟩ := (unhide HQ6).2.2.c0
          obtain ⟨v1, m1⟩ := (unhide HQ6).2.2.c1
          obtain ⟨v2, m2⟩ := (unhide HQ6).2.2.c2
          have z0 := (unhide HQ6).2.2.f 0
          have z1 := (unhide HQ6).2.2.f 1
          have z2 := (unhide HQ6).2.2.f 2
          have hneA : w.heap.size ≠ w.heap.size + 1 := by omega
          have hneB : w.heap.size + 1 ≠ w.heap.size := by omega
          have hneC : w2.heap.size ≠ w.heap.size + 1 := by omega
          have hneD : w4.heap.size ≠ w.heap.size + 1 := by omega
          have hltw : w.heap.size < w6.heap.size := by omega
          have hltw2 : w2.heap.size < w6.heap.size := by omega
          have hltw4 : w4.heap.size < w6.heap.size := by omega
          have hk9 : ∀ q, q ≠ w.heap.size + 1 → (w6.setCell ⟨w.heap.size + 1, 2, none⟩ (.slice (some ⟨w6.heap.size, 0, none⟩) 2 2)).heap[q]? = w6.heap[q]? := fun q hq => Below.heap_setCell _ _ _ _ hq
          have HS9 := hide (show (w6.setCell ⟨w.heap.size + 1, 2, none⟩ (.slice (some ⟨w6.heap.size, 0, none⟩) 2 2)).heap.size = w6.heap.size by simp [World.setCell])
          have HZ9 := hide ((unhide HQ6).2.2.kept (hk9 w.heap.size hneA))
          have HRD9 := hide ((unhide HRD6).kept (hk9 bp (by omega)))
          have HBU9 := hide ((unhide HBU6).below (Qp.set_below (W := w6) (b := w.heap.size + 1) (o := 2) (.slice (some ⟨w6.heap.size, 0, none⟩) 2 2) (show w.heap.size ≤ w.heap.size + 1 by omega)))
          have HA9 := hide ((unhide HA6).trans (Qp.Ab.set (o := 2) w6 (.slice (some ⟨w6.heap.size, 0, none⟩) 2 2) (show w.heap.size + 1 < w.heap.size + 2 by omega)))
          have HSR := hide (Qp.ret3 (unhide HZ9) (.int .i64 ((K : Nat) : Int)) (.int .i64 0) (.slice (some ⟨w6.heap.size, 0, none⟩) 2 2))
          clear hk9
          go_wp2_with fail
          generalize (w6.setCell ⟨w.heap.size + 1, 2, none⟩ (.slice (some ⟨w6.heap.size, 0, none⟩) 2 2)) = w9 at *
          obtain ⟨⟨s0, s1, s2⟩, hsS, hbS, haS, hkS⟩ := unhide HSR
          generalize (((w9.setCell ⟨w.heap.size, 0, none⟩ (.int .i64 ((K : Nat) : Int))).setCell ⟨w.heap.size, 1, none⟩ (.int .i64 0)).setCell ⟨w.heap.size, 2, none⟩ (.slice (some ⟨w6.heap.size, 0, none⟩) 2 2)) = S at *
          have hs9 := unhide HS9
          have hsS6 : w6.heap.size = S.heap.size := by omega
          rw [hsS6] at s2 ⊢
          have hbV := (Below.refl S.heap.size S).alloc (Nat.le_refl _) (Obj.cells #[.int .i64 E1.k, .int .i64 E1.n, .slice E1.args.ad E1.args.len E1.args.cap, .int .i64 E2.k, .int .i64 E2.n, .slice E2.args.ad E2.args.len E2.args.cap] 24)
          have s3 : w.heap.size < S.heap.size := by omega
          refine bodyPost_ret (v := .agg #[.int .i64 ((K : Nat) : Int), .int .i64 0, .slice (some ⟨S.heap.size, 0, none⟩) 2 2]) (by simp [results, Tryz.results34, go_sem, s0, s1, s2, s3]) rfl ?_
          refine ⟨⟨((K : Nat) : Int), 0, ⟨some ⟨S.heap.size, 0, none⟩, 2, 2⟩⟩, _, _, rfl, ((unhide HRD9).kept (hkS bp (by omega))).below hbV, ((unhide HBU9).below hbS).below (hbV.mono (by omega)), Qp.nd_le (by rw [Qp.toList_41]; decide) hj2, ?_⟩
          have hst2 := unhide HST2
          have hpf : Qp.pairF l rec i = (match rec (j1 + 1) with | .error j' => (Except.error j' : Except Nat (Qk.AT (d + 1) × Nat)) | .ok (y, j') => if Qp.inW [⟨#[41]⟩] (Qp.tk l j').t = true then .ok (((((K : Nat) : Int), 0), [x, y]), j' + 1) else .error j') := by
            unfold Qp.pairF
            rw [hd]
            show (match Qp.find Qp.twos (Qp.tk l j1).t with | none => _ | some k => _) = _
            rw [hfd]
            try rfl
          rw [← unhide HO, hpf]
          cases hd2 : rec (j1 + 1) with
          | error j' =>
            rw [hd2] at hst2
            obtain ⟨hg2, hjj⟩ := hst2
            subst hg2
            subst hjj
            exact ⟨rfl, rfl⟩
          | ok p2 =>
            obtain ⟨y, j'⟩ := p2
            rw [hd2] at hst2
            obtain ⟨hg2, hjj, hro2⟩ := hst2
            subst hg2
            subst hjj
            have hr1 := (((unhide HRO4).ab (unhide HA9)).ab (haS _ (by omega))).ab (Qp.Ab.of_below hbV)
            have hr2 := ((((hro2.mono (show w.heap.size + 2 ≤ V.heap.size by omega)).ab (unhide HA9)).ab (haS _ (by omega))).ab (Qp.Ab.of_below hbV))
            have hL1 := Qp.lies_two S E1 E2
            cases hcl : Qp.inW [⟨#[41]⟩] (Qp.tk l j2).t
            · have h41 := Qp.rt_in hcl
              have hnd : Qp.nd l ⟨#[41]⟩ j2 false = (j2, true) := by
                unfold Qp.nd
                rw [show (Qp.tk l j2).t = Qp.rt l j2 false from rfl, h41]
                rfl
              rw [hnd]
              simp [hcl]
            · have h41 := Qp.rt_in hcl
              have hnd : Qp.nd l ⟨#[41]⟩ j2 false = (j2 + 1, false) := by
                unfold Qp.nd
                rw [show (Qp.tk l j2).t = Qp.rt l j2 false from rfl, h41]
                rfl
              rw [hnd]
              simp only [hcl, if_true]
              have hfin := (Qp.RO.two (k := ((K : Nat) : Int)) (m := 0) hL1.1 hL1.2 (by omega) hr1 hr2).mono (show w.heap.size ≤ w.heap.size + 2 by omega)
              first | exact ⟨rfl, rfl, hfin⟩ | exact hfin | exact ⟨trivial, trivial, hfin⟩
end Go.Proofs.YtfhlnelgnnkeoaaGreatDoor
