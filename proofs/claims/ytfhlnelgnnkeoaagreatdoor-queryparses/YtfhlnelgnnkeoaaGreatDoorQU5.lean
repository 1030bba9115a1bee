/-
  Ask of the document's Reader, at a word. By the verifier.
-/
import Derived.Test.YtfhlnelgnnkeoaaGreatDoorQU4
namespace Go.Proofs.YtfhlnelgnnkeoaaGreatDoor
open Go.RowKit
set_option linter.unusedVariables false

theorem Qp.toList_any : (⟨#[97, 110, 121]⟩ : ByteArray).toList = [97, 110, 121] := by rw [ByteArray.toList_eq]
theorem Qp.toList_min : (⟨#[45]⟩ : ByteArray).toList = [45] := by rw [ByteArray.toList_eq]
theorem Qp.toList_zero : (⟨#[48]⟩ : ByteArray).toList = [48] := by rw [ByteArray.toList_eq]
/-- What was read as a number, against what was to be read. -/
def Qp.NR (res : Except Nat (Int × Nat)) (M : Int) (J : Nat) (G : Bool) : Prop :=
  match res with
  | .error j' => G = true ∧ J = j'
  | .ok (m, j') => G = false ∧ J = j' ∧ M = m
theorem Qp.NR.dig (l : List Qp.T) (i : Nat) : Qp.NR (Qp.dig l i) (Qp.rnum l i false).1 (Qp.rnum l i false).2.1 (Qp.rnum l i false).2.2 := by
  unfold Qp.NR Qp.rnum
  cases h : Qp.dig l i with
  | error j =>
    have : j = i := by unfold Qp.dig at h; split at h <;> cases h; rfl
    subst this
    exact ⟨rfl, rfl⟩
  | ok p => exact ⟨rfl, rfl, rfl⟩
theorem Qp.rnum_le {l : List Qp.T} {i : Nat} {f : Bool} (hi : i ≤ l.length) : (Qp.rnum l i f).2.1 ≤ l.length := by
  unfold Qp.rnum
  cases f
  · unfold Qp.dig
    by_cases h : (Qp.tk l i).k = 2
    · have hl : i < l.length := by
        by_cases hh : i < l.length
        · exact hh
        · rw [Qp.tk_none (by omega)] at h; cases h
      simp [h]; omega
    · simp [h]; omega
  · exact hi
theorem Qp.rnum_bound {l : List Qp.T} (hg : Qp.Good l) (i : Nat) (f : Bool) : 0 ≤ (Qp.rnum l i f).1 ∧ (Qp.rnum l i f).1 < 100000000 := by
  unfold Qp.rnum
  cases f
  · unfold Qp.dig
    by_cases h : (Qp.tk l i).k = 2
    · obtain ⟨n, h1, h2, _⟩ := Qp.good_num hg i h
      simp only [h, if_true, Qp.val, h1, Option.getD_some, Bool.false_eq_true, if_false]
      omega
    · simp [h]
  · simp
theorem Qp.wordF_at {l : List Qp.T} {d : Nat} {rec : Nat → Except Nat (Qk.AT d × Nat)} {i k : Nat} (h : Qp.find Qp.ones (Qp.tk l i).t = some k) : Qp.wordF l rec i =
    (match (if 0 < Qk.most ((k : Nat) : Int) then Qp.num l (Qk.least ((k : Nat) : Int)) (i + 1) else .ok (0, i + 1)) with
    | .error j => .error j
    | .ok (m, j) =>
      if Qk.argsN ((k : Nat) : Int) = 1 then
        (match rec j with
        | .error j' => .error j'
        | .ok (x, j') => .ok (((((k : Nat) : Int), m), [x]), j'))
      else .ok (((((k : Nat) : Int), m), []), j)) := by
  unfold Qp.wordF
  rw [h]
  try rfl

set_option maxRecDepth 100000 in
set_option maxHeartbeats 3200000 in
theorem Ask_none (l : List Qp.T) (ta : Option Addr) (c bp i a d : Nat) (e : Int) (w : World) (hp : Qp.Rd w bp ta l.length c (i : Nat) e false) (hr : Qp.RT w ta l) (hne : ∀ b o, ta = some ⟨b, o, none⟩ → b ≠ bp) (hf : l.length ≤ 10000) (hg : Qp.Good l) (hi : i ≤ l.length) (ha : a ≤ 60) (hin : Qp.inW [⟨#[40]⟩] (Qp.tk l i).t = false)
    (rec : Nat → Except Nat (Qk.AT d × Nat)) (h60 : a = 60 → ∀ k, rec k = .error k)
    (HQ : a < 60 → ∀ (k : Nat) (f : Bool) (W : World), Qp.Rd W bp ta l.length c (k : Nat) e f → Qp.RT W ta l → k ≤ l.length → Calls Tryz.prog 34 #[.pointer (some ⟨bp, 0, none⟩), .int .i64 ((a : Int) + 1)] W (Qp.AskP bp ta l c e W (Qp.orec rec k f)))
    (hfd : Qp.find Qp.ones (Qp.tk l i).t = none) :
    Calls Tryz.prog 34 #[.pointer (some ⟨bp, 0, none⟩), .int .i64 (a : Nat)] w (Qp.AskP bp ta l c e w (Qp.wordF l rec i)) := by
  have HR := hide (fun (W : World) (hb : Qk.But1 bp w.heap.size w W) => hr.but hne hb)
  have HTT := hide (fun (k : Nat) (f : Bool) (hk : k ≤ l.length) (W : World) (h1 : Qp.Rd W bp ta l.length c (k : Nat) e f) (h2 : Qp.RT W ta l) => Text_any l ta c bp k e f W h1 h2 hf (by omega))
  have HND := hide (fun (s : ByteArray) (k : Nat) (f : Bool) (hk : k ≤ l.length) (W : World) (h1 : Qp.Rd W bp ta l.length c (k : Nat) e f) (h2 : Qp.RT W ta l) => Need_any l s ta c bp k e f W h1 h2 hf (by omega))
  have HNU := hide (fun (k : Nat) (f : Bool) (hk : k ≤ l.length) (W : World) (h1 : Qp.Rd W bp ta l.length c (k : Nat) e f) (h2 : Qp.RT W ta l) => Number_any l ta c bp k e f W h1 h2 hf (by omega) hg)
  have HT := hide (fun (W : World) => (unhide HTT) i false hi W)
  have HGD := hide hg
  have hop := Qp.rt_in hin
  rw [Qp.toList_40] at hop
  have HQH := hide (And.intro h60 HQ)
  have HP := hide hp
  have hblt := hp.lt
  obtain ⟨o, ho⟩ : ∃ o, Qp.wordF l rec i = o := ⟨_, rfl⟩
  rw [ho]
  have HO := hide ho
  have HFD := hide hfd
  clear HQ hp hr hin ho h60 hg
  go_enter Tryz.func34, Tryz.ntmps34
  go_wp2_with fail
  have hLA : Qp.Lp w ((w.alloc (Obj.cells #[.int .i64 0, .int .i64 0, .slice none 0 0] 24)).alloc (Obj.cells #[.int .i64 0, .int .i64 0, .slice none 0 0] 24)) ((w.alloc (Obj.cells #[.int .i64 0, .int .i64 0, .slice none 0 0] 24)).alloc (Obj.cells #[.int .i64 0, .int .i64 0, .slice none 0 0] 24)) bp ta l.length c i e false 0 :=
    have hb := ((Below.refl w.heap.size w).alloc (Nat.le_refl _) (Obj.cells #[.int .i64 0, .int .i64 0, .slice none 0 0] 24)).alloc (by simp) (Obj.cells #[.int .i64 0, .int .i64 0, .slice none 0 0] 24)
    ⟨⟨by go_simp, by go_simp, by go_simp⟩, ⟨⟨.int .i64 0, by go_simp⟩, ⟨.int .i64 0, by go_simp⟩, ⟨.slice none 0 0, by go_simp⟩, fun i => by go_simp⟩, ⟨⟨.int .i64 0, by go_simp⟩, ⟨.int .i64 0, by go_simp⟩, ⟨.slice none 0 0, by go_simp⟩, fun i => by go_simp⟩, (unhide HP).below hb, (Qk.But1.refl bp w.heap.size w).below hb, Qp.Ab.refl _ _⟩
  have hsA : ((w.alloc (Obj.cells #[.int .i64 0, .int .i64 0, .slice none 0 0] 24)).alloc (Obj.cells #[.int .i64 0, .int .i64 0, .slice none 0 0] 24)).heap.size = w.heap.size + 2 := by simp
  have HLA := hide hLA
  clear hLA
  generalize ((w.alloc (Obj.cells #[.int .i64 0, .int .i64 0, .slice none 0 0] 24)).alloc (Obj.cells #[.int .i64 0, .int .i64 0, .slice none 0 0] 24)) = WA at *
  refine ((unhide HTT) i false hi _ (unhide HLA).r ((unhide HR) _ (unhide HLA).b)).mono ?_
  rintro r w0 ⟨rfl, hb0⟩
  have HL0 := hide (show Qp.Lp w w0 w0 bp ta l.length c i e false (Qp.fnd false (Qp.rt l i false) 1) from ⟨((unhide HLA).below hb0).q, ((unhide HLA).below hb0).y, ((unhide HLA).below hb0).z, ((unhide HLA).below hb0).r, ((unhide HLA).below hb0).b, Qp.Ab.refl _ _⟩)
  clear hb0
  go_wp2_with fail
  go_loopw [9] (fun v wr => ∃ k : Nat, 1 ≤ k ∧ k ≤ 15 ∧ v = .int .i64 ((k : Nat) : Int) ∧ Qp.Lp w w0 wr bp ta l.length c (i) e false (Qp.fnd false (Qp.rt l (i) false) k)) (fun v _ => 15 - (intOf v).toNat)
  case atStart => exact ⟨1, Nat.le_refl _, by decide, rfl, unhide HL0⟩
  case round =>
    obtain ⟨k, hk1, hk2, rfl, hL⟩ := hrel
    have HL := hide hL
    clear hL
    by_cases hk : k ≤ 14
    · have hk3 : (k : Int) ≤ 14 := by omega
      obtain ⟨u0, u1, u2⟩ := (unhide HL).q
      have uf := (unhide HL).y.f 0
      have hz := (unhide HL).lt
      go_wp2_with fail
      refine (AskArgs_any ((k : Nat) : Int) _).mono ?_
      rintro r w1 ⟨rfl, hw1⟩
      obtain rfl : wr = w1 := hw1.symm
      by_cases hA : Qk.argsN ((k : Nat) : Int) < 2
      · have hA1 : ((Qk.argsN ((k : Nat) : Int) : Nat) : Int) < 2 := by omega
        have hA2 : decide (Qk.argsN ((k : Nat) : Int) = 2) = false := by simp; omega
        go_wp2_with fail
        refine ((unhide HT) _ (unhide HL).r ((unhide HR) _ (unhide HL).b)).mono ?_
        rintro r w2 ⟨rfl, hb2⟩
        have HL2 := hide ((unhide HL).below hb2)
        clear hb2
        go_wp2_with fail
        refine (askWord_any ((k : Nat) : Int) (Qk.isK_nat k (by omega) (by omega)) _).mono ?_
        rintro r w3 ⟨rfl, hb3⟩
        have HL3 := hide ((unhide HL2).below hb3)
        clear hb3 u0 u1 u2 uf hz
        obtain ⟨u0, u1, u2⟩ := (unhide HL3).q
        have uf := (unhide HL3).y.f 0
        have hz := (unhide HL3).lt
        cases htx : ((Qp.rt l (i) false).toList == (Qk.word ((k : Nat) : Int)).toList)
        · have HN := hide (show Qp.fnd false (Qp.rt l (i) false) (k + 1) = Qp.fnd false (Qp.rt l (i) false) k by
            show (if (decide (Qk.argsN ((k : Nat) : Int) = 2) == false && (decide (1 ≤ k) && ((Qp.rt l (i) false).toList == (Qk.word ((k : Nat) : Int)).toList))) = true then k else _) = _
            rw [htx]; simp)
          go_wp2_with fail
          go_round
          case rel => exact ⟨k + 1, by omega, by omega, by go_num, by rw [unhide HN]; exact unhide HL3⟩
          case measure => simp [intOf]; omega
        · have HN := hide (show Qp.fnd false (Qp.rt l (i) false) (k + 1) = k by
            show (if (decide (Qk.argsN ((k : Nat) : Int) = 2) == false && (decide (1 ≤ k) && ((Qp.rt l (i) false).toList == (Qk.word ((k : Nat) : Int)).toList))) = true then k else _) = _
            rw [htx, hA2, decide_eq_true (show 1 ≤ k by omega)]; rfl)
          go_wp2_with fail
          go_round
          case rel => exact ⟨k + 1, by omega, by omega, by go_num, by rw [unhide HN]; exact (unhide HL3).set hblt k⟩
          case measure => simp [intOf]; omega
      · have hA1 : ¬ ((Qk.argsN ((k : Nat) : Int) : Nat) : Int) < 2 := by omega
        have hA2 : decide (Qk.argsN ((k : Nat) : Int) = 2) = true := by have := Qk.args_two (k := ((k : Nat) : Int)); simp; omega
        have HN := hide (show Qp.fnd false (Qp.rt l (i) false) (k + 1) = Qp.fnd false (Qp.rt l (i) false) k by
          show (if (decide (Qk.argsN ((k : Nat) : Int) = 2) == false && (decide (1 ≤ k) && ((Qp.rt l (i) false).toList == (Qk.word ((k : Nat) : Int)).toList))) = true then k else _) = _
          rw [hA2]; rfl)
        go_wp2_with fail
        go_round
        case rel => exact ⟨k + 1, by omega, by omega, by go_num, by rw [unhide HN]; exact unhide HL⟩
        case measure => simp [intOf]; omega
    · have hk3 : ¬ (k : Int) ≤ 14 := by omega
      obtain rfl : k = 15 := by omega
      have h0 : Qp.fnd false (Qp.rt l i false) 15 = 0 := by
        have e := (Qp.fnd_is (Qp.tk l i).t).1
        rw [hfd] at e
        exact e
      rw [h0] at HL
      obtain rfl : o = .error i := by rw [← unhide HO]; unfold Qp.wordF; rw [hfd]
      obtain ⟨u0, u1, u2⟩ := (unhide HL).q
      obtain ⟨r0, r1, r2, r3, rf1, rf3⟩ := (unhide HL).r
      obtain ⟨v0, m0⟩ := (unhide HL).z.c0
      obtain ⟨v1, m1⟩ := (unhide HL).z.c1
      obtain ⟨v2, m2⟩ := (unhide HL).z.c2
      have z0 := (unhide HL).z.f 0
      have z1 := (unhide HL).z.f 1
      have z2 := (unhide HL).z.f 2
      have hz := (unhide HL).lt
      have hneq : bp ≠ w.heap.size := by omega
      have hneq2 : bp ≠ w.heap.size + 1 := by omega
      have HSR := hide (Qp.ret3 ((unhide HL).z.kept (show (wr.setCell ⟨bp, 3, none⟩ (.bool true)).heap[w.heap.size]? = wr.heap[w.heap.size]? from Below.heap_setCell _ _ _ _ (show w.heap.size ≠ bp by omega))) (.int .i64 0) (.int .i64 0) (.slice none 0 0))
      go_wp2_with fail
      obtain ⟨⟨s0, s1, s2⟩, hsS, hbS, haS, hkS⟩ := unhide HSR
      refine bodyPost_ret (v := .agg #[.int .i64 0, .int .i64 0, .slice none 0 0]) (by simp [results, Tryz.results34, go_sem, s0, s1, s2]) rfl ?_
      exact ⟨⟨0, 0, ⟨none, 0, 0⟩⟩, i, true, rfl, (unhide HL).r.fail.kept (hkS bp (by omega)), ((unhide HL).b.set (o := 3) _).below hbS, hi, rfl, rfl⟩

set_option maxRecDepth 100000 in
set_option maxHeartbeats 3200000 in
theorem Ask_k4 (l : List Qp.T) (ta : Option Addr) (c bp i a d : Nat) (e : Int) (w : World) (hp : Qp.Rd w bp ta l.length c (i : Nat) e false) (hr : Qp.RT w ta l) (hne : ∀ b o, ta = some ⟨b, o, none⟩ → b ≠ bp) (hf : l.length ≤ 10000) (hg : Qp.Good l) (hi : i ≤ l.length) (ha : a ≤ 60) (hin : Qp.inW [⟨#[40]⟩] (Qp.tk l i).t = false)
    (rec : Nat → Except Nat (Qk.AT d × Nat)) (h60 : a = 60 → ∀ k, rec k = .error k)
    (HQ : a < 60 → ∀ (k : Nat) (f : Bool) (W : World), Qp.Rd W bp ta l.length c (k : Nat) e f → Qp.RT W ta l → k ≤ l.length → Calls Tryz.prog 34 #[.pointer (some ⟨bp, 0, none⟩), .int .i64 ((a : Int) + 1)] W (Qp.AskP bp ta l c e W (Qp.orec rec k f)))
    (hfd : Qp.find Qp.ones (Qp.tk l i).t = some 4) :
    Calls Tryz.prog 34 #[.pointer (some ⟨bp, 0, none⟩), .int .i64 (a : Nat)] w (Qp.AskP bp ta l c e w (Qp.wordF l rec i)) := by
  have HR := hide (fun (W : World) (hb : Qk.But1 bp w.heap.size w W) => hr.but hne hb)
  have HTT := hide (fun (k : Nat) (f : Bool) (hk : k ≤ l.length) (W : World) (h1 : Qp.Rd W bp ta l.length c (k : Nat) e f) (h2 : Qp.RT W ta l) => Text_any l ta c bp k e f W h1 h2 hf (by omega))
  have HND := hide (fun (s : ByteArray) (k : Nat) (f : Bool) (hk : k ≤ l.length) (W : World) (h1 : Qp.Rd W bp ta l.length c (k : Nat) e f) (h2 : Qp.RT W ta l) => Need_any l s ta c bp k e f W h1 h2 hf (by omega))
  have HNU := hide (fun (k : Nat) (f : Bool) (hk : k ≤ l.length) (W : World) (h1 : Qp.Rd W bp ta l.length c (k : Nat) e f) (h2 : Qp.RT W ta l) => Number_any l ta c bp k e f W h1 h2 hf (by omega) hg)
  have HT := hide (fun (W : World) => (unhide HTT) i false hi W)
  have HGD := hide hg
  have hop := Qp.rt_in hin
  rw [Qp.toList_40] at hop
  have HQH := hide (And.intro h60 HQ)
  have HP := hide hp
  have hblt := hp.lt
  obtain ⟨o, ho⟩ : ∃ o, Qp.wordF l rec i = o := ⟨_, rfl⟩
  rw [ho]
  have HO := hide ho
  have HFD := hide hfd
  clear HQ hp hr hin ho h60 hg
  go_enter Tryz.func34, Tryz.ntmps34
  go_wp2_with fail
  have hLA : Qp.Lp w ((w.alloc (Obj.cells #[.int .i64 0, .int .i64 0, .slice none 0 0] 24)).alloc (Obj.cells #[.int .i64 0, .int .i64 0, .slice none 0 0] 24)) ((w.alloc (Obj.cells #[.int .i64 0, .int .i64 0, .slice none 0 0] 24)).alloc (Obj.cells #[.int .i64 0, .int .i64 0, .slice none 0 0] 24)) bp ta l.length c i e false 0 :=
    have hb := ((Below.refl w.heap.size w).alloc (Nat.le_refl _) (Obj.cells #[.int .i64 0, .int .i64 0, .slice none 0 0] 24)).alloc (by simp) (Obj.cells #[.int .i64 0, .int .i64 0, .slice none 0 0] 24)
    ⟨⟨by go_simp, by go_simp, by go_simp⟩, ⟨⟨.int .i64 0, by go_simp⟩, ⟨.int .i64 0, by go_simp⟩, ⟨.slice none 0 0, by go_simp⟩, fun i => by go_simp⟩, ⟨⟨.int .i64 0, by go_simp⟩, ⟨.int .i64 0, by go_simp⟩, ⟨.slice none 0 0, by go_simp⟩, fun i => by go_simp⟩, (unhide HP).below hb, (Qk.But1.refl bp w.heap.size w).below hb, Qp.Ab.refl _ _⟩
  have hsA : ((w.alloc (Obj.cells #[.int .i64 0, .int .i64 0, .slice none 0 0] 24)).alloc (Obj.cells #[.int .i64 0, .int .i64 0, .slice none 0 0] 24)).heap.size = w.heap.size + 2 := by simp
  have HLA := hide hLA
  clear hLA
  generalize ((w.alloc (Obj.cells #[.int .i64 0, .int .i64 0, .slice none 0 0] 24)).alloc (Obj.cells #[.int .i64 0, .int .i64 0, .slice none 0 0] 24)) = WA at *
  refine ((unhide HTT) i false hi _ (unhide HLA).r ((unhide HR) _ (unhide HLA).b)).mono ?_
  rintro r w0 ⟨rfl, hb0⟩
  have HL0 := hide (show Qp.Lp w w0 w0 bp ta l.length c i e false (Qp.fnd false (Qp.rt l i false) 1) from ⟨((unhide HLA).below hb0).q, ((unhide HLA).below hb0).y, ((unhide HLA).below hb0).z, ((unhide HLA).below hb0).r, ((unhide HLA).below hb0).b, Qp.Ab.refl _ _⟩)
  clear hb0
  go_wp2_with fail
  go_loopw [9] (fun v wr => ∃ k : Nat, 1 ≤ k ∧ k ≤ 15 ∧ v = .int .i64 ((k : Nat) : Int) ∧ Qp.Lp w w0 wr bp ta l.length c (i) e false (Qp.fnd false (Qp.rt l (i) false) k)) (fun v _ => 15 - (intOf v).toNat)
  case atStart => exact ⟨1, Nat.le_refl _, by decide, rfl, unhide HL0⟩
  case round =>
    obtain ⟨k, hk1, hk2, rfl, hL⟩ := hrel
    have HL := hide hL
    clear hL
    by_cases hk : k ≤ 14
    · have hk3 : (k : Int) ≤ 14 := by omega
      obtain ⟨u0, u1, u2⟩ := (unhide HL).q
      have uf := (unhide HL).y.f 0
      have hz := (unhide HL).lt
      go_wp2_with fail
      refine (AskArgs_any ((k : Nat) : Int) _).mono ?_
      rintro r w1 ⟨rfl, hw1⟩
      obtain rfl : wr = w1 := hw1.symm
      by_cases hA : Qk.argsN ((k : Nat) : Int) < 2
      · have hA1 : ((Qk.argsN ((k : Nat) : Int) : Nat) : Int) < 2 := by omega
        have hA2 : decide (Qk.argsN ((k : Nat) : Int) = 2) = false := by simp; omega
        go_wp2_with fail
        refine ((unhide HT) _ (unhide HL).r ((unhide HR) _ (unhide HL).b)).mono ?_
        rintro r w2 ⟨rfl, hb2⟩
        have HL2 := hide ((unhide HL).below hb2)
        clear hb2
        go_wp2_with fail
        refine (askWord_any ((k : Nat) : Int) (Qk.isK_nat k (by omega) (by omega)) _).mono ?_
        rintro r w3 ⟨rfl, hb3⟩
        have HL3 := hide ((unhide HL2).below hb3)
        clear hb3 u0 u1 u2 uf hz
        obtain ⟨u0, u1, u2⟩ := (unhide HL3).q
        have uf := (unhide HL3).y.f 0
        have hz := (unhide HL3).lt
        cases htx : ((Qp.rt l (i) false).toList == (Qk.word ((k : Nat) : Int)).toList)
        · have HN := hide (show Qp.fnd false (Qp.rt l (i) false) (k + 1) = Qp.fnd false (Qp.rt l (i) false) k by
            show (if (decide (Qk.argsN ((k : Nat) : Int) = 2) == false && (decide (1 ≤ k) && ((Qp.rt l (i) false).toList == (Qk.word ((k : Nat) : Int)).toList))) = true then k else _) = _
            rw [htx]; simp)
          go_wp2_with fail
          go_round
          case rel => exact ⟨k + 1, by omega, by omega, by go_num, by rw [unhide HN]; exact unhide HL3⟩
          case measure => simp [intOf]; omega
        · have HN := hide (show Qp.fnd false (Qp.rt l (i) false) (k + 1) = k by
            show (if (decide (Qk.argsN ((k : Nat) : Int) = 2) == false && (decide (1 ≤ k) && ((Qp.rt l (i) false).toList == (Qk.word ((k : Nat) : Int)).toList))) = true then k else _) = _
            rw [htx, hA2, decide_eq_true (show 1 ≤ k by omega)]; rfl)
          go_wp2_with fail
          go_round
          case rel => exact ⟨k + 1, by omega, by omega, by go_num, by rw [unhide HN]; exact (unhide HL3).set hblt k⟩
          case measure => simp [intOf]; omega
      · have hA1 : ¬ ((Qk.argsN ((k : Nat) : Int) : Nat) : Int) < 2 := by omega
        have hA2 : decide (Qk.argsN ((k : Nat) : Int) = 2) = true := by have := Qk.args_two (k := ((k : Nat) : Int)); simp; omega
        have HN := hide (show Qp.fnd false (Qp.rt l (i) false) (k + 1) = Qp.fnd false (Qp.rt l (i) false) k by
          show (if (decide (Qk.argsN ((k : Nat) : Int) = 2) == false && (decide (1 ≤ k) && ((Qp.rt l (i) false).toList == (Qk.word ((k : Nat) : Int)).toList))) = true then k else _) = _
          rw [hA2]; rfl)
        go_wp2_with fail
        go_round
        case rel => exact ⟨k + 1, by omega, by omega, by go_num, by rw [unhide HN]; exact unhide HL⟩
        case measure => simp [intOf]; omega
    · have hk3 : ¬ (k : Int) ≤ 14 := by omega
      obtain rfl : k = 15 := by omega
      have hK : Qp.fnd false (Qp.rt l i false) 15 = 4 := by
        have e := (Qp.fnd_is (Qp.tk l i).t).1
        rw [hfd] at e
        exact e
      have HL2 := hide (show Qp.Lp w w0 wr bp ta l.length c i e false 4 by rw [← hK]; exact unhide HL)
      have HO2 := hide (show o = _ from (unhide HO).symm.trans (Qp.wordF_at hfd))
      have hjl : i < l.length := by
        by_cases hh : i < l.length
        · exact hh
        · have := (Qp.find_some hfd).1
          rw [Qp.tk_none (by omega)] at this
          exact absurd (congrArg ByteArray.toList this).symm (by rw [Qp.empty_eq]; exact Qp.word_ne (by decide) (by decide))
      have HNW := hide (show Qp.nd l (Qk.word 4) i false = (i + 1, false) from Qp.nd_word hfd)
      clear HL hK hfd HFD
      obtain ⟨u0, u1, u2⟩ := (unhide HL2).q
      have hzr := (unhide HL2).lt
      go_wp2_with fail
      refine (askWord_any 4 rfl _).mono ?_
      rintro r w3 ⟨rfl, hb3⟩
      have HL3 := hide ((unhide HL2).below hb3)
      have hs3 := hb3.size
      clear hb3 u0 u1 u2
      go_wp2_with fail
      refine ((unhide HND) (Qk.word 4) i false hi w3 (unhide HL3).r ((unhide HR) _ (unhide HL3).b)).mono ?_
      rw [unhide HNW]
      rintro r V ⟨rfl, hrdV, hbV⟩
      have HRV := hide hrdV
      have HQV := hide (show Qk.Lies V (w.heap.size + 1) 0 ⟨4, 0, ⟨none, 0, 0⟩⟩ ∧ Qp.Z3 V (w.heap.size + 1) ∧ Qp.Z3 V w.heap.size from And.intro ((unhide HL3).q.but hbV (by omega)) (And.intro ((unhide HL3).y.but hbV (by omega)) ((unhide HL3).z.but hbV (by omega))))
      have HBV := hide ((unhide HL3).b.trans hbV (unhide HL3).b.size)
      have hsV := hbV.size
      have hzV := (unhide HQV).2.1.lt
      clear hrdV hbV
      obtain ⟨u0, u1, u2⟩ := (unhide HQV).1
      go_wp2_with fail
      clear u0 u1 u2
      have HNR := hide (show Qp.NR (if 0 < Qk.most (((4 : Nat) : Nat) : Int) then Qp.num l (Qk.least (((4 : Nat) : Nat) : Int)) (i + 1) else .ok (0, i + 1)) 0 (i + 1) false from ⟨rfl, rfl, rfl⟩)
      have HQU := HQV
      have HRU := HRV
      have HBU := HBV
      generalize hVU : V = U at *
      refine (AskArgs_any 4 U).mono ?_
      rintro r w7 ⟨rfl, hw7⟩
      obtain rfl : U = w7 := hw7.symm
      rw [show Qk.argsN 4 = 0 from rfl]
      obtain ⟨y0, y1, y2⟩ := (unhide HQU).1
      obtain ⟨v0, m0⟩ := (unhide HQU).2.2.c0
      obtain ⟨v1, m1⟩ := (unhide HQU).2.2.c1
      obtain ⟨v2, m2⟩ := (unhide HQU).2.2.c2
      have z0 := (unhide HQU).2.2.f 0
      have z1 := (unhide HQU).2.2.f 1
      have z2 := (unhide HQU).2.2.f 2
      have HSR := hide (Qp.ret3 (unhide HQU).2.2 (.int .i64 4) (.int .i64 (0)) (.slice none 0 0))
      go_wp2_with fail
      obtain ⟨⟨s0, s1, s2⟩, hsS, hbS, haS, hkS⟩ := unhide HSR
      refine bodyPost_ret (v := .agg #[.int .i64 4, .int .i64 (0), .slice none 0 0]) (by simp [results, Tryz.results34, go_sem, s0, s1, s2]) rfl ?_
      refine ⟨⟨4, 0, ⟨none, 0, 0⟩⟩, i + 1, false, rfl, (unhide HRU).kept (hkS bp (by omega)), (unhide HBU).below hbS, by omega, ?_⟩
      have hnr := unhide HNR
      rw [unhide HO2]
      cases hres : (if 0 < Qk.most (((4 : Nat) : Nat) : Int) then Qp.num l (Qk.least (((4 : Nat) : Nat) : Int)) (i + 1) else .ok (0, i + 1)) with
      | error j' => rw [hres] at hnr; exact hnr
      | ok p =>
        obtain ⟨m, j'⟩ := p
        rw [hres] at hnr
        obtain ⟨hg1, hj1, hm1⟩ := hnr
        subst hm1
        exact ⟨hg1, hj1, Qp.RO.leaf _ _ _ _ _ _ _⟩

set_option maxRecDepth 100000 in
set_option maxHeartbeats 3200000 in
theorem Ask_k7 (l : List Qp.T) (ta : Option Addr) (c bp i a d : Nat) (e : Int) (w : World) (hp : Qp.Rd w bp ta l.length c (i : Nat) e false) (hr : Qp.RT w ta l) (hne : ∀ b o, ta = some ⟨b, o, none⟩ → b ≠ bp) (hf : l.length ≤ 10000) (hg : Qp.Good l) (hi : i ≤ l.length) (ha : a ≤ 60) (hin : Qp.inW [⟨#[40]⟩] (Qp.tk l i).t = false)
    (rec : Nat → Except Nat (Qk.AT d × Nat)) (h60 : a = 60 → ∀ k, rec k = .error k)
    (HQ : a < 60 → ∀ (k : Nat) (f : Bool) (W : World), Qp.Rd W bp ta l.length c (k : Nat) e f → Qp.RT W ta l → k ≤ l.length → Calls Tryz.prog 34 #[.pointer (some ⟨bp, 0, none⟩), .int .i64 ((a : Int) + 1)] W (Qp.AskP bp ta l c e W (Qp.orec rec k f)))
    (hfd : Qp.find Qp.ones (Qp.tk l i).t = some 7) :
    Calls Tryz.prog 34 #[.pointer (some ⟨bp, 0, none⟩), .int .i64 (a : Nat)] w (Qp.AskP bp ta l c e w (Qp.wordF l rec i)) := by
  have HR := hide (fun (W : World) (hb : Qk.But1 bp w.heap.size w W) => hr.but hne hb)
  have HTT := hide (fun (k : Nat) (f : Bool) (hk : k ≤ l.length) (W : World) (h1 : Qp.Rd W bp ta l.length c (k : Nat) e f) (h2 : Qp.RT W ta l) => Text_any l ta c bp k e f W h1 h2 hf (by omega))
  have HND := hide (fun (s : ByteArray) (k : Nat) (f : Bool) (hk : k ≤ l.length) (W : World) (h1 : Qp.Rd W bp ta l.length c (k : Nat) e f) (h2 : Qp.RT W ta l) => Need_any l s ta c bp k e f W h1 h2 hf (by omega))
  have HNU := hide (fun (k : Nat) (f : Bool) (hk : k ≤ l.length) (W : World) (h1 : Qp.Rd W bp ta l.length c (k : Nat) e f) (h2 : Qp.RT W ta l) => Number_any l ta c bp k e f W h1 h2 hf (by omega) hg)
  have HT := hide (fun (W : World) => (unhide HTT) i false hi W)
  have HGD := hide hg
  have hop := Qp.rt_in hin
  rw [Qp.toList_40] at hop
  have HQH := hide (And.intro h60 HQ)
  have HP := hide hp
  have hblt := hp.lt
  obtain ⟨o, ho⟩ : ∃ o, Qp.wordF l rec i = o := ⟨_, rfl⟩
  rw [ho]
  have HO := hide ho
  have HFD := hide hfd
  clear HQ hp hr hin ho h60 hg
  go_enter Tryz.func34, Tryz.ntmps34
  go_wp2_with fail
  have hLA : Qp.Lp w ((w.alloc (Obj.cells #[.int .i64 0, .int .i64 0, .slice none 0 0] 24)).alloc (Obj.cells #[.int .i64 0, .int .i64 0, .slice none 0 0] 24)) ((w.alloc (Obj.cells #[.int .i64 0, .int .i64 0, .slice none 0 0] 24)).alloc (Obj.cells #[.int .i64 0, .int .i64 0, .slice none 0 0] 24)) bp ta l.length c i e false 0 :=
    have hb := ((Below.refl w.heap.size w).alloc (Nat.le_refl _) (Obj.cells #[.int .i64 0, .int .i64 0, .slice none 0 0] 24)).alloc (by simp) (Obj.cells #[.int .i64 0, .int .i64 0, .slice none 0 0] 24)
    ⟨⟨by go_simp, by go_simp, by go_simp⟩, ⟨⟨.int .i64 0, by go_simp⟩, ⟨.int .i64 0, by go_simp⟩, ⟨.slice none 0 0, by go_simp⟩, fun i => by go_simp⟩, ⟨⟨.int .i64 0, by go_simp⟩, ⟨.int .i64 0, by go_simp⟩, ⟨.slice none 0 0, by go_simp⟩, fun i => by go_simp⟩, (unhide HP).below hb, (Qk.But1.refl bp w.heap.size w).below hb, Qp.Ab.refl _ _⟩
  have hsA : ((w.alloc (Obj.cells #[.int .i64 0, .int .i64 0, .slice none 0 0] 24)).alloc (Obj.cells #[.int .i64 0, .int .i64 0, .slice none 0 0] 24)).heap.size = w.heap.size + 2 := by simp
  have HLA := hide hLA
  clear hLA
  generalize ((w.alloc (Obj.cells #[.int .i64 0, .int .i64 0, .slice none 0 0] 24)).alloc (Obj.cells #[.int .i64 0, .int .i64 0, .slice none 0 0] 24)) = WA at *
  refine ((unhide HTT) i false hi _ (unhide HLA).r ((unhide HR) _ (unhide HLA).b)).mono ?_
  rintro r w0 ⟨rfl, hb0⟩
  have HL0 := hide (show Qp.Lp w w0 w0 bp ta l.length c i e false (Qp.fnd false (Qp.rt l i false) 1) from ⟨((unhide HLA).below hb0).q, ((unhide HLA).below hb0).y, ((unhide HLA).below hb0).z, ((unhide HLA).below hb0).r, ((unhide HLA).below hb0).b, Qp.Ab.refl _ _⟩)
  clear hb0
  go_wp2_with fail
  go_loopw [9] (fun v wr => ∃ k : Nat, 1 ≤ k ∧ k ≤ 15 ∧ v = .int .i64 ((k : Nat) : Int) ∧ Qp.Lp w w0 wr bp ta l.length c (i) e false (Qp.fnd false (Qp.rt l (i) false) k)) (fun v _ => 15 - (intOf v).toNat)
  case atStart => exact ⟨1, Nat.le_refl _, by decide, rfl, unhide HL0⟩
  case round =>
    obtain ⟨k, hk1, hk2, rfl, hL⟩ := hrel
    have HL := hide hL
    clear hL
    by_cases hk : k ≤ 14
    · have hk3 : (k : Int) ≤ 14 := by omega
      obtain ⟨u0, u1, u2⟩ := (unhide HL).q
      have uf := (unhide HL).y.f 0
      have hz := (unhide HL).lt
      go_wp2_with fail
      refine (AskArgs_any ((k : Nat) : Int) _).mono ?_
      rintro r w1 ⟨rfl, hw1⟩
      obtain rfl : wr = w1 := hw1.symm
      by_cases hA : Qk.argsN ((k : Nat) : Int) < 2
      · have hA1 : ((Qk.argsN ((k : Nat) : Int) : Nat) : Int) < 2 := by omega
        have hA2 : decide (Qk.argsN ((k : Nat) : Int) = 2) = false := by simp; omega
        go_wp2_with fail
        refine ((unhide HT) _ (unhide HL).r ((unhide HR) _ (unhide HL).b)).mono ?_
        rintro r w2 ⟨rfl, hb2⟩
        have HL2 := hide ((unhide HL).below hb2)
        clear hb2
        go_wp2_with fail
        refine (askWord_any ((k : Nat) : Int) (Qk.isK_nat k (by omega) (by omega)) _).mono ?_
        rintro r w3 ⟨rfl, hb3⟩
        have HL3 := hide ((unhide HL2).below hb3)
        clear hb3 u0 u1 u2 uf hz
        obtain ⟨u0, u1, u2⟩ := (unhide HL3).q
        have uf := (unhide HL3).y.f 0
        have hz := (unhide HL3).lt
        cases htx : ((Qp.rt l (i) false).toList == (Qk.word ((k : Nat) : Int)).toList)
        · have HN := hide (show Qp.fnd false (Qp.rt l (i) false) (k + 1) = Qp.fnd false (Qp.rt l (i) false) k by
            show (if (decide (Qk.argsN ((k : Nat) : Int) = 2) == false && (decide (1 ≤ k) && ((Qp.rt l (i) false).toList == (Qk.word ((k : Nat) : Int)).toList))) = true then k else _) = _
            rw [htx]; simp)
          go_wp2_with fail
          go_round
          case rel => exact ⟨k + 1, by omega, by omega, by go_num, by rw [unhide HN]; exact unhide HL3⟩
          case measure => simp [intOf]; omega
        · have HN := hide (show Qp.fnd false (Qp.rt l (i) false) (k + 1) = k by
            show (if (decide (Qk.argsN ((k : Nat) : Int) = 2) == false && (decide (1 ≤ k) && ((Qp.rt l (i) false).toList == (Qk.word ((k : Nat) : Int)).toList))) = true then k else _) = _
            rw [htx, hA2, decide_eq_true (show 1 ≤ k by omega)]; rfl)
          go_wp2_with fail
          go_round
          case rel => exact ⟨k + 1, by omega, by omega, by go_num, by rw [unhide HN]; exact (unhide HL3).set hblt k⟩
          case measure => simp [intOf]; omega
      · have hA1 : ¬ ((Qk.argsN ((k : Nat) : Int) : Nat) : Int) < 2 := by omega
        have hA2 : decide (Qk.argsN ((k : Nat) : Int) = 2) = true := by have := Qk.args_two (k := ((k : Nat) : Int)); simp; omega
        have HN := hide (show Qp.fnd false (Qp.rt l (i) false) (k + 1) = Qp.fnd false (Qp.rt l (i) false) k by
          show (if (decide (Qk.argsN ((k : Nat) : Int) = 2) == false && (decide (1 ≤ k) && ((Qp.rt l (i) false).toList == (Qk.word ((k : Nat) : Int)).toList))) = true then k else _) = _
          rw [hA2]; rfl)
        go_wp2_with fail
        go_round
        case rel => exact ⟨k + 1, by omega, by omega, by go_num, by rw [unhide HN]; exact unhide HL⟩
        case measure => simp [intOf]; omega
    · have hk3 : ¬ (k : Int) ≤ 14 := by omega
      obtain rfl : k = 15 := by omega
      have hK : Qp.fnd false (Qp.rt l i false) 15 = 7 := by
        have e := (Qp.fnd_is (Qp.tk l i).t).1
        rw [hfd] at e
        exact e
      have HL2 := hide (show Qp.Lp w w0 wr bp ta l.length c i e false 7 by rw [← hK]; exact unhide HL)
      have HO2 := hide (show o = _ from (unhide HO).symm.trans (Qp.wordF_at hfd))
      have hjl : i < l.length := by
        by_cases hh : i < l.length
        · exact hh
        · have := (Qp.find_some hfd).1
          rw [Qp.tk_none (by omega)] at this
          exact absurd (congrArg ByteArray.toList this).symm (by rw [Qp.empty_eq]; exact Qp.word_ne (by decide) (by decide))
      have HNW := hide (show Qp.nd l (Qk.word 7) i false = (i + 1, false) from Qp.nd_word hfd)
      clear HL hK hfd HFD
      obtain ⟨u0, u1, u2⟩ := (unhide HL2).q
      have hzr := (unhide HL2).lt
      go_wp2_with fail
      refine (askWord_any 7 rfl _).mono ?_
      rintro r w3 ⟨rfl, hb3⟩
      have HL3 := hide ((unhide HL2).below hb3)
      have hs3 := hb3.size
      clear hb3 u0 u1 u2
      go_wp2_with fail
      refine ((unhide HND) (Qk.word 7) i false hi w3 (unhide HL3).r ((unhide HR) _ (unhide HL3).b)).mono ?_
      rw [unhide HNW]
      rintro r V ⟨rfl, hrdV, hbV⟩
      have HRV := hide hrdV
      have HQV := hide (show Qk.Lies V (w.heap.size + 1) 0 ⟨7, 0, ⟨none, 0, 0⟩⟩ ∧ Qp.Z3 V (w.heap.size + 1) ∧ Qp.Z3 V w.heap.size from And.intro ((unhide HL3).q.but hbV (by omega)) (And.intro ((unhide HL3).y.but hbV (by omega)) ((unhide HL3).z.but hbV (by omega))))
      have HBV := hide ((unhide HL3).b.trans hbV (unhide HL3).b.size)
      have hsV := hbV.size
      have hzV := (unhide HQV).2.1.lt
      clear hrdV hbV
      obtain ⟨u0, u1, u2⟩ := (unhide HQV).1
      go_wp2_with fail
      clear u0 u1 u2
      have HNR := hide (show Qp.NR (if 0 < Qk.most (((7 : Nat) : Nat) : Int) then Qp.num l (Qk.least (((7 : Nat) : Nat) : Int)) (i + 1) else .ok (0, i + 1)) 0 (i + 1) false from ⟨rfl, rfl, rfl⟩)
      have HQU := HQV
      have HRU := HRV
      have HBU := HBV
      generalize hVU : V = U at *
      refine (AskArgs_any 7 U).mono ?_
      rintro r w7 ⟨rfl, hw7⟩
      obtain rfl : U = w7 := hw7.symm
      rw [show Qk.argsN 7 = 1 from rfl]
      obtain ⟨y0, y1, y2⟩ := (unhide HQU).1
      by_cases ha6 : a = 60
      · have hrec := (unhide HQH).1 ha6
        have ha7 : ((a : Int) == 60) = true := by rw [ha6]; rfl
        obtain ⟨v0, m0⟩ := (unhide HQU).2.2.c0
        obtain ⟨v1, m1⟩ := (unhide HQU).2.2.c1
        obtain ⟨v2, m2⟩ := (unhide HQU).2.2.c2
        have z0 := (unhide HQU).2.2.f 0
        have z1 := (unhide HQU).2.2.f 1
        have z2 := (unhide HQU).2.2.f 2
        obtain ⟨r0, r1, r2, r3, rf1, rf3⟩ := unhide HRU
        have hzU2 := (unhide HQU).2.1.lt
        have hneq : bp ≠ w.heap.size := by omega
        have hneq2 : bp ≠ w.heap.size + 1 := by omega
        have HSR := hide (Qp.ret3 ((unhide HQU).2.2.kept (show (U.setCell ⟨bp, 3, none⟩ (.bool true)).heap[w.heap.size]? = U.heap[w.heap.size]? from Below.heap_setCell _ _ _ _ (show w.heap.size ≠ bp by omega))) (.int .i64 7) (.int .i64 (0)) (.slice none 0 0))
        have HRF := hide (unhide HRU).fail
        have HBF := hide ((unhide HBU).set (o := 3) (.bool true))
        clear ha6
        go_wp2_with fail
        obtain ⟨⟨s0, s1, s2⟩, hsS, hbS, haS, hkS⟩ := unhide HSR
        refine bodyPost_ret (v := .agg #[.int .i64 7, .int .i64 (0), .slice none 0 0]) (by simp [results, Tryz.results34, go_sem, s0, s1, s2]) rfl ?_
        refine ⟨⟨7, 0, ⟨none, 0, 0⟩⟩, i + 1, true, rfl, (unhide HRF).kept (hkS bp (by omega)), (unhide HBF).below hbS, by omega, ?_⟩
        have hnr := unhide HNR
        rw [unhide HO2]
        cases hres : (if 0 < Qk.most (((7 : Nat) : Nat) : Int) then Qp.num l (Qk.least (((7 : Nat) : Nat) : Int)) (i + 1) else .ok (0, i + 1)) with
        | error j' => rw [hres] at hnr; exact ⟨rfl, hnr.2⟩
        | ok p =>
          obtain ⟨m, j'⟩ := p
          rw [hres] at hnr
          obtain ⟨hg1, hj1, hm1⟩ := hnr
          simp only [show Qk.argsN (((7 : Nat) : Nat) : Int) = 1 from rfl, if_true, hrec j']
          exact ⟨trivial, hj1⟩
      · have ha7 : ((a : Int) == 60) = false := by simp; omega
        have HQ1 := hide ((unhide HQH).2 (by omega))
        go_wp2_with fail
        refine ((unhide HQ1) (i + 1) false U (unhide HRU) ((unhide HR) _ (unhide HBU)) (by omega)).mono ?_
        rintro r w8 ⟨E, j8, g8, rfl, hrd8, hb8, hj8, hst8⟩
        have HST8 := hide (show (match Qp.orec rec (i + 1) false with | .error j' => g8 = true ∧ j8 = j' | .ok (x, j') => g8 = false ∧ j8 = j' ∧ Qp.RO U.heap.size w8 d E x) from hst8)
        have HR8 := hide hrd8
        have HQ8 := hide (And.intro ((unhide HQU).1.but hb8 (by omega)) (And.intro ((unhide HQU).2.1.but hb8 (by omega)) ((unhide HQU).2.2.but hb8 (by omega))))
        have HB8 := hide ((unhide HBU).trans hb8 (unhide HBU).size)
        have hs8 := hb8.size
        have hzU3 := (unhide HQU).2.1.lt
        clear hrd8 hb8 hst8 y0 y1 y2
        obtain ⟨y0, y1, y2⟩ := (unhide HQ8).1
        have yf := (unhide HQ8).2.1.f 2
        have hy8 := (unhide HQ8).2.1.lt
        obtain ⟨v0, m0⟩ := (unhide HQ8).2.2.c0
        obtain ⟨v1, m1⟩ := (unhide HQ8).2.2.c1
        obtain ⟨v2, m2⟩ := (unhide HQ8).2.2.c2
        have z0 := (unhide HQ8).2.2.f 0
        have z1 := (unhide HQ8).2.2.f 1
        have z2 := (unhide HQ8).2.2.f 2
        have hneA : w.heap.size ≠ w.heap.size + 1 := by omega
        have hneB : w.heap.size + 1 ≠ w.heap.size := by omega
        have hltw := (unhide HQ8).2.2.lt
        have hk9 : ∀ q, q ≠ w.heap.size + 1 → (w8.setCell ⟨w.heap.size + 1, 2, none⟩ (.slice (some ⟨w8.heap.size + 1, 0, none⟩) 1 1)).heap[q]? = w8.heap[q]? := fun q hq => Below.heap_setCell _ _ _ _ hq
        have HS9 := hide (show (w8.setCell ⟨w.heap.size + 1, 2, none⟩ (.slice (some ⟨w8.heap.size + 1, 0, none⟩) 1 1)).heap.size = w8.heap.size by simp [World.setCell])
        have HZ9 := hide ((unhide HQ8).2.2.kept (hk9 w.heap.size hneA))
        have HR9 := hide ((unhide HR8).kept (hk9 bp (by omega)))
        have HB9 := hide ((unhide HB8).below (Qp.set_below (W := w8) (b := w.heap.size + 1) (o := 2) (.slice (some ⟨w8.heap.size + 1, 0, none⟩) 1 1) (show w.heap.size ≤ w.heap.size + 1 by omega)))
        have HA9 := hide (Qp.Ab.set (o := 2) w8 (.slice (some ⟨w8.heap.size + 1, 0, none⟩) 1 1) (show w.heap.size + 1 < w.heap.size + 2 by omega))
        have HSR := hide (Qp.ret3 (unhide HZ9) (.int .i64 7) (.int .i64 (0)) (.slice (some ⟨w8.heap.size + 1, 0, none⟩) 1 1))
        clear hk9
        go_wp2_with fail
        generalize (w8.setCell ⟨w.heap.size + 1, 2, none⟩ (.slice (some ⟨w8.heap.size + 1, 0, none⟩) 1 1)) = w9 at *
        obtain ⟨⟨s0, s1, s2⟩, hsS, hbS, haS, hkS⟩ := unhide HSR
        generalize (((w9.setCell ⟨w.heap.size, 0, none⟩ (.int .i64 7)).setCell ⟨w.heap.size, 1, none⟩ (.int .i64 (0))).setCell ⟨w.heap.size, 2, none⟩ (.slice (some ⟨w8.heap.size + 1, 0, none⟩) 1 1)) = S at *
        have hs9 := unhide HS9
        have hsS8 : w8.heap.size = S.heap.size := by omega
        rw [hsS8] at s2 ⊢
        have hbV1 := (Below.refl S.heap.size S).alloc (Nat.le_refl _) (Obj.cells #[.int .i64 E.k, .int .i64 E.n, .slice E.args.ad E.args.len E.args.cap] 24)
        have hsV1 : (S.alloc (Obj.cells #[.int .i64 E.k, .int .i64 E.n, .slice E.args.ad E.args.len E.args.cap] 24)).heap.size = S.heap.size + 1 := by simp
        have hbV2 := hbV1.alloc hbV1.size (Obj.cells #[.int .i64 E.k, .int .i64 E.n, .slice E.args.ad E.args.len E.args.cap] 24)
        have s3 : w.heap.size < S.heap.size := by omega
        have s4 : w.heap.size < S.heap.size + 1 := by omega
        refine bodyPost_ret (v := .agg #[.int .i64 7, .int .i64 (0), .slice (some ⟨S.heap.size + 1, 0, none⟩) 1 1]) (by simp [results, Tryz.results34, go_sem, s0, s1, s2, s3, s4]) rfl ?_
        refine ⟨⟨7, 0, ⟨some ⟨S.heap.size + 1, 0, none⟩, 1, 1⟩⟩, j8, g8, rfl, ((unhide HR9).kept (hkS bp (by omega))).below hbV2, ((unhide HB9).below hbS).below (hbV2.mono (by omega)), hj8, ?_⟩
        have hnr := unhide HNR
        have hst8 := unhide HST8
        rw [unhide HO2]
        cases hres : (if 0 < Qk.most (((7 : Nat) : Nat) : Int) then Qp.num l (Qk.least (((7 : Nat) : Nat) : Int)) (i + 1) else .ok (0, i + 1)) with
        | error j' =>
          rw [hres] at hnr
          have hg1 : false = true := hnr.1
          have hor : Qp.orec rec (i + 1) false = .error (i + 1) := by rw [hg1]; rfl
          rw [hor] at hst8
          exact ⟨hst8.1, hst8.2.trans hnr.2⟩
        | ok p =>
          obtain ⟨m, j'⟩ := p
          rw [hres] at hnr
          obtain ⟨hg1, hj1, hm1⟩ := hnr
          have hor : Qp.orec rec (i + 1) false = rec j' := by rw [hg1, hj1]; rfl
          rw [hor] at hst8
          simp only [show Qk.argsN (((7 : Nat) : Nat) : Int) = 1 from rfl, if_true]
          cases hrj : rec j' with
          | error j'' => rw [hrj] at hst8; exact hst8
          | ok px =>
            obtain ⟨x, j''⟩ := px
            rw [hrj] at hst8
            obtain ⟨hg8, hj9, hro⟩ := hst8
            have hr1 := ((((hro.mono (show w.heap.size + 2 ≤ U.heap.size by omega)).ab (unhide HA9)).ab (haS _ (by omega))).ab (Qp.Ab.of_below hbV2))
            have hL1 := Qp.lies_new (S.alloc (Obj.cells #[.int .i64 E.k, .int .i64 E.n, .slice E.args.ad E.args.len E.args.cap] 24)) E
            rw [hsV1] at hL1
            subst hm1
            exact ⟨hg8, hj9, (Qp.RO.one hL1 (by omega) hr1).mono (by omega)⟩

set_option maxRecDepth 100000 in
set_option maxHeartbeats 3200000 in
theorem Ask_k14 (l : List Qp.T) (ta : Option Addr) (c bp i a d : Nat) (e : Int) (w : World) (hp : Qp.Rd w bp ta l.length c (i : Nat) e false) (hr : Qp.RT w ta l) (hne : ∀ b o, ta = some ⟨b, o, none⟩ → b ≠ bp) (hf : l.length ≤ 10000) (hg : Qp.Good l) (hi : i ≤ l.length) (ha : a ≤ 60) (hin : Qp.inW [⟨#[40]⟩] (Qp.tk l i).t = false)
    (rec : Nat → Except Nat (Qk.AT d × Nat)) (h60 : a = 60 → ∀ k, rec k = .error k)
    (HQ : a < 60 → ∀ (k : Nat) (f : Bool) (W : World), Qp.Rd W bp ta l.length c (k : Nat) e f → Qp.RT W ta l → k ≤ l.length → Calls Tryz.prog 34 #[.pointer (some ⟨bp, 0, none⟩), .int .i64 ((a : Int) + 1)] W (Qp.AskP bp ta l c e W (Qp.orec rec k f)))
    (hfd : Qp.find Qp.ones (Qp.tk l i).t = some 14) :
    Calls Tryz.prog 34 #[.pointer (some ⟨bp, 0, none⟩), .int .i64 (a : Nat)] w (Qp.AskP bp ta l c e w (Qp.wordF l rec i)) := by
  have HR := hide (fun (W : World) (hb : Qk.But1 bp w.heap.size w W) => hr.but hne hb)
  have HTT := hide (fun (k : Nat) (f : Bool) (hk : k ≤ l.length) (W : World) (h1 : Qp.Rd W bp ta l.length c (k : Nat) e f) (h2 : Qp.RT W ta l) => Text_any l ta c bp k e f W h1 h2 hf (by omega))
  have HND := hide (fun (s : ByteArray) (k : Nat) (f : Bool) (hk : k ≤ l.length) (W : World) (h1 : Qp.Rd W bp ta l.length c (k : Nat) e f) (h2 : Qp.RT W ta l) => Need_any l s ta c bp k e f W h1 h2 hf (by omega))
  have HNU := hide (fun (k : Nat) (f : Bool) (hk : k ≤ l.length) (W : World) (h1 : Qp.Rd W bp ta l.length c (k : Nat) e f) (h2 : Qp.RT W ta l) => Number_any l ta c bp k e f W h1 h2 hf (by omega) hg)
  have HT := hide (fun (W : World) => (unhide HTT) i false hi W)
  have HGD := hide hg
  have hop := Qp.rt_in hin
  rw [Qp.toList_40] at hop
  have HQH := hide (And.intro h60 HQ)
  have HP := hide hp
  have hblt := hp.lt
  obtain ⟨o, ho⟩ : ∃ o, Qp.wordF l rec i = o := ⟨_, rfl⟩
  rw [ho]
  have HO := hide ho
  have HFD := hide hfd
  clear HQ hp hr hin ho h60 hg
  go_enter Tryz.func34, Tryz.ntmps34
  go_wp2_with fail
  have hLA : Qp.Lp w ((w.alloc (Obj.cells #[.int .i64 0, .int .i64 0, .slice none 0 0] 24)).alloc (Obj.cells #[.int .i64 0, .int .i64 0, .slice none 0 0] 24)) ((w.alloc (Obj.cells #[.int .i64 0, .int .i64 0, .slice none 0 0] 24)).alloc (Obj.cells #[.int .i64 0, .int .i64 0, .slice none 0 0] 24)) bp ta l.length c i e false 0 :=
    have hb := ((Below.refl w.heap.size w).alloc (Nat.le_refl _) (Obj.cells #[.int .i64 0, .int .i64 0, .slice none 0 0] 24)).alloc (by simp) (Obj.cells #[.int .i64 0, .int .i64 0, .slice none 0 0] 24)
    ⟨⟨by go_simp, by go_simp, by go_simp⟩, ⟨⟨.int .i64 0, by go_simp⟩, ⟨.int .i64 0, by go_simp⟩, ⟨.slice none 0 0, by go_simp⟩, fun i => by go_simp⟩, ⟨⟨.int .i64 0, by go_simp⟩, ⟨.int .i64 0, by go_simp⟩, ⟨.slice none 0 0, by go_simp⟩, fun i => by go_simp⟩, (unhide HP).below hb, (Qk.But1.refl bp w.heap.size w).below hb, Qp.Ab.refl _ _⟩
  have hsA : ((w.alloc (Obj.cells #[.int .i64 0, .int .i64 0, .slice none 0 0] 24)).alloc (Obj.cells #[.int .i64 0, .int .i64 0, .slice none 0 0] 24)).heap.size = w.heap.size + 2 := by simp
  have HLA := hide hLA
  clear hLA
  generalize ((w.alloc (Obj.cells #[.int .i64 0, .int .i64 0, .slice none 0 0] 24)).alloc (Obj.cells #[.int .i64 0, .int .i64 0, .slice none 0 0] 24)) = WA at *
  refine ((unhide HTT) i false hi _ (unhide HLA).r ((unhide HR) _ (unhide HLA).b)).mono ?_
  rintro r w0 ⟨rfl, hb0⟩
  have HL0 := hide (show Qp.Lp w w0 w0 bp ta l.length c i e false (Qp.fnd false (Qp.rt l i false) 1) from ⟨((unhide HLA).below hb0).q, ((unhide HLA).below hb0).y, ((unhide HLA).below hb0).z, ((unhide HLA).below hb0).r, ((unhide HLA).below hb0).b, Qp.Ab.refl _ _⟩)
  clear hb0
  go_wp2_with fail
  go_loopw [9] (fun v wr => ∃ k : Nat, 1 ≤ k ∧ k ≤ 15 ∧ v = .int .i64 ((k : Nat) : Int) ∧ Qp.Lp w w0 wr bp ta l.length c (i) e false (Qp.fnd false (Qp.rt l (i) false) k)) (fun v _ => 15 - (intOf v).toNat)
  case atStart => exact ⟨1, Nat.le_refl _, by decide, rfl, unhide HL0⟩
  case round =>
    obtain ⟨k, hk1, hk2, rfl, hL⟩ := hrel
    have HL := hide hL
    clear hL
    by_cases hk : k ≤ 14
    · have hk3 : (k : Int) ≤ 14 := by omega
      obtain ⟨u0, u1, u2⟩ := (unhide HL).q
      have uf := (unhide HL).y.f 0
      have hz := (unhide HL).lt
      go_wp2_with fail
      refine (AskArgs_any ((k : Nat) : Int) _).mono ?_
      rintro r w1 ⟨rfl, hw1⟩
      obtain rfl : wr = w1 := hw1.symm
      by_cases hA : Qk.argsN ((k : Nat) : Int) < 2
      · have hA1 : ((Qk.argsN ((k : Nat) : Int) : Nat) : Int) < 2 := by omega
        have hA2 : decide (Qk.argsN ((k : Nat) : Int) = 2) = false := by simp; omega
        go_wp2_with fail
        refine ((unhide HT) _ (unhide HL).r ((unhide HR) _ (unhide HL).b)).mono ?_
        rintro r w2 ⟨rfl, hb2⟩
        have HL2 := hide ((unhide HL).below hb2)
        clear hb2
        go_wp2_with fail
        refine (askWord_any ((k : Nat) : Int) (Qk.isK_nat k (by omega) (by omega)) _).mono ?_
        rintro r w3 ⟨rfl, hb3⟩
        have HL3 := hide ((unhide HL2).below hb3)
        clear hb3 u0 u1 u2 uf hz
        obtain ⟨u0, u1, u2⟩ := (unhide HL3).q
        have uf := (unhide HL3).y.f 0
        have hz := (unhide HL3).lt
        cases htx : ((Qp.rt l (i) false).toList == (Qk.word ((k : Nat) : Int)).toList)
        · have HN := hide (show Qp.fnd false (Qp.rt l (i) false) (k + 1) = Qp.fnd false (Qp.rt l (i) false) k by
            show (if (decide (Qk.argsN ((k : Nat) : Int) = 2) == false && (decide (1 ≤ k) && ((Qp.rt l (i) false).toList == (Qk.word ((k : Nat) : Int)).toList))) = true then k else _) = _
            rw [htx]; simp)
          go_wp2_with fail
          go_round
          case rel => exact ⟨k + 1, by omega, by omega, by go_num, by rw [unhide HN]; exact unhide HL3⟩
          case measure => simp [intOf]; omega
        · have HN := hide (show Qp.fnd false (Qp.rt l (i) false) (k + 1) = k by
            show (if (decide (Qk.argsN ((k : Nat) : Int) = 2) == false && (decide (1 ≤ k) && ((Qp.rt l (i) false).toList == (Qk.word ((k : Nat) : Int)).toList))) = true then k else _) = _
            rw [htx, hA2, decide_eq_true (show 1 ≤ k by omega)]; rfl)
          go_wp2_with fail
          go_round
          case rel => exact ⟨k + 1, by omega, by omega, by go_num, by rw [unhide HN]; exact (unhide HL3).set hblt k⟩
          case measure => simp [intOf]; omega
      · have hA1 : ¬ ((Qk.argsN ((k : Nat) : Int) : Nat) : Int) < 2 := by omega
        have hA2 : decide (Qk.argsN ((k : Nat) : Int) = 2) = true := by have := Qk.args_two (k := ((k : Nat) : Int)); simp; omega
        have HN := hide (show Qp.fnd false (Qp.rt l (i) false) (k + 1) = Qp.fnd false (Qp.rt l (i) false) k by
          show (if (decide (Qk.argsN ((k : Nat) : Int) = 2) == false && (decide (1 ≤ k) && ((Qp.rt l (i) false).toList == (Qk.word ((k : Nat) : Int)).toList))) = true then k else _) = _
          rw [hA2]; rfl)
        go_wp2_with fail
        go_round
        case rel => exact ⟨k + 1, by omega, by omega, by go_num, by rw [unhide HN]; exact unhide HL⟩
        case measure => simp [intOf]; omega
    · have hk3 : ¬ (k : Int) ≤ 14 := by omega
      obtain rfl : k = 15 := by omega
      have hK : Qp.fnd false (Qp.rt l i false) 15 = 14 := by
        have e := (Qp.fnd_is (Qp.tk l i).t).1
        rw [hfd] at e
        exact e
      have HL2 := hide (show Qp.Lp w w0 wr bp ta l.length c i e false 14 by rw [← hK]; exact unhide HL)
      have HO2 := hide (show o = _ from (unhide HO).symm.trans (Qp.wordF_at hfd))
      have hjl : i < l.length := by
        by_cases hh : i < l.length
        · exact hh
        · have := (Qp.find_some hfd).1
          rw [Qp.tk_none (by omega)] at this
          exact absurd (congrArg ByteArray.toList this).symm (by rw [Qp.empty_eq]; exact Qp.word_ne (by decide) (by decide))
      have HNW := hide (show Qp.nd l (Qk.word 14) i false = (i + 1, false) from Qp.nd_word hfd)
      clear HL hK hfd HFD
      obtain ⟨u0, u1, u2⟩ := (unhide HL2).q
      have hzr := (unhide HL2).lt
      go_wp2_with fail
      refine (askWord_any 14 rfl _).mono ?_
      rintro r w3 ⟨rfl, hb3⟩
      have HL3 := hide ((unhide HL2).below hb3)
      have hs3 := hb3.size
      clear hb3 u0 u1 u2
      go_wp2_with fail
      refine ((unhide HND) (Qk.word 14) i false hi w3 (unhide HL3).r ((unhide HR) _ (unhide HL3).b)).mono ?_
      rw [unhide HNW]
      rintro r V ⟨rfl, hrdV, hbV⟩
      have HRV := hide hrdV
      have HQV := hide (show Qk.Lies V (w.heap.size + 1) 0 ⟨14, 0, ⟨none, 0, 0⟩⟩ ∧ Qp.Z3 V (w.heap.size + 1) ∧ Qp.Z3 V w.heap.size from And.intro ((unhide HL3).q.but hbV (by omega)) (And.intro ((unhide HL3).y.but hbV (by omega)) ((unhide HL3).z.but hbV (by omega))))
      have HBV := hide ((unhide HL3).b.trans hbV (unhide HL3).b.size)
      have hsV := hbV.size
      have hzV := (unhide HQV).2.1.lt
      clear hrdV hbV
      obtain ⟨u0, u1, u2⟩ := (unhide HQV).1
      go_wp2_with fail
      clear u0 u1 u2
      have hnb := Qp.rnum_bound (unhide HGD) (i + 1) false
      have hjU : (Qp.rnum l (i + 1) false).2.1 ≤ l.length := Qp.rnum_le (by omega)
      refine ((unhide HNU) (i + 1) false (by omega) V (unhide HRV) ((unhide HR) _ (unhide HBV))).mono ?_
      rintro r V2 ⟨rfl, hrdV2, hbV2⟩
      have HRV2 := hide hrdV2
      have HQV2 := hide (And.intro ((unhide HQV).1.but hbV2 (by omega)) (And.intro ((unhide HQV).2.1.but hbV2 (by omega)) ((unhide HQV).2.2.but hbV2 (by omega))))
      have HBV2 := hide ((unhide HBV).trans hbV2 (unhide HBV).size)
      have hsV2 := hbV2.size
      clear hrdV2 hbV2
      generalize hrn : Qp.rnum l (i + 1) false = R at *
      obtain ⟨M, J, G⟩ := R
      replace hnb : 0 ≤ M ∧ M < 100000000 := hnb
      obtain ⟨hn0, hn1⟩ := hnb
      have hkU : ∀ q, q ≠ w.heap.size + 1 → (V2.setCell ⟨w.heap.size + 1, 1, none⟩ (.int .i64 (M))).heap[q]? = V2.heap[q]? := fun q hq => Below.heap_setCell _ _ _ _ hq
      have HQU := hide (And.intro ((unhide HQV2).1.set1 (M)) (And.intro ((unhide HQV2).2.1.set 1 (.int .i64 (M))) ((unhide HQV2).2.2.kept (hkU _ (by omega)))))
      have HRU := hide ((unhide HRV2).kept (hkU bp (by omega)))
      have HBU := hide ((unhide HBV2).below (Qp.set_below (W := V2) (b := w.heap.size + 1) (o := 1) (.int .i64 (M)) (show w.heap.size ≤ w.heap.size + 1 by omega)))
      have hsU : (V2.setCell ⟨w.heap.size + 1, 1, none⟩ (.int .i64 (M))).heap.size = V2.heap.size := by simp [World.setCell]
      obtain ⟨u0, u1, u2⟩ := (unhide HQV2).1
      have uf := (unhide HQV2).2.1.f 1
      have hzU := (unhide HQV2).2.1.lt
      clear hkU
      go_wp2_with fail
      clear u0 u1 u2 uf
      generalize (V2.setCell ⟨w.heap.size + 1, 1, none⟩ (.int .i64 (M))) = U at *
      have HNR := hide (show Qp.NR (if 0 < Qk.most (((14 : Nat) : Nat) : Int) then Qp.num l (Qk.least (((14 : Nat) : Nat) : Int)) (i + 1) else .ok (0, i + 1)) M J G by
        have := Qp.NR.dig l (i + 1)
        rw [hrn] at this
        exact this)
      refine (AskArgs_any 14 U).mono ?_
      rintro r w7 ⟨rfl, hw7⟩
      obtain rfl : U = w7 := hw7.symm
      rw [show Qk.argsN 14 = 1 from rfl]
      obtain ⟨y0, y1, y2⟩ := (unhide HQU).1
      by_cases ha6 : a = 60
      · have hrec := (unhide HQH).1 ha6
        have ha7 : ((a : Int) == 60) = true := by rw [ha6]; rfl
        obtain ⟨v0, m0⟩ := (unhide HQU).2.2.c0
        obtain ⟨v1, m1⟩ := (unhide HQU).2.2.c1
        obtain ⟨v2, m2⟩ := (unhide HQU).2.2.c2
        have z0 := (unhide HQU).2.2.f 0
        have z1 := (unhide HQU).2.2.f 1
        have z2 := (unhide HQU).2.2.f 2
        obtain ⟨r0, r1, r2, r3, rf1, rf3⟩ := unhide HRU
        have hzU2 := (unhide HQU).2.1.lt
        have hneq : bp ≠ w.heap.size := by omega
        have hneq2 : bp ≠ w.heap.size + 1 := by omega
        have HSR := hide (Qp.ret3 ((unhide HQU).2.2.kept (show (U.setCell ⟨bp, 3, none⟩ (.bool true)).heap[w.heap.size]? = U.heap[w.heap.size]? from Below.heap_setCell _ _ _ _ (show w.heap.size ≠ bp by omega))) (.int .i64 14) (.int .i64 (M)) (.slice none 0 0))
        have HRF := hide (unhide HRU).fail
        have HBF := hide ((unhide HBU).set (o := 3) (.bool true))
        clear ha6
        go_wp2_with fail
        obtain ⟨⟨s0, s1, s2⟩, hsS, hbS, haS, hkS⟩ := unhide HSR
        refine bodyPost_ret (v := .agg #[.int .i64 14, .int .i64 (M), .slice none 0 0]) (by simp [results, Tryz.results34, go_sem, s0, s1, s2]) rfl ?_
        refine ⟨⟨14, M, ⟨none, 0, 0⟩⟩, J, true, rfl, (unhide HRF).kept (hkS bp (by omega)), (unhide HBF).below hbS, by omega, ?_⟩
        have hnr := unhide HNR
        rw [unhide HO2]
        cases hres : (if 0 < Qk.most (((14 : Nat) : Nat) : Int) then Qp.num l (Qk.least (((14 : Nat) : Nat) : Int)) (i + 1) else .ok (0, i + 1)) with
        | error j' => rw [hres] at hnr; exact ⟨rfl, hnr.2⟩
        | ok p =>
          obtain ⟨m, j'⟩ := p
          rw [hres] at hnr
          obtain ⟨hg1, hj1, hm1⟩ := hnr
          simp only [show Qk.argsN (((14 : Nat) : Nat) : Int) = 1 from rfl, if_true, hrec j']
          exact ⟨trivial, hj1⟩
      · have ha7 : ((a : Int) == 60) = false := by simp; omega
        have HQ1 := hide ((unhide HQH).2 (by omega))
        go_wp2_with fail
        refine ((unhide HQ1) (J) G U (unhide HRU) ((unhide HR) _ (unhide HBU)) (by omega)).mono ?_
        rintro r w8 ⟨E, j8, g8, rfl, hrd8, hb8, hj8, hst8⟩
        have HST8 := hide (show (match Qp.orec rec (J) G with | .error j' => g8 = true ∧ j8 = j' | .ok (x, j') => g8 = false ∧ j8 = j' ∧ Qp.RO U.heap.size w8 d E x) from hst8)
        have HR8 := hide hrd8
        have HQ8 := hide (And.intro ((unhide HQU).1.but hb8 (by omega)) (And.intro ((unhide HQU).2.1.but hb8 (by omega)) ((unhide HQU).2.2.but hb8 (by omega))))
        have HB8 := hide ((unhide HBU).trans hb8 (unhide HBU).size)
        have hs8 := hb8.size
        have hzU3 := (unhide HQU).2.1.lt
        clear hrd8 hb8 hst8 y0 y1 y2
        obtain ⟨y0, y1, y2⟩ := (unhide HQ8).1
        have yf := (unhide HQ8).2.1.f 2
        have hy8 := (unhide HQ8).2.1.lt
        obtain ⟨v0, m0⟩ := (unhide HQ8).2.2.c0
        obtain ⟨v1, m1⟩ := (unhide HQ8).2.2.c1
        obtain ⟨v2, m2⟩ := (unhide HQ8).2.2.c2
        have z0 := (unhide HQ8).2.2.f 0
        have z1 := (unhide HQ8).2.2.f 1
        have z2 := (unhide HQ8).2.2.f 2
        have hneA : w.heap.size ≠ w.heap.size + 1 := by omega
        have hneB : w.heap.size + 1 ≠ w.heap.size := by omega
        have hltw := (unhide HQ8).2.2.lt
        have hk9 : ∀ q, q ≠ w.heap.size + 1 → (w8.setCell ⟨w.heap.size + 1, 2, none⟩ (.slice (some ⟨w8.heap.size + 1, 0, none⟩) 1 1)).heap[q]? = w8.heap[q]? := fun q hq => Below.heap_setCell _ _ _ _ hq
        have HS9 := hide (show (w8.setCell ⟨w.heap.size + 1, 2, none⟩ (.slice (some ⟨w8.heap.size + 1, 0, none⟩) 1 1)).heap.size = w8.heap.size by simp [World.setCell])
        have HZ9 := hide ((unhide HQ8).2.2.kept (hk9 w.heap.size hneA))
        have HR9 := hide ((unhide HR8).kept (hk9 bp (by omega)))
        have HB9 := hide ((unhide HB8).below (Qp.set_below (W := w8) (b := w.heap.size + 1) (o := 2) (.slice (some ⟨w8.heap.size + 1, 0, none⟩) 1 1) (show w.heap.size ≤ w.heap.size + 1 by omega)))
        have HA9 := hide (Qp.Ab.set (o := 2) w8 (.slice (some ⟨w8.heap.size + 1, 0, none⟩) 1 1) (show w.heap.size + 1 < w.heap.size + 2 by omega))
        have HSR := hide (Qp.ret3 (unhide HZ9) (.int .i64 14) (.int .i64 (M)) (.slice (some ⟨w8.heap.size + 1, 0, none⟩) 1 1))
        clear hk9
        go_wp2_with fail
        generalize (w8.setCell ⟨w.heap.size + 1, 2, none⟩ (.slice (some ⟨w8.heap.size + 1, 0, none⟩) 1 1)) = w9 at *
        obtain ⟨⟨s0, s1, s2⟩, hsS, hbS, haS, hkS⟩ := unhide HSR
        generalize (((w9.setCell ⟨w.heap.size, 0, none⟩ (.int .i64 14)).setCell ⟨w.heap.size, 1, none⟩ (.int .i64 (M))).setCell ⟨w.heap.size, 2, none⟩ (.slice (some ⟨w8.heap.size + 1, 0, none⟩) 1 1)) = S at *
        have hs9 := unhide HS9
        have hsS8 : w8.heap.size = S.heap.size := by omega
        rw [hsS8] at s2 ⊢
        have hbV1 := (Below.refl S.heap.size S).alloc (Nat.le_refl _) (Obj.cells #[.int .i64 E.k, .int .i64 E.n, .slice E.args.ad E.args.len E.args.cap] 24)
        have hsV1 : (S.alloc (Obj.cells #[.int .i64 E.k, .int .i64 E.n, .slice E.args.ad E.args.len E.args.cap] 24)).heap.size = S.heap.size + 1 := by simp
        have hbV2 := hbV1.alloc hbV1.size (Obj.cells #[.int .i64 E.k, .int .i64 E.n, .slice E.args.ad E.args.len E.args.cap] 24)
        have s3 : w.heap.size < S.heap.size := by omega
        have s4 : w.heap.size < S.heap.size + 1 := by omega
        refine bodyPost_ret (v := .agg #[.int .i64 14, .int .i64 (M), .slice (some ⟨S.heap.size + 1, 0, none⟩) 1 1]) (by simp [results, Tryz.results34, go_sem, s0, s1, s2, s3, s4]) rfl ?_
        refine ⟨⟨14, M, ⟨some ⟨S.heap.size + 1, 0, none⟩, 1, 1⟩⟩, j8, g8, rfl, ((unhide HR9).kept (hkS bp (by omega))).below hbV2, ((unhide HB9).below hbS).below (hbV2.mono (by omega)), hj8, ?_⟩
        have hnr := unhide HNR
        have hst8 := unhide HST8
        rw [unhide HO2]
        cases hres : (if 0 < Qk.most (((14 : Nat) : Nat) : Int) then Qp.num l (Qk.least (((14 : Nat) : Nat) : Int)) (i + 1) else .ok (0, i + 1)) with
        | error j' =>
          rw [hres] at hnr
          have hg1 : G = true := hnr.1
          have hor : Qp.orec rec (J) G = .error (J) := by rw [hg1]; rfl
          rw [hor] at hst8
          exact ⟨hst8.1, hst8.2.trans hnr.2⟩
        | ok p =>
          obtain ⟨m, j'⟩ := p
          rw [hres] at hnr
          obtain ⟨hg1, hj1, hm1⟩ := hnr
          have hor : Qp.orec rec (J) G = rec j' := by rw [hg1, hj1]; rfl
          rw [hor] at hst8
          simp only [show Qk.argsN (((14 : Nat) : Nat) : Int) = 1 from rfl, if_true]
          cases hrj : rec j' with
          | error j'' => rw [hrj] at hst8; exact hst8
          | ok px =>
            obtain ⟨x, j''⟩ := px
            rw [hrj] at hst8
            obtain ⟨hg8, hj9, hro⟩ := hst8
            have hr1 := ((((hro.mono (show w.heap.size + 2 ≤ U.heap.size by omega)).ab (unhide HA9)).ab (haS _ (by omega))).ab (Qp.Ab.of_below hbV2))
            have hL1 := Qp.lies_new (S.alloc (Obj.cells #[.int .i64 E.k, .int .i64 E.n, .slice E.args.ad E.args.len E.args.cap] 24)) E
            rw [hsV1] at hL1
            subst hm1
            exact ⟨hg8, hj9, (Qp.RO.one hL1 (by omega) hr1).mono (by omega)⟩

end Go.Proofs.YtfhlnelgnnkeoaaGreatDoor
