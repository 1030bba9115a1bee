/-
  What the document's Reader looks for, and its Ask where it has failed. By the verifier.
-/
import Derived.Test.YtfhlnelgnnkeoaaGreatDoorQU2
import Derived.Test.YtfhlnelgnnkeoaaGreatDoorQRef
import Derived.Test.YtfhlnelgnnkeoaaGreatDoorQWord
namespace Go.Proofs.YtfhlnelgnnkeoaaGreatDoor
open Go.RowKit
set_option linter.unusedVariables false

theorem Qk.args_two {k : Int} : Qk.argsN k ≤ 2 := by unfold Qk.argsN; split <;> (try split) <;> omega
/-- The kind of a word, among those below k: of those with two parts, or of the others. -/
def Qp.fnd (two : Bool) (t : ByteArray) : Nat → Nat
  | 0 => 0
  | k + 1 => if (decide (Qk.argsN ((k : Nat) : Int) = 2) == two && (decide (1 ≤ k) && (t.toList == (Qk.word ((k : Nat) : Int)).toList))) = true then k else Qp.fnd two t k
theorem Qp.fnd_none (two : Bool) (t : ByteArray) (h : ∀ k : Nat, 1 ≤ k → k ≤ 14 → (t.toList == (Qk.word ((k : Nat) : Int)).toList) = false) : ∀ n, n ≤ 15 → Qp.fnd two t n = 0
  | 0, _ => rfl
  | k + 1, hn => by
    unfold Qp.fnd
    rw [if_neg ?_]
    · exact Qp.fnd_none two t h k (by omega)
    · by_cases h1 : 1 ≤ k
      · rw [h k h1 (by omega)]; simp
      · simp [h1]
theorem Qp.find_none (t : ByteArray) (ks : List Nat) (hks : ∀ k ∈ ks, 1 ≤ k ∧ k ≤ 14) (h : ∀ k : Nat, 1 ≤ k → k ≤ 14 → (t.toList == (Qk.word ((k : Nat) : Int)).toList) = false) : Qp.find ks t = none := by
  unfold Qp.find
  rw [List.find?_eq_none]
  intro k hk
  rw [h k (hks k hk).1 (hks k hk).2]
  decide
theorem Qp.empty_no : ∀ k : Nat, 1 ≤ k → k ≤ 14 → ((⟨#[]⟩ : ByteArray).toList == (Qk.word ((k : Nat) : Int)).toList) = false := by
  have : ∀ k : Fin 15, 1 ≤ k.val → ((⟨#[]⟩ : ByteArray).data.toList == (Qk.word ((k.val : Nat) : Int)).data.toList) = false := by decide
  intro k h1 h2
  rw [ByteArray.toList_eq, ByteArray.toList_eq]
  exact this ⟨k, by omega⟩ h1
theorem Qp.fnd_words : ∀ j : Fin 15, 1 ≤ j.val → Qp.fnd false (Qk.word ((j.val : Nat) : Int)) 15 = (Qp.find Qp.ones (Qk.word ((j.val : Nat) : Int))).getD 0 ∧ Qp.fnd true (Qk.word ((j.val : Nat) : Int)) 14 = (Qp.find Qp.twos (Qk.word ((j.val : Nat) : Int))).getD 0 := by
  simp only [Qp.fnd, Qp.find, ByteArray.toList_eq]
  decide
theorem Qp.fnd_is (t : ByteArray) : Qp.fnd false t 15 = (Qp.find Qp.ones t).getD 0 ∧ Qp.fnd true t 14 = (Qp.find Qp.twos t).getD 0 := by
  by_cases h : ∃ k : Nat, 1 ≤ k ∧ k ≤ 14 ∧ (t.toList == (Qk.word ((k : Nat) : Int)).toList) = true
  · obtain ⟨k, h1, h2, h3⟩ := h
    rw [Qp.ba_ext h3]
    exact Qp.fnd_words ⟨k, by omega⟩ h1
  · have hn : ∀ k : Nat, 1 ≤ k → k ≤ 14 → (t.toList == (Qk.word ((k : Nat) : Int)).toList) = false := fun k h1 h2 => by
      cases hc : (t.toList == (Qk.word ((k : Nat) : Int)).toList)
      · rfl
      · exact absurd ⟨k, h1, h2, hc⟩ h
    rw [Qp.fnd_none false t hn 15 (by omega), Qp.fnd_none true t hn 14 (by omega), Qp.find_none t Qp.ones (by decide) hn, Qp.find_none t Qp.twos (by decide) hn]
    exact ⟨rfl, rfl⟩

/-- What holds at the head of a loop of Ask: its boxes, the reader, what was made behind them. -/
structure Qp.Lp (w W0 wr : World) (bp : Nat) (ta : Option Addr) (n c i : Nat) (e : Int) (f : Bool) (K : Nat) : Prop where
  q : Qk.Lies wr (w.heap.size + 1) 0 ⟨((K : Nat) : Int), 0, ⟨none, 0, 0⟩⟩
  y : Qp.Z3 wr (w.heap.size + 1)
  z : Qp.Z3 wr w.heap.size
  r : Qp.Rd wr bp ta n c (i : Nat) e f
  b : Qk.But1 bp w.heap.size w wr
  a : Qp.Ab (w.heap.size + 2) W0 wr
theorem Qp.Lp.below {w W0 wr wr' : World} {bp : Nat} {ta : Option Addr} {n c i : Nat} {e : Int} {f : Bool} {K : Nat} (h : Qp.Lp w W0 wr bp ta n c i e f K) (hb : Below wr.heap.size wr wr') : Qp.Lp w W0 wr' bp ta n c i e f K :=
  ⟨h.q.bel hb, h.y.later hb, h.z.later hb, h.r.below hb, h.b.below (hb.mono h.b.size), h.a.trans (Qp.Ab.of_below hb)⟩
theorem Qp.Lp.set {w W0 wr : World} {bp : Nat} {ta : Option Addr} {n c i : Nat} {e : Int} {f : Bool} {K : Nat} (h : Qp.Lp w W0 wr bp ta n c i e f K) (hbp : bp < w.heap.size) (k : Nat) : Qp.Lp w W0 (wr.setCell ⟨w.heap.size + 1, 0, none⟩ (.int .i64 ((k : Nat) : Int))) bp ta n c i e f k := by
  have hk : ∀ q, q ≠ w.heap.size + 1 → (wr.setCell ⟨w.heap.size + 1, 0, none⟩ (.int .i64 ((k : Nat) : Int))).heap[q]? = wr.heap[q]? := fun q hq => Below.heap_setCell _ _ _ _ hq
  refine ⟨⟨World.cell?_setCell_same _ _ _ h.q.c0, (World.cell?_setCell_other _ _ _ _ (by intro hh; have := congrArg Addr.off hh; simp at this)).trans h.q.c1, (World.cell?_setCell_other _ _ _ _ (by intro hh; have := congrArg Addr.off hh; simp at this)).trans h.q.c2⟩, h.y.set 0 _, h.z.kept (hk _ (by omega)), h.r.kept (hk _ (by omega)), h.b.below (Qp.set_below _ (by omega)), h.a.trans (Qp.Ab.set _ _ (by omega))⟩
theorem Qp.Lp.lt {w W0 wr : World} {bp : Nat} {ta : Option Addr} {n c i : Nat} {e : Int} {f : Bool} {K : Nat} (h : Qp.Lp w W0 wr bp ta n c i e f K) : w.heap.size + 1 < wr.heap.size := h.y.lt

set_option maxRecDepth 100000 in
set_option maxHeartbeats 1600000 in
theorem Ask_failed (l : List Qp.T) (ta : Option Addr) (c bp i : Nat) (a e : Int) (w : World) (hp : Qp.Rd w bp ta l.length c (i : Nat) e true) (hr : Qp.RT w ta l) (hne : ∀ b o, ta = some ⟨b, o, none⟩ → b ≠ bp) (hf : l.length ≤ 10000) (hi : i ≤ 10000) :
    Calls Tryz.prog 34 #[.pointer (some ⟨bp, 0, none⟩), .int .i64 a] w fun r w' => (∃ E : Qk.E, r = .returned (.agg #[.int .i64 E.k, .int .i64 E.n, .slice E.args.ad E.args.len E.args.cap])) ∧ Qp.Rd w' bp ta l.length c (i : Nat) e true ∧ Qk.But1 bp w.heap.size w w' := by
  have HR := hide (fun (W : World) (hb : Qk.But1 bp w.heap.size w W) => hr.but hne hb)
  have HT := hide (fun (W : World) (h1 : Qp.Rd W bp ta l.length c (i : Nat) e true) (h2 : Qp.RT W ta l) => Text_any l ta c bp i e true W h1 h2 hf hi)
  have HP := hide hp
  have hblt := hp.lt
  clear hp hr
  go_enter Tryz.func34, Tryz.ntmps34
  go_wp2_with fail
  have hLA : Qp.Lp w ((w.alloc (Obj.cells #[.int .i64 0, .int .i64 0, .slice none 0 0] 24)).alloc (Obj.cells #[.int .i64 0, .int .i64 0, .slice none 0 0] 24)) ((w.alloc (Obj.cells #[.int .i64 0, .int .i64 0, .slice none 0 0] 24)).alloc (Obj.cells #[.int .i64 0, .int .i64 0, .slice none 0 0] 24)) bp ta l.length c i e true 0 :=
    have hb := ((Below.refl w.heap.size w).alloc (Nat.le_refl _) (Obj.cells #[.int .i64 0, .int .i64 0, .slice none 0 0] 24)).alloc (by simp) (Obj.cells #[.int .i64 0, .int .i64 0, .slice none 0 0] 24)
    ⟨⟨by go_simp, by go_simp, by go_simp⟩, ⟨⟨.int .i64 0, by go_simp⟩, ⟨.int .i64 0, by go_simp⟩, ⟨.slice none 0 0, by go_simp⟩, fun i => by go_simp⟩, ⟨⟨.int .i64 0, by go_simp⟩, ⟨.int .i64 0, by go_simp⟩, ⟨.slice none 0 0, by go_simp⟩, fun i => by go_simp⟩, (unhide HP).below hb, (Qk.But1.refl bp w.heap.size w).below hb, Qp.Ab.refl _ _⟩
  have hsA : ((w.alloc (Obj.cells #[.int .i64 0, .int .i64 0, .slice none 0 0] 24)).alloc (Obj.cells #[.int .i64 0, .int .i64 0, .slice none 0 0] 24)).heap.size = w.heap.size + 2 := by simp
  have HLA := hide hLA
  clear hLA
  generalize ((w.alloc (Obj.cells #[.int .i64 0, .int .i64 0, .slice none 0 0] 24)).alloc (Obj.cells #[.int .i64 0, .int .i64 0, .slice none 0 0] 24)) = WA at *
  have hopen : ((Qp.rt l i true).toList == [40]) = false := by
    show ((⟨#[]⟩ : ByteArray).toList == [40]) = false
    rw [Qp.empty_eq]; rfl
  refine ((unhide HT) _ (unhide HLA).r ((unhide HR) _ (unhide HLA).b)).mono ?_
  rintro r w0 ⟨rfl, hb0⟩
  have HL0 := hide (show Qp.Lp w w0 w0 bp ta l.length c i e true (Qp.fnd false (Qp.rt l i true) 1) from ⟨((unhide HLA).below hb0).q, ((unhide HLA).below hb0).y, ((unhide HLA).below hb0).z, ((unhide HLA).below hb0).r, ((unhide HLA).below hb0).b, Qp.Ab.refl _ _⟩)
  clear hb0
  go_wp2_with fail
  go_loopw [9] (fun v wr => ∃ k : Nat, 1 ≤ k ∧ k ≤ 15 ∧ v = .int .i64 ((k : Nat) : Int) ∧ Qp.Lp w w0 wr bp ta l.length c (i) e true (Qp.fnd false (Qp.rt l (i) true) k)) (fun v _ => 15 - (intOf v).toNat)
  case atStart => exact ⟨1, Nat.le_refl _, by decide, rfl, unhide HL0⟩
  case round =>
    obtain ⟨k, hk1, hk2, rfl, hL⟩ := hrel
    have HL := hide hL
    clear hL
    by_cases hk : k ≤ 14
    · have hk3 : (k : Int) ≤ 14 := by omega
      obtain ⟨u0, u1, u2⟩ := (unhide HL).q
      have uf := (unhide HL).y.f 0
      have hz := (unhide HL).lt
      go_wp2_with fail
      refine (AskArgs_any ((k : Nat) : Int) _).mono ?_
      rintro r w1 ⟨rfl, hw1⟩
      obtain rfl : wr = w1 := hw1.symm
      by_cases hA : Qk.argsN ((k : Nat) : Int) < 2
      · have hA1 : ((Qk.argsN ((k : Nat) : Int) : Nat) : Int) < 2 := by omega
        have hA2 : decide (Qk.argsN ((k : Nat) : Int) = 2) = false := by simp; omega
        go_wp2_with fail
        refine ((unhide HT) _ (unhide HL).r ((unhide HR) _ (unhide HL).b)).mono ?_
        rintro r w2 ⟨rfl, hb2⟩
        have HL2 := hide ((unhide HL).below hb2)
        clear hb2
        go_wp2_with fail
        refine (askWord_any ((k : Nat) : Int) (Qk.isK_nat k (by omega) (by omega)) _).mono ?_
        rintro r w3 ⟨rfl, hb3⟩
        have HL3 := hide ((unhide HL2).below hb3)
        clear hb3 u0 u1 u2 uf hz
        obtain ⟨u0, u1, u2⟩ := (unhide HL3).q
        have uf := (unhide HL3).y.f 0
        have hz := (unhide HL3).lt
        cases htx : ((Qp.rt l (i) true).toList == (Qk.word ((k : Nat) : Int)).toList)
        · have HN := hide (show Qp.fnd false (Qp.rt l (i) true) (k + 1) = Qp.fnd false (Qp.rt l (i) true) k by
            show (if (decide (Qk.argsN ((k : Nat) : Int) = 2) == false && (decide (1 ≤ k) && ((Qp.rt l (i) true).toList == (Qk.word ((k : Nat) : Int)).toList))) = true then k else _) = _
            rw [htx]; simp)
          go_wp2_with fail
          go_round
          case rel => exact ⟨k + 1, by omega, by omega, by go_num, by rw [unhide HN]; exact unhide HL3⟩
          case measure => simp [intOf]; omega
        · have HN := hide (show Qp.fnd false (Qp.rt l (i) true) (k + 1) = k by
            show (if (decide (Qk.argsN ((k : Nat) : Int) = 2) == false && (decide (1 ≤ k) && ((Qp.rt l (i) true).toList == (Qk.word ((k : Nat) : Int)).toList))) = true then k else _) = _
            rw [htx, hA2, decide_eq_true (show 1 ≤ k by omega)]; rfl)
          go_wp2_with fail
          go_round
          case rel => exact ⟨k + 1, by omega, by omega, by go_num, by rw [unhide HN]; exact (unhide HL3).set hblt k⟩
          case measure => simp [intOf]; omega
      · have hA1 : ¬ ((Qk.argsN ((k : Nat) : Int) : Nat) : Int) < 2 := by omega
        have hA2 : decide (Qk.argsN ((k : Nat) : Int) = 2) = true := by have := Qk.args_two (k := ((k : Nat) : Int)); simp; omega
        have HN := hide (show Qp.fnd false (Qp.rt l (i) true) (k + 1) = Qp.fnd false (Qp.rt l (i) true) k by
          show (if (decide (Qk.argsN ((k : Nat) : Int) = 2) == false && (decide (1 ≤ k) && ((Qp.rt l (i) true).toList == (Qk.word ((k : Nat) : Int)).toList))) = true then k else _) = _
          rw [hA2]; rfl)
        go_wp2_with fail
        go_round
        case rel => exact ⟨k + 1, by omega, by omega, by go_num, by rw [unhide HN]; exact unhide HL⟩
        case measure => simp [intOf]; omega
    · have hk3 : ¬ (k : Int) ≤ 14 := by omega
      obtain rfl : k = 15 := by omega
      have h0 : Qp.fnd false (Qp.rt l i true) 15 = 0 := Qp.fnd_none false _ Qp.empty_no 15 (by decide)
      rw [h0] at HL
      obtain ⟨u0, u1, u2⟩ := (unhide HL).q
      obtain ⟨r0, r1, r2, r3, rf1, rf3⟩ := (unhide HL).r
      obtain ⟨v0, m0⟩ := (unhide HL).z.c0
      obtain ⟨v1, m1⟩ := (unhide HL).z.c1
      obtain ⟨v2, m2⟩ := (unhide HL).z.c2
      have z0 := (unhide HL).z.f 0
      have z1 := (unhide HL).z.f 1
      have z2 := (unhide HL).z.f 2
      have hz := (unhide HL).lt
      have hneq : bp ≠ w.heap.size := by omega
      have hneq2 : bp ≠ w.heap.size + 1 := by omega
      have HSR := hide (Qp.ret3 ((unhide HL).z.kept (show (wr.setCell ⟨bp, 3, none⟩ (.bool true)).heap[w.heap.size]? = wr.heap[w.heap.size]? from Below.heap_setCell _ _ _ _ (show w.heap.size ≠ bp by omega))) (.int .i64 0) (.int .i64 0) (.slice none 0 0))
      go_wp2_with fail
      obtain ⟨⟨s0, s1, s2⟩, hsS, hbS, haS, hkS⟩ := unhide HSR
      refine bodyPost_ret (v := .agg #[.int .i64 0, .int .i64 0, .slice none 0 0]) (by simp [results, Tryz.results34, go_sem, s0, s1, s2]) rfl ?_
      exact ⟨⟨⟨0, 0, ⟨none, 0, 0⟩⟩, rfl⟩, (unhide HL).r.fail.kept (hkS bp (by omega)), ((unhide HL).b.set (o := 3) _).below hbS⟩
end Go.Proofs.YtfhlnelgnnkeoaaGreatDoor
