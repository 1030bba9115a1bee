/-
  The contracts of the compiler's choice and loop. By the verifier; written by mkk.py.
-/
import Derived.Test.YtpfogjplnodacaaKExpr
set_option maxRecDepth 100000
set_option maxHeartbeats 3200000
namespace Go.Proofs.Ytpfogjplnodacaa
open Go.RowKit
set_option linter.unusedVariables false
theorem Kd.to_at (A : List Kd.I) (x : Kd.I) (B : List Kd.I) (t : Int) : Kd.to (A ++ x :: B) A.length t = A ++ ⟨x.k, t, x.b⟩ :: B := by
 unfold Kd.to
 induction A with
 | nil => rfl
 | cons y r ih => simpa using ih
section
variable {m n : Nat} {w0 : World} {bc : Nat}
def Kd.CmdsOk (w0 : World) (bc m j : Nat) (G : List (Pg.CT m j) → Prop) : Prop := ∀ (t : Pg.Sl) (ls : List (Pg.CT m j)) (W : World) (rv : Value) (l : List Kd.I) (a : Nat), Pg.RS w0 12 (Pg.LC w0) (Pg.RC w0 m j) t ls → G ls → Kd.M w0 W bc rv l a → l.length + (Kd.cmds j ls l.length a).length ≤ 50000 → a + Pg.cnts ls ≤ 1000 →
 Calls Try.prog 28 #[.pointer (some ⟨bc, 0, none⟩), .slice t.ad t.len t.cap] W (Kd.Post w0 bc rv W (l ++ Kd.cmds j ls l.length a) (a + Pg.cnts ls))
theorem choice_any {j : Nat} {G : List (Pg.CT m j) → Prop} (hcs : Kd.CmdsOk w0 bc m j G) (c : Pg.C) (y : Pg.CT m (j + 1)) (W : World) (rv : Value) (l : List Kd.I) (a : Nat) (hrc : Pg.RC w0 m (j + 1) c y) (hM : Kd.M w0 W bc rv l a) (hg1 : G y.2.2.1) (hg2 : G y.2.2.2)
  (E T L : List Kd.I) (hE : E = Kd.ex m y.2.1.2.1) (hT : T = Kd.cmds j y.2.2.1 (l.length + E.length + 1) a) (hL : L = Kd.cmds j y.2.2.2 (l.length + E.length + 1 + T.length + 1) (a + Pg.cnts y.2.2.1)) (hlen : l.length + E.length + T.length + L.length + 2 ≤ 50000) (ha : a + Pg.cnts y.2.2.1 + Pg.cnts y.2.2.2 ≤ 1000) :
  Calls Try.prog 59 #[.pointer (some ⟨bc, 0, none⟩), c.val] W (Kd.Post w0 bc rv W (l ++ (E ++ (⟨11, ((l.length + E.length + 1 + T.length + 1 : Nat) : Int), 0⟩ :: (T ++ (⟨10, ((l.length + E.length + 1 + T.length + 1 + L.length : Nat) : Int), 0⟩ :: L))))) (a + Pg.cnts y.2.2.1 + Pg.cnts y.2.2.2)) := by
 obtain ⟨⟨hck, hcv, hcf⟩, ⟨hix, hex, hag⟩, hth, hel⟩ := hrc
 have hb0 := (Below.refl W.heap.size W).alloc (Nat.le_refl _) (Obj.cells #[.int .i64 c.k, .int .i64 c.v, .int .i64 c.f, .int .i64 c.ix.k, .int .i64 c.ix.n, .slice c.ix.args.ad c.ix.args.len c.ix.args.cap, .int .i64 c.ex.k, .int .i64 c.ex.n, .slice c.ex.args.ad c.ex.args.len c.ex.args.cap, .slice c.args.ad c.args.len c.args.cap, .slice c.thn.ad c.thn.len c.thn.cap, .slice c.els.ad c.els.len c.els.cap] 70)
 have hx1 := heap_alloc_new W (Obj.cells #[.int .i64 c.k, .int .i64 c.v, .int .i64 c.f, .int .i64 c.ix.k, .int .i64 c.ix.n, .slice c.ix.args.ad c.ix.args.len c.ix.args.cap, .int .i64 c.ex.k, .int .i64 c.ex.n, .slice c.ex.args.ad c.ex.args.len c.ex.args.cap, .slice c.args.ad c.args.len c.args.cap, .slice c.thn.ad c.thn.len c.thn.cap, .slice c.els.ad c.els.len c.els.cap] 70)
 have HM0 := hide hM
 have HK0 := hide (Kd.Kp.below (rv := rv) hb0 hM.lt)
 have hm1 := hM.below hb0
 have hk1 : Kd.Kp bc rv rv (W.alloc (Obj.cells #[.int .i64 c.k, .int .i64 c.v, .int .i64 c.f, .int .i64 c.ix.k, .int .i64 c.ix.n, .slice c.ix.args.ad c.ix.args.len c.ix.args.cap, .int .i64 c.ex.k, .int .i64 c.ex.n, .slice c.ex.args.ad c.ex.args.len c.ex.args.cap, .slice c.args.ad c.args.len c.args.cap, .slice c.thn.ad c.thn.len c.thn.cap, .slice c.els.ad c.els.len c.els.cap] 70)) (W.alloc (Obj.cells #[.int .i64 c.k, .int .i64 c.v, .int .i64 c.f, .int .i64 c.ix.k, .int .i64 c.ix.n, .slice c.ix.args.ad c.ix.args.len c.ix.args.cap, .int .i64 c.ex.k, .int .i64 c.ex.n, .slice c.ex.args.ad c.ex.args.len c.ex.args.cap, .slice c.args.ad c.args.len c.args.cap, .slice c.thn.ad c.thn.len c.thn.cap, .slice c.els.ad c.els.len c.els.cap] 70)) := Kd.Kp.below (Below.refl _ _) hm1.lt
 have HIX := hide hix
 have HEX := hide hex
 have hw01 : W.heap.size < (W.alloc (Obj.cells #[.int .i64 c.k, .int .i64 c.v, .int .i64 c.f, .int .i64 c.ix.k, .int .i64 c.ix.n, .slice c.ix.args.ad c.ix.args.len c.ix.args.cap, .int .i64 c.ex.k, .int .i64 c.ex.n, .slice c.ex.args.ad c.ex.args.len c.ex.args.cap, .slice c.args.ad c.args.len c.args.cap, .slice c.thn.ad c.thn.len c.thn.cap, .slice c.els.ad c.els.len c.els.cap] 70)).heap.size := by simp
 have HTH := hide hth
 have HEL := hide hel
 have HG1 := hide hg1
 have HG2 := hide hg2
 have HCS := hide hcs
 have HEl := hide (show E.length = Pg.parts m y.2.1.2.1 by rw [hE, Kd.ex_len])
 have HE := hide hE
 have HT := hide hT
 have HL := hide hL
 obtain ⟨LL, hLL⟩ : ∃ LL, LL = l ++ (E ++ (⟨11, ((l.length + E.length + 1 + T.length + 1 : Nat) : Int), 0⟩ :: (T ++ (⟨10, ((l.length + E.length + 1 + T.length + 1 + L.length : Nat) : Int), 0⟩ :: L)))) := ⟨_, rfl⟩
 obtain ⟨aa, haa⟩ : ∃ aa, aa = a + Pg.cnts y.2.2.1 + Pg.cnts y.2.2.2 := ⟨_, rfl⟩
 rw [← hLL, ← haa]
 have HLL := hide hLL
 have HAA := hide haa
 have HA := hide ha
 have HLEN := hide hlen
 clear hM hb0 hix hex hag hth hel hg1 hg2 hcs hE hT hL hLL haa hlen ha hck hcv hcf
 unfold Pg.C.val
 go_enter Try.func59, Try.ntmps59
 go_upto_region 1 with fail
 generalize W.alloc (Obj.cells #[.int .i64 c.k, .int .i64 c.v, .int .i64 c.f, .int .i64 c.ix.k, .int .i64 c.ix.n, .slice c.ix.args.ad c.ix.args.len c.ix.args.cap, .int .i64 c.ex.k, .int .i64 c.ex.n, .slice c.ex.args.ad c.ex.args.len c.ex.args.cap, .slice c.args.ad c.args.len c.args.cap, .slice c.thn.ad c.thn.len c.thn.cap, .slice c.els.ad c.els.len c.els.cap] 70) = w1 at *
 have HC1 := hide (kexpr_any m c.ex y.2.1.2.1 _ _ _ _ (unhide HEX) hm1 (by have := unhide HLEN; have := unhide HEl; omega))
 have hx1 := (hk1.box (unhide HM0) (Nat.le_refl _) hw01).trans hx1
 have r1_6 := (cell_of_row w1 W.heap.size 6 _ _ _ hx1).trans rfl
 have r1_7 := (cell_of_row w1 W.heap.size 7 _ _ _ hx1).trans rfl
 have r1_8 := (cell_of_row w1 W.heap.size 8 _ _ _ hx1).trans rfl
 have HK1 := hide hk1
 clear hm1 hk1 hx1
 go_wp2_with fail
 refine (unhide HC1).mono ?_
 rintro r w2 ⟨rfl, v2, hm2, hq2⟩
 have hk2 := (unhide HK1).trans hq2
 clear hq2 r1_6 r1_7 r1_8
 rw [← unhide HE] at hm2
 have HC2 := hide (kput_any hm2 (by rw [List.length_append]; have := unhide HLEN; omega) 11 0 0)
 have hx2 := (hk2.box (unhide HM0) (Nat.le_refl _) hw01).trans hx1
 have HK2 := hide hk2
 clear hm2 hk2 hx2
 go_wp2_with fail
 refine (unhide HC2).mono ?_
 rintro r w3 ⟨rfl, v3, hm3, hq3⟩
 have hk3 := (unhide HK2).trans hq3
 clear hq3
 obtain ⟨z3, hz3⟩ : ∃ z3, z3 = (l ++ E).length := ⟨_, rfl⟩
 rw [← hz3]
 have HZ3 := hide (hz3.trans List.length_append)
 clear hz3
 have HCM := hide (show Calls Try.prog 28 #[.pointer (some ⟨bc, 0, none⟩), .slice c.thn.ad c.thn.len c.thn.cap] w3 (Kd.Post w0 bc v3 w3 (l ++ E ++ [⟨11, 0, 0⟩] ++ T) (a + Pg.cnts y.2.2.1)) from by
  have e4 : (l ++ E ++ [(⟨11, 0, 0⟩ : Kd.I)]).length = l.length + E.length + 1 := by rw [List.length_append, List.length_append]; rfl
  have h5 := (unhide HCS) c.thn y.2.2.1 _ _ _ _ (unhide HTH) (unhide HG1) hm3 (by rw [e4, ← unhide HT]; have := unhide HLEN; omega) (by have := unhide HA; omega)
  rw [e4, ← unhide HT] at h5
  exact h5)
 have HC3 := hide (unhide HCM)
 have hx3 := (hk3.box (unhide HM0) (Nat.le_refl _) hw01).trans hx1
 have r3_10 := (cell_of_row w3 W.heap.size 10 _ _ _ hx3).trans rfl
 have HK3 := hide hk3
 clear hm3 hk3 hx3
 go_wp2_with fail
 refine (unhide HC3).mono ?_
 rintro r w4 ⟨rfl, v4, hm4, hq4⟩
 have hk4 := (unhide HK3).trans hq4
 clear hq4 r3_10
 have HC4 := hide (kput_any hm4 (by simp only [List.length_append, List.length_cons, List.length_nil]; have := unhide HLEN; omega) 10 0 0)
 have hx4 := (hk4.box (unhide HM0) (Nat.le_refl _) hw01).trans hx1
 have HK4 := hide hk4
 clear hm4 hk4 hx4
 go_wp2_with fail
 refine (unhide HC4).mono ?_
 rintro r w5 ⟨rfl, v5, hm5, hq5⟩
 have hk5 := (unhide HK4).trans hq5
 clear hq5
 have e5 : (l ++ E ++ [(⟨11, 0, 0⟩ : Kd.I)] ++ T).length = l.length + E.length + 1 + T.length := by simp only [List.length_append, List.length_cons, List.length_nil]
 obtain ⟨z5, hz5⟩ : ∃ z5, z5 = (l ++ E ++ [(⟨11, 0, 0⟩ : Kd.I)] ++ T).length := ⟨_, rfl⟩
 rw [← hz5]
 have HZ5 := hide (hz5.trans e5)
 clear hz5 e5
 have HE6 := hide (show (l ++ E ++ [(⟨11, 0, 0⟩ : Kd.I)] ++ T ++ [(⟨10, 0, 0⟩ : Kd.I)]).length = l.length + E.length + 1 + T.length + 1 by simp only [List.length_append, List.length_cons, List.length_nil])
 have HGO := hide (show Calls Try.prog 67 #[.pointer (some ⟨bc, 0, none⟩), .int .i64 (z3 : Nat)] w5 (Kd.Post w0 bc v5 w5 (l ++ E ++ (⟨11, ((l.length + E.length + 1 + T.length + 1 : Nat) : Int), 0⟩ :: (T ++ [⟨10, 0, 0⟩]))) (a + Pg.cnts y.2.2.1)) from by
  have e6 := unhide HE6
  rw [unhide HZ3]
  have h7 := goHere_any hm5 (by rw [e6]; have := unhide HLEN; omega) (l.length + E.length) (by rw [e6]; omega)
  rw [e6] at h7
  have e8 : Kd.to (l ++ E ++ [(⟨11, 0, 0⟩ : Kd.I)] ++ T ++ [(⟨10, 0, 0⟩ : Kd.I)]) (l.length + E.length) ((l.length + E.length + 1 + T.length + 1 : Nat) : Int) = l ++ E ++ (⟨11, ((l.length + E.length + 1 + T.length + 1 : Nat) : Int), 0⟩ :: (T ++ [⟨10, 0, 0⟩])) := by
   have h8 := Kd.to_at (l ++ E) ⟨11, 0, 0⟩ (T ++ [⟨10, 0, 0⟩]) ((l.length + E.length + 1 + T.length + 1 : Nat) : Int)
   rw [List.length_append] at h8
   simp only [List.append_assoc, List.cons_append, List.nil_append] at h8 ⊢
   exact h8
  rw [e8] at h7
  exact h7)
 have HC5 := hide (unhide HGO)
 have hx5 := (hk5.box (unhide HM0) (Nat.le_refl _) hw01).trans hx1
 have HK5 := hide hk5
 clear hm5 hk5 hx5
 go_wp2_with fail
 refine (unhide HC5).mono ?_
 rintro r w6 ⟨rfl, v6, hm6, hq6⟩
 have hk6 := (unhide HK5).trans hq6
 clear hq6
 have HE7 := hide (show (l ++ E ++ ((⟨11, ((l.length + E.length + 1 + T.length + 1 : Nat) : Int), 0⟩ : Kd.I) :: (T ++ [(⟨10, 0, 0⟩ : Kd.I)]))).length = l.length + E.length + 1 + T.length + 1 by
  simp only [List.length_append, List.length_cons, List.length_nil]
  omega)
 have HCN := hide (show Calls Try.prog 28 #[.pointer (some ⟨bc, 0, none⟩), .slice c.els.ad c.els.len c.els.cap] w6 (Kd.Post w0 bc v6 w6 (l ++ E ++ (⟨11, ((l.length + E.length + 1 + T.length + 1 : Nat) : Int), 0⟩ :: (T ++ [⟨10, 0, 0⟩])) ++ L) (a + Pg.cnts y.2.2.1 + Pg.cnts y.2.2.2)) from by
  have e7 := unhide HE7
  have h5 := (unhide HCS) c.els y.2.2.2 _ _ _ _ (unhide HEL) (unhide HG2) hm6 (by rw [e7, ← unhide HL]; have := unhide HLEN; omega) (unhide HA)
  rw [e7, ← unhide HL] at h5
  exact h5)
 have HC6 := hide (unhide HCN)
 have hx6 := (hk6.box (unhide HM0) (Nat.le_refl _) hw01).trans hx1
 have r6_11 := (cell_of_row w6 W.heap.size 11 _ _ _ hx6).trans rfl
 have HK6 := hide hk6
 clear hm6 hk6 hx6
 go_wp2_with fail
 refine (unhide HC6).mono ?_
 rintro r w7 ⟨rfl, v7, hm7, hq7⟩
 have hk7 := (unhide HK6).trans hq7
 clear hq7 r6_11
 have HGP := hide (show Calls Try.prog 67 #[.pointer (some ⟨bc, 0, none⟩), .int .i64 (z5 : Nat)] w7 (Kd.Post w0 bc v7 w7 LL (a + Pg.cnts y.2.2.1 + Pg.cnts y.2.2.2)) from by
  have e7 := unhide HE7
  rw [unhide HZ5]
  have e9 : (l ++ E ++ ((⟨11, ((l.length + E.length + 1 + T.length + 1 : Nat) : Int), 0⟩ : Kd.I) :: (T ++ [(⟨10, 0, 0⟩ : Kd.I)])) ++ L).length = l.length + E.length + 1 + T.length + 1 + L.length := by rw [List.length_append, e7]
  have h7 := goHere_any hm7 (by rw [e9]; have := unhide HLEN; omega) (l.length + E.length + 1 + T.length) (by rw [e9]; omega)
  rw [e9] at h7
  have e8 : Kd.to (l ++ E ++ (⟨11, ((l.length + E.length + 1 + T.length + 1 : Nat) : Int), 0⟩ :: (T ++ [⟨10, 0, 0⟩])) ++ L) (l.length + E.length + 1 + T.length) ((l.length + E.length + 1 + T.length + 1 + L.length : Nat) : Int) = LL := by
   have h8 := Kd.to_at (l ++ E ++ (⟨11, ((l.length + E.length + 1 + T.length + 1 : Nat) : Int), 0⟩ :: T)) ⟨10, 0, 0⟩ L ((l.length + E.length + 1 + T.length + 1 + L.length : Nat) : Int)
   rw [show (l ++ E ++ ((⟨11, ((l.length + E.length + 1 + T.length + 1 : Nat) : Int), 0⟩ : Kd.I) :: T)).length = l.length + E.length + 1 + T.length by simp only [List.length_append, List.length_cons]; omega] at h8
   rw [unhide HLL]
   simp only [List.append_assoc, List.cons_append, List.nil_append] at h8 ⊢
   exact h8
  rw [e8] at h7
  exact h7)
 have HC7 := hide (unhide HGP)
 have hx7 := (hk7.box (unhide HM0) (Nat.le_refl _) hw01).trans hx1
 have HK7 := hide hk7
 clear hm7 hk7 hx7
 go_wp2_with fail
 refine (unhide HC7).mono ?_
 rintro r w8 ⟨rfl, v8, hm8, hq8⟩
 have hk8 := (unhide HK7).trans hq8
 clear hq8
 have HP := hide (show Kd.Post w0 bc rv W LL aa (.returned (.tuple #[])) w8 from ⟨rfl, v8, by rw [unhide HAA]; exact hm8, (unhide HK0).trans hk8⟩)
 clear hm8 hk8
 go_wp2_with fail
 go_end0
 exact unhide HP
theorem kloop_any {j : Nat} {G : List (Pg.CT m j) → Prop} (hcs : Kd.CmdsOk w0 bc m j G) (c : Pg.C) (y : Pg.CT m (j + 1)) (W : World) (rv : Value) (l : List Kd.I) (a st : Nat) (hrc : Pg.RC w0 m (j + 1) c y) (hM : Kd.M w0 W bc rv l a) (hg1 : G y.2.2.1)
  (E T : List Kd.I) (hE : E = Kd.ex m y.2.1.2.1) (hT : T = Kd.cmds j y.2.2.1 (l.length + E.length + 1) a) (hlen : l.length + E.length + T.length + 2 ≤ 50000) (ha : a + Pg.cnts y.2.2.1 ≤ 1000) :
  Calls Try.prog 60 #[.pointer (some ⟨bc, 0, none⟩), c.val, .int .i64 (st : Nat)] W (Kd.Post w0 bc rv W (l ++ (E ++ (⟨11, ((l.length + E.length + 1 + T.length + 1 : Nat) : Int), 0⟩ :: (T ++ [⟨10, (st : Nat), 0⟩])))) (a + Pg.cnts y.2.2.1)) := by
 obtain ⟨⟨hck, hcv, hcf⟩, ⟨hix, hex, hag⟩, hth, hel⟩ := hrc
 have hb0 := (Below.refl W.heap.size W).alloc (Nat.le_refl _) (Obj.cells #[.int .i64 c.k, .int .i64 c.v, .int .i64 c.f, .int .i64 c.ix.k, .int .i64 c.ix.n, .slice c.ix.args.ad c.ix.args.len c.ix.args.cap, .int .i64 c.ex.k, .int .i64 c.ex.n, .slice c.ex.args.ad c.ex.args.len c.ex.args.cap, .slice c.args.ad c.args.len c.args.cap, .slice c.thn.ad c.thn.len c.thn.cap, .slice c.els.ad c.els.len c.els.cap] 70)
 have hx1 := heap_alloc_new W (Obj.cells #[.int .i64 c.k, .int .i64 c.v, .int .i64 c.f, .int .i64 c.ix.k, .int .i64 c.ix.n, .slice c.ix.args.ad c.ix.args.len c.ix.args.cap, .int .i64 c.ex.k, .int .i64 c.ex.n, .slice c.ex.args.ad c.ex.args.len c.ex.args.cap, .slice c.args.ad c.args.len c.args.cap, .slice c.thn.ad c.thn.len c.thn.cap, .slice c.els.ad c.els.len c.els.cap] 70)
 have HM0 := hide hM
 have HK0 := hide (Kd.Kp.below (rv := rv) hb0 hM.lt)
 have hm1 := hM.below hb0
 have hk1 : Kd.Kp bc rv rv (W.alloc (Obj.cells #[.int .i64 c.k, .int .i64 c.v, .int .i64 c.f, .int .i64 c.ix.k, .int .i64 c.ix.n, .slice c.ix.args.ad c.ix.args.len c.ix.args.cap, .int .i64 c.ex.k, .int .i64 c.ex.n, .slice c.ex.args.ad c.ex.args.len c.ex.args.cap, .slice c.args.ad c.args.len c.args.cap, .slice c.thn.ad c.thn.len c.thn.cap, .slice c.els.ad c.els.len c.els.cap] 70)) (W.alloc (Obj.cells #[.int .i64 c.k, .int .i64 c.v, .int .i64 c.f, .int .i64 c.ix.k, .int .i64 c.ix.n, .slice c.ix.args.ad c.ix.args.len c.ix.args.cap, .int .i64 c.ex.k, .int .i64 c.ex.n, .slice c.ex.args.ad c.ex.args.len c.ex.args.cap, .slice c.args.ad c.args.len c.args.cap, .slice c.thn.ad c.thn.len c.thn.cap, .slice c.els.ad c.els.len c.els.cap] 70)) := Kd.Kp.below (Below.refl _ _) hm1.lt
 have HIX := hide hix
 have HEX := hide hex
 have hw01 : W.heap.size < (W.alloc (Obj.cells #[.int .i64 c.k, .int .i64 c.v, .int .i64 c.f, .int .i64 c.ix.k, .int .i64 c.ix.n, .slice c.ix.args.ad c.ix.args.len c.ix.args.cap, .int .i64 c.ex.k, .int .i64 c.ex.n, .slice c.ex.args.ad c.ex.args.len c.ex.args.cap, .slice c.args.ad c.args.len c.args.cap, .slice c.thn.ad c.thn.len c.thn.cap, .slice c.els.ad c.els.len c.els.cap] 70)).heap.size := by simp
 have HTH := hide hth
 have HG1 := hide hg1
 have HCS := hide hcs
 have HEl := hide (show E.length = Pg.parts m y.2.1.2.1 by rw [hE, Kd.ex_len])
 have HE := hide hE
 have HT := hide hT
 obtain ⟨LL, hLL⟩ : ∃ LL, LL = l ++ (E ++ (⟨11, ((l.length + E.length + 1 + T.length + 1 : Nat) : Int), 0⟩ :: (T ++ [⟨10, (st : Nat), 0⟩]))) := ⟨_, rfl⟩
 obtain ⟨aa, haa⟩ : ∃ aa, aa = a + Pg.cnts y.2.2.1 := ⟨_, rfl⟩
 rw [← hLL, ← haa]
 have HLL := hide hLL
 have HAA := hide haa
 have HA := hide ha
 have HLEN := hide hlen
 clear hM hb0 hix hex hag hth hel hg1 hcs hE hT hLL haa hlen ha hck hcv hcf
 unfold Pg.C.val
 go_enter Try.func60, Try.ntmps60
 go_upto_region 1 with fail
 generalize W.alloc (Obj.cells #[.int .i64 c.k, .int .i64 c.v, .int .i64 c.f, .int .i64 c.ix.k, .int .i64 c.ix.n, .slice c.ix.args.ad c.ix.args.len c.ix.args.cap, .int .i64 c.ex.k, .int .i64 c.ex.n, .slice c.ex.args.ad c.ex.args.len c.ex.args.cap, .slice c.args.ad c.args.len c.args.cap, .slice c.thn.ad c.thn.len c.thn.cap, .slice c.els.ad c.els.len c.els.cap] 70) = w1 at *
 have HC1 := hide (kexpr_any m c.ex y.2.1.2.1 _ _ _ _ (unhide HEX) hm1 (by have := unhide HLEN; have := unhide HEl; omega))
 have hx1 := (hk1.box (unhide HM0) (Nat.le_refl _) hw01).trans hx1
 have r1_6 := (cell_of_row w1 W.heap.size 6 _ _ _ hx1).trans rfl
 have r1_7 := (cell_of_row w1 W.heap.size 7 _ _ _ hx1).trans rfl
 have r1_8 := (cell_of_row w1 W.heap.size 8 _ _ _ hx1).trans rfl
 have HK1 := hide hk1
 clear hm1 hk1 hx1
 go_wp2_with fail
 refine (unhide HC1).mono ?_
 rintro r w2 ⟨rfl, v2, hm2, hq2⟩
 have hk2 := (unhide HK1).trans hq2
 clear hq2 r1_6 r1_7 r1_8
 rw [← unhide HE] at hm2
 have HC2 := hide (kput_any hm2 (by rw [List.length_append]; have := unhide HLEN; omega) 11 0 0)
 have hx2 := (hk2.box (unhide HM0) (Nat.le_refl _) hw01).trans hx1
 have HK2 := hide hk2
 clear hm2 hk2 hx2
 go_wp2_with fail
 refine (unhide HC2).mono ?_
 rintro r w3 ⟨rfl, v3, hm3, hq3⟩
 have hk3 := (unhide HK2).trans hq3
 clear hq3
 obtain ⟨z3, hz3⟩ : ∃ z3, z3 = (l ++ E).length := ⟨_, rfl⟩
 rw [← hz3]
 have HZ3 := hide (hz3.trans List.length_append)
 clear hz3
 have HCM := hide (show Calls Try.prog 28 #[.pointer (some ⟨bc, 0, none⟩), .slice c.thn.ad c.thn.len c.thn.cap] w3 (Kd.Post w0 bc v3 w3 (l ++ E ++ [⟨11, 0, 0⟩] ++ T) (a + Pg.cnts y.2.2.1)) from by
  have e4 : (l ++ E ++ [(⟨11, 0, 0⟩ : Kd.I)]).length = l.length + E.length + 1 := by rw [List.length_append, List.length_append]; rfl
  have h5 := (unhide HCS) c.thn y.2.2.1 _ _ _ _ (unhide HTH) (unhide HG1) hm3 (by rw [e4, ← unhide HT]; have := unhide HLEN; omega) (unhide HA)
  rw [e4, ← unhide HT] at h5
  exact h5)
 have HC3 := hide (unhide HCM)
 have hx3 := (hk3.box (unhide HM0) (Nat.le_refl _) hw01).trans hx1
 have r3_10 := (cell_of_row w3 W.heap.size 10 _ _ _ hx3).trans rfl
 have HK3 := hide hk3
 clear hm3 hk3 hx3
 go_wp2_with fail
 refine (unhide HC3).mono ?_
 rintro r w4 ⟨rfl, v4, hm4, hq4⟩
 have hk4 := (unhide HK3).trans hq4
 clear hq4 r3_10
 have HC4 := hide (kput_any hm4 (by simp only [List.length_append, List.length_cons, List.length_nil]; have := unhide HLEN; omega) 10 (st : Nat) 0)
 have hx4 := (hk4.box (unhide HM0) (Nat.le_refl _) hw01).trans hx1
 have HK4 := hide hk4
 clear hm4 hk4 hx4
 go_wp2_with fail
 refine (unhide HC4).mono ?_
 rintro r w5 ⟨rfl, v5, hm5, hq5⟩
 have hk5 := (unhide HK4).trans hq5
 clear hq5
 have HE6 := hide (show (l ++ E ++ [(⟨11, 0, 0⟩ : Kd.I)] ++ T ++ [(⟨10, (st : Nat), 0⟩ : Kd.I)]).length = l.length + E.length + 1 + T.length + 1 by simp only [List.length_append, List.length_cons, List.length_nil])
 have HGO := hide (show Calls Try.prog 67 #[.pointer (some ⟨bc, 0, none⟩), .int .i64 (z3 : Nat)] w5 (Kd.Post w0 bc v5 w5 LL (a + Pg.cnts y.2.2.1)) from by
  have e6 := unhide HE6
  rw [unhide HZ3]
  have h7 := goHere_any hm5 (by rw [e6]; have := unhide HLEN; omega) (l.length + E.length) (by rw [e6]; omega)
  rw [e6] at h7
  have e8 : Kd.to (l ++ E ++ [(⟨11, 0, 0⟩ : Kd.I)] ++ T ++ [(⟨10, (st : Nat), 0⟩ : Kd.I)]) (l.length + E.length) ((l.length + E.length + 1 + T.length + 1 : Nat) : Int) = LL := by
   have h8 := Kd.to_at (l ++ E) ⟨11, 0, 0⟩ (T ++ [⟨10, (st : Nat), 0⟩]) ((l.length + E.length + 1 + T.length + 1 : Nat) : Int)
   rw [List.length_append] at h8
   rw [unhide HLL]
   simp only [List.append_assoc, List.cons_append, List.nil_append] at h8 ⊢
   exact h8
  rw [e8] at h7
  exact h7)
 have HC5 := hide (unhide HGO)
 have hx5 := (hk5.box (unhide HM0) (Nat.le_refl _) hw01).trans hx1
 have HK5 := hide hk5
 clear hm5 hk5 hx5
 go_wp2_with fail
 refine (unhide HC5).mono ?_
 rintro r w6 ⟨rfl, v6, hm6, hq6⟩
 have hk6 := (unhide HK5).trans hq6
 clear hq6
 have HP := hide (show Kd.Post w0 bc rv W LL aa (.returned (.tuple #[])) w6 from ⟨rfl, v6, by rw [unhide HAA]; exact hm6, (unhide HK0).trans hk6⟩)
 clear hm6 hk6
 go_wp2_with fail
 go_end0
 exact unhide HP
end
end Go.Proofs.Ytpfogjplnodacaa
