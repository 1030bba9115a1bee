/-
  The contract of the compiler's cmd, kind 2. By the verifier; written by mkk.py.
-/
import Derived.Test.YtpfogjplnodacaaKCm0
set_option maxRecDepth 100000
set_option maxHeartbeats 6400000
namespace Go.Proofs.Ytpfogjplnodacaa
open Go.RowKit
set_option linter.unusedVariables false
section
variable {m n : Nat} {w0 : World} {bc : Nat}
theorem kcmd_2 {j : Nat} {G : List (Pg.CT m j) → Prop} (hcs : Kd.CmdsOk w0 bc m j G) (c : Pg.C) (y : Pg.CT m (j + 1)) (W : World) (rv : Value) (l : List Kd.I) (a : Nat) (hrc : Pg.RC w0 m (j + 1) c y) (hM : Kd.M w0 W bc rv l a) (hsh : Kd.shape y) (hg1 : G y.2.2.1) (hg2 : G y.2.2.2) (hkk : y.1.1 = 2)
  (hlen : l.length + (Kd.cmd (Kd.cmds j) y l.length a).length ≤ 50000) (ha : a + Pg.cnt (j + 1) y ≤ 1000) :
  Calls Try.prog 48 #[.pointer (some ⟨bc, 0, none⟩), c.val] W (Kd.Post w0 bc rv W (l ++ Kd.cmd (Kd.cmds j) y l.length a) (a + Pg.cnt (j + 1) y)) := by
 have hre : Kd.cmd (Kd.cmds j) y l.length a = ⟨1, (a : Nat), 0⟩ :: (Kd.ex m y.2.1.1 ++ (Kd.ex m y.2.1.2.1 ++ [⟨7, y.1.2.1, 0⟩])) := by
  unfold Kd.cmd Kd.rest
  rw [if_neg (by omega), if_pos hkk]
 have hcn : Pg.cnt (j + 1) y = 1 := by
  show 1 + (y.2.2.1.map (Pg.cnt j)).sum + (y.2.2.2.map (Pg.cnt j)).sum = 1
  rw [hsh.2.1 (by omega), hsh.2.2 (by omega) (by omega)]
  rfl
 rw [hre] at hlen ⊢
 rw [hcn] at ha ⊢
 obtain ⟨⟨hck, hcv, hcf⟩, ⟨hix, hex, hag⟩, hth, hel⟩ := hrc
 have hb0 := (Below.refl W.heap.size W).alloc (Nat.le_refl _) (Obj.cells #[.int .i64 c.k, .int .i64 c.v, .int .i64 c.f, .int .i64 c.ix.k, .int .i64 c.ix.n, .slice c.ix.args.ad c.ix.args.len c.ix.args.cap, .int .i64 c.ex.k, .int .i64 c.ex.n, .slice c.ex.args.ad c.ex.args.len c.ex.args.cap, .slice c.args.ad c.args.len c.args.cap, .slice c.thn.ad c.thn.len c.thn.cap, .slice c.els.ad c.els.len c.els.cap] 70)
 have hx1 := heap_alloc_new W (Obj.cells #[.int .i64 c.k, .int .i64 c.v, .int .i64 c.f, .int .i64 c.ix.k, .int .i64 c.ix.n, .slice c.ix.args.ad c.ix.args.len c.ix.args.cap, .int .i64 c.ex.k, .int .i64 c.ex.n, .slice c.ex.args.ad c.ex.args.len c.ex.args.cap, .slice c.args.ad c.args.len c.args.cap, .slice c.thn.ad c.thn.len c.thn.cap, .slice c.els.ad c.els.len c.els.cap] 70)
 have HM0 := hide hM
 have HK0 := hide (Kd.Kp.below (rv := rv) hb0 hM.lt)
 have hm1 := hM.below hb0
 have hk1 : Kd.Kp bc rv rv (W.alloc (Obj.cells #[.int .i64 c.k, .int .i64 c.v, .int .i64 c.f, .int .i64 c.ix.k, .int .i64 c.ix.n, .slice c.ix.args.ad c.ix.args.len c.ix.args.cap, .int .i64 c.ex.k, .int .i64 c.ex.n, .slice c.ex.args.ad c.ex.args.len c.ex.args.cap, .slice c.args.ad c.args.len c.args.cap, .slice c.thn.ad c.thn.len c.thn.cap, .slice c.els.ad c.els.len c.els.cap] 70)) (W.alloc (Obj.cells #[.int .i64 c.k, .int .i64 c.v, .int .i64 c.f, .int .i64 c.ix.k, .int .i64 c.ix.n, .slice c.ix.args.ad c.ix.args.len c.ix.args.cap, .int .i64 c.ex.k, .int .i64 c.ex.n, .slice c.ex.args.ad c.ex.args.len c.ex.args.cap, .slice c.args.ad c.args.len c.args.cap, .slice c.thn.ad c.thn.len c.thn.cap, .slice c.els.ad c.els.len c.els.cap] 70)) := Kd.Kp.below (Below.refl _ _) hm1.lt
 have HIX := hide hix
 have HEX := hide hex
 have hw01 : W.heap.size < (W.alloc (Obj.cells #[.int .i64 c.k, .int .i64 c.v, .int .i64 c.f, .int .i64 c.ix.k, .int .i64 c.ix.n, .slice c.ix.args.ad c.ix.args.len c.ix.args.cap, .int .i64 c.ex.k, .int .i64 c.ex.n, .slice c.ex.args.ad c.ex.args.len c.ex.args.cap, .slice c.args.ad c.args.len c.args.cap, .slice c.thn.ad c.thn.len c.thn.cap, .slice c.els.ad c.els.len c.els.cap] 70)).heap.size := by simp
 have HTH := hide hth
 have HEL := hide hel
 have HAG := hide hag
 have HG1 := hide hg1
 have HG2 := hide hg2
 have HCS := hide hcs
 obtain ⟨LL, hLL⟩ : ∃ LL, LL = l ++ (⟨1, (a : Nat), 0⟩ :: (Kd.ex m y.2.1.1 ++ (Kd.ex m y.2.1.2.1 ++ [⟨7, y.1.2.1, 0⟩]))) := ⟨_, rfl⟩
 obtain ⟨aa, haa⟩ : ∃ aa, aa = a + 1 := ⟨_, rfl⟩
 rw [← hLL, ← haa]
 have HLL := hide hLL
 have HAA := hide haa
 have HA := hide ha
 have HLEN := hide hlen
 have HCK := hide (show c.k = 2 from hck.trans hkk)
 have hrc2 : Pg.RC w0 m (j + 1) c y := ⟨⟨hck, hcv, hcf⟩, ⟨hix, hex, hag⟩, hth, hel⟩
 have HRC := hide hrc2
 rw [← hcv] at HLL
 clear hM hb0 hix hex hag hth hel hg1 hg2 hcs hLL haa hlen ha hre hcn hsh hrc2 hcv hcf hck hkk
 unfold Pg.C.val
 go_enter Try.func48, Try.ntmps48
 go_upto_region 1 with fail
 generalize W.alloc (Obj.cells #[.int .i64 c.k, .int .i64 c.v, .int .i64 c.f, .int .i64 c.ix.k, .int .i64 c.ix.n, .slice c.ix.args.ad c.ix.args.len c.ix.args.cap, .int .i64 c.ex.k, .int .i64 c.ex.n, .slice c.ex.args.ad c.ex.args.len c.ex.args.cap, .slice c.args.ad c.args.len c.args.cap, .slice c.thn.ad c.thn.len c.thn.cap, .slice c.els.ad c.els.len c.els.cap] 70) = w1 at *
 have g3 := hm1.c3
 have HC1 := hide (kput_any hm1 (by have := unhide HLEN; simp only [List.length_cons] at this; omega) 1 (a : Nat) 0)
 have hx1 := (hk1.box (unhide HM0) (Nat.le_refl _) hw01).trans hx1
 have HK1 := hide hk1
 clear hm1 hk1 hx1
 go_wp2_with fail
 refine (unhide HC1).mono ?_
 rintro r w2 ⟨rfl, v2, hm2, hq2⟩
 have hk2 := (unhide HK1).trans hq2
 clear hq2
 clear g3
 have g3 := hm2.c3
 have gf := hm2.fz 3
 have hcw : IntKind.i64.wrap ((a : Int) + 1) = (a : Int) + 1 := by rw [IntKind.wrap_i64]; have := unhide HA; omega
 have hcc : ((a + 1 : Nat) : Int) = (a : Int) + 1 := by omega
 obtain ⟨hm3, hq3⟩ := hm2.count (a + 1)
 have hk3 := hk2.trans hq3
 rw [hcc] at hm3 hk3
 have HM3' := hide hm3
 have HK3' := hide hk3
 clear hm2 hk2 hq3 hm3 hk3 hcc
 go_upto_region 3 with fail
 generalize w2.setCell ⟨bc, 3, none⟩ (.int .i64 ((a : Int) + 1)) = w3 at *
 have hm3 := unhide HM3'
 have hk3 := unhide HK3'
 clear g3 gf hcw HM3' HK3'
 obtain ⟨v3, hv3⟩ : ∃ v3, v3 = v2 := ⟨_, rfl⟩
 rw [← hv3] at hm3 hk3
 clear hv3
 have HC3 := hide (kexpr_any m c.ix y.2.1.1 _ _ _ _ (unhide HIX) hm3 (by have := unhide HLEN; simp only [List.length_append, List.length_cons, List.length_nil, Kd.ex_len] at *; omega))
 have hx3 := (hk3.box (unhide HM0) (Nat.le_refl _) hw01).trans hx1
 have r3_0 : w3.cell? ⟨W.heap.size, 0, none⟩ = some (.int .i64 2) := by rw [cell_of_row w3 W.heap.size 0 _ _ _ hx3, ← unhide HCK]; rfl
 have r3_3 := (cell_of_row w3 W.heap.size 3 _ _ _ hx3).trans rfl
 have r3_4 := (cell_of_row w3 W.heap.size 4 _ _ _ hx3).trans rfl
 have r3_5 := (cell_of_row w3 W.heap.size 5 _ _ _ hx3).trans rfl
 have HK3 := hide hk3
 clear hm3 hk3 hx3
 go_wp2_with fail
 refine (unhide HC3).mono ?_
 rintro r w4 ⟨rfl, v4, hm4, hq4⟩
 have hk4 := (unhide HK3).trans hq4
 clear hq4 r3_0 r3_3 r3_4 r3_5
 have HC4 := hide (kexpr_any m c.ex y.2.1.2.1 _ _ _ _ (unhide HEX) hm4 (by have := unhide HLEN; simp only [List.length_append, List.length_cons, List.length_nil, Kd.ex_len] at *; omega))
 have hx4 := (hk4.box (unhide HM0) (Nat.le_refl _) hw01).trans hx1
 have r4_6 := (cell_of_row w4 W.heap.size 6 _ _ _ hx4).trans rfl
 have r4_7 := (cell_of_row w4 W.heap.size 7 _ _ _ hx4).trans rfl
 have r4_8 := (cell_of_row w4 W.heap.size 8 _ _ _ hx4).trans rfl
 have HK4 := hide hk4
 clear hm4 hk4 hx4
 go_wp2_with fail
 refine (unhide HC4).mono ?_
 rintro r w5 ⟨rfl, v5, hm5, hq5⟩
 have hk5 := (unhide HK4).trans hq5
 clear hq5 r4_6 r4_7 r4_8
 have HC5 := hide (kput_any hm5 (by have := unhide HLEN; simp only [List.length_append, List.length_cons, List.length_nil, Kd.ex_len] at *; omega) 7 c.v 0)
 have hx5 := (hk5.box (unhide HM0) (Nat.le_refl _) hw01).trans hx1
 have r5_1 := (cell_of_row w5 W.heap.size 1 _ _ _ hx5).trans rfl
 have HK5 := hide hk5
 clear hm5 hk5 hx5
 go_wp2_with fail
 refine (unhide HC5).mono ?_
 rintro r w6 ⟨rfl, v6, hm6, hq6⟩
 have hk6 := (unhide HK5).trans hq6
 clear hq6 r5_1
 have HP := hide (show Kd.Post w0 bc rv W LL aa (.returned (.tuple #[])) w6 from ⟨rfl, v6, by rw [unhide HLL, unhide HAA]; simpa only [List.append_assoc, List.cons_append, List.nil_append] using hm6, (unhide HK0).trans hk6⟩)
 clear hm6 hk6
 go_wp2_with fail
 go_end0
 exact unhide HP
end
end Go.Proofs.Ytpfogjplnodacaa
