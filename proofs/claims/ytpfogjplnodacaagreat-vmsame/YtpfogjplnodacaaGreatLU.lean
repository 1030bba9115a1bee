/-
  KCm2, KCm3, KCm4, KCm5. By the verifier.
-/
import Derived.Test.YtpfogjplnodacaaGreatLT
set_option maxRecDepth 100000
set_option maxHeartbeats 6400000
namespace Go.Proofs.YtpfogjplnodacaaGreat
open Go.RowKit
set_option linter.unusedVariables false
section
variable {m n : Nat} {w0 : World} {bc : Nat}
theorem kcmd_2 {j : Nat} {G : List (Pg.CT m j) → Prop} (hcs : Kd.CmdsOk w0 bc m j G) (c : Pg.C) (y : Pg.CT m (j + 1)) (W : World) (rv : Value) (l : List Kd.I) (a : Nat) (hrc : Pg.RC w0 m (j + 1) c y) (hM : Kd.M w0 W bc rv l a) (hsh : Kd.shape y) (hg1 : G y.2.2.1) (hg2 : G y.2.2.2) (hkk : y.1.1 = 2)
  (hlen : l.length + (Kd.cmd (Kd.cmds j) y l.length a).length ≤ 50000) (ha : a + Pg.cnt (j + 1) y ≤ 1000) :
  Calls Tryz.prog 104 #[.pointer (some ⟨bc, 0, none⟩), c.val] W (Kd.Post w0 bc rv W (l ++ Kd.cmd (Kd.cmds j) y l.length a) (a + Pg.cnt (j + 1) y)) := by
 have hre : Kd.cmd (Kd.cmds j) y l.length a = ⟨1, (a : Nat), 0⟩ :: (Kd.ex m y.2.1.1 ++ (Kd.ex m y.2.1.2.1 ++ [⟨7, y.1.2.1, 0⟩])) := by
  unfold Kd.cmd Kd.rest
  rw [if_neg (by omega), if_pos hkk]
 have hcn : Pg.cnt (j + 1) y = 1 := by
  show 1 + (y.2.2.1.map (Pg.cnt j)).sum + (y.2.2.2.map (Pg.cnt j)).sum = 1
  rw [hsh.2.1 (by omega), hsh.2.2 (by omega) (by omega)]
  rfl
 rw [hre] at hlen ⊢
 rw [hcn] at ha ⊢
 obtain ⟨⟨hck, hcv, hcf⟩, ⟨hix, hex, hag⟩, hth, hel⟩ := hrc
 have hb0 := (Below.refl W.heap.size W).alloc (Nat.le_refl _) (Obj.cells #[.int .i64 c.k, .int .i64 c.v, .int .i64 c.f, .int .i64 c.ix.k, .int .i64 c.ix.n, .slice c.ix.args.ad c.ix.args.len c.ix.args.cap, .int .i64 c.ex.k, .int .i64 c.ex.n, .slice c.ex.args.ad c.ex.args.len c.ex.args.cap, .slice c.args.ad c.args.len c.args.cap, .slice c.thn.ad c.thn.len c.thn.cap, .slice c.els.ad c.els.len c.els.cap] 107)
 have hx1 := heap_alloc_new W (Obj.cells #[.int .i64 c.k, .int .i64 c.v, .int .i64 c.f, .int .i64 c.ix.k, .int .i64 c.ix.n, .slice c.ix.args.ad c.ix.args.len c.ix.args.cap, .int .i64 c.ex.k, .int .i64 c.ex.n, .slice c.ex.args.ad c.ex.args.len c.ex.args.cap, .slice c.args.ad c.args.len c.args.cap, .slice c.thn.ad c.thn.len c.thn.cap, .slice c.els.ad c.els.len c.els.cap] 107)
 have HM0 := hide hM
 have HK0 := hide (Kd.Kp.below (rv := rv) hb0 hM.lt)
 have hm1 := hM.below hb0
 have hk1 : Kd.Kp bc rv rv (W.alloc (Obj.cells #[.int .i64 c.k, .int .i64 c.v, .int .i64 c.f, .int .i64 c.ix.k, .int .i64 c.ix.n, .slice c.ix.args.ad c.ix.args.len c.ix.args.cap, .int .i64 c.ex.k, .int .i64 c.ex.n, .slice c.ex.args.ad c.ex.args.len c.ex.args.cap, .slice c.args.ad c.args.len c.args.cap, .slice c.thn.ad c.thn.len c.thn.cap, .slice c.els.ad c.els.len c.els.cap] 107)) (W.alloc (Obj.cells #[.int .i64 c.k, .int .i64 c.v, .int .i64 c.f, .int .i64 c.ix.k, .int .i64 c.ix.n, .slice c.ix.args.ad c.ix.args.len c.ix.args.cap, .int .i64 c.ex.k, .int .i64 c.ex.n, .slice c.ex.args.ad c.ex.args.len c.ex.args.cap, .slice c.args.ad c.args.len c.args.cap, .slice c.thn.ad c.thn.len c.thn.cap, .slice c.els.ad c.els.len c.els.cap] 107)) := Kd.Kp.below (Below.refl _ _) hm1.lt
 have HIX := hide hix
 have HEX := hide hex
 have hw01 : W.heap.size < (W.alloc (Obj.cells #[.int .i64 c.k, .int .i64 c.v, .int .i64 c.f, .int .i64 c.ix.k, .int .i64 c.ix.n, .slice c.ix.args.ad c.ix.args.len c.ix.args.cap, .int .i64 c.ex.k, .int .i64 c.ex.n, .slice c.ex.args.ad c.ex.args.len c.ex.args.cap, .slice c.args.ad c.args.len c.args.cap, .slice c.thn.ad c.thn.len c.thn.cap, .slice c.els.ad c.els.len c.els.cap] 107)).heap.size := by simp
 have HTH := hide hth
 have HEL := hide hel
 have HAG := hide hag
 have HG1 := hide hg1
 have HG2 := hide hg2
 have HCS := hide hcs
 obtain ⟨LL, hLL⟩ : ∃ LL, LL = l ++ (⟨1, (a : Nat), 0⟩ :: (Kd.ex m y.2.1.1 ++ (Kd.ex m y.2.1.2.1 ++ [⟨7, y.1.2.1, 0⟩]))) := ⟨_, rfl⟩
 obtain ⟨aa, haa⟩ : ∃ aa, aa = a + 1 := ⟨_, rfl⟩
 rw [← hLL, ← haa]
 have HLL := hide hLL
 have HAA := hide haa
 have HA := hide ha
 have HLEN := hide hlen
 have HCK := hide (show c.k = 2 from hck.trans hkk)
 have hrc2 : Pg.RC w0 m (j + 1) c y := ⟨⟨hck, hcv, hcf⟩, ⟨hix, hex, hag⟩, hth, hel⟩
 have HRC := hide hrc2
 rw [← hcv] at HLL
 clear hM hb0 hix hex hag hth hel hg1 hg2 hcs hLL haa hlen ha hre hcn hsh hrc2 hcv hcf hck hkk
 unfold Pg.C.val
 go_enter Tryz.func104, Tryz.ntmps104
 go_upto_region 1 with fail
 generalize W.alloc (Obj.cells #[.int .i64 c.k, .int .i64 c.v, .int .i64 c.f, .int .i64 c.ix.k, .int .i64 c.ix.n, .slice c.ix.args.ad c.ix.args.len c.ix.args.cap, .int .i64 c.ex.k, .int .i64 c.ex.n, .slice c.ex.args.ad c.ex.args.len c.ex.args.cap, .slice c.args.ad c.args.len c.args.cap, .slice c.thn.ad c.thn.len c.thn.cap, .slice c.els.ad c.els.len c.els.cap] 107) = w1 at *
 have g3 := hm1.c3
 have HC1 := hide (kput_any hm1 (by have := unhide HLEN; simp only [List.length_cons] at this; omega) 1 (a : Nat) 0)
 have hx1 := (hk1.box (unhide HM0) (Nat.le_refl _) hw01).trans hx1
 have HK1 := hide hk1
 clear hm1 hk1 hx1
 go_wp2_with fail
 refine (unhide HC1).mono ?_
 rintro r w2 ⟨rfl, v2, hm2, hq2⟩
 have hk2 := (unhide HK1).trans hq2
 clear hq2
 clear g3
 have g3 := hm2.c3
 have gf := hm2.fz 3
 have hcw : IntKind.i64.wrap ((a : Int) + 1) = (a : Int) + 1 := by rw [IntKind.wrap_i64]; have := unhide HA; omega
 have hcc : ((a + 1 : Nat) : Int) = (a : Int) + 1 := by omega
 obtain ⟨hm3, hq3⟩ := hm2.count (a + 1)
 have hk3 := hk2.trans hq3
 rw [hcc] at hm3 hk3
 have HM3' := hide hm3
 have HK3' := hide hk3
 clear hm2 hk2 hq3 hm3 hk3 hcc
 go_upto_region 3 with fail
 generalize w2.setCell ⟨bc, 3, none⟩ (.int .i64 ((a : Int) + 1)) = w3 at *
 have hm3 := unhide HM3'
 have hk3 := unhide HK3'
 clear g3 gf hcw HM3' HK3'
 obtain ⟨v3, hv3⟩ : ∃ v3, v3 = v2 := ⟨_, rfl⟩
 rw [← hv3] at hm3 hk3
 clear hv3
 have HC3 := hide (kexpr_any m c.ix y.2.1.1 _ _ _ _ (unhide HIX) hm3 (by have := unhide HLEN; simp only [List.length_append, List.length_cons, List.length_nil, Kd.ex_len] at *; omega))
 have hx3 := (hk3.box (unhide HM0) (Nat.le_refl _) hw01).trans hx1
 have r3_0 : w3.cell? ⟨W.heap.size, 0, none⟩ = some (.int .i64 2) := by rw [cell_of_row w3 W.heap.size 0 _ _ _ hx3, ← unhide HCK]; rfl
 have r3_3 := (cell_of_row w3 W.heap.size 3 _ _ _ hx3).trans rfl
 have r3_4 := (cell_of_row w3 W.heap.size 4 _ _ _ hx3).trans rfl
 have r3_5 := (cell_of_row w3 W.heap.size 5 _ _ _ hx3).trans rfl
 have HK3 := hide hk3
 clear hm3 hk3 hx3
 go_wp2_with fail
 refine (unhide HC3).mono ?_
 rintro r w4 ⟨rfl, v4, hm4, hq4⟩
 have hk4 := (unhide HK3).trans hq4
 clear hq4 r3_0 r3_3 r3_4 r3_5
 have HC4 := hide (kexpr_any m c.ex y.2.1.2.1 _ _ _ _ (unhide HEX) hm4 (by have := unhide HLEN; simp only [List.length_append, List.length_cons, List.length_nil, Kd.ex_len] at *; omega))
 have hx4 := (hk4.box (unhide HM0) (Nat.le_refl _) hw01).trans hx1
 have r4_6 := (cell_of_row w4 W.heap.size 6 _ _ _ hx4).trans rfl
 have r4_7 := (cell_of_row w4 W.heap.size 7 _ _ _ hx4).trans rfl
 have r4_8 := (cell_of_row w4 W.heap.size 8 _ _ _ hx4).trans rfl
 have HK4 := hide hk4
 clear hm4 hk4 hx4
 go_wp2_with fail
 refine (unhide HC4).mono ?_
 rintro r w5 ⟨rfl, v5, hm5, hq5⟩
 have hk5 := (unhide HK4).trans hq5
 clear hq5 r4_6 r4_7 r4_8
 have HC5 := hide (kput_any hm5 (by have := unhide HLEN; simp only [List.length_append, List.length_cons, List.length_nil, Kd.ex_len] at *; omega) 7 c.v 0)
 have hx5 := (hk5.box (unhide HM0) (Nat.le_refl _) hw01).trans hx1
 have r5_1 := (cell_of_row w5 W.heap.size 1 _ _ _ hx5).trans rfl
 have HK5 := hide hk5
 clear hm5 hk5 hx5
 go_wp2_with fail
 refine (unhide HC5).mono ?_
 rintro r w6 ⟨rfl, v6, hm6, hq6⟩
 have hk6 := (unhide HK5).trans hq6
 clear hq6 r5_1
 have HP := hide (show Kd.Post w0 bc rv W LL aa (.returned (.tuple #[])) w6 from ⟨rfl, v6, by rw [unhide HLL, unhide HAA]; simpa only [List.append_assoc, List.cons_append, List.nil_append] using hm6, (unhide HK0).trans hk6⟩)
 clear hm6 hk6
 go_wp2_with fail
 go_end0
 exact unhide HP
end
end Go.Proofs.YtpfogjplnodacaaGreat
namespace Go.Proofs.YtpfogjplnodacaaGreat
open Go.RowKit
set_option linter.unusedVariables false
section
variable {m n : Nat} {w0 : World} {bc : Nat}
theorem kcmd_3 {j : Nat} {G : List (Pg.CT m j) → Prop} (hcs : Kd.CmdsOk w0 bc m j G) (c : Pg.C) (y : Pg.CT m (j + 1)) (W : World) (rv : Value) (l : List Kd.I) (a : Nat) (hrc : Pg.RC w0 m (j + 1) c y) (hM : Kd.M w0 W bc rv l a) (hsh : Kd.shape y) (hg1 : G y.2.2.1) (hg2 : G y.2.2.2) (hkk : y.1.1 = 3)
  (hlen : l.length + (Kd.cmd (Kd.cmds j) y l.length a).length ≤ 50000) (ha : a + Pg.cnt (j + 1) y ≤ 1000) :
  Calls Tryz.prog 104 #[.pointer (some ⟨bc, 0, none⟩), c.val] W (Kd.Post w0 bc rv W (l ++ Kd.cmd (Kd.cmds j) y l.length a) (a + Pg.cnt (j + 1) y)) := by
 have hre : Kd.cmd (Kd.cmds j) y l.length a = ⟨1, (a : Nat), 0⟩ :: (Kd.exs y.2.1.2.2 ++ [⟨12, y.1.2.2, (y.2.1.2.2.length : Nat)⟩, ⟨6, y.1.2.1, 0⟩]) := by
  unfold Kd.cmd Kd.rest
  rw [if_neg (by omega), if_neg (by omega), if_pos hkk]
 have hcn : Pg.cnt (j + 1) y = 1 := by
  show 1 + (y.2.2.1.map (Pg.cnt j)).sum + (y.2.2.2.map (Pg.cnt j)).sum = 1
  rw [hsh.2.1 (by omega), hsh.2.2 (by omega) (by omega)]
  rfl
 rw [hre] at hlen ⊢
 rw [hcn] at ha ⊢
 obtain ⟨⟨hck, hcv, hcf⟩, ⟨hix, hex, hag⟩, hth, hel⟩ := hrc
 have hb0 := (Below.refl W.heap.size W).alloc (Nat.le_refl _) (Obj.cells #[.int .i64 c.k, .int .i64 c.v, .int .i64 c.f, .int .i64 c.ix.k, .int .i64 c.ix.n, .slice c.ix.args.ad c.ix.args.len c.ix.args.cap, .int .i64 c.ex.k, .int .i64 c.ex.n, .slice c.ex.args.ad c.ex.args.len c.ex.args.cap, .slice c.args.ad c.args.len c.args.cap, .slice c.thn.ad c.thn.len c.thn.cap, .slice c.els.ad c.els.len c.els.cap] 107)
 have hx1 := heap_alloc_new W (Obj.cells #[.int .i64 c.k, .int .i64 c.v, .int .i64 c.f, .int .i64 c.ix.k, .int .i64 c.ix.n, .slice c.ix.args.ad c.ix.args.len c.ix.args.cap, .int .i64 c.ex.k, .int .i64 c.ex.n, .slice c.ex.args.ad c.ex.args.len c.ex.args.cap, .slice c.args.ad c.args.len c.args.cap, .slice c.thn.ad c.thn.len c.thn.cap, .slice c.els.ad c.els.len c.els.cap] 107)
 have HM0 := hide hM
 have HK0 := hide (Kd.Kp.below (rv := rv) hb0 hM.lt)
 have hm1 := hM.below hb0
 have hk1 : Kd.Kp bc rv rv (W.alloc (Obj.cells #[.int .i64 c.k, .int .i64 c.v, .int .i64 c.f, .int .i64 c.ix.k, .int .i64 c.ix.n, .slice c.ix.args.ad c.ix.args.len c.ix.args.cap, .int .i64 c.ex.k, .int .i64 c.ex.n, .slice c.ex.args.ad c.ex.args.len c.ex.args.cap, .slice c.args.ad c.args.len c.args.cap, .slice c.thn.ad c.thn.len c.thn.cap, .slice c.els.ad c.els.len c.els.cap] 107)) (W.alloc (Obj.cells #[.int .i64 c.k, .int .i64 c.v, .int .i64 c.f, .int .i64 c.ix.k, .int .i64 c.ix.n, .slice c.ix.args.ad c.ix.args.len c.ix.args.cap, .int .i64 c.ex.k, .int .i64 c.ex.n, .slice c.ex.args.ad c.ex.args.len c.ex.args.cap, .slice c.args.ad c.args.len c.args.cap, .slice c.thn.ad c.thn.len c.thn.cap, .slice c.els.ad c.els.len c.els.cap] 107)) := Kd.Kp.below (Below.refl _ _) hm1.lt
 have HIX := hide hix
 have HEX := hide hex
 have hw01 : W.heap.size < (W.alloc (Obj.cells #[.int .i64 c.k, .int .i64 c.v, .int .i64 c.f, .int .i64 c.ix.k, .int .i64 c.ix.n, .slice c.ix.args.ad c.ix.args.len c.ix.args.cap, .int .i64 c.ex.k, .int .i64 c.ex.n, .slice c.ex.args.ad c.ex.args.len c.ex.args.cap, .slice c.args.ad c.args.len c.args.cap, .slice c.thn.ad c.thn.len c.thn.cap, .slice c.els.ad c.els.len c.els.cap] 107)).heap.size := by simp
 have HTH := hide hth
 have HEL := hide hel
 have HAG := hide hag
 have HG1 := hide hg1
 have HG2 := hide hg2
 have HCS := hide hcs
 obtain ⟨LL, hLL⟩ : ∃ LL, LL = l ++ (⟨1, (a : Nat), 0⟩ :: (Kd.exs y.2.1.2.2 ++ [⟨12, y.1.2.2, (y.2.1.2.2.length : Nat)⟩, ⟨6, y.1.2.1, 0⟩])) := ⟨_, rfl⟩
 obtain ⟨aa, haa⟩ : ∃ aa, aa = a + 1 := ⟨_, rfl⟩
 rw [← hLL, ← haa]
 have HLL := hide hLL
 have HAA := hide haa
 have HA := hide ha
 have HLEN := hide hlen
 have HCK := hide (show c.k = 3 from hck.trans hkk)
 have hrc2 : Pg.RC w0 m (j + 1) c y := ⟨⟨hck, hcv, hcf⟩, ⟨hix, hex, hag⟩, hth, hel⟩
 have HRC := hide hrc2
 rw [← hcv, ← hcf] at HLL
 clear hM hb0 hix hex hag hth hel hg1 hg2 hcs hLL haa hlen ha hre hcn hsh hrc2 hcv hcf hck hkk
 unfold Pg.C.val
 go_enter Tryz.func104, Tryz.ntmps104
 go_upto_region 1 with fail
 generalize W.alloc (Obj.cells #[.int .i64 c.k, .int .i64 c.v, .int .i64 c.f, .int .i64 c.ix.k, .int .i64 c.ix.n, .slice c.ix.args.ad c.ix.args.len c.ix.args.cap, .int .i64 c.ex.k, .int .i64 c.ex.n, .slice c.ex.args.ad c.ex.args.len c.ex.args.cap, .slice c.args.ad c.args.len c.args.cap, .slice c.thn.ad c.thn.len c.thn.cap, .slice c.els.ad c.els.len c.els.cap] 107) = w1 at *
 have g3 := hm1.c3
 have HC1 := hide (kput_any hm1 (by have := unhide HLEN; simp only [List.length_cons] at this; omega) 1 (a : Nat) 0)
 have hx1 := (hk1.box (unhide HM0) (Nat.le_refl _) hw01).trans hx1
 have HK1 := hide hk1
 clear hm1 hk1 hx1
 go_wp2_with fail
 refine (unhide HC1).mono ?_
 rintro r w2 ⟨rfl, v2, hm2, hq2⟩
 have hk2 := (unhide HK1).trans hq2
 clear hq2
 clear g3
 have g3 := hm2.c3
 have gf := hm2.fz 3
 have hcw : IntKind.i64.wrap ((a : Int) + 1) = (a : Int) + 1 := by rw [IntKind.wrap_i64]; have := unhide HA; omega
 have hcc : ((a + 1 : Nat) : Int) = (a : Int) + 1 := by omega
 obtain ⟨hm3, hq3⟩ := hm2.count (a + 1)
 have hk3 := hk2.trans hq3
 rw [hcc] at hm3 hk3
 have HM3' := hide hm3
 have HK3' := hide hk3
 clear hm2 hk2 hq3 hm3 hk3 hcc
 go_upto_region 3 with fail
 generalize w2.setCell ⟨bc, 3, none⟩ (.int .i64 ((a : Int) + 1)) = w3 at *
 have hm3 := unhide HM3'
 have hk3 := unhide HK3'
 clear g3 gf hcw HM3' HK3'
 obtain ⟨v3, hv3⟩ : ∃ v3, v3 = v2 := ⟨_, rfl⟩
 rw [← hv3] at hm3 hk3
 clear hv3
 have hal := (unhide HAG).len
 have haf := (unhide HAG).few
 rw [← hal] at haf
 have HAL := hide hal
 have hx3 := (hk3.box (unhide HM0) (Nat.le_refl _) hw01).trans hx1
 have r3_0 : w3.cell? ⟨W.heap.size, 0, none⟩ = some (.int .i64 3) := by rw [cell_of_row w3 W.heap.size 0 _ _ _ hx3, ← unhide HCK]; rfl
 have r3_9 := (cell_of_row w3 W.heap.size 9 _ _ _ hx3).trans rfl
 have HM3 := hide hm3
 have HK3 := hide hk3
 have HX3 := hide hx3
 have hb3 : W.heap.size < w3.heap.size := Nat.lt_of_lt_of_le hw01 hk3.sz
 have hs3 := hk3.sz
 clear hm3 hk3 hal hx3
 generalize y.2.1.2.2 = xs at *
 obtain ⟨ad, had0⟩ : ∃ ad, ad = c.args.ad := ⟨_, rfl⟩
 rw [← had0] at r3_9
 have HAD := hide had0
 clear had0
 generalize c.args.len = an at *
 generalize c.args.cap = ac at *
 go_wp2_with fail
 clear r3_0
 go_loopw [51] (fun iv wr => ∃ i : Nat, i ≤ an ∧ iv = .int .i64 i ∧ Kd.Ax w0 w3 wr bc v3 (l ++ [⟨1, (a : Nat), 0⟩]) (a + 1) xs i) (fun iv _ => an - (intOf iv).toNat)
 case atStart => exact ⟨0, Nat.zero_le _, rfl, ⟨v3, by rw [List.take_zero, show Kd.exs ([] : List (Pg.XT m)) = [] from rfl, List.append_nil]; exact unhide HM3, Kd.Kp.below (Below.refl _ _) (unhide HM3).lt⟩⟩
 case round =>
  obtain ⟨i, hi, rfl, hax⟩ := hrel
  obtain ⟨rv2, hm2, hk2⟩ := hax.it
  by_cases hlt : i < an
  · have hlt2 : i < xs.length := by have := unhide HAL; omega
    have hy := List.getElem?_eq_getElem hlt2
    obtain ⟨bb, o, cc, had, hbl, hlies, hrd⟩ := (unhide HAG).at_ i _ hy
    have hpl := Kd.parts_le hy
    have HY := hide hy
    generalize xs[i] = yy at *
    obtain ⟨p0, p1, p2⟩ := hlies.later hm2.bel (Nat.le_refl _) hbl
    have had' : ad = some ⟨bb, o, none⟩ := (unhide HAD).trans had
    have hal := (Below.refl wr.heap.size wr).alloc (Nat.le_refl _) (Obj.cells #[.int .i64 cc.k, .int .i64 cc.n, .slice cc.args.ad cc.args.len cc.args.cap] 69)
    have HC := hide (kexpr_any m cc yy _ rv2 _ _ hrd (hm2.below hal) (by rw [List.length_append, Kd.exs_len]; have := unhide HLEN; simp only [List.length_append, List.length_cons, List.length_nil, Kd.exs_len] at this ⊢; omega))
    unfold Pg.E.val at HC
    have HNX := hide (fun (w5 : World) => Kd.Ax.next (w5 := w5) hm2 hk2 (unhide HY) hal)
    have hi0' : (0 : Int) ≤ (i : Int) := by omega
    have hi1' : (i : Int) < (an : Int) := by omega
    clear hy hbl hlies hrd had hlt2 hal hm2 hk2 hax
    subst had'
    go_wp2_with fail
    refine (unhide HC).mono ?_
    rintro r w5 ⟨rfl, hp5⟩
    have HA5 := hide ((unhide HNX) w5 hp5)
    clear hp5
    go_wp2_with fail
    exact ⟨⟨i + 1, by omega, by go_num, unhide HA5⟩, by simp [intOf]; omega⟩
  · have hie : i = an := by omega
    subst hie
    rw [List.take_of_length_le (by have := unhide HAL; omega)] at hm2
    obtain ⟨w4, hw4⟩ : ∃ w4, w4 = wr := ⟨_, rfl⟩
    obtain ⟨v4, hv4⟩ : ∃ v4, v4 = rv2 := ⟨_, rfl⟩
    rw [← hw4]
    rw [← hw4, ← hv4] at hm2 hk2
    have hm4 := hm2
    have hk4 := (unhide HK3).trans hk2
    clear hm2 hk2 hax hw4 hv4
    have HC4 := hide (kput_any hm4 (by have := unhide HLEN; simp only [List.length_append, List.length_cons, List.length_nil, Kd.exs_len] at *; omega) 12 c.f (i : Nat))
    have hx4 := (hk4.box (unhide HM0) (Nat.le_refl _) hw01).trans hx1
    have r4_2 := (cell_of_row w4 W.heap.size 2 _ _ _ hx4).trans rfl
    have r4_9 := (cell_of_row w4 W.heap.size 9 _ _ _ hx4).trans rfl
    have HK4 := hide hk4
    clear hm4 hk4 hx4
    go_wp2_with fail
    refine (unhide HC4).mono ?_
    rintro r w5 ⟨rfl, v5, hm5, hq5⟩
    have hk5 := (unhide HK4).trans hq5
    clear hq5 r4_2 r4_9
    have HC5 := hide (kput_any hm5 (by have := unhide HLEN; simp only [List.length_append, List.length_cons, List.length_nil, Kd.exs_len] at *; omega) 6 c.v 0)
    have hx5 := (hk5.box (unhide HM0) (Nat.le_refl _) hw01).trans hx1
    have r5_1 := (cell_of_row w5 W.heap.size 1 _ _ _ hx5).trans rfl
    have HK5 := hide hk5
    clear hm5 hk5 hx5
    go_wp2_with fail
    refine (unhide HC5).mono ?_
    rintro r w6 ⟨rfl, v6, hm6, hq6⟩
    have hk6 := (unhide HK5).trans hq6
    clear hq6 r5_1
    have HLL2 := hide (show LL = l ++ (⟨1, (a : Nat), 0⟩ :: (Kd.exs xs ++ [⟨12, c.f, (i : Nat)⟩, ⟨6, c.v, 0⟩])) from by rw [unhide HLL, unhide HAL])
    have HP := hide (show Kd.Post w0 bc rv W LL aa (.returned (.tuple #[])) w6 from ⟨rfl, v6, by rw [unhide HLL2, unhide HAA]; simpa only [List.append_assoc, List.cons_append, List.nil_append] using hm6, (unhide HK0).trans hk6⟩)
    clear hm6 hk6
    go_wp2_with fail
    go_end0
    exact unhide HP
end
end Go.Proofs.YtpfogjplnodacaaGreat
namespace Go.Proofs.YtpfogjplnodacaaGreat
open Go.RowKit
set_option linter.unusedVariables false
section
variable {m n : Nat} {w0 : World} {bc : Nat}
theorem kcmd_4 {j : Nat} {G : List (Pg.CT m j) → Prop} (hcs : Kd.CmdsOk w0 bc m j G) (c : Pg.C) (y : Pg.CT m (j + 1)) (W : World) (rv : Value) (l : List Kd.I) (a : Nat) (hrc : Pg.RC w0 m (j + 1) c y) (hM : Kd.M w0 W bc rv l a) (hsh : Kd.shape y) (hg1 : G y.2.2.1) (hg2 : G y.2.2.2) (hkk : y.1.1 = 4)
  (hlen : l.length + (Kd.cmd (Kd.cmds j) y l.length a).length ≤ 50000) (ha : a + Pg.cnt (j + 1) y ≤ 1000) :
  Calls Tryz.prog 104 #[.pointer (some ⟨bc, 0, none⟩), c.val] W (Kd.Post w0 bc rv W (l ++ Kd.cmd (Kd.cmds j) y l.length a) (a + Pg.cnt (j + 1) y)) := by
 have hre : Kd.cmd (Kd.cmds j) y l.length a = ⟨1, (a : Nat), 0⟩ :: ([⟨8, y.1.2.1, 0⟩]) := by
  unfold Kd.cmd Kd.rest
  rw [if_neg (by omega), if_neg (by omega), if_neg (by omega), if_pos hkk]
 have hcn : Pg.cnt (j + 1) y = 1 := by
  show 1 + (y.2.2.1.map (Pg.cnt j)).sum + (y.2.2.2.map (Pg.cnt j)).sum = 1
  rw [hsh.2.1 (by omega), hsh.2.2 (by omega) (by omega)]
  rfl
 rw [hre] at hlen ⊢
 rw [hcn] at ha ⊢
 obtain ⟨⟨hck, hcv, hcf⟩, ⟨hix, hex, hag⟩, hth, hel⟩ := hrc
 have hb0 := (Below.refl W.heap.size W).alloc (Nat.le_refl _) (Obj.cells #[.int .i64 c.k, .int .i64 c.v, .int .i64 c.f, .int .i64 c.ix.k, .int .i64 c.ix.n, .slice c.ix.args.ad c.ix.args.len c.ix.args.cap, .int .i64 c.ex.k, .int .i64 c.ex.n, .slice c.ex.args.ad c.ex.args.len c.ex.args.cap, .slice c.args.ad c.args.len c.args.cap, .slice c.thn.ad c.thn.len c.thn.cap, .slice c.els.ad c.els.len c.els.cap] 107)
 have hx1 := heap_alloc_new W (Obj.cells #[.int .i64 c.k, .int .i64 c.v, .int .i64 c.f, .int .i64 c.ix.k, .int .i64 c.ix.n, .slice c.ix.args.ad c.ix.args.len c.ix.args.cap, .int .i64 c.ex.k, .int .i64 c.ex.n, .slice c.ex.args.ad c.ex.args.len c.ex.args.cap, .slice c.args.ad c.args.len c.args.cap, .slice c.thn.ad c.thn.len c.thn.cap, .slice c.els.ad c.els.len c.els.cap] 107)
 have HM0 := hide hM
 have HK0 := hide (Kd.Kp.below (rv := rv) hb0 hM.lt)
 have hm1 := hM.below hb0
 have hk1 : Kd.Kp bc rv rv (W.alloc (Obj.cells #[.int .i64 c.k, .int .i64 c.v, .int .i64 c.f, .int .i64 c.ix.k, .int .i64 c.ix.n, .slice c.ix.args.ad c.ix.args.len c.ix.args.cap, .int .i64 c.ex.k, .int .i64 c.ex.n, .slice c.ex.args.ad c.ex.args.len c.ex.args.cap, .slice c.args.ad c.args.len c.args.cap, .slice c.thn.ad c.thn.len c.thn.cap, .slice c.els.ad c.els.len c.els.cap] 107)) (W.alloc (Obj.cells #[.int .i64 c.k, .int .i64 c.v, .int .i64 c.f, .int .i64 c.ix.k, .int .i64 c.ix.n, .slice c.ix.args.ad c.ix.args.len c.ix.args.cap, .int .i64 c.ex.k, .int .i64 c.ex.n, .slice c.ex.args.ad c.ex.args.len c.ex.args.cap, .slice c.args.ad c.args.len c.args.cap, .slice c.thn.ad c.thn.len c.thn.cap, .slice c.els.ad c.els.len c.els.cap] 107)) := Kd.Kp.below (Below.refl _ _) hm1.lt
 have HIX := hide hix
 have HEX := hide hex
 have hw01 : W.heap.size < (W.alloc (Obj.cells #[.int .i64 c.k, .int .i64 c.v, .int .i64 c.f, .int .i64 c.ix.k, .int .i64 c.ix.n, .slice c.ix.args.ad c.ix.args.len c.ix.args.cap, .int .i64 c.ex.k, .int .i64 c.ex.n, .slice c.ex.args.ad c.ex.args.len c.ex.args.cap, .slice c.args.ad c.args.len c.args.cap, .slice c.thn.ad c.thn.len c.thn.cap, .slice c.els.ad c.els.len c.els.cap] 107)).heap.size := by simp
 have HTH := hide hth
 have HEL := hide hel
 have HAG := hide hag
 have HG1 := hide hg1
 have HG2 := hide hg2
 have HCS := hide hcs
 obtain ⟨LL, hLL⟩ : ∃ LL, LL = l ++ (⟨1, (a : Nat), 0⟩ :: ([⟨8, y.1.2.1, 0⟩])) := ⟨_, rfl⟩
 obtain ⟨aa, haa⟩ : ∃ aa, aa = a + 1 := ⟨_, rfl⟩
 rw [← hLL, ← haa]
 have HLL := hide hLL
 have HAA := hide haa
 have HA := hide ha
 have HLEN := hide hlen
 have HCK := hide (show c.k = 4 from hck.trans hkk)
 have hrc2 : Pg.RC w0 m (j + 1) c y := ⟨⟨hck, hcv, hcf⟩, ⟨hix, hex, hag⟩, hth, hel⟩
 have HRC := hide hrc2
 rw [← hcv] at HLL
 clear hM hb0 hix hex hag hth hel hg1 hg2 hcs hLL haa hlen ha hre hcn hsh hrc2 hcv hcf hck hkk
 unfold Pg.C.val
 go_enter Tryz.func104, Tryz.ntmps104
 go_upto_region 1 with fail
 generalize W.alloc (Obj.cells #[.int .i64 c.k, .int .i64 c.v, .int .i64 c.f, .int .i64 c.ix.k, .int .i64 c.ix.n, .slice c.ix.args.ad c.ix.args.len c.ix.args.cap, .int .i64 c.ex.k, .int .i64 c.ex.n, .slice c.ex.args.ad c.ex.args.len c.ex.args.cap, .slice c.args.ad c.args.len c.args.cap, .slice c.thn.ad c.thn.len c.thn.cap, .slice c.els.ad c.els.len c.els.cap] 107) = w1 at *
 have g3 := hm1.c3
 have HC1 := hide (kput_any hm1 (by have := unhide HLEN; simp only [List.length_cons] at this; omega) 1 (a : Nat) 0)
 have hx1 := (hk1.box (unhide HM0) (Nat.le_refl _) hw01).trans hx1
 have HK1 := hide hk1
 clear hm1 hk1 hx1
 go_wp2_with fail
 refine (unhide HC1).mono ?_
 rintro r w2 ⟨rfl, v2, hm2, hq2⟩
 have hk2 := (unhide HK1).trans hq2
 clear hq2
 clear g3
 have g3 := hm2.c3
 have gf := hm2.fz 3
 have hcw : IntKind.i64.wrap ((a : Int) + 1) = (a : Int) + 1 := by rw [IntKind.wrap_i64]; have := unhide HA; omega
 have hcc : ((a + 1 : Nat) : Int) = (a : Int) + 1 := by omega
 obtain ⟨hm3, hq3⟩ := hm2.count (a + 1)
 have hk3 := hk2.trans hq3
 rw [hcc] at hm3 hk3
 have HM3' := hide hm3
 have HK3' := hide hk3
 clear hm2 hk2 hq3 hm3 hk3 hcc
 go_upto_region 3 with fail
 generalize w2.setCell ⟨bc, 3, none⟩ (.int .i64 ((a : Int) + 1)) = w3 at *
 have hm3 := unhide HM3'
 have hk3 := unhide HK3'
 clear g3 gf hcw HM3' HK3'
 obtain ⟨v3, hv3⟩ : ∃ v3, v3 = v2 := ⟨_, rfl⟩
 rw [← hv3] at hm3 hk3
 clear hv3
 have HC3 := hide (kput_any hm3 (by have := unhide HLEN; simp only [List.length_append, List.length_cons, List.length_nil] at *; omega) 8 c.v 0)
 have hx3 := (hk3.box (unhide HM0) (Nat.le_refl _) hw01).trans hx1
 have r3_0 : w3.cell? ⟨W.heap.size, 0, none⟩ = some (.int .i64 4) := by rw [cell_of_row w3 W.heap.size 0 _ _ _ hx3, ← unhide HCK]; rfl
 have r3_1 := (cell_of_row w3 W.heap.size 1 _ _ _ hx3).trans rfl
 have HK3 := hide hk3
 clear hm3 hk3 hx3
 go_wp2_with fail
 refine (unhide HC3).mono ?_
 rintro r w4 ⟨rfl, v4, hm4, hq4⟩
 have hk4 := (unhide HK3).trans hq4
 clear hq4 r3_0 r3_1
 have HP := hide (show Kd.Post w0 bc rv W LL aa (.returned (.tuple #[])) w4 from ⟨rfl, v4, by rw [unhide HLL, unhide HAA]; simpa only [List.append_assoc, List.cons_append, List.nil_append] using hm4, (unhide HK0).trans hk4⟩)
 clear hm4 hk4
 go_wp2_with fail
 go_end0
 exact unhide HP
end
end Go.Proofs.YtpfogjplnodacaaGreat
namespace Go.Proofs.YtpfogjplnodacaaGreat
open Go.RowKit
set_option linter.unusedVariables false
section
variable {m n : Nat} {w0 : World} {bc : Nat}
theorem kcmd_5 {j : Nat} {G : List (Pg.CT m j) → Prop} (hcs : Kd.CmdsOk w0 bc m j G) (c : Pg.C) (y : Pg.CT m (j + 1)) (W : World) (rv : Value) (l : List Kd.I) (a : Nat) (hrc : Pg.RC w0 m (j + 1) c y) (hM : Kd.M w0 W bc rv l a) (hsh : Kd.shape y) (hg1 : G y.2.2.1) (hg2 : G y.2.2.2) (hkk : y.1.1 = 5)
  (hlen : l.length + (Kd.cmd (Kd.cmds j) y l.length a).length ≤ 50000) (ha : a + Pg.cnt (j + 1) y ≤ 1000) :
  Calls Tryz.prog 104 #[.pointer (some ⟨bc, 0, none⟩), c.val] W (Kd.Post w0 bc rv W (l ++ Kd.cmd (Kd.cmds j) y l.length a) (a + Pg.cnt (j + 1) y)) := by
 have hre : Kd.cmd (Kd.cmds j) y l.length a = ⟨1, (a : Nat), 0⟩ :: (Kd.ex m y.2.1.2.1 ++ [⟨9, 0, 0⟩]) := by
  unfold Kd.cmd Kd.rest
  rw [if_neg (by omega), if_neg (by omega), if_neg (by omega), if_neg (by omega), if_pos hkk]
 have hcn : Pg.cnt (j + 1) y = 1 := by
  show 1 + (y.2.2.1.map (Pg.cnt j)).sum + (y.2.2.2.map (Pg.cnt j)).sum = 1
  rw [hsh.2.1 (by omega), hsh.2.2 (by omega) (by omega)]
  rfl
 rw [hre] at hlen ⊢
 rw [hcn] at ha ⊢
 obtain ⟨⟨hck, hcv, hcf⟩, ⟨hix, hex, hag⟩, hth, hel⟩ := hrc
 have hb0 := (Below.refl W.heap.size W).alloc (Nat.le_refl _) (Obj.cells #[.int .i64 c.k, .int .i64 c.v, .int .i64 c.f, .int .i64 c.ix.k, .int .i64 c.ix.n, .slice c.ix.args.ad c.ix.args.len c.ix.args.cap, .int .i64 c.ex.k, .int .i64 c.ex.n, .slice c.ex.args.ad c.ex.args.len c.ex.args.cap, .slice c.args.ad c.args.len c.args.cap, .slice c.thn.ad c.thn.len c.thn.cap, .slice c.els.ad c.els.len c.els.cap] 107)
 have hx1 := heap_alloc_new W (Obj.cells #[.int .i64 c.k, .int .i64 c.v, .int .i64 c.f, .int .i64 c.ix.k, .int .i64 c.ix.n, .slice c.ix.args.ad c.ix.args.len c.ix.args.cap, .int .i64 c.ex.k, .int .i64 c.ex.n, .slice c.ex.args.ad c.ex.args.len c.ex.args.cap, .slice c.args.ad c.args.len c.args.cap, .slice c.thn.ad c.thn.len c.thn.cap, .slice c.els.ad c.els.len c.els.cap] 107)
 have HM0 := hide hM
 have HK0 := hide (Kd.Kp.below (rv := rv) hb0 hM.lt)
 have hm1 := hM.below hb0
 have hk1 : Kd.Kp bc rv rv (W.alloc (Obj.cells #[.int .i64 c.k, .int .i64 c.v, .int .i64 c.f, .int .i64 c.ix.k, .int .i64 c.ix.n, .slice c.ix.args.ad c.ix.args.len c.ix.args.cap, .int .i64 c.ex.k, .int .i64 c.ex.n, .slice c.ex.args.ad c.ex.args.len c.ex.args.cap, .slice c.args.ad c.args.len c.args.cap, .slice c.thn.ad c.thn.len c.thn.cap, .slice c.els.ad c.els.len c.els.cap] 107)) (W.alloc (Obj.cells #[.int .i64 c.k, .int .i64 c.v, .int .i64 c.f, .int .i64 c.ix.k, .int .i64 c.ix.n, .slice c.ix.args.ad c.ix.args.len c.ix.args.cap, .int .i64 c.ex.k, .int .i64 c.ex.n, .slice c.ex.args.ad c.ex.args.len c.ex.args.cap, .slice c.args.ad c.args.len c.args.cap, .slice c.thn.ad c.thn.len c.thn.cap, .slice c.els.ad c.els.len c.els.cap] 107)) := Kd.Kp.below (Below.refl _ _) hm1.lt
 have HIX := hide hix
 have HEX := hide hex
 have hw01 : W.heap.size < (W.alloc (Obj.cells #[.int .i64 c.k, .int .i64 c.v, .int .i64 c.f, .int .i64 c.ix.k, .int .i64 c.ix.n, .slice c.ix.args.ad c.ix.args.len c.ix.args.cap, .int .i64 c.ex.k, .int .i64 c.ex.n, .slice c.ex.args.ad c.ex.args.len c.ex.args.cap, .slice c.args.ad c.args.len c.args.cap, .slice c.thn.ad c.thn.len c.thn.cap, .slice c.els.ad c.els.len c.els.cap] 107)).heap.size := by simp
 have HTH := hide hth
 have HEL := hide hel
 have HAG := hide hag
 have HG1 := hide hg1
 have HG2 := hide hg2
 have HCS := hide hcs
 obtain ⟨LL, hLL⟩ : ∃ LL, LL = l ++ (⟨1, (a : Nat), 0⟩ :: (Kd.ex m y.2.1.2.1 ++ [⟨9, 0, 0⟩])) := ⟨_, rfl⟩
 obtain ⟨aa, haa⟩ : ∃ aa, aa = a + 1 := ⟨_, rfl⟩
 rw [← hLL, ← haa]
 have HLL := hide hLL
 have HAA := hide haa
 have HA := hide ha
 have HLEN := hide hlen
 have HCK := hide (show c.k = 5 from hck.trans hkk)
 have hrc2 : Pg.RC w0 m (j + 1) c y := ⟨⟨hck, hcv, hcf⟩, ⟨hix, hex, hag⟩, hth, hel⟩
 have HRC := hide hrc2
 clear hM hb0 hix hex hag hth hel hg1 hg2 hcs hLL haa hlen ha hre hcn hsh hrc2 hcv hcf hck hkk
 unfold Pg.C.val
 go_enter Tryz.func104, Tryz.ntmps104
 go_upto_region 1 with fail
 generalize W.alloc (Obj.cells #[.int .i64 c.k, .int .i64 c.v, .int .i64 c.f, .int .i64 c.ix.k, .int .i64 c.ix.n, .slice c.ix.args.ad c.ix.args.len c.ix.args.cap, .int .i64 c.ex.k, .int .i64 c.ex.n, .slice c.ex.args.ad c.ex.args.len c.ex.args.cap, .slice c.args.ad c.args.len c.args.cap, .slice c.thn.ad c.thn.len c.thn.cap, .slice c.els.ad c.els.len c.els.cap] 107) = w1 at *
 have g3 := hm1.c3
 have HC1 := hide (kput_any hm1 (by have := unhide HLEN; simp only [List.length_cons] at this; omega) 1 (a : Nat) 0)
 have hx1 := (hk1.box (unhide HM0) (Nat.le_refl _) hw01).trans hx1
 have HK1 := hide hk1
 clear hm1 hk1 hx1
 go_wp2_with fail
 refine (unhide HC1).mono ?_
 rintro r w2 ⟨rfl, v2, hm2, hq2⟩
 have hk2 := (unhide HK1).trans hq2
 clear hq2
 clear g3
 have g3 := hm2.c3
 have gf := hm2.fz 3
 have hcw : IntKind.i64.wrap ((a : Int) + 1) = (a : Int) + 1 := by rw [IntKind.wrap_i64]; have := unhide HA; omega
 have hcc : ((a + 1 : Nat) : Int) = (a : Int) + 1 := by omega
 obtain ⟨hm3, hq3⟩ := hm2.count (a + 1)
 have hk3 := hk2.trans hq3
 rw [hcc] at hm3 hk3
 have HM3' := hide hm3
 have HK3' := hide hk3
 clear hm2 hk2 hq3 hm3 hk3 hcc
 go_upto_region 3 with fail
 generalize w2.setCell ⟨bc, 3, none⟩ (.int .i64 ((a : Int) + 1)) = w3 at *
 have hm3 := unhide HM3'
 have hk3 := unhide HK3'
 clear g3 gf hcw HM3' HK3'
 obtain ⟨v3, hv3⟩ : ∃ v3, v3 = v2 := ⟨_, rfl⟩
 rw [← hv3] at hm3 hk3
 clear hv3
 have HC3 := hide (kexpr_any m c.ex y.2.1.2.1 _ _ _ _ (unhide HEX) hm3 (by have := unhide HLEN; simp only [List.length_append, List.length_cons, List.length_nil, Kd.ex_len] at *; omega))
 have hx3 := (hk3.box (unhide HM0) (Nat.le_refl _) hw01).trans hx1
 have r3_0 : w3.cell? ⟨W.heap.size, 0, none⟩ = some (.int .i64 5) := by rw [cell_of_row w3 W.heap.size 0 _ _ _ hx3, ← unhide HCK]; rfl
 have r3_6 := (cell_of_row w3 W.heap.size 6 _ _ _ hx3).trans rfl
 have r3_7 := (cell_of_row w3 W.heap.size 7 _ _ _ hx3).trans rfl
 have r3_8 := (cell_of_row w3 W.heap.size 8 _ _ _ hx3).trans rfl
 have HK3 := hide hk3
 clear hm3 hk3 hx3
 go_wp2_with fail
 refine (unhide HC3).mono ?_
 rintro r w4 ⟨rfl, v4, hm4, hq4⟩
 have hk4 := (unhide HK3).trans hq4
 clear hq4 r3_0 r3_6 r3_7 r3_8
 have HC4 := hide (kput_any hm4 (by have := unhide HLEN; simp only [List.length_append, List.length_cons, List.length_nil, Kd.ex_len] at *; omega) 9 0 0)
 have hx4 := (hk4.box (unhide HM0) (Nat.le_refl _) hw01).trans hx1
 have HK4 := hide hk4
 clear hm4 hk4 hx4
 go_wp2_with fail
 refine (unhide HC4).mono ?_
 rintro r w5 ⟨rfl, v5, hm5, hq5⟩
 have hk5 := (unhide HK4).trans hq5
 clear hq5
 have HP := hide (show Kd.Post w0 bc rv W LL aa (.returned (.tuple #[])) w5 from ⟨rfl, v5, by rw [unhide HLL, unhide HAA]; simpa only [List.append_assoc, List.cons_append, List.nil_append] using hm5, (unhide HK0).trans hk5⟩)
 clear hm5 hk5
 go_wp2_with fail
 go_end0
 exact unhide HP
end
end Go.Proofs.YtpfogjplnodacaaGreat
