/-
  KCm6, KCm7, KCmds, KFn. By the verifier.
-/
import Derived.Test.YtpfogjplnodacaaGreatLT
import Derived.Test.YtpfogjplnodacaaGreatLU
import Derived.Test.YtpfogjplnodacaaGreatLS
import Derived.Deep.RegionLaw
import Derived.Deep.Cut
set_option maxRecDepth 100000
set_option maxHeartbeats 6400000
namespace Go.Proofs.YtpfogjplnodacaaGreat
open Go.RowKit
set_option linter.unusedVariables false
section
variable {m n : Nat} {w0 : World} {bc : Nat}
theorem kcmd_6 {j : Nat} {G : List (Pg.CT m j) → Prop} (hcs : Kd.CmdsOk w0 bc m j G) (c : Pg.C) (y : Pg.CT m (j + 1)) (W : World) (rv : Value) (l : List Kd.I) (a : Nat) (hrc : Pg.RC w0 m (j + 1) c y) (hM : Kd.M w0 W bc rv l a) (hsh : Kd.shape y) (hg1 : G y.2.2.1) (hg2 : G y.2.2.2) (hkk : y.1.1 = 6)
  (hlen : l.length + (Kd.cmd (Kd.cmds j) y l.length a).length ≤ 50000) (ha : a + Pg.cnt (j + 1) y ≤ 1000) :
  Calls Tryz.prog 104 #[.pointer (some ⟨bc, 0, none⟩), c.val] W (Kd.Post w0 bc rv W (l ++ Kd.cmd (Kd.cmds j) y l.length a) (a + Pg.cnt (j + 1) y)) := by
 obtain ⟨E, hE⟩ : ∃ E, E = Kd.ex m y.2.1.2.1 := ⟨_, rfl⟩
 obtain ⟨T, hT⟩ : ∃ T, T = Kd.cmds j y.2.2.1 (l.length + 1 + E.length + 1) (a + 1) := ⟨_, rfl⟩
 obtain ⟨L, hL⟩ : ∃ L, L = Kd.cmds j y.2.2.2 (l.length + 1 + E.length + 1 + T.length + 1) (a + 1 + Pg.cnts y.2.2.1) := ⟨_, rfl⟩
 have hre : Kd.cmd (Kd.cmds j) y l.length a = ⟨1, (a : Nat), 0⟩ :: (E ++ (⟨11, ((l.length + 1 + E.length + 1 + T.length + 1 : Nat) : Int), 0⟩ :: (T ++ (⟨10, ((l.length + 1 + E.length + 1 + T.length + 1 + L.length : Nat) : Int), 0⟩ :: L)))) := by
  unfold Kd.cmd Kd.rest
  rw [if_neg (by omega), if_neg (by omega), if_neg (by omega), if_neg (by omega), if_neg (by omega), if_pos hkk, hL, hT, hE]
 have hcn : Pg.cnt (j + 1) y = 1 + Pg.cnts y.2.2.1 + Pg.cnts y.2.2.2 := rfl
 rw [hre] at hlen ⊢
 rw [hcn] at ha ⊢
 obtain ⟨⟨hck, hcv, hcf⟩, ⟨hix, hex, hag⟩, hth, hel⟩ := hrc
 have hb0 := (Below.refl W.heap.size W).alloc (Nat.le_refl _) (Obj.cells #[.int .i64 c.k, .int .i64 c.v, .int .i64 c.f, .int .i64 c.ix.k, .int .i64 c.ix.n, .slice c.ix.args.ad c.ix.args.len c.ix.args.cap, .int .i64 c.ex.k, .int .i64 c.ex.n, .slice c.ex.args.ad c.ex.args.len c.ex.args.cap, .slice c.args.ad c.args.len c.args.cap, .slice c.thn.ad c.thn.len c.thn.cap, .slice c.els.ad c.els.len c.els.cap] 107)
 have hx1 := heap_alloc_new W (Obj.cells #[.int .i64 c.k, .int .i64 c.v, .int .i64 c.f, .int .i64 c.ix.k, .int .i64 c.ix.n, .slice c.ix.args.ad c.ix.args.len c.ix.args.cap, .int .i64 c.ex.k, .int .i64 c.ex.n, .slice c.ex.args.ad c.ex.args.len c.ex.args.cap, .slice c.args.ad c.args.len c.args.cap, .slice c.thn.ad c.thn.len c.thn.cap, .slice c.els.ad c.els.len c.els.cap] 107)
 have HM0 := hide hM
 have HK0 := hide (Kd.Kp.below (rv := rv) hb0 hM.lt)
 have hm1 := hM.below hb0
 have hk1 : Kd.Kp bc rv rv (W.alloc (Obj.cells #[.int .i64 c.k, .int .i64 c.v, .int .i64 c.f, .int .i64 c.ix.k, .int .i64 c.ix.n, .slice c.ix.args.ad c.ix.args.len c.ix.args.cap, .int .i64 c.ex.k, .int .i64 c.ex.n, .slice c.ex.args.ad c.ex.args.len c.ex.args.cap, .slice c.args.ad c.args.len c.args.cap, .slice c.thn.ad c.thn.len c.thn.cap, .slice c.els.ad c.els.len c.els.cap] 107)) (W.alloc (Obj.cells #[.int .i64 c.k, .int .i64 c.v, .int .i64 c.f, .int .i64 c.ix.k, .int .i64 c.ix.n, .slice c.ix.args.ad c.ix.args.len c.ix.args.cap, .int .i64 c.ex.k, .int .i64 c.ex.n, .slice c.ex.args.ad c.ex.args.len c.ex.args.cap, .slice c.args.ad c.args.len c.args.cap, .slice c.thn.ad c.thn.len c.thn.cap, .slice c.els.ad c.els.len c.els.cap] 107)) := Kd.Kp.below (Below.refl _ _) hm1.lt
 have HIX := hide hix
 have HEX := hide hex
 have hw01 : W.heap.size < (W.alloc (Obj.cells #[.int .i64 c.k, .int .i64 c.v, .int .i64 c.f, .int .i64 c.ix.k, .int .i64 c.ix.n, .slice c.ix.args.ad c.ix.args.len c.ix.args.cap, .int .i64 c.ex.k, .int .i64 c.ex.n, .slice c.ex.args.ad c.ex.args.len c.ex.args.cap, .slice c.args.ad c.args.len c.args.cap, .slice c.thn.ad c.thn.len c.thn.cap, .slice c.els.ad c.els.len c.els.cap] 107)).heap.size := by simp
 have HE := hide hE
 have HT := hide hT
 have HL := hide hL
 have HTH := hide hth
 have HEL := hide hel
 have HAG := hide hag
 have HG1 := hide hg1
 have HG2 := hide hg2
 have HCS := hide hcs
 obtain ⟨LL, hLL⟩ : ∃ LL, LL = l ++ (⟨1, (a : Nat), 0⟩ :: (E ++ (⟨11, ((l.length + 1 + E.length + 1 + T.length + 1 : Nat) : Int), 0⟩ :: (T ++ (⟨10, ((l.length + 1 + E.length + 1 + T.length + 1 + L.length : Nat) : Int), 0⟩ :: L))))) := ⟨_, rfl⟩
 obtain ⟨aa, haa⟩ : ∃ aa, aa = a + (1 + Pg.cnts y.2.2.1 + Pg.cnts y.2.2.2) := ⟨_, rfl⟩
 rw [← hLL, ← haa]
 have HLL := hide hLL
 have HAA := hide haa
 have HA := hide ha
 have HLEN := hide hlen
 have HCK := hide (show c.k = 6 from hck.trans hkk)
 have hrc2 : Pg.RC w0 m (j + 1) c y := ⟨⟨hck, hcv, hcf⟩, ⟨hix, hex, hag⟩, hth, hel⟩
 have HRC := hide hrc2
 clear hM hb0 hix hex hag hth hel hg1 hg2 hcs hLL haa hlen ha hre hcn hsh hrc2 hcv hcf hck hkk hE hT hL
 unfold Pg.C.val
 go_enter Tryz.func104, Tryz.ntmps104
 go_upto_region 1 with fail
 generalize W.alloc (Obj.cells #[.int .i64 c.k, .int .i64 c.v, .int .i64 c.f, .int .i64 c.ix.k, .int .i64 c.ix.n, .slice c.ix.args.ad c.ix.args.len c.ix.args.cap, .int .i64 c.ex.k, .int .i64 c.ex.n, .slice c.ex.args.ad c.ex.args.len c.ex.args.cap, .slice c.args.ad c.args.len c.args.cap, .slice c.thn.ad c.thn.len c.thn.cap, .slice c.els.ad c.els.len c.els.cap] 107) = w1 at *
 have g3 := hm1.c3
 have HC1 := hide (kput_any hm1 (by have := unhide HLEN; simp only [List.length_cons] at this; omega) 1 (a : Nat) 0)
 have hx1 := (hk1.box (unhide HM0) (Nat.le_refl _) hw01).trans hx1
 have HK1 := hide hk1
 clear hm1 hk1 hx1
 go_wp2_with fail
 refine (unhide HC1).mono ?_
 rintro r w2 ⟨rfl, v2, hm2, hq2⟩
 have hk2 := (unhide HK1).trans hq2
 clear hq2
 clear g3
 have g3 := hm2.c3
 have gf := hm2.fz 3
 have hcw : IntKind.i64.wrap ((a : Int) + 1) = (a : Int) + 1 := by rw [IntKind.wrap_i64]; have := unhide HA; omega
 have hcc : ((a + 1 : Nat) : Int) = (a : Int) + 1 := by omega
 obtain ⟨hm3, hq3⟩ := hm2.count (a + 1)
 have hk3 := hk2.trans hq3
 rw [hcc] at hm3 hk3
 have HM3' := hide hm3
 have HK3' := hide hk3
 clear hm2 hk2 hq3 hm3 hk3 hcc
 go_upto_region 3 with fail
 generalize w2.setCell ⟨bc, 3, none⟩ (.int .i64 ((a : Int) + 1)) = w3 at *
 have hm3 := unhide HM3'
 have hk3 := unhide HK3'
 clear g3 gf hcw HM3' HK3'
 obtain ⟨v3, hv3⟩ : ∃ v3, v3 = v2 := ⟨_, rfl⟩
 rw [← hv3] at hm3 hk3
 clear hv3
 have HCH := hide (show Calls Tryz.prog 119 #[.pointer (some ⟨bc, 0, none⟩), .agg #[.int .i64 6, .int .i64 c.v, .int .i64 c.f, .int .i64 c.ix.k, .int .i64 c.ix.n, .slice c.ix.args.ad c.ix.args.len c.ix.args.cap, .int .i64 c.ex.k, .int .i64 c.ex.n, .slice c.ex.args.ad c.ex.args.len c.ex.args.cap, .slice c.args.ad c.args.len c.args.cap, .slice c.thn.ad c.thn.len c.thn.cap, .slice c.els.ad c.els.len c.els.cap]] w3 (Kd.Post w0 bc v3 w3 LL aa) from by
  have e1 : (l ++ [(⟨1, (a : Nat), 0⟩ : Kd.I)]).length = l.length + 1 := by rw [List.length_append]; rfl
  have h := choice_any (unhide HCS) c y w3 v3 _ _ (unhide HRC) hm3 (unhide HG1) (unhide HG2) E T L (unhide HE) (by rw [e1]; exact unhide HT) (by rw [e1]; exact unhide HL) (by rw [e1]; have := unhide HLEN; simp only [List.length_append, List.length_cons] at this; omega) (by have := unhide HA; omega)
  unfold Pg.C.val at h
  rw [e1, unhide HCK] at h
  rw [unhide HLL, unhide HAA, show a + (1 + Pg.cnts y.2.2.1 + Pg.cnts y.2.2.2) = a + 1 + Pg.cnts y.2.2.1 + Pg.cnts y.2.2.2 by omega]
  simpa only [List.append_assoc, List.cons_append, List.nil_append] using h)
 have HC3 := hide (unhide HCH)
 have hx3 := (hk3.box (unhide HM0) (Nat.le_refl _) hw01).trans hx1
 have r3_0 : w3.cell? ⟨W.heap.size, 0, none⟩ = some (.int .i64 6) := by rw [cell_of_row w3 W.heap.size 0 _ _ _ hx3, ← unhide HCK]; rfl
 have r3_1 := (cell_of_row w3 W.heap.size 1 _ _ _ hx3).trans rfl
 have r3_2 := (cell_of_row w3 W.heap.size 2 _ _ _ hx3).trans rfl
 have r3_3 := (cell_of_row w3 W.heap.size 3 _ _ _ hx3).trans rfl
 have r3_4 := (cell_of_row w3 W.heap.size 4 _ _ _ hx3).trans rfl
 have r3_5 := (cell_of_row w3 W.heap.size 5 _ _ _ hx3).trans rfl
 have r3_6 := (cell_of_row w3 W.heap.size 6 _ _ _ hx3).trans rfl
 have r3_7 := (cell_of_row w3 W.heap.size 7 _ _ _ hx3).trans rfl
 have r3_8 := (cell_of_row w3 W.heap.size 8 _ _ _ hx3).trans rfl
 have r3_9 := (cell_of_row w3 W.heap.size 9 _ _ _ hx3).trans rfl
 have r3_10 := (cell_of_row w3 W.heap.size 10 _ _ _ hx3).trans rfl
 have r3_11 := (cell_of_row w3 W.heap.size 11 _ _ _ hx3).trans rfl
 have HK3 := hide hk3
 clear hm3 hk3 hx3
 go_wp2_with fail
 refine (unhide HC3).mono ?_
 rintro r w4 ⟨rfl, v4, hm4, hq4⟩
 have hk4 := (unhide HK3).trans hq4
 clear hq4 r3_0 r3_1 r3_2 r3_3 r3_4 r3_5 r3_6 r3_7 r3_8 r3_9 r3_10 r3_11
 have HP := hide (show Kd.Post w0 bc rv W LL aa (.returned (.tuple #[])) w4 from ⟨rfl, v4, hm4, (unhide HK0).trans hk4⟩)
 clear hm4 hk4
 go_wp2_with fail
 go_end0
 exact unhide HP
end
end Go.Proofs.YtpfogjplnodacaaGreat
namespace Go.Proofs.YtpfogjplnodacaaGreat
open Go.RowKit
set_option linter.unusedVariables false
section
variable {m n : Nat} {w0 : World} {bc : Nat}
theorem kcmd_7 {j : Nat} {G : List (Pg.CT m j) → Prop} (hcs : Kd.CmdsOk w0 bc m j G) (c : Pg.C) (y : Pg.CT m (j + 1)) (W : World) (rv : Value) (l : List Kd.I) (a : Nat) (hrc : Pg.RC w0 m (j + 1) c y) (hM : Kd.M w0 W bc rv l a) (hsh : Kd.shape y) (hg1 : G y.2.2.1) (hg2 : G y.2.2.2) (hkk : y.1.1 = 7)
  (hlen : l.length + (Kd.cmd (Kd.cmds j) y l.length a).length ≤ 50000) (ha : a + Pg.cnt (j + 1) y ≤ 1000) :
  Calls Tryz.prog 104 #[.pointer (some ⟨bc, 0, none⟩), c.val] W (Kd.Post w0 bc rv W (l ++ Kd.cmd (Kd.cmds j) y l.length a) (a + Pg.cnt (j + 1) y)) := by
 obtain ⟨E, hE⟩ : ∃ E, E = Kd.ex m y.2.1.2.1 := ⟨_, rfl⟩
 obtain ⟨T, hT⟩ : ∃ T, T = Kd.cmds j y.2.2.1 (l.length + 1 + E.length + 1) (a + 1) := ⟨_, rfl⟩
 have hre : Kd.cmd (Kd.cmds j) y l.length a = ⟨1, (a : Nat), 0⟩ :: (E ++ (⟨11, ((l.length + 1 + E.length + 1 + T.length + 1 : Nat) : Int), 0⟩ :: (T ++ [⟨10, (l.length : Nat), 0⟩]))) := by
  unfold Kd.cmd Kd.rest
  rw [if_neg (by omega), if_neg (by omega), if_neg (by omega), if_neg (by omega), if_neg (by omega), if_neg (by omega), hT, hE]
 have hcn : Pg.cnt (j + 1) y = 1 + Pg.cnts y.2.2.1 := by
  show 1 + (y.2.2.1.map (Pg.cnt j)).sum + (y.2.2.2.map (Pg.cnt j)).sum = 1 + (y.2.2.1.map (Pg.cnt j)).sum
  rw [hsh.2.1 (by omega)]
  rfl
 rw [hre] at hlen ⊢
 rw [hcn] at ha ⊢
 obtain ⟨⟨hck, hcv, hcf⟩, ⟨hix, hex, hag⟩, hth, hel⟩ := hrc
 have hb0 := (Below.refl W.heap.size W).alloc (Nat.le_refl _) (Obj.cells #[.int .i64 c.k, .int .i64 c.v, .int .i64 c.f, .int .i64 c.ix.k, .int .i64 c.ix.n, .slice c.ix.args.ad c.ix.args.len c.ix.args.cap, .int .i64 c.ex.k, .int .i64 c.ex.n, .slice c.ex.args.ad c.ex.args.len c.ex.args.cap, .slice c.args.ad c.args.len c.args.cap, .slice c.thn.ad c.thn.len c.thn.cap, .slice c.els.ad c.els.len c.els.cap] 107)
 have hx1 := heap_alloc_new W (Obj.cells #[.int .i64 c.k, .int .i64 c.v, .int .i64 c.f, .int .i64 c.ix.k, .int .i64 c.ix.n, .slice c.ix.args.ad c.ix.args.len c.ix.args.cap, .int .i64 c.ex.k, .int .i64 c.ex.n, .slice c.ex.args.ad c.ex.args.len c.ex.args.cap, .slice c.args.ad c.args.len c.args.cap, .slice c.thn.ad c.thn.len c.thn.cap, .slice c.els.ad c.els.len c.els.cap] 107)
 have HM0 := hide hM
 have HK0 := hide (Kd.Kp.below (rv := rv) hb0 hM.lt)
 have hm1 := hM.below hb0
 have hk1 : Kd.Kp bc rv rv (W.alloc (Obj.cells #[.int .i64 c.k, .int .i64 c.v, .int .i64 c.f, .int .i64 c.ix.k, .int .i64 c.ix.n, .slice c.ix.args.ad c.ix.args.len c.ix.args.cap, .int .i64 c.ex.k, .int .i64 c.ex.n, .slice c.ex.args.ad c.ex.args.len c.ex.args.cap, .slice c.args.ad c.args.len c.args.cap, .slice c.thn.ad c.thn.len c.thn.cap, .slice c.els.ad c.els.len c.els.cap] 107)) (W.alloc (Obj.cells #[.int .i64 c.k, .int .i64 c.v, .int .i64 c.f, .int .i64 c.ix.k, .int .i64 c.ix.n, .slice c.ix.args.ad c.ix.args.len c.ix.args.cap, .int .i64 c.ex.k, .int .i64 c.ex.n, .slice c.ex.args.ad c.ex.args.len c.ex.args.cap, .slice c.args.ad c.args.len c.args.cap, .slice c.thn.ad c.thn.len c.thn.cap, .slice c.els.ad c.els.len c.els.cap] 107)) := Kd.Kp.below (Below.refl _ _) hm1.lt
 have HIX := hide hix
 have HEX := hide hex
 have hw01 : W.heap.size < (W.alloc (Obj.cells #[.int .i64 c.k, .int .i64 c.v, .int .i64 c.f, .int .i64 c.ix.k, .int .i64 c.ix.n, .slice c.ix.args.ad c.ix.args.len c.ix.args.cap, .int .i64 c.ex.k, .int .i64 c.ex.n, .slice c.ex.args.ad c.ex.args.len c.ex.args.cap, .slice c.args.ad c.args.len c.args.cap, .slice c.thn.ad c.thn.len c.thn.cap, .slice c.els.ad c.els.len c.els.cap] 107)).heap.size := by simp
 have HE := hide hE
 have HT := hide hT
 have HTH := hide hth
 have HEL := hide hel
 have HAG := hide hag
 have HG1 := hide hg1
 have HG2 := hide hg2
 have HCS := hide hcs
 obtain ⟨LL, hLL⟩ : ∃ LL, LL = l ++ (⟨1, (a : Nat), 0⟩ :: (E ++ (⟨11, ((l.length + 1 + E.length + 1 + T.length + 1 : Nat) : Int), 0⟩ :: (T ++ [⟨10, (l.length : Nat), 0⟩])))) := ⟨_, rfl⟩
 obtain ⟨aa, haa⟩ : ∃ aa, aa = a + (1 + Pg.cnts y.2.2.1) := ⟨_, rfl⟩
 rw [← hLL, ← haa]
 have HLL := hide hLL
 have HAA := hide haa
 have HA := hide ha
 have HLEN := hide hlen
 have HCK := hide (show c.k = 7 from hck.trans hkk)
 have hrc2 : Pg.RC w0 m (j + 1) c y := ⟨⟨hck, hcv, hcf⟩, ⟨hix, hex, hag⟩, hth, hel⟩
 have HRC := hide hrc2
 clear hM hb0 hix hex hag hth hel hg1 hg2 hcs hLL haa hlen ha hre hcn hsh hrc2 hcv hcf hck hkk hE hT
 unfold Pg.C.val
 go_enter Tryz.func104, Tryz.ntmps104
 go_upto_region 1 with fail
 generalize W.alloc (Obj.cells #[.int .i64 c.k, .int .i64 c.v, .int .i64 c.f, .int .i64 c.ix.k, .int .i64 c.ix.n, .slice c.ix.args.ad c.ix.args.len c.ix.args.cap, .int .i64 c.ex.k, .int .i64 c.ex.n, .slice c.ex.args.ad c.ex.args.len c.ex.args.cap, .slice c.args.ad c.args.len c.args.cap, .slice c.thn.ad c.thn.len c.thn.cap, .slice c.els.ad c.els.len c.els.cap] 107) = w1 at *
 have g3 := hm1.c3
 have HC1 := hide (kput_any hm1 (by have := unhide HLEN; simp only [List.length_cons] at this; omega) 1 (a : Nat) 0)
 have hx1 := (hk1.box (unhide HM0) (Nat.le_refl _) hw01).trans hx1
 have HK1 := hide hk1
 clear hm1 hk1 hx1
 go_wp2_with fail
 refine (unhide HC1).mono ?_
 rintro r w2 ⟨rfl, v2, hm2, hq2⟩
 have hk2 := (unhide HK1).trans hq2
 clear hq2
 clear g3
 have g3 := hm2.c3
 have gf := hm2.fz 3
 have hcw : IntKind.i64.wrap ((a : Int) + 1) = (a : Int) + 1 := by rw [IntKind.wrap_i64]; have := unhide HA; omega
 have hcc : ((a + 1 : Nat) : Int) = (a : Int) + 1 := by omega
 obtain ⟨hm3, hq3⟩ := hm2.count (a + 1)
 have hk3 := hk2.trans hq3
 rw [hcc] at hm3 hk3
 have HM3' := hide hm3
 have HK3' := hide hk3
 clear hm2 hk2 hq3 hm3 hk3 hcc
 go_upto_region 3 with fail
 generalize w2.setCell ⟨bc, 3, none⟩ (.int .i64 ((a : Int) + 1)) = w3 at *
 have hm3 := unhide HM3'
 have hk3 := unhide HK3'
 clear g3 gf hcw HM3' HK3'
 obtain ⟨v3, hv3⟩ : ∃ v3, v3 = v2 := ⟨_, rfl⟩
 rw [← hv3] at hm3 hk3
 clear hv3
 have HCH := hide (show Calls Tryz.prog 120 #[.pointer (some ⟨bc, 0, none⟩), .agg #[.int .i64 7, .int .i64 c.v, .int .i64 c.f, .int .i64 c.ix.k, .int .i64 c.ix.n, .slice c.ix.args.ad c.ix.args.len c.ix.args.cap, .int .i64 c.ex.k, .int .i64 c.ex.n, .slice c.ex.args.ad c.ex.args.len c.ex.args.cap, .slice c.args.ad c.args.len c.args.cap, .slice c.thn.ad c.thn.len c.thn.cap, .slice c.els.ad c.els.len c.els.cap], .int .i64 (l.length : Nat)] w3 (Kd.Post w0 bc v3 w3 LL aa) from by
  have e1 : (l ++ [(⟨1, (a : Nat), 0⟩ : Kd.I)]).length = l.length + 1 := by rw [List.length_append]; rfl
  have h := kloop_any (unhide HCS) c y w3 v3 _ _ l.length (unhide HRC) hm3 (unhide HG1) E T (unhide HE) (by rw [e1]; exact unhide HT) (by rw [e1]; have := unhide HLEN; simp only [List.length_append, List.length_cons] at this; omega) (by have := unhide HA; omega)
  unfold Pg.C.val at h
  rw [e1, unhide HCK] at h
  rw [unhide HLL, unhide HAA, show a + (1 + Pg.cnts y.2.2.1) = a + 1 + Pg.cnts y.2.2.1 by omega]
  simpa only [List.append_assoc, List.cons_append, List.nil_append] using h)
 have HC3 := hide (unhide HCH)
 have hx3 := (hk3.box (unhide HM0) (Nat.le_refl _) hw01).trans hx1
 have r3_0 : w3.cell? ⟨W.heap.size, 0, none⟩ = some (.int .i64 7) := by rw [cell_of_row w3 W.heap.size 0 _ _ _ hx3, ← unhide HCK]; rfl
 have r3_1 := (cell_of_row w3 W.heap.size 1 _ _ _ hx3).trans rfl
 have r3_2 := (cell_of_row w3 W.heap.size 2 _ _ _ hx3).trans rfl
 have r3_3 := (cell_of_row w3 W.heap.size 3 _ _ _ hx3).trans rfl
 have r3_4 := (cell_of_row w3 W.heap.size 4 _ _ _ hx3).trans rfl
 have r3_5 := (cell_of_row w3 W.heap.size 5 _ _ _ hx3).trans rfl
 have r3_6 := (cell_of_row w3 W.heap.size 6 _ _ _ hx3).trans rfl
 have r3_7 := (cell_of_row w3 W.heap.size 7 _ _ _ hx3).trans rfl
 have r3_8 := (cell_of_row w3 W.heap.size 8 _ _ _ hx3).trans rfl
 have r3_9 := (cell_of_row w3 W.heap.size 9 _ _ _ hx3).trans rfl
 have r3_10 := (cell_of_row w3 W.heap.size 10 _ _ _ hx3).trans rfl
 have r3_11 := (cell_of_row w3 W.heap.size 11 _ _ _ hx3).trans rfl
 have HK3 := hide hk3
 clear hm3 hk3 hx3
 go_wp2_with fail
 refine (unhide HC3).mono ?_
 rintro r w4 ⟨rfl, v4, hm4, hq4⟩
 have hk4 := (unhide HK3).trans hq4
 clear hq4 r3_0 r3_1 r3_2 r3_3 r3_4 r3_5 r3_6 r3_7 r3_8 r3_9 r3_10 r3_11
 have HP := hide (show Kd.Post w0 bc rv W LL aa (.returned (.tuple #[])) w4 from ⟨rfl, v4, hm4, (unhide HK0).trans hk4⟩)
 clear hm4 hk4
 go_wp2_with fail
 go_end0
 exact unhide HP
end
end Go.Proofs.YtpfogjplnodacaaGreat
namespace Go.Proofs.YtpfogjplnodacaaGreat
open Go.RowKit
set_option linter.unusedVariables false
section
variable {m n : Nat} {w0 : World} {bc : Nat} {p : List (Pg.FT m n)} {now : Nat} {x : Pg.FT m n}
theorem Kd.shape_of {j : Nat} {y : Pg.CT m (j + 1)} (h : Pg.wcm p now x y = 0) : Kd.shape y := by
 have hk := (Xr.wc_ok h).1
 unfold Pg.wcm Pg.wc at h
 split at h
 · cases h
 split at h
 · cases h
 split at h
 · cases h
 split at h
 · cases h
 split at h
 · cases h
 rename_i h5
 have hm : Pg.more y.1.1 y.1.2.1 y.1.2.2 y.2.1.2.2.length (Pg.isX m y.2.1.1) (Pg.isX m y.2.1.2.1) y.2.2.1.length y.2.2.2.length = false := by simpa using h5
 unfold Pg.more at hm
 simp only [Bool.or_eq_false_iff, decide_eq_false_iff_not] at hm
 obtain ⟨_, _, _, _, h6, h7⟩ := hm
 exact ⟨hk, fun h => List.eq_nil_of_length_eq_zero (by omega), fun h h' => List.eq_nil_of_length_eq_zero (by omega)⟩
theorem Kd.walk_succ {α : Type} {g : α → Nat → Nat → List Kd.I} {cn : α → Nat} : ∀ (l : List α) (i : Nat) (y : α) (o a : Nat), l[i]? = some y → Kd.walk g cn (l.take (i + 1)) o a = Kd.walk g cn (l.take i) o a ++ g y (o + (Kd.walk g cn (l.take i) o a).length) (a + Pg.sumTo cn l i)
 | [], i, y, o, a, h => by simp at h
 | c :: r, 0, y, o, a, h => by
  have : c = y := by simpa using h
  subst this
  show g c o a ++ Kd.walk g cn [] _ _ = [] ++ g c (o + 0) (a + 0)
  simp [Kd.walk]
 | c :: r, i + 1, y, o, a, h => by
  have h1 := Kd.walk_succ (g := g) (cn := cn) r i y (o + (g c o a).length) (a + cn c) (by simpa using h)
  show g c o a ++ Kd.walk g cn (r.take (i + 1)) _ _ = (g c o a ++ Kd.walk g cn (r.take i) _ _) ++ g y (o + (g c o a ++ Kd.walk g cn (r.take i) _ _).length) (a + Pg.sumTo cn (c :: r) (i + 1))
  rw [h1, List.append_assoc, List.length_append]
  have h2 : Pg.sumTo cn (c :: r) (i + 1) = cn c + Pg.sumTo cn r i := by unfold Pg.sumTo; simp
  rw [h2]
  congr 3
  · omega
  · omega
theorem Kd.walk_le {α : Type} {g : α → Nat → Nat → List Kd.I} {cn : α → Nat} (l : List α) (o a : Nat) : ∀ d i, i + d = l.length → (Kd.walk g cn (l.take i) o a).length ≤ (Kd.walk g cn l o a).length := by
 intro d
 induction d with
 | zero => intro i hi; rw [List.take_of_length_le (by omega)]; exact Nat.le_refl _
 | succ d ih =>
  intro i hi
  have h1 := ih (i + 1) (by omega)
  rw [Kd.walk_succ l i _ o a (List.getElem?_eq_getElem (by omega)), List.length_append] at h1
  omega
structure Kd.Cx {j : Nat} (w0 W wr : World) (bc : Nat) (rv : Value) (l : List Kd.I) (a : Nat) (ls : List (Pg.CT m (j + 1))) (i : Nat) : Prop where
 it : ∃ rv2, Kd.M w0 wr bc rv2 (l ++ Kd.walk (Kd.cmd (Kd.cmds j)) (Pg.cnt (j + 1)) (ls.take i) l.length a) (a + Pg.sumTo (Pg.cnt (j + 1)) ls i) ∧ Kd.Kp bc rv rv2 W wr
theorem Kd.Cx.next {j : Nat} {W wr w2 w5 : World} {rv rv2 : Value} {l : List Kd.I} {a : Nat} {ls : List (Pg.CT m (j + 1))} {i : Nat} {y : Pg.CT m (j + 1)} (hm : Kd.M w0 wr bc rv2 (l ++ Kd.walk (Kd.cmd (Kd.cmds j)) (Pg.cnt (j + 1)) (ls.take i) l.length a) (a + Pg.sumTo (Pg.cnt (j + 1)) ls i)) (hk : Kd.Kp bc rv rv2 W wr) (hy : ls[i]? = some y) (hb : Below wr.heap.size wr w2)
  (hp : ∃ rv', Kd.M w0 w5 bc rv' (l ++ Kd.walk (Kd.cmd (Kd.cmds j)) (Pg.cnt (j + 1)) (ls.take i) l.length a ++ Kd.cmd (Kd.cmds j) y (l ++ Kd.walk (Kd.cmd (Kd.cmds j)) (Pg.cnt (j + 1)) (ls.take i) l.length a).length (a + Pg.sumTo (Pg.cnt (j + 1)) ls i)) (a + Pg.sumTo (Pg.cnt (j + 1)) ls i + Pg.cnt (j + 1) y) ∧ Kd.Kp bc rv2 rv' w2 w5) : Kd.Cx w0 W w5 bc rv l a ls (i + 1) := by
 obtain ⟨rv', h1, h2⟩ := hp
 refine ⟨rv', ?_, hk.trans ((Kd.Kp.below hb hm.lt).trans h2)⟩
 rw [Kd.walk_succ ls i y _ _ hy, Pg.sumTo_succ _ _ _ _ hy, ← List.append_assoc, ← Nat.add_assoc]
 rw [List.length_append] at h1
 exact h1
theorem kcmd_any {j : Nat} (hcs : Kd.CmdsOk w0 bc m j (fun ls => Pg.wcs p now x j ls = 0)) (c : Pg.C) (y : Pg.CT m (j + 1)) (W : World) (rv : Value) (l : List Kd.I) (a : Nat) (hrc : Pg.RC w0 m (j + 1) c y) (hM : Kd.M w0 W bc rv l a) (hw : Pg.wcm p now x y = 0) (hg1 : Pg.wcs p now x j y.2.2.1 = 0) (hg2 : Pg.wcs p now x j y.2.2.2 = 0)
  (hlen : l.length + (Kd.cmd (Kd.cmds j) y l.length a).length ≤ 50000) (ha : a + Pg.cnt (j + 1) y ≤ 1000) :
  Calls Tryz.prog 104 #[.pointer (some ⟨bc, 0, none⟩), c.val] W (Kd.Post w0 bc rv W (l ++ Kd.cmd (Kd.cmds j) y l.length a) (a + Pg.cnt (j + 1) y)) := by
 have hsh := Kd.shape_of hw
 have hk := hsh.1
 rcases (by omega : y.1.1 = 1 ∨ y.1.1 = 2 ∨ y.1.1 = 3 ∨ y.1.1 = 4 ∨ y.1.1 = 5 ∨ y.1.1 = 6 ∨ y.1.1 = 7) with h | h | h | h | h | h | h
 · exact kcmd_1 hcs c y W rv l a hrc hM hsh hg1 hg2 h hlen ha
 · exact kcmd_2 hcs c y W rv l a hrc hM hsh hg1 hg2 h hlen ha
 · exact kcmd_3 hcs c y W rv l a hrc hM hsh hg1 hg2 h hlen ha
 · exact kcmd_4 hcs c y W rv l a hrc hM hsh hg1 hg2 h hlen ha
 · exact kcmd_5 hcs c y W rv l a hrc hM hsh hg1 hg2 h hlen ha
 · exact kcmd_6 hcs c y W rv l a hrc hM hsh hg1 hg2 h hlen ha
 · exact kcmd_7 hcs c y W rv l a hrc hM hsh hg1 hg2 h hlen ha
theorem kcmds_ok : ∀ j, Kd.CmdsOk w0 bc m j (fun ls => Pg.wcs p now x j ls = 0) := by
 intro j
 induction j with
 | zero =>
  intro t ls W rv l a hrs hw hM hlen ha
  cases ls with
  | cons y r => exact Empty.elim y
  | nil =>
   have hl0 : t.len = 0 := by rw [hrs.len]; rfl
   have HP := hide (show Kd.Post w0 bc rv W (l ++ Kd.cmds 0 ([] : List (Pg.CT m 0)) l.length a) (a + Pg.cnts ([] : List (Pg.CT m 0))) (.returned (.tuple #[])) W from ⟨rfl, rv, by rw [show Kd.cmds 0 ([] : List (Pg.CT m 0)) l.length a = [] from rfl, List.append_nil]; exact hM, Kd.Kp.below (Below.refl _ _) hM.lt⟩)
   generalize l ++ Kd.cmds 0 ([] : List (Pg.CT m 0)) l.length a = T at *
   generalize a + Pg.cnts ([] : List (Pg.CT m 0)) = aa at *
   clear hrs hw hM hlen ha
   obtain ⟨ta, tn, tc⟩ := t
   dsimp only at *
   subst hl0
   go_enter Tryz.func63, Tryz.ntmps63
   go_wp2_with fail
   go_loopw [8] (fun iv wr => iv = .int .i64 0 ∧ wr = W) (fun _ _ => 0)
   case atStart => exact ⟨rfl, rfl⟩
   case round =>
    obtain ⟨rfl, rfl⟩ := hrel
    go_wp2_with fail
    go_end0
    exact unhide HP
 | succ j ih =>
  intro t ls W rv l a hrs hw hM hlen ha
  have hln := hrs.len
  have hfew := hrs.few
  rw [← hln] at hfew
  have HXC := hide (fun (c : Pg.C) (y : Pg.CT m (j + 1)) (W : World) (rv : Value) (l : List Kd.I) (a : Nat) h1 h2 h3 h4 h5 h6 h7 => show Calls Tryz.prog 104 #[.pointer (some ⟨bc, 0, none⟩), .agg #[.int .i64 c.k, .int .i64 c.v, .int .i64 c.f, .int .i64 c.ix.k, .int .i64 c.ix.n, .slice c.ix.args.ad c.ix.args.len c.ix.args.cap, .int .i64 c.ex.k, .int .i64 c.ex.n, .slice c.ex.args.ad c.ex.args.len c.ex.args.cap, .slice c.args.ad c.args.len c.args.cap, .slice c.thn.ad c.thn.len c.thn.cap, .slice c.els.ad c.els.len c.els.cap]] W _ from kcmd_any (p := p) (now := now) (x := x) ih c y W rv l a h1 h2 h3 h4 h5 h6 h7)
  have HWO := hide (show ∀ y ∈ ls, Pg.wcm p now x y = 0 ∧ Pg.wcs p now x j y.2.2.1 = 0 ∧ Pg.wcs p now x j y.2.2.2 = 0 from fun y hy => by
   have h1 := Pg.first_zero (show Pg.first (ls.map fun y => Pg.orW (Pg.wcm p now x y) (Pg.orW (Pg.wcs p now x j y.2.2.1) (Pg.wcs p now x j y.2.2.2))) = 0 from hw) _ (List.mem_map_of_mem hy)
   obtain ⟨a, b⟩ := Pg.orW_zero h1
   exact ⟨a, Pg.orW_zero b⟩)
  have HWL := hide (fun i (hi : i < ls.length) => Kd.walk_le (g := Kd.cmd (Kd.cmds j)) (cn := Pg.cnt (j + 1)) ls l.length a (ls.length - (i + 1)) (i + 1) (by omega))
  have HSA := hide (Pg.sumTo_le (Pg.cnt (j + 1)) ls)
  have HLEN := hide (show l.length + (Kd.walk (Kd.cmd (Kd.cmds j)) (Pg.cnt (j + 1)) ls l.length a).length ≤ 50000 from hlen)
  have HA := hide (show a + (ls.map (Pg.cnt (j + 1))).sum ≤ 1000 from ha)
  have HM := hide hM
  have HRS := hide hrs
  have HLN := hide hln
  have HFI := hide (fun (wr : World) (i : Nat) (hi : ls.length ≤ i) (hc : Kd.Cx w0 W wr bc rv l a ls i) => show Kd.Post w0 bc rv W (l ++ Kd.cmds (j + 1) ls l.length a) (a + Pg.cnts ls) (.returned (.tuple #[])) wr from by
   obtain ⟨rv2, h1, h2⟩ := hc.it
   have hs : Pg.sumTo (Pg.cnt (j + 1)) ls i = Pg.cnts ls := by unfold Pg.sumTo Pg.cnts; rw [List.take_of_length_le hi]
   rw [List.take_of_length_le hi, hs] at h1
   exact ⟨rfl, rv2, h1, h2⟩)
  generalize l ++ Kd.cmds (j + 1) ls l.length a = T at *
  generalize a + Pg.cnts ls = aa at *
  clear hM hrs hw hlen ha hln ih
  obtain ⟨ta, tn, tc⟩ := t
  dsimp only at *
  go_enter Tryz.func63, Tryz.ntmps63
  go_wp2_with fail
  go_loopw [8] (fun iv wr => ∃ i : Nat, i ≤ tn ∧ iv = .int .i64 i ∧ Kd.Cx w0 W wr bc rv l a ls i) (fun iv _ => tn - (intOf iv).toNat)
  case atStart => exact ⟨0, Nat.zero_le _, rfl, ⟨rv, by rw [List.take_zero, show Kd.walk (Kd.cmd (Kd.cmds j)) (Pg.cnt (j + 1)) ([] : List (Pg.CT m (j + 1))) l.length a = [] from rfl, List.append_nil]; exact unhide HM, Kd.Kp.below (Below.refl _ _) (unhide HM).lt⟩⟩
  case round =>
   obtain ⟨i, hi, rfl, hax⟩ := hrel
   by_cases hlt : i < tn
   · obtain ⟨rv2, hm2, hk2⟩ := hax.it
     have hlt2 : i < ls.length := by have := unhide HLN; omega
     have hy := List.getElem?_eq_getElem hlt2
     obtain ⟨bb, o, cc, had, hbl, hlies, hrd⟩ := (unhide HRS).at_ i _ hy
     obtain ⟨ww1, ww2, ww3⟩ := (unhide HWO) _ (List.mem_of_getElem? hy)
     have hwl := (unhide HWL) i hlt2
     rw [Kd.walk_succ ls i _ _ _ hy, List.length_append] at hwl
     have hsu := Pg.sumTo_succ (Pg.cnt (j + 1)) ls i _ hy
     have hsa := (unhide HSA) (i + 1) (by omega)
     have HY := hide hy
     generalize ls[i] = y at *
     obtain ⟨p0, p1, p2, p3, p4, p5, p6, p7, p8, p9, p10, p11⟩ := hlies.later hm2.bel (Nat.le_refl _) hbl
     have had' : ta = some ⟨bb, o, none⟩ := had
     subst had'
     have hal := (Below.refl wr.heap.size wr).alloc (Nat.le_refl _) (Obj.cells #[.int .i64 cc.k, .int .i64 cc.v, .int .i64 cc.f, .int .i64 cc.ix.k, .int .i64 cc.ix.n, .slice cc.ix.args.ad cc.ix.args.len cc.ix.args.cap, .int .i64 cc.ex.k, .int .i64 cc.ex.n, .slice cc.ex.args.ad cc.ex.args.len cc.ex.args.cap, .slice cc.args.ad cc.args.len cc.args.cap, .slice cc.thn.ad cc.thn.len cc.thn.cap, .slice cc.els.ad cc.els.len cc.els.cap] 107)
     have HC := hide ((unhide HXC) cc y _ rv2 _ _ hrd (hm2.below hal) ww1 ww2 ww3 (by rw [List.length_append]; have := unhide HLEN; omega) (by have := unhide HA; omega))
     have HNX := hide (fun (w5 : World) => Kd.Cx.next (w5 := w5) hm2 hk2 (unhide HY) hal)
     have hi0' : (0 : Int) ≤ (i : Int) := by omega
     have hi1' : (i : Int) < (tn : Int) := by omega
     clear hy hbl hlies hrd had hlt2 hal hm2 hk2 hax ww1 ww2 ww3 hwl hsu hsa
     go_wp2_with fail
     refine (unhide HC).mono ?_
     rintro r w5 ⟨rfl, hp5⟩
     have HA5 := hide ((unhide HNX) w5 hp5)
     clear hp5
     go_wp2_with fail
     exact ⟨⟨i + 1, by omega, by go_num, unhide HA5⟩, by simp [intOf]; omega⟩
   · have HP := hide ((unhide HFI) wr i (by have := unhide HLN; omega) hax)
     clear hax
     go_wp2_with fail
     go_end0
     exact unhide HP
end
end Go.Proofs.YtpfogjplnodacaaGreat
namespace Go.Proofs.YtpfogjplnodacaaGreat
open Go.RowKit
set_option linter.unusedVariables false
section
variable {m n : Nat} {w0 : World} {bc : Nat} {p : List (Pg.FT m n)}
theorem Kd.M.slc {W : World} {rv : Value} {l : List Kd.I} {a : Nat} (h : Kd.M w0 W bc rv l a) : ∃ g c, rv = .slice g l.length c := by
 obtain ⟨g, c, h1, _⟩ := h.form
 exact ⟨g, c, h1⟩
theorem Kd.row_slc {W : World} {B : Nat} {t : TypeId} {z n : Nat} {v : Value} {xs : List Value} (h : W.ownsRow B t z v n xs) : ∃ g c, v = .slice g n c := by
 rcases h.2 with ⟨h1, h2⟩ | ⟨g, cap, cur, hv, _⟩
 · exact ⟨none, 0, by rw [h2]; exact h1⟩
 · exact ⟨_, _, hv⟩
theorem kfn_any {q : Nat} {x : Pg.FT m n} (hw : Pg.wfn p q x = 0) (f : Pg.F) (W : World) (rv fv gv : Value) (l : List Kd.I) (a : Nat) (fs : List Int) (ts : List Pg.Sl) (ss : List (List Int)) (hrf : Pg.RF w0 m n f x) (hN : Kd.N w0 W bc rv fv gv l a fs ts ss) (b : Bool) (hb : b = decide (q + 1 = p.length)) (hlen : l.length + (Kd.fn b x l.length a).length ≤ 50000) (ha : a + Pg.cnts x.cmds ≤ 1000) (hfl : fs.length ≤ 100) (htl : ts.length ≤ 100) :
  Calls Tryz.prog 28 #[.pointer (some ⟨bc, 0, none⟩), f.val, .bool b] W fun r W' => r = .returned (.tuple #[]) ∧ ∃ rv' fv' gv' ts', Kd.N w0 W' bc rv' fv' gv' (l ++ Kd.fn b x l.length a) (a + Pg.cnts x.cmds) (fs ++ [(l.length : Int)]) ts' (ss ++ [x.sizes]) := by
 obtain ⟨h1, h2⟩ := Pg.orW_zero (show Pg.orW _ (Pg.orW _ _) = 0 from hw)
 obtain ⟨h3, h4⟩ := Pg.orW_zero h2
 have hsl : x.sizes.length ≤ 600 := by
  unfold Pg.whead at h1
  split at h1
  · cases h1
  split at h1
  · cases h1
  omega
 have hb0 := (Below.refl W.heap.size W).alloc (Nat.le_refl _) (Obj.cells #[.int .i64 f.params, .slice f.sizes.ad f.sizes.len f.sizes.cap, .slice f.cmds.ad f.cmds.len f.cmds.cap, .int .i64 f.res.k, .int .i64 f.res.n, .slice f.res.args.ad f.res.args.len f.res.args.cap] 78)
 have hx1 := heap_alloc_new W (Obj.cells #[.int .i64 f.params, .slice f.sizes.ad f.sizes.len f.sizes.cap, .slice f.cmds.ad f.cmds.len f.cmds.cap, .int .i64 f.res.k, .int .i64 f.res.n, .slice f.res.args.ad f.res.args.len f.res.args.cap] 78)
 have hN1 := hN.below hb0
 have hlt := hN.m.lt
 have old : ∀ q v, W.heap.size ≤ q → (∀ (hr : ∀ k, v = some k → k < W.heap.size), v ≠ some q) := fun q v hq hr e => by have := hr q e; omega
 have hfx : fv.ownBlock ≠ some W.heap.size := old _ _ (Nat.le_refl _) (fun k hk => (hN.frow.lt k hk).2)
 have hgx : gv.ownBlock ≠ some W.heap.size := old _ _ (Nat.le_refl _) (fun k hk => (hN.grow.lt k hk).2)
 have hrx : rv.ownBlock ≠ some W.heap.size := old _ _ (Nat.le_refl _) (fun k hk => (hN.m.row.lt k hk).2)
 have hbx : W.heap.size ≠ bc := by omega
 have hw01 : W.heap.size < (W.alloc (Obj.cells #[.int .i64 f.params, .slice f.sizes.ad f.sizes.len f.sizes.cap, .slice f.cmds.ad f.cmds.len f.cmds.cap, .int .i64 f.res.k, .int .i64 f.res.n, .slice f.res.args.ad f.res.args.len f.res.args.cap] 78)).heap.size := by simp
 have HRF := hide hrf
 have HH := hide h3
 have H4 := hide h4
 have HB := hide hb
 have HLEN := hide hlen
 have HA := hide ha
 obtain ⟨LL, hLL⟩ : ∃ LL, LL = l ++ Kd.fn b x l.length a := ⟨_, rfl⟩
 rw [← hLL]
 have HLL := hide hLL
 obtain ⟨i0, hi0, hz0, hz1', hz2⟩ := info_of Tryz.infoK3
 have HI := hide hi0
 have HZ0 := hide hz0
 have HZ1 := hide hz1'
 have HZ2 := hide hz2
 obtain ⟨i1, hi1, hy0, hy1, hy2⟩ := info_of Tryz.infoSz
 have HI1 := hide hi1
 have HY0 := hide hy0
 have HY1 := hide hy1
 have HY2 := hide hy2
 have hlm : l.length ≤ 50000 := by omega
 have HHX := hide hx1
 have HN1 := hide hN1
 clear hN hrf h1 h2 h3 h4 hb hlen ha hLL hi0 hz0 hz1' hz2 hi1 hy0 hy1 hy2 hb0 old hw hx1 hN1
 unfold Pg.F.val
 go_enter Tryz.func28, Tryz.ntmps28
 go_upto_region 1 with fail
 generalize W.alloc (Obj.cells #[.int .i64 f.params, .slice f.sizes.ad f.sizes.len f.sizes.cap, .slice f.cmds.ad f.cmds.len f.cmds.cap, .int .i64 f.res.k, .int .i64 f.res.n, .slice f.res.args.ad f.res.args.len f.res.args.cap] 78) = W1 at *
 go_cut [] (fun V => ∃ fv', Kd.N w0 V bc rv fv' gv l a (fs ++ [(l.length : Int)]) ts ss ∧ V.heap[W.heap.size]? = W1.heap[W.heap.size]?)
 case first =>
  have hN1 := unhide HN1
  obtain ⟨gr, cr, hrv⟩ := hN1.m.slc
  obtain ⟨gf, cf, hfv⟩ := Kd.row_slc hN1.frow
  subst hrv hfv
  have k0 := hN1.m.c0
  have k1 := hN1.c1
  have kf := hN1.m.fz 1
  have hbl := hN1.m.lt
  have hwl : w0.heap.size ≤ W1.heap.size := hN1.m.bel.size
  have HROW := hide hN1.frow
  have HEV := hide (show ∀ q, (Value.slice gf fs.length cf).ownBlock = some q → q ≠ bc from fun q hq => (hN1.fap q hq).1)
  have HAP := hide (fun (W2 w6 : World) (h1 : Below W1.heap.size W1 W2) (h2 : W2.grownBy w6 (Value.slice gf fs.length cf).ownBlock) (g c : Nat) h3 h4 => hN1.addF (W2 := W2) (w6 := w6) (z := (l.length : Int)) h1 h2 g c h3 h4)
  generalize l.length = nl at *
  generalize fs.length = nf at *
  generalize fs.map (Value.int .i64) = xs at *
  have HNW := hide (show ∀ j u, [Value.int .i64 (nl : Nat)][j]? = some u → (W1.alloc (Obj.cells #[.int .i64 (nl : Nat)] 3)).drew.cell? ((⟨W1.heap.size, 0, none⟩ : Addr).add j) = some u from World.news_of_block (heap_alloc_new W1 (Obj.cells #[.int .i64 (nl : Nat)] 3)))
  have HBD := hide (show Below W1.heap.size W1 (W1.alloc (Obj.cells #[.int .i64 (nl : Nat)] 3)).drew from ((Below.refl W1.heap.size W1).alloc (Nat.le_refl _) _).drew)
  clear hN1
  go_region_law (first
    | (refine step_append_lies _ rfl (.tmp 11) (.tmp 18) 23 rfl w0.heap.size 3 i0 _ 1 8 Tryz.underlying23 (unhide HI) (unhide HZ0) (unhide HZ1) (unhide HZ2) rfl (by omega) (.slice gf nf cf) nf xs rfl (Pg.ow_below (unhide HROW) (unhide HBD)) _ 1 1 [.int .i64 (nl : Nat)] rfl rfl (unhide HNW) (by simp [Value.oneCell']) (by omega) (by unfold maxLen; omega) (by omega) (by simp; omega) _ rfl ?_; intro gA cA w6 hoA hgA hatA hltA; have HGA := hide hgA; have HOA := hide hoA; have HAT := hide (show (Value.slice gf nf cf).ownBlock = some gA ∨ W1.heap.size ≤ gA from hatA.imp id (fun e => by rw [e]; simp)); have hbb := (hgA.block bc (by simp; omega) (fun e => (unhide HEV) bc e.symm rfl)).trans ((unhide HBD).block bc (by omega)); have z4 := (Kd.cell_kept hbb 1).trans k1; have z5 := (Kd.frz_kept hbb 1).trans kf; clear hatA hltA hoA hgA hbb))
  all_goals
   go_wp2_with fail
   go_meet
   case rel =>
    have hA := (unhide HAP) _ _ (unhide HBD) (unhide HGA) _ _ (unhide HOA) (unhide HAT)
    exact ⟨_, hA.1, hA.2 _ hw01 hbx hfx⟩
 case rest =>
  rename World => V
  obtain ⟨fv2, hN2, hx2⟩ := hcut
  have hx2' := hx2.trans (unhide HHX)
  have HN2 := hide hN2
  have hVl : W.heap.size < V.heap.size := (Array.getElem?_eq_some_iff.1 hx2').1
  have HX2 := hide hx2'
  clear hN2 hx2 hx2' HN1
  go_upto_region 2 with fail
  go_cut [] (fun V2 => ∃ gv' ts', Kd.N w0 V2 bc rv fv2 gv' l a (fs ++ [(l.length : Int)]) ts' (ss ++ [x.sizes]) ∧ V2.heap[W.heap.size]? = V.heap[W.heap.size]?)
  case first =>
   have hN2 := unhide HN2
   obtain ⟨gg, cg, hgv⟩ := Kd.row_slc hN2.grow
   subst hgv
   have k2 := hN2.c2
   have kf := hN2.m.fz 2
   have hbl := hN2.m.lt
   have hwl : w0.heap.size ≤ V.heap.size := hN2.m.bel.size
   have f1 := (cell_of_row V W.heap.size 1 _ _ _ (unhide HX2)).trans rfl
   have HROW := hide hN2.grow
   have HEV := hide (show ∀ q, (Value.slice gg ts.length cg).ownBlock = some q → q ≠ bc from fun q hq => (hN2.gap q hq).1)
   have HCL := hide (kclone_any x.sizes f.sizes V.drew ((unhide HRF).sizes.later (hN2.m.below (Below.refl _ _).drew).bel (Nat.le_refl _)) hsl)
   have HAP := hide (fun (w5 W2 w6 : World) (t : Pg.Sl) (h1 : Below V.heap.size V w5) h2 h3 h4 h5 (g c : Nat) h6 h7 => hN2.addS (W1 := w5) (W2 := W2) (w6 := w6) (t := t) (s := x.sizes) h1 h2 h3 h4 h5 g c h6 h7)
   have hgx2 : (Value.slice gg ts.length cg).ownBlock ≠ some W.heap.size := hgx
   obtain ⟨ns, hns⟩ : ∃ ns, ns = x.sizes.length := ⟨_, rfl⟩
   rw [← hns] at HCL HAP
   clear hns
   generalize ts.length = nt at *
   generalize ts.map Kd.sv = xs at *
   clear hN2
   go_region_law (first
    | (go_simp; go_at_call 62; refine (unhide HCL).mono ?_; rintro r5 w5 ⟨a5, c5, rfl, ho5, hb5⟩; have HB5 := hide (show Below V.heap.size V w5 from ((Below.refl V.heap.size V).drew).trans (hb5.mono (Nat.le_refl _))); have HO5 := hide (show w5.ownsRow V.heap.size 3 1 (.slice a5 ns c5) ns _ from ho5); have y2 := (Kd.cell_kept ((unhide HB5).block bc hbl) 2).trans k2; have yf := (Kd.frz_kept ((unhide HB5).block bc hbl) 2).trans kf; have y2a : (w5.alloc (Obj.cells #[.slice a5 ns c5] 23)).cell? ⟨bc, 2, none⟩ = some (.slice gg nt cg) := Kd.cell_alloc y2; have hs5 := (unhide HB5).size; have HNW := hide (World.news_of_block (heap_alloc_new w5 (Obj.cells #[.slice a5 ns c5] 23))); have HBD := hide (show Below w5.heap.size w5 (w5.alloc (Obj.cells #[.slice a5 ns c5] 23)) from (Below.refl _ _).alloc (Nat.le_refl _) _); clear ho5 hb5)
    | (refine step_append_lies _ rfl (.tmp 28) (.tmp 32) 24 rfl w0.heap.size 23 i1 _ 1 24 Tryz.underlying24 (unhide HI1) (unhide HY0) (unhide HY1) (unhide HY2) rfl (by omega) (.slice gg nt cg) nt xs rfl (Pg.ow_below (Pg.ow_below (unhide HROW) (unhide HB5)) (unhide HBD)) ⟨w5.heap.size, 0, none⟩ 1 1 [.slice a5 ns c5] rfl rfl (unhide HNW) (by simp [Value.oneCell']) (by omega) (by unfold maxLen; omega) (by omega) (by simp; omega) _ rfl ?_; intro gA cA w6 hoA hgA hatA hltA; have HGA := hide hgA; have HOA := hide hoA; have HAT := hide (show (Value.slice gg nt cg).ownBlock = some gA ∨ w5.heap.size ≤ gA from hatA.imp id (fun e => by rw [e]; simp)); have hbb := (hgA.block bc (by simp; omega) (fun e => (unhide HEV) bc e.symm rfl)).trans ((unhide HBD).block bc (by omega)); have z4 := (Kd.cell_kept hbb 2).trans y2; have z5 := (Kd.frz_kept hbb 2).trans yf; clear hatA hltA hoA hgA hbb))
   all_goals
    go_wp2_with fail
    go_meet
    case rel =>
     have hA := (unhide HAP) w5 _ _ ⟨a5, ns, c5⟩ (unhide HB5) (unhide HO5) rfl (unhide HBD) (unhide HGA) _ _ (unhide HOA) (unhide HAT)
     exact ⟨_, _, hA.1, hA.2 _ hVl hbx hgx2⟩
  case rest =>
   rename World => w3
   obtain ⟨gv3, ts3, hN3, hx3⟩ := hcut
   have hx3' := hx3.trans (unhide HX2)
   have h3l : W.heap.size < w3.heap.size := (Array.getElem?_eq_some_iff.1 hx3').1
   have f2 := (cell_of_row w3 W.heap.size 2 _ _ _ hx3').trans rfl
   have HN3 := hide hN3
   have HX3 := hide hx3'
   have hfn : (Kd.fn b x l.length a).length = (Kd.cmds n x.cmds l.length a).length + (Kd.fin b x).length := by unfold Kd.fn; rw [List.length_append]
   have HCM := hide (kcmds_ok (p := p) (now := q) (x := x) n f.cmds x.cmds w3 rv l a (unhide HRF).cmds (unhide HH) hN3.m (by have := unhide HLEN; omega) (unhide HA))
   obtain ⟨L2, hL2⟩ : ∃ L2, L2 = l ++ Kd.cmds n x.cmds l.length a := ⟨_, rfl⟩
   rw [← hL2] at HCM
   have HL2 := hide (show L2.length + (Kd.fin b x).length ≤ 50000 by rw [hL2, List.length_append]; have := unhide HLEN; omega)
   have HLF := hide (show LL = L2 ++ Kd.fin b x by rw [unhide HLL, hL2, List.append_assoc]; rfl)
   clear hN3 hx3 hx3' hfn hL2 HN2 HX2 HLL
   go_wp2_with fail
   refine (unhide HCM).mono ?_
   rintro r w4 ⟨rfl, v4, hm4, hk4⟩
   have hx4 := (hk4.blk W.heap.size h3l hbx hrx).trans (unhide HX3)
   have hN4 := (unhide HN3).step hm4 hk4
   have HN4 := hide hN4
   have g3 := (cell_of_row w4 W.heap.size 3 _ _ _ hx4).trans rfl
   have g4 := (cell_of_row w4 W.heap.size 4 _ _ _ hx4).trans rfl
   have g5 := (cell_of_row w4 W.heap.size 5 _ _ _ hx4).trans rfl
   clear hx4 hk4 f2
   cases b with
   | true =>
    have HF := hide (show Kd.fin true x = [⟨14, 0, 0⟩] from rfl)
    have HPU := hide (kput_any hm4 (by have := unhide HL2; omega) 14 0 0)
    clear hm4 hN4
    go_wp2_with fail
    refine (unhide HPU).mono ?_
    rintro r w5 ⟨rfl, v5, hm5, hk5⟩
    have HP := hide ((unhide HN4).step hm5 hk5)
    clear hm5 hk5
    go_wp2_with fail
    exact bodyPost_ret (results_none rfl _ _ _) rfl ⟨rfl, v5, fv2, gv3, ts3, by rw [unhide HLF, unhide HF]; exact unhide HP⟩
   | false =>
    have hr4 : Pg.chkX x.sizes m x.res = 0 := by
     have := unhide H4
     unfold Pg.wres at this
     rw [← unhide HB] at this
     simpa using this
    have hfi : (Kd.fin false x).length = Pg.parts m x.res + 1 := by show (Kd.ex m x.res ++ [_]).length = _; rw [List.length_append, Kd.ex_len]; rfl
    have HF := hide (show Kd.fin false x = Kd.ex m x.res ++ [⟨13, 0, 0⟩] from rfl)
    have HEX := hide (kexpr_any m f.res x.res w4 v4 _ _ (unhide HRF).res hm4 (by have := unhide HL2; omega))
    have HLX := hide (show (L2 ++ Kd.ex m x.res).length ≤ 100000 by rw [List.length_append, Kd.ex_len]; have := unhide HL2; omega)
    clear hm4 hN4 hr4 hfi
    go_wp2_with fail
    refine (unhide HEX).mono ?_
    rintro r w5 ⟨rfl, v5, hm5, hk5⟩
    have HN5 := hide ((unhide HN4).step hm5 hk5)
    have HPU := hide (kput_any hm5 (unhide HLX) 13 0 0)
    clear hm5 hk5 g3 g4 g5
    go_wp2_with fail
    refine (unhide HPU).mono ?_
    rintro r w6 ⟨rfl, v6, hm6, hk6⟩
    have HP := hide ((unhide HN5).step hm6 hk6)
    clear hm6 hk6
    go_wp2_with fail
    go_end0
    exact ⟨rfl, v6, fv2, gv3, ts3, by rw [unhide HLF, unhide HF, ← List.append_assoc]; exact unhide HP⟩
end
end Go.Proofs.YtpfogjplnodacaaGreat
