/-
  The contract of the machine's do. By the verifier; written by mkvdo.py.
-/
import Derived.Test.YtpfogjplnodacaaGreatLG
import Derived.Test.YtpfogjplnodacaaGreatLJ
import Derived.Test.YtpfogjplnodacaaGreatLN
set_option maxRecDepth 100000
set_option maxHeartbeats 3200000
namespace Go.Proofs.YtpfogjplnodacaaGreat
open Go.RowKit Go.Maps
set_option linter.unusedVariables false
theorem Vm.Q.more {w0 : World} {bm : Nat} {c : Vm.Cx} {ss : List (List Int)} {N N' : Nat} {t : Vd.St} {W : World} (h : Vm.Q w0 bm c ss N t W) (hn : N ≤ N') : Vm.Q w0 bm c ss N' t W := by
 rcases h with h | ⟨h1, tg, ms, rf, ev, h2, h3⟩
 · exact .inl h
 · exact .inr ⟨h1, tg, ms, rf, ev, h2.more hn, h3⟩
theorem Vm.p1 {l : List Int} (h : (!decide ((l.length : Int) < 1)) = true) : ∃ n q, l = n :: q := by
 cases l with
 | nil => exact absurd h (by decide)
 | cons n q => exact ⟨n, q, rfl⟩
theorem Vm.p2 {l : List Int} (h : (!decide ((l.length : Int) < 2)) = true) : ∃ n i q, l = n :: i :: q := by
 cases l with
 | nil => exact absurd h (by decide)
 | cons n q =>
  cases q with
  | nil => exact absurd h (by simp)
  | cons i q => exact ⟨n, i, q, rfl⟩
theorem vdo_1 {w0 W : World} {tg : Nat → Nat} {N bm : Nat} {c : Vm.Cx} {ss : List (List Int)} {s : Xr.S} {f : Vd.F} {z : Vm.Z} {r : List Vm.X} {rf ev : Value} {li : List Kd.I} {fs : List Int} (hco : Kd.RCo w0 c.si c.sf c.sz li fs ss) (hc : Vd.Cd li fs ss) (hfo : Vd.FOk li ss f) (hro : ∀ g ∈ r.map Prod.fst, Vd.FOk li ss g) (h : Vm.J w0 W tg N bm c ss s ((f, z) :: r) rf ev) (hs : s.ended = false) (hle : s.evs.length ≤ 900000) (hN : N ≤ 900000) (hmd : s.made ≤ 900000) (hfu : s.fuel ≤ 100000) (hr : r.length ≤ 5) (a b : Int) (hin : Kd.inR li.length fs.length ⟨1, a, b⟩ = true) (hcan : Vd.can ss ⟨1, a, b⟩ f (r.map Prod.fst) = true) :
  Calls Tryz.prog 40 #[.pointer (some ⟨bm, 0, none⟩), .pointer (some ⟨z.bf, 0, none⟩), .agg #[.int .i64 1, .int .i64 a, .int .i64 b]] W fun rr W' => rr = .returned (.tuple #[]) ∧ Vm.Q w0 bm c ss (N + 3) (Vd.does fs ss ⟨1, a, b⟩ s f (r.map Prod.fst)) W' := by
 obtain ⟨RT, hRT⟩ : ∃ RT, RT = Vd.does fs ss ⟨1, a, b⟩ s f (r.map Prod.fst) := ⟨_, rfl⟩
 rw [← hRT]
 unfold Vd.can at hcan
 rw [Bool.and_eq_true] at hcan
 obtain ⟨hct, hc2⟩ := hcan
 rw [Vd.d1] at hRT
 have hal := h.alloc (fun _ => False) (Obj.cells #[.int .i64 1, .int .i64 a, .int .i64 b] 54)
 have hbx := Vm.Bx.new (heap_alloc_new W (Obj.cells #[.int .i64 1, .int .i64 a, .int .i64 b] 54))
 have c0 := hbx.at_ 0 _ rfl
 have c1 := hbx.at_ 1 _ rfl
 have c2 := hbx.at_ 2 _ rfl
 have hbl := hbx.lt
 have hbt : (fun q => if q = W.heap.size then 3 else tg q) W.heap.size = 3 := if_pos rfl
 have hj := hal.1
 clear h hal hbx
 generalize (fun q => if q = W.heap.size then 3 else tg q) = tg1 at *
 have HSE := hide hs
 have HRT := hide hRT
 have HC := hide (vstep_any hj hs (show s.evs.length ≤ 1000000 by omega) hfu a)
 rw [← hRT] at HC
 clear hj c2
 clear hRT
 go_enter Tryz.func40, Tryz.ntmps40
 go_wp2_with fail
 refine (unhide HC).mono ?_
 rintro r2 w2 ⟨rfl, hq2⟩
 have HQ := hide hq2
 clear hq2
 go_wp2_with fail
 go_end0
 exact ⟨rfl, Vm.Q.more (N' := N + 3) (unhide HQ) (by omega)⟩
theorem vdo_2 {w0 W : World} {tg : Nat → Nat} {N bm : Nat} {c : Vm.Cx} {ss : List (List Int)} {s : Xr.S} {f : Vd.F} {z : Vm.Z} {r : List Vm.X} {rf ev : Value} {li : List Kd.I} {fs : List Int} (hco : Kd.RCo w0 c.si c.sf c.sz li fs ss) (hc : Vd.Cd li fs ss) (hfo : Vd.FOk li ss f) (hro : ∀ g ∈ r.map Prod.fst, Vd.FOk li ss g) (h : Vm.J w0 W tg N bm c ss s ((f, z) :: r) rf ev) (hs : s.ended = false) (hle : s.evs.length ≤ 900000) (hN : N ≤ 900000) (hmd : s.made ≤ 900000) (hfu : s.fuel ≤ 100000) (hr : r.length ≤ 5) (a b : Int) (hin : Kd.inR li.length fs.length ⟨2, a, b⟩ = true) (hcan : Vd.can ss ⟨2, a, b⟩ f (r.map Prod.fst) = true) :
  Calls Tryz.prog 40 #[.pointer (some ⟨bm, 0, none⟩), .pointer (some ⟨z.bf, 0, none⟩), .agg #[.int .i64 2, .int .i64 a, .int .i64 b]] W fun rr W' => rr = .returned (.tuple #[]) ∧ Vm.Q w0 bm c ss (N + 3) (Vd.does fs ss ⟨2, a, b⟩ s f (r.map Prod.fst)) W' := by
 obtain ⟨RT, hRT⟩ : ∃ RT, RT = Vd.does fs ss ⟨2, a, b⟩ s f (r.map Prod.fst) := ⟨_, rfl⟩
 rw [← hRT]
 unfold Vd.can at hcan
 rw [Bool.and_eq_true] at hcan
 obtain ⟨hct, hc2⟩ := hcan
 have h64 : f.pile.length < 64 := of_decide_eq_true hc2
 rw [Vd.d2, if_pos h64] at hRT
 have hal := h.alloc (fun _ => False) (Obj.cells #[.int .i64 2, .int .i64 a, .int .i64 b] 54)
 have hbx := Vm.Bx.new (heap_alloc_new W (Obj.cells #[.int .i64 2, .int .i64 a, .int .i64 b] 54))
 have c0 := hbx.at_ 0 _ rfl
 have c1 := hbx.at_ 1 _ rfl
 have c2 := hbx.at_ 2 _ rfl
 have hbl := hbx.lt
 have hbt : (fun q => if q = W.heap.size then 3 else tg q) W.heap.size = 3 := if_pos rfl
 have hj := hal.1
 clear h hal hbx
 generalize (fun q => if q = W.heap.size then 3 else tg q) = tg1 at *
 have HSE := hide hs
 have HRT := hide hRT
 have HC := hide (vpush_any hj.frs.1 hj.bel.size a (show f.pile.length ≤ 1000 by omega))
 have HJ := hide hj
 clear hj c2
 clear hRT
 go_enter Tryz.func40, Tryz.ntmps40
 go_wp2_with fail
 refine (unhide HC).mono ?_
 rintro r2 w2 ⟨rfl, tg2, z2, hz2, hf2, hk2⟩
 have HJ2 := hide (((unhide HJ).frame hf2 hz2 (Nat.le_refl _) hk2).more (Nat.le_add_right N 3))
 clear hf2 hz2 hk2
 go_wp2_with fail
 go_end0
 exact ⟨rfl, by rw [unhide HRT]; exact Vm.Q.on (unhide HJ2) (unhide HSE) rfl⟩
theorem vdo_3 {w0 W : World} {tg : Nat → Nat} {N bm : Nat} {c : Vm.Cx} {ss : List (List Int)} {s : Xr.S} {f : Vd.F} {z : Vm.Z} {r : List Vm.X} {rf ev : Value} {li : List Kd.I} {fs : List Int} (hco : Kd.RCo w0 c.si c.sf c.sz li fs ss) (hc : Vd.Cd li fs ss) (hfo : Vd.FOk li ss f) (hro : ∀ g ∈ r.map Prod.fst, Vd.FOk li ss g) (h : Vm.J w0 W tg N bm c ss s ((f, z) :: r) rf ev) (hs : s.ended = false) (hle : s.evs.length ≤ 900000) (hN : N ≤ 900000) (hmd : s.made ≤ 900000) (hfu : s.fuel ≤ 100000) (hr : r.length ≤ 5) (a b : Int) (hin : Kd.inR li.length fs.length ⟨3, a, b⟩ = true) (hcan : Vd.can ss ⟨3, a, b⟩ f (r.map Prod.fst) = true) :
  Calls Tryz.prog 40 #[.pointer (some ⟨bm, 0, none⟩), .pointer (some ⟨z.bf, 0, none⟩), .agg #[.int .i64 3, .int .i64 a, .int .i64 b]] W fun rr W' => rr = .returned (.tuple #[]) ∧ Vm.Q w0 bm c ss (N + 3) (Vd.does fs ss ⟨3, a, b⟩ s f (r.map Prod.fst)) W' := by
 obtain ⟨RT, hRT⟩ : ∃ RT, RT = Vd.does fs ss ⟨3, a, b⟩ s f (r.map Prod.fst) := ⟨_, rfl⟩
 rw [← hRT]
 unfold Vd.can at hcan
 rw [Bool.and_eq_true] at hcan
 obtain ⟨hct, hc2⟩ := hcan
 have ha : 0 ≤ a := by unfold Kd.inR at hin; simpa using hin
 obtain ⟨v, rfl⟩ : ∃ v : Nat, a = v := ⟨a.toNat, by omega⟩
 have hc3 := (Bool.and_eq_true _ _ ▸ hc2 : decide (f.pile.length < 64) = true ∧ Vd.plain (ss[f.fn]?.getD []) (v : Nat) = true)
 have h64 : f.pile.length < 64 := of_decide_eq_true hc3.1
 rw [Vd.d3, if_pos ⟨h64, hc3.2⟩] at hRT
 have hy := Vm.plain_at hc3.2
 obtain ⟨l, hvl, hll, h8⟩ := Vm.var hc hfo hy
 have hl1 : l.length = 1 := by omega
 obtain ⟨x, hx⟩ : ∃ x, l[0]? = some x := ⟨_, List.getElem?_eq_getElem (by omega)⟩
 have hcell : Vd.cellOf f (v : Nat) 0 = x := by unfold Vd.cellOf; rw [Int.toNat_natCast, hvl]; show (l[0]?).getD 0 = x; rw [hx]; rfl
 rw [hcell] at hRT
 have hal := h.alloc (fun _ => False) (Obj.cells #[.int .i64 3, .int .i64 (v : Nat), .int .i64 b] 54)
 have hbx := Vm.Bx.new (heap_alloc_new W (Obj.cells #[.int .i64 3, .int .i64 (v : Nat), .int .i64 b] 54))
 have c0 := hbx.at_ 0 _ rfl
 have c1 := hbx.at_ 1 _ rfl
 have c2 := hbx.at_ 2 _ rfl
 have hbl := hbx.lt
 have hbt : (fun q => if q = W.heap.size then 3 else tg q) W.heap.size = 3 := if_pos rfl
 have hj := hal.1
 clear h hal hbx
 generalize (fun q => if q = W.heap.size then 3 else tg q) = tg1 at *
 have HSE := hide hs
 have HRT := hide hRT
 have HC := hide (vcells_any hj.frs.1 hj.bel (v := v) hvl hy hll h8 (by omega))
 have HJ := hide hj
 have HV := hide hvl
 have HX := hide hx
 have hp64 : f.pile.length ≤ 1000 := by omega
 rw [hl1] at HC
 have HL1 := hide hl1
 clear hj c2 hl1 hvl hll hx hcell hy
 clear hRT
 go_enter Tryz.func40, Tryz.ntmps40
 go_wp2_with fail
 refine (unhide HC).mono ?_
 rintro r2 w2 ⟨b2, cc, rfl, tg2, z2, hz2, hm2, hf2, hk2⟩
 have hJ2 := (unhide HJ).frame hf2 hz2 (Nat.le_succ N) (hk2.mono Vm.Cv_Cf)
 have hat := hf2.at_ v l (unhide HV)
 rw [hm2] at hat
 obtain ⟨_, _, _, hlc, hbx⟩ := hat
 have p1 := hbx.at_ 0 (.int .i64 x) (by rw [List.getElem?_map, unhide HX]; rfl)
 have hps := vpush_any hf2 hJ2.bel.size x hp64
 rw [hz2] at hps
 have HPS := hide hps
 have HJ2 := hide hJ2
 have HZ2 := hide hz2
 clear hf2 hz2 hk2 hm2 hJ2 hps hbx
 go_wp2_with fail
 refine (unhide HPS).mono ?_
 rintro r3 w3 ⟨rfl, tg3, z3, hz3, hf3, hk3⟩
 have HJ3 := hide (((unhide HJ2).frame hf3 (hz3.trans (unhide HZ2).symm) (Nat.le_refl _) hk3).more (show N + 1 ≤ N + 3 by omega))
 clear hf3 hz3 hk3
 go_wp2_with fail
 go_end0
 exact ⟨rfl, by rw [unhide HRT]; exact Vm.Q.on (unhide HJ3) (unhide HSE) rfl⟩
theorem vdo_4 {w0 W : World} {tg : Nat → Nat} {N bm : Nat} {c : Vm.Cx} {ss : List (List Int)} {s : Xr.S} {f : Vd.F} {z : Vm.Z} {r : List Vm.X} {rf ev : Value} {li : List Kd.I} {fs : List Int} (hco : Kd.RCo w0 c.si c.sf c.sz li fs ss) (hc : Vd.Cd li fs ss) (hfo : Vd.FOk li ss f) (hro : ∀ g ∈ r.map Prod.fst, Vd.FOk li ss g) (h : Vm.J w0 W tg N bm c ss s ((f, z) :: r) rf ev) (hs : s.ended = false) (hle : s.evs.length ≤ 900000) (hN : N ≤ 900000) (hmd : s.made ≤ 900000) (hfu : s.fuel ≤ 100000) (hr : r.length ≤ 5) (a b : Int) (hin : Kd.inR li.length fs.length ⟨4, a, b⟩ = true) (hcan : Vd.can ss ⟨4, a, b⟩ f (r.map Prod.fst) = true) :
  Calls Tryz.prog 40 #[.pointer (some ⟨bm, 0, none⟩), .pointer (some ⟨z.bf, 0, none⟩), .agg #[.int .i64 4, .int .i64 a, .int .i64 b]] W fun rr W' => rr = .returned (.tuple #[]) ∧ Vm.Q w0 bm c ss (N + 3) (Vd.does fs ss ⟨4, a, b⟩ s f (r.map Prod.fst)) W' := by
 obtain ⟨RT, hRT⟩ : ∃ RT, RT = Vd.does fs ss ⟨4, a, b⟩ s f (r.map Prod.fst) := ⟨_, rfl⟩
 rw [← hRT]
 unfold Vd.can at hcan
 rw [Bool.and_eq_true] at hcan
 obtain ⟨hct, hc2⟩ := hcan
 obtain ⟨n, q, hp⟩ := Vm.p1 (show (!decide ((f.pile.length : Int) < 1)) = true from hct)
 have ha : 0 ≤ a := by unfold Kd.inR at hin; simpa using hin
 obtain ⟨v, rfl⟩ : ∃ v : Nat, a = v := ⟨a.toNat, by omega⟩
 rw [Vd.d4 _ _ hp, if_pos (show Vd.arr (ss[f.fn]?.getD []) (v : Nat) = true from hc2)] at hRT
 have hal := h.alloc (fun _ => False) (Obj.cells #[.int .i64 4, .int .i64 (v : Nat), .int .i64 b] 54)
 have hbx := Vm.Bx.new (heap_alloc_new W (Obj.cells #[.int .i64 4, .int .i64 (v : Nat), .int .i64 b] 54))
 have c0 := hbx.at_ 0 _ rfl
 have c1 := hbx.at_ 1 _ rfl
 have c2 := hbx.at_ 2 _ rfl
 have hbl := hbx.lt
 have hbt : (fun q => if q = W.heap.size then 3 else tg q) W.heap.size = 3 := if_pos rfl
 have hj := hal.1
 clear h hal hbx
 generalize (fun q => if q = W.heap.size then 3 else tg q) = tg1 at *
 have HSE := hide hs
 have HRT := hide hRT
 have HC := hide (vcell_any hc hfo hj hs (by omega) (by omega) hp hc2)
 rw [← hRT] at HC
 clear hj c2
 clear hRT
 go_enter Tryz.func40, Tryz.ntmps40
 go_wp2_with fail
 refine (unhide HC).mono ?_
 rintro r2 w2 ⟨rfl, hq2⟩
 have HQ := hide hq2
 clear hq2
 go_wp2_with fail
 go_end0
 exact ⟨rfl, Vm.Q.more (N' := N + 3) (unhide HQ) (by omega)⟩
theorem vdo_5 {w0 W : World} {tg : Nat → Nat} {N bm : Nat} {c : Vm.Cx} {ss : List (List Int)} {s : Xr.S} {f : Vd.F} {z : Vm.Z} {r : List Vm.X} {rf ev : Value} {li : List Kd.I} {fs : List Int} (hco : Kd.RCo w0 c.si c.sf c.sz li fs ss) (hc : Vd.Cd li fs ss) (hfo : Vd.FOk li ss f) (hro : ∀ g ∈ r.map Prod.fst, Vd.FOk li ss g) (h : Vm.J w0 W tg N bm c ss s ((f, z) :: r) rf ev) (hs : s.ended = false) (hle : s.evs.length ≤ 900000) (hN : N ≤ 900000) (hmd : s.made ≤ 900000) (hfu : s.fuel ≤ 100000) (hr : r.length ≤ 5) (a b : Int) (hin : Kd.inR li.length fs.length ⟨5, a, b⟩ = true) (hcan : Vd.can ss ⟨5, a, b⟩ f (r.map Prod.fst) = true) :
  Calls Tryz.prog 40 #[.pointer (some ⟨bm, 0, none⟩), .pointer (some ⟨z.bf, 0, none⟩), .agg #[.int .i64 5, .int .i64 a, .int .i64 b]] W fun rr W' => rr = .returned (.tuple #[]) ∧ Vm.Q w0 bm c ss (N + 3) (Vd.does fs ss ⟨5, a, b⟩ s f (r.map Prod.fst)) W' := by
 obtain ⟨RT, hRT⟩ : ∃ RT, RT = Vd.does fs ss ⟨5, a, b⟩ s f (r.map Prod.fst) := ⟨_, rfl⟩
 rw [← hRT]
 unfold Vd.can at hcan
 rw [Bool.and_eq_true] at hcan
 obtain ⟨hct, hc2⟩ := hcan
 obtain ⟨n, i, q, hp⟩ := Vm.p2 (show (!decide ((f.pile.length : Int) < 2)) = true from hct)
 have hk : 4 ≤ a ∧ a ≤ 10 := by unfold Kd.inR at hin; simpa using hin
 rw [Vd.d5 _ _ hp] at hRT
 have hal := h.alloc (fun _ => False) (Obj.cells #[.int .i64 5, .int .i64 a, .int .i64 b] 54)
 have hbx := Vm.Bx.new (heap_alloc_new W (Obj.cells #[.int .i64 5, .int .i64 a, .int .i64 b] 54))
 have c0 := hbx.at_ 0 _ rfl
 have c1 := hbx.at_ 1 _ rfl
 have c2 := hbx.at_ 2 _ rfl
 have hbl := hbx.lt
 have hbt : (fun q => if q = W.heap.size then 3 else tg q) W.heap.size = 3 := if_pos rfl
 have hj := hal.1
 clear h hal hbx
 generalize (fun q => if q = W.heap.size then 3 else tg q) = tg1 at *
 have HSE := hide hs
 have HRT := hide hRT
 have HC := hide (vjoin_any hfo hj hs (by omega) hp hk)
 rw [← hRT] at HC
 clear hj c2
 clear hRT
 go_enter Tryz.func40, Tryz.ntmps40
 go_wp2_with fail
 refine (unhide HC).mono ?_
 rintro r2 w2 ⟨rfl, hq2⟩
 have HQ := hide hq2
 clear hq2
 go_wp2_with fail
 go_end0
 exact ⟨rfl, Vm.Q.more (N' := N + 3) (unhide HQ) (by omega)⟩
theorem vdo_6 {w0 W : World} {tg : Nat → Nat} {N bm : Nat} {c : Vm.Cx} {ss : List (List Int)} {s : Xr.S} {f : Vd.F} {z : Vm.Z} {r : List Vm.X} {rf ev : Value} {li : List Kd.I} {fs : List Int} (hco : Kd.RCo w0 c.si c.sf c.sz li fs ss) (hc : Vd.Cd li fs ss) (hfo : Vd.FOk li ss f) (hro : ∀ g ∈ r.map Prod.fst, Vd.FOk li ss g) (h : Vm.J w0 W tg N bm c ss s ((f, z) :: r) rf ev) (hs : s.ended = false) (hle : s.evs.length ≤ 900000) (hN : N ≤ 900000) (hmd : s.made ≤ 900000) (hfu : s.fuel ≤ 100000) (hr : r.length ≤ 5) (a b : Int) (hin : Kd.inR li.length fs.length ⟨6, a, b⟩ = true) (hcan : Vd.can ss ⟨6, a, b⟩ f (r.map Prod.fst) = true) :
  Calls Tryz.prog 40 #[.pointer (some ⟨bm, 0, none⟩), .pointer (some ⟨z.bf, 0, none⟩), .agg #[.int .i64 6, .int .i64 a, .int .i64 b]] W fun rr W' => rr = .returned (.tuple #[]) ∧ Vm.Q w0 bm c ss (N + 3) (Vd.does fs ss ⟨6, a, b⟩ s f (r.map Prod.fst)) W' := by
 obtain ⟨RT, hRT⟩ : ∃ RT, RT = Vd.does fs ss ⟨6, a, b⟩ s f (r.map Prod.fst) := ⟨_, rfl⟩
 rw [← hRT]
 unfold Vd.can at hcan
 rw [Bool.and_eq_true] at hcan
 obtain ⟨hct, hc2⟩ := hcan
 obtain ⟨n, q, hp⟩ := Vm.p1 (show (!decide ((f.pile.length : Int) < 1)) = true from hct)
 have ha : 0 ≤ a := by unfold Kd.inR at hin; simpa using hin
 obtain ⟨v, rfl⟩ : ∃ v : Nat, a = v := ⟨a.toNat, by omega⟩
 have hpl : Vd.plain (ss[f.fn]?.getD []) (v : Nat) = true := hc2
 rw [Vd.d6 _ _ hp, if_pos hpl] at hRT
 have hy := Vm.plain_at hpl
 obtain ⟨l, hvl, hll, h8⟩ := Vm.var hc hfo hy
 have hl0 : 0 < l.length := by omega
 have hal := h.alloc (fun _ => False) (Obj.cells #[.int .i64 6, .int .i64 (v : Nat), .int .i64 b] 54)
 have hbx := Vm.Bx.new (heap_alloc_new W (Obj.cells #[.int .i64 6, .int .i64 (v : Nat), .int .i64 b] 54))
 have c0 := hbx.at_ 0 _ rfl
 have c1 := hbx.at_ 1 _ rfl
 have c2 := hbx.at_ 2 _ rfl
 have hbl := hbx.lt
 have hbt : (fun q => if q = W.heap.size then 3 else tg q) W.heap.size = 3 := if_pos rfl
 have hj := hal.1
 clear h hal hbx
 generalize (fun q => if q = W.heap.size then 3 else tg q) = tg1 at *
 have HSE := hide hs
 have HRT := hide hRT
 have HP := hide (fun (V : World) (hV : Below (W.alloc (Obj.cells #[.int .i64 6, .int .i64 (v : Nat), .int .i64 b] 54)).heap.size (W.alloc (Obj.cells #[.int .i64 6, .int .i64 (v : Nat), .int .i64 b] 54)) V) => vpop_any (hj.below hV).frs.1 hp (show f.pile.length ≤ 1000 by have := hfo.top; omega))
 have HWR := hide (fun (V : World) (z2 : Vm.Z) (hz2 : z2.bf = z.bf) (hJ : Vm.J w0 V tg1 N bm c ss s (({ f with pile := q }, z2) :: r) rf ev) => by
  have := vwrite_any hJ hs (show s.evs.length ≤ 1000000 by omega) f.fr.at_ (v := v) (i := 0) n hvl hy hll h8 hl0 (by omega)
  rw [show ((({ f with pile := q } : Vd.F), z2) : Vm.X).2.bf = z.bf from hz2] at this
  exact this)
 have HJ := hide hj
 have k1 := hj.frs.1.k1
 have HSW := hide (show (Xr.wrS s f.fr f.fr.at_ (v : Nat) (0 : Nat) n).ended = false by unfold Xr.wrS; rw [Vd.tell_evs hs]; exact hs)
 have HKM := hide (show (W.alloc (Obj.cells #[.int .i64 6, .int .i64 (v : Nat), .int .i64 b] 54)).drew.cell? ⟨z.bf, 1, none⟩ = some (.int .i64 f.fr.at_) ∧ (W.alloc (Obj.cells #[.int .i64 6, .int .i64 (v : Nat), .int .i64 b] 54)).drew.cell? ⟨W.heap.size, 1, none⟩ = some (.int .i64 (v : Nat)) from ⟨k1, c1⟩)
 clear hj c2 hvl hll hy
 clear hRT
 go_enter Tryz.func40, Tryz.ntmps40
 go_upto_region 13 with fail
 clear k1 c0 c1
 go_region_held3 (fun V => V.cell? ⟨z.bf, 1, none⟩ = some (.int .i64 f.fr.at_) ∧ V.cell? ⟨W.heap.size, 1, none⟩ = some (.int .i64 (v : Nat)))
  (first | assumption | exact unhide HKM | exact unhide HM2 | exact unhide HM4)
  (first
   | (go_at_call 86; refine ((unhide HP) _ ?_).mono ?_; exact (Below.refl _ _).drew; rintro r2 w2 ⟨z2, rfl, hz2, hf2, hk2⟩; have HM2 := hide (show w2.cell? ⟨z.bf, 1, none⟩ = some (.int .i64 f.fr.at_) ∧ w2.cell? ⟨W.heap.size, 1, none⟩ = some (.int .i64 (v : Nat)) from ⟨by rw [← hz2]; exact hf2.k1, (Xr.cell_kept (hk2.blk W.heap.size hbl (by rw [hbt]; unfold Vm.Cf; omega)) 1).trans (unhide HKM).2⟩); have HW2 := hide ((unhide HWR) w2 z2 hz2 (((unhide HJ).below (Below.refl _ _).drew).frame hf2 hz2 (Nat.le_refl _) hk2)); have HBL2 := hide (Nat.lt_of_lt_of_le hbl hk2.size); have HBT2 := hide hbt; clear hz2 hf2 hk2)
   | (go_at_call 85; refine (unhide HW2).mono ?_; rintro r4 w4 ⟨rfl, tg4, z4, ev4, hz4, hj4, hk4⟩; have HM4 := hide (show w4.cell? ⟨z.bf, 1, none⟩ = some (.int .i64 f.fr.at_) ∧ w4.cell? ⟨W.heap.size, 1, none⟩ = some (.int .i64 (v : Nat)) from ⟨by rw [← hz4]; exact hj4.frs.1.k1, (Xr.cell_kept (hk4.blk W.heap.size (unhide HBL2) (by rw [unhide HBT2]; unfold Vm.Cw; omega)) 1).trans (unhide HM2).2⟩); have HJ4 := hide hj4; clear hz4 hj4 hk4))
 all_goals
  go_wp2_with fail
  go_end0
  exact ⟨rfl, by rw [unhide HRT]; exact Vm.Q.on ((unhide HJ4).more (show N + 1 ≤ N + 3 by omega)) (unhide HSW) rfl⟩
theorem vdo_7 {w0 W : World} {tg : Nat → Nat} {N bm : Nat} {c : Vm.Cx} {ss : List (List Int)} {s : Xr.S} {f : Vd.F} {z : Vm.Z} {r : List Vm.X} {rf ev : Value} {li : List Kd.I} {fs : List Int} (hco : Kd.RCo w0 c.si c.sf c.sz li fs ss) (hc : Vd.Cd li fs ss) (hfo : Vd.FOk li ss f) (hro : ∀ g ∈ r.map Prod.fst, Vd.FOk li ss g) (h : Vm.J w0 W tg N bm c ss s ((f, z) :: r) rf ev) (hs : s.ended = false) (hle : s.evs.length ≤ 900000) (hN : N ≤ 900000) (hmd : s.made ≤ 900000) (hfu : s.fuel ≤ 100000) (hr : r.length ≤ 5) (a b : Int) (hin : Kd.inR li.length fs.length ⟨7, a, b⟩ = true) (hcan : Vd.can ss ⟨7, a, b⟩ f (r.map Prod.fst) = true) :
  Calls Tryz.prog 40 #[.pointer (some ⟨bm, 0, none⟩), .pointer (some ⟨z.bf, 0, none⟩), .agg #[.int .i64 7, .int .i64 a, .int .i64 b]] W fun rr W' => rr = .returned (.tuple #[]) ∧ Vm.Q w0 bm c ss (N + 3) (Vd.does fs ss ⟨7, a, b⟩ s f (r.map Prod.fst)) W' := by
 obtain ⟨RT, hRT⟩ : ∃ RT, RT = Vd.does fs ss ⟨7, a, b⟩ s f (r.map Prod.fst) := ⟨_, rfl⟩
 rw [← hRT]
 unfold Vd.can at hcan
 rw [Bool.and_eq_true] at hcan
 obtain ⟨hct, hc2⟩ := hcan
 obtain ⟨n, i, q, hp⟩ := Vm.p2 (show (!decide ((f.pile.length : Int) < 2)) = true from hct)
 have ha : 0 ≤ a := by unfold Kd.inR at hin; simpa using hin
 obtain ⟨v, rfl⟩ : ∃ v : Nat, a = v := ⟨a.toNat, by omega⟩
 rw [Vd.d7 _ _ hp, if_pos (show Vd.arr (ss[f.fn]?.getD []) (v : Nat) = true from hc2)] at hRT
 have hal := h.alloc (fun _ => False) (Obj.cells #[.int .i64 7, .int .i64 (v : Nat), .int .i64 b] 54)
 have hbx := Vm.Bx.new (heap_alloc_new W (Obj.cells #[.int .i64 7, .int .i64 (v : Nat), .int .i64 b] 54))
 have c0 := hbx.at_ 0 _ rfl
 have c1 := hbx.at_ 1 _ rfl
 have c2 := hbx.at_ 2 _ rfl
 have hbl := hbx.lt
 have hbt : (fun q => if q = W.heap.size then 3 else tg q) W.heap.size = 3 := if_pos rfl
 have hj := hal.1
 clear h hal hbx
 generalize (fun q => if q = W.heap.size then 3 else tg q) = tg1 at *
 have HSE := hide hs
 have HRT := hide hRT
 have HC := hide (vput_any hc hfo hj hs (by omega) (by omega) hp hc2)
 rw [← hRT] at HC
 clear hj c2
 clear hRT
 go_enter Tryz.func40, Tryz.ntmps40
 go_wp2_with fail
 refine (unhide HC).mono ?_
 rintro r2 w2 ⟨rfl, hq2⟩
 have HQ := hide hq2
 clear hq2
 go_wp2_with fail
 go_end0
 exact ⟨rfl, Vm.Q.more (N' := N + 3) (unhide HQ) (by omega)⟩
theorem vdo_8 {w0 W : World} {tg : Nat → Nat} {N bm : Nat} {c : Vm.Cx} {ss : List (List Int)} {s : Xr.S} {f : Vd.F} {z : Vm.Z} {r : List Vm.X} {rf ev : Value} {li : List Kd.I} {fs : List Int} (hco : Kd.RCo w0 c.si c.sf c.sz li fs ss) (hc : Vd.Cd li fs ss) (hfo : Vd.FOk li ss f) (hro : ∀ g ∈ r.map Prod.fst, Vd.FOk li ss g) (h : Vm.J w0 W tg N bm c ss s ((f, z) :: r) rf ev) (hs : s.ended = false) (hle : s.evs.length ≤ 900000) (hN : N ≤ 900000) (hmd : s.made ≤ 900000) (hfu : s.fuel ≤ 100000) (hr : r.length ≤ 5) (a b : Int) (hin : Kd.inR li.length fs.length ⟨8, a, b⟩ = true) (hcan : Vd.can ss ⟨8, a, b⟩ f (r.map Prod.fst) = true) :
  Calls Tryz.prog 40 #[.pointer (some ⟨bm, 0, none⟩), .pointer (some ⟨z.bf, 0, none⟩), .agg #[.int .i64 8, .int .i64 a, .int .i64 b]] W fun rr W' => rr = .returned (.tuple #[]) ∧ Vm.Q w0 bm c ss (N + 3) (Vd.does fs ss ⟨8, a, b⟩ s f (r.map Prod.fst)) W' := by
 obtain ⟨RT, hRT⟩ : ∃ RT, RT = Vd.does fs ss ⟨8, a, b⟩ s f (r.map Prod.fst) := ⟨_, rfl⟩
 rw [← hRT]
 unfold Vd.can at hcan
 rw [Bool.and_eq_true] at hcan
 obtain ⟨hct, hc2⟩ := hcan
 have ha : 0 ≤ a := by unfold Kd.inR at hin; simpa using hin
 obtain ⟨v, rfl⟩ : ∃ v : Nat, a = v := ⟨a.toNat, by omega⟩
 rw [Vd.d8, if_pos (show Vd.plain (ss[f.fn]?.getD []) (v : Nat) = true from hc2)] at hRT
 have hal := h.alloc (fun _ => False) (Obj.cells #[.int .i64 8, .int .i64 (v : Nat), .int .i64 b] 54)
 have hbx := Vm.Bx.new (heap_alloc_new W (Obj.cells #[.int .i64 8, .int .i64 (v : Nat), .int .i64 b] 54))
 have c0 := hbx.at_ 0 _ rfl
 have c1 := hbx.at_ 1 _ rfl
 have c2 := hbx.at_ 2 _ rfl
 have hbl := hbx.lt
 have hbt : (fun q => if q = W.heap.size then 3 else tg q) W.heap.size = 3 := if_pos rfl
 have hj := hal.1
 clear h hal hbx
 generalize (fun q => if q = W.heap.size then 3 else tg q) = tg1 at *
 have HSE := hide hs
 have HRT := hide hRT
 have HC := hide (vread_any hc hfo hj hs hle (by omega) hc2)
 rw [← hRT] at HC
 clear hj c2
 clear hRT
 go_enter Tryz.func40, Tryz.ntmps40
 go_wp2_with fail
 refine (unhide HC).mono ?_
 rintro r2 w2 ⟨rfl, hq2⟩
 have HQ := hide hq2
 clear hq2
 go_wp2_with fail
 go_end0
 exact ⟨rfl, Vm.Q.more (N' := N + 3) (unhide HQ) (by omega)⟩
theorem vdo_9 {w0 W : World} {tg : Nat → Nat} {N bm : Nat} {c : Vm.Cx} {ss : List (List Int)} {s : Xr.S} {f : Vd.F} {z : Vm.Z} {r : List Vm.X} {rf ev : Value} {li : List Kd.I} {fs : List Int} (hco : Kd.RCo w0 c.si c.sf c.sz li fs ss) (hc : Vd.Cd li fs ss) (hfo : Vd.FOk li ss f) (hro : ∀ g ∈ r.map Prod.fst, Vd.FOk li ss g) (h : Vm.J w0 W tg N bm c ss s ((f, z) :: r) rf ev) (hs : s.ended = false) (hle : s.evs.length ≤ 900000) (hN : N ≤ 900000) (hmd : s.made ≤ 900000) (hfu : s.fuel ≤ 100000) (hr : r.length ≤ 5) (a b : Int) (hin : Kd.inR li.length fs.length ⟨9, a, b⟩ = true) (hcan : Vd.can ss ⟨9, a, b⟩ f (r.map Prod.fst) = true) :
  Calls Tryz.prog 40 #[.pointer (some ⟨bm, 0, none⟩), .pointer (some ⟨z.bf, 0, none⟩), .agg #[.int .i64 9, .int .i64 a, .int .i64 b]] W fun rr W' => rr = .returned (.tuple #[]) ∧ Vm.Q w0 bm c ss (N + 3) (Vd.does fs ss ⟨9, a, b⟩ s f (r.map Prod.fst)) W' := by
 obtain ⟨RT, hRT⟩ : ∃ RT, RT = Vd.does fs ss ⟨9, a, b⟩ s f (r.map Prod.fst) := ⟨_, rfl⟩
 rw [← hRT]
 unfold Vd.can at hcan
 rw [Bool.and_eq_true] at hcan
 obtain ⟨hct, hc2⟩ := hcan
 obtain ⟨n, q, hp⟩ := Vm.p1 (show (!decide ((f.pile.length : Int) < 1)) = true from hct)
 rw [Vd.d9 _ _ hp] at hRT
 have hal := h.alloc (fun _ => False) (Obj.cells #[.int .i64 9, .int .i64 a, .int .i64 b] 54)
 have hbx := Vm.Bx.new (heap_alloc_new W (Obj.cells #[.int .i64 9, .int .i64 a, .int .i64 b] 54))
 have c0 := hbx.at_ 0 _ rfl
 have c1 := hbx.at_ 1 _ rfl
 have c2 := hbx.at_ 2 _ rfl
 have hbl := hbx.lt
 have hbt : (fun q => if q = W.heap.size then 3 else tg q) W.heap.size = 3 := if_pos rfl
 have hj := hal.1
 clear h hal hbx
 generalize (fun q => if q = W.heap.size then 3 else tg q) = tg1 at *
 have HSE := hide hs
 have HRT := hide hRT
 have HP := hide (fun (V : World) (hV : Below (W.alloc (Obj.cells #[.int .i64 9, .int .i64 a, .int .i64 b] 54)).heap.size (W.alloc (Obj.cells #[.int .i64 9, .int .i64 a, .int .i64 b] 54)) V) => vpop_any (hj.below hV).frs.1 hp (show f.pile.length ≤ 1000 by have := hfo.top; omega))
 have HTL := hide (fun (V : World) (z2 : Vm.Z) (hz2 : z2.bf = z.bf) (hJ : Vm.J w0 V tg1 N bm c ss s (({ f with pile := q }, z2) :: r) rf ev) => vjtell_any hJ z.bf 4 f.fr.at_ 0 0 n _ (by rw [← hz2]; exact hJ.frs.1.k0) hs (show s.evs.length ≤ 1000000 by omega))
 have HJ := hide hj
 have k1 := hj.frs.1.k1
 have HSW := hide (show (Xr.tell s ⟨4, f.fr.num, f.fr.at_, 0, 0, n⟩).ended = false by rw [Vd.tell_evs hs]; exact hs)
 have HKM := hide (show (W.alloc (Obj.cells #[.int .i64 9, .int .i64 a, .int .i64 b] 54)).drew.cell? ⟨z.bf, 1, none⟩ = some (.int .i64 f.fr.at_) from k1)
 clear hj c2
 clear hRT
 go_enter Tryz.func40, Tryz.ntmps40
 go_upto_region 19 with fail
 clear k1 c0 c1
 go_region_held3 (fun V => V.cell? ⟨z.bf, 1, none⟩ = some (.int .i64 f.fr.at_))
  (first | assumption | exact unhide HKM | exact unhide HM2 | exact unhide HM4)
  (first
   | (go_at_call 86; refine ((unhide HP) _ ?_).mono ?_; exact (Below.refl _ _).drew; rintro r2 w2 ⟨z2, rfl, hz2, hf2, hk2⟩; have HM2 := hide (show w2.cell? ⟨z.bf, 1, none⟩ = some (.int .i64 f.fr.at_) from by rw [← hz2]; exact hf2.k1); have HZ2 := hide hz2; have HW2 := hide ((unhide HTL) w2 z2 hz2 (((unhide HJ).below (Below.refl _ _).drew).frame hf2 hz2 (Nat.le_refl _) hk2)); clear hz2 hf2 hk2)
   | (go_at_call 89; refine (unhide HW2).mono ?_; rintro r4 w4 ⟨rfl, tg4, ev4, hj4, hk4⟩; have HM4 := hide (show w4.cell? ⟨z.bf, 1, none⟩ = some (.int .i64 f.fr.at_) from by rw [← unhide HZ2]; exact hj4.frs.1.k1); have HJ4 := hide hj4; clear hj4 hk4))
 all_goals
  go_wp2_with fail
  go_end0
  exact ⟨rfl, by rw [unhide HRT]; exact Vm.Q.on ((unhide HJ4).more (Nat.le_add_right N 3)) (unhide HSW) rfl⟩
theorem vdo_10 {w0 W : World} {tg : Nat → Nat} {N bm : Nat} {c : Vm.Cx} {ss : List (List Int)} {s : Xr.S} {f : Vd.F} {z : Vm.Z} {r : List Vm.X} {rf ev : Value} {li : List Kd.I} {fs : List Int} (hco : Kd.RCo w0 c.si c.sf c.sz li fs ss) (hc : Vd.Cd li fs ss) (hfo : Vd.FOk li ss f) (hro : ∀ g ∈ r.map Prod.fst, Vd.FOk li ss g) (h : Vm.J w0 W tg N bm c ss s ((f, z) :: r) rf ev) (hs : s.ended = false) (hle : s.evs.length ≤ 900000) (hN : N ≤ 900000) (hmd : s.made ≤ 900000) (hfu : s.fuel ≤ 100000) (hr : r.length ≤ 5) (a b : Int) (hin : Kd.inR li.length fs.length ⟨10, a, b⟩ = true) (hcan : Vd.can ss ⟨10, a, b⟩ f (r.map Prod.fst) = true) :
  Calls Tryz.prog 40 #[.pointer (some ⟨bm, 0, none⟩), .pointer (some ⟨z.bf, 0, none⟩), .agg #[.int .i64 10, .int .i64 a, .int .i64 b]] W fun rr W' => rr = .returned (.tuple #[]) ∧ Vm.Q w0 bm c ss (N + 3) (Vd.does fs ss ⟨10, a, b⟩ s f (r.map Prod.fst)) W' := by
 obtain ⟨RT, hRT⟩ : ∃ RT, RT = Vd.does fs ss ⟨10, a, b⟩ s f (r.map Prod.fst) := ⟨_, rfl⟩
 rw [← hRT]
 unfold Vd.can at hcan
 rw [Bool.and_eq_true] at hcan
 obtain ⟨hct, hc2⟩ := hcan
 have ha : 0 ≤ a ∧ a < (li.length : Int) := by unfold Kd.inR at hin; simpa using hin
 obtain ⟨v, rfl⟩ : ∃ v : Nat, a = v := ⟨a.toNat, by omega⟩
 rw [Vd.d10, Int.toNat_natCast] at hRT
 have hal := h.alloc (fun _ => False) (Obj.cells #[.int .i64 10, .int .i64 (v : Nat), .int .i64 b] 54)
 have hbx := Vm.Bx.new (heap_alloc_new W (Obj.cells #[.int .i64 10, .int .i64 (v : Nat), .int .i64 b] 54))
 have c0 := hbx.at_ 0 _ rfl
 have c1 := hbx.at_ 1 _ rfl
 have c2 := hbx.at_ 2 _ rfl
 have hbl := hbx.lt
 have hbt : (fun q => if q = W.heap.size then 3 else tg q) W.heap.size = 3 := if_pos rfl
 have hj := hal.1
 clear h hal hbx
 generalize (fun q => if q = W.heap.size then 3 else tg q) = tg1 at *
 have HSE := hide hs
 have HRT := hide hRT
 have hF2 := hj.frs.1.set 2 (.int .i64 (v : Nat)) (f' := { f with pc := v }) (z' := z) rfl rfl rfl rfl rfl rfl
 have HJ2 := hide ((hj.frame hF2.1 rfl (Nat.le_refl _) hF2.2).more (Nat.le_add_right N 3))
 have k2 := hj.frs.1.box.at_ 2 _ rfl
 have y2 := hj.frs.1.box.fz 2
 clear hj c2 hF2
 clear hRT
 go_enter Tryz.func40, Tryz.ntmps40
 go_wp2_with fail
 go_end0
 exact ⟨rfl, by rw [unhide HRT]; exact Vm.Q.on (unhide HJ2) (unhide HSE) rfl⟩
theorem vdo_11 {w0 W : World} {tg : Nat → Nat} {N bm : Nat} {c : Vm.Cx} {ss : List (List Int)} {s : Xr.S} {f : Vd.F} {z : Vm.Z} {r : List Vm.X} {rf ev : Value} {li : List Kd.I} {fs : List Int} (hco : Kd.RCo w0 c.si c.sf c.sz li fs ss) (hc : Vd.Cd li fs ss) (hfo : Vd.FOk li ss f) (hro : ∀ g ∈ r.map Prod.fst, Vd.FOk li ss g) (h : Vm.J w0 W tg N bm c ss s ((f, z) :: r) rf ev) (hs : s.ended = false) (hle : s.evs.length ≤ 900000) (hN : N ≤ 900000) (hmd : s.made ≤ 900000) (hfu : s.fuel ≤ 100000) (hr : r.length ≤ 5) (a b : Int) (hin : Kd.inR li.length fs.length ⟨11, a, b⟩ = true) (hcan : Vd.can ss ⟨11, a, b⟩ f (r.map Prod.fst) = true) :
  Calls Tryz.prog 40 #[.pointer (some ⟨bm, 0, none⟩), .pointer (some ⟨z.bf, 0, none⟩), .agg #[.int .i64 11, .int .i64 a, .int .i64 b]] W fun rr W' => rr = .returned (.tuple #[]) ∧ Vm.Q w0 bm c ss (N + 3) (Vd.does fs ss ⟨11, a, b⟩ s f (r.map Prod.fst)) W' := by
 obtain ⟨RT, hRT⟩ : ∃ RT, RT = Vd.does fs ss ⟨11, a, b⟩ s f (r.map Prod.fst) := ⟨_, rfl⟩
 rw [← hRT]
 unfold Vd.can at hcan
 rw [Bool.and_eq_true] at hcan
 obtain ⟨hct, hc2⟩ := hcan
 obtain ⟨n, q, hp⟩ := Vm.p1 (show (!decide ((f.pile.length : Int) < 1)) = true from hct)
 have ha : 0 ≤ a ∧ a < (li.length : Int) := by unfold Kd.inR at hin; simpa using hin
 obtain ⟨v, rfl⟩ : ∃ v : Nat, a = v := ⟨a.toNat, by omega⟩
 rw [Vd.d11 _ _ hp, Int.toNat_natCast] at hRT
 have hal := h.alloc (fun _ => False) (Obj.cells #[.int .i64 11, .int .i64 (v : Nat), .int .i64 b] 54)
 have hbx := Vm.Bx.new (heap_alloc_new W (Obj.cells #[.int .i64 11, .int .i64 (v : Nat), .int .i64 b] 54))
 have c0 := hbx.at_ 0 _ rfl
 have c1 := hbx.at_ 1 _ rfl
 have c2 := hbx.at_ 2 _ rfl
 have hbl := hbx.lt
 have hbt : (fun q => if q = W.heap.size then 3 else tg q) W.heap.size = 3 := if_pos rfl
 have hj := hal.1
 clear h hal hbx
 generalize (fun q => if q = W.heap.size then 3 else tg q) = tg1 at *
 have HSE := hide hs
 have HRT := hide hRT
 have HP := hide (vpop_any hj.frs.1 hp (show f.pile.length ≤ 1000 by have := hfo.top; omega))
 have HJ := hide hj
 clear hj c2
 clear hRT
 go_enter Tryz.func40, Tryz.ntmps40
 go_wp2_with fail
 refine (unhide HP).mono ?_
 rintro r2 w2 ⟨z2, rfl, hz2, hf2, hk2⟩
 have hJ2 := ((unhide HJ).frame hf2 hz2 (Nat.le_refl _) hk2).more (Nat.le_add_right N 3)
 have d1 := (Xr.cell_kept (hk2.blk W.heap.size hbl (by rw [hbt]; unfold Vm.Cf; omega)) 1).trans c1
 have k2 := hf2.box.at_ 2 _ rfl
 have y2 := hf2.box.fz 2
 rw [hz2] at k2 y2
 by_cases h0 : n = 0
 · have HH := hide h0
   have hF3 := hJ2.frs.1.set 2 (.int .i64 (v : Nat)) (f' := { f with pile := q, pc := v }) (z' := z2) rfl rfl rfl rfl rfl rfl
   have hj3 := hJ2.frame hF3.1 rfl (Nat.le_refl _) hF3.2
   rw [show ((({ f with pile := q } : Vd.F), z2) : Vm.X).2.bf = z.bf from hz2] at hj3
   have HJ3 := hide hj3
   subst h0
   clear hf2 hz2 hk2 hJ2 hF3 hj3
   go_wp2_with fail
   go_end0
   rw [unhide HRT]
   exact ⟨rfl, Vm.Q.on (unhide HJ3) (unhide HSE) rfl⟩
 · have HH := hide h0
   have HJ3 := hide hJ2
   have g0 : (n == 0) = false := by simpa using h0
   have HE := hide (show (if n = 0 then v else f.pc) = f.pc from if_neg h0)
   clear hf2 hz2 hk2 hJ2 h0
   go_wp2_with fail
   go_end0
   refine ⟨rfl, ?_⟩
   rw [unhide HRT, unhide HE]
   exact Vm.Q.on (unhide HJ3) (unhide HSE) rfl
theorem vdo_12 {w0 W : World} {tg : Nat → Nat} {N bm : Nat} {c : Vm.Cx} {ss : List (List Int)} {s : Xr.S} {f : Vd.F} {z : Vm.Z} {r : List Vm.X} {rf ev : Value} {li : List Kd.I} {fs : List Int} (hco : Kd.RCo w0 c.si c.sf c.sz li fs ss) (hc : Vd.Cd li fs ss) (hfo : Vd.FOk li ss f) (hro : ∀ g ∈ r.map Prod.fst, Vd.FOk li ss g) (h : Vm.J w0 W tg N bm c ss s ((f, z) :: r) rf ev) (hs : s.ended = false) (hle : s.evs.length ≤ 900000) (hN : N ≤ 900000) (hmd : s.made ≤ 900000) (hfu : s.fuel ≤ 100000) (hr : r.length ≤ 5) (a b : Int) (hin : Kd.inR li.length fs.length ⟨12, a, b⟩ = true) (hcan : Vd.can ss ⟨12, a, b⟩ f (r.map Prod.fst) = true) :
  Calls Tryz.prog 40 #[.pointer (some ⟨bm, 0, none⟩), .pointer (some ⟨z.bf, 0, none⟩), .agg #[.int .i64 12, .int .i64 a, .int .i64 b]] W fun rr W' => rr = .returned (.tuple #[]) ∧ Vm.Q w0 bm c ss (N + 3) (Vd.does fs ss ⟨12, a, b⟩ s f (r.map Prod.fst)) W' := by
 obtain ⟨RT, hRT⟩ : ∃ RT, RT = Vd.does fs ss ⟨12, a, b⟩ s f (r.map Prod.fst) := ⟨_, rfl⟩
 rw [← hRT]
 unfold Vd.can at hcan
 rw [Bool.and_eq_true] at hcan
 obtain ⟨hct, hc2⟩ := hcan
 have ha : (0 ≤ a ∧ a < (fs.length : Int)) ∧ 0 ≤ b ∧ b ≤ 3 := by unfold Kd.inR at hin; simpa using hin
 obtain ⟨v, rfl⟩ : ∃ v : Nat, a = v := ⟨a.toNat, by omega⟩
 obtain ⟨k, rfl⟩ : ∃ k : Nat, b = k := ⟨b.toNat, by omega⟩
 have hv : v < ss.length := by have := hc.len; omega
 have hct2 : (!decide ((f.pile.length : Int) < ((k : Nat) : Int))) = true := hct
 have hkp : k ≤ f.pile.length := by
  rw [Bool.not_eq_true', decide_eq_false_iff_not] at hct2
  omega
 have hc3 : decide (((k : Nat) : Int) ≤ ((ss[v]?.getD []).length : Int)) = true ∧ (!((ss[v]?.getD []).take k).any Pg.notNought) = true := (Bool.and_eq_true _ _).mp hc2
 have hkl : k ≤ (ss[v]?.getD []).length := by have := of_decide_eq_true hc3.1; omega
 have hno : ((ss[v]?.getD []).take k).all (· == 0) = true := by rw [← Vd.none_all]; exact hc3.2
 rw [Vd.d12, Int.toNat_natCast, Int.toNat_natCast, if_pos ⟨hkp, hkl, hno⟩] at hRT
 have hal := h.alloc (fun _ => False) (Obj.cells #[.int .i64 12, .int .i64 (v : Nat), .int .i64 (k : Nat)] 54)
 have hbx := Vm.Bx.new (heap_alloc_new W (Obj.cells #[.int .i64 12, .int .i64 (v : Nat), .int .i64 (k : Nat)] 54))
 have c0 := hbx.at_ 0 _ rfl
 have c1 := hbx.at_ 1 _ rfl
 have c2 := hbx.at_ 2 _ rfl
 have hbl := hbx.lt
 have hbt : (fun q => if q = W.heap.size then 3 else tg q) W.heap.size = 3 := if_pos rfl
 have hj := hal.1
 clear h hal hbx
 generalize (fun q => if q = W.heap.size then 3 else tg q) = tg1 at *
 have HSE := hide hs
 have HRT := hide hRT
 have HC := hide (show Calls Tryz.prog 90 #[.pointer (some ⟨bm, 0, none⟩), .pointer (some ⟨z.bf, 0, none⟩), .int .i64 (v : Nat), .int .i64 (k : Nat)] (W.alloc (Obj.cells #[.int .i64 12, .int .i64 (v : Nat), .int .i64 (k : Nat)] 54)) fun rr W' => rr = .returned (.tuple #[]) ∧ Vm.Q w0 bm c ss (N + 3) (Vd.call fs (ss[v]?.getD []) v (f.pile.take k).reverse s { f with pile := f.pile.drop k } (r.map Prod.fst)) W' by
  unfold Vd.call
  rw [List.length_map]
  by_cases h5 : r.length = 5
  · rw [if_pos h5]
    exact vcall_deep hfo hj hs hle h5 hkp
  · rw [if_neg h5]
    exact vcall_on hco hc hfo hj hs hle hN hmd (by omega) hv hkp hkl hno (by omega))
 rw [← hRT] at HC
 clear hj
 clear hRT
 go_enter Tryz.func40, Tryz.ntmps40
 go_wp2_with fail
 refine (unhide HC).mono ?_
 rintro r2 w2 ⟨rfl, hq2⟩
 have HQ := hide hq2
 clear hq2
 go_wp2_with fail
 go_end0
 exact ⟨rfl, unhide HQ⟩
theorem vdo_13 {w0 W : World} {tg : Nat → Nat} {N bm : Nat} {c : Vm.Cx} {ss : List (List Int)} {s : Xr.S} {f : Vd.F} {z : Vm.Z} {r : List Vm.X} {rf ev : Value} {li : List Kd.I} {fs : List Int} (hco : Kd.RCo w0 c.si c.sf c.sz li fs ss) (hc : Vd.Cd li fs ss) (hfo : Vd.FOk li ss f) (hro : ∀ g ∈ r.map Prod.fst, Vd.FOk li ss g) (h : Vm.J w0 W tg N bm c ss s ((f, z) :: r) rf ev) (hs : s.ended = false) (hle : s.evs.length ≤ 900000) (hN : N ≤ 900000) (hmd : s.made ≤ 900000) (hfu : s.fuel ≤ 100000) (hr : r.length ≤ 5) (a b : Int) (hin : Kd.inR li.length fs.length ⟨13, a, b⟩ = true) (hcan : Vd.can ss ⟨13, a, b⟩ f (r.map Prod.fst) = true) :
  Calls Tryz.prog 40 #[.pointer (some ⟨bm, 0, none⟩), .pointer (some ⟨z.bf, 0, none⟩), .agg #[.int .i64 13, .int .i64 a, .int .i64 b]] W fun rr W' => rr = .returned (.tuple #[]) ∧ Vm.Q w0 bm c ss (N + 3) (Vd.does fs ss ⟨13, a, b⟩ s f (r.map Prod.fst)) W' := by
 obtain ⟨RT, hRT⟩ : ∃ RT, RT = Vd.does fs ss ⟨13, a, b⟩ s f (r.map Prod.fst) := ⟨_, rfl⟩
 rw [← hRT]
 unfold Vd.can at hcan
 rw [Bool.and_eq_true] at hcan
 obtain ⟨hct, hc2⟩ := hcan
 obtain ⟨n, q, hp⟩ := Vm.p1 (show (!decide ((f.pile.length : Int) < 1)) = true from hct)
 have hne : ∃ y r2, r = y :: r2 := by
  cases r with
  | nil => exact absurd (show false = true from hc2) (by decide)
  | cons y r2 => exact ⟨y, r2, rfl⟩
 obtain ⟨⟨f2, z2⟩, r2, rfl⟩ := hne
 have h64 : f2.pile.length < 64 := of_decide_eq_true hc2
 have hr2 : r2.length + 1 ≤ 5 := hr
 rw [List.map_cons, Vd.d13 _ _ hp, if_pos h64] at hRT
 have hal := h.alloc (fun _ => False) (Obj.cells #[.int .i64 13, .int .i64 a, .int .i64 b] 54)
 have hbx := Vm.Bx.new (heap_alloc_new W (Obj.cells #[.int .i64 13, .int .i64 a, .int .i64 b] 54))
 have c0 := hbx.at_ 0 _ rfl
 have c1 := hbx.at_ 1 _ rfl
 have c2 := hbx.at_ 2 _ rfl
 have hbl := hbx.lt
 have hbt : (fun q => if q = W.heap.size then 3 else tg q) W.heap.size = 3 := if_pos rfl
 have hj := hal.1
 clear h hal hbx
 generalize (fun q => if q = W.heap.size then 3 else tg q) = tg1 at *
 have HSE := hide hs
 have HRT := hide hRT
 have HC := hide (vback_any hj hs (by omega) (by omega) hp (show f.pile.length ≤ 1000 by have := hfo.top; omega) (show f2.pile.length ≤ 1000 by omega))
 rw [← hRT] at HC
 clear hj c2
 clear hRT
 go_enter Tryz.func40, Tryz.ntmps40
 go_wp2_with fail
 refine (unhide HC).mono ?_
 rintro r2 w2 ⟨rfl, hq2⟩
 have HQ := hide hq2
 clear hq2
 go_wp2_with fail
 go_end0
 exact ⟨rfl, Vm.Q.more (N' := N + 3) (unhide HQ) (by omega)⟩
theorem vdo_14 {w0 W : World} {tg : Nat → Nat} {N bm : Nat} {c : Vm.Cx} {ss : List (List Int)} {s : Xr.S} {f : Vd.F} {z : Vm.Z} {r : List Vm.X} {rf ev : Value} {li : List Kd.I} {fs : List Int} (hco : Kd.RCo w0 c.si c.sf c.sz li fs ss) (hc : Vd.Cd li fs ss) (hfo : Vd.FOk li ss f) (hro : ∀ g ∈ r.map Prod.fst, Vd.FOk li ss g) (h : Vm.J w0 W tg N bm c ss s ((f, z) :: r) rf ev) (hs : s.ended = false) (hle : s.evs.length ≤ 900000) (hN : N ≤ 900000) (hmd : s.made ≤ 900000) (hfu : s.fuel ≤ 100000) (hr : r.length ≤ 5) (a b : Int) (hin : Kd.inR li.length fs.length ⟨14, a, b⟩ = true) (hcan : Vd.can ss ⟨14, a, b⟩ f (r.map Prod.fst) = true) :
  Calls Tryz.prog 40 #[.pointer (some ⟨bm, 0, none⟩), .pointer (some ⟨z.bf, 0, none⟩), .agg #[.int .i64 14, .int .i64 a, .int .i64 b]] W fun rr W' => rr = .returned (.tuple #[]) ∧ Vm.Q w0 bm c ss (N + 3) (Vd.does fs ss ⟨14, a, b⟩ s f (r.map Prod.fst)) W' := by
 obtain ⟨RT, hRT⟩ : ∃ RT, RT = Vd.does fs ss ⟨14, a, b⟩ s f (r.map Prod.fst) := ⟨_, rfl⟩
 rw [← hRT]
 unfold Vd.can at hcan
 rw [Bool.and_eq_true] at hcan
 obtain ⟨hct, hc2⟩ := hcan
 have h0 : (r.map Prod.fst).length = 0 := of_decide_eq_true hc2
 rw [Vd.d14, if_pos h0] at hRT
 have hal := h.alloc (fun _ => False) (Obj.cells #[.int .i64 14, .int .i64 a, .int .i64 b] 54)
 have hbx := Vm.Bx.new (heap_alloc_new W (Obj.cells #[.int .i64 14, .int .i64 a, .int .i64 b] 54))
 have c0 := hbx.at_ 0 _ rfl
 have c1 := hbx.at_ 1 _ rfl
 have c2 := hbx.at_ 2 _ rfl
 have hbl := hbx.lt
 have hbt : (fun q => if q = W.heap.size then 3 else tg q) W.heap.size = 3 := if_pos rfl
 have hj := hal.1
 clear h hal hbx
 generalize (fun q => if q = W.heap.size then 3 else tg q) = tg1 at *
 have HSE := hide hs
 have HRT := hide hRT
 have HC := hide (vjend_any (N' := N + 3) hj z.bf f.fr (-1) 0 hj.frs.1.k0 hs (by omega))
 rw [← hRT] at HC
 clear hj c2
 clear hRT
 go_enter Tryz.func40, Tryz.ntmps40
 go_wp2_with fail
 refine (unhide HC).mono ?_
 rintro r2 w2 ⟨rfl, hq2⟩
 have HQ := hide hq2
 clear hq2
 go_wp2_with fail
 go_end0
 exact ⟨rfl, unhide HQ⟩
theorem vdo_any {w0 W : World} {tg : Nat → Nat} {N bm : Nat} {c : Vm.Cx} {ss : List (List Int)} {s : Xr.S} {f : Vd.F} {z : Vm.Z} {r : List Vm.X} {rf ev : Value} {li : List Kd.I} {fs : List Int} (hco : Kd.RCo w0 c.si c.sf c.sz li fs ss) (hc : Vd.Cd li fs ss) (hfo : Vd.FOk li ss f) (hro : ∀ g ∈ r.map Prod.fst, Vd.FOk li ss g) (h : Vm.J w0 W tg N bm c ss s ((f, z) :: r) rf ev) (hs : s.ended = false) (hle : s.evs.length ≤ 900000) (hN : N ≤ 900000) (hmd : s.made ≤ 900000) (hfu : s.fuel ≤ 100000) (hr : r.length ≤ 5) (x : Kd.I) (hx : x ∈ li) (hcan : Vd.can ss x f (r.map Prod.fst) = true) :
  Calls Tryz.prog 40 #[.pointer (some ⟨bm, 0, none⟩), .pointer (some ⟨z.bf, 0, none⟩), .agg #[.int .i64 x.k, .int .i64 x.a, .int .i64 x.b]] W fun rr W' => rr = .returned (.tuple #[]) ∧ Vm.Q w0 bm c ss (N + 3) (Vd.does fs ss x s f (r.map Prod.fst)) W' := by
 obtain ⟨hk, hin⟩ := hc.ins x hx
 obtain ⟨k, a, b⟩ := x
 dsimp only at hk hin ⊢
 rcases (show k = 1 ∨ k = 2 ∨ k = 3 ∨ k = 4 ∨ k = 5 ∨ k = 6 ∨ k = 7 ∨ k = 8 ∨ k = 9 ∨ k = 10 ∨ k = 11 ∨ k = 12 ∨ k = 13 ∨ k = 14 by omega) with rfl | rfl | rfl | rfl | rfl | rfl | rfl | rfl | rfl | rfl | rfl | rfl | rfl | rfl
 · exact vdo_1 hco hc hfo hro h hs hle hN hmd hfu hr a b hin hcan
 · exact vdo_2 hco hc hfo hro h hs hle hN hmd hfu hr a b hin hcan
 · exact vdo_3 hco hc hfo hro h hs hle hN hmd hfu hr a b hin hcan
 · exact vdo_4 hco hc hfo hro h hs hle hN hmd hfu hr a b hin hcan
 · exact vdo_5 hco hc hfo hro h hs hle hN hmd hfu hr a b hin hcan
 · exact vdo_6 hco hc hfo hro h hs hle hN hmd hfu hr a b hin hcan
 · exact vdo_7 hco hc hfo hro h hs hle hN hmd hfu hr a b hin hcan
 · exact vdo_8 hco hc hfo hro h hs hle hN hmd hfu hr a b hin hcan
 · exact vdo_9 hco hc hfo hro h hs hle hN hmd hfu hr a b hin hcan
 · exact vdo_10 hco hc hfo hro h hs hle hN hmd hfu hr a b hin hcan
 · exact vdo_11 hco hc hfo hro h hs hle hN hmd hfu hr a b hin hcan
 · exact vdo_12 hco hc hfo hro h hs hle hN hmd hfu hr a b hin hcan
 · exact vdo_13 hco hc hfo hro h hs hle hN hmd hfu hr a b hin hcan
 · exact vdo_14 hco hc hfo hro h hs hle hN hmd hfu hr a b hin hcan
end Go.Proofs.YtpfogjplnodacaaGreat
