/-
  VHas, VCan. By the verifier.
-/
import Derived.Test.YtpfogjplnodacaaGreatLC
import Derived.Test.YtpfogjplnodacaaGreatLG
import Derived.Test.YtpfogjplnodacaaGreatLI
import Derived.Test.YtpfogjplnodacaaGreatLH
set_option maxRecDepth 100000
set_option maxHeartbeats 6400000
namespace Go.Proofs.YtpfogjplnodacaaGreat
open Go.RowKit
set_option linter.unusedVariables false
theorem vNought_any (n : Int) (w : World) :
  Calls Tryz.prog 79 #[.int .i64 n] w fun e w' => e = .returned (.bool (Pg.notNought n)) ∧ w' = w := by
 by_cases h1 : n = 0
 · subst h1
   go_enter Tryz.func79, Tryz.ntmps79
   go_wp2
   go_ret
   exact ⟨rfl, rfl⟩
 · have hh : Pg.notNought n = true := by simp [Pg.notNought]; omega
   rw [hh]; clear hh
   go_enter Tryz.func79, Tryz.ntmps79
   go_wp2
   go_ret
   first
    | exact ⟨rfl, rfl⟩
    | exact ⟨by simp [h1], rfl⟩
theorem vNought_index (s : Pg.Sl) (l : List Int) (w : World) (hr : Pg.RN w s l) :
  Calls Tryz.prog 66 #[.slice s.ad s.len s.cap, .func (.func 79) #[] #[]] w fun e w' => (∃ r : Int, e = .returned (.int .i64 r) ∧ decide (0 ≤ r) = l.any Pg.notNought) ∧ w' = w := by
 obtain ⟨sa, sl, sc⟩ := s
 have hlen : sl = l.length := hr.len
 have hfew := hr.few
 rw [← hlen] at hfew
 have HLN := hide hlen
 have HR := hide hr
 clear hr hlen
 dsimp only
 go_enter Tryz.func66, Tryz.ntmps66
 go_wp2_with fail
 go_loop [8] (fun v => ∃ k : Nat, k ≤ sl ∧ v = .int .i64 k ∧ Hid (l.any Pg.notNought = (l.drop k).any Pg.notNought)) (fun v => sl - (intOf v).toNat)
 case atStart => exact ⟨0, by omega, rfl, by show _ = _; rw [List.drop_zero]⟩
 case round =>
  obtain ⟨k, hk, rfl, hall⟩ := hrel
  have HA := hide (unhide hall)
  clear hall
  by_cases hlt : k < sl
  · have hlt2 : k < l.length := by have := unhide HLN; omega
    have hy := List.getElem?_eq_getElem hlt2
    obtain ⟨b, o, had, hb, hc⟩ := (unhide HR).at_ k _ hy
    have HD := hide (show (l.drop k).any Pg.notNought = (Pg.notNought l[k] || (l.drop (k + 1)).any Pg.notNought) by rw [List.drop_eq_getElem_cons hlt2]; rfl)
    generalize l[k] = t at *
    have had' : sa = some ⟨b, o, none⟩ := had
    subst had'
    have hk1 : (0 : Int) ≤ (k : Int) := by omega
    have hk2 : (k : Int) < (sl : Int) := by omega
    clear hy had
    go_wp2_with fail
    refine (vNought_any _ _).mono ?_
    rintro e w' ⟨rfl, hw1⟩
    subst hw1
    cases h3 : Pg.notNought t
    · have HN := hide (show l.any Pg.notNought = (l.drop (k + 1)).any Pg.notNought by rw [unhide HA, unhide HD, h3]; rfl)
      clear h3
      go_wp2_with fail
      go_round
      case rel => exact ⟨k + 1, by omega, by go_num, unhide HN⟩
      case measure => simp [intOf]; omega
    · have HN := hide (show l.any Pg.notNought = true by rw [unhide HA, unhide HD, h3]; rfl)
      clear h3
      go_wp2_with fail
      go_ret
      exact ⟨⟨_, rfl, by rw [unhide HN]; simp⟩, rfl⟩
  · have HN := hide (show l.any Pg.notNought = false by rw [unhide HA, List.drop_of_length_le (by have := unhide HLN; omega)]; rfl)
    go_wp2_with fail
    go_ret
    exact ⟨⟨_, rfl, by rw [unhide HN]; rfl⟩, rfl⟩
theorem vNought_contains (s : Pg.Sl) (l : List Int) (w : World) (hr : Pg.RN w s l) :
  Calls Tryz.prog 29 #[.slice s.ad s.len s.cap, .func (.func 79) #[] #[]] w fun e w' => e = .returned (.bool (l.any Pg.notNought)) ∧ w' = w := by
 have HR := hide hr
 clear hr
 go_enter Tryz.func29, Tryz.ntmps29
 go_wp2_with fail
 refine (vNought_index s l _ (unhide HR)).mono ?_
 rintro e w' ⟨⟨r, rfl, hd⟩, hw1⟩
 subst hw1
 have HD := hide hd
 clear hd
 go_wp2_with fail
 all_goals
  go_ret
  refine ⟨?_, rfl⟩
  rw [← unhide HD]
  try rfl
 all_goals simp_all
end Go.Proofs.YtpfogjplnodacaaGreat
namespace Go.Proofs.YtpfogjplnodacaaGreat
open Go.RowKit Go.Maps
set_option linter.unusedVariables false
theorem Vm.rn_take {w : World} {ad : Option Addr} {n c : Nat} {l : List Int} (h : Pg.RN w ⟨ad, n, c⟩ l) {k : Nat} (hk : k ≤ l.length) : Pg.RN w ⟨ad, k, c⟩ (l.take k) := by
 have h1 : n = l.length := h.len
 have h2 : n ≤ c := h.cap
 refine ⟨by rw [List.length_take, Nat.min_eq_left hk], by show k ≤ c; omega, by rw [List.length_take]; have := h.few; omega, fun i y hy => ?_⟩
 rw [List.getElem?_take] at hy
 split at hy
 · exact h.at_ i y hy
 · cases hy
structure Vm.Ca (w0 : World) (bm : Nat) (c : Vm.Cx) (ss : List (List Int)) (s : Xr.S) (f : Vd.F) (z : Vm.Z) (r : List Vm.X) (rf ev : Value) (tg : Nat → Nat) (N : Nat) (bi : Nat) (x : Kd.I) (V : World) : Prop where
 j : Vm.J w0 V tg N bm c ss s ((f, z) :: r) rf ev
 c0 : V.cell? ⟨bi, 0, none⟩ = some (.int .i64 x.k)
 c1 : V.cell? ⟨bi, 1, none⟩ = some (.int .i64 x.a)
 c2 : V.cell? ⟨bi, 2, none⟩ = some (.int .i64 x.b)
theorem Vm.Ca.below {w0 : World} {bm : Nat} {c : Vm.Cx} {ss : List (List Int)} {s : Xr.S} {f : Vd.F} {z : Vm.Z} {r : List Vm.X} {rf ev : Value} {tg : Nat → Nat} {N bi : Nat} {x : Kd.I} {V V' : World} (h : Vm.Ca w0 bm c ss s f z r rf ev tg N bi x V) (hb : Below V.heap.size V V') : Vm.Ca w0 bm c ss s f z r rf ev tg N bi x V' := by
 have hl := World.block_lt_of_cell? V _ h.c0
 exact ⟨h.j.below hb, (Xr.cell_kept (hb.block bi hl) 0).trans h.c0, (Xr.cell_kept (hb.block bi hl) 1).trans h.c1, (Xr.cell_kept (hb.block bi hl) 2).trans h.c2⟩
theorem Vm.Fr.pile {w0 W : World} {tg : Nat → Nat} {N d : Nat} {ss : List (List Int)} {f : Vd.F} {z : Vm.Z} (h : Vm.Fr w0 W tg N d ss f z) : ∃ a cp, W.cell? ⟨z.bf, 3, none⟩ = some (.slice a f.pile.length cp) := by
 rcases h.form with ⟨h1, h2⟩ | ⟨g, cp, h1, _⟩
 · exact ⟨none, 0, by rw [h2]; show _ = some (Value.slice none 0 0); rw [← h1]; exact h.box.at_ 3 _ rfl⟩
 · exact ⟨_, _, by rw [← h1]; exact h.box.at_ 3 _ rfl⟩
theorem vcan_1 {w0 W : World} {tg : Nat → Nat} {N bm : Nat} {c : Vm.Cx} {ss : List (List Int)} {s : Xr.S} {f : Vd.F} {z : Vm.Z} {r : List Vm.X} {rf ev : Value} {li : List Kd.I} {fs : List Int} (hco : Kd.RCo w0 c.si c.sf c.sz li fs ss) (hc : Vd.Cd li fs ss) (hfo : Vd.FOk li ss f) (hro : ∀ g ∈ r.map Prod.fst, Vd.FOk li ss g) (h : Vm.J w0 W tg N bm c ss s ((f, z) :: r) rf ev) (hr : r.length ≤ 90) (a b : Int) (hin : Kd.inR li.length fs.length ⟨1, a, b⟩ = true) :
  Calls Tryz.prog 39 #[.pointer (some ⟨bm, 0, none⟩), .pointer (some ⟨z.bf, 0, none⟩), .agg #[.int .i64 1, .int .i64 a, .int .i64 b]] W fun rr W' => rr = .returned (.bool (Vd.can ss ⟨1, a, b⟩ f (r.map Prod.fst))) ∧ Below W.heap.size W W' := by
 have hb0 := (Below.refl W.heap.size W).alloc (Nat.le_refl _) (Obj.cells #[.int .i64 1, .int .i64 a, .int .i64 b] 54)
 have hbx := Vm.Bx.new (heap_alloc_new W (Obj.cells #[.int .i64 1, .int .i64 a, .int .i64 b] 54))
 have hca : Vm.Ca w0 bm c ss s f z r rf ev tg N W.heap.size ⟨1, a, b⟩ (W.alloc (Obj.cells #[.int .i64 1, .int .i64 a, .int .i64 b] 54)) := ⟨h.below hb0, hbx.at_ 0 _ rfl, hbx.at_ 1 _ rfl, hbx.at_ 2 _ rfl⟩
 obtain ⟨pa, cp, k3⟩ := hca.j.frs.1.pile
 have HCA := hide hca
 have HB0 := hide hb0
 have htop := hfo.top
 have hcan : ∀ q, Vd.can ss ⟨1, a, b⟩ f q = (!decide ((f.pile.length : Int) < Vd.takes ⟨1, a, b⟩) && Vd.can2 ss ⟨1, a, b⟩ f q) := fun q => rfl
 have HCN := hide (hcan (r.map Prod.fst))
 generalize Vd.can ss ⟨1, a, b⟩ f (r.map Prod.fst) = RES at *
 clear hbx h hcan
 go_enter Tryz.func39, Tryz.ntmps39
 go_upto_region 1 with fail
 have c0 : (W.alloc (Obj.cells #[.int .i64 1, .int .i64 a, .int .i64 b] 54)).cell? ⟨W.heap.size, 0, none⟩ = some (.int .i64 1) := hca.c0
 have c1 : (W.alloc (Obj.cells #[.int .i64 1, .int .i64 a, .int .i64 b] 54)).cell? ⟨W.heap.size, 1, none⟩ = some (.int .i64 a) := hca.c1
 have c2 : (W.alloc (Obj.cells #[.int .i64 1, .int .i64 a, .int .i64 b] 54)).cell? ⟨W.heap.size, 2, none⟩ = some (.int .i64 b) := hca.c2
 have HTK := hide (fun (V : World) => vtakes_any ⟨1, a, b⟩ (show (1 : Int) ≤ 1 ∧ (1 : Int) ≤ 14 by decide) V)
 clear hb0 hca
 generalize W.alloc (Obj.cells #[.int .i64 1, .int .i64 a, .int .i64 b] 54) = W1 at *
 have HMB := hide (show ∀ V, Below W1.heap.size W1 V → V.cell? ⟨z.bf, 3, none⟩ = some (.slice pa f.pile.length cp) ∧ V.cell? ⟨W.heap.size, 0, none⟩ = some (.int .i64 1) ∧ V.cell? ⟨W.heap.size, 1, none⟩ = some (.int .i64 a) ∧ V.cell? ⟨W.heap.size, 2, none⟩ = some (.int .i64 b) from fun V hV => ⟨(Xr.cell_kept (hV.block z.bf (World.block_lt_of_cell? W1 _ k3)) 3).trans k3, ((unhide HCA).below hV).c0, ((unhide HCA).below hV).c1, ((unhide HCA).below hV).c2⟩)
 have HM0 := hide ((unhide HMB) _ (Below.refl W1.heap.size W1).drew)
 clear k3 c0 c1 c2
 generalize hTK : Vd.takes ⟨1, a, b⟩ = TK at *
 go_cut [14] (fun v V => v = .bool (decide ((f.pile.length : Int) < TK)) ∧ Below W1.heap.size W1 V)
 case first =>
  go_region_held3 (fun V => V.cell? ⟨z.bf, 3, none⟩ = some (.slice pa f.pile.length cp) ∧ V.cell? ⟨W.heap.size, 0, none⟩ = some (.int .i64 1) ∧ V.cell? ⟨W.heap.size, 1, none⟩ = some (.int .i64 a) ∧ V.cell? ⟨W.heap.size, 2, none⟩ = some (.int .i64 b))
   (first | assumption | exact unhide HM0 | exact (unhide HMB) _ (unhide HB3))
   (first | (go_at_call 76; refine ((unhide HTK) _).mono ?_; rintro r3 w3 ⟨rfl, hb3⟩; have HB3 := hide ((Below.refl W1.heap.size W1).drew.trans hb3); clear hb3))
  all_goals
   go_wp2_with fail
   go_meet
   case rel => exact ⟨rfl, unhide HB3⟩
 case rest =>
  rename World => V
  obtain ⟨rfl, hbV⟩ := hcut
  have hcaV := (unhide HCA).below hbV
  have HBV := hide ((unhide HB0).trans (hbV.mono (unhide HB0).size))
  obtain ⟨k3, c0, c1, c2⟩ := (unhide HMB) V hbV
  clear HMB HM0 HTK HCA hbV
  by_cases hlt : (f.pile.length : Int) < TK
  · have hd : decide ((f.pile.length : Int) < TK) = true := decide_eq_true hlt
    have HR := hide (show RES = false by rw [unhide HCN, hd]; rfl)
    rw [hd]
    clear hd hlt hcaV
    go_wp2_with fail
    go_ret
    exact ⟨by rw [unhide HR]; rfl, unhide HBV⟩
  · have hd : decide ((f.pile.length : Int) < TK) = false := decide_eq_false hlt
    have HR := hide (show RES = true by rw [unhide HCN, hd]; rfl)
    rw [hd]
    clear hd hTK HCN
    clear hcaV
    go_wp2_with fail
    go_ret
    exact ⟨by rw [unhide HR]; rfl, unhide HBV⟩
theorem vcan_2 {w0 W : World} {tg : Nat → Nat} {N bm : Nat} {c : Vm.Cx} {ss : List (List Int)} {s : Xr.S} {f : Vd.F} {z : Vm.Z} {r : List Vm.X} {rf ev : Value} {li : List Kd.I} {fs : List Int} (hco : Kd.RCo w0 c.si c.sf c.sz li fs ss) (hc : Vd.Cd li fs ss) (hfo : Vd.FOk li ss f) (hro : ∀ g ∈ r.map Prod.fst, Vd.FOk li ss g) (h : Vm.J w0 W tg N bm c ss s ((f, z) :: r) rf ev) (hr : r.length ≤ 90) (a b : Int) (hin : Kd.inR li.length fs.length ⟨2, a, b⟩ = true) :
  Calls Tryz.prog 39 #[.pointer (some ⟨bm, 0, none⟩), .pointer (some ⟨z.bf, 0, none⟩), .agg #[.int .i64 2, .int .i64 a, .int .i64 b]] W fun rr W' => rr = .returned (.bool (Vd.can ss ⟨2, a, b⟩ f (r.map Prod.fst))) ∧ Below W.heap.size W W' := by
 have hb0 := (Below.refl W.heap.size W).alloc (Nat.le_refl _) (Obj.cells #[.int .i64 2, .int .i64 a, .int .i64 b] 54)
 have hbx := Vm.Bx.new (heap_alloc_new W (Obj.cells #[.int .i64 2, .int .i64 a, .int .i64 b] 54))
 have hca : Vm.Ca w0 bm c ss s f z r rf ev tg N W.heap.size ⟨2, a, b⟩ (W.alloc (Obj.cells #[.int .i64 2, .int .i64 a, .int .i64 b] 54)) := ⟨h.below hb0, hbx.at_ 0 _ rfl, hbx.at_ 1 _ rfl, hbx.at_ 2 _ rfl⟩
 obtain ⟨pa, cp, k3⟩ := hca.j.frs.1.pile
 have HCA := hide hca
 have HB0 := hide hb0
 have htop := hfo.top
 have hcan : ∀ q, Vd.can ss ⟨2, a, b⟩ f q = (!decide ((f.pile.length : Int) < Vd.takes ⟨2, a, b⟩) && Vd.can2 ss ⟨2, a, b⟩ f q) := fun q => rfl
 have HCN := hide (hcan (r.map Prod.fst))
 generalize Vd.can ss ⟨2, a, b⟩ f (r.map Prod.fst) = RES at *
 clear hbx h hcan
 go_enter Tryz.func39, Tryz.ntmps39
 go_upto_region 1 with fail
 have c0 : (W.alloc (Obj.cells #[.int .i64 2, .int .i64 a, .int .i64 b] 54)).cell? ⟨W.heap.size, 0, none⟩ = some (.int .i64 2) := hca.c0
 have c1 : (W.alloc (Obj.cells #[.int .i64 2, .int .i64 a, .int .i64 b] 54)).cell? ⟨W.heap.size, 1, none⟩ = some (.int .i64 a) := hca.c1
 have c2 : (W.alloc (Obj.cells #[.int .i64 2, .int .i64 a, .int .i64 b] 54)).cell? ⟨W.heap.size, 2, none⟩ = some (.int .i64 b) := hca.c2
 have HTK := hide (fun (V : World) => vtakes_any ⟨2, a, b⟩ (show (1 : Int) ≤ 2 ∧ (2 : Int) ≤ 14 by decide) V)
 clear hb0 hca
 generalize W.alloc (Obj.cells #[.int .i64 2, .int .i64 a, .int .i64 b] 54) = W1 at *
 have HMB := hide (show ∀ V, Below W1.heap.size W1 V → V.cell? ⟨z.bf, 3, none⟩ = some (.slice pa f.pile.length cp) ∧ V.cell? ⟨W.heap.size, 0, none⟩ = some (.int .i64 2) ∧ V.cell? ⟨W.heap.size, 1, none⟩ = some (.int .i64 a) ∧ V.cell? ⟨W.heap.size, 2, none⟩ = some (.int .i64 b) from fun V hV => ⟨(Xr.cell_kept (hV.block z.bf (World.block_lt_of_cell? W1 _ k3)) 3).trans k3, ((unhide HCA).below hV).c0, ((unhide HCA).below hV).c1, ((unhide HCA).below hV).c2⟩)
 have HM0 := hide ((unhide HMB) _ (Below.refl W1.heap.size W1).drew)
 clear k3 c0 c1 c2
 generalize hTK : Vd.takes ⟨2, a, b⟩ = TK at *
 go_cut [14] (fun v V => v = .bool (decide ((f.pile.length : Int) < TK)) ∧ Below W1.heap.size W1 V)
 case first =>
  go_region_held3 (fun V => V.cell? ⟨z.bf, 3, none⟩ = some (.slice pa f.pile.length cp) ∧ V.cell? ⟨W.heap.size, 0, none⟩ = some (.int .i64 2) ∧ V.cell? ⟨W.heap.size, 1, none⟩ = some (.int .i64 a) ∧ V.cell? ⟨W.heap.size, 2, none⟩ = some (.int .i64 b))
   (first | assumption | exact unhide HM0 | exact (unhide HMB) _ (unhide HB3))
   (first | (go_at_call 76; refine ((unhide HTK) _).mono ?_; rintro r3 w3 ⟨rfl, hb3⟩; have HB3 := hide ((Below.refl W1.heap.size W1).drew.trans hb3); clear hb3))
  all_goals
   go_wp2_with fail
   go_meet
   case rel => exact ⟨rfl, unhide HB3⟩
 case rest =>
  rename World => V
  obtain ⟨rfl, hbV⟩ := hcut
  have hcaV := (unhide HCA).below hbV
  have HBV := hide ((unhide HB0).trans (hbV.mono (unhide HB0).size))
  obtain ⟨k3, c0, c1, c2⟩ := (unhide HMB) V hbV
  clear HMB HM0 HTK HCA hbV
  by_cases hlt : (f.pile.length : Int) < TK
  · have hd : decide ((f.pile.length : Int) < TK) = true := decide_eq_true hlt
    have HR := hide (show RES = false by rw [unhide HCN, hd]; rfl)
    rw [hd]
    clear hd hlt hcaV
    go_wp2_with fail
    go_ret
    exact ⟨by rw [unhide HR]; rfl, unhide HBV⟩
  · have hd : decide ((f.pile.length : Int) < TK) = false := decide_eq_false hlt
    have HR := hide (show RES = decide (f.pile.length < 64) by rw [unhide HCN, hd]; rfl)
    rw [hd]
    clear hd hTK HCN
    have e1 : decide ((f.pile.length : Int) < 64) = decide (f.pile.length < 64) := decide_eq_decide.2 (by omega)
    rw [← e1] at HR
    clear hcaV e1
    go_wp2_with fail
    go_ret
    exact ⟨by rw [unhide HR]; rfl, unhide HBV⟩
theorem vcan_3 {w0 W : World} {tg : Nat → Nat} {N bm : Nat} {c : Vm.Cx} {ss : List (List Int)} {s : Xr.S} {f : Vd.F} {z : Vm.Z} {r : List Vm.X} {rf ev : Value} {li : List Kd.I} {fs : List Int} (hco : Kd.RCo w0 c.si c.sf c.sz li fs ss) (hc : Vd.Cd li fs ss) (hfo : Vd.FOk li ss f) (hro : ∀ g ∈ r.map Prod.fst, Vd.FOk li ss g) (h : Vm.J w0 W tg N bm c ss s ((f, z) :: r) rf ev) (hr : r.length ≤ 90) (a b : Int) (hin : Kd.inR li.length fs.length ⟨3, a, b⟩ = true) :
  Calls Tryz.prog 39 #[.pointer (some ⟨bm, 0, none⟩), .pointer (some ⟨z.bf, 0, none⟩), .agg #[.int .i64 3, .int .i64 a, .int .i64 b]] W fun rr W' => rr = .returned (.bool (Vd.can ss ⟨3, a, b⟩ f (r.map Prod.fst))) ∧ Below W.heap.size W W' := by
 have hb0 := (Below.refl W.heap.size W).alloc (Nat.le_refl _) (Obj.cells #[.int .i64 3, .int .i64 a, .int .i64 b] 54)
 have hbx := Vm.Bx.new (heap_alloc_new W (Obj.cells #[.int .i64 3, .int .i64 a, .int .i64 b] 54))
 have hca : Vm.Ca w0 bm c ss s f z r rf ev tg N W.heap.size ⟨3, a, b⟩ (W.alloc (Obj.cells #[.int .i64 3, .int .i64 a, .int .i64 b] 54)) := ⟨h.below hb0, hbx.at_ 0 _ rfl, hbx.at_ 1 _ rfl, hbx.at_ 2 _ rfl⟩
 obtain ⟨pa, cp, k3⟩ := hca.j.frs.1.pile
 have HCA := hide hca
 have HB0 := hide hb0
 have htop := hfo.top
 have hcan : ∀ q, Vd.can ss ⟨3, a, b⟩ f q = (!decide ((f.pile.length : Int) < Vd.takes ⟨3, a, b⟩) && Vd.can2 ss ⟨3, a, b⟩ f q) := fun q => rfl
 have HCN := hide (hcan (r.map Prod.fst))
 generalize Vd.can ss ⟨3, a, b⟩ f (r.map Prod.fst) = RES at *
 clear hbx h hcan
 go_enter Tryz.func39, Tryz.ntmps39
 go_upto_region 1 with fail
 have c0 : (W.alloc (Obj.cells #[.int .i64 3, .int .i64 a, .int .i64 b] 54)).cell? ⟨W.heap.size, 0, none⟩ = some (.int .i64 3) := hca.c0
 have c1 : (W.alloc (Obj.cells #[.int .i64 3, .int .i64 a, .int .i64 b] 54)).cell? ⟨W.heap.size, 1, none⟩ = some (.int .i64 a) := hca.c1
 have c2 : (W.alloc (Obj.cells #[.int .i64 3, .int .i64 a, .int .i64 b] 54)).cell? ⟨W.heap.size, 2, none⟩ = some (.int .i64 b) := hca.c2
 have HTK := hide (fun (V : World) => vtakes_any ⟨3, a, b⟩ (show (1 : Int) ≤ 3 ∧ (3 : Int) ≤ 14 by decide) V)
 clear hb0 hca
 generalize W.alloc (Obj.cells #[.int .i64 3, .int .i64 a, .int .i64 b] 54) = W1 at *
 have HMB := hide (show ∀ V, Below W1.heap.size W1 V → V.cell? ⟨z.bf, 3, none⟩ = some (.slice pa f.pile.length cp) ∧ V.cell? ⟨W.heap.size, 0, none⟩ = some (.int .i64 3) ∧ V.cell? ⟨W.heap.size, 1, none⟩ = some (.int .i64 a) ∧ V.cell? ⟨W.heap.size, 2, none⟩ = some (.int .i64 b) from fun V hV => ⟨(Xr.cell_kept (hV.block z.bf (World.block_lt_of_cell? W1 _ k3)) 3).trans k3, ((unhide HCA).below hV).c0, ((unhide HCA).below hV).c1, ((unhide HCA).below hV).c2⟩)
 have HM0 := hide ((unhide HMB) _ (Below.refl W1.heap.size W1).drew)
 clear k3 c0 c1 c2
 generalize hTK : Vd.takes ⟨3, a, b⟩ = TK at *
 go_cut [14] (fun v V => v = .bool (decide ((f.pile.length : Int) < TK)) ∧ Below W1.heap.size W1 V)
 case first =>
  go_region_held3 (fun V => V.cell? ⟨z.bf, 3, none⟩ = some (.slice pa f.pile.length cp) ∧ V.cell? ⟨W.heap.size, 0, none⟩ = some (.int .i64 3) ∧ V.cell? ⟨W.heap.size, 1, none⟩ = some (.int .i64 a) ∧ V.cell? ⟨W.heap.size, 2, none⟩ = some (.int .i64 b))
   (first | assumption | exact unhide HM0 | exact (unhide HMB) _ (unhide HB3))
   (first | (go_at_call 76; refine ((unhide HTK) _).mono ?_; rintro r3 w3 ⟨rfl, hb3⟩; have HB3 := hide ((Below.refl W1.heap.size W1).drew.trans hb3); clear hb3))
  all_goals
   go_wp2_with fail
   go_meet
   case rel => exact ⟨rfl, unhide HB3⟩
 case rest =>
  rename World => V
  obtain ⟨rfl, hbV⟩ := hcut
  have hcaV := (unhide HCA).below hbV
  have HBV := hide ((unhide HB0).trans (hbV.mono (unhide HB0).size))
  obtain ⟨k3, c0, c1, c2⟩ := (unhide HMB) V hbV
  clear HMB HM0 HTK HCA hbV
  by_cases hlt : (f.pile.length : Int) < TK
  · have hd : decide ((f.pile.length : Int) < TK) = true := decide_eq_true hlt
    have HR := hide (show RES = false by rw [unhide HCN, hd]; rfl)
    rw [hd]
    clear hd hlt hcaV
    go_wp2_with fail
    go_ret
    exact ⟨by rw [unhide HR]; rfl, unhide HBV⟩
  · have hd : decide ((f.pile.length : Int) < TK) = false := decide_eq_false hlt
    have HR := hide (show RES = (decide (f.pile.length < 64) && Vd.plain (ss[f.fn]?.getD []) a) by rw [unhide HCN, hd]; rfl)
    rw [hd]
    clear hd hTK HCN
    have ha : 0 ≤ a := by unfold Kd.inR at hin; simpa using hin
    have HP := hide (vplain_any hcaV.j.frs.1 hcaV.j.bel a ha)
    clear hcaV
    by_cases h64 : (f.pile.length : Int) < 64
    · have g1 : decide ((f.pile.length : Int) < 64) = true := decide_eq_true h64
      have g2 : decide (f.pile.length < 64) = true := decide_eq_true (by omega)
      rw [g2, Bool.true_and] at HR
      clear g2
      go_wp2_with fail
      refine (unhide HP).mono ?_
      rintro r4 w4 ⟨rfl, hw4⟩
      subst hw4
      go_wp2_with fail
      go_ret
      exact ⟨by rw [unhide HR]; rfl, unhide HBV⟩
    · have g1 : decide ((f.pile.length : Int) < 64) = false := decide_eq_false h64
      have g2 : decide (f.pile.length < 64) = false := decide_eq_false (by omega)
      rw [g2, Bool.false_and] at HR
      clear g2
      go_wp2_with fail
      go_ret
      exact ⟨by rw [unhide HR]; rfl, unhide HBV⟩
theorem vcan_4 {w0 W : World} {tg : Nat → Nat} {N bm : Nat} {c : Vm.Cx} {ss : List (List Int)} {s : Xr.S} {f : Vd.F} {z : Vm.Z} {r : List Vm.X} {rf ev : Value} {li : List Kd.I} {fs : List Int} (hco : Kd.RCo w0 c.si c.sf c.sz li fs ss) (hc : Vd.Cd li fs ss) (hfo : Vd.FOk li ss f) (hro : ∀ g ∈ r.map Prod.fst, Vd.FOk li ss g) (h : Vm.J w0 W tg N bm c ss s ((f, z) :: r) rf ev) (hr : r.length ≤ 90) (a b : Int) (hin : Kd.inR li.length fs.length ⟨4, a, b⟩ = true) :
  Calls Tryz.prog 39 #[.pointer (some ⟨bm, 0, none⟩), .pointer (some ⟨z.bf, 0, none⟩), .agg #[.int .i64 4, .int .i64 a, .int .i64 b]] W fun rr W' => rr = .returned (.bool (Vd.can ss ⟨4, a, b⟩ f (r.map Prod.fst))) ∧ Below W.heap.size W W' := by
 have hb0 := (Below.refl W.heap.size W).alloc (Nat.le_refl _) (Obj.cells #[.int .i64 4, .int .i64 a, .int .i64 b] 54)
 have hbx := Vm.Bx.new (heap_alloc_new W (Obj.cells #[.int .i64 4, .int .i64 a, .int .i64 b] 54))
 have hca : Vm.Ca w0 bm c ss s f z r rf ev tg N W.heap.size ⟨4, a, b⟩ (W.alloc (Obj.cells #[.int .i64 4, .int .i64 a, .int .i64 b] 54)) := ⟨h.below hb0, hbx.at_ 0 _ rfl, hbx.at_ 1 _ rfl, hbx.at_ 2 _ rfl⟩
 obtain ⟨pa, cp, k3⟩ := hca.j.frs.1.pile
 have HCA := hide hca
 have HB0 := hide hb0
 have htop := hfo.top
 have hcan : ∀ q, Vd.can ss ⟨4, a, b⟩ f q = (!decide ((f.pile.length : Int) < Vd.takes ⟨4, a, b⟩) && Vd.can2 ss ⟨4, a, b⟩ f q) := fun q => rfl
 have HCN := hide (hcan (r.map Prod.fst))
 generalize Vd.can ss ⟨4, a, b⟩ f (r.map Prod.fst) = RES at *
 clear hbx h hcan
 go_enter Tryz.func39, Tryz.ntmps39
 go_upto_region 1 with fail
 have c0 : (W.alloc (Obj.cells #[.int .i64 4, .int .i64 a, .int .i64 b] 54)).cell? ⟨W.heap.size, 0, none⟩ = some (.int .i64 4) := hca.c0
 have c1 : (W.alloc (Obj.cells #[.int .i64 4, .int .i64 a, .int .i64 b] 54)).cell? ⟨W.heap.size, 1, none⟩ = some (.int .i64 a) := hca.c1
 have c2 : (W.alloc (Obj.cells #[.int .i64 4, .int .i64 a, .int .i64 b] 54)).cell? ⟨W.heap.size, 2, none⟩ = some (.int .i64 b) := hca.c2
 have HTK := hide (fun (V : World) => vtakes_any ⟨4, a, b⟩ (show (1 : Int) ≤ 4 ∧ (4 : Int) ≤ 14 by decide) V)
 clear hb0 hca
 generalize W.alloc (Obj.cells #[.int .i64 4, .int .i64 a, .int .i64 b] 54) = W1 at *
 have HMB := hide (show ∀ V, Below W1.heap.size W1 V → V.cell? ⟨z.bf, 3, none⟩ = some (.slice pa f.pile.length cp) ∧ V.cell? ⟨W.heap.size, 0, none⟩ = some (.int .i64 4) ∧ V.cell? ⟨W.heap.size, 1, none⟩ = some (.int .i64 a) ∧ V.cell? ⟨W.heap.size, 2, none⟩ = some (.int .i64 b) from fun V hV => ⟨(Xr.cell_kept (hV.block z.bf (World.block_lt_of_cell? W1 _ k3)) 3).trans k3, ((unhide HCA).below hV).c0, ((unhide HCA).below hV).c1, ((unhide HCA).below hV).c2⟩)
 have HM0 := hide ((unhide HMB) _ (Below.refl W1.heap.size W1).drew)
 clear k3 c0 c1 c2
 generalize hTK : Vd.takes ⟨4, a, b⟩ = TK at *
 go_cut [14] (fun v V => v = .bool (decide ((f.pile.length : Int) < TK)) ∧ Below W1.heap.size W1 V)
 case first =>
  go_region_held3 (fun V => V.cell? ⟨z.bf, 3, none⟩ = some (.slice pa f.pile.length cp) ∧ V.cell? ⟨W.heap.size, 0, none⟩ = some (.int .i64 4) ∧ V.cell? ⟨W.heap.size, 1, none⟩ = some (.int .i64 a) ∧ V.cell? ⟨W.heap.size, 2, none⟩ = some (.int .i64 b))
   (first | assumption | exact unhide HM0 | exact (unhide HMB) _ (unhide HB3))
   (first | (go_at_call 76; refine ((unhide HTK) _).mono ?_; rintro r3 w3 ⟨rfl, hb3⟩; have HB3 := hide ((Below.refl W1.heap.size W1).drew.trans hb3); clear hb3))
  all_goals
   go_wp2_with fail
   go_meet
   case rel => exact ⟨rfl, unhide HB3⟩
 case rest =>
  rename World => V
  obtain ⟨rfl, hbV⟩ := hcut
  have hcaV := (unhide HCA).below hbV
  have HBV := hide ((unhide HB0).trans (hbV.mono (unhide HB0).size))
  obtain ⟨k3, c0, c1, c2⟩ := (unhide HMB) V hbV
  clear HMB HM0 HTK HCA hbV
  by_cases hlt : (f.pile.length : Int) < TK
  · have hd : decide ((f.pile.length : Int) < TK) = true := decide_eq_true hlt
    have HR := hide (show RES = false by rw [unhide HCN, hd]; rfl)
    rw [hd]
    clear hd hlt hcaV
    go_wp2_with fail
    go_ret
    exact ⟨by rw [unhide HR]; rfl, unhide HBV⟩
  · have hd : decide ((f.pile.length : Int) < TK) = false := decide_eq_false hlt
    have HR := hide (show RES = Vd.arr (ss[f.fn]?.getD []) a by rw [unhide HCN, hd]; rfl)
    rw [hd]
    clear hd hTK HCN
    have ha : 0 ≤ a := by unfold Kd.inR at hin; simpa using hin
    have HP := hide (varr_any hcaV.j.frs.1 hcaV.j.bel a ha)
    clear hcaV
    go_wp2_with fail
    refine (unhide HP).mono ?_
    rintro r4 w4 ⟨rfl, hw4⟩
    subst hw4
    go_wp2_with fail
    go_ret
    exact ⟨by rw [unhide HR]; rfl, unhide HBV⟩
theorem vcan_5 {w0 W : World} {tg : Nat → Nat} {N bm : Nat} {c : Vm.Cx} {ss : List (List Int)} {s : Xr.S} {f : Vd.F} {z : Vm.Z} {r : List Vm.X} {rf ev : Value} {li : List Kd.I} {fs : List Int} (hco : Kd.RCo w0 c.si c.sf c.sz li fs ss) (hc : Vd.Cd li fs ss) (hfo : Vd.FOk li ss f) (hro : ∀ g ∈ r.map Prod.fst, Vd.FOk li ss g) (h : Vm.J w0 W tg N bm c ss s ((f, z) :: r) rf ev) (hr : r.length ≤ 90) (a b : Int) (hin : Kd.inR li.length fs.length ⟨5, a, b⟩ = true) :
  Calls Tryz.prog 39 #[.pointer (some ⟨bm, 0, none⟩), .pointer (some ⟨z.bf, 0, none⟩), .agg #[.int .i64 5, .int .i64 a, .int .i64 b]] W fun rr W' => rr = .returned (.bool (Vd.can ss ⟨5, a, b⟩ f (r.map Prod.fst))) ∧ Below W.heap.size W W' := by
 have hb0 := (Below.refl W.heap.size W).alloc (Nat.le_refl _) (Obj.cells #[.int .i64 5, .int .i64 a, .int .i64 b] 54)
 have hbx := Vm.Bx.new (heap_alloc_new W (Obj.cells #[.int .i64 5, .int .i64 a, .int .i64 b] 54))
 have hca : Vm.Ca w0 bm c ss s f z r rf ev tg N W.heap.size ⟨5, a, b⟩ (W.alloc (Obj.cells #[.int .i64 5, .int .i64 a, .int .i64 b] 54)) := ⟨h.below hb0, hbx.at_ 0 _ rfl, hbx.at_ 1 _ rfl, hbx.at_ 2 _ rfl⟩
 obtain ⟨pa, cp, k3⟩ := hca.j.frs.1.pile
 have HCA := hide hca
 have HB0 := hide hb0
 have htop := hfo.top
 have hcan : ∀ q, Vd.can ss ⟨5, a, b⟩ f q = (!decide ((f.pile.length : Int) < Vd.takes ⟨5, a, b⟩) && Vd.can2 ss ⟨5, a, b⟩ f q) := fun q => rfl
 have HCN := hide (hcan (r.map Prod.fst))
 generalize Vd.can ss ⟨5, a, b⟩ f (r.map Prod.fst) = RES at *
 clear hbx h hcan
 go_enter Tryz.func39, Tryz.ntmps39
 go_upto_region 1 with fail
 have c0 : (W.alloc (Obj.cells #[.int .i64 5, .int .i64 a, .int .i64 b] 54)).cell? ⟨W.heap.size, 0, none⟩ = some (.int .i64 5) := hca.c0
 have c1 : (W.alloc (Obj.cells #[.int .i64 5, .int .i64 a, .int .i64 b] 54)).cell? ⟨W.heap.size, 1, none⟩ = some (.int .i64 a) := hca.c1
 have c2 : (W.alloc (Obj.cells #[.int .i64 5, .int .i64 a, .int .i64 b] 54)).cell? ⟨W.heap.size, 2, none⟩ = some (.int .i64 b) := hca.c2
 have HTK := hide (fun (V : World) => vtakes_any ⟨5, a, b⟩ (show (1 : Int) ≤ 5 ∧ (5 : Int) ≤ 14 by decide) V)
 clear hb0 hca
 generalize W.alloc (Obj.cells #[.int .i64 5, .int .i64 a, .int .i64 b] 54) = W1 at *
 have HMB := hide (show ∀ V, Below W1.heap.size W1 V → V.cell? ⟨z.bf, 3, none⟩ = some (.slice pa f.pile.length cp) ∧ V.cell? ⟨W.heap.size, 0, none⟩ = some (.int .i64 5) ∧ V.cell? ⟨W.heap.size, 1, none⟩ = some (.int .i64 a) ∧ V.cell? ⟨W.heap.size, 2, none⟩ = some (.int .i64 b) from fun V hV => ⟨(Xr.cell_kept (hV.block z.bf (World.block_lt_of_cell? W1 _ k3)) 3).trans k3, ((unhide HCA).below hV).c0, ((unhide HCA).below hV).c1, ((unhide HCA).below hV).c2⟩)
 have HM0 := hide ((unhide HMB) _ (Below.refl W1.heap.size W1).drew)
 clear k3 c0 c1 c2
 generalize hTK : Vd.takes ⟨5, a, b⟩ = TK at *
 go_cut [14] (fun v V => v = .bool (decide ((f.pile.length : Int) < TK)) ∧ Below W1.heap.size W1 V)
 case first =>
  go_region_held3 (fun V => V.cell? ⟨z.bf, 3, none⟩ = some (.slice pa f.pile.length cp) ∧ V.cell? ⟨W.heap.size, 0, none⟩ = some (.int .i64 5) ∧ V.cell? ⟨W.heap.size, 1, none⟩ = some (.int .i64 a) ∧ V.cell? ⟨W.heap.size, 2, none⟩ = some (.int .i64 b))
   (first | assumption | exact unhide HM0 | exact (unhide HMB) _ (unhide HB3))
   (first | (go_at_call 76; refine ((unhide HTK) _).mono ?_; rintro r3 w3 ⟨rfl, hb3⟩; have HB3 := hide ((Below.refl W1.heap.size W1).drew.trans hb3); clear hb3))
  all_goals
   go_wp2_with fail
   go_meet
   case rel => exact ⟨rfl, unhide HB3⟩
 case rest =>
  rename World => V
  obtain ⟨rfl, hbV⟩ := hcut
  have hcaV := (unhide HCA).below hbV
  have HBV := hide ((unhide HB0).trans (hbV.mono (unhide HB0).size))
  obtain ⟨k3, c0, c1, c2⟩ := (unhide HMB) V hbV
  clear HMB HM0 HTK HCA hbV
  by_cases hlt : (f.pile.length : Int) < TK
  · have hd : decide ((f.pile.length : Int) < TK) = true := decide_eq_true hlt
    have HR := hide (show RES = false by rw [unhide HCN, hd]; rfl)
    rw [hd]
    clear hd hlt hcaV
    go_wp2_with fail
    go_ret
    exact ⟨by rw [unhide HR]; rfl, unhide HBV⟩
  · have hd : decide ((f.pile.length : Int) < TK) = false := decide_eq_false hlt
    have HR := hide (show RES = true by rw [unhide HCN, hd]; rfl)
    rw [hd]
    clear hd hTK HCN
    clear hcaV
    go_wp2_with fail
    go_ret
    exact ⟨by rw [unhide HR]; rfl, unhide HBV⟩
theorem vcan_6 {w0 W : World} {tg : Nat → Nat} {N bm : Nat} {c : Vm.Cx} {ss : List (List Int)} {s : Xr.S} {f : Vd.F} {z : Vm.Z} {r : List Vm.X} {rf ev : Value} {li : List Kd.I} {fs : List Int} (hco : Kd.RCo w0 c.si c.sf c.sz li fs ss) (hc : Vd.Cd li fs ss) (hfo : Vd.FOk li ss f) (hro : ∀ g ∈ r.map Prod.fst, Vd.FOk li ss g) (h : Vm.J w0 W tg N bm c ss s ((f, z) :: r) rf ev) (hr : r.length ≤ 90) (a b : Int) (hin : Kd.inR li.length fs.length ⟨6, a, b⟩ = true) :
  Calls Tryz.prog 39 #[.pointer (some ⟨bm, 0, none⟩), .pointer (some ⟨z.bf, 0, none⟩), .agg #[.int .i64 6, .int .i64 a, .int .i64 b]] W fun rr W' => rr = .returned (.bool (Vd.can ss ⟨6, a, b⟩ f (r.map Prod.fst))) ∧ Below W.heap.size W W' := by
 have hb0 := (Below.refl W.heap.size W).alloc (Nat.le_refl _) (Obj.cells #[.int .i64 6, .int .i64 a, .int .i64 b] 54)
 have hbx := Vm.Bx.new (heap_alloc_new W (Obj.cells #[.int .i64 6, .int .i64 a, .int .i64 b] 54))
 have hca : Vm.Ca w0 bm c ss s f z r rf ev tg N W.heap.size ⟨6, a, b⟩ (W.alloc (Obj.cells #[.int .i64 6, .int .i64 a, .int .i64 b] 54)) := ⟨h.below hb0, hbx.at_ 0 _ rfl, hbx.at_ 1 _ rfl, hbx.at_ 2 _ rfl⟩
 obtain ⟨pa, cp, k3⟩ := hca.j.frs.1.pile
 have HCA := hide hca
 have HB0 := hide hb0
 have htop := hfo.top
 have hcan : ∀ q, Vd.can ss ⟨6, a, b⟩ f q = (!decide ((f.pile.length : Int) < Vd.takes ⟨6, a, b⟩) && Vd.can2 ss ⟨6, a, b⟩ f q) := fun q => rfl
 have HCN := hide (hcan (r.map Prod.fst))
 generalize Vd.can ss ⟨6, a, b⟩ f (r.map Prod.fst) = RES at *
 clear hbx h hcan
 go_enter Tryz.func39, Tryz.ntmps39
 go_upto_region 1 with fail
 have c0 : (W.alloc (Obj.cells #[.int .i64 6, .int .i64 a, .int .i64 b] 54)).cell? ⟨W.heap.size, 0, none⟩ = some (.int .i64 6) := hca.c0
 have c1 : (W.alloc (Obj.cells #[.int .i64 6, .int .i64 a, .int .i64 b] 54)).cell? ⟨W.heap.size, 1, none⟩ = some (.int .i64 a) := hca.c1
 have c2 : (W.alloc (Obj.cells #[.int .i64 6, .int .i64 a, .int .i64 b] 54)).cell? ⟨W.heap.size, 2, none⟩ = some (.int .i64 b) := hca.c2
 have HTK := hide (fun (V : World) => vtakes_any ⟨6, a, b⟩ (show (1 : Int) ≤ 6 ∧ (6 : Int) ≤ 14 by decide) V)
 clear hb0 hca
 generalize W.alloc (Obj.cells #[.int .i64 6, .int .i64 a, .int .i64 b] 54) = W1 at *
 have HMB := hide (show ∀ V, Below W1.heap.size W1 V → V.cell? ⟨z.bf, 3, none⟩ = some (.slice pa f.pile.length cp) ∧ V.cell? ⟨W.heap.size, 0, none⟩ = some (.int .i64 6) ∧ V.cell? ⟨W.heap.size, 1, none⟩ = some (.int .i64 a) ∧ V.cell? ⟨W.heap.size, 2, none⟩ = some (.int .i64 b) from fun V hV => ⟨(Xr.cell_kept (hV.block z.bf (World.block_lt_of_cell? W1 _ k3)) 3).trans k3, ((unhide HCA).below hV).c0, ((unhide HCA).below hV).c1, ((unhide HCA).below hV).c2⟩)
 have HM0 := hide ((unhide HMB) _ (Below.refl W1.heap.size W1).drew)
 clear k3 c0 c1 c2
 generalize hTK : Vd.takes ⟨6, a, b⟩ = TK at *
 go_cut [14] (fun v V => v = .bool (decide ((f.pile.length : Int) < TK)) ∧ Below W1.heap.size W1 V)
 case first =>
  go_region_held3 (fun V => V.cell? ⟨z.bf, 3, none⟩ = some (.slice pa f.pile.length cp) ∧ V.cell? ⟨W.heap.size, 0, none⟩ = some (.int .i64 6) ∧ V.cell? ⟨W.heap.size, 1, none⟩ = some (.int .i64 a) ∧ V.cell? ⟨W.heap.size, 2, none⟩ = some (.int .i64 b))
   (first | assumption | exact unhide HM0 | exact (unhide HMB) _ (unhide HB3))
   (first | (go_at_call 76; refine ((unhide HTK) _).mono ?_; rintro r3 w3 ⟨rfl, hb3⟩; have HB3 := hide ((Below.refl W1.heap.size W1).drew.trans hb3); clear hb3))
  all_goals
   go_wp2_with fail
   go_meet
   case rel => exact ⟨rfl, unhide HB3⟩
 case rest =>
  rename World => V
  obtain ⟨rfl, hbV⟩ := hcut
  have hcaV := (unhide HCA).below hbV
  have HBV := hide ((unhide HB0).trans (hbV.mono (unhide HB0).size))
  obtain ⟨k3, c0, c1, c2⟩ := (unhide HMB) V hbV
  clear HMB HM0 HTK HCA hbV
  by_cases hlt : (f.pile.length : Int) < TK
  · have hd : decide ((f.pile.length : Int) < TK) = true := decide_eq_true hlt
    have HR := hide (show RES = false by rw [unhide HCN, hd]; rfl)
    rw [hd]
    clear hd hlt hcaV
    go_wp2_with fail
    go_ret
    exact ⟨by rw [unhide HR]; rfl, unhide HBV⟩
  · have hd : decide ((f.pile.length : Int) < TK) = false := decide_eq_false hlt
    have HR := hide (show RES = Vd.plain (ss[f.fn]?.getD []) a by rw [unhide HCN, hd]; rfl)
    rw [hd]
    clear hd hTK HCN
    have ha : 0 ≤ a := by unfold Kd.inR at hin; simpa using hin
    have HP := hide (vplain_any hcaV.j.frs.1 hcaV.j.bel a ha)
    clear hcaV
    go_wp2_with fail
    refine (unhide HP).mono ?_
    rintro r4 w4 ⟨rfl, hw4⟩
    subst hw4
    go_wp2_with fail
    go_ret
    exact ⟨by rw [unhide HR]; rfl, unhide HBV⟩
theorem vcan_7 {w0 W : World} {tg : Nat → Nat} {N bm : Nat} {c : Vm.Cx} {ss : List (List Int)} {s : Xr.S} {f : Vd.F} {z : Vm.Z} {r : List Vm.X} {rf ev : Value} {li : List Kd.I} {fs : List Int} (hco : Kd.RCo w0 c.si c.sf c.sz li fs ss) (hc : Vd.Cd li fs ss) (hfo : Vd.FOk li ss f) (hro : ∀ g ∈ r.map Prod.fst, Vd.FOk li ss g) (h : Vm.J w0 W tg N bm c ss s ((f, z) :: r) rf ev) (hr : r.length ≤ 90) (a b : Int) (hin : Kd.inR li.length fs.length ⟨7, a, b⟩ = true) :
  Calls Tryz.prog 39 #[.pointer (some ⟨bm, 0, none⟩), .pointer (some ⟨z.bf, 0, none⟩), .agg #[.int .i64 7, .int .i64 a, .int .i64 b]] W fun rr W' => rr = .returned (.bool (Vd.can ss ⟨7, a, b⟩ f (r.map Prod.fst))) ∧ Below W.heap.size W W' := by
 have hb0 := (Below.refl W.heap.size W).alloc (Nat.le_refl _) (Obj.cells #[.int .i64 7, .int .i64 a, .int .i64 b] 54)
 have hbx := Vm.Bx.new (heap_alloc_new W (Obj.cells #[.int .i64 7, .int .i64 a, .int .i64 b] 54))
 have hca : Vm.Ca w0 bm c ss s f z r rf ev tg N W.heap.size ⟨7, a, b⟩ (W.alloc (Obj.cells #[.int .i64 7, .int .i64 a, .int .i64 b] 54)) := ⟨h.below hb0, hbx.at_ 0 _ rfl, hbx.at_ 1 _ rfl, hbx.at_ 2 _ rfl⟩
 obtain ⟨pa, cp, k3⟩ := hca.j.frs.1.pile
 have HCA := hide hca
 have HB0 := hide hb0
 have htop := hfo.top
 have hcan : ∀ q, Vd.can ss ⟨7, a, b⟩ f q = (!decide ((f.pile.length : Int) < Vd.takes ⟨7, a, b⟩) && Vd.can2 ss ⟨7, a, b⟩ f q) := fun q => rfl
 have HCN := hide (hcan (r.map Prod.fst))
 generalize Vd.can ss ⟨7, a, b⟩ f (r.map Prod.fst) = RES at *
 clear hbx h hcan
 go_enter Tryz.func39, Tryz.ntmps39
 go_upto_region 1 with fail
 have c0 : (W.alloc (Obj.cells #[.int .i64 7, .int .i64 a, .int .i64 b] 54)).cell? ⟨W.heap.size, 0, none⟩ = some (.int .i64 7) := hca.c0
 have c1 : (W.alloc (Obj.cells #[.int .i64 7, .int .i64 a, .int .i64 b] 54)).cell? ⟨W.heap.size, 1, none⟩ = some (.int .i64 a) := hca.c1
 have c2 : (W.alloc (Obj.cells #[.int .i64 7, .int .i64 a, .int .i64 b] 54)).cell? ⟨W.heap.size, 2, none⟩ = some (.int .i64 b) := hca.c2
 have HTK := hide (fun (V : World) => vtakes_any ⟨7, a, b⟩ (show (1 : Int) ≤ 7 ∧ (7 : Int) ≤ 14 by decide) V)
 clear hb0 hca
 generalize W.alloc (Obj.cells #[.int .i64 7, .int .i64 a, .int .i64 b] 54) = W1 at *
 have HMB := hide (show ∀ V, Below W1.heap.size W1 V → V.cell? ⟨z.bf, 3, none⟩ = some (.slice pa f.pile.length cp) ∧ V.cell? ⟨W.heap.size, 0, none⟩ = some (.int .i64 7) ∧ V.cell? ⟨W.heap.size, 1, none⟩ = some (.int .i64 a) ∧ V.cell? ⟨W.heap.size, 2, none⟩ = some (.int .i64 b) from fun V hV => ⟨(Xr.cell_kept (hV.block z.bf (World.block_lt_of_cell? W1 _ k3)) 3).trans k3, ((unhide HCA).below hV).c0, ((unhide HCA).below hV).c1, ((unhide HCA).below hV).c2⟩)
 have HM0 := hide ((unhide HMB) _ (Below.refl W1.heap.size W1).drew)
 clear k3 c0 c1 c2
 generalize hTK : Vd.takes ⟨7, a, b⟩ = TK at *
 go_cut [14] (fun v V => v = .bool (decide ((f.pile.length : Int) < TK)) ∧ Below W1.heap.size W1 V)
 case first =>
  go_region_held3 (fun V => V.cell? ⟨z.bf, 3, none⟩ = some (.slice pa f.pile.length cp) ∧ V.cell? ⟨W.heap.size, 0, none⟩ = some (.int .i64 7) ∧ V.cell? ⟨W.heap.size, 1, none⟩ = some (.int .i64 a) ∧ V.cell? ⟨W.heap.size, 2, none⟩ = some (.int .i64 b))
   (first | assumption | exact unhide HM0 | exact (unhide HMB) _ (unhide HB3))
   (first | (go_at_call 76; refine ((unhide HTK) _).mono ?_; rintro r3 w3 ⟨rfl, hb3⟩; have HB3 := hide ((Below.refl W1.heap.size W1).drew.trans hb3); clear hb3))
  all_goals
   go_wp2_with fail
   go_meet
   case rel => exact ⟨rfl, unhide HB3⟩
 case rest =>
  rename World => V
  obtain ⟨rfl, hbV⟩ := hcut
  have hcaV := (unhide HCA).below hbV
  have HBV := hide ((unhide HB0).trans (hbV.mono (unhide HB0).size))
  obtain ⟨k3, c0, c1, c2⟩ := (unhide HMB) V hbV
  clear HMB HM0 HTK HCA hbV
  by_cases hlt : (f.pile.length : Int) < TK
  · have hd : decide ((f.pile.length : Int) < TK) = true := decide_eq_true hlt
    have HR := hide (show RES = false by rw [unhide HCN, hd]; rfl)
    rw [hd]
    clear hd hlt hcaV
    go_wp2_with fail
    go_ret
    exact ⟨by rw [unhide HR]; rfl, unhide HBV⟩
  · have hd : decide ((f.pile.length : Int) < TK) = false := decide_eq_false hlt
    have HR := hide (show RES = Vd.arr (ss[f.fn]?.getD []) a by rw [unhide HCN, hd]; rfl)
    rw [hd]
    clear hd hTK HCN
    have ha : 0 ≤ a := by unfold Kd.inR at hin; simpa using hin
    have HP := hide (varr_any hcaV.j.frs.1 hcaV.j.bel a ha)
    clear hcaV
    go_wp2_with fail
    refine (unhide HP).mono ?_
    rintro r4 w4 ⟨rfl, hw4⟩
    subst hw4
    go_wp2_with fail
    go_ret
    exact ⟨by rw [unhide HR]; rfl, unhide HBV⟩
theorem vcan_8 {w0 W : World} {tg : Nat → Nat} {N bm : Nat} {c : Vm.Cx} {ss : List (List Int)} {s : Xr.S} {f : Vd.F} {z : Vm.Z} {r : List Vm.X} {rf ev : Value} {li : List Kd.I} {fs : List Int} (hco : Kd.RCo w0 c.si c.sf c.sz li fs ss) (hc : Vd.Cd li fs ss) (hfo : Vd.FOk li ss f) (hro : ∀ g ∈ r.map Prod.fst, Vd.FOk li ss g) (h : Vm.J w0 W tg N bm c ss s ((f, z) :: r) rf ev) (hr : r.length ≤ 90) (a b : Int) (hin : Kd.inR li.length fs.length ⟨8, a, b⟩ = true) :
  Calls Tryz.prog 39 #[.pointer (some ⟨bm, 0, none⟩), .pointer (some ⟨z.bf, 0, none⟩), .agg #[.int .i64 8, .int .i64 a, .int .i64 b]] W fun rr W' => rr = .returned (.bool (Vd.can ss ⟨8, a, b⟩ f (r.map Prod.fst))) ∧ Below W.heap.size W W' := by
 have hb0 := (Below.refl W.heap.size W).alloc (Nat.le_refl _) (Obj.cells #[.int .i64 8, .int .i64 a, .int .i64 b] 54)
 have hbx := Vm.Bx.new (heap_alloc_new W (Obj.cells #[.int .i64 8, .int .i64 a, .int .i64 b] 54))
 have hca : Vm.Ca w0 bm c ss s f z r rf ev tg N W.heap.size ⟨8, a, b⟩ (W.alloc (Obj.cells #[.int .i64 8, .int .i64 a, .int .i64 b] 54)) := ⟨h.below hb0, hbx.at_ 0 _ rfl, hbx.at_ 1 _ rfl, hbx.at_ 2 _ rfl⟩
 obtain ⟨pa, cp, k3⟩ := hca.j.frs.1.pile
 have HCA := hide hca
 have HB0 := hide hb0
 have htop := hfo.top
 have hcan : ∀ q, Vd.can ss ⟨8, a, b⟩ f q = (!decide ((f.pile.length : Int) < Vd.takes ⟨8, a, b⟩) && Vd.can2 ss ⟨8, a, b⟩ f q) := fun q => rfl
 have HCN := hide (hcan (r.map Prod.fst))
 generalize Vd.can ss ⟨8, a, b⟩ f (r.map Prod.fst) = RES at *
 clear hbx h hcan
 go_enter Tryz.func39, Tryz.ntmps39
 go_upto_region 1 with fail
 have c0 : (W.alloc (Obj.cells #[.int .i64 8, .int .i64 a, .int .i64 b] 54)).cell? ⟨W.heap.size, 0, none⟩ = some (.int .i64 8) := hca.c0
 have c1 : (W.alloc (Obj.cells #[.int .i64 8, .int .i64 a, .int .i64 b] 54)).cell? ⟨W.heap.size, 1, none⟩ = some (.int .i64 a) := hca.c1
 have c2 : (W.alloc (Obj.cells #[.int .i64 8, .int .i64 a, .int .i64 b] 54)).cell? ⟨W.heap.size, 2, none⟩ = some (.int .i64 b) := hca.c2
 have HTK := hide (fun (V : World) => vtakes_any ⟨8, a, b⟩ (show (1 : Int) ≤ 8 ∧ (8 : Int) ≤ 14 by decide) V)
 clear hb0 hca
 generalize W.alloc (Obj.cells #[.int .i64 8, .int .i64 a, .int .i64 b] 54) = W1 at *
 have HMB := hide (show ∀ V, Below W1.heap.size W1 V → V.cell? ⟨z.bf, 3, none⟩ = some (.slice pa f.pile.length cp) ∧ V.cell? ⟨W.heap.size, 0, none⟩ = some (.int .i64 8) ∧ V.cell? ⟨W.heap.size, 1, none⟩ = some (.int .i64 a) ∧ V.cell? ⟨W.heap.size, 2, none⟩ = some (.int .i64 b) from fun V hV => ⟨(Xr.cell_kept (hV.block z.bf (World.block_lt_of_cell? W1 _ k3)) 3).trans k3, ((unhide HCA).below hV).c0, ((unhide HCA).below hV).c1, ((unhide HCA).below hV).c2⟩)
 have HM0 := hide ((unhide HMB) _ (Below.refl W1.heap.size W1).drew)
 clear k3 c0 c1 c2
 generalize hTK : Vd.takes ⟨8, a, b⟩ = TK at *
 go_cut [14] (fun v V => v = .bool (decide ((f.pile.length : Int) < TK)) ∧ Below W1.heap.size W1 V)
 case first =>
  go_region_held3 (fun V => V.cell? ⟨z.bf, 3, none⟩ = some (.slice pa f.pile.length cp) ∧ V.cell? ⟨W.heap.size, 0, none⟩ = some (.int .i64 8) ∧ V.cell? ⟨W.heap.size, 1, none⟩ = some (.int .i64 a) ∧ V.cell? ⟨W.heap.size, 2, none⟩ = some (.int .i64 b))
   (first | assumption | exact unhide HM0 | exact (unhide HMB) _ (unhide HB3))
   (first | (go_at_call 76; refine ((unhide HTK) _).mono ?_; rintro r3 w3 ⟨rfl, hb3⟩; have HB3 := hide ((Below.refl W1.heap.size W1).drew.trans hb3); clear hb3))
  all_goals
   go_wp2_with fail
   go_meet
   case rel => exact ⟨rfl, unhide HB3⟩
 case rest =>
  rename World => V
  obtain ⟨rfl, hbV⟩ := hcut
  have hcaV := (unhide HCA).below hbV
  have HBV := hide ((unhide HB0).trans (hbV.mono (unhide HB0).size))
  obtain ⟨k3, c0, c1, c2⟩ := (unhide HMB) V hbV
  clear HMB HM0 HTK HCA hbV
  by_cases hlt : (f.pile.length : Int) < TK
  · have hd : decide ((f.pile.length : Int) < TK) = true := decide_eq_true hlt
    have HR := hide (show RES = false by rw [unhide HCN, hd]; rfl)
    rw [hd]
    clear hd hlt hcaV
    go_wp2_with fail
    go_ret
    exact ⟨by rw [unhide HR]; rfl, unhide HBV⟩
  · have hd : decide ((f.pile.length : Int) < TK) = false := decide_eq_false hlt
    have HR := hide (show RES = Vd.plain (ss[f.fn]?.getD []) a by rw [unhide HCN, hd]; rfl)
    rw [hd]
    clear hd hTK HCN
    have ha : 0 ≤ a := by unfold Kd.inR at hin; simpa using hin
    have HP := hide (vplain_any hcaV.j.frs.1 hcaV.j.bel a ha)
    clear hcaV
    go_wp2_with fail
    refine (unhide HP).mono ?_
    rintro r4 w4 ⟨rfl, hw4⟩
    subst hw4
    go_wp2_with fail
    go_ret
    exact ⟨by rw [unhide HR]; rfl, unhide HBV⟩
theorem vcan_9 {w0 W : World} {tg : Nat → Nat} {N bm : Nat} {c : Vm.Cx} {ss : List (List Int)} {s : Xr.S} {f : Vd.F} {z : Vm.Z} {r : List Vm.X} {rf ev : Value} {li : List Kd.I} {fs : List Int} (hco : Kd.RCo w0 c.si c.sf c.sz li fs ss) (hc : Vd.Cd li fs ss) (hfo : Vd.FOk li ss f) (hro : ∀ g ∈ r.map Prod.fst, Vd.FOk li ss g) (h : Vm.J w0 W tg N bm c ss s ((f, z) :: r) rf ev) (hr : r.length ≤ 90) (a b : Int) (hin : Kd.inR li.length fs.length ⟨9, a, b⟩ = true) :
  Calls Tryz.prog 39 #[.pointer (some ⟨bm, 0, none⟩), .pointer (some ⟨z.bf, 0, none⟩), .agg #[.int .i64 9, .int .i64 a, .int .i64 b]] W fun rr W' => rr = .returned (.bool (Vd.can ss ⟨9, a, b⟩ f (r.map Prod.fst))) ∧ Below W.heap.size W W' := by
 have hb0 := (Below.refl W.heap.size W).alloc (Nat.le_refl _) (Obj.cells #[.int .i64 9, .int .i64 a, .int .i64 b] 54)
 have hbx := Vm.Bx.new (heap_alloc_new W (Obj.cells #[.int .i64 9, .int .i64 a, .int .i64 b] 54))
 have hca : Vm.Ca w0 bm c ss s f z r rf ev tg N W.heap.size ⟨9, a, b⟩ (W.alloc (Obj.cells #[.int .i64 9, .int .i64 a, .int .i64 b] 54)) := ⟨h.below hb0, hbx.at_ 0 _ rfl, hbx.at_ 1 _ rfl, hbx.at_ 2 _ rfl⟩
 obtain ⟨pa, cp, k3⟩ := hca.j.frs.1.pile
 have HCA := hide hca
 have HB0 := hide hb0
 have htop := hfo.top
 have hcan : ∀ q, Vd.can ss ⟨9, a, b⟩ f q = (!decide ((f.pile.length : Int) < Vd.takes ⟨9, a, b⟩) && Vd.can2 ss ⟨9, a, b⟩ f q) := fun q => rfl
 have HCN := hide (hcan (r.map Prod.fst))
 generalize Vd.can ss ⟨9, a, b⟩ f (r.map Prod.fst) = RES at *
 clear hbx h hcan
 go_enter Tryz.func39, Tryz.ntmps39
 go_upto_region 1 with fail
 have c0 : (W.alloc (Obj.cells #[.int .i64 9, .int .i64 a, .int .i64 b] 54)).cell? ⟨W.heap.size, 0, none⟩ = some (.int .i64 9) := hca.c0
 have c1 : (W.alloc (Obj.cells #[.int .i64 9, .int .i64 a, .int .i64 b] 54)).cell? ⟨W.heap.size, 1, none⟩ = some (.int .i64 a) := hca.c1
 have c2 : (W.alloc (Obj.cells #[.int .i64 9, .int .i64 a, .int .i64 b] 54)).cell? ⟨W.heap.size, 2, none⟩ = some (.int .i64 b) := hca.c2
 have HTK := hide (fun (V : World) => vtakes_any ⟨9, a, b⟩ (show (1 : Int) ≤ 9 ∧ (9 : Int) ≤ 14 by decide) V)
 clear hb0 hca
 generalize W.alloc (Obj.cells #[.int .i64 9, .int .i64 a, .int .i64 b] 54) = W1 at *
 have HMB := hide (show ∀ V, Below W1.heap.size W1 V → V.cell? ⟨z.bf, 3, none⟩ = some (.slice pa f.pile.length cp) ∧ V.cell? ⟨W.heap.size, 0, none⟩ = some (.int .i64 9) ∧ V.cell? ⟨W.heap.size, 1, none⟩ = some (.int .i64 a) ∧ V.cell? ⟨W.heap.size, 2, none⟩ = some (.int .i64 b) from fun V hV => ⟨(Xr.cell_kept (hV.block z.bf (World.block_lt_of_cell? W1 _ k3)) 3).trans k3, ((unhide HCA).below hV).c0, ((unhide HCA).below hV).c1, ((unhide HCA).below hV).c2⟩)
 have HM0 := hide ((unhide HMB) _ (Below.refl W1.heap.size W1).drew)
 clear k3 c0 c1 c2
 generalize hTK : Vd.takes ⟨9, a, b⟩ = TK at *
 go_cut [14] (fun v V => v = .bool (decide ((f.pile.length : Int) < TK)) ∧ Below W1.heap.size W1 V)
 case first =>
  go_region_held3 (fun V => V.cell? ⟨z.bf, 3, none⟩ = some (.slice pa f.pile.length cp) ∧ V.cell? ⟨W.heap.size, 0, none⟩ = some (.int .i64 9) ∧ V.cell? ⟨W.heap.size, 1, none⟩ = some (.int .i64 a) ∧ V.cell? ⟨W.heap.size, 2, none⟩ = some (.int .i64 b))
   (first | assumption | exact unhide HM0 | exact (unhide HMB) _ (unhide HB3))
   (first | (go_at_call 76; refine ((unhide HTK) _).mono ?_; rintro r3 w3 ⟨rfl, hb3⟩; have HB3 := hide ((Below.refl W1.heap.size W1).drew.trans hb3); clear hb3))
  all_goals
   go_wp2_with fail
   go_meet
   case rel => exact ⟨rfl, unhide HB3⟩
 case rest =>
  rename World => V
  obtain ⟨rfl, hbV⟩ := hcut
  have hcaV := (unhide HCA).below hbV
  have HBV := hide ((unhide HB0).trans (hbV.mono (unhide HB0).size))
  obtain ⟨k3, c0, c1, c2⟩ := (unhide HMB) V hbV
  clear HMB HM0 HTK HCA hbV
  by_cases hlt : (f.pile.length : Int) < TK
  · have hd : decide ((f.pile.length : Int) < TK) = true := decide_eq_true hlt
    have HR := hide (show RES = false by rw [unhide HCN, hd]; rfl)
    rw [hd]
    clear hd hlt hcaV
    go_wp2_with fail
    go_ret
    exact ⟨by rw [unhide HR]; rfl, unhide HBV⟩
  · have hd : decide ((f.pile.length : Int) < TK) = false := decide_eq_false hlt
    have HR := hide (show RES = true by rw [unhide HCN, hd]; rfl)
    rw [hd]
    clear hd hTK HCN
    clear hcaV
    go_wp2_with fail
    go_ret
    exact ⟨by rw [unhide HR]; rfl, unhide HBV⟩
theorem vcan_10 {w0 W : World} {tg : Nat → Nat} {N bm : Nat} {c : Vm.Cx} {ss : List (List Int)} {s : Xr.S} {f : Vd.F} {z : Vm.Z} {r : List Vm.X} {rf ev : Value} {li : List Kd.I} {fs : List Int} (hco : Kd.RCo w0 c.si c.sf c.sz li fs ss) (hc : Vd.Cd li fs ss) (hfo : Vd.FOk li ss f) (hro : ∀ g ∈ r.map Prod.fst, Vd.FOk li ss g) (h : Vm.J w0 W tg N bm c ss s ((f, z) :: r) rf ev) (hr : r.length ≤ 90) (a b : Int) (hin : Kd.inR li.length fs.length ⟨10, a, b⟩ = true) :
  Calls Tryz.prog 39 #[.pointer (some ⟨bm, 0, none⟩), .pointer (some ⟨z.bf, 0, none⟩), .agg #[.int .i64 10, .int .i64 a, .int .i64 b]] W fun rr W' => rr = .returned (.bool (Vd.can ss ⟨10, a, b⟩ f (r.map Prod.fst))) ∧ Below W.heap.size W W' := by
 have hb0 := (Below.refl W.heap.size W).alloc (Nat.le_refl _) (Obj.cells #[.int .i64 10, .int .i64 a, .int .i64 b] 54)
 have hbx := Vm.Bx.new (heap_alloc_new W (Obj.cells #[.int .i64 10, .int .i64 a, .int .i64 b] 54))
 have hca : Vm.Ca w0 bm c ss s f z r rf ev tg N W.heap.size ⟨10, a, b⟩ (W.alloc (Obj.cells #[.int .i64 10, .int .i64 a, .int .i64 b] 54)) := ⟨h.below hb0, hbx.at_ 0 _ rfl, hbx.at_ 1 _ rfl, hbx.at_ 2 _ rfl⟩
 obtain ⟨pa, cp, k3⟩ := hca.j.frs.1.pile
 have HCA := hide hca
 have HB0 := hide hb0
 have htop := hfo.top
 have hcan : ∀ q, Vd.can ss ⟨10, a, b⟩ f q = (!decide ((f.pile.length : Int) < Vd.takes ⟨10, a, b⟩) && Vd.can2 ss ⟨10, a, b⟩ f q) := fun q => rfl
 have HCN := hide (hcan (r.map Prod.fst))
 generalize Vd.can ss ⟨10, a, b⟩ f (r.map Prod.fst) = RES at *
 clear hbx h hcan
 go_enter Tryz.func39, Tryz.ntmps39
 go_upto_region 1 with fail
 have c0 : (W.alloc (Obj.cells #[.int .i64 10, .int .i64 a, .int .i64 b] 54)).cell? ⟨W.heap.size, 0, none⟩ = some (.int .i64 10) := hca.c0
 have c1 : (W.alloc (Obj.cells #[.int .i64 10, .int .i64 a, .int .i64 b] 54)).cell? ⟨W.heap.size, 1, none⟩ = some (.int .i64 a) := hca.c1
 have c2 : (W.alloc (Obj.cells #[.int .i64 10, .int .i64 a, .int .i64 b] 54)).cell? ⟨W.heap.size, 2, none⟩ = some (.int .i64 b) := hca.c2
 have HTK := hide (fun (V : World) => vtakes_any ⟨10, a, b⟩ (show (1 : Int) ≤ 10 ∧ (10 : Int) ≤ 14 by decide) V)
 clear hb0 hca
 generalize W.alloc (Obj.cells #[.int .i64 10, .int .i64 a, .int .i64 b] 54) = W1 at *
 have HMB := hide (show ∀ V, Below W1.heap.size W1 V → V.cell? ⟨z.bf, 3, none⟩ = some (.slice pa f.pile.length cp) ∧ V.cell? ⟨W.heap.size, 0, none⟩ = some (.int .i64 10) ∧ V.cell? ⟨W.heap.size, 1, none⟩ = some (.int .i64 a) ∧ V.cell? ⟨W.heap.size, 2, none⟩ = some (.int .i64 b) from fun V hV => ⟨(Xr.cell_kept (hV.block z.bf (World.block_lt_of_cell? W1 _ k3)) 3).trans k3, ((unhide HCA).below hV).c0, ((unhide HCA).below hV).c1, ((unhide HCA).below hV).c2⟩)
 have HM0 := hide ((unhide HMB) _ (Below.refl W1.heap.size W1).drew)
 clear k3 c0 c1 c2
 generalize hTK : Vd.takes ⟨10, a, b⟩ = TK at *
 go_cut [14] (fun v V => v = .bool (decide ((f.pile.length : Int) < TK)) ∧ Below W1.heap.size W1 V)
 case first =>
  go_region_held3 (fun V => V.cell? ⟨z.bf, 3, none⟩ = some (.slice pa f.pile.length cp) ∧ V.cell? ⟨W.heap.size, 0, none⟩ = some (.int .i64 10) ∧ V.cell? ⟨W.heap.size, 1, none⟩ = some (.int .i64 a) ∧ V.cell? ⟨W.heap.size, 2, none⟩ = some (.int .i64 b))
   (first | assumption | exact unhide HM0 | exact (unhide HMB) _ (unhide HB3))
   (first | (go_at_call 76; refine ((unhide HTK) _).mono ?_; rintro r3 w3 ⟨rfl, hb3⟩; have HB3 := hide ((Below.refl W1.heap.size W1).drew.trans hb3); clear hb3))
  all_goals
   go_wp2_with fail
   go_meet
   case rel => exact ⟨rfl, unhide HB3⟩
 case rest =>
  rename World => V
  obtain ⟨rfl, hbV⟩ := hcut
  have hcaV := (unhide HCA).below hbV
  have HBV := hide ((unhide HB0).trans (hbV.mono (unhide HB0).size))
  obtain ⟨k3, c0, c1, c2⟩ := (unhide HMB) V hbV
  clear HMB HM0 HTK HCA hbV
  by_cases hlt : (f.pile.length : Int) < TK
  · have hd : decide ((f.pile.length : Int) < TK) = true := decide_eq_true hlt
    have HR := hide (show RES = false by rw [unhide HCN, hd]; rfl)
    rw [hd]
    clear hd hlt hcaV
    go_wp2_with fail
    go_ret
    exact ⟨by rw [unhide HR]; rfl, unhide HBV⟩
  · have hd : decide ((f.pile.length : Int) < TK) = false := decide_eq_false hlt
    have HR := hide (show RES = true by rw [unhide HCN, hd]; rfl)
    rw [hd]
    clear hd hTK HCN
    clear hcaV
    go_wp2_with fail
    go_ret
    exact ⟨by rw [unhide HR]; rfl, unhide HBV⟩
theorem vcan_11 {w0 W : World} {tg : Nat → Nat} {N bm : Nat} {c : Vm.Cx} {ss : List (List Int)} {s : Xr.S} {f : Vd.F} {z : Vm.Z} {r : List Vm.X} {rf ev : Value} {li : List Kd.I} {fs : List Int} (hco : Kd.RCo w0 c.si c.sf c.sz li fs ss) (hc : Vd.Cd li fs ss) (hfo : Vd.FOk li ss f) (hro : ∀ g ∈ r.map Prod.fst, Vd.FOk li ss g) (h : Vm.J w0 W tg N bm c ss s ((f, z) :: r) rf ev) (hr : r.length ≤ 90) (a b : Int) (hin : Kd.inR li.length fs.length ⟨11, a, b⟩ = true) :
  Calls Tryz.prog 39 #[.pointer (some ⟨bm, 0, none⟩), .pointer (some ⟨z.bf, 0, none⟩), .agg #[.int .i64 11, .int .i64 a, .int .i64 b]] W fun rr W' => rr = .returned (.bool (Vd.can ss ⟨11, a, b⟩ f (r.map Prod.fst))) ∧ Below W.heap.size W W' := by
 have hb0 := (Below.refl W.heap.size W).alloc (Nat.le_refl _) (Obj.cells #[.int .i64 11, .int .i64 a, .int .i64 b] 54)
 have hbx := Vm.Bx.new (heap_alloc_new W (Obj.cells #[.int .i64 11, .int .i64 a, .int .i64 b] 54))
 have hca : Vm.Ca w0 bm c ss s f z r rf ev tg N W.heap.size ⟨11, a, b⟩ (W.alloc (Obj.cells #[.int .i64 11, .int .i64 a, .int .i64 b] 54)) := ⟨h.below hb0, hbx.at_ 0 _ rfl, hbx.at_ 1 _ rfl, hbx.at_ 2 _ rfl⟩
 obtain ⟨pa, cp, k3⟩ := hca.j.frs.1.pile
 have HCA := hide hca
 have HB0 := hide hb0
 have htop := hfo.top
 have hcan : ∀ q, Vd.can ss ⟨11, a, b⟩ f q = (!decide ((f.pile.length : Int) < Vd.takes ⟨11, a, b⟩) && Vd.can2 ss ⟨11, a, b⟩ f q) := fun q => rfl
 have HCN := hide (hcan (r.map Prod.fst))
 generalize Vd.can ss ⟨11, a, b⟩ f (r.map Prod.fst) = RES at *
 clear hbx h hcan
 go_enter Tryz.func39, Tryz.ntmps39
 go_upto_region 1 with fail
 have c0 : (W.alloc (Obj.cells #[.int .i64 11, .int .i64 a, .int .i64 b] 54)).cell? ⟨W.heap.size, 0, none⟩ = some (.int .i64 11) := hca.c0
 have c1 : (W.alloc (Obj.cells #[.int .i64 11, .int .i64 a, .int .i64 b] 54)).cell? ⟨W.heap.size, 1, none⟩ = some (.int .i64 a) := hca.c1
 have c2 : (W.alloc (Obj.cells #[.int .i64 11, .int .i64 a, .int .i64 b] 54)).cell? ⟨W.heap.size, 2, none⟩ = some (.int .i64 b) := hca.c2
 have HTK := hide (fun (V : World) => vtakes_any ⟨11, a, b⟩ (show (1 : Int) ≤ 11 ∧ (11 : Int) ≤ 14 by decide) V)
 clear hb0 hca
 generalize W.alloc (Obj.cells #[.int .i64 11, .int .i64 a, .int .i64 b] 54) = W1 at *
 have HMB := hide (show ∀ V, Below W1.heap.size W1 V → V.cell? ⟨z.bf, 3, none⟩ = some (.slice pa f.pile.length cp) ∧ V.cell? ⟨W.heap.size, 0, none⟩ = some (.int .i64 11) ∧ V.cell? ⟨W.heap.size, 1, none⟩ = some (.int .i64 a) ∧ V.cell? ⟨W.heap.size, 2, none⟩ = some (.int .i64 b) from fun V hV => ⟨(Xr.cell_kept (hV.block z.bf (World.block_lt_of_cell? W1 _ k3)) 3).trans k3, ((unhide HCA).below hV).c0, ((unhide HCA).below hV).c1, ((unhide HCA).below hV).c2⟩)
 have HM0 := hide ((unhide HMB) _ (Below.refl W1.heap.size W1).drew)
 clear k3 c0 c1 c2
 generalize hTK : Vd.takes ⟨11, a, b⟩ = TK at *
 go_cut [14] (fun v V => v = .bool (decide ((f.pile.length : Int) < TK)) ∧ Below W1.heap.size W1 V)
 case first =>
  go_region_held3 (fun V => V.cell? ⟨z.bf, 3, none⟩ = some (.slice pa f.pile.length cp) ∧ V.cell? ⟨W.heap.size, 0, none⟩ = some (.int .i64 11) ∧ V.cell? ⟨W.heap.size, 1, none⟩ = some (.int .i64 a) ∧ V.cell? ⟨W.heap.size, 2, none⟩ = some (.int .i64 b))
   (first | assumption | exact unhide HM0 | exact (unhide HMB) _ (unhide HB3))
   (first | (go_at_call 76; refine ((unhide HTK) _).mono ?_; rintro r3 w3 ⟨rfl, hb3⟩; have HB3 := hide ((Below.refl W1.heap.size W1).drew.trans hb3); clear hb3))
  all_goals
   go_wp2_with fail
   go_meet
   case rel => exact ⟨rfl, unhide HB3⟩
 case rest =>
  rename World => V
  obtain ⟨rfl, hbV⟩ := hcut
  have hcaV := (unhide HCA).below hbV
  have HBV := hide ((unhide HB0).trans (hbV.mono (unhide HB0).size))
  obtain ⟨k3, c0, c1, c2⟩ := (unhide HMB) V hbV
  clear HMB HM0 HTK HCA hbV
  by_cases hlt : (f.pile.length : Int) < TK
  · have hd : decide ((f.pile.length : Int) < TK) = true := decide_eq_true hlt
    have HR := hide (show RES = false by rw [unhide HCN, hd]; rfl)
    rw [hd]
    clear hd hlt hcaV
    go_wp2_with fail
    go_ret
    exact ⟨by rw [unhide HR]; rfl, unhide HBV⟩
  · have hd : decide ((f.pile.length : Int) < TK) = false := decide_eq_false hlt
    have HR := hide (show RES = true by rw [unhide HCN, hd]; rfl)
    rw [hd]
    clear hd hTK HCN
    clear hcaV
    go_wp2_with fail
    go_ret
    exact ⟨by rw [unhide HR]; rfl, unhide HBV⟩
theorem vcan_12 {w0 W : World} {tg : Nat → Nat} {N bm : Nat} {c : Vm.Cx} {ss : List (List Int)} {s : Xr.S} {f : Vd.F} {z : Vm.Z} {r : List Vm.X} {rf ev : Value} {li : List Kd.I} {fs : List Int} (hco : Kd.RCo w0 c.si c.sf c.sz li fs ss) (hc : Vd.Cd li fs ss) (hfo : Vd.FOk li ss f) (hro : ∀ g ∈ r.map Prod.fst, Vd.FOk li ss g) (h : Vm.J w0 W tg N bm c ss s ((f, z) :: r) rf ev) (hr : r.length ≤ 90) (a b : Int) (hin : Kd.inR li.length fs.length ⟨12, a, b⟩ = true) :
  Calls Tryz.prog 39 #[.pointer (some ⟨bm, 0, none⟩), .pointer (some ⟨z.bf, 0, none⟩), .agg #[.int .i64 12, .int .i64 a, .int .i64 b]] W fun rr W' => rr = .returned (.bool (Vd.can ss ⟨12, a, b⟩ f (r.map Prod.fst))) ∧ Below W.heap.size W W' := by
 have hb0 := (Below.refl W.heap.size W).alloc (Nat.le_refl _) (Obj.cells #[.int .i64 12, .int .i64 a, .int .i64 b] 54)
 have hbx := Vm.Bx.new (heap_alloc_new W (Obj.cells #[.int .i64 12, .int .i64 a, .int .i64 b] 54))
 have hca : Vm.Ca w0 bm c ss s f z r rf ev tg N W.heap.size ⟨12, a, b⟩ (W.alloc (Obj.cells #[.int .i64 12, .int .i64 a, .int .i64 b] 54)) := ⟨h.below hb0, hbx.at_ 0 _ rfl, hbx.at_ 1 _ rfl, hbx.at_ 2 _ rfl⟩
 obtain ⟨pa, cp, k3⟩ := hca.j.frs.1.pile
 have HCA := hide hca
 have HB0 := hide hb0
 have htop := hfo.top
 have hcan : ∀ q, Vd.can ss ⟨12, a, b⟩ f q = (!decide ((f.pile.length : Int) < Vd.takes ⟨12, a, b⟩) && Vd.can2 ss ⟨12, a, b⟩ f q) := fun q => rfl
 have HCN := hide (hcan (r.map Prod.fst))
 generalize Vd.can ss ⟨12, a, b⟩ f (r.map Prod.fst) = RES at *
 clear hbx h hcan
 go_enter Tryz.func39, Tryz.ntmps39
 go_upto_region 1 with fail
 have c0 : (W.alloc (Obj.cells #[.int .i64 12, .int .i64 a, .int .i64 b] 54)).cell? ⟨W.heap.size, 0, none⟩ = some (.int .i64 12) := hca.c0
 have c1 : (W.alloc (Obj.cells #[.int .i64 12, .int .i64 a, .int .i64 b] 54)).cell? ⟨W.heap.size, 1, none⟩ = some (.int .i64 a) := hca.c1
 have c2 : (W.alloc (Obj.cells #[.int .i64 12, .int .i64 a, .int .i64 b] 54)).cell? ⟨W.heap.size, 2, none⟩ = some (.int .i64 b) := hca.c2
 have HTK := hide (fun (V : World) => vtakes_any ⟨12, a, b⟩ (show (1 : Int) ≤ 12 ∧ (12 : Int) ≤ 14 by decide) V)
 clear hb0 hca
 generalize W.alloc (Obj.cells #[.int .i64 12, .int .i64 a, .int .i64 b] 54) = W1 at *
 have HMB := hide (show ∀ V, Below W1.heap.size W1 V → V.cell? ⟨z.bf, 3, none⟩ = some (.slice pa f.pile.length cp) ∧ V.cell? ⟨W.heap.size, 0, none⟩ = some (.int .i64 12) ∧ V.cell? ⟨W.heap.size, 1, none⟩ = some (.int .i64 a) ∧ V.cell? ⟨W.heap.size, 2, none⟩ = some (.int .i64 b) from fun V hV => ⟨(Xr.cell_kept (hV.block z.bf (World.block_lt_of_cell? W1 _ k3)) 3).trans k3, ((unhide HCA).below hV).c0, ((unhide HCA).below hV).c1, ((unhide HCA).below hV).c2⟩)
 have HM0 := hide ((unhide HMB) _ (Below.refl W1.heap.size W1).drew)
 clear k3 c0 c1 c2
 generalize hTK : Vd.takes ⟨12, a, b⟩ = TK at *
 go_cut [14] (fun v V => v = .bool (decide ((f.pile.length : Int) < TK)) ∧ Below W1.heap.size W1 V)
 case first =>
  go_region_held3 (fun V => V.cell? ⟨z.bf, 3, none⟩ = some (.slice pa f.pile.length cp) ∧ V.cell? ⟨W.heap.size, 0, none⟩ = some (.int .i64 12) ∧ V.cell? ⟨W.heap.size, 1, none⟩ = some (.int .i64 a) ∧ V.cell? ⟨W.heap.size, 2, none⟩ = some (.int .i64 b))
   (first | assumption | exact unhide HM0 | exact (unhide HMB) _ (unhide HB3))
   (first | (go_at_call 76; refine ((unhide HTK) _).mono ?_; rintro r3 w3 ⟨rfl, hb3⟩; have HB3 := hide ((Below.refl W1.heap.size W1).drew.trans hb3); clear hb3))
  all_goals
   go_wp2_with fail
   go_meet
   case rel => exact ⟨rfl, unhide HB3⟩
 case rest =>
  rename World => V
  obtain ⟨rfl, hbV⟩ := hcut
  have hcaV := (unhide HCA).below hbV
  have HBV := hide ((unhide HB0).trans (hbV.mono (unhide HB0).size))
  obtain ⟨k3, c0, c1, c2⟩ := (unhide HMB) V hbV
  clear HMB HM0 HTK HCA hbV
  by_cases hlt : (f.pile.length : Int) < TK
  · have hd : decide ((f.pile.length : Int) < TK) = true := decide_eq_true hlt
    have HR := hide (show RES = false by rw [unhide HCN, hd]; rfl)
    rw [hd]
    clear hd hlt hcaV
    go_wp2_with fail
    go_ret
    exact ⟨by rw [unhide HR]; rfl, unhide HBV⟩
  · have hd : decide ((f.pile.length : Int) < TK) = false := decide_eq_false hlt
    have HR := hide (show RES = (decide (b ≤ ((ss[a.toNat]?.getD []).length : Int)) && !((ss[a.toNat]?.getD []).take b.toNat).any Pg.notNought) by rw [unhide HCN, hd]; rfl)
    rw [hd]
    clear hd hTK HCN
    have ha : (0 ≤ a ∧ a < (fs.length : Int)) ∧ 0 ≤ b ∧ b ≤ 3 := by unfold Kd.inR at hin; simpa using hin
    obtain ⟨q, rfl⟩ : ∃ q : Nat, a = q := ⟨a.toNat, by omega⟩
    obtain ⟨n, rfl⟩ : ∃ n : Nat, b = n := ⟨b.toNat, by omega⟩
    rw [Int.toNat_natCast, Int.toNat_natCast] at HR
    have hq : q < ss.length := by have := hc.len; omega
    obtain ⟨l, hl⟩ : ∃ l, ss[q]? = some l := ⟨_, List.getElem?_eq_getElem hq⟩
    rw [hl, Option.getD_some] at HR
    obtain ⟨b2, o2, ⟨sad, sln, scp⟩, ha2, hb2, hc2, hrs⟩ := hco.szs.at_ q l hl
    obtain ⟨t1, hg1⟩ := hcaV.j.g
    have hbel := hg1.bel
    have m2 : V.cell? ⟨bm, 2, none⟩ = some (.slice (some ⟨b2, o2, none⟩) c.sz.len c.sz.cap) := by rw [← ha2]; exact hg1.box.at_ 2 _ rfl
    have p2 : V.cell? ⟨b2, o2 + q, none⟩ = some (.slice sad sln scp) := (hbel.cell (p := ⟨b2, o2 + q, none⟩) hb2).trans hc2
    have hrsV := hrs.later hbel (Nat.le_refl _)
    have hsl : sln = l.length := hrs.len
    have hsc : sln ≤ scp := hrs.cap
    have hzl : c.sz.len = ss.length := hco.szs.len
    have u0 : (0 : Int) ≤ (q : Int) := by omega
    have u1 : (q : Int) < (c.sz.len : Int) := by omega
    have u2 : q < c.sz.len := by omega
    have u3 : (0 : Int) ≤ (n : Int) := by omega
    rw [← hsl] at HR
    generalize c.sz.len = zln at *
    clear hg1 hbel hcaV hco hl ha2 hc2 hrs hzl hq
    by_cases hle : (n : Int) ≤ (sln : Int)
    · have g1 : decide ((n : Int) ≤ (sln : Int)) = true := decide_eq_true hle
      rw [g1, Bool.true_and] at HR
      have hn2 : n ≤ sln := by omega
      have u4 : (n : Int) ≤ (scp : Int) := by omega
      have HV := hide (fun (nn : Nat) => vNought_contains ⟨sad, n, scp⟩ (l.take n) (V.drewN nn) ((Vm.rn_take hrsV (by omega)).later (below_drewN (Below.refl V.heap.size V) nn) (Nat.le_refl _)))
      clear hrsV hsl
      generalize (l.take n).any Pg.notNought = RS at *
      go_upto_region 15 with fail
      go_quiet (first | (go_at_call 29; refine Calls.quiet_of_same ((unhide HV) _)))
      go_wp2_with fail
      go_ret
      exact ⟨by rw [unhide HR]; rfl, below_drewN (unhide HBV) _⟩
    · have g1 : decide ((n : Int) ≤ (sln : Int)) = false := decide_eq_false hle
      rw [g1, Bool.false_and] at HR
      clear hrsV hsl
      go_upto_region 15 with fail
      go_quiet (fail)
      go_wp2_with fail
      go_ret
      exact ⟨by rw [unhide HR]; rfl, below_drewN (unhide HBV) _⟩
theorem vcan_13 {w0 W : World} {tg : Nat → Nat} {N bm : Nat} {c : Vm.Cx} {ss : List (List Int)} {s : Xr.S} {f : Vd.F} {z : Vm.Z} {r : List Vm.X} {rf ev : Value} {li : List Kd.I} {fs : List Int} (hco : Kd.RCo w0 c.si c.sf c.sz li fs ss) (hc : Vd.Cd li fs ss) (hfo : Vd.FOk li ss f) (hro : ∀ g ∈ r.map Prod.fst, Vd.FOk li ss g) (h : Vm.J w0 W tg N bm c ss s ((f, z) :: r) rf ev) (hr : r.length ≤ 90) (a b : Int) (hin : Kd.inR li.length fs.length ⟨13, a, b⟩ = true) :
  Calls Tryz.prog 39 #[.pointer (some ⟨bm, 0, none⟩), .pointer (some ⟨z.bf, 0, none⟩), .agg #[.int .i64 13, .int .i64 a, .int .i64 b]] W fun rr W' => rr = .returned (.bool (Vd.can ss ⟨13, a, b⟩ f (r.map Prod.fst))) ∧ Below W.heap.size W W' := by
 have hb0 := (Below.refl W.heap.size W).alloc (Nat.le_refl _) (Obj.cells #[.int .i64 13, .int .i64 a, .int .i64 b] 54)
 have hbx := Vm.Bx.new (heap_alloc_new W (Obj.cells #[.int .i64 13, .int .i64 a, .int .i64 b] 54))
 have hca : Vm.Ca w0 bm c ss s f z r rf ev tg N W.heap.size ⟨13, a, b⟩ (W.alloc (Obj.cells #[.int .i64 13, .int .i64 a, .int .i64 b] 54)) := ⟨h.below hb0, hbx.at_ 0 _ rfl, hbx.at_ 1 _ rfl, hbx.at_ 2 _ rfl⟩
 obtain ⟨pa, cp, k3⟩ := hca.j.frs.1.pile
 have HCA := hide hca
 have HB0 := hide hb0
 have htop := hfo.top
 have hcan : ∀ q, Vd.can ss ⟨13, a, b⟩ f q = (!decide ((f.pile.length : Int) < Vd.takes ⟨13, a, b⟩) && Vd.can2 ss ⟨13, a, b⟩ f q) := fun q => rfl
 have HCN := hide (hcan (r.map Prod.fst))
 generalize Vd.can ss ⟨13, a, b⟩ f (r.map Prod.fst) = RES at *
 clear hbx h hcan
 go_enter Tryz.func39, Tryz.ntmps39
 go_upto_region 1 with fail
 have c0 : (W.alloc (Obj.cells #[.int .i64 13, .int .i64 a, .int .i64 b] 54)).cell? ⟨W.heap.size, 0, none⟩ = some (.int .i64 13) := hca.c0
 have c1 : (W.alloc (Obj.cells #[.int .i64 13, .int .i64 a, .int .i64 b] 54)).cell? ⟨W.heap.size, 1, none⟩ = some (.int .i64 a) := hca.c1
 have c2 : (W.alloc (Obj.cells #[.int .i64 13, .int .i64 a, .int .i64 b] 54)).cell? ⟨W.heap.size, 2, none⟩ = some (.int .i64 b) := hca.c2
 have HTK := hide (fun (V : World) => vtakes_any ⟨13, a, b⟩ (show (1 : Int) ≤ 13 ∧ (13 : Int) ≤ 14 by decide) V)
 clear hb0 hca
 generalize W.alloc (Obj.cells #[.int .i64 13, .int .i64 a, .int .i64 b] 54) = W1 at *
 have HMB := hide (show ∀ V, Below W1.heap.size W1 V → V.cell? ⟨z.bf, 3, none⟩ = some (.slice pa f.pile.length cp) ∧ V.cell? ⟨W.heap.size, 0, none⟩ = some (.int .i64 13) ∧ V.cell? ⟨W.heap.size, 1, none⟩ = some (.int .i64 a) ∧ V.cell? ⟨W.heap.size, 2, none⟩ = some (.int .i64 b) from fun V hV => ⟨(Xr.cell_kept (hV.block z.bf (World.block_lt_of_cell? W1 _ k3)) 3).trans k3, ((unhide HCA).below hV).c0, ((unhide HCA).below hV).c1, ((unhide HCA).below hV).c2⟩)
 have HM0 := hide ((unhide HMB) _ (Below.refl W1.heap.size W1).drew)
 clear k3 c0 c1 c2
 generalize hTK : Vd.takes ⟨13, a, b⟩ = TK at *
 go_cut [14] (fun v V => v = .bool (decide ((f.pile.length : Int) < TK)) ∧ Below W1.heap.size W1 V)
 case first =>
  go_region_held3 (fun V => V.cell? ⟨z.bf, 3, none⟩ = some (.slice pa f.pile.length cp) ∧ V.cell? ⟨W.heap.size, 0, none⟩ = some (.int .i64 13) ∧ V.cell? ⟨W.heap.size, 1, none⟩ = some (.int .i64 a) ∧ V.cell? ⟨W.heap.size, 2, none⟩ = some (.int .i64 b))
   (first | assumption | exact unhide HM0 | exact (unhide HMB) _ (unhide HB3))
   (first | (go_at_call 76; refine ((unhide HTK) _).mono ?_; rintro r3 w3 ⟨rfl, hb3⟩; have HB3 := hide ((Below.refl W1.heap.size W1).drew.trans hb3); clear hb3))
  all_goals
   go_wp2_with fail
   go_meet
   case rel => exact ⟨rfl, unhide HB3⟩
 case rest =>
  rename World => V
  obtain ⟨rfl, hbV⟩ := hcut
  have hcaV := (unhide HCA).below hbV
  have HBV := hide ((unhide HB0).trans (hbV.mono (unhide HB0).size))
  obtain ⟨k3, c0, c1, c2⟩ := (unhide HMB) V hbV
  clear HMB HM0 HTK HCA hbV
  by_cases hlt : (f.pile.length : Int) < TK
  · have hd : decide ((f.pile.length : Int) < TK) = true := decide_eq_true hlt
    have HR := hide (show RES = false by rw [unhide HCN, hd]; rfl)
    rw [hd]
    clear hd hlt hcaV
    go_wp2_with fail
    go_ret
    exact ⟨by rw [unhide HR]; rfl, unhide HBV⟩
  · have hd : decide ((f.pile.length : Int) < TK) = false := decide_eq_false hlt
    have HR := hide (show RES = (match r.map Prod.fst with | [] => false | g :: _ => decide (g.pile.length < 64)) by rw [unhide HCN, hd]; rfl)
    rw [hd]
    clear hd hTK HCN
    obtain ⟨g, gcp, _, hcp, m6, p0, _, _⟩ := hcaV.j.top
    cases r with
    | nil =>
     have g1 : ¬ ((([] : List Vm.X).length + 1 : Nat) : Int) > 1 := by simp
     have m6' : V.cell? ⟨bm, 6, none⟩ = some (.slice (some ⟨g, 0, none⟩) 1 gcp) := m6
     clear hcaV m6 p0 hcp
     go_upto_region 17 with fail
     go_quiet (fail)
     go_wp2_with fail
     go_ret
     exact ⟨by rw [unhide HR]; rfl, below_drewN (unhide HBV) _⟩
    | cons y r2 =>
     obtain ⟨f2, z2⟩ := y
     obtain ⟨pa2, cp2, e3⟩ := hcaV.j.frs.2.1.pile
     have hp1 : V.cell? ⟨g, r2.length, none⟩ = some (.pointer (some ⟨z2.bf, 0, none⟩)) := by
      obtain ⟨t1, hg1⟩ := hcaV.j.g
      have hfr := hg1.frr
      obtain ⟨g', gcp', hrf, _, m6', _, _, _⟩ := hcaV.j.top
      rw [m6] at m6'
      cases m6'
      rw [hrf, Vm.ps_cons, Vm.ps_cons, List.length_append, List.length_append, Vm.ps_len] at hfr
      have hfr' : V.ownsRow w0.heap.size 50 1 (.slice (some ⟨g, 0, none⟩) (r2.length + 1 + 1) gcp) (r2.length + 1 + 1) (Vm.ps r2 ++ [.pointer (some ⟨z2.bf, 0, none⟩)] ++ [.pointer (some ⟨z.bf, 0, none⟩)]) := hfr
      rw [hfr'.cellAt r2.length (by omega), List.append_assoc, List.getElem?_append_right (by rw [Vm.ps_len]; exact Nat.le_refl _), Vm.ps_len, Nat.sub_self]
      rfl
     have m6' : V.cell? ⟨bm, 6, none⟩ = some (.slice (some ⟨g, 0, none⟩) (r2.length + 2) gcp) := m6
     have hr2 : r2.length + 1 ≤ 90 := hr
     have HRR := hide (show RES = decide ((f2.pile.length : Int) < 64) by rw [unhide HR]; show decide (f2.pile.length < 64) = _; exact decide_eq_decide.2 (by omega))
     clear hcaV m6 p0 hcp HR hr
     generalize r2.length = m at *
     obtain ⟨M, hM⟩ : ∃ M, M = m + 2 := ⟨_, rfl⟩
     rw [← hM] at m6'
     have hw1 : IntKind.i64.wrap ((M : Int) - 2) = (m : Int) := by rw [IntKind.wrap_i64]; omega
     have g0 : (1 : Int) < (M : Int) := by omega
     have g0' : decide ((1 : Int) < (M : Int)) = true := decide_eq_true g0
     have g1 : (0 : Int) ≤ (m : Int) := by omega
     have g2 : (m : Int) < (M : Int) := by omega
     have g3 : m < M := by omega
     clear hM
     go_upto_region 17 with fail
     go_quiet (fail)
     go_wp2_with fail
     go_ret
     exact ⟨by rw [unhide HRR]; rfl, below_drewN (unhide HBV) _⟩
theorem vcan_14 {w0 W : World} {tg : Nat → Nat} {N bm : Nat} {c : Vm.Cx} {ss : List (List Int)} {s : Xr.S} {f : Vd.F} {z : Vm.Z} {r : List Vm.X} {rf ev : Value} {li : List Kd.I} {fs : List Int} (hco : Kd.RCo w0 c.si c.sf c.sz li fs ss) (hc : Vd.Cd li fs ss) (hfo : Vd.FOk li ss f) (hro : ∀ g ∈ r.map Prod.fst, Vd.FOk li ss g) (h : Vm.J w0 W tg N bm c ss s ((f, z) :: r) rf ev) (hr : r.length ≤ 90) (a b : Int) (hin : Kd.inR li.length fs.length ⟨14, a, b⟩ = true) :
  Calls Tryz.prog 39 #[.pointer (some ⟨bm, 0, none⟩), .pointer (some ⟨z.bf, 0, none⟩), .agg #[.int .i64 14, .int .i64 a, .int .i64 b]] W fun rr W' => rr = .returned (.bool (Vd.can ss ⟨14, a, b⟩ f (r.map Prod.fst))) ∧ Below W.heap.size W W' := by
 have hb0 := (Below.refl W.heap.size W).alloc (Nat.le_refl _) (Obj.cells #[.int .i64 14, .int .i64 a, .int .i64 b] 54)
 have hbx := Vm.Bx.new (heap_alloc_new W (Obj.cells #[.int .i64 14, .int .i64 a, .int .i64 b] 54))
 have hca : Vm.Ca w0 bm c ss s f z r rf ev tg N W.heap.size ⟨14, a, b⟩ (W.alloc (Obj.cells #[.int .i64 14, .int .i64 a, .int .i64 b] 54)) := ⟨h.below hb0, hbx.at_ 0 _ rfl, hbx.at_ 1 _ rfl, hbx.at_ 2 _ rfl⟩
 obtain ⟨pa, cp, k3⟩ := hca.j.frs.1.pile
 have HCA := hide hca
 have HB0 := hide hb0
 have htop := hfo.top
 have hcan : ∀ q, Vd.can ss ⟨14, a, b⟩ f q = (!decide ((f.pile.length : Int) < Vd.takes ⟨14, a, b⟩) && Vd.can2 ss ⟨14, a, b⟩ f q) := fun q => rfl
 have HCN := hide (hcan (r.map Prod.fst))
 generalize Vd.can ss ⟨14, a, b⟩ f (r.map Prod.fst) = RES at *
 clear hbx h hcan
 go_enter Tryz.func39, Tryz.ntmps39
 go_upto_region 1 with fail
 have c0 : (W.alloc (Obj.cells #[.int .i64 14, .int .i64 a, .int .i64 b] 54)).cell? ⟨W.heap.size, 0, none⟩ = some (.int .i64 14) := hca.c0
 have c1 : (W.alloc (Obj.cells #[.int .i64 14, .int .i64 a, .int .i64 b] 54)).cell? ⟨W.heap.size, 1, none⟩ = some (.int .i64 a) := hca.c1
 have c2 : (W.alloc (Obj.cells #[.int .i64 14, .int .i64 a, .int .i64 b] 54)).cell? ⟨W.heap.size, 2, none⟩ = some (.int .i64 b) := hca.c2
 have HTK := hide (fun (V : World) => vtakes_any ⟨14, a, b⟩ (show (1 : Int) ≤ 14 ∧ (14 : Int) ≤ 14 by decide) V)
 clear hb0 hca
 generalize W.alloc (Obj.cells #[.int .i64 14, .int .i64 a, .int .i64 b] 54) = W1 at *
 have HMB := hide (show ∀ V, Below W1.heap.size W1 V → V.cell? ⟨z.bf, 3, none⟩ = some (.slice pa f.pile.length cp) ∧ V.cell? ⟨W.heap.size, 0, none⟩ = some (.int .i64 14) ∧ V.cell? ⟨W.heap.size, 1, none⟩ = some (.int .i64 a) ∧ V.cell? ⟨W.heap.size, 2, none⟩ = some (.int .i64 b) from fun V hV => ⟨(Xr.cell_kept (hV.block z.bf (World.block_lt_of_cell? W1 _ k3)) 3).trans k3, ((unhide HCA).below hV).c0, ((unhide HCA).below hV).c1, ((unhide HCA).below hV).c2⟩)
 have HM0 := hide ((unhide HMB) _ (Below.refl W1.heap.size W1).drew)
 clear k3 c0 c1 c2
 generalize hTK : Vd.takes ⟨14, a, b⟩ = TK at *
 go_cut [14] (fun v V => v = .bool (decide ((f.pile.length : Int) < TK)) ∧ Below W1.heap.size W1 V)
 case first =>
  go_region_held3 (fun V => V.cell? ⟨z.bf, 3, none⟩ = some (.slice pa f.pile.length cp) ∧ V.cell? ⟨W.heap.size, 0, none⟩ = some (.int .i64 14) ∧ V.cell? ⟨W.heap.size, 1, none⟩ = some (.int .i64 a) ∧ V.cell? ⟨W.heap.size, 2, none⟩ = some (.int .i64 b))
   (first | assumption | exact unhide HM0 | exact (unhide HMB) _ (unhide HB3))
   (first | (go_at_call 76; refine ((unhide HTK) _).mono ?_; rintro r3 w3 ⟨rfl, hb3⟩; have HB3 := hide ((Below.refl W1.heap.size W1).drew.trans hb3); clear hb3))
  all_goals
   go_wp2_with fail
   go_meet
   case rel => exact ⟨rfl, unhide HB3⟩
 case rest =>
  rename World => V
  obtain ⟨rfl, hbV⟩ := hcut
  have hcaV := (unhide HCA).below hbV
  have HBV := hide ((unhide HB0).trans (hbV.mono (unhide HB0).size))
  obtain ⟨k3, c0, c1, c2⟩ := (unhide HMB) V hbV
  clear HMB HM0 HTK HCA hbV
  by_cases hlt : (f.pile.length : Int) < TK
  · have hd : decide ((f.pile.length : Int) < TK) = true := decide_eq_true hlt
    have HR := hide (show RES = false by rw [unhide HCN, hd]; rfl)
    rw [hd]
    clear hd hlt hcaV
    go_wp2_with fail
    go_ret
    exact ⟨by rw [unhide HR]; rfl, unhide HBV⟩
  · have hd : decide ((f.pile.length : Int) < TK) = false := decide_eq_false hlt
    have HR := hide (show RES = decide ((r.map Prod.fst).length = 0) by rw [unhide HCN, hd]; rfl)
    rw [hd]
    clear hd hTK HCN
    obtain ⟨g, gcp, _, hcp, m6, p0, _, _⟩ := hcaV.j.top
    have HRR := hide (show RES = (((r.length + 1 : Nat) : Int) == 1) by
     rw [unhide HR, List.length_map]
     by_cases h0 : r.length = 0
     · rw [decide_eq_true h0, h0]; rfl
     · rw [decide_eq_false h0]
       symm
       rw [beq_eq_false_iff_ne]
       omega)
    clear hcaV p0 hcp HR
    generalize r.length + 1 = m at *
    go_wp2_with fail
    go_ret
    exact ⟨by rw [unhide HRR]; rfl, unhide HBV⟩
theorem vcan_any {w0 W : World} {tg : Nat → Nat} {N bm : Nat} {c : Vm.Cx} {ss : List (List Int)} {s : Xr.S} {f : Vd.F} {z : Vm.Z} {r : List Vm.X} {rf ev : Value} {li : List Kd.I} {fs : List Int} (hco : Kd.RCo w0 c.si c.sf c.sz li fs ss) (hc : Vd.Cd li fs ss) (hfo : Vd.FOk li ss f) (hro : ∀ g ∈ r.map Prod.fst, Vd.FOk li ss g) (h : Vm.J w0 W tg N bm c ss s ((f, z) :: r) rf ev) (hr : r.length ≤ 90) (x : Kd.I) (hx : x ∈ li) :
  Calls Tryz.prog 39 #[.pointer (some ⟨bm, 0, none⟩), .pointer (some ⟨z.bf, 0, none⟩), .agg #[.int .i64 x.k, .int .i64 x.a, .int .i64 x.b]] W fun rr W' => rr = .returned (.bool (Vd.can ss x f (r.map Prod.fst))) ∧ Below W.heap.size W W' := by
 obtain ⟨hk, hin⟩ := hc.ins x hx
 obtain ⟨k, a, b⟩ := x
 dsimp only at hk hin ⊢
 rcases (show k = 1 ∨ k = 2 ∨ k = 3 ∨ k = 4 ∨ k = 5 ∨ k = 6 ∨ k = 7 ∨ k = 8 ∨ k = 9 ∨ k = 10 ∨ k = 11 ∨ k = 12 ∨ k = 13 ∨ k = 14 by omega) with rfl | rfl | rfl | rfl | rfl | rfl | rfl | rfl | rfl | rfl | rfl | rfl | rfl | rfl
 · exact vcan_1 hco hc hfo hro h hr a b hin
 · exact vcan_2 hco hc hfo hro h hr a b hin
 · exact vcan_3 hco hc hfo hro h hr a b hin
 · exact vcan_4 hco hc hfo hro h hr a b hin
 · exact vcan_5 hco hc hfo hro h hr a b hin
 · exact vcan_6 hco hc hfo hro h hr a b hin
 · exact vcan_7 hco hc hfo hro h hr a b hin
 · exact vcan_8 hco hc hfo hro h hr a b hin
 · exact vcan_9 hco hc hfo hro h hr a b hin
 · exact vcan_10 hco hc hfo hro h hr a b hin
 · exact vcan_11 hco hc hfo hro h hr a b hin
 · exact vcan_12 hco hc hfo hro h hr a b hin
 · exact vcan_13 hco hc hfo hro h hr a b hin
 · exact vcan_14 hco hc hfo hro h hr a b hin
end Go.Proofs.YtpfogjplnodacaaGreat
