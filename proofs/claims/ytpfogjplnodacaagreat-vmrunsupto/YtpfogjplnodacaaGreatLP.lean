/-
  VRun, VRn. By the verifier.
-/
import Derived.Test.YtpfogjplnodacaaGreatVDo
import Derived.Test.YtpfogjplnodacaaGreatLO
import Derived.BigGuardPart
set_option maxRecDepth 100000
set_option maxHeartbeats 6400000
namespace Go.Proofs.YtpfogjplnodacaaGreat
open Go.RowKit Go.Maps
set_option linter.unusedVariables false
theorem Vd.tell_fuel (s : Xr.S) (e : Ev) : (Xr.tell s e).fuel = s.fuel := by unfold Xr.tell; split <;> rfl
theorem Vd.fin_fuel (s : Xr.S) (f : Xr.F) (a h : Int) : (Xr.fin s f a h).fuel = s.fuel := Vd.tell_fuel s _
theorem Vd.par_fuel : ∀ (zs : List Int) (g : Xr.F) (a : Int) (i : Nat) (s : Xr.S), (Xr.parS g a i zs s).fuel = s.fuel
 | [], g, a, i, s => rfl
 | z :: r, g, a, i, s => (Vd.par_fuel r g a (i + 1) _).trans (Vd.tell_fuel s _)
theorem Vd.step_fuel (s : Xr.S) (f : Xr.F) (a : Int) : (Xr.stepS s f a).fuel ≤ s.fuel := by
 unfold Xr.stepS
 split
 · rw [Vd.fin_fuel]; exact Nat.le_refl _
 · rw [Vd.tell_fuel]; show s.fuel - 1 ≤ _; omega
theorem Vd.read_fuel (s : Xr.S) (f : Xr.F) (a : Int) : (Xr.readS s f a).fuel = s.fuel := (Vd.tell_fuel _ _).trans (Vd.tell_fuel _ _)
theorem Vd.does_fuel {l : List Kd.I} {fs : List Int} {ss : List (List Int)} (hc : Vd.Cd l fs ss) {x : Kd.I} (hx : x ∈ l) (s : Xr.S) (f : Vd.F) (r : List Vd.F) : (Vd.does fs ss x s f r).s.fuel ≤ s.fuel := by
 obtain ⟨hk, _⟩ := hc.ins x hx
 obtain ⟨kx, a, b⟩ := x
 dsimp only at hk
 rcases (show kx = 1 ∨ kx = 2 ∨ kx = 3 ∨ kx = 8 ∨ kx = 10 ∨ kx = 12 ∨ kx = 14 ∨ (kx = 4 ∨ kx = 5 ∨ kx = 6 ∨ kx = 7 ∨ kx = 9 ∨ kx = 11 ∨ kx = 13) by omega) with rfl | rfl | rfl | rfl | rfl | rfl | rfl | hkk
 · rw [Vd.d1]
   split
   · exact Nat.le_of_eq (Vd.fin_fuel _ _ _ _)
   · exact Vd.step_fuel _ _ _
 · rw [Vd.d2]; split <;> exact Nat.le_refl _
 · rw [Vd.d3]; split <;> exact Nat.le_refl _
 · rw [Vd.d8]
   split
   · exact Nat.le_of_eq (Vd.read_fuel _ _ _)
   · exact Nat.le_refl _
 · exact Nat.le_refl _
 · rw [Vd.d12]
   split
   · unfold Vd.call
     split
     · exact Nat.le_of_eq (Vd.fin_fuel _ _ _ _)
     · exact Nat.le_of_eq ((Vd.par_fuel _ _ _ _ _).trans (Vd.tell_fuel _ _))
   · exact Nat.le_refl _
 · rw [Vd.d14]
   split
   · exact Nat.le_of_eq (Vd.fin_fuel _ _ _ _)
   · exact Nat.le_refl _
 · cases hp : f.pile with
   | nil => rw [Vd.none hkk hp]; exact Nat.le_refl _
   | cons n q =>
    rcases (show kx = 4 ∨ kx = 6 ∨ kx = 9 ∨ kx = 11 ∨ kx = 13 ∨ (kx = 5 ∨ kx = 7) by omega) with rfl | rfl | rfl | rfl | rfl | hk2
    · rw [Vd.d4 a b hp]
      split
      · split
        · exact Nat.le_refl _
        · exact Nat.le_of_eq (Vd.fin_fuel _ _ _ _)
      · exact Nat.le_refl _
    · rw [Vd.d6 a b hp]
      split
      · exact Nat.le_of_eq (Vd.tell_fuel _ _)
      · exact Nat.le_refl _
    · rw [Vd.d9 a b hp]
      exact Nat.le_of_eq (Vd.tell_fuel _ _)
    · rw [Vd.d11 a b hp]
      exact Nat.le_refl _
    · cases r with
      | nil => rw [Vd.d13o a b hp]; exact Nat.le_refl _
      | cons g r2 =>
       rw [Vd.d13 a b hp]
       split
       · exact Nat.le_of_eq (Vd.tell_fuel _ _)
       · exact Nat.le_refl _
    · cases q with
      | nil => rw [Vd.one (z := n) hk2 hp]; exact Nat.le_refl _
      | cons i q2 =>
       rcases hk2 with rfl | rfl
       · rw [Vd.d5 a b hp]
         split
         · exact Nat.le_refl _
         · exact Nat.le_of_eq (Vd.fin_fuel _ _ _ _)
       · rw [Vd.d7 a b hp]
         split
         · split
           · exact Nat.le_of_eq (Vd.tell_fuel _ _)
           · exact Nat.le_of_eq (Vd.fin_fuel _ _ _ _)
         · exact Nat.le_refl _
def Vd.Lo (s : Xr.S) (t : Vd.St) : Prop := t = Vd.astray s ∨ t.lost = false
theorem Vd.Lo_ite {s : Xr.S} {c : Prop} [Decidable c] {a b : Vd.St} (h1 : Vd.Lo s a) (h2 : Vd.Lo s b) : Vd.Lo s (if c then a else b) := by
 split
 · exact h1
 · exact h2
theorem Vd.Lo_on {s s' : Xr.S} {gs : List Vd.F} : Vd.Lo s ⟨s', gs, false⟩ := .inr rfl
theorem Vd.Lo_over {s s' : Xr.S} : Vd.Lo s (Vd.over s') := .inr rfl
theorem Vd.Lo_no {s : Xr.S} : Vd.Lo s (Vd.astray s) := .inl rfl
theorem Vd.lost_on {fs : List Int} {ss : List (List Int)} {x : Kd.I} {s : Xr.S} {f : Vd.F} {r : List Vd.F} (hs : s.ended = false) (h : (Vd.does fs ss x s f r).lost = true) : (Vd.does fs ss x s f r).s.ended = false := by
 have key : Vd.Lo s (Vd.does fs ss x s f r) := by
  unfold Vd.does Vd.call
  dsimp only
  repeat' (first | with_reducible exact Vd.Lo_on | with_reducible exact Vd.Lo_over | with_reducible exact Vd.Lo_no | with_reducible refine Vd.Lo_ite ?_ ?_ | split)
 rcases key with e | e
 · rw [e]; exact hs
 · rw [e] at h; cases h
structure Vm.Rn (w0 : World) (bm : Nat) (c : Vm.Cx) (li : List Kd.I) (fs : List Int) (ss : List (List Int)) (FIN : Vd.St) (k : Nat) (V : World) : Prop where
 ex : ∃ (f : Vd.F) (z : Vm.Z) (r : List Vm.X) (s : Xr.S) (tg : Nat → Nat) (rf ev : Value), FIN = Vd.go li fs ss (50000 - k) ⟨s, f :: r.map Prod.fst, false⟩ ∧ Vd.Ok li ss k ⟨s, f :: r.map Prod.fst, false⟩ ∧ s.fuel ≤ 100000 ∧ Vm.J w0 V tg (3 * k) bm c ss s ((f, z) :: r) rf ev
def Vm.Fin (w0 : World) (bm : Nat) (c : Vm.Cx) (FIN : Vd.St) (W : World) : Prop := Below w0.heap.size w0 W ∧ (FIN.s.ended = true → ∃ tg ti md rf ev ps, Vm.G w0 W tg bm c ti FIN.s md rf ev ps)
theorem Vd.go_one {li : List Kd.I} {fs : List Int} {ss : List (List Int)} {k : Nat} {t : Vd.St} (hk : k < 50000) (h : (t.s.ended || t.lost) = false) : Vd.go li fs ss (50000 - k) t = Vd.go li fs ss (50000 - (k + 1)) (Vd.do1 li fs ss t) := by
 rw [show 50000 - k = (50000 - (k + 1)) + 1 by omega, Vd.go_more h]
theorem Vm.Rn.next {w0 : World} {bm : Nat} {c : Vm.Cx} {li : List Kd.I} {fs : List Int} {ss : List (List Int)} {FIN : Vd.St} {k : Nat} {s : Xr.S} {f : Vd.F} {rs : List Vd.F} {x : Kd.I} {W : World} (hc : Vd.Cd li fs ss) (hk : k < 50000) (hfin : FIN = Vd.go li fs ss (50000 - k) ⟨s, f :: rs, false⟩) (hok : Vd.Ok li ss k ⟨s, f :: rs, false⟩) (hfu : s.fuel ≤ 100000) (hx : li[f.pc]? = some x) (hcan : Vd.can ss x { f with pc := f.pc + 1 } rs = true) (hq : Vm.Q w0 bm c ss (3 * k + 3) (Vd.does fs ss x s { f with pc := f.pc + 1 } rs) W) :
  ((Vd.does fs ss x s { f with pc := f.pc + 1 } rs).s.ended = true ∧ FIN.s.ended = true ∧ ∃ tg ti md rf ev ps, Vm.G w0 W tg bm c ti FIN.s md rf ev ps) ∨ ((Vd.does fs ss x s { f with pc := f.pc + 1 } rs).s.ended = false ∧ Vm.Rn w0 bm c li fs ss FIN (k + 1) W) := by
 have hxm := List.mem_of_getElem? hx
 have hdo : Vd.do1 li fs ss ⟨s, f :: rs, false⟩ = Vd.does fs ss x s { f with pc := f.pc + 1 } rs := by
  unfold Vd.do1
  dsimp only
  rw [hx]
 have hgo : FIN = Vd.go li fs ss (50000 - (k + 1)) (Vd.does fs ss x s { f with pc := f.pc + 1 } rs) := by
  rw [hfin, Vd.go_one hk (by show (s.ended || false) = false; rw [hok.s.go]; rfl), hdo]
 have hlost : (Vd.does fs ss x s { f with pc := f.pc + 1 } rs).lost = false := by
  obtain ⟨h1, h2⟩ := hc.ins x hxm
  rw [Vd.lost_iff h1 (fun e => by unfold Kd.inR at h2; rw [e] at h2; simp at h2; exact h2.2.1), hcan]
  rfl
 have hnx := (Vd.do_ok hc hok).2
 rw [hdo] at hnx
 rcases hq with ⟨h1, h2⟩ | ⟨h1, tg, ms, rf, ev, h2, h3⟩
 · have he : FIN = Vd.does fs ss x s { f with pc := f.pc + 1 } rs := by rw [hgo, Vd.go_stop (by rw [h1]; rfl)]
   exact .inl ⟨h1, by rw [he]; exact h1, by rw [he]; exact h2⟩
 · right
   refine ⟨h1, ?_⟩
   rcases hnx with h | ⟨h, _⟩ | h
   · rw [hlost] at h; cases h
   · rw [h1] at h; cases h
   · have hfl := Vd.does_fuel hc hxm s { f with pc := f.pc + 1 } rs
     generalize Vd.does fs ss x s { f with pc := f.pc + 1 } rs = T at *
     obtain ⟨s', gs, lo⟩ := T
     dsimp only at *
     subst hlost
     cases ms with
     | nil =>
      have := h.few.1
      rw [← h3] at this
      simp at this
     | cons y r =>
      obtain ⟨f', z'⟩ := y
      rw [List.map_cons] at h3
      subst h3
      exact ⟨f', z', r, s', tg, rf, ev, hgo, h, by omega, by rw [show 3 * (k + 1) = 3 * k + 3 by omega]; exact h2⟩
theorem Vm.Rn_lost {li : List Kd.I} {fs : List Int} {ss : List (List Int)} {FIN : Vd.St} {k : Nat} {s : Xr.S} {f : Vd.F} {rs : List Vd.F} (hc : Vd.Cd li fs ss) (hk : k < 50000) (hfin : FIN = Vd.go li fs ss (50000 - k) ⟨s, f :: rs, false⟩) (hok : Vd.Ok li ss k ⟨s, f :: rs, false⟩) (h : li[f.pc]? = none ∨ ∃ x, li[f.pc]? = some x ∧ Vd.can ss x { f with pc := f.pc + 1 } rs = false) : FIN.s.ended = false := by
 have hon : ((⟨s, f :: rs, false⟩ : Vd.St).s.ended || (⟨s, f :: rs, false⟩ : Vd.St).lost) = false := by show (s.ended || false) = false; rw [hok.s.go]; rfl
 rw [hfin, Vd.go_one hk hon]
 have key : (Vd.do1 li fs ss ⟨s, f :: rs, false⟩).lost = true ∧ (Vd.do1 li fs ss ⟨s, f :: rs, false⟩).s.ended = false := by
  unfold Vd.do1
  dsimp only
  rcases h with h | ⟨x, hx, hcan⟩
  · rw [h]
    exact ⟨rfl, hok.s.go⟩
  · rw [hx]
    have hxm := List.mem_of_getElem? hx
    obtain ⟨h1, h2⟩ := hc.ins x hxm
    have hl := Vd.lost_iff (fs := fs) (ss := ss) (s := s) (f := { f with pc := f.pc + 1 }) (r := rs) h1 (fun e => by unfold Kd.inR at h2; rw [e] at h2; simp at h2; exact h2.2.1)
    rw [hcan] at hl
    refine ⟨hl, ?_⟩
    exact Vd.lost_on hok.s.go hl
 rw [Vd.go_stop (by rw [key.1]; simp)]
 exact key.2
end Go.Proofs.YtpfogjplnodacaaGreat
namespace Go.Proofs.YtpfogjplnodacaaGreat
open Go.RowKit Go.Maps
set_option linter.unusedVariables false
theorem vrun_any {w0 W : World} {bm : Nat} {c : Vm.Cx} {li : List Kd.I} {fs : List Int} {ss : List (List Int)} {FIN : Vd.St} (hco : Kd.RCo w0 c.si c.sf c.sz li fs ss) (hc : Vd.Cd li fs ss) (h : Vm.Rn w0 bm c li fs ss FIN 0 W) :
  Calls Tryz.prog 18 #[.pointer (some ⟨bm, 0, none⟩)] W fun rr W' => rr = .returned (.bool FIN.s.ended) ∧ Vm.Fin w0 bm c FIN W' := by
 have hli : c.si.len = li.length := hco.ins.len
 have hli3 := hc.few
 have HCO := hide hco
 have HC := hide hc
 obtain ⟨RES, hRES⟩ : ∃ RES, RES = FIN.s.ended := ⟨_, rfl⟩
 rw [← hRES]
 have HRES := hide hRES
 clear hRES hco hc
 go_enter Tryz.func18, Tryz.ntmps18
 go_wp2_with fail
 go_loopw [4] (fun i V => ∃ k : Nat, k ≤ 50000 ∧ i = .int .i64 (k : Nat) ∧ Vm.Rn w0 bm c li fs ss FIN k V) (fun i _ => 50000 - (intOf i).toNat)
 case atStart => exact ⟨0, Nat.zero_le _, rfl, h⟩
 case round =>
  rename World => V
  obtain ⟨k, hk, rfl, hrn⟩ := hrel
  clear h
  by_cases hlt : k < 50000
  · obtain ⟨f, z, r, s, tg, rf, ev, hfin, hok, hfu, hJ⟩ := hrn.ex
    have hr : r.length ≤ 5 := by have := hok.few.2; simp at this; omega
    have g0 : (k : Int) < 50000 := by omega
    have HF := hide (vframe_any hJ (by omega))
    have HJ := hide hJ
    have HFIN := hide hfin
    have HOK := hide hok
    clear hfin hok hJ hrn
    go_wp2_with fail
    refine (unhide HF).mono ?_
    rintro r1 w1 ⟨rfl, nq, rfl⟩
    have hJ1 := (unhide HJ).below (below_drewN (Below.refl V.heap.size V) nq)
    generalize V.drewN nq = W1 at *
    obtain ⟨t1, hg1⟩ := hJ1.g
    have m0 := hg1.box.at_ 0 _ rfl
    have n2 := hJ1.frs.1.box.at_ 2 _ rfl
    have hbel1 := hJ1.bel
    have HJ1 := hide hJ1
    have hfo := (unhide HOK).all f List.mem_cons_self
    have hpcl := hfo.pc
    by_cases hpc : f.pc < li.length
    · obtain ⟨x, hx⟩ : ∃ x, li[f.pc]? = some x := ⟨_, List.getElem?_eq_getElem hpc⟩
      have hxm := List.mem_of_getElem? hx
      obtain ⟨b, o, had, hbl, i0, i1, i2⟩ := (unhide HCO).ins.at_ f.pc x hx
      have m0' : W1.cell? ⟨bm, 0, none⟩ = some (.slice (some ⟨b, o, none⟩) li.length c.si.cap) := by rw [← had, ← hli]; exact m0
      have p0 := (hbel1.cell (p := ⟨b, o + f.pc * 3, none⟩) hbl).trans i0
      have p1 := (hbel1.cell (p := ⟨b, o + f.pc * 3 + 1, none⟩) hbl).trans i1
      have p2 := (hbel1.cell (p := ⟨b, o + f.pc * 3 + 2, none⟩) hbl).trans i2
      have hbl1 : b < W1.heap.size := by have := hbel1.size; omega
      have HMB := hide (show ∀ V, Below W1.heap.size W1 V → V.cell? ⟨z.bf, 2, none⟩ = some (.int .i64 (f.pc : Nat)) ∧ V.cell? ⟨bm, 0, none⟩ = some (.slice (some ⟨b, o, none⟩) li.length c.si.cap) ∧ V.cell? ⟨b, o + f.pc * 3, none⟩ = some (.int .i64 x.k) ∧ V.cell? ⟨b, o + f.pc * 3 + 1, none⟩ = some (.int .i64 x.a) ∧ V.cell? ⟨b, o + f.pc * 3 + 2, none⟩ = some (.int .i64 x.b) from fun V hV => ⟨(Xr.cell_kept (hV.block z.bf hJ1.frs.1.box.lt) 2).trans n2, (Xr.cell_kept (hV.block bm hg1.box.lt) 0).trans m0', (Xr.cell_kept (hV.block b hbl1) _).trans p0, (Xr.cell_kept (hV.block b hbl1) _).trans p1, (Xr.cell_kept (hV.block b hbl1) _).trans p2⟩)
      have HM0 := hide ((unhide HMB) _ (Below.refl W1.heap.size W1).drew)
      have HCD := hide (fun (V : World) (hV : Below W1.heap.size W1 V) => vcan_any (unhide HCO) (unhide HC) hfo (fun g hg => (unhide HOK).all g (List.mem_cons_of_mem _ hg)) (hJ1.below hV) (show r.length ≤ 90 by omega) x hxm)
      obtain ⟨CAN, hCAN⟩ : ∃ CAN, CAN = Vd.can ss x f (r.map Prod.fst) := ⟨_, rfl⟩
      rw [← hCAN] at HCD
      have g1 : ((f.pc : Int) == (li.length : Int)) = false := by rw [beq_eq_false_iff_ne]; omega
      have g2 : (0 : Int) ≤ (f.pc : Int) := by omega
      have g3 : (f.pc : Int) < (li.length : Int) := by omega
      have g4 : ¬ (f.pc : Int) = (li.length : Int) := by omega
      have HX := hide hx
      have HXM := hide hxm
      have HCN := hide hCAN
      obtain ⟨NC, hNC⟩ : ∃ NC, NC = !CAN := ⟨_, rfl⟩
      have HNC := hide hNC
      clear hNC
      clear m0 m0' n2 p0 p1 p2 i0 i1 i2 hg1 hJ1 had hx hxm hCAN hbel1
      go_upto_region 4 with fail
      go_cut [35] (fun v V => v = .bool NC ∧ Below W1.heap.size W1 V)
      case first =>
       go_region_held3 (fun V => V.cell? ⟨z.bf, 2, none⟩ = some (.int .i64 (f.pc : Nat)) ∧ V.cell? ⟨bm, 0, none⟩ = some (.slice (some ⟨b, o, none⟩) li.length c.si.cap) ∧ V.cell? ⟨b, o + f.pc * 3, none⟩ = some (.int .i64 x.k) ∧ V.cell? ⟨b, o + f.pc * 3 + 1, none⟩ = some (.int .i64 x.a) ∧ V.cell? ⟨b, o + f.pc * 3 + 2, none⟩ = some (.int .i64 x.b))
        (first | assumption | exact unhide HM0 | exact (unhide HMB) _ (unhide HB3))
        (first | (go_at_call 39; refine ((unhide HCD) _ ?_).mono ?_; exact (Below.refl _ _).drew; rintro r3 w3 ⟨rfl, hb3⟩; have HB3 := hide ((Below.refl W1.heap.size W1).drew.trans hb3); clear hb3))
       all_goals
        go_wp2_with fail
        go_meet
        case rel => exact ⟨by rw [unhide HNC], unhide HB3⟩
      case rest =>
       rename World => W4
       obtain ⟨rfl, hb4⟩ := hcut
       have hJ4 := (unhide HJ1).below hb4
       obtain ⟨n2, m0, p0, p1, p2⟩ := (unhide HMB) _ hb4
       have HB4 := hide hJ4.bel
       clear HMB HM0 HCD hb4
       cases hnn : NC with
       | true =>
        have hcn : CAN = false := by
         have := (unhide HNC).symm.trans hnn
         cases CAN with
         | true => cases this
         | false => rfl
        clear hnn
        have HEND := hide (show RES = false by
         rw [unhide HRES]
         exact Vm.Rn_lost (unhide HC) hlt (unhide HFIN) (unhide HOK) (.inr ⟨x, unhide HX, (unhide HCN).symm.trans hcn⟩))
        have HEN2 := hide (show FIN.s.ended = false by rw [← unhide HRES]; exact unhide HEND)
        clear hcn hJ4 m0 n2 p0 p1 p2
        go_wp2_with fail
        go_ret
        exact ⟨by rw [unhide HEND]; rfl, unhide HB4, fun e => by rw [unhide HEN2] at e; cases e⟩
       | false =>
        have hcn : CAN = true := by
         have := (unhide HNC).symm.trans hnn
         cases CAN with
         | true => rfl
         | false => cases this
        clear hnn
        have hF5 := hJ4.frs.1.set 2 (.int .i64 ((f.pc + 1 : Nat) : Int)) (f' := { f with pc := f.pc + 1 }) (z' := z) rfl rfl rfl rfl rfl rfl
        have hJ5 := hJ4.frame hF5.1 rfl (Nat.le_refl _) hF5.2
        have y2 := hJ4.frs.1.box.fz 2
        have e2 := hJ5.frs.1.box.at_ 2 _ rfl
        obtain ⟨t5, hg5⟩ := hJ5.g
        have hbz : b ≠ z.bf := by
         have h1 : w0.heap.size ≤ z.bf := hJ4.frs.1.hb
         omega
        have hbmz : bm ≠ z.bf := by
         intro e
         have h1 := hg5.tb
         have h2 := hJ5.frs.1.tb
         rw [e] at h1
         rw [h1] at h2
         omega
        have q0 := (Xr.cell_kept (Xr.set_other (W := W4) (o := 2) (v := .int .i64 ((f.pc + 1 : Nat) : Int)) hbz) (o + f.pc * 3)).trans p0
        have q1 := (Xr.cell_kept (Xr.set_other (W := W4) (o := 2) (v := .int .i64 ((f.pc + 1 : Nat) : Int)) hbz) (o + f.pc * 3 + 1)).trans p1
        have q2 := (Xr.cell_kept (Xr.set_other (W := W4) (o := 2) (v := .int .i64 ((f.pc + 1 : Nat) : Int)) hbz) (o + f.pc * 3 + 2)).trans p2
        have l0 := (Xr.cell_kept (Xr.set_other (W := W4) (o := 2) (v := .int .i64 ((f.pc + 1 : Nat) : Int)) hbmz) 0).trans m0
        have hsok := (unhide HOK).s
        have hcan' : Vd.can ss x { f with pc := f.pc + 1 } (r.map Prod.fst) = true := (unhide HCN).symm.trans hcn
        have hfo' : Vd.FOk li ss { f with pc := f.pc + 1 } := hfo.to (by omega)
        have HDO := hide (fun (V : World) (hV : Below (W4.setCell ⟨z.bf, 2, none⟩ (.int .i64 ((f.pc + 1 : Nat) : Int))).heap.size (W4.setCell ⟨z.bf, 2, none⟩ (.int .i64 ((f.pc + 1 : Nat) : Int))) V) => vdo_any (unhide HCO) (unhide HC) hfo' (fun g hg => (unhide HOK).all g (List.mem_cons_of_mem _ hg)) (hJ5.below hV) hsok.go (by have : s.evs.length ≤ 4 * k := hsok.evs; omega) (by omega) (by have : s.made ≤ k := hsok.made; omega) hfu hr x (unhide HXM) hcan')
        have HNX := hide (fun (V : World) (hq : Vm.Q w0 bm c ss (3 * k + 3) (Vd.does fs ss x s { f with pc := f.pc + 1 } (r.map Prod.fst)) V) => Vm.Rn.next (unhide HC) hlt (unhide HFIN) (unhide HOK) hfu (unhide HX) hcan' hq)
        have hw1 : IntKind.i64.wrap ((f.pc : Int) + 1) = (f.pc : Int) + 1 := by rw [IntKind.wrap_i64]; omega
        have hw2 : IntKind.i64.wrap (f.pc : Int) = (f.pc : Int) := by rw [IntKind.wrap_i64]; omega
        have HS5 := hide (show W4.setCell ⟨z.bf, 2, none⟩ (.int .i64 ((f.pc : Int) + 1)) = W4.setCell ⟨z.bf, 2, none⟩ (.int .i64 ((f.pc + 1 : Nat) : Int)) from rfl)
        have HQE := hide (fun (V : World) (hq : Vm.Q w0 bm c ss (3 * k + 3) (Vd.does fs ss x s { f with pc := f.pc + 1 } (r.map Prod.fst)) V) => show V.cell? ⟨bm, 8, none⟩ = some (.bool (Vd.does fs ss x s { f with pc := f.pc + 1 } (r.map Prod.fst)).s.ended) by
         rcases hq with ⟨_, _, _, _, _, _, _, hg⟩ | ⟨_, _, _, _, _, hj, _⟩
         · exact hg.box.at_ 8 _ rfl
         · obtain ⟨_, hg⟩ := hj.g
           exact hg.box.at_ 8 _ rfl)
        generalize Vd.does fs ss x s { f with pc := f.pc + 1 } (r.map Prod.fst) = DN at *
        clear hF5 hJ5 hg5 hJ4 p0 p1 p2 m0 hsok hcan' hfo' hcn
        go_upto_region 7 with fail
        rw [unhide HS5]
        clear n2 y2 HS5
        generalize W4.setCell ⟨z.bf, 2, none⟩ (.int .i64 ((f.pc + 1 : Nat) : Int)) = W5 at *
        go_cut [] (fun V => Vm.Q w0 bm c ss (3 * k + 3) DN V)
        case first =>
         go_region_with (first | (go_at_call 40; refine ((unhide HDO) _ ?_).mono ?_; exact (Below.refl _ _).drew; rintro r6 w6 ⟨rfl, hq6⟩; have HQ6 := hide hq6; clear hq6))
         all_goals
          go_wp2_with fail
          go_meet
          case rel => exact unhide HQ6
        case rest =>
         rename World => W6
         have d8 := (unhide HQE) _ hcut
         have hnx := (unhide HNX) _ hcut
         clear hcut e2 q0 q1 q2 l0 HDO HNX HQE
         rcases hnx with ⟨h1, h2, h3⟩ | ⟨h1, h2⟩
         · rw [h1] at d8
           have HEND := hide (show RES = true by rw [unhide HRES]; exact h2)
           have HG := hide h3
           have hbel6 : Below w0.heap.size w0 W6 := by
            obtain ⟨_, _, _, _, _, _, hg⟩ := h3
            exact hg.bel
           have HB6 := hide hbel6
           clear h1 h2 h3 hbel6
           go_wp2_with fail
           go_ret
           exact ⟨by rw [unhide HEND]; rfl, unhide HB6, fun _ => unhide HG⟩
         · rw [h1] at d8
           have HR := hide h2
           clear h1 h2
           go_wp2_with fail
           exact ⟨⟨k + 1, by omega, by go_num, unhide HR⟩, by simp [intOf]; omega⟩
    · have hpe : f.pc = li.length := by omega
      have HEND := hide (show RES = false by
       rw [unhide HRES]
       exact Vm.Rn_lost (unhide HC) hlt (unhide HFIN) (unhide HOK) (.inl (List.getElem?_eq_none_iff.2 (by omega))))
      have HEN2 := hide (show FIN.s.ended = false by rw [← unhide HRES]; exact unhide HEND)
      have HB4 := hide hbel1
      have m0' : W1.cell? ⟨bm, 0, none⟩ = some (.slice c.si.ad li.length c.si.cap) := by rw [← hli]; exact m0
      have n2' : W1.cell? ⟨z.bf, 2, none⟩ = some (.int .i64 (li.length : Nat)) := by rw [← hpe]; exact n2
      have g1 : ((li.length : Int) == (li.length : Int)) = true := by simp
      clear m0 n2 hg1 hJ1 hbel1 hpe hpc hpcl
      go_upto_region 4 with fail
      go_quiet (fail)
      go_wp2_with fail
      go_ret
      exact ⟨by rw [unhide HEND]; rfl, below_drewN (unhide HB4) _, fun e => by rw [unhide HEN2] at e; cases e⟩
  · have hke : k = 50000 := by omega
    subst hke
    obtain ⟨f, z, r, s, tg, rf, ev, hfin, hok, hfu, hJ⟩ := hrn.ex
    have HEN2 := hide (show FIN.s.ended = false by rw [hfin]; exact hok.s.go)
    have HEND := hide (show RES = false by rw [unhide HRES]; exact unhide HEN2)
    have HB4 := hide hJ.bel
    clear hfin hok hJ hrn
    go_wp2_with fail
    go_ret
    exact ⟨by rw [unhide HEND]; rfl, unhide HB4, fun e => by rw [unhide HEN2] at e; cases e⟩
end Go.Proofs.YtpfogjplnodacaaGreat
