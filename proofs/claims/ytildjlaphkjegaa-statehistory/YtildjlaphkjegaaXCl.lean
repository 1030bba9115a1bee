/-
  Several texts in one: XSpan, XSpans, XCalls. By the verifier.
-/
import Derived.Test.YtildjlaphkjegaaXEnds
import Derived.Test.YtildjlaphkjegaaXAtF
namespace Go.Proofs.Ytildjlaphkjegaa
open Go.RowKit Go.Maps
set_option linter.unusedVariables false

/-- A span as plain data. -/
structure Xr.Sp where
  frame : Int
  fn : Int
  by_ : Int
  from_ : Int
  to_ : Int
  ans : Int
def Xr.Sp.cl (s : Xr.Sp) : List Value := [.int .i64 s.frame, .int .i64 s.fn, .int .i64 s.by_, .int .i64 s.from_, .int .i64 s.to_, .int .i64 s.ans]
/-- With its end, if it has one. -/
def Xr.spOf (g : Int → Option (Int × Int)) (frame fn by_ from_ : Int) : Xr.Sp := ⟨frame, fn, by_, from_, match g frame with | none => -1 | some p => p.1, match g frame with | none => 0 | some p => p.2⟩

theorem Xr.set_cell {W : World} {b j : Nat} {u v : Value} (h : W.cell? ⟨b, j, none⟩ = some v) : (W.setCell ⟨b, j, none⟩ u).cell? ⟨b, j, none⟩ = some u := World.cell?_setCell_same _ _ _ h
theorem Xr.set_cell_ne {W : World} {b j k : Nat} {u : Value} (h : j ≠ k) : (W.setCell ⟨b, j, none⟩ u).cell? ⟨b, k, none⟩ = W.cell? ⟨b, k, none⟩ := World.cell?_setCell_other _ _ _ _ (fun hh => h (congrArg Addr.off hh))
theorem Xr.ret6 {W : World} {b : Nat} (h : ∀ j, j < 6 → ∃ v, W.cell? ⟨b, j, none⟩ = some v) (u0 u1 u2 u3 u4 u5 : Value) :
    let S := (((((W.setCell ⟨b, 0, none⟩ u0).setCell ⟨b, 1, none⟩ u1).setCell ⟨b, 2, none⟩ u2).setCell ⟨b, 3, none⟩ u3).setCell ⟨b, 4, none⟩ u4).setCell ⟨b, 5, none⟩ u5
    (S.cell? ⟨b, 0, none⟩ = some u0 ∧ S.cell? ⟨b, 1, none⟩ = some u1 ∧ S.cell? ⟨b, 2, none⟩ = some u2 ∧ S.cell? ⟨b, 3, none⟩ = some u3 ∧ S.cell? ⟨b, 4, none⟩ = some u4 ∧ S.cell? ⟨b, 5, none⟩ = some u5) ∧ ∀ B, B ≤ b → Below B W S := by
  obtain ⟨v0, h0⟩ := h 0 (by omega)
  obtain ⟨v1, h1⟩ := h 1 (by omega)
  obtain ⟨v2, h2⟩ := h 2 (by omega)
  obtain ⟨v3, h3⟩ := h 3 (by omega)
  obtain ⟨v4, h4⟩ := h 4 (by omega)
  obtain ⟨v5, h5⟩ := h 5 (by omega)
  refine ⟨⟨?_, ?_, ?_, ?_, ?_, ?_⟩, fun B hB => ((((((Below.refl B W).setCell (p := ⟨b, 0, none⟩) hB _).setCell (p := ⟨b, 1, none⟩) hB _).setCell (p := ⟨b, 2, none⟩) hB _).setCell (p := ⟨b, 3, none⟩) hB _).setCell (p := ⟨b, 4, none⟩) hB _).setCell (p := ⟨b, 5, none⟩) hB _⟩
  · rw [Xr.set_cell_ne (by omega), Xr.set_cell_ne (by omega), Xr.set_cell_ne (by omega), Xr.set_cell_ne (by omega), Xr.set_cell_ne (by omega)]
    exact Xr.set_cell h0
  · rw [Xr.set_cell_ne (by omega), Xr.set_cell_ne (by omega), Xr.set_cell_ne (by omega), Xr.set_cell_ne (by omega)]
    exact Xr.set_cell (v := v1) (by rw [Xr.set_cell_ne (by omega)]; exact h1)
  · rw [Xr.set_cell_ne (by omega), Xr.set_cell_ne (by omega), Xr.set_cell_ne (by omega)]
    exact Xr.set_cell (v := v2) (by rw [Xr.set_cell_ne (by omega), Xr.set_cell_ne (by omega)]; exact h2)
  · rw [Xr.set_cell_ne (by omega), Xr.set_cell_ne (by omega)]
    exact Xr.set_cell (v := v3) (by rw [Xr.set_cell_ne (by omega), Xr.set_cell_ne (by omega), Xr.set_cell_ne (by omega)]; exact h3)
  · rw [Xr.set_cell_ne (by omega)]
    exact Xr.set_cell (v := v4) (by rw [Xr.set_cell_ne (by omega), Xr.set_cell_ne (by omega), Xr.set_cell_ne (by omega), Xr.set_cell_ne (by omega)]; exact h4)
  · exact Xr.set_cell (v := v5) (by rw [Xr.set_cell_ne (by omega), Xr.set_cell_ne (by omega), Xr.set_cell_ne (by omega), Xr.set_cell_ne (by omega), Xr.set_cell_ne (by omega)]; exact h5)

/-- The boxes of span. -/
structure Xr.B6 (b : Nat) (frame fn by_ from_ tt aa : Int) (w V : World) : Prop where
  c0 : V.cell? ⟨b, 0, none⟩ = some (.int .i64 frame)
  c1 : V.cell? ⟨b, 1, none⟩ = some (.int .i64 fn)
  c2 : V.cell? ⟨b, 2, none⟩ = some (.int .i64 by_)
  c3 : V.cell? ⟨b, 3, none⟩ = some (.int .i64 from_)
  c4 : V.cell? ⟨b, 4, none⟩ = some (.int .i64 tt)
  c5 : V.cell? ⟨b, 5, none⟩ = some (.int .i64 aa)
  fz : ∀ j, V.frozen? ⟨b, j, none⟩ = false
  r : ∀ j, j < 6 → ∃ v, V.cell? ⟨b + 1, j, none⟩ = some v
  rz : ∀ j, V.frozen? ⟨b + 1, j, none⟩ = false
  size : b + 2 ≤ V.heap.size
  bel : Below w.heap.size w V

theorem Xr.B6.below {b : Nat} {frame fn by_ from_ tt aa : Int} {w V V' : World} (h : Xr.B6 b frame fn by_ from_ tt aa w V) (hb : Below V.heap.size V V') : Xr.B6 b frame fn by_ from_ tt aa w V' := by
  have hz := hb.size
  have hs := h.size
  have c : ∀ j, V'.cell? ⟨b, j, none⟩ = V.cell? ⟨b, j, none⟩ := fun j => hb.cell (p := ⟨b, j, none⟩) (by show b < _; omega)
  have d : ∀ j, V'.cell? ⟨b + 1, j, none⟩ = V.cell? ⟨b + 1, j, none⟩ := fun j => hb.cell (p := ⟨b + 1, j, none⟩) (by show b + 1 < _; omega)
  have e : ∀ j, V'.frozen? ⟨b, j, none⟩ = V.frozen? ⟨b, j, none⟩ := fun j => hb.frozen (p := ⟨b, j, none⟩) (by show b < _; omega)
  have f : ∀ j, V'.frozen? ⟨b + 1, j, none⟩ = V.frozen? ⟨b + 1, j, none⟩ := fun j => hb.frozen (p := ⟨b + 1, j, none⟩) (by show b + 1 < _; omega)
  have hw := h.bel.size
  exact ⟨(c 0).trans h.c0, (c 1).trans h.c1, (c 2).trans h.c2, (c 3).trans h.c3, (c 4).trans h.c4, (c 5).trans h.c5, fun j => (e j).trans (h.fz j), fun j hj => by obtain ⟨v, hv⟩ := h.r j hj; exact ⟨v, (d j).trans hv⟩, fun j => (f j).trans (h.rz j), by omega, h.bel.trans (hb.mono hw)⟩
theorem Xr.B6.set {b : Nat} {frame fn by_ from_ tt aa : Int} {w V : World} (h : Xr.B6 b frame fn by_ from_ tt aa w V) (hw : w.heap.size ≤ b) (q1 q2 : Int) : Xr.B6 b frame fn by_ from_ q1 q2 w ((V.setCell ⟨b, 4, none⟩ (.int .i64 q1)).setCell ⟨b, 5, none⟩ (.int .i64 q2)) := by
  have o : ∀ j, j ≠ 4 → j ≠ 5 → ((V.setCell ⟨b, 4, none⟩ (.int .i64 q1)).setCell ⟨b, 5, none⟩ (.int .i64 q2)).cell? ⟨b, j, none⟩ = V.cell? ⟨b, j, none⟩ := fun j h4 h5 => by rw [Xr.set_cell_ne (Ne.symm h5), Xr.set_cell_ne (Ne.symm h4)]
  have k : ((V.setCell ⟨b, 4, none⟩ (.int .i64 q1)).setCell ⟨b, 5, none⟩ (.int .i64 q2)).heap[b + 1]? = V.heap[b + 1]? := (Xr.set_other (by omega)).trans (Xr.set_other (by omega))
  exact ⟨(o 0 (by omega) (by omega)).trans h.c0, (o 1 (by omega) (by omega)).trans h.c1, (o 2 (by omega) (by omega)).trans h.c2, (o 3 (by omega) (by omega)).trans h.c3, by rw [Xr.set_cell_ne (by omega)]; exact Xr.set_cell h.c4, Xr.set_cell (v := .int .i64 aa) (by rw [Xr.set_cell_ne (by omega)]; exact h.c5), fun j => by rw [World.frozen?_setCell, World.frozen?_setCell]; exact h.fz j, fun j hj => by obtain ⟨v, hv⟩ := h.r j hj; exact ⟨v, (Xr.cell_kept k j).trans hv⟩, fun j => (Xr.frz_kept k j).trans (h.rz j), by rw [World.size_setCell, World.size_setCell]; exact h.size, (h.bel.setCell (p := ⟨b, 4, none⟩) hw _).setCell (p := ⟨b, 5, none⟩) hw _⟩

set_option maxRecDepth 100000 in
set_option maxHeartbeats 1600000 in
theorem span_any (b n : Nat) (g : Int → Option (Int × Int)) (frame fn by_ from_ : Int) (w : World) (hem : Xr.EM w b n g) (hf : (Lit.int .i64 frame).wf = true) :
    Calls Try.prog 57 #[.map (some b), .agg #[.int .i64 frame, .int .i64 fn, .int .i64 by_, .int .i64 from_, .int .i64 0, .int .i64 0]] w fun r w' => r = .returned (.agg #[.int .i64 frame, .int .i64 fn, .int .i64 by_, .int .i64 from_, .int .i64 (Xr.spOf g frame fn by_ from_).to_, .int .i64 (Xr.spOf g frame fn by_ from_).ans]) ∧ Below w.heap.size w w' := by
  have HEM := hide hem
  have hlt := hem.lt
  have HTO := hide (show (Xr.spOf g frame fn by_ from_).to_ = match g frame with | none => -1 | some p => p.1 from rfl)
  have HAN := hide (show (Xr.spOf g frame fn by_ from_).ans = match g frame with | none => 0 | some p => p.2 from rfl)
  generalize (Xr.spOf g frame fn by_ from_).to_ = TO at *
  generalize (Xr.spOf g frame fn by_ from_).ans = AN at *
  clear hem
  go_enter Try.func57, Try.ntmps57
  go_upto_region 1 with fail
  go_cut [] (fun V => Xr.B6 w.heap.size frame fn by_ from_ (-1) 0 w V)
  case first =>
    go_wp2_with fail
    go_meet
    case rel => exact ⟨by go_simp, by go_simp, by go_simp, by go_simp, by go_simp, by go_simp, fun j => by go_simp, fun j hj => by
      match j, hj with
      | 0, _ => exact ⟨.int .i64 0, by go_simp⟩
      | 1, _ => exact ⟨.int .i64 0, by go_simp⟩
      | 2, _ => exact ⟨.int .i64 0, by go_simp⟩
      | 3, _ => exact ⟨.int .i64 0, by go_simp⟩
      | 4, _ => exact ⟨.int .i64 0, by go_simp⟩
      | 5, _ => exact ⟨.int .i64 0, by go_simp⟩
      | _ + 6, hj => omega, fun j => by go_simp, by simp, ((Below.refl _ _).alloc (Nat.le_refl _) _).alloc (by simp) _⟩
  case rest =>
    rename World => V
    have HB6 := hide hcut
    obtain ⟨c0, c1, c2, c3, c4, c5, fz, r, rz, size, bel⟩ := hcut
    have hlk := ((unhide HEM).kept (bel.block b hlt)).look frame hf
    generalize hbs : w.heap.size = bs at *
    have f4 := fz 4
    have f5 := fz 5
    have z0 := rz 0
    have z1 := rz 1
    have z2 := rz 2
    have z3 := rz 3
    have z4 := rz 4
    have z5 := rz 5
    obtain ⟨v0, r0⟩ := r 0 (by omega)
    obtain ⟨v1, r1⟩ := r 1 (by omega)
    obtain ⟨v2, r2⟩ := r 2 (by omega)
    obtain ⟨v3, r3⟩ := r 3 (by omega)
    obtain ⟨v4, r4⟩ := r 4 (by omega)
    obtain ⟨v5, r5⟩ := r 5 (by omega)
    have hs1 : bs < V.heap.size := by omega
    have hs2 : bs + 1 < V.heap.size := by omega
    have a0 := fun (o : Obj) => (((Below.refl V.heap.size V).alloc (Nat.le_refl _) o).cell (p := ⟨bs, 0, none⟩) hs1).trans c0
    have a1 := fun (o : Obj) => (((Below.refl V.heap.size V).alloc (Nat.le_refl _) o).cell (p := ⟨bs, 1, none⟩) hs1).trans c1
    have a2 := fun (o : Obj) => (((Below.refl V.heap.size V).alloc (Nat.le_refl _) o).cell (p := ⟨bs, 2, none⟩) hs1).trans c2
    have a3 := fun (o : Obj) => (((Below.refl V.heap.size V).alloc (Nat.le_refl _) o).cell (p := ⟨bs, 3, none⟩) hs1).trans c3
    have a4 := fun (o : Obj) => (((Below.refl V.heap.size V).alloc (Nat.le_refl _) o).cell (p := ⟨bs, 4, none⟩) hs1).trans c4
    have a5 := fun (o : Obj) => (((Below.refl V.heap.size V).alloc (Nat.le_refl _) o).cell (p := ⟨bs, 5, none⟩) hs1).trans c5
    have e0 := fun (o : Obj) => (((Below.refl V.heap.size V).alloc (Nat.le_refl _) o).cell (p := ⟨bs + 1, 0, none⟩) hs2).trans r0
    have e1 := fun (o : Obj) => (((Below.refl V.heap.size V).alloc (Nat.le_refl _) o).cell (p := ⟨bs + 1, 1, none⟩) hs2).trans r1
    have e2 := fun (o : Obj) => (((Below.refl V.heap.size V).alloc (Nat.le_refl _) o).cell (p := ⟨bs + 1, 2, none⟩) hs2).trans r2
    have e3 := fun (o : Obj) => (((Below.refl V.heap.size V).alloc (Nat.le_refl _) o).cell (p := ⟨bs + 1, 3, none⟩) hs2).trans r3
    have e4 := fun (o : Obj) => (((Below.refl V.heap.size V).alloc (Nat.le_refl _) o).cell (p := ⟨bs + 1, 4, none⟩) hs2).trans r4
    have e5 := fun (o : Obj) => (((Below.refl V.heap.size V).alloc (Nat.le_refl _) o).cell (p := ⟨bs + 1, 5, none⟩) hs2).trans r5
    have g4 := fun (o : Obj) => (((Below.refl V.heap.size V).alloc (Nat.le_refl _) o).frozen (p := ⟨bs, 4, none⟩) hs1).trans f4
    have g5 := fun (o : Obj) => (((Below.refl V.heap.size V).alloc (Nat.le_refl _) o).frozen (p := ⟨bs, 5, none⟩) hs1).trans f5
    have y0 := fun (o : Obj) => (((Below.refl V.heap.size V).alloc (Nat.le_refl _) o).frozen (p := ⟨bs + 1, 0, none⟩) hs2).trans z0
    have y1 := fun (o : Obj) => (((Below.refl V.heap.size V).alloc (Nat.le_refl _) o).frozen (p := ⟨bs + 1, 1, none⟩) hs2).trans z1
    have y2 := fun (o : Obj) => (((Below.refl V.heap.size V).alloc (Nat.le_refl _) o).frozen (p := ⟨bs + 1, 2, none⟩) hs2).trans z2
    have y3 := fun (o : Obj) => (((Below.refl V.heap.size V).alloc (Nat.le_refl _) o).frozen (p := ⟨bs + 1, 3, none⟩) hs2).trans z3
    have y4 := fun (o : Obj) => (((Below.refl V.heap.size V).alloc (Nat.le_refl _) o).frozen (p := ⟨bs + 1, 4, none⟩) hs2).trans z4
    have y5 := fun (o : Obj) => (((Below.refl V.heap.size V).alloc (Nat.le_refl _) o).frozen (p := ⟨bs + 1, 5, none⟩) hs2).trans z5
    clear r rz fz size bel
    cases hg : g frame with
    | none =>
      rw [hg] at hlk HTO HAN
      clear hg
      go_wp2_with fail
      obtain ⟨⟨k0, k1, k2, k3, k4, k5⟩, hB⟩ := Xr.ret6 (W := V) (b := bs + 1) (unhide HB6).r (.int .i64 frame) (.int .i64 fn) (.int .i64 by_) (.int .i64 from_) (.int .i64 (-1)) (.int .i64 0)
      have hBw := (unhide HB6).bel.trans (hB w.heap.size (by omega))
      generalize (((((V.setCell ⟨bs + 1, 0, none⟩ (.int .i64 frame)).setCell ⟨bs + 1, 1, none⟩ (.int .i64 fn)).setCell ⟨bs + 1, 2, none⟩ (.int .i64 by_)).setCell ⟨bs + 1, 3, none⟩ (.int .i64 from_)).setCell ⟨bs + 1, 4, none⟩ (.int .i64 (-1))).setCell ⟨bs + 1, 5, none⟩ (.int .i64 0) = S at *
      have hSl := World.block_lt_of_cell? S _ k0
      have hSa := (Below.refl S.heap.size S).alloc (Nat.le_refl _) (Obj.cells #[.int .i64 0, .int .i64 0] 122)
      have m0 := (hSa.cell (p := ⟨bs + 1, 0, none⟩) hSl).trans k0
      have m1 := (hSa.cell (p := ⟨bs + 1, 1, none⟩) hSl).trans k1
      have m2 := (hSa.cell (p := ⟨bs + 1, 2, none⟩) hSl).trans k2
      have m3 := (hSa.cell (p := ⟨bs + 1, 3, none⟩) hSl).trans k3
      have m4 := (hSa.cell (p := ⟨bs + 1, 4, none⟩) hSl).trans k4
      have m5 := (hSa.cell (p := ⟨bs + 1, 5, none⟩) hSl).trans k5
      have hBx := hBw.trans (hSa.mono hBw.size)
      generalize S.alloc (Obj.cells #[.int .i64 0, .int .i64 0] 122) = S2 at *
      refine bodyPost_ret (v := .agg #[.int .i64 frame, .int .i64 fn, .int .i64 by_, .int .i64 from_, .int .i64 (-1), .int .i64 0]) (by simp [results, Try.results57, go_sem, m0, m1, m2, m3, m4, m5]) rfl ?_
      exact ⟨by rw [unhide HTO, unhide HAN], by rw [← hbs]; exact hBx⟩
    | some q =>
      obtain ⟨q1, q2⟩ := q
      rw [hg] at hlk HTO HAN
      clear hg
      go_wp2_with fail
      go_cut [] (fun V' => Xr.B6 bs frame fn by_ from_ q1 q2 w V')
      case first =>
        go_region_law (fail)
        all_goals
          go_wp2_with fail
          go_meet
          case rel => exact ((unhide HB6).set (by omega) q1 q2).below ((Below.refl _ _).alloc (Nat.le_refl _) _).drew
      case rest =>
        rename World => V2
        have HB7 := hide hcut
        obtain ⟨d0, d1, d2, d3, d4, d5, dfz, dr, drz, dsize, dbel⟩ := hcut
        have u0 := drz 0
        have u1 := drz 1
        have u2 := drz 2
        have u3 := drz 3
        have u4 := drz 4
        have u5 := drz 5
        obtain ⟨t0, s0⟩ := dr 0 (by omega)
        obtain ⟨t1, s1⟩ := dr 1 (by omega)
        obtain ⟨t2, s2⟩ := dr 2 (by omega)
        obtain ⟨t3, s3⟩ := dr 3 (by omega)
        obtain ⟨t4, s4⟩ := dr 4 (by omega)
        obtain ⟨t5, s5⟩ := dr 5 (by omega)
        clear dr drz dfz dsize dbel hlk a0 a1 a2 a3 a4 a5 e0 e1 e2 e3 e4 e5 g4 g5 y0 y1 y2 y3 y4 y5 c0 c1 c2 c3 c4 c5 r0 r1 r2 r3 r4 r5 z0 z1 z2 z3 z4 z5 f4 f5
        go_wp2_with fail
        obtain ⟨⟨k0, k1, k2, k3, k4, k5⟩, hB⟩ := Xr.ret6 (W := V2) (b := bs + 1) (unhide HB7).r (.int .i64 frame) (.int .i64 fn) (.int .i64 by_) (.int .i64 from_) (.int .i64 q1) (.int .i64 q2)
        have hBw := (unhide HB7).bel.trans (hB w.heap.size (by omega))
        generalize (((((V2.setCell ⟨bs + 1, 0, none⟩ (.int .i64 frame)).setCell ⟨bs + 1, 1, none⟩ (.int .i64 fn)).setCell ⟨bs + 1, 2, none⟩ (.int .i64 by_)).setCell ⟨bs + 1, 3, none⟩ (.int .i64 from_)).setCell ⟨bs + 1, 4, none⟩ (.int .i64 q1)).setCell ⟨bs + 1, 5, none⟩ (.int .i64 q2) = S at *
        refine bodyPost_ret (v := .agg #[.int .i64 frame, .int .i64 fn, .int .i64 by_, .int .i64 from_, .int .i64 q1, .int .i64 q2]) (by simp [results, Try.results57, go_sem, k0, k1, k2, k3, k4, k5]) rfl ?_
        exact ⟨by rw [unhide HTO, unhide HAN], hBw⟩
end Go.Proofs.Ytildjlaphkjegaa
namespace Go.Proofs.Ytildjlaphkjegaa
open Go.RowKit Go.Maps
set_option linter.unusedVariables false

theorem Try.infoSp : (Try.prog.info? 55).map (fun i => (i.zero, i.size, i.bytes)) = some (some (.agg #[.int .i64 0, .int .i64 0, .int .i64 0, .int .i64 0, .int .i64 0, .int .i64 0]), 6, 48) := by kernel_rfl
def Xr.spC (l : List Xr.Sp) : List Value := l.flatMap Xr.Sp.cl
theorem Xr.spC_snoc (l : List Xr.Sp) (s : Xr.Sp) : Xr.spC (l ++ [s]) = Xr.spC l ++ s.cl := by unfold Xr.spC; simp
/-- The spans of frame 0 and of the calls among the first events. -/
def Xr.spTo (main : Int) (g : Int → Option (Int × Int)) (l : List Ev) : Nat → List Xr.Sp
  | 0 => [Xr.spOf g 0 main (-1) 0]
  | k + 1 => match l[k]? with
    | none => Xr.spTo main g l k
    | some e => if e.n0 = 5 then Xr.spTo main g l k ++ [Xr.spOf g e.n5 e.n3 e.n1 (k : Nat)] else Xr.spTo main g l k
theorem Xr.EM.below {W W' : World} {b n : Nat} {g : Int → Option (Int × Int)} (h : Xr.EM W b n g) (hb : Below W.heap.size W W') : Xr.EM W' b n g := h.kept (hb.block b h.lt)

set_option maxRecDepth 100000 in
set_option maxHeartbeats 3200000 in
theorem spansOf_any (qa : Option Addr) (k qc : Nat) (l : List Ev) (ad : Option Addr) (cap : Nat) (w : World) (hk : k ≤ 35184372088832) (hr : Cl.RE w ad l) (hw : ∀ e ∈ l, Xr.evW e) (hl : l.length ≤ 4000) :
    Calls Try.prog 36 #[.agg #[.slice qa (k + 1) qc], .slice ad l.length cap] w fun r w' => ∃ a nf c, r = .returned (.slice a nf c) ∧ nf = (Xr.spTo (k : Nat) (Xr.endsTo l l.length) l l.length).length ∧ w'.ownsRow w.heap.size 55 6 (.slice a nf c) nf (Xr.spC (Xr.spTo (k : Nat) (Xr.endsTo l l.length) l l.length)) ∧ Below w.heap.size w w' := by
  have hb0 := (Below.refl w.heap.size w).alloc (Nat.le_refl _) (Obj.cells #[.slice qa (k + 1) qc] 36)
  have q0 : (w.alloc (Obj.cells #[.slice qa (k + 1) qc] 36)).cell? ⟨w.heap.size, 0, none⟩ = some (.slice qa (k + 1) qc) := by go_simp
  have HEN := hide (endsOf_any l ad cap _ (hr.later hb0 (Nat.le_refl _)) hw hl)
  have HR := hide (fun (V : World) (hV : Below w.heap.size w V) => hr.later hV (Nat.le_refl _))
  have HW := hide hw
  have HB0 := hide hb0
  obtain ⟨i0, hi0', hz0, hz1', hz2⟩ := info_of Try.infoSp
  have HI := hide hi0'
  have HZ0 := hide hz0
  have HZ1 := hide hz1'
  have HZ2 := hide hz2
  obtain ⟨g, hg⟩ : ∃ g, g = Xr.endsTo l l.length := ⟨_, rfl⟩
  rw [← hg] at HEN ⊢
  obtain ⟨nl, hnl⟩ : ∃ nl, nl = l.length := ⟨_, rfl⟩
  rw [← hnl] at hl HEN ⊢
  have HNL := hide hnl
  clear hr hw hb0 hi0' hz0 hz1' hz2 hg hnl
  go_enter Try.func36, Try.ntmps36
  go_wp2_with fail
  generalize w.alloc (Obj.cells #[.slice qa (k + 1) qc] 36) = W1 at *
  refine (unhide HEN).mono ?_
  rintro r w2 ⟨n2, rfl, hem2, hb2⟩
  have q2 := (hb2.cell (p := ⟨w.heap.size, 0, none⟩) (World.block_lt_of_cell? _ _ q0)).trans q0
  have HB2 := hide ((unhide HB0).trans (hb2.mono (unhide HB0).size))
  have HEM2 := hide hem2
  have HBM := hide (show w.heap.size ≤ W1.heap.size from (unhide HB0).size)
  generalize W1.heap.size = bm at *
  clear hem2 hb2 q0 HEN
  go_wp2_with fail
  refine (mainOf_any _ k qc _ hk).mono ?_
  rintro r w3 ⟨rfl, hb3⟩
  have HB3 := hide ((unhide HB2).trans (hb3.mono (unhide HB2).size))
  have HEM3 := hide ((unhide HEM2).below hb3)
  have HSP := hide (span_any bm n2 g 0 (k : Nat) (-1) 0 w3 (unhide HEM3) rfl)
  clear hb3
  go_wp2_with fail
  refine (unhide HSP).mono ?_
  rintro r w4 ⟨rfl, hb4⟩
  have HB4 := hide ((unhide HB3).trans (hb4.mono (unhide HB3).size))
  have HEM4 := hide ((unhide HEM3).below hb4)
  have hs4 := (unhide HB4).size
  have HS4 := hide (unhide HEM4).lt
  generalize hTO : (Xr.spOf g 0 (k : Nat) (-1) 0).to_ = TO at *
  generalize hAN : (Xr.spOf g 0 (k : Nat) (-1) 0).ans = AN at *
  have hal := (Below.refl w4.heap.size w4).alloc (Nat.le_refl _) (Obj.cells #[.int .i64 0, .int .i64 (k : Nat), .int .i64 (-1), .int .i64 0, .int .i64 TO, .int .i64 AN] 55)
  have HROW := hide (show (w4.alloc (Obj.cells #[.int .i64 0, .int .i64 (k : Nat), .int .i64 (-1), .int .i64 0, .int .i64 TO, .int .i64 AN] 55)).ownsRow (bm + 1) 55 6 (.slice (some ⟨w4.heap.size, 0, none⟩) 1 1) 1 (Xr.spC (Xr.spTo (k : Nat) g l 0)) from ⟨rfl, .inr ⟨w4.heap.size, 1, _, rfl, unhide HS4, heap_alloc_new _ _, Nat.le_refl _, by unfold maxLen; omega, rfl, by show _ = [Value.int .i64 0, .int .i64 (k : Nat), .int .i64 (-1), .int .i64 0, .int .i64 (Xr.spOf g 0 (k : Nat) (-1) 0).to_, .int .i64 (Xr.spOf g 0 (k : Nat) (-1) 0).ans]; rw [hTO, hAN]; rfl⟩⟩)
  have HB5 := hide ((unhide HB4).trans (hal.mono hs4))
  have HEM5 := hide ((unhide HEM4).below hal)
  clear hb4 hal hTO hAN
  go_wp2_with fail
  generalize w4.alloc (Obj.cells #[.int .i64 0, .int .i64 (k : Nat), .int .i64 (-1), .int .i64 0, .int .i64 TO, .int .i64 AN] 55) = W5 at *
  generalize w4.heap.size = b5 at *
  go_loopw [6, 19] (fun sv iv wr => ∃ (i nf c : Nat) (a : Option Addr), i ≤ nl ∧ iv = .int .i64 i ∧ sv = .slice a nf c ∧ nf ≤ i + 1 ∧ Hid (nf = (Xr.spTo (k : Nat) g l i).length) ∧ wr.ownsRow (bm + 1) 55 6 (.slice a nf c) nf (Xr.spC (Xr.spTo (k : Nat) g l i)) ∧ Xr.EM wr bm n2 g ∧ Below w.heap.size w wr) (fun _ iv _ => nl - (intOf iv).toNat)
  case atStart => exact ⟨0, 1, 1, some ⟨b5, 0, none⟩, Nat.zero_le _, rfl, rfl, by omega, by show _ = _; rfl, unhide HROW, unhide HEM5, unhide HB5⟩
  case round =>
    obtain ⟨i, nf, c, a, hi, rfl, rfl, hnf, hhid, how, hem, hbe⟩ := hrel
    have HNF := hide (unhide hhid)
    clear hhid
    by_cases hlt : i < nl
    · have hlt2 : i < l.length := by have := unhide HNL; omega
      have hy := List.getElem?_eq_getElem hlt2
      obtain ⟨b, o, had, hb, p0, p1, p2, p3, p4, p5⟩ := ((unhide HR) wr hbe).at_ i _ hy
      have HWE := hide ((unhide HW) l[i] (List.getElem_mem hlt2))
      have HST := hide (show Xr.spTo (k : Nat) g l (i + 1) = if l[i].n0 = 5 then Xr.spTo (k : Nat) g l i ++ [Xr.spOf g l[i].n5 l[i].n3 l[i].n1 (i : Nat)] else Xr.spTo (k : Nat) g l i by
        show (match l[i]? with | none => _ | some e => _) = _
        rw [hy])
      generalize l[i] = e at *
      have hal := (Below.refl wr.heap.size wr).alloc (Nat.le_refl _) (Obj.cells #[.int .i64 e.n0, .int .i64 e.n1, .int .i64 e.n2, .int .i64 e.n3, .int .i64 e.n4, .int .i64 e.n5] 100)
      have HOW := hide (Pg.ow_below how hal)
      have HEM := hide (hem.below hal)
      have HBA := hide (hbe.trans (hal.mono hbe.size))
      have had' : ad = some ⟨b, o, none⟩ := had
      subst had'
      have hi0 : (0 : Int) ≤ (i : Int) := by omega
      have hi1 : (i : Int) < (nl : Int) := by omega
      have x0 : (wr.alloc (Obj.cells #[.int .i64 e.n0, .int .i64 e.n1, .int .i64 e.n2, .int .i64 e.n3, .int .i64 e.n4, .int .i64 e.n5] 100)).cell? ⟨wr.heap.size, 0, none⟩ = some (.int .i64 e.n0) := by go_simp
      have x1 : (wr.alloc (Obj.cells #[.int .i64 e.n0, .int .i64 e.n1, .int .i64 e.n2, .int .i64 e.n3, .int .i64 e.n4, .int .i64 e.n5] 100)).cell? ⟨wr.heap.size, 1, none⟩ = some (.int .i64 e.n1) := by go_simp
      have x3 : (wr.alloc (Obj.cells #[.int .i64 e.n0, .int .i64 e.n1, .int .i64 e.n2, .int .i64 e.n3, .int .i64 e.n4, .int .i64 e.n5] 100)).cell? ⟨wr.heap.size, 3, none⟩ = some (.int .i64 e.n3) := by go_simp
      have x5 : (wr.alloc (Obj.cells #[.int .i64 e.n0, .int .i64 e.n1, .int .i64 e.n2, .int .i64 e.n3, .int .i64 e.n4, .int .i64 e.n5] 100)).cell? ⟨wr.heap.size, 5, none⟩ = some (.int .i64 e.n5) := by go_simp
      clear hy hb had hlt2 hal hem hbe how
      go_upto_region 6 with fail
      generalize wr.alloc (Obj.cells #[.int .i64 e.n0, .int .i64 e.n1, .int .i64 e.n2, .int .i64 e.n3, .int .i64 e.n4, .int .i64 e.n5] 100) = W2 at *
      generalize wr.heap.size = bx at *
      clear p0 p1 p2 p3 p4 p5
      obtain ⟨XS, hXS⟩ : ∃ XS, XS = Xr.spC (Xr.spTo (k : Nat) g l i) := ⟨_, rfl⟩
      rw [← hXS] at HOW
      have HXS := hide hXS
      clear hXS
      by_cases k5 : e.n0 = 5
      · have b5' : (e.n0 == 5) = true := by simp [k5]
        have HRP := hide (show Xr.spTo (k : Nat) g l (i + 1) = Xr.spTo (k : Nat) g l i ++ [Xr.spOf g e.n5 e.n3 e.n1 (i : Nat)] by rw [unhide HST, if_pos k5])
        have HSP2 := hide (span_any bm n2 g e.n5 e.n3 e.n1 (i : Nat) W2 (unhide HEM) (unhide HWE).2.2.2.2.2)
        clear k5
        go_wp2_with fail
        refine (unhide HSP2).mono ?_
        rintro r w7 ⟨rfl, hb7⟩
        have HOW7 := hide (Pg.ow_below (unhide HOW) hb7)
        have HEM7 := hide ((unhide HEM).below hb7)
        have HB7 := hide ((unhide HBA).trans (hb7.mono (unhide HBA).size))
        have hs7 := (unhide HB7).size
        have HCL := hide (show (Xr.spOf g e.n5 e.n3 e.n1 (i : Nat)).cl = [.int .i64 e.n5, .int .i64 e.n3, .int .i64 e.n1, .int .i64 (i : Nat), .int .i64 (Xr.spOf g e.n5 e.n3 e.n1 (i : Nat)).to_, .int .i64 (Xr.spOf g e.n5 e.n3 e.n1 (i : Nat)).ans] from rfl)
        generalize (Xr.spOf g e.n5 e.n3 e.n1 (i : Nat)).to_ = TO2 at *
        generalize (Xr.spOf g e.n5 e.n3 e.n1 (i : Nat)).ans = AN2 at *
        clear hb7
        have HBK := hide (heap_alloc_new w7 (Obj.cells #[.int .i64 e.n5, .int .i64 e.n3, .int .i64 e.n1, .int .i64 (i : Nat), .int .i64 TO2, .int .i64 AN2] 55))
        have HBD := hide (show Below w7.heap.size w7 (w7.alloc (Obj.cells #[.int .i64 e.n5, .int .i64 e.n3, .int .i64 e.n1, .int .i64 (i : Nat), .int .i64 TO2, .int .i64 AN2] 55)) from (Below.refl _ _).alloc (Nat.le_refl _) _)
        have HLT := hide (show ∀ q, (Value.slice a nf c).ownBlock = some q → bm + 1 ≤ q from fun q hq => ((unhide HOW7).lt q hq).1)
        have hs7 := (unhide HEM7).lt
        go_wp2_with (at_builtin; refine wpList_append_lies _ (by rfl) _ _ _ (by rfl) (bm + 1) 55 i0 _ 6 48 Try.underlying51 (unhide HI) (unhide HZ0) (unhide HZ1) (unhide HZ2) rfl (by omega) (.slice a nf c) nf XS (by rfl) (Pg.ow_below (unhide HOW7) (unhide HBD)) ⟨w7.heap.size, 0, none⟩ 1 1 [.int .i64 e.n5, .int .i64 e.n3, .int .i64 e.n1, .int .i64 (i : Nat), .int .i64 TO2, .int .i64 AN2] (by rfl) (by rfl) (World.news_of_block (unhide HBK)) (by simp [Value.oneCell']) (by omega) (by unfold maxLen; omega) (by omega) (by simp; omega) (w7.heap.size + 1) (by simp) ?_; intro gA cA w8 hoA hgA hatA hltA; have HOA := hide hoA; have HGA := hide hgA; clear hoA hgA hatA hltA)
        exact ⟨⟨i + 1, nf + 1, cA, some ⟨gA, 0, none⟩, by omega, by go_num, rfl, by omega, (by show _ = _; rw [unhide HRP, List.length_append, ← unhide HNF]; rfl), (by rw [unhide HRP, Xr.spC_snoc, ← unhide HXS, unhide HCL]; exact unhide HOA), ((unhide HEM7).below (unhide HBD)).kept ((unhide HGA).block bm ((unhide HEM7).below (unhide HBD)).lt (fun e => by have := (unhide HLT) bm e.symm; omega)), Below.grown ((unhide HB7).trans ((unhide HBD).mono (unhide HB7).size)) (unhide HGA) (Nat.le_trans (unhide HB7).size (unhide HBD).size) (fun q hq => Nat.le_trans (Nat.le_succ_of_le (unhide HBM)) ((unhide HLT) q hq))⟩, by simp [intOf]; omega⟩
      · have b5' : (e.n0 == 5) = false := by simpa using k5
        have HRP := hide (show Xr.spTo (k : Nat) g l (i + 1) = Xr.spTo (k : Nat) g l i by rw [unhide HST, if_neg k5])
        clear k5
        go_wp2_with fail
        exact ⟨⟨i + 1, nf, c, a, by omega, by go_num, rfl, by omega, by show _ = _; rw [unhide HRP]; exact unhide HNF, by rw [unhide HRP, ← unhide HXS]; exact unhide HOW, unhide HEM, unhide HBA⟩, by simp [intOf]; omega⟩
    · have hie : i = nl := by omega
      subst hie
      have HO := hide (Pg.ow_base how (Nat.le_succ_of_le (unhide HBM)))
      have HB := hide hbe
      clear how hem hbe
      go_wp2_with fail
      go_ret
      first | exact ⟨a, nf, c, rfl, unhide HNF, unhide HO, unhide HB⟩ | exact ⟨a, nf, c, rfl, ⟨unhide HNF, unhide HO⟩, unhide HB⟩
end Go.Proofs.Ytildjlaphkjegaa
namespace Go.Proofs.Ytildjlaphkjegaa
open Go.RowKit Go.Maps
set_option linter.unusedVariables false

/-- The spans of a trace. -/
def Xr.spAll {m n : Nat} (p : List (Pg.FT m n)) (l : List Ev) : List Xr.Sp := Xr.spTo ((p.length - 1 : Nat) : Int) (Xr.endsTo l l.length) l l.length
/-- What Calls answers. -/
structure Xr.CallsIs {m n : Nat} (p : List (Pg.FT m n)) (l : List Ev) (w w' : World) (a : Option Addr) (nf c : Nat) : Prop where
  no : Xr.stE p l ≠ 0 → nf = 0
  yes : Xr.stE p l = 0 → nf = (Xr.spAll p l).length ∧ w'.ownsRow w.heap.size 55 6 (.slice a nf c) nf (Xr.spC (Xr.spAll p l))

set_option maxRecDepth 100000 in
set_option maxHeartbeats 1600000 in
theorem Calls_any {m n : Nat} (qa : Option Addr) (ql qc : Nat) (p : List (Pg.FT m n)) (l : List Ev) (ad : Option Addr) (cap : Nat) (w : World) (hp : Pg.RP w m n ⟨qa, ql, qc⟩ p) (hpf : Pg.parFit p) (hr : Cl.RE w ad l) (hl : l.length ≤ 35184372088832) (hw : ∀ e ∈ l, Xr.evW e) :
    Calls Try.prog 14 #[.agg #[.slice qa ql qc], .slice ad l.length cap] w fun r w' => ∃ a nf c, r = .returned (.tuple #[.slice a nf c, .int .i64 (Xr.stE p l : Nat)]) ∧ Xr.CallsIs p l w w' a nf c ∧ Below w.heap.size w w' := by
  have hb0 := (Below.refl w.heap.size w).alloc (Nat.le_refl _) (Obj.cells #[.slice qa ql qc] 36)
  have q0 : (w.alloc (Obj.cells #[.slice qa ql qc] 36)).cell? ⟨w.heap.size, 0, none⟩ = some (.slice qa ql qc) := by go_simp
  have HWI := hide (stWrong_any qa ql qc p l ad cap _ (Pg.RP.later hp hb0 (Nat.le_refl _)) hpf (hr.later hb0 (Nat.le_refl _)) hl)
  have HSA := hide (fun (V : World) (hV : Below w.heap.size w V) (h0 : Xr.stE p l = 0) => show Calls Try.prog 36 #[.agg #[.slice qa ql qc], .slice ad l.length cap] V fun r w' => ∃ a nf c, r = .returned (.slice a nf c) ∧ Xr.CallsIs p l V w' a nf c ∧ Below V.heap.size V w' from by
    have hok := Xr.StOk.of h0
    obtain ⟨x, hx, _⟩ := hok.last
    have hpl : ql = p.length := hp.len
    have hpos : 0 < p.length := by have := (List.getElem?_eq_some_iff.1 hx).1; omega
    have h1 := spansOf_any qa (ql - 1) qc l ad cap V (by have h2 : p.length ≤ 35184372088832 := hp.few; omega) (hr.later hV (Nat.le_refl _)) hw hok.few
    rw [show ql - 1 + 1 = ql by omega] at h1
    refine h1.mono ?_
    rintro r w' ⟨a, nf, c, rfl, e1, e2, e3⟩
    rw [hpl] at e1 e2
    exact ⟨a, nf, c, rfl, ⟨fun h => absurd h0 h, fun _ => ⟨e1, e2⟩⟩, e3⟩)
  have HB0 := hide hb0
  have HNO := hide (fun (V : World) (h : Xr.stE p l ≠ 0) => show Xr.CallsIs p l w V none 0 0 from ⟨fun _ => rfl, fun h2 => absurd h2 h⟩)
  have HYES := hide (fun (V V' : World) (a : Option Addr) (nf c : Nat) (hV : Below w.heap.size w V) (h : Xr.CallsIs p l V V' a nf c) => show Xr.CallsIs p l w V' a nf c from ⟨h.no, fun h0 => ⟨(h.yes h0).1, Pg.ow_base (h.yes h0).2 hV.size⟩⟩)
  generalize Xr.stE p l = SE at *
  obtain ⟨nl, hnl⟩ : ∃ nl, nl = l.length := ⟨_, rfl⟩
  rw [← hnl] at hl HWI HSA ⊢
  clear hp hpf hr hb0 hnl hw
  go_enter Try.func14, Try.ntmps14
  go_wp2_with fail
  generalize w.alloc (Obj.cells #[.slice qa ql qc] 36) = W0 at *
  refine (unhide HWI).mono ?_
  rintro r w1 ⟨rfl, hb1⟩
  have q1 := (hb1.cell (p := ⟨w.heap.size, 0, none⟩) (World.block_lt_of_cell? _ _ q0)).trans q0
  have hlt1 := World.block_lt_of_cell? _ _ q1
  have HB1 := hide ((unhide HB0).trans (hb1.mono (unhide HB0).size))
  clear hb1 q0
  by_cases hS : SE = 0
  case neg =>
    have HN := hide (show SE ≠ 0 from hS)
    have bS : (((SE : Nat) : Int) != 0) = true := by simp; exact hS
    clear hS
    go_wp2_with fail
    refine bodyPost_ret (v := .tuple #[.slice none 0 0, .int .i64 (SE : Nat)]) (by simp [results, Try.results14, go_sem]) rfl ?_
    exact ⟨none, 0, 0, rfl, (unhide HNO) _ (unhide HN), unhide HB1⟩
  case pos =>
    have HS2 := hide ((unhide HSA) w1 (unhide HB1) hS)
    subst hS
    go_wp2_with fail
    refine (unhide HS2).mono ?_
    rintro r w2 ⟨a, nf, c, rfl, hci, hb2⟩
    have HCI := hide ((unhide HYES) _ _ a nf c (unhide HB1) hci)
    have HB2 := hide ((unhide HB1).trans (hb2.mono (unhide HB1).size))
    clear hci hb2
    go_wp2_with fail
    refine bodyPost_ret (v := .tuple #[.slice a nf c, .int .i64 0]) (by simp [results, Try.results14, go_sem]) rfl ?_
    exact ⟨a, nf, c, rfl, unhide HCI, unhide HB2⟩
end Go.Proofs.Ytildjlaphkjegaa
