/-
  Rows that may be written, from a block on. By the verifier.
-/
import Derived.Test.YtpabpcojiaklfaaDBase
import Derived.Test.YtpabpcojiaklfaaCBase
import Derived.WalkKit
namespace Go.Proofs.Ytpabpcojiaklfaa
open Go.RowKit
set_option linter.unusedVariables false

/-- Is it a slice? -/
def Rs.sl : Value → Bool
  | .slice _ _ _ => true
  | _ => false
/-- In a row of n things of k cells each, the cell numbered m of each may be written, and is no slice; and the row lies from block B on. -/
structure Rs.Wr (k m B : Nat) (W : World) (ad : Option Addr) (n : Nat) : Prop where
  at_ : ∀ i, i < n → ∃ b o, ad = some ⟨b, o, none⟩ ∧ B ≤ b ∧ b < W.heap.size ∧ (∃ v, W.cell? ⟨b, o + i * k + m, none⟩ = some v ∧ Rs.sl v = false) ∧ W.frozen? ⟨b, o + i * k + m, none⟩ = false
theorem Rs.Wr.set {k m B : Nat} {W : World} {ad : Option Addr} {n : Nat} (h : Rs.Wr k m B W ad n) (b o : Nat) (v : Value) (hv : Rs.sl v = false) : Rs.Wr k m B (W.setCell ⟨b, o, none⟩ v) ad n :=
  ⟨fun i hi => by
    obtain ⟨b', o', h1, h2, h3, ⟨u, h4, h6⟩, h5⟩ := h.at_ i hi
    refine ⟨b', o', h1, h2, by simpa [World.setCell] using h3, ?_, by rw [World.frozen?_setCell]; exact h5⟩
    by_cases he : (⟨b', o' + i * k + m, none⟩ : Addr) = ⟨b, o, none⟩
    · rw [he] at h4 ⊢
      exact ⟨v, World.cell?_setCell_same _ _ _ h4, hv⟩
    · exact ⟨u, (World.cell?_setCell_other _ _ _ _ (Ne.symm he)).trans h4, h6⟩⟩
theorem Rs.Wr.below {k m B C : Nat} {W W' : World} {ad : Option Addr} {n : Nat} (h : Rs.Wr k m B W ad n) (hb : Below C W W') (hC : W.heap.size ≤ C) : Rs.Wr k m B W' ad n :=
  ⟨fun i hi => by
    obtain ⟨b, o, h1, h2, h3, ⟨u, h4, h6⟩, h5⟩ := h.at_ i hi
    exact ⟨b, o, h1, h2, by have := hb.size; omega, ⟨u, (hb.cell (p := ⟨b, o + i * k + m, none⟩) (by show b < C; omega)).trans h4, h6⟩, (hb.frozen (p := ⟨b, o + i * k + m, none⟩) (by show b < C; omega)).trans h5⟩⟩

theorem Rs.Wr.nil (k m B : Nat) (W : World) (ad : Option Addr) : Rs.Wr k m B W ad 0 := ⟨fun i hi => absurd hi (Nat.not_lt_zero _)⟩
theorem Rs.Wr.lower {k m B B' : Nat} {W : World} {ad : Option Addr} {n : Nat} (h : Rs.Wr k m B W ad n) (hB : B' ≤ B) : Rs.Wr k m B' W ad n :=
  ⟨fun i hi => by
    obtain ⟨b, o, h1, h2, h3⟩ := h.at_ i hi
    exact ⟨b, o, h1, by omega, h3⟩⟩

/-- What a spoiling leaves: slices, and what no slice is, wherever they lie. -/
structure Rs.Fr (W W' : World) : Prop where
  size : W.heap.size ≤ W'.heap.size
  cell : ∀ (b o : Nat) (v : Value), b < W.heap.size → W.cell? ⟨b, o, none⟩ = some v → ∃ v', W'.cell? ⟨b, o, none⟩ = some v' ∧ Rs.sl v' = Rs.sl v ∧ (Rs.sl v = true → v' = v)
  frozen : ∀ b o, b < W.heap.size → W'.frozen? ⟨b, o, none⟩ = W.frozen? ⟨b, o, none⟩
theorem Rs.Fr.refl (W : World) : Rs.Fr W W := ⟨Nat.le_refl _, fun _ _ v _ h => ⟨v, h, rfl, fun _ => rfl⟩, fun _ _ _ => rfl⟩
theorem Rs.Fr.trans {W1 W2 W3 : World} (h : Rs.Fr W1 W2) (k : Rs.Fr W2 W3) : Rs.Fr W1 W3 := by
  refine ⟨Nat.le_trans h.size k.size, fun b o v hb hv => ?_, fun b o hb => (k.frozen b o (Nat.lt_of_lt_of_le hb h.size)).trans (h.frozen b o hb)⟩
  obtain ⟨v1, h1, h2, h3⟩ := h.cell b o v hb hv
  obtain ⟨v2, k1, k2, k3⟩ := k.cell b o v1 (Nat.lt_of_lt_of_le hb h.size) h1
  exact ⟨v2, k1, k2.trans h2, fun hs => (k3 (h2.trans hs)).trans (h3 hs)⟩
theorem Rs.Fr.below {W W' : World} {B : Nat} (hb : Below B W W') (hB : W.heap.size ≤ B) : Rs.Fr W W' :=
  ⟨hb.size, fun b o v hlt hv => ⟨v, (hb.cell (p := ⟨b, o, none⟩) (by show b < B; omega)).trans hv, rfl, fun _ => rfl⟩, fun b o hlt => hb.frozen (p := ⟨b, o, none⟩) (by show b < B; omega)⟩
theorem Rs.Fr.set {w W : World} {b o : Nat} {u v : Value} (h : Rs.Fr w W) (hu : W.cell? ⟨b, o, none⟩ = some u) (hs : Rs.sl u = false) (hv : Rs.sl v = false) : Rs.Fr w (W.setCell ⟨b, o, none⟩ v) := by
  refine ⟨by rw [World.size_setCell]; exact h.size, fun b' o' x hb hx => ?_, fun b' o' hb => by rw [World.frozen?_setCell]; exact h.frozen b' o' hb⟩
  obtain ⟨x1, h1, h2, h3⟩ := h.cell b' o' x hb hx
  by_cases he : (⟨b', o', none⟩ : Addr) = ⟨b, o, none⟩
  · rw [he] at h1 ⊢
    rw [hu] at h1
    cases h1
    exact ⟨v, World.cell?_setCell_same _ _ _ hu, by rw [hv, ← h2, hs], fun hh => by rw [← h2, hs] at hh; cases hh⟩
  · exact ⟨x1, (World.cell?_setCell_other _ _ _ _ (Ne.symm he)).trans h1, h2, h3⟩
theorem Rs.Wr.fr {k m B : Nat} {W W' : World} {ad : Option Addr} {n : Nat} (h : Rs.Wr k m B W ad n) (hf : Rs.Fr W W') : Rs.Wr k m B W' ad n :=
  ⟨fun i hi => by
    obtain ⟨b, o, h1, h2, h3, ⟨u, h4, h6⟩, h5⟩ := h.at_ i hi
    obtain ⟨u', k1, k2, _⟩ := hf.cell b _ u h3 h4
    exact ⟨b, o, h1, h2, by have := hf.size; omega, ⟨u', k1, k2.trans h6⟩, (hf.frozen b _ h3).trans h5⟩⟩

/-- A disk that may be written. -/
structure Rs.DW (B : Nat) (W : World) (A0 A1 : Value) : Prop where
  lies : ∃ ka kn kc wa wn wc, A0 = .slice ka kn kc ∧ A1 = .slice wa wn wc ∧ Rs.Wr 1 0 B W ka kn ∧ Rs.Wr 2 1 B W wa wn ∧ kn ≤ 1000 ∧ wn ≤ 1000
theorem Rs.DW.below {B C : Nat} {W W' : World} {A0 A1 : Value} (h : Rs.DW B W A0 A1) (hb : Below C W W') (hC : W.heap.size ≤ C) : Rs.DW B W' A0 A1 := by
  obtain ⟨ka, kn, kc, wa, wn, wc, h1, h2, h3, h4, h5⟩ := h.lies
  exact ⟨ka, kn, kc, wa, wn, wc, h1, h2, h3.below hb hC, h4.below hb hC, h5⟩
theorem Rs.DW.fr {B : Nat} {W W' : World} {A0 A1 : Value} (h : Rs.DW B W A0 A1) (hf : Rs.Fr W W') : Rs.DW B W' A0 A1 := by
  obtain ⟨ka, kn, kc, wa, wn, wc, h1, h2, h3, h4, h5⟩ := h.lies
  exact ⟨ka, kn, kc, wa, wn, wc, h1, h2, h3.fr hf, h4.fr hf, h5⟩
theorem Rs.DW.nil (B : Nat) (W : World) : Rs.DW B W (.slice none 0 0) (.slice none 0 0) := ⟨_, _, _, _, _, _, rfl, rfl, Rs.Wr.nil _ _ _ _ _, Rs.Wr.nil _ _ _ _ _, by omega, by omega⟩
theorem Rs.DW.lower {B B' : Nat} {W : World} {A0 A1 : Value} (h : Rs.DW B W A0 A1) (hB : B' ≤ B) : Rs.DW B' W A0 A1 := by
  obtain ⟨ka, kn, kc, wa, wn, wc, h1, h2, h3, h4, h5⟩ := h.lies
  exact ⟨ka, kn, kc, wa, wn, wc, h1, h2, h3.lower hB, h4.lower hB, h5⟩
/-- A box that holds one. -/
structure Rs.Bx (B : Nat) (W : World) (b : Nat) : Prop where
  lies : ∃ A0 A1, W.cell? ⟨b, 0, none⟩ = some A0 ∧ W.cell? ⟨b, 1, none⟩ = some A1 ∧ Rs.DW B W A0 A1
theorem Rs.Bx.fr {B b : Nat} {W W' : World} (h : Rs.Bx B W b) (hf : Rs.Fr W W') : Rs.Bx B W' b := by
  obtain ⟨A0, A1, h1, h2, h3⟩ := h.lies
  obtain ⟨ka, kn, kc, wa, wn, wc, rfl, rfl, _⟩ := h3.lies
  obtain ⟨v0, k0, _, l0⟩ := hf.cell b 0 _ (World.block_lt_of_cell? W _ h1) h1
  obtain ⟨v1, k1, _, l1⟩ := hf.cell b 1 _ (World.block_lt_of_cell? W _ h2) h2
  rw [l0 rfl] at k0
  rw [l1 rfl] at k1
  exact ⟨_, _, k0, k1, h3.fr hf⟩
theorem Rs.Bx.below {B C b : Nat} {W W' : World} (h : Rs.Bx B W b) (hb : Below C W W') (hC : W.heap.size ≤ C) : Rs.Bx B W' b := h.fr (Rs.Fr.below hb hC)
theorem Rs.Bx.made {B : Nat} {W : World} {A0 A1 : Value} (t : TypeId) (h : Rs.DW B W A0 A1) : Rs.Bx B (W.alloc (.cells #[A0, A1] t)) W.heap.size :=
  ⟨A0, A1, by go_simp, by go_simp, h.below ((Below.refl _ _).alloc (Nat.le_refl _) _) (Nat.le_refl _)⟩
/-- A row of disks that may be written. -/
structure Rs.WW (B : Nat) (W : World) (ad : Option Addr) (n : Nat) : Prop where
  at_ : ∀ j, j < n → ∃ b o A0 A1, ad = some ⟨b, o, none⟩ ∧ b < W.heap.size ∧ W.cell? ⟨b, o + j * 2, none⟩ = some A0 ∧ W.cell? ⟨b, o + j * 2 + 1, none⟩ = some A1 ∧ Rs.DW B W A0 A1
theorem Rs.WW.fr {B : Nat} {W W' : World} {ad : Option Addr} {n : Nat} (h : Rs.WW B W ad n) (hf : Rs.Fr W W') : Rs.WW B W' ad n :=
  ⟨fun j hj => by
    obtain ⟨b, o, A0, A1, h0, hlt, h1, h2, h3⟩ := h.at_ j hj
    obtain ⟨ka, kn, kc, wa, wn, wc, rfl, rfl, _⟩ := h3.lies
    obtain ⟨v0, k0, _, l0⟩ := hf.cell b _ _ hlt h1
    obtain ⟨v1, k1, _, l1⟩ := hf.cell b _ _ hlt h2
    rw [l0 rfl] at k0
    rw [l1 rfl] at k1
    exact ⟨b, o, _, _, h0, by have := hf.size; omega, k0, k1, h3.fr hf⟩⟩
/-- A row of rows of events that may be written. -/
structure Rs.OO (B : Nat) (W : World) (ad : Option Addr) (n : Nat) : Prop where
  at_ : ∀ j, j < n → ∃ b o a m c, ad = some ⟨b, o, none⟩ ∧ b < W.heap.size ∧ W.cell? ⟨b, o + j, none⟩ = some (.slice a m c) ∧ Rs.Wr 6 0 B W a m ∧ m ≤ 1000
theorem Rs.OO.fr {B : Nat} {W W' : World} {ad : Option Addr} {n : Nat} (h : Rs.OO B W ad n) (hf : Rs.Fr W W') : Rs.OO B W' ad n :=
  ⟨fun j hj => by
    obtain ⟨b, o, a, m, c, h0, hlt, h1, h2, h3⟩ := h.at_ j hj
    obtain ⟨v0, k0, _, l0⟩ := hf.cell b _ _ hlt h1
    rw [l0 rfl] at k0
    exact ⟨b, o, a, m, c, h0, by have := hf.size; omega, k0, h2.fr hf, h3⟩⟩
/-- All that a round is to spoil. -/
structure Rs.Bag (B : Nat) (W : World) (bx byy bz : Nat) (wa : Option Addr) (wn : Nat) (oa : Option Addr) (on : Nat) (ca : Option Addr) (cn : Nat) : Prop where
  x : Rs.Bx B W bx
  y : Rs.Bx B W byy
  z : Rs.Bx B W bz
  way : Rs.WW B W wa wn
  o : Rs.OO B W oa on
  c : Rs.Wr 6 0 B W ca cn
theorem Rs.Bag.fr {B : Nat} {W W' : World} {bx byy bz : Nat} {wa : Option Addr} {wn : Nat} {oa : Option Addr} {on : Nat} {ca : Option Addr} {cn : Nat} (h : Rs.Bag B W bx byy bz wa wn oa on ca cn) (hf : Rs.Fr W W') : Rs.Bag B W' bx byy bz wa wn oa on ca cn :=
  ⟨h.x.fr hf, h.y.fr hf, h.z.fr hf, h.way.fr hf, h.o.fr hf, h.c.fr hf⟩
end Go.Proofs.Ytpabpcojiaklfaa
