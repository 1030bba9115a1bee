/-
  Code as it is read. By the verifier.
-/
import Derived.Test.YtpfogjplnodacaaKPure
namespace Go.Proofs.Ytpfogjplnodacaa
open Go.RowKit
set_option linter.unusedVariables false
structure Kd.RI (w : World) (s : Pg.Sl) (l : List Kd.I) : Prop where
 len : s.len = l.length
 cap : s.len ≤ s.cap
 few : l.length ≤ 35184372088832
 at_ : ∀ (i : Nat) (x : Kd.I), l[i]? = some x → ∃ b o, s.ad = some ⟨b, o, none⟩ ∧ b < w.heap.size ∧ w.cell? ⟨b, o + i * 3, none⟩ = some (.int .i64 x.k) ∧ w.cell? ⟨b, o + i * 3 + 1, none⟩ = some (.int .i64 x.a) ∧ w.cell? ⟨b, o + i * 3 + 2, none⟩ = some (.int .i64 x.b)
theorem Kd.RI.later {w w' : World} {B : Nat} {s : Pg.Sl} {l : List Kd.I} (h : Kd.RI w s l) (hb : Below B w w') (hB : w.heap.size ≤ B) : Kd.RI w' s l :=
 ⟨h.len, h.cap, h.few, fun i x hx => by
  obtain ⟨b, o, h1, h2, h3, h4, h5⟩ := h.at_ i x hx
  have hc : ∀ j, w'.cell? ⟨b, j, none⟩ = w.cell? ⟨b, j, none⟩ := fun j => hb.cell (p := ⟨b, j, none⟩) (by show b < B; omega)
  exact ⟨b, o, h1, by have := hb.size; omega, (hc _).trans h3, (hc _).trans h4, (hc _).trans h5⟩⟩
structure Kd.RCo (w : World) (si sf sz : Pg.Sl) (l : List Kd.I) (fs : List Int) (ss : List (List Int)) : Prop where
 ins : Kd.RI w si l
 fst : Pg.RN w sf fs
 szs : Pg.RV w sz ss
theorem Kd.RCo.later {w w' : World} {B : Nat} {si sf sz : Pg.Sl} {l : List Kd.I} {fs : List Int} {ss : List (List Int)} (h : Kd.RCo w si sf sz l fs ss) (hb : Below B w w') (hB : w.heap.size ≤ B) : Kd.RCo w' si sf sz l fs ss := ⟨h.ins.later hb hB, h.fst.later hb hB, h.szs.later hb hB⟩
end Go.Proofs.Ytpfogjplnodacaa
