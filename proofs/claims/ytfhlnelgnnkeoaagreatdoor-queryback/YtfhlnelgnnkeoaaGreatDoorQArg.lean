/-
  A query that came in, as it is read, at any depth. By the verifier.
-/
import Derived.Test.YtfhlnelgnnkeoaaGreatDoorQBase
import Derived.Deep.Slices
import Derived.Deep.Strs
import Derived.SizedLaws
namespace Go.Proofs.YtfhlnelgnnkeoaaGreatDoor
open Go.RowKit Go.Deep Go.ChangeShapes
set_option linter.unusedVariables false

theorem Tryz.qcellsAsk : Tryz.prog.cellsOf 24 = 3 := by kernel_rfl
theorem Tryz.qcells3 : Tryz.prog.cellsOf 3 = 1 := by kernel_rfl
theorem Tryz.qcellsAsks : Tryz.prog.cellsOf 22 = 1 := by kernel_rfl

theorem Qk.three_of {α : Type} : ∀ {cs : List α}, cs.length = 3 → ∃ a b c, cs = [a, b, c]
  | [a, b, c], _ => ⟨a, b, c, rfl⟩
/-- One deeper. -/
def Qk.up : (n : Nat) → Qk.AT n → Qk.AT (n + 1)
  | 0, x => Empty.elim x
  | n + 1, x => (x.1, x.2.map (Qk.up n))
theorem Qk.RA.up {w : World} : ∀ (n : Nat) {e : Qk.E} {x : Qk.AT n}, Qk.RA w n e x → Qk.RA w (n + 1) e (Qk.up n x)
  | 0, _, _, h => absurd h id
  | n + 1, e, x, h => by
    refine ⟨h.1, by rw [h.2.len]; exact (List.length_map _).symm, by have := h.2.few; simpa [Qk.up] using this, fun i y hy => ?_⟩
    have hy' : (x.2.map (Qk.up n))[i]? = some y := hy
    rw [List.getElem?_map] at hy'
    cases hx : x.2[i]? with
    | none => rw [hx] at hy'; cases hy'
    | some z =>
      rw [hx] at hy'
      cases hy'
      obtain ⟨b, o, c, h1, h2, h3, h4⟩ := h.2.at_ i z hx
      exact ⟨b, o, c, h1, h2, h3, Qk.RA.up n h4⟩

section
variable {H : Type} {enc : TypeId × Value → H} {W : World}

theorem Qk.open_ask : ∀ (fuel : Nat) {cs : List Value} {x : DataW H × List MemPlace}, DataW.trod enc Tryz.prog W 0 (fun _ => true) true fuel 24 cs = some x →
    ∃ (e : Qk.E) (q : Qk.AT fuel), cs = [.int .i64 e.k, .int .i64 e.n, .slice e.args.ad e.args.len e.args.cap] ∧ Qk.RA W fuel e q := by
  intro fuel
  induction fuel using Nat.strongRecOn with
  | _ fuel ih =>
    intro cs x h
    obtain ⟨xs, n, hfu, _, hl, hlen, hf⟩ := DataW.trod_struct Tryz.underlying24 h
    rw [Tryz.qcellsAsk] at hl
    obtain ⟨v0, v1, v2, rfl⟩ := Qk.three_of hl
    obtain ⟨x0, x1, x2, rfl⟩ := Qk.three_of (show xs.length = 3 from hlen)
    have f0 : DataW.trod enc Tryz.prog W 0 (fun _ => true) true n 3 (([v0, v1, v2].drop 0).take (Tryz.prog.cellsOf 3)) = some x0 := hf 0 _ rfl
    have f1 : DataW.trod enc Tryz.prog W 0 (fun _ => true) true n 3 (([v0, v1, v2].drop 1).take (Tryz.prog.cellsOf 3)) = some x1 := hf 1 _ rfl
    have f2 : DataW.trod enc Tryz.prog W 0 (fun _ => true) true n 22 (([v0, v1, v2].drop 2).take (Tryz.prog.cellsOf 22)) = some x2 := hf 2 _ rfl
    rw [Tryz.qcells3] at f0 f1
    rw [Tryz.qcellsAsks] at f2
    obtain ⟨z0, e0, _, _⟩ := DataW.trod_int Tryz.underlying3 f0
    obtain ⟨z1, e1, _, _⟩ := DataW.trod_int Tryz.underlying3 f1
    simp at e0 e1
    subst e0 e1 hfu
    rcases DataW.trod_slice Tryz.underlying22 f2 with ⟨hcs, hx⟩ | ⟨a, len, cap, elems, rest, m, hfm, hcs, hx, hb, hle, hm, hlen2, hel, hsp, hns⟩
    · simp at hcs
      subst hcs
      exact ⟨⟨z0, z1, ⟨none, 0, 0⟩⟩, ((z0, z1), []), rfl, ⟨rfl, rfl⟩, rfl, by simp, fun i y hy => by simp at hy⟩
    · simp at hcs
      subst hcs hfm
      have each : ∀ i : Fin len, ∃ y : Qk.AT m, ∃ c : Qk.E, Qk.RA W m c y ∧ ∀ j v, [Value.int .i64 c.k, .int .i64 c.n, .slice c.args.ad c.args.len c.args.cap][j]? = some v → W.cell? (a.add (i.1 * 3 + j)) = some v := by
        intro ⟨i, hi⟩
        have h1 := hel i hi
        rw [Tryz.qcellsAsk, List.getElem?_eq_getElem (by omega)] at h1
        cases hc : W.cells? 0 (a.add (i * 3)) 3 with
        | none => rw [hc] at h1; cases h1
        | some cs' =>
          rw [hc] at h1
          obtain ⟨c, y, rfl, hr⟩ := ih m (by omega) h1
          obtain ⟨_, _, hcell⟩ := World.cells?_some hc
          refine ⟨y, c, hr, fun j v hv => ?_⟩
          have hj : j < 3 := (List.getElem?_eq_some_iff.1 hv).1
          have e0 := hcell j hj
          rw [add_add] at e0
          rw [e0]
          exact hv
      obtain ⟨F, hF⟩ := Classical.axiomOfChoice each
      refine ⟨⟨z0, z1, ⟨some a, len, cap⟩⟩, ((z0, z1), List.ofFn fun i => Qk.up m (F i)), rfl, ⟨rfl, rfl⟩, (List.length_ofFn).symm, ?_, fun i y hy => ?_⟩
      · rw [List.length_ofFn]
        have : maxLen = 9223372036854775807 := rfl
        omega
      · have hy' : (List.ofFn fun i => Qk.up m (F i))[i]? = some y := hy
        rw [List.getElem?_ofFn] at hy'
        by_cases hlt : i < len
        · rw [dif_pos hlt] at hy'
          cases hy'
          obtain ⟨c, hr, hc⟩ := hF ⟨i, hlt⟩
          obtain ⟨b, off, spot⟩ := a
          have f0 := hc 0 _ rfl
          have f1 := hc 1 _ rfl
          have f2 := hc 2 _ rfl
          obtain ⟨c0, _, hc0⟩ := hF ⟨0, by omega⟩
          have hspot : spot = none := by simpa [Addr.add] using World.cell?_spot (hc0 0 _ rfl)
          subst hspot
          have hb := World.block_lt_of_cell? W _ f0
          rw [Go.WideShapes.add_plain] at f0 f1 f2 hb
          exact ⟨b, off, c, rfl, hb, ⟨by simpa using f0, f1, f2⟩, hr.up⟩
        · rw [dif_neg hlt] at hy'
          cases hy'
end
end Go.Proofs.YtfhlnelgnnkeoaaGreatDoor
