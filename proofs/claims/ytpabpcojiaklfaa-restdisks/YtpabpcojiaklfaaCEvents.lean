/-
  The contract of events of package column. By the verifier.
-/
import Derived.Test.YtpabpcojiaklfaaCDecLem
import Derived.Test.YtpabpcojiaklfaaRWr
namespace Go.Proofs.Ytpabpcojiaklfaa
open Go.RowKit
set_option linter.unusedVariables false

theorem Try.infoE : (Try.prog.info? 70).map (fun i => (i.zero, i.size, i.bytes)) = some (some (.agg #[.int .i64 0, .int .i64 0, .int .i64 0, .int .i64 0, .int .i64 0, .int .i64 0]), 6, 48) := by kernel_rfl

/-- Events as a row of cells. -/
def Cl.evC (l : List Ev) : List Value := l.flatMap Ev.cells
theorem Cl.evC_length : ∀ l : List Ev, (Cl.evC l).length = l.length * 6
  | [] => rfl
  | e :: r => by
    show (e.cells ++ Cl.evC r).length = _
    rw [List.length_append, Cl.evC_length r, List.length_cons]
    show 6 + r.length * 6 = _
    omega
theorem Cl.evC_at : ∀ (l : List Ev) (i : Nat) (x : Ev) (j : Nat) (v : Value), l[i]? = some x → x.cells[j]? = some v → (Cl.evC l)[i * 6 + j]? = some v
  | [], i, x, j, v, h, _ => by simp at h
  | e :: r, 0, x, j, v, h, hv => by
    simp at h
    subst h
    show (e.cells ++ Cl.evC r)[0 * 6 + j]? = _
    have hj := (List.getElem?_eq_some_iff.1 hv).1
    rw [Nat.zero_mul, Nat.zero_add, List.getElem?_append_left hj]
    exact hv
  | e :: r, i + 1, x, j, v, h, hv => by
    show (e.cells ++ Cl.evC r)[(i + 1) * 6 + j]? = _
    have e6 : e.cells.length = 6 := rfl
    rw [List.getElem?_append_right (by rw [e6]; omega), e6, show (i + 1) * 6 + j - 6 = i * 6 + j by omega]
    exact Cl.evC_at r i x j v (by simpa using h) hv
theorem Cl.evC_snoc (l : List Ev) (e : Ev) : Cl.evC (l ++ [e]) = Cl.evC l ++ e.cells := by
  unfold Cl.evC
  simp

theorem Cl.RE.of {W : World} {B g cap : Nat} {l : List Ev} (h : W.ownsRow B 70 6 (.slice (some ⟨g, 0, none⟩) l.length cap) l.length (Cl.evC l)) : Cl.RE W (some ⟨g, 0, none⟩) l := by
  refine ⟨fun i x hi => ?_⟩
  have c : ∀ j v, x.cells[j]? = some v → W.cell? ⟨g, 0 + i * 6 + j, none⟩ = some v := fun j v hv => by
    have := h.cells (g := g) rfl (i * 6 + j) v (Cl.evC_at l i x j v hi hv)
    rw [Dk.add_at] at this
    rw [Nat.zero_add]
    simpa using this
  have c0 := c 0 _ rfl
  exact ⟨g, 0, rfl, World.block_lt_of_cell? W _ c0, by simpa using c0, c 1 _ rfl, c 2 _ rfl, c 3 _ rfl, c 4 _ rfl, c 5 _ rfl⟩

theorem Rs.Wr.own {W : World} {B g cap : Nat} {l : List Ev} (h : W.ownsRow B 70 6 (.slice (some ⟨g, 0, none⟩) l.length cap) l.length (Cl.evC l)) : Rs.Wr 6 0 B W (some ⟨g, 0, none⟩) l.length := by
  obtain ⟨h1, h2⟩ := h.lt g rfl
  refine ⟨fun i hi => ⟨g, 0, rfl, h1, h2, ?_, h.frozenAt _⟩⟩
  obtain ⟨_, _, he, _, c0, _⟩ := (Cl.RE.of h).at_ i l[i] (List.getElem?_eq_getElem hi)
  cases he
  exact ⟨_, c0, rfl⟩

set_option maxRecDepth 100000 in
set_option maxHeartbeats 1600000 in
theorem events_wr (l : List Ev) (ad : Option Addr) (cap : Nat) (w : World) (hr : Cl.RE w ad l) (hl : l.length ≤ 4000) :
    Calls Try.prog 51 #[.slice ad l.length cap] w fun e w' => ∃ a c, e = .returned (.slice a l.length c) ∧ Cl.RE w' a l ∧ Below w.heap.size w w' ∧ Rs.Wr 6 0 w.heap.size w' a l.length := by
  obtain ⟨i0, hi, hz0, hz1, hz2⟩ := info_of Try.infoE
  have HI := hide hi
  have HZ0 := hide hz0
  have HZ1 := hide hz1
  have HZ2 := hide hz2
  have HR := hide hr
  clear hi hz0 hz1 hz2 hr
  go_enter Try.func51, Try.ntmps51
  go_wp2_with fail
  go_loopw [3, 8] (fun sv v wr => ∃ (k : Nat) (a : Option Addr) (c : Nat), k ≤ l.length ∧ v = .int .i64 (k : Nat) ∧ sv = .slice a k c ∧ wr.ownsRow w.heap.size 70 6 (.slice a k c) k (Cl.evC (l.take k)) ∧ Below w.heap.size w wr) (fun _ v _ => l.length - (intOf v).toNat)
  case atStart => exact ⟨0, none, 0, by omega, rfl, rfl, World.ownsRow_nil _ _ _ _, Below.refl _ _⟩
  case round =>
    obtain ⟨k, a, c, hk, rfl, rfl, how, hbe⟩ := hrel
    have HOW := hide how
    have HBE := hide hbe
    have hz := hbe.size
    clear how hbe
    by_cases hlt : k < l.length
    · obtain ⟨t, ht⟩ : ∃ t, l[k]? = some t := ⟨l[k], List.getElem?_eq_getElem hlt⟩
      obtain ⟨b, o, rfl, hb, c0, c1, c2, c3, c4, c5⟩ := ((unhide HR).later (unhide HBE) (Nat.le_refl _)).at_ k t ht
      have HT := hide ht
      clear ht
      have hk1 : (0 : Int) ≤ (k : Int) := by omega
      have hk2 : (k : Int) < (l.length : Int) := by omega
      go_wp2_with fail
      refine (Event_any t _).mono ?_
      rintro e w2 ⟨rfl, hb2⟩
      have HB2 := hide (below_two hb2)
      have hz2 := (unhide HB2).size
      have HO2 := hide (Cl.ow_below (unhide HOW) (unhide HB2))
      have HOA := hide ((unhide HO2).alloc (.cells #[.int .i64 t.n0, .int .i64 t.n1, .int .i64 t.n2, .int .i64 t.n3, .int .i64 t.n4, .int .i64 t.n5] 70))
      have HBK := hide (heap_alloc_new w2 (.cells #[.int .i64 t.n0, .int .i64 t.n1, .int .i64 t.n2, .int .i64 t.n3, .int .i64 t.n4, .int .i64 t.n5] 70))
      have HLT := hide (show ∀ q, (Value.slice a k c).ownBlock = some q → w.heap.size ≤ q ∧ q < w2.heap.size from (unhide HO2).lt)
      clear hb2 c0 c1 c2 c3 c4 c5
      unfold Ev.agg
      go_wp2_with (at_builtin; refine wpList_append_lies _ (by rfl) _ _ _ (by rfl) w.heap.size 70 i0 _ 6 48 Try.underlying34 (unhide HI) (unhide HZ0) (unhide HZ1) (unhide HZ2) rfl (by omega) (.slice a k c) k (Cl.evC (l.take k)) (by rfl) (unhide HOA) ⟨w2.heap.size, 0, none⟩ 1 1 t.cells (by rfl) (by rfl) (World.news_of_block (unhide HBK)) (by simp [Ev.cells, Value.oneCell']) (by omega) (by unfold maxLen; omega) (by omega) (by simp; omega) (w2.heap.size + 1) (by simp) ?_; intro g2 cap2 w3 hown3 hgrow3 hat3 hlt3; have HO3 := hide hown3; have HG3 := hide hgrow3; clear hown3 hgrow3 hat3)
      refine ⟨⟨k + 1, some ⟨g2, 0, none⟩, cap2, by omega, by go_num, rfl, ?_, ?_⟩, by simp [intOf]; omega⟩
      · rw [List.take_add_one, unhide HT]
        show World.ownsRow _ _ _ _ _ _ (Cl.evC (l.take k ++ [t]))
        rw [Cl.evC_snoc]
        exact unhide HO3
      · exact (((unhide HBE).trans ((unhide HB2).mono hz)).alloc (by omega) _).grown (unhide HG3) (by simp; omega) (fun q hq => ((unhide HLT) q hq).1)
    · have hk2 : ¬ (k : Int) < (l.length : Int) := by omega
      have hkl : k = l.length := by omega
      subst hkl
      go_wp2_with fail
      go_ret
      refine ⟨a, ⟨c, rfl⟩, ?_, unhide HBE, ?_⟩
      · by_cases h0 : l.length = 0
        · have : l = [] := List.eq_nil_of_length_eq_zero h0
          subst this
          exact Cl.RE.nil _ _
        · have how := unhide HOW
          rw [List.take_length] at how
          obtain ⟨g, cap', hv, _, _⟩ := how.form (by omega)
          cases hv
          exact Cl.RE.of how
      · by_cases h0 : l.length = 0
        · rw [h0]; exact Rs.Wr.nil _ _ _ _ _
        · have how := unhide HOW
          rw [List.take_length] at how
          obtain ⟨g, cap', hv, _, _⟩ := how.form (by omega)
          cases hv
          exact Rs.Wr.own how
theorem events_any (l : List Ev) (ad : Option Addr) (cap : Nat) (w : World) (hr : Cl.RE w ad l) (hl : l.length ≤ 4000) :
    Calls Try.prog 51 #[.slice ad l.length cap] w fun e w' => ∃ a c, e = .returned (.slice a l.length c) ∧ Cl.RE w' a l ∧ Below w.heap.size w w' :=
  (events_wr l ad cap w hr hl).mono fun e w' ⟨a, c, h1, h2, h3, _⟩ => ⟨a, c, h1, h2, h3⟩
end Go.Proofs.Ytpabpcojiaklfaa
