/-
  A row of bytes that []byte(text) lays (a mark lies behind its last cell), and one byte more behind it. By the verifier.
-/
import Derived.Test.YtpabpcojiaklfaaLBase
import Derived.Laws.CopyRow
namespace Go.Proofs.Ytpabpcojiaklfaa
open Go.RowKit
set_option linter.unusedVariables false

/-- Bytes of the call's own, that lie in a block; whatever is marked lies behind them. -/
structure Lg.Ow (w : World) (B : Nat) (v : Value) (bs : List Nat) : Prop where
  lies : ∃ (g cap : Nat) (cur : Array Value) (fz : Nat × Nat), v = .slice (some ⟨g, 0, none⟩) bs.length cap ∧ B ≤ g ∧ w.heap[g]? = some (.cells cur 5 fz) ∧ (fz = (0, 0) ∨ cap ≤ fz.1) ∧ bs.length ≤ cap ∧ cap ≤ maxLen ∧ cur.size = cap ∧ ∀ (j b : Nat), bs[j]? = some b → cur[j]? = some (Value.int .u8 (b : Nat))

theorem Lg.Ow.below {w w' : World} {B : Nat} {v : Value} {bs : List Nat} (h : Lg.Ow w B v bs) (hb : Below w.heap.size w w') : Lg.Ow w' B v bs := by
  obtain ⟨g, cap, cur, fz, h1, h2, h3, h4⟩ := h.lies
  exact ⟨g, cap, cur, fz, h1, h2, (hb.block g (Array.getElem?_eq_some_iff.1 h3).1).trans h3, h4⟩
theorem Lg.Ow.alloc {w : World} {B : Nat} {v : Value} {bs : List Nat} (h : Lg.Ow w B v bs) (o : Obj) : Lg.Ow (w.alloc o) B v bs := h.below ((Below.refl _ _).alloc (Nat.le_refl _) o)

theorem Lg.frozen_no {w : World} {g n cap : Nat} {cur : Array Value} {fz : Nat × Nat} (hg : w.heap[g]? = some (.cells cur 5 fz)) (hfz : fz = (0, 0) ∨ cap ≤ fz.1) (hn : n < cap) : w.frozen? ⟨g, n, none⟩ = false := by
  obtain ⟨lo, hi⟩ := fz
  simp only [World.frozen?, hg, Bool.and_eq_false_iff, decide_eq_false_iff_not]
  rcases hfz with h | h
  · cases h
    right
    omega
  · left
    simp only at h
    omega

theorem Lg.append1 (w : World) (ty : TypeId) (B : Nat) (v : Value) (bs : List Nat) (h : Lg.Ow w B v bs) (ad : Addr) (x : Nat) (hx : w.cell? ad = some (.int .u8 (x : Nat))) (hl : bs.length ≤ 1000000) (hB : B ≤ w.heap.size) :
    ∃ v' w', (Builtin.append_ #[77, 77] ty #[v, .slice (some ad) 1 1]).run Try.prog w = .ok v' w' ∧ Lg.Ow w' B v' (bs ++ [x]) ∧ w.grownBy w' v.ownBlock := by
  obtain ⟨i, hi, hz0, hz1, hz2⟩ := info_of Try.infoU
  obtain ⟨g, cap, cur, fz, rfl, hBg, hg, hfz, hn, hcm, hcs, hc⟩ := h.lies
  have hnews : ∀ j u, ([.int .u8 (x : Nat)] : List Value)[j]? = some u → w.cell? (ad.add j) = some u := fun j u hj => by
    match j, hj with
    | 0, hj => cases hj; simpa [Addr.add] using hx
    | j + 1, hj => simp at hj
  have hf := run_firstCells_some (P := Try.prog) w i.size 1 ad 1 1 [.int .u8 (x : Nat)] (by rw [hz1]; rfl) hnews
  rw [hz1] at hf
  by_cases hroom : bs.length + 1 ≤ cap
  · have hcell : w.cell? ⟨g, bs.length, none⟩ = some (cur[bs.length]'(by omega)) := by simp [World.cell?, hg]
    have hfro := Lg.frozen_no (n := bs.length) hg hfz (by omega)
    have hst : (storeCells ⟨g, bs.length, none⟩ [.int .u8 (x : Nat)] 0).run Try.prog w = .ok () (w.setCell ⟨g, bs.length, none⟩ (.int .u8 (x : Nat))) := by
      have e : (⟨g, bs.length, none⟩ : Addr).add 0 = ⟨g, bs.length, none⟩ := by simp [Addr.add]
      simp [storeCells, e, go_sem, stored, hcell, hfro]
    have hr : (Builtin.append_ #[77, 77] ty #[.slice (some ⟨g, 0, none⟩) bs.length cap, .slice (some ad) 1 1]).run Try.prog w = .ok (.slice (some ⟨g, 0, none⟩) (bs.length + 1) cap) (w.setCell ⟨g, bs.length, none⟩ (.int .u8 (x : Nat))) := by
      simp [Builtin.append_, run_underlying Try.underlying77, sizeOf, typeInfo, hi, hz1, Builtin.lenOf, hroom, Addr.add_lit, hf, hst]
    refine ⟨_, _, hr, ⟨g, cap, cur.setIfInBounds bs.length (.int .u8 (x : Nat)), fz, by simp, hBg, ?_, hfz, by simp; omega, hcm, by simpa using hcs, ?_⟩, ?_⟩
    · rw [setCell_eq_setRow w g bs.length cur 5 fz _ hg]
      exact setRow_heap w g cur _ 5 fz hg
    · intro j b hj
      by_cases hjl : j < bs.length
      · rw [List.getElem?_append_left hjl] at hj
        rw [Array.getElem?_setIfInBounds_ne (by omega)]
        exact hc j b hj
      · rw [List.getElem?_append_right (by omega)] at hj
        have hj0 : j - bs.length = 0 := by have := (List.getElem?_eq_some_iff.1 hj).1; simp at this; omega
        rw [hj0] at hj
        simp at hj
        subst hj
        have : j = bs.length := by omega
        subst this
        rw [Array.getElem?_setIfInBounds_self_of_lt (by omega)]
    · rw [setCell_eq_setRow w g bs.length cur 5 fz _ hg]
      exact ⟨rfl, rfl, rfl, by simp, fun k _ hk => setRow_other w g k _ (fun e => hk (by simp [Value.ownBlock, e]))⟩
  · have holds : ∀ j u, (Cl.by8 bs)[j]? = some u → w.cell? ((⟨g, 0, none⟩ : Addr).add j) = some u := fun j u hj => by
      unfold Cl.by8 at hj
      rw [List.getElem?_map] at hj
      cases hb : bs[j]? with
      | none => rw [hb] at hj; cases hj
      | some b =>
        rw [hb] at hj
        cases hj
        rw [Dk.add_at]
        dsimp only [World.cell?]
        rw [hg, Nat.zero_add]
        exact hc j b hb
    have hlen : (Cl.by8 bs).length = bs.length * i.size := by unfold Cl.by8; rw [hz1]; simp
    have hr := run_append_grow (P := Try.prog) w 77 ty 5 i _ Try.underlying77 hi hz0 ⟨g, 0, none⟩ bs.length cap (Cl.by8 bs) hlen holds ad 1 1 [.int .u8 (x : Nat)] (by rw [hz1]; rfl) hnews (by omega) (by omega) (growslice_fits (by omega) (by rw [hz2]; omega))
    have hge := grownCap_ge w (bs.length + 1) cap 5
    have hcm2 : grownCap w (bs.length + 1) cap 5 ≤ maxLen := grownCap_le_maxLen w (bs.length + 1) cap 5 (by unfold maxLen; omega)
    refine ⟨_, _, hr, ⟨w.heap.size, grownCap w (bs.length + 1) cap 5, _, (0, 0), by simp, hB, heap_alloc_new w.drew _, Or.inl rfl, by simpa using hge, hcm2, ?_, ?_⟩, ⟨rfl, rfl, rfl, by simp, fun k hk _ => heap_alloc_old w.drew _ hk⟩⟩
    · simp [Cl.by8, size_zeroCells, Value.cells]
      omega
    · intro j b hj
      have hjl := (List.getElem?_eq_some_iff.1 hj).1
      have e : (Cl.by8 bs).toArray ++ #[Value.int .u8 (x : Nat)] = (Cl.by8 (bs ++ [x])).toArray := by rw [Cl.by8_append, Cl.by8_one]; simp
      rw [e, Array.getElem?_append_left (by simpa [Cl.by8] using hjl)]
      simp only [Cl.by8, List.getElem?_toArray, List.getElem?_map, hj]
      rfl

/-- One byte more, in a walk. -/
theorem Lg.wp_append1 {ops : Array Oper} {rest : List Oper} {o : Oper} {a : Act} {Q : Exit → Act → World → Prop} (hgd : o.guard = none) (s x : Operand)
    (ho : o.op = .call { callee := .builtin .append, args := #[s, x], argTypes := #[77, 77] }) (w : World) (B : Nat) (v : Value) (bs : List Nat) (hs : a.eval s = v) (h : Lg.Ow w B v bs) (ad : Addr) (y : Nat) (hx : a.eval x = .slice (some ad) 1 1) (hc : w.cell? ad = some (.int .u8 (y : Nat))) (hl : bs.length ≤ 1000000) (hB : B ≤ w.heap.size)
    (k : ∀ v' w', Lg.Ow w' B v' (bs ++ [y]) → w.grownBy w' v.ownBlock → wpList Try.prog ops Q rest (a.put o.dst v') w') : wpList Try.prog ops Q (o :: rest) a w := by
  refine wpList_plain hgd fun K hK => ?_
  obtain ⟨v', w', hr, h2, h3⟩ := Lg.append1 w o.type B v bs h ad y hc hl hB
  unfold Oper.wp execOp
  simp only [ho, resolve, invoke, builtin, Sem.run_bind, Sem.run_pure, Result.andThen_ok, List.map_toArray, List.map_cons, List.map_nil, hs, hx, hr]
  exact hK _ _ (k v' w' h2 h3)

/-- What []byte(text) lays. -/
theorem Lg.of_text (bs : List Nat) (w : World) (hb : ∀ b ∈ bs, b < 256) (hl : bs.length ≤ 1000000) :
    ∃ (v : Value) (WA : World), (convert 9 77 (.string (Cl.str bs))).run Try.prog w = .ok v WA ∧ Lg.Ow WA w.heap.size v bs ∧ Below w.heap.size w WA := by
  have h := run_bytes_of_string (P := Try.prog) w 9 77 5 (Cl.str bs) Try.underlying9 Try.underlying77 Try.underlying5
  rw [Cl.str_size] at h
  have hge := grownCap_ge w bs.length 0 5
  have hcm : grownCap w bs.length 0 5 ≤ maxLen := grownCap_le_maxLen w bs.length 0 5 (by unfold maxLen; omega)
  have hsz : (bytesRow (Cl.str bs) (grownCap w bs.length 0 5)).size = grownCap w bs.length 0 5 := by
    unfold bytesRow
    rw [Array.size_append, Array.size_map, Array.size_replicate]
    have : (Cl.str bs).data.size = bs.length := Cl.str_size bs
    have h2 : (Cl.str bs).size = bs.length := Cl.str_size bs
    omega
  refine ⟨_, _, h, ⟨w.heap.size, grownCap w bs.length 0 5, _, _, rfl, Nat.le_refl _, heap_alloc_new w.drew _, Or.inr (by rw [hsz]; exact Nat.le_refl _), hge, hcm, hsz, fun j b hj => ?_⟩, (Below.refl _ _).drew.alloc (Nat.le_refl _) _⟩
  have hx := hb b (List.mem_of_getElem? hj)
  have hlt := (List.getElem?_eq_some_iff.1 hj).1
  have hx' : bs[j] = b := (List.getElem?_eq_some_iff.1 hj).2
  simp [bytesRow, Array.getElem?_append, Cl.str, hlt, hx']
  omega
end Go.Proofs.Ytpabpcojiaklfaa
