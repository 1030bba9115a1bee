/-
  Several texts in one: LSmall, LSameB. By the verifier.
-/
import Derived.Test.YtpabpcojiaklfaaLAppend
import Derived.Test.YtpabpcojiaklfaaCBegun
namespace Go.Proofs.Ytpabpcojiaklfaa
open Go.RowKit
set_option linter.unusedVariables false

theorem Lg.small_fmt : Lg.batchesOf (Lg.fmt 20) = some ([], List.replicate 19 (Dk.zeros 32)) := by kernel_rfl
theorem Lg.small_chk : Dk.chk (Lg.fmt 20) [] = 0 := by decide +kernel
theorem Lg.small_app : Lg.app (Lg.fmt 20) [] Cl.small = .ok ([], List.replicate 19 (Dk.zeros 32)) := by
  unfold Lg.app
  rw [if_pos Lg.small_chk, if_neg (by decide), if_pos Cl.small_ok, Lg.small_fmt]
  rfl
theorem Lg.small_chk2 : Dk.chk (Lg.ks2 (Lg.fmt 20) 1 (Lg.laid Cl.small) (Lg.hd 1)) [] = 0 := by decide +kernel
theorem Lg.small_open2 : (Lg.batchesOf (Lg.ks2 (Lg.fmt 20) 1 (Lg.laid Cl.small) (Lg.hd 1))).map Prod.fst = some [Cl.small] := by kernel_rfl
theorem Lg.small_open : Lg.opened (Lg.ks2 (Lg.fmt 20) 1 (Lg.laid Cl.small) (Lg.hd 1)) [] = .ok [Cl.small] := by
  unfold Lg.opened
  rw [if_pos Lg.small_chk2]
  have h := Lg.small_open2
  cases hx : Lg.batchesOf (Lg.ks2 (Lg.fmt 20) 1 (Lg.laid Cl.small) (Lg.hd 1)) with
  | none => rw [hx] at h; cases h
  | some x =>
    rw [hx] at h
    injection h with h
    show Except.ok x.1 = _
    rw [h]
theorem Lg.small_open0 : Lg.opened (Lg.fmt 20) [] = .ok [] := by
  unfold Lg.opened
  rw [if_pos Lg.small_chk, Lg.small_fmt]
end Go.Proofs.Ytpabpcojiaklfaa
namespace Go.Proofs.Ytpabpcojiaklfaa
open Go.RowKit
set_option linter.unusedVariables false

/-- Batches, as they are read. -/
structure Lg.RL (w : World) (ad : Option Addr) (ls : List (List Ev)) : Prop where
  at_ : ∀ i l, ls[i]? = some l → ∃ b o a c, ad = some ⟨b, o, none⟩ ∧ b < w.heap.size ∧ w.cell? ⟨b, o + i, none⟩ = some (.slice a l.length c) ∧ Cl.RE w a l
theorem Lg.RL.later {w w' : World} {ad : Option Addr} {ls : List (List Ev)} (h : Lg.RL w ad ls) {B : Nat} (hb : Below B w w') (hB : w.heap.size ≤ B) : Lg.RL w' ad ls :=
  ⟨fun i l hi => by
    obtain ⟨b, o, a, c, h1, h2, h3, h4⟩ := h.at_ i l hi
    have hc : ∀ j, w'.cell? ⟨b, j, none⟩ = w.cell? ⟨b, j, none⟩ := fun j => hb.cell (p := ⟨b, j, none⟩) (by show b < B; omega)
    exact ⟨b, o, a, c, h1, by have := hb.size; omega, by rw [hc]; exact h3, h4.later hb hB⟩⟩
theorem Lg.BB.rl {W : World} {B : Nat} {a : Option Addr} {n c : Nat} {ls : List (List Ev)} (h : Lg.BB W B (.slice a n c) ls) : Lg.RL W a ls := by
  obtain ⟨svs, h1, h2⟩ := h.rows
  refine ⟨fun i l hi => ?_⟩
  obtain ⟨a', k, h3, h4⟩ := h2 i l hi
  have hil := (List.getElem?_eq_some_iff.1 hi).1
  obtain ⟨g, cap, hv, _, _⟩ := h1.form (by omega)
  cases hv
  have hc := h1.cells (g := g) rfl i _ h3
  rw [Dk.add_at, Nat.zero_add] at hc
  exact ⟨g, 0, a', k, rfl, World.block_lt_of_cell? W _ hc, by rw [Nat.zero_add]; exact hc, h4.re⟩

/-- Two cells, and the world behind another. -/
abbrev Lg.S2 (b o b' o' : Nat) (A0 A1 : Value) (w4 W : World) : Prop := W.cell? ⟨b, o, none⟩ = some A0 ∧ W.cell? ⟨b', o', none⟩ = some A1 ∧ Below w4.heap.size w4 W
theorem Lg.S2.below {b o b' o' : Nat} {A0 A1 : Value} {w4 W W' : World} (h : Lg.S2 b o b' o' A0 A1 w4 W) (hb : Below W.heap.size W W') : Lg.S2 b o b' o' A0 A1 w4 W' := by
  obtain ⟨h1, h2, h3⟩ := h
  refine ⟨?_, ?_, h3.trans (hb.mono h3.size)⟩
  · rw [hb.cell (World.block_lt_of_cell? W _ h1)]; exact h1
  · rw [hb.cell (World.block_lt_of_cell? W _ h2)]; exact h2
theorem Lg.S2.drew {b o b' o' : Nat} {A0 A1 : Value} {w4 W : World} (h : Lg.S2 b o b' o' A0 A1 w4 W) : Lg.S2 b o b' o' A0 A1 w4 W.drew := ⟨h.1, h.2.1, h.2.2.drew⟩
theorem Lg.S2.bel {b o b' o' : Nat} {A0 A1 : Value} {w4 W : World} (h : Lg.S2 b o b' o' A0 A1 w4 W) : Below w4.heap.size w4 W := h.2.2

set_option maxRecDepth 100000 in
set_option maxHeartbeats 1600000 in
theorem SameBatches_eq (ls : List (List Ev)) (ad bd : Option Addr) (cap dap : Nat) (w : World) (hr : Lg.RL w ad ls) (hr2 : Lg.RL w bd ls) (hl : ls.length ≤ 4000) (hll : ∀ l ∈ ls, l.length ≤ 4000) :
    Calls Try.prog 17 #[.slice ad ls.length cap, .slice bd ls.length dap] w fun e w' => e = .returned (.bool true) ∧ Below w.heap.size w w' := by
  have HR := hide hr
  have HR2 := hide hr2
  have HLL := hide hll
  clear hr hr2 hll
  have gll : ((ls.length : Int) != (ls.length : Int)) = false := by simp
  go_enter Try.func17, Try.ntmps17
  go_wp2_with fail
  go_loopw [5] (fun v wr => ∃ k : Nat, k ≤ ls.length ∧ v = .int .i64 (k : Nat) ∧ Below w.heap.size w wr) (fun v _ => ls.length - (intOf v).toNat)
  case atStart => exact ⟨0, by omega, rfl, Below.refl _ _⟩
  case round =>
    obtain ⟨k, hk, rfl, hbe⟩ := hrel
    have HBE := hide hbe
    clear hbe
    by_cases hlt : k < ls.length
    · obtain ⟨t, ht⟩ : ∃ t, ls[k]? = some t := ⟨ls[k], List.getElem?_eq_getElem hlt⟩
      obtain ⟨b, o, a, c, rfl, hb, c0, he⟩ := ((unhide HR).later (unhide HBE) (Nat.le_refl _)).at_ k t ht
      obtain ⟨b', o', a', c', rfl, hb', d0, he2⟩ := ((unhide HR2).later (unhide HBE) (Nat.le_refl _)).at_ k t ht
      have htl := (unhide HLL) t (List.mem_of_getElem? ht)
      have HE := hide he
      have HE2 := hide he2
      clear ht he he2
      have hk1 : (0 : Int) ≤ (k : Int) := by omega
      have hk2 : (k : Int) < (ls.length : Int) := by omega
      have HS0 := hide (show Lg.S2 b (o + k) b' (o' + k) (.slice a t.length c) (.slice a' t.length c') wr wr from ⟨c0, d0, Below.refl _ _⟩)
      go_wp2_with fail
      go_region_held3 (fun W => W.cell? ⟨b, o + k, none⟩ = some (.slice a t.length c) ∧ W.cell? ⟨b', o' + k, none⟩ = some (.slice a' t.length c') ∧ Below wr.heap.size wr W)
        (first
          | exact Lg.S2.below (by assumption) (unhide HB3)
          | exact Lg.S2.drew (unhide HS0))
        (first
          | (go_at_call 24; refine (SameEvents_eq t a a' c c' _ ?_ ?_ htl).mono ?_; exact (unhide HE).later (Lg.S2.bel (by assumption)) (Nat.le_refl _); exact (unhide HE2).later (Lg.S2.bel (by assumption)) (Nat.le_refl _); rintro e w3 ⟨rfl, hb3⟩; have HB3 := hide hb3; have HBQ := hide (Lg.bb (Lg.S2.bel (A0 := .slice a t.length c) (A1 := .slice a' t.length c') (w4 := wr) (b := b) (o := o + k) (b' := b') (o' := o' + k) (by assumption)) hb3); clear hb3))
      go_wp2_with fail
      exact ⟨⟨k + 1, by omega, by go_num, (unhide HBE).trans ((unhide HBQ).mono (unhide HBE).size)⟩, by simp [intOf]; omega⟩
    · have hk2 : ¬ (k : Int) < (ls.length : Int) := by omega
      go_wp2_with fail
      go_ret
      exact ⟨rfl, unhide HBE⟩
end Go.Proofs.Ytpabpcojiaklfaa
