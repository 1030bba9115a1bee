/-
  textOf of package query, for every query that passes Check. By the verifier.
-/
import Derived.Test.YtfhlnelgnnkeoaaGreatDoorQText
import Derived.Deep.RegionHeld3
import Derived.Laws.Concat
namespace Go.Proofs.YtfhlnelgnnkeoaaGreatDoor
open Go.RowKit
set_option linter.unusedVariables false

/-- What lies ahead of a pair's text. -/
abbrev Qk.S7 (w : World) (b o cap : Nat) (cy cz : Qk.E) (W : World) : Prop := W.cell? ⟨w.heap.size, 2, none⟩ = some (.slice (some ⟨b, o, none⟩) 2 cap) ∧ W.cell? ⟨b, o, none⟩ = some (.int .i64 cy.k) ∧ W.cell? ⟨b, o + 1, none⟩ = some (.int .i64 cy.n) ∧ W.cell? ⟨b, o + 2, none⟩ = some (.slice cy.args.ad cy.args.len cy.args.cap) ∧ W.cell? ⟨b, o + 3, none⟩ = some (.int .i64 cz.k) ∧ W.cell? ⟨b, o + 3 + 1, none⟩ = some (.int .i64 cz.n) ∧ W.cell? ⟨b, o + 3 + 2, none⟩ = some (.slice cz.args.ad cz.args.len cz.args.cap) ∧ Below w.heap.size w W
theorem Qk.S7.bel {w W : World} {b o cap : Nat} {cy cz : Qk.E} (h : Qk.S7 w b o cap cy cz W) : Below w.heap.size w W := h.2.2.2.2.2.2.2
theorem Qk.S7.below {w W W' : World} {b o cap : Nat} {cy cz : Qk.E} (h : Qk.S7 w b o cap cy cz W) (hb : Below W.heap.size W W') : Qk.S7 w b o cap cy cz W' := by
  obtain ⟨h1, h2, h3, h4, h5, h6, h7, h8⟩ := h
  have l1 : w.heap.size < W.heap.size := World.block_lt_of_cell? W _ h1
  have l2 : b < W.heap.size := World.block_lt_of_cell? W _ h2
  exact ⟨(hb.cell (p := ⟨w.heap.size, 2, none⟩) l1).trans h1, (hb.cell (p := ⟨b, o, none⟩) l2).trans h2, (hb.cell (p := ⟨b, o + 1, none⟩) l2).trans h3, (hb.cell (p := ⟨b, o + 2, none⟩) l2).trans h4, (hb.cell (p := ⟨b, o + 3, none⟩) l2).trans h5, (hb.cell (p := ⟨b, o + 3 + 1, none⟩) l2).trans h6, (hb.cell (p := ⟨b, o + 3 + 2, none⟩) l2).trans h7, h8.trans (hb.mono h8.size)⟩
theorem Qk.S7.drew {w W : World} {b o cap : Nat} {cy cz : Qk.E} (h : Qk.S7 w b o cap cy cz W) : Qk.S7 w b o cap cy cz W.drew := h.below (Below.refl _ _).drew
theorem Qk.isK_parts {n : Nat} {k m : Int} {l : List (Qk.AT n)} (h : Qk.wrong (n + 1) ((k, m), l) = 0) : Qk.isK k = true ∧ l.length = Qk.argsN k ∧ (Qk.least k ≤ m ∧ m ≤ Qk.most k) ∧ ∀ y ∈ l, Qk.wrong n y = 0 := by
  have h1 : (if Qk.isK k then (if l.length = Qk.argsN k then (if Qk.within k m then Qk.firstW (l.map (Qk.wrong n)) else 3) else 1) else 7) = 0 := h
  split at h1
  · rename_i a
    split at h1
    · rename_i b
      split at h1
      · rename_i c
        exact ⟨a, b, by simpa [Qk.within] using c, fun y hy => Qk.firstW_zero h1 _ (List.mem_map_of_mem hy)⟩
      · cases h1
    · cases h1
  · cases h1
theorem Qk.bound {k m : Int} (h : Qk.least k ≤ m ∧ m ≤ Qk.most k) : -9999999 ≤ m ∧ m ≤ 9999999 := by
  unfold Qk.least Qk.most at h
  constructor
  · have := h.1; split at this <;> (try split at this) <;> omega
  · have := h.2; split at this <;> (try split at this) <;> omega
theorem Qk.text_size : ∀ (n : Nat) (x : Qk.AT n), Qk.wrong n x = 0 → (Qk.text n x).size ≤ 40 * Qk.parts n x := by
  intro n
  induction n with
  | zero => intro x _; exact Nat.zero_le _
  | succ n ih =>
    rintro ⟨⟨k, m⟩, l⟩ h
    obtain ⟨_, _, hb, hs⟩ := Qk.isK_parts h
    have hh := Qk.headT_size k m (Qk.bound hb).1 (Qk.bound hb).2
    have e1 : (⟨#[32]⟩ : ByteArray).size = 1 := rfl
    have e2 : (⟨#[40]⟩ : ByteArray).size = 1 := rfl
    have e3 : (⟨#[41]⟩ : ByteArray).size = 1 := rfl
    match l, hs with
    | [], _ => show (Qk.headT k m).size ≤ 40 * (1 + 0); omega
    | [y], hs =>
      have a := ih y (hs y (by simp))
      show ((Qk.headT k m ++ ⟨#[32]⟩) ++ Qk.text n y).size ≤ 40 * (1 + (Qk.parts n y + 0))
      simp only [ByteArray.size_append]
      omega
    | y :: z :: r, hs =>
      have a := ih y (hs y (by simp))
      have b := ih z (hs z (by simp))
      show ((((((⟨#[40]⟩ ++ Qk.text n y) ++ ⟨#[32]⟩) ++ Qk.headT k m) ++ ⟨#[32]⟩) ++ Qk.text n z) ++ ⟨#[41]⟩).size ≤ 40 * (1 + (Qk.parts n y + (Qk.parts n z + (r.map (Qk.parts n)).sum)))
      simp only [ByteArray.size_append]
      omega

set_option maxRecDepth 100000 in
set_option maxHeartbeats 1600000 in
theorem textOf_0 (n : Nat) (k m : Int) (ad : Option Addr) (cap : Nat) (w : World) (hs : Qk.RS w (Qk.RA w n) ⟨ad, 0, cap⟩ []) (hw : Qk.wrong (n + 1) ((k, m), []) = 0) (hp : Qk.parts (n + 1) ((k, m), []) ≤ 15) (htab : Qd.tab w) (hm : decide (0 < Qk.most k) = false)
    (ih : ∀ (e : Qk.E) (x : Qk.AT n) (W : World), Qk.RA W n e x → Qk.wrong n x = 0 → Qk.parts n x ≤ 15 → Qd.tab W → Calls Tryz.prog 21 #[e.val] W fun r w' => r = .returned (.string (Qk.text n x)) ∧ Below W.heap.size W w') :
    Calls Tryz.prog 21 #[.agg #[.int .i64 k, .int .i64 m, .slice ad 0 cap]] w fun r w' => r = .returned (.string (Qk.text (n + 1) ((k, m), []))) ∧ Below w.heap.size w w' := by
  obtain ⟨hk, hl, hb, hsub⟩ := Qk.isK_parts hw
  have hA : Qk.argsI k = 0 := by unfold Qk.argsI; rw [hk, if_pos rfl, ← hl]; rfl
  have HR := hide (fun (W : World) => show Calls Tryz.prog 38 #[.int .i64 k] W fun r w' => r = .returned (.tuple #[.agg #[.string (Qk.word k), .int .i64 0, .int .i64 (Qk.least k), .int .i64 (Qk.most k)], .bool true]) ∧ Below W.heap.size W w' by
    have := ruleOf_any k W
    rw [hk, hA] at this
    exact this)
  have HN := hide (fun (W : World) => show Calls Tryz.prog 39 #[.agg #[.string (Qk.word k), .int .i64 0, .int .i64 (Qk.least k), .int .i64 (Qk.most k)]] W fun r w' => r = .returned (.bool false) ∧ Below W.heap.size W w' by
    have := hasNumber_any (Qk.word k) 0 (Qk.least k) (Qk.most k) W
    rw [hm] at this
    exact this)
  have HH := hide (show Qk.word k = Qk.headT k m by unfold Qk.headT; rw [if_neg (by simpa using hm)])
  have sW := Qk.word_size k
  have sH := Qk.headT_size k m (Qk.bound hb).1 (Qk.bound hb).2
  have HE := hide (show Qk.text (n + 1) ((k, m), []) = Qk.headT k m from rfl)
  clear hw hp htab ih hk hl hb hsub hA hs
  generalize Qk.text (n + 1) ((k, m), []) = T at *
  go_enter Tryz.func21, Tryz.ntmps21
  go_wp2_with fail
  refine ((unhide HR) _).mono ?_
  rintro r w1 ⟨rfl, hb1⟩
  have q1 : w1.cell? ⟨w.heap.size, 1, none⟩ = some (.int .i64 m) := (hb1.cell (p := ⟨w.heap.size, 1, none⟩) (by simp)).trans (by simp)
  have q2 : w1.cell? ⟨w.heap.size, 2, none⟩ = some (.slice ad 0 cap) := (hb1.cell (p := ⟨w.heap.size, 2, none⟩) (by simp)).trans (by simp)
  have HB1 := hide (below_two hb1)
  have hs1 : w.heap.size < w1.heap.size := by have := hb1.size; simp at this; omega
  clear hb1
  go_wp2_with fail
  refine ((unhide HN) _).mono ?_
  rintro r w2 ⟨rfl, hb2⟩
  have r0 : w2.cell? ⟨w1.heap.size, 0, none⟩ = some (.string (Qk.word k)) := (hb2.cell (p := ⟨w1.heap.size, 0, none⟩) (by simp)).trans (by simp)
  have r1 : w2.cell? ⟨w1.heap.size, 1, none⟩ = some (.int .i64 0) := (hb2.cell (p := ⟨w1.heap.size, 1, none⟩) (by simp)).trans (by simp)
  have r2 : w2.cell? ⟨w1.heap.size, 2, none⟩ = some (.int .i64 (Qk.least k)) := (hb2.cell (p := ⟨w1.heap.size, 2, none⟩) (by simp)).trans (by simp)
  have r3 : w2.cell? ⟨w1.heap.size, 3, none⟩ = some (.int .i64 (Qk.most k)) := (hb2.cell (p := ⟨w1.heap.size, 3, none⟩) (by simp)).trans (by simp)
  have hs2 : w1.heap.size < w2.heap.size := by have := hb2.size; simp at this; omega
  have hb3 := below_two hb2
  replace q1 := (hb3.cell (p := ⟨w.heap.size, 1, none⟩) hs1).trans q1
  replace q2 := (hb3.cell (p := ⟨w.heap.size, 2, none⟩) hs1).trans q2
  have HB2 := hide ((unhide HB1).trans (hb3.mono (unhide HB1).size))
  clear hb2 hb3
  go_wp2_with fail
  go_ret
  exact ⟨by rw [unhide HE, ← unhide HH]; rfl, unhide HB2⟩

set_option maxRecDepth 100000 in
set_option maxHeartbeats 1600000 in
theorem textOf_0n (n : Nat) (k m : Int) (ad : Option Addr) (cap : Nat) (w : World) (hs : Qk.RS w (Qk.RA w n) ⟨ad, 0, cap⟩ []) (hw : Qk.wrong (n + 1) ((k, m), []) = 0) (hp : Qk.parts (n + 1) ((k, m), []) ≤ 15) (htab : Qd.tab w) (hm : decide (0 < Qk.most k) = true)
    (ih : ∀ (e : Qk.E) (x : Qk.AT n) (W : World), Qk.RA W n e x → Qk.wrong n x = 0 → Qk.parts n x ≤ 15 → Qd.tab W → Calls Tryz.prog 21 #[e.val] W fun r w' => r = .returned (.string (Qk.text n x)) ∧ Below W.heap.size W w') :
    Calls Tryz.prog 21 #[.agg #[.int .i64 k, .int .i64 m, .slice ad 0 cap]] w fun r w' => r = .returned (.string (Qk.text (n + 1) ((k, m), []))) ∧ Below w.heap.size w w' := by
  obtain ⟨hk, hl, hb, hsub⟩ := Qk.isK_parts hw
  have hA : Qk.argsI k = 0 := by unfold Qk.argsI; rw [hk, if_pos rfl, ← hl]; rfl
  have HR := hide (fun (W : World) => show Calls Tryz.prog 38 #[.int .i64 k] W fun r w' => r = .returned (.tuple #[.agg #[.string (Qk.word k), .int .i64 0, .int .i64 (Qk.least k), .int .i64 (Qk.most k)], .bool true]) ∧ Below W.heap.size W w' by
    have := ruleOf_any k W
    rw [hk, hA] at this
    exact this)
  have HN := hide (fun (W : World) => show Calls Tryz.prog 39 #[.agg #[.string (Qk.word k), .int .i64 0, .int .i64 (Qk.least k), .int .i64 (Qk.most k)]] W fun r w' => r = .returned (.bool true) ∧ Below W.heap.size W w' by
    have := hasNumber_any (Qk.word k) 0 (Qk.least k) (Qk.most k) W
    rw [hm] at this
    exact this)
  have HT := hide (fun (W : World) (hb1 : Below w.heap.size w W) => show Calls Tryz.prog 40 #[.int .i64 m, .agg #[.string (Qk.word k), .int .i64 0, .int .i64 (Qk.least k), .int .i64 (Qk.most k)]] W fun r w' => r = .returned (.string (Qk.numT k m)) ∧ Below W.heap.size W w' by
    have := numberText_any k m W (Qk.bound hb).1 (Qk.bound hb).2 (Qd.tab_later htab hb1)
    rw [hA] at this
    exact this)
  have HH := hide (show Qk.word k ++ (⟨#[32]⟩ ++ Qk.numT k m) = Qk.headT k m by unfold Qk.headT; rw [if_pos (by simpa using hm)])
  have sN := Qk.numT_size k m (Qk.bound hb).1 (Qk.bound hb).2
  have sW := Qk.word_size k
  have sH := Qk.headT_size k m (Qk.bound hb).1 (Qk.bound hb).2
  have HE := hide (show Qk.text (n + 1) ((k, m), []) = Qk.headT k m from rfl)
  clear hw hp htab ih hk hl hb hsub hA hs
  generalize Qk.text (n + 1) ((k, m), []) = T at *
  go_enter Tryz.func21, Tryz.ntmps21
  go_wp2_with fail
  refine ((unhide HR) _).mono ?_
  rintro r w1 ⟨rfl, hb1⟩
  have q1 : w1.cell? ⟨w.heap.size, 1, none⟩ = some (.int .i64 m) := (hb1.cell (p := ⟨w.heap.size, 1, none⟩) (by simp)).trans (by simp)
  have q2 : w1.cell? ⟨w.heap.size, 2, none⟩ = some (.slice ad 0 cap) := (hb1.cell (p := ⟨w.heap.size, 2, none⟩) (by simp)).trans (by simp)
  have HB1 := hide (below_two hb1)
  have hs1 : w.heap.size < w1.heap.size := by have := hb1.size; simp at this; omega
  clear hb1
  go_wp2_with fail
  refine ((unhide HN) _).mono ?_
  rintro r w2 ⟨rfl, hb2⟩
  have r0 : w2.cell? ⟨w1.heap.size, 0, none⟩ = some (.string (Qk.word k)) := (hb2.cell (p := ⟨w1.heap.size, 0, none⟩) (by simp)).trans (by simp)
  have r1 : w2.cell? ⟨w1.heap.size, 1, none⟩ = some (.int .i64 0) := (hb2.cell (p := ⟨w1.heap.size, 1, none⟩) (by simp)).trans (by simp)
  have r2 : w2.cell? ⟨w1.heap.size, 2, none⟩ = some (.int .i64 (Qk.least k)) := (hb2.cell (p := ⟨w1.heap.size, 2, none⟩) (by simp)).trans (by simp)
  have r3 : w2.cell? ⟨w1.heap.size, 3, none⟩ = some (.int .i64 (Qk.most k)) := (hb2.cell (p := ⟨w1.heap.size, 3, none⟩) (by simp)).trans (by simp)
  have hs2 : w1.heap.size < w2.heap.size := by have := hb2.size; simp at this; omega
  have hb3 := below_two hb2
  replace q1 := (hb3.cell (p := ⟨w.heap.size, 1, none⟩) hs1).trans q1
  replace q2 := (hb3.cell (p := ⟨w.heap.size, 2, none⟩) hs1).trans q2
  have HB2 := hide ((unhide HB1).trans (hb3.mono (unhide HB1).size))
  clear hb2 hb3
  go_wp2_with fail
  refine ((unhide HT) _ (unhide HB2)).mono ?_
  rintro r w3 ⟨rfl, hb3⟩
  replace r1 := (hb3.cell (p := ⟨w1.heap.size, 1, none⟩) hs2).trans r1
  replace q2 := (hb3.cell (p := ⟨w.heap.size, 2, none⟩) (by show w.heap.size < w2.heap.size; omega)).trans q2
  have HB3 := hide ((unhide HB2).trans (hb3.mono (unhide HB2).size))
  clear hb3 r0 r2 r3 q1
  go_wp2_with fail
  go_ret
  exact ⟨by rw [unhide HE, ← unhide HH]; rfl, unhide HB3⟩

set_option maxRecDepth 100000 in
set_option maxHeartbeats 1600000 in
theorem textOf_1 (n : Nat) (k m : Int) (ad : Option Addr) (cap : Nat) (y : Qk.AT n) (w : World) (hs : Qk.RS w (Qk.RA w n) ⟨ad, 1, cap⟩ [y]) (hw : Qk.wrong (n + 1) ((k, m), [y]) = 0) (hp : Qk.parts (n + 1) ((k, m), [y]) ≤ 15) (htab : Qd.tab w) (hm : decide (0 < Qk.most k) = false)
    (ih : ∀ (e : Qk.E) (x : Qk.AT n) (W : World), Qk.RA W n e x → Qk.wrong n x = 0 → Qk.parts n x ≤ 15 → Qd.tab W → Calls Tryz.prog 21 #[e.val] W fun r w' => r = .returned (.string (Qk.text n x)) ∧ Below W.heap.size W w') :
    Calls Tryz.prog 21 #[.agg #[.int .i64 k, .int .i64 m, .slice ad 1 cap]] w fun r w' => r = .returned (.string (Qk.text (n + 1) ((k, m), [y]))) ∧ Below w.heap.size w w' := by
  obtain ⟨hk, hl, hb, hsub⟩ := Qk.isK_parts hw
  have hA : Qk.argsI k = 1 := by unfold Qk.argsI; rw [hk, if_pos rfl, ← hl]; rfl
  have HR := hide (fun (W : World) => show Calls Tryz.prog 38 #[.int .i64 k] W fun r w' => r = .returned (.tuple #[.agg #[.string (Qk.word k), .int .i64 1, .int .i64 (Qk.least k), .int .i64 (Qk.most k)], .bool true]) ∧ Below W.heap.size W w' by
    have := ruleOf_any k W
    rw [hk, hA] at this
    exact this)
  have HN := hide (fun (W : World) => show Calls Tryz.prog 39 #[.agg #[.string (Qk.word k), .int .i64 1, .int .i64 (Qk.least k), .int .i64 (Qk.most k)]] W fun r w' => r = .returned (.bool false) ∧ Below W.heap.size W w' by
    have := hasNumber_any (Qk.word k) 1 (Qk.least k) (Qk.most k) W
    rw [hm] at this
    exact this)
  have HH := hide (show Qk.word k = Qk.headT k m by unfold Qk.headT; rw [if_neg (by simpa using hm)])
  have sW := Qk.word_size k
  have sH := Qk.headT_size k m (Qk.bound hb).1 (Qk.bound hb).2
  have hpy : Qk.parts n y ≤ 15 := by
    have h1 : 1 + (Qk.parts n y + 0) ≤ 15 := hp
    omega
  have sy := Qk.text_size n y (hsub y (by simp))
  obtain ⟨by0, oy0, cy, hby, hlty, hLy, hAy⟩ := hs.at_ 0 y rfl
  obtain rfl : ad = some ⟨by0, oy0, none⟩ := hby
  have HLy := hide (And.intro hLy hlty)
  have HIy := hide (fun (W : World) (hb1 : Below w.heap.size w W) => show Calls Tryz.prog 21 #[.agg #[.int .i64 cy.k, .int .i64 cy.n, .slice cy.args.ad cy.args.len cy.args.cap]] W fun r w' => r = .returned (.string (Qk.text n y)) ∧ Below W.heap.size W w' from ih cy y W (Qk.RA.later hb1 (Nat.le_refl _) n hAy) (hsub y (by simp)) hpy (Qd.tab_later htab hb1))
  have HE := hide (show Qk.text (n + 1) ((k, m), [y]) = (Qk.headT k m ++ ⟨#[32]⟩) ++ Qk.text n y from rfl)
  clear hw hp htab ih hk hl hb hsub hA hs
  generalize Qk.text (n + 1) ((k, m), [y]) = T at *
  go_enter Tryz.func21, Tryz.ntmps21
  go_wp2_with fail
  refine ((unhide HR) _).mono ?_
  rintro r w1 ⟨rfl, hb1⟩
  have q1 : w1.cell? ⟨w.heap.size, 1, none⟩ = some (.int .i64 m) := (hb1.cell (p := ⟨w.heap.size, 1, none⟩) (by simp)).trans (by simp)
  have q2 : w1.cell? ⟨w.heap.size, 2, none⟩ = some (.slice (some ⟨by0, oy0, none⟩) 1 cap) := (hb1.cell (p := ⟨w.heap.size, 2, none⟩) (by simp)).trans (by simp)
  have HB1 := hide (below_two hb1)
  have hs1 : w.heap.size < w1.heap.size := by have := hb1.size; simp at this; omega
  clear hb1
  go_wp2_with fail
  refine ((unhide HN) _).mono ?_
  rintro r w2 ⟨rfl, hb2⟩
  have r0 : w2.cell? ⟨w1.heap.size, 0, none⟩ = some (.string (Qk.word k)) := (hb2.cell (p := ⟨w1.heap.size, 0, none⟩) (by simp)).trans (by simp)
  have r1 : w2.cell? ⟨w1.heap.size, 1, none⟩ = some (.int .i64 1) := (hb2.cell (p := ⟨w1.heap.size, 1, none⟩) (by simp)).trans (by simp)
  have r2 : w2.cell? ⟨w1.heap.size, 2, none⟩ = some (.int .i64 (Qk.least k)) := (hb2.cell (p := ⟨w1.heap.size, 2, none⟩) (by simp)).trans (by simp)
  have r3 : w2.cell? ⟨w1.heap.size, 3, none⟩ = some (.int .i64 (Qk.most k)) := (hb2.cell (p := ⟨w1.heap.size, 3, none⟩) (by simp)).trans (by simp)
  have hs2 : w1.heap.size < w2.heap.size := by have := hb2.size; simp at this; omega
  have hb3 := below_two hb2
  replace q1 := (hb3.cell (p := ⟨w.heap.size, 1, none⟩) hs1).trans q1
  replace q2 := (hb3.cell (p := ⟨w.heap.size, 2, none⟩) hs1).trans q2
  have HB2 := hide ((unhide HB1).trans (hb3.mono (unhide HB1).size))
  clear hb2 hb3
  obtain ⟨g0, g1, g2⟩ := (unhide HLy).1.later (unhide HB2) (Nat.le_refl _) (unhide HLy).2
  rw [Nat.zero_mul, Nat.add_zero] at g0 g1 g2
  go_wp2_with fail
  refine ((unhide HIy) _ (unhide HB2)).mono ?_
  rintro r w4 ⟨rfl, hb4⟩
  have HB4 := hide ((unhide HB2).trans (hb4.mono (unhide HB2).size))
  clear hb4
  go_wp2_with fail
  go_ret
  exact ⟨by rw [unhide HE, ← unhide HH]; rfl, unhide HB4⟩

set_option maxRecDepth 100000 in
set_option maxHeartbeats 1600000 in
theorem textOf_1n (n : Nat) (k m : Int) (ad : Option Addr) (cap : Nat) (y : Qk.AT n) (w : World) (hs : Qk.RS w (Qk.RA w n) ⟨ad, 1, cap⟩ [y]) (hw : Qk.wrong (n + 1) ((k, m), [y]) = 0) (hp : Qk.parts (n + 1) ((k, m), [y]) ≤ 15) (htab : Qd.tab w) (hm : decide (0 < Qk.most k) = true)
    (ih : ∀ (e : Qk.E) (x : Qk.AT n) (W : World), Qk.RA W n e x → Qk.wrong n x = 0 → Qk.parts n x ≤ 15 → Qd.tab W → Calls Tryz.prog 21 #[e.val] W fun r w' => r = .returned (.string (Qk.text n x)) ∧ Below W.heap.size W w') :
    Calls Tryz.prog 21 #[.agg #[.int .i64 k, .int .i64 m, .slice ad 1 cap]] w fun r w' => r = .returned (.string (Qk.text (n + 1) ((k, m), [y]))) ∧ Below w.heap.size w w' := by
  obtain ⟨hk, hl, hb, hsub⟩ := Qk.isK_parts hw
  have hA : Qk.argsI k = 1 := by unfold Qk.argsI; rw [hk, if_pos rfl, ← hl]; rfl
  have HR := hide (fun (W : World) => show Calls Tryz.prog 38 #[.int .i64 k] W fun r w' => r = .returned (.tuple #[.agg #[.string (Qk.word k), .int .i64 1, .int .i64 (Qk.least k), .int .i64 (Qk.most k)], .bool true]) ∧ Below W.heap.size W w' by
    have := ruleOf_any k W
    rw [hk, hA] at this
    exact this)
  have HN := hide (fun (W : World) => show Calls Tryz.prog 39 #[.agg #[.string (Qk.word k), .int .i64 1, .int .i64 (Qk.least k), .int .i64 (Qk.most k)]] W fun r w' => r = .returned (.bool true) ∧ Below W.heap.size W w' by
    have := hasNumber_any (Qk.word k) 1 (Qk.least k) (Qk.most k) W
    rw [hm] at this
    exact this)
  have HT := hide (fun (W : World) (hb1 : Below w.heap.size w W) => show Calls Tryz.prog 40 #[.int .i64 m, .agg #[.string (Qk.word k), .int .i64 1, .int .i64 (Qk.least k), .int .i64 (Qk.most k)]] W fun r w' => r = .returned (.string (Qk.numT k m)) ∧ Below W.heap.size W w' by
    have := numberText_any k m W (Qk.bound hb).1 (Qk.bound hb).2 (Qd.tab_later htab hb1)
    rw [hA] at this
    exact this)
  have HH := hide (show Qk.word k ++ (⟨#[32]⟩ ++ Qk.numT k m) = Qk.headT k m by unfold Qk.headT; rw [if_pos (by simpa using hm)])
  have sN := Qk.numT_size k m (Qk.bound hb).1 (Qk.bound hb).2
  have sW := Qk.word_size k
  have sH := Qk.headT_size k m (Qk.bound hb).1 (Qk.bound hb).2
  have hpy : Qk.parts n y ≤ 15 := by
    have h1 : 1 + (Qk.parts n y + 0) ≤ 15 := hp
    omega
  have sy := Qk.text_size n y (hsub y (by simp))
  obtain ⟨by0, oy0, cy, hby, hlty, hLy, hAy⟩ := hs.at_ 0 y rfl
  obtain rfl : ad = some ⟨by0, oy0, none⟩ := hby
  have HLy := hide (And.intro hLy hlty)
  have HIy := hide (fun (W : World) (hb1 : Below w.heap.size w W) => show Calls Tryz.prog 21 #[.agg #[.int .i64 cy.k, .int .i64 cy.n, .slice cy.args.ad cy.args.len cy.args.cap]] W fun r w' => r = .returned (.string (Qk.text n y)) ∧ Below W.heap.size W w' from ih cy y W (Qk.RA.later hb1 (Nat.le_refl _) n hAy) (hsub y (by simp)) hpy (Qd.tab_later htab hb1))
  have HE := hide (show Qk.text (n + 1) ((k, m), [y]) = (Qk.headT k m ++ ⟨#[32]⟩) ++ Qk.text n y from rfl)
  clear hw hp htab ih hk hl hb hsub hA hs
  generalize Qk.text (n + 1) ((k, m), [y]) = T at *
  go_enter Tryz.func21, Tryz.ntmps21
  go_wp2_with fail
  refine ((unhide HR) _).mono ?_
  rintro r w1 ⟨rfl, hb1⟩
  have q1 : w1.cell? ⟨w.heap.size, 1, none⟩ = some (.int .i64 m) := (hb1.cell (p := ⟨w.heap.size, 1, none⟩) (by simp)).trans (by simp)
  have q2 : w1.cell? ⟨w.heap.size, 2, none⟩ = some (.slice (some ⟨by0, oy0, none⟩) 1 cap) := (hb1.cell (p := ⟨w.heap.size, 2, none⟩) (by simp)).trans (by simp)
  have HB1 := hide (below_two hb1)
  have hs1 : w.heap.size < w1.heap.size := by have := hb1.size; simp at this; omega
  clear hb1
  go_wp2_with fail
  refine ((unhide HN) _).mono ?_
  rintro r w2 ⟨rfl, hb2⟩
  have r0 : w2.cell? ⟨w1.heap.size, 0, none⟩ = some (.string (Qk.word k)) := (hb2.cell (p := ⟨w1.heap.size, 0, none⟩) (by simp)).trans (by simp)
  have r1 : w2.cell? ⟨w1.heap.size, 1, none⟩ = some (.int .i64 1) := (hb2.cell (p := ⟨w1.heap.size, 1, none⟩) (by simp)).trans (by simp)
  have r2 : w2.cell? ⟨w1.heap.size, 2, none⟩ = some (.int .i64 (Qk.least k)) := (hb2.cell (p := ⟨w1.heap.size, 2, none⟩) (by simp)).trans (by simp)
  have r3 : w2.cell? ⟨w1.heap.size, 3, none⟩ = some (.int .i64 (Qk.most k)) := (hb2.cell (p := ⟨w1.heap.size, 3, none⟩) (by simp)).trans (by simp)
  have hs2 : w1.heap.size < w2.heap.size := by have := hb2.size; simp at this; omega
  have hb3 := below_two hb2
  replace q1 := (hb3.cell (p := ⟨w.heap.size, 1, none⟩) hs1).trans q1
  replace q2 := (hb3.cell (p := ⟨w.heap.size, 2, none⟩) hs1).trans q2
  have HB2 := hide ((unhide HB1).trans (hb3.mono (unhide HB1).size))
  clear hb2 hb3
  go_wp2_with fail
  refine ((unhide HT) _ (unhide HB2)).mono ?_
  rintro r w3 ⟨rfl, hb3⟩
  replace r1 := (hb3.cell (p := ⟨w1.heap.size, 1, none⟩) hs2).trans r1
  replace q2 := (hb3.cell (p := ⟨w.heap.size, 2, none⟩) (by show w.heap.size < w2.heap.size; omega)).trans q2
  have HB3 := hide ((unhide HB2).trans (hb3.mono (unhide HB2).size))
  clear hb3 r0 r2 r3 q1
  obtain ⟨g0, g1, g2⟩ := (unhide HLy).1.later (unhide HB3) (Nat.le_refl _) (unhide HLy).2
  rw [Nat.zero_mul, Nat.add_zero] at g0 g1 g2
  go_wp2_with fail
  refine ((unhide HIy) _ (unhide HB3)).mono ?_
  rintro r w4 ⟨rfl, hb4⟩
  have HB4 := hide ((unhide HB3).trans (hb4.mono (unhide HB3).size))
  clear hb4
  go_wp2_with fail
  go_ret
  exact ⟨by rw [unhide HE, ← unhide HH]; rfl, unhide HB4⟩

set_option maxRecDepth 100000 in
set_option maxHeartbeats 1600000 in
theorem textOf_2 (n : Nat) (k m : Int) (ad : Option Addr) (cap : Nat) (y : Qk.AT n) (z : Qk.AT n) (w : World) (hs : Qk.RS w (Qk.RA w n) ⟨ad, 2, cap⟩ [y, z]) (hw : Qk.wrong (n + 1) ((k, m), [y, z]) = 0) (hp : Qk.parts (n + 1) ((k, m), [y, z]) ≤ 15) (htab : Qd.tab w) (hm : decide (0 < Qk.most k) = false)
    (ih : ∀ (e : Qk.E) (x : Qk.AT n) (W : World), Qk.RA W n e x → Qk.wrong n x = 0 → Qk.parts n x ≤ 15 → Qd.tab W → Calls Tryz.prog 21 #[e.val] W fun r w' => r = .returned (.string (Qk.text n x)) ∧ Below W.heap.size W w') :
    Calls Tryz.prog 21 #[.agg #[.int .i64 k, .int .i64 m, .slice ad 2 cap]] w fun r w' => r = .returned (.string (Qk.text (n + 1) ((k, m), [y, z]))) ∧ Below w.heap.size w w' := by
  obtain ⟨hk, hl, hb, hsub⟩ := Qk.isK_parts hw
  have hA : Qk.argsI k = 2 := by unfold Qk.argsI; rw [hk, if_pos rfl, ← hl]; rfl
  have HR := hide (fun (W : World) => show Calls Tryz.prog 38 #[.int .i64 k] W fun r w' => r = .returned (.tuple #[.agg #[.string (Qk.word k), .int .i64 2, .int .i64 (Qk.least k), .int .i64 (Qk.most k)], .bool true]) ∧ Below W.heap.size W w' by
    have := ruleOf_any k W
    rw [hk, hA] at this
    exact this)
  have HN := hide (fun (W : World) => show Calls Tryz.prog 39 #[.agg #[.string (Qk.word k), .int .i64 2, .int .i64 (Qk.least k), .int .i64 (Qk.most k)]] W fun r w' => r = .returned (.bool false) ∧ Below W.heap.size W w' by
    have := hasNumber_any (Qk.word k) 2 (Qk.least k) (Qk.most k) W
    rw [hm] at this
    exact this)
  have HH := hide (show Qk.word k = Qk.headT k m by unfold Qk.headT; rw [if_neg (by simpa using hm)])
  have sW := Qk.word_size k
  have sH := Qk.headT_size k m (Qk.bound hb).1 (Qk.bound hb).2
  have hpy : Qk.parts n y ≤ 15 := by
    have h1 : 1 + (Qk.parts n y + (Qk.parts n z + 0)) ≤ 15 := hp
    omega
  have sy := Qk.text_size n y (hsub y (by simp))
  obtain ⟨by0, oy0, cy, hby, hlty, hLy, hAy⟩ := hs.at_ 0 y rfl
  obtain rfl : ad = some ⟨by0, oy0, none⟩ := hby
  have HLy := hide (And.intro hLy hlty)
  have HIy := hide (fun (W : World) (hb1 : Below w.heap.size w W) => show Calls Tryz.prog 21 #[.agg #[.int .i64 cy.k, .int .i64 cy.n, .slice cy.args.ad cy.args.len cy.args.cap]] W fun r w' => r = .returned (.string (Qk.text n y)) ∧ Below W.heap.size W w' from ih cy y W (Qk.RA.later hb1 (Nat.le_refl _) n hAy) (hsub y (by simp)) hpy (Qd.tab_later htab hb1))
  have hpz : Qk.parts n z ≤ 15 := by
    have h1 : 1 + (Qk.parts n y + (Qk.parts n z + 0)) ≤ 15 := hp
    omega
  have sz := Qk.text_size n z (hsub z (by simp))
  obtain ⟨bz, oz, cz, hbz, hltz, hLz, hAz⟩ := hs.at_ 1 z rfl
  obtain ⟨rfl, rfl⟩ : by0 = bz ∧ oy0 = oz := by simpa using hbz
  have HLz := hide (And.intro hLz hltz)
  have HIz := hide (fun (W : World) (hb1 : Below w.heap.size w W) => show Calls Tryz.prog 21 #[.agg #[.int .i64 cz.k, .int .i64 cz.n, .slice cz.args.ad cz.args.len cz.args.cap]] W fun r w' => r = .returned (.string (Qk.text n z)) ∧ Below W.heap.size W w' from ih cz z W (Qk.RA.later hb1 (Nat.le_refl _) n hAz) (hsub z (by simp)) hpz (Qd.tab_later htab hb1))
  have HE := hide (show Qk.text (n + 1) ((k, m), [y, z]) = (((((⟨#[40]⟩ ++ Qk.text n y) ++ ⟨#[32]⟩) ++ Qk.headT k m) ++ ⟨#[32]⟩) ++ Qk.text n z) ++ ⟨#[41]⟩ from rfl)
  clear hw hp htab ih hk hl hb hsub hA hs
  generalize Qk.text (n + 1) ((k, m), [y, z]) = T at *
  go_enter Tryz.func21, Tryz.ntmps21
  go_wp2_with fail
  refine ((unhide HR) _).mono ?_
  rintro r w1 ⟨rfl, hb1⟩
  have q1 : w1.cell? ⟨w.heap.size, 1, none⟩ = some (.int .i64 m) := (hb1.cell (p := ⟨w.heap.size, 1, none⟩) (by simp)).trans (by simp)
  have q2 : w1.cell? ⟨w.heap.size, 2, none⟩ = some (.slice (some ⟨by0, oy0, none⟩) 2 cap) := (hb1.cell (p := ⟨w.heap.size, 2, none⟩) (by simp)).trans (by simp)
  have HB1 := hide (below_two hb1)
  have hs1 : w.heap.size < w1.heap.size := by have := hb1.size; simp at this; omega
  clear hb1
  go_wp2_with fail
  refine ((unhide HN) _).mono ?_
  rintro r w2 ⟨rfl, hb2⟩
  have r0 : w2.cell? ⟨w1.heap.size, 0, none⟩ = some (.string (Qk.word k)) := (hb2.cell (p := ⟨w1.heap.size, 0, none⟩) (by simp)).trans (by simp)
  have r1 : w2.cell? ⟨w1.heap.size, 1, none⟩ = some (.int .i64 2) := (hb2.cell (p := ⟨w1.heap.size, 1, none⟩) (by simp)).trans (by simp)
  have r2 : w2.cell? ⟨w1.heap.size, 2, none⟩ = some (.int .i64 (Qk.least k)) := (hb2.cell (p := ⟨w1.heap.size, 2, none⟩) (by simp)).trans (by simp)
  have r3 : w2.cell? ⟨w1.heap.size, 3, none⟩ = some (.int .i64 (Qk.most k)) := (hb2.cell (p := ⟨w1.heap.size, 3, none⟩) (by simp)).trans (by simp)
  have hs2 : w1.heap.size < w2.heap.size := by have := hb2.size; simp at this; omega
  have hb3 := below_two hb2
  replace q1 := (hb3.cell (p := ⟨w.heap.size, 1, none⟩) hs1).trans q1
  replace q2 := (hb3.cell (p := ⟨w.heap.size, 2, none⟩) hs1).trans q2
  have HB2 := hide ((unhide HB1).trans (hb3.mono (unhide HB1).size))
  clear hb2 hb3
  obtain ⟨g0, g1, g2⟩ := (unhide HLy).1.later (unhide HB2) (Nat.le_refl _) (unhide HLy).2
  rw [Nat.zero_mul, Nat.add_zero] at g0 g1 g2
  obtain ⟨d0, d1, d2⟩ := (unhide HLz).1.later (unhide HB2) (Nat.le_refl _) (unhide HLz).2
  rw [Nat.one_mul] at d0 d1 d2
  have e1 : (⟨#[32]⟩ : ByteArray).size = 1 := rfl
  have e2 : (⟨#[40]⟩ : ByteArray).size = 1 := rfl
  have e3 : (⟨#[41]⟩ : ByteArray).size = 1 := rfl
  have a1 : ∀ W : World, (Op.stringOp .add ⟨#[40]⟩ (Qk.text n y)).run Tryz.prog W = .ok (.string (⟨#[40]⟩ ++ (Qk.text n y))) W := fun W => run_string_add_sum W _ _ (by simp only [e2]; omega)
  have a2 : ∀ W : World, (Op.stringOp .add (⟨#[40]⟩ ++ Qk.text n y) ⟨#[32]⟩).run Tryz.prog W = .ok (.string ((⟨#[40]⟩ ++ Qk.text n y) ++ ⟨#[32]⟩)) W := fun W => run_string_add_sum W _ _ (by simp only [ByteArray.size_append, e1, e2]; omega)
  have a3 : ∀ W : World, (Op.stringOp .add ((⟨#[40]⟩ ++ Qk.text n y) ++ ⟨#[32]⟩) (Qk.word k)).run Tryz.prog W = .ok (.string (((⟨#[40]⟩ ++ Qk.text n y) ++ ⟨#[32]⟩) ++ (Qk.word k))) W := fun W => run_string_add_sum W _ _ (by simp only [ByteArray.size_append, e1, e2]; omega)
  have a4 : ∀ W : World, (Op.stringOp .add (((⟨#[40]⟩ ++ Qk.text n y) ++ ⟨#[32]⟩) ++ Qk.word k) ⟨#[32]⟩).run Tryz.prog W = .ok (.string ((((⟨#[40]⟩ ++ Qk.text n y) ++ ⟨#[32]⟩) ++ Qk.word k) ++ ⟨#[32]⟩)) W := fun W => run_string_add_sum W _ _ (by simp only [ByteArray.size_append, e1, e2]; omega)
  have a5 : ∀ W : World, (Op.stringOp .add ((((⟨#[40]⟩ ++ Qk.text n y) ++ ⟨#[32]⟩) ++ Qk.word k) ++ ⟨#[32]⟩) (Qk.text n z)).run Tryz.prog W = .ok (.string (((((⟨#[40]⟩ ++ Qk.text n y) ++ ⟨#[32]⟩) ++ Qk.word k) ++ ⟨#[32]⟩) ++ (Qk.text n z))) W := fun W => run_string_add_sum W _ _ (by simp only [ByteArray.size_append, e1, e2]; omega)
  have a6 : ∀ W : World, (Op.stringOp .add (((((⟨#[40]⟩ ++ Qk.text n y) ++ ⟨#[32]⟩) ++ Qk.word k) ++ ⟨#[32]⟩) ++ Qk.text n z) ⟨#[41]⟩).run Tryz.prog W = .ok (.string ((((((⟨#[40]⟩ ++ Qk.text n y) ++ ⟨#[32]⟩) ++ Qk.word k) ++ ⟨#[32]⟩) ++ Qk.text n z) ++ ⟨#[41]⟩)) W := fun W => run_string_add_sum W _ _ (by simp only [ByteArray.size_append, e1, e2, e3]; omega)
  clear e1 e2 e3
  have HS := hide (show Qk.S7 w by0 oy0 cap cy cz w2 from ⟨q2, g0, g1, g2, d0, d1, d2, unhide HB2⟩)
  go_wp2_with fail
  go_region_held3 (fun W => W.cell? ⟨w.heap.size, 2, none⟩ = some (.slice (some ⟨by0, oy0, none⟩) 2 cap) ∧ W.cell? ⟨by0, oy0, none⟩ = some (.int .i64 cy.k) ∧ W.cell? ⟨by0, oy0 + 1, none⟩ = some (.int .i64 cy.n) ∧ W.cell? ⟨by0, oy0 + 2, none⟩ = some (.slice cy.args.ad cy.args.len cy.args.cap) ∧ W.cell? ⟨by0, oy0 + 3, none⟩ = some (.int .i64 cz.k) ∧ W.cell? ⟨by0, oy0 + 3 + 1, none⟩ = some (.int .i64 cz.n) ∧ W.cell? ⟨by0, oy0 + 3 + 2, none⟩ = some (.slice cz.args.ad cz.args.len cz.args.cap) ∧ Below w.heap.size w W)
    (first
      | exact Qk.S7.below (by assumption) (unhide HBS)
      | exact Qk.S7.drew (unhide HS))
    (first
      | (go_at_call_of 21 (Value.agg #[.int .i64 cy.k, .int .i64 cy.n, .slice cy.args.ad cy.args.len cy.args.cap]); refine ((unhide HIy) _ (Qk.S7.bel (by assumption))).mono ?_; rintro r w4 ⟨rfl, hb4⟩; have HBS := hide hb4; clear hb4)
      | (go_at_call_of 21 (Value.agg #[.int .i64 cz.k, .int .i64 cz.n, .slice cz.args.ad cz.args.len cz.args.cap]); refine ((unhide HIz) _ (Qk.S7.bel (by assumption))).mono ?_; rintro r w5 ⟨rfl, hb5⟩; have HBS := hide hb5; clear hb5))
  all_goals
    go_wp2_with fail
    go_ret
    exact ⟨by rw [unhide HE, ← unhide HH]; rfl, Qk.S7.bel (by assumption)⟩

theorem Qk.pair_none {k : Int} (hk : Qk.isK k = true) (h2 : Qk.argsN k = 2) : decide (0 < Qk.most k) = false := by
  rcases Qk.kinds hk with rfl | rfl | rfl | rfl | rfl | rfl | rfl | rfl | rfl | rfl | rfl | rfl | rfl | rfl <;> first | rfl | (exact absurd h2 (by decide))
theorem Qk.args_few {k : Int} : Qk.argsN k ≤ 2 := by unfold Qk.argsN; split <;> (try split) <;> omega
theorem textOf_any : ∀ (n : Nat) (e : Qk.E) (x : Qk.AT n) (W : World), Qk.RA W n e x → Qk.wrong n x = 0 → Qk.parts n x ≤ 15 → Qd.tab W → Calls Tryz.prog 21 #[e.val] W fun r w' => r = .returned (.string (Qk.text n x)) ∧ Below W.heap.size W w' := by
  intro n
  induction n with
  | zero => intro e x W h; exact h.elim
  | succ n ih =>
    rintro ⟨k', m', ⟨ad, len, cap⟩⟩ ⟨⟨k, m⟩, l⟩ W ⟨⟨hk1, hm1⟩, hs⟩ hw hp ht
    obtain rfl : k' = k := hk1
    obtain rfl : m' = m := hm1
    obtain rfl : len = l.length := hs.len
    obtain ⟨hk, hl, _, _⟩ := Qk.isK_parts hw
    have h2 := @Qk.args_few k'
    match l, hs, hw, hp, hl with
    | [], hs, hw, hp, hl =>
      cases hm : decide (0 < Qk.most k')
      · exact textOf_0 n k' m' ad cap W hs hw hp ht hm ih
      · exact textOf_0n n k' m' ad cap W hs hw hp ht hm ih
    | [y], hs, hw, hp, hl =>
      cases hm : decide (0 < Qk.most k')
      · exact textOf_1 n k' m' ad cap y W hs hw hp ht hm ih
      · exact textOf_1n n k' m' ad cap y W hs hw hp ht hm ih
    | [y, z], hs, hw, hp, hl => exact textOf_2 n k' m' ad cap y z W hs hw hp ht (Qk.pair_none hk hl.symm) ih
    | _ :: _ :: _ :: _, hs, hw, hp, hl => simp at hl; omega
end Go.Proofs.YtfhlnelgnnkeoaaGreatDoor
