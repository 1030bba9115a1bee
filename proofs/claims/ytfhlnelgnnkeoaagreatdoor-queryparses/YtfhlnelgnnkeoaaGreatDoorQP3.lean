/-
  hasNumber, and the parser's query at the word print. By the verifier.
-/
import Derived.Test.YtfhlnelgnnkeoaaGreatDoorQP2
namespace Go.Proofs.YtfhlnelgnnkeoaaGreatDoor
open Go.RowKit
set_option linter.unusedVariables false

set_option maxHeartbeats 400000 in
theorem hasNumber_any (t : ByteArray) (a b m : Int) (w : World) :
    Calls Tryz.prog 39 #[.agg #[.string t, .int .i64 a, .int .i64 b, .int .i64 m]] w fun r w' => r = .returned (.bool (decide (0 < m))) ∧ Below w.heap.size w w' := by
  go_enter Tryz.func39, Tryz.ntmps39
  go_wp2_with fail
  go_ret
  exact ⟨rfl, (Below.refl _ _).alloc (Nat.le_refl _) _⟩

theorem Qk.But1.trans {bx hi hj : Nat} {W W1 W2 : World} (h : Qk.But1 bx hi W W1) (h2 : Qk.But1 bx hj W1 W2) (hh : hi ≤ hj) : Qk.But1 bx hi W W2 :=
  ⟨h2.os.trans h.os, h2.tape.trans h.tape, h2.output.trans h.output, Nat.le_trans h.size h2.size, fun q h1 h3 => (h2.block q (by omega) h3).trans (h.block q h1 h3)⟩
/-- A box of three cells that may be written. -/
structure Qp.Z3 (W : World) (b : Nat) : Prop where
  c0 : ∃ v, W.cell? ⟨b, 0, none⟩ = some v
  c1 : ∃ v, W.cell? ⟨b, 1, none⟩ = some v
  c2 : ∃ v, W.cell? ⟨b, 2, none⟩ = some v
  f : ∀ i, W.frozen? ⟨b, i, none⟩ = false
theorem Qp.Z3.lt {W : World} {b : Nat} (h : Qp.Z3 W b) : b < W.heap.size := by
  obtain ⟨v, hv⟩ := h.c0
  exact World.block_lt_of_cell? W _ hv
theorem Qp.Z3.kept {W W' : World} {b : Nat} (h : Qp.Z3 W b) (hb : W'.heap[b]? = W.heap[b]?) : Qp.Z3 W' b := by
  have hc : ∀ j, W'.cell? ⟨b, j, none⟩ = W.cell? ⟨b, j, none⟩ := fun j => World.cell?_of_block (a := ⟨b, j, none⟩) hb
  have hf : ∀ j, W'.frozen? ⟨b, j, none⟩ = W.frozen? ⟨b, j, none⟩ := fun j => World.frozen?_of_block (a := ⟨b, j, none⟩) hb
  exact ⟨by rw [hc]; exact h.c0, by rw [hc]; exact h.c1, by rw [hc]; exact h.c2, fun i => by rw [hf]; exact h.f i⟩
theorem Qp.Z3.later {W W' : World} {b : Nat} (h : Qp.Z3 W b) (hb : Below W.heap.size W W') : Qp.Z3 W' b := h.kept (hb.block b h.lt)
theorem Qp.Z3.but {W W' : World} {b bp : Nat} (h : Qp.Z3 W b) (hb : Qk.But1 bp W.heap.size W W') (hne : b ≠ bp) : Qp.Z3 W' b := h.kept (hb.block b h.lt hne)

theorem Qp.P.kept {W W' : World} {bp : Nat} {ta : Option Addr} {n c : Nat} {i e : Int} (h : Qp.P W bp ta n c i e) (hb : W'.heap[bp]? = W.heap[bp]?) : Qp.P W' bp ta n c i e := by
  have hc : ∀ j, W'.cell? ⟨bp, j, none⟩ = W.cell? ⟨bp, j, none⟩ := fun j => World.cell?_of_block (a := ⟨bp, j, none⟩) hb
  have hf : ∀ j, W'.frozen? ⟨bp, j, none⟩ = W.frozen? ⟨bp, j, none⟩ := fun j => World.frozen?_of_block (a := ⟨bp, j, none⟩) hb
  exact ⟨by rw [hc]; exact h.c0, by rw [hc]; exact h.c1, by rw [hc]; exact h.c2, by rw [hf]; exact h.f1⟩
def Qp.words : List ByteArray := [⟨#[115, 116, 101, 112]⟩, ⟨#[119, 114, 105, 116, 101]⟩, ⟨#[99, 97, 108, 108]⟩, ⟨#[112, 114, 105, 110, 116]⟩, ⟨#[108, 101, 115, 115]⟩, ⟨#[115, 97, 109, 101]⟩, ⟨#[110, 111, 116]⟩, ⟨#[112, 114, 101, 118]⟩, ⟨#[111, 110, 99, 101]⟩, ⟨#[97, 108, 108]⟩, ⟨#[115, 111, 111, 110]⟩]
theorem Qp.open_no4 : Qp.inW [⟨#[40]⟩] (Qk.word 4) = false := by
  simp only [Qp.inW, ByteArray.toList_eq]
  decide
theorem Qp.in4 : Qp.inW Qp.words (Qk.word 4) = true := by
  simp only [Qp.inW, ByteArray.toList_eq]
  decide
theorem Qp.open_no11 : Qp.inW [⟨#[40]⟩] (Qk.word 11) = false := by
  simp only [Qp.inW, ByteArray.toList_eq]
  decide
theorem Qp.in11 : Qp.inW Qp.words (Qk.word 11) = true := by
  simp only [Qp.inW, ByteArray.toList_eq]
  decide

set_option maxRecDepth 100000 in
set_option maxHeartbeats 1600000 in
theorem query_print (l : List Qp.T) (ta : Option Addr) (n c bp i a : Nat) (e : Int) (x : Qp.T) (w : World) (hp : Qp.P w bp ta n c (i : Nat) e) (hr : Qp.RT w ta l) (hx : l[i]? = some x) (ht : x.t = Qk.word 4) (hn : i < n) (hf : n ≤ 10000) (ha : a ≤ 60) :
    Calls Tryz.prog 44 #[.pointer (some ⟨bp, 0, none⟩), .int .i64 (a : Nat)] w fun r w' => r = .returned (.agg #[.int .i64 4, .int .i64 0, .slice none 0 0]) ∧ Qp.P w' bp ta n c ((i + 1 : Nat) : Int) e ∧ Qk.But1 bp w.heap.size w w' := by
  have HS := hide (fun (W : World) (hb : Below w.heap.size w W) (wa : Option Addr) (wc : Nat) (hw : Dk.RK W wa [⟨#[40]⟩]) => show Calls Tryz.prog 57 #[.pointer (some ⟨bp, 0, none⟩), .slice wa 1 wc] W fun r w' => r = .returned (.bool false) ∧ Below W.heap.size W w' by
    have := sees_ok l [⟨#[40]⟩] wa ta n c bp i wc e x W (hp.below hb) (hr.below hb) hw (by decide) hx hn hf
    rw [ht, Qp.open_no4] at this
    exact this)
  have HT := hide (fun (W : World) (hb : Below w.heap.size w W) (wa : Option Addr) (wc : Nat) (hw : Dk.RK W wa Qp.words) => show Calls Tryz.prog 60 #[.pointer (some ⟨bp, 0, none⟩), .slice wa 11 wc] W fun r w' => r = .returned (.string (Qk.word 4)) ∧ Qp.P w' bp ta n c ((i + 1 : Nat) : Int) e ∧ Qk.But1 bp W.heap.size W w' by
    have := take_ok l Qp.words wa ta n c bp i wc e x W (hp.below hb) (hr.below hb) hw (by decide) hx hn hf (by rw [ht]; exact Qp.in4)
    rw [ht] at this
    exact this)
  have HK := hide (fun (W : World) => show Calls Tryz.prog 59 #[.string (Qk.word 4)] W fun r w' => r = .returned (.tuple #[.int .i64 4, .agg #[.string (Qk.word 4), .int .i64 0, .int .i64 0, .int .i64 0]]) ∧ Below W.heap.size W w' from kindOf_ok 4 (by decide) (by decide) W)
  have HN := hide (fun (W : World) => show Calls Tryz.prog 39 #[.agg #[.string (Qk.word 4), .int .i64 0, .int .i64 0, .int .i64 0]] W fun r w' => r = .returned (.bool false) ∧ Below W.heap.size W w' from hasNumber_any _ _ _ _ W)
  have hblt := hp.lt
  have hq : ¬ (60 : Int) < (a : Int) := by omega
  clear hp hr hx ht
  go_enter Tryz.func44, Tryz.ntmps44
  go_wp2_with fail
  refine (giveUp_no _ _).mono ?_
  rintro r w1 ⟨rfl, hw1⟩
  subst hw1
  go_wp2_with fail
  have hbA := ((Below.refl w.heap.size w).alloc (Nat.le_refl _) (Obj.cells #[.int .i64 0, .int .i64 0, .slice none 0 0] 24)).alloc (by simp) (Obj.cells #[.string ⟨#[40]⟩] 9)
  have hzA : Qp.Z3 ((w.alloc (Obj.cells #[.int .i64 0, .int .i64 0, .slice none 0 0] 24)).alloc (Obj.cells #[.string ⟨#[40]⟩] 9)) w.heap.size := ⟨⟨.int .i64 0, by go_simp⟩, ⟨.int .i64 0, by go_simp⟩, ⟨.slice none 0 0, by go_simp⟩, fun i => by go_simp⟩
  refine ((unhide HS) _ hbA (some ⟨w.heap.size + 1, 0, none⟩) 1 ⟨fun i s hi => ?_⟩).mono ?_
  · match i, hi with
    | 0, hi => cases hi; exact ⟨w.heap.size + 1, 0, rfl, by simp, by go_simp, by decide⟩
    | _ + 1, hi => simp at hi
  rintro r w2 ⟨rfl, hb2⟩
  have HZ2 := hide (hzA.later hb2)
  have HB2 := hide (hbA.trans (hb2.mono hbA.size))
  clear hbA hzA hb2
  go_wp2_with fail
  have hbB := (Below.refl w2.heap.size w2).alloc (Nat.le_refl _) (Obj.cells #[.string ⟨#[115, 116, 101, 112]⟩, .string ⟨#[119, 114, 105, 116, 101]⟩, .string ⟨#[99, 97, 108, 108]⟩, .string ⟨#[112, 114, 105, 110, 116]⟩, .string ⟨#[108, 101, 115, 115]⟩, .string ⟨#[115, 97, 109, 101]⟩, .string ⟨#[110, 111, 116]⟩, .string ⟨#[112, 114, 101, 118]⟩, .string ⟨#[111, 110, 99, 101]⟩, .string ⟨#[97, 108, 108]⟩, .string ⟨#[115, 111, 111, 110]⟩] 9)
  refine ((unhide HT) _ ((unhide HB2).trans (hbB.mono (unhide HB2).size)) (some ⟨w2.heap.size, 0, none⟩) 11 ⟨fun i s hi => ?_⟩).mono ?_
  · match i, hi with
    | 0, hi => cases hi; exact ⟨w2.heap.size, 0, rfl, by simp, by go_simp, by decide⟩
    | 1, hi => cases hi; exact ⟨w2.heap.size, 0, rfl, by simp, by go_simp, by decide⟩
    | 2, hi => cases hi; exact ⟨w2.heap.size, 0, rfl, by simp, by go_simp, by decide⟩
    | 3, hi => cases hi; exact ⟨w2.heap.size, 0, rfl, by simp, by go_simp, by decide⟩
    | 4, hi => cases hi; exact ⟨w2.heap.size, 0, rfl, by simp, by go_simp, by decide⟩
    | 5, hi => cases hi; exact ⟨w2.heap.size, 0, rfl, by simp, by go_simp, by decide⟩
    | 6, hi => cases hi; exact ⟨w2.heap.size, 0, rfl, by simp, by go_simp, by decide⟩
    | 7, hi => cases hi; exact ⟨w2.heap.size, 0, rfl, by simp, by go_simp, by decide⟩
    | 8, hi => cases hi; exact ⟨w2.heap.size, 0, rfl, by simp, by go_simp, by decide⟩
    | 9, hi => cases hi; exact ⟨w2.heap.size, 0, rfl, by simp, by go_simp, by decide⟩
    | 10, hi => cases hi; exact ⟨w2.heap.size, 0, rfl, by simp, by go_simp, by decide⟩
    | _ + 11, hi => simp [Qp.words] at hi
  rintro r w3 ⟨rfl, hp3, hb3⟩
  have HZ3 := hide (((unhide HZ2).later hbB).but hb3 (by omega))
  have HBU3 := hide ((Qk.But1.refl bp w.heap.size w).below ((unhide HB2).trans (hbB.mono (unhide HB2).size)) |>.trans hb3 ((unhide HB2).trans (hbB.mono (unhide HB2).size)).size)
  have HP3 := hide hp3
  clear hp3 hb3 hbB
  go_wp2_with fail
  refine ((unhide HK) _).mono ?_
  rintro r w4 ⟨rfl, hb4⟩
  have HZ4 := hide ((unhide HZ3).later hb4)
  have HP4 := hide ((unhide HP3).below hb4)
  have HBU4 := hide ((unhide HBU3).below (hb4.mono (unhide HBU3).size))
  clear hb4
  go_wp2_with fail
  have hbC := ((Below.refl w4.heap.size w4).alloc (Nat.le_refl _) (Obj.cells #[.string (Qk.word 4), .int .i64 0, .int .i64 0, .int .i64 0] 63)).alloc (by simp) (Obj.cells #[.int .i64 4, .int .i64 0, .slice none 0 0] 24)
  have r1 : ((w4.alloc (Obj.cells #[.string (Qk.word 4), .int .i64 0, .int .i64 0, .int .i64 0] 63)).alloc (Obj.cells #[.int .i64 4, .int .i64 0, .slice none 0 0] 24)).cell? ⟨w4.heap.size, 1, none⟩ = some (.int .i64 0) := by go_simp
  have q0 : ((w4.alloc (Obj.cells #[.string (Qk.word 4), .int .i64 0, .int .i64 0, .int .i64 0] 63)).alloc (Obj.cells #[.int .i64 4, .int .i64 0, .slice none 0 0] 24)).cell? ⟨w4.heap.size + 1, 0, none⟩ = some (.int .i64 4) := by go_simp
  have q1 : ((w4.alloc (Obj.cells #[.string (Qk.word 4), .int .i64 0, .int .i64 0, .int .i64 0] 63)).alloc (Obj.cells #[.int .i64 4, .int .i64 0, .slice none 0 0] 24)).cell? ⟨w4.heap.size + 1, 1, none⟩ = some (.int .i64 0) := by go_simp
  have q2 : ((w4.alloc (Obj.cells #[.string (Qk.word 4), .int .i64 0, .int .i64 0, .int .i64 0] 63)).alloc (Obj.cells #[.int .i64 4, .int .i64 0, .slice none 0 0] 24)).cell? ⟨w4.heap.size + 1, 2, none⟩ = some (.slice none 0 0) := by go_simp
  have qf : ((w4.alloc (Obj.cells #[.string (Qk.word 4), .int .i64 0, .int .i64 0, .int .i64 0] 63)).alloc (Obj.cells #[.int .i64 4, .int .i64 0, .slice none 0 0] 24)).frozen? ⟨w4.heap.size + 1, 2, none⟩ = false := by go_simp
  have hs4 : ((w4.alloc (Obj.cells #[.string (Qk.word 4), .int .i64 0, .int .i64 0, .int .i64 0] 63)).alloc (Obj.cells #[.int .i64 4, .int .i64 0, .slice none 0 0] 24)).heap.size = w4.heap.size + 2 := by simp
  have HZC := hide ((unhide HZ4).later hbC)
  have HPC := hide ((unhide HP4).below hbC)
  have HBUC := hide ((unhide HBU4).below (hbC.mono (unhide HBU4).size))
  clear hbC
  generalize ((w4.alloc (Obj.cells #[.string (Qk.word 4), .int .i64 0, .int .i64 0, .int .i64 0] 63)).alloc (Obj.cells #[.int .i64 4, .int .i64 0, .slice none 0 0] 24)) = WC at *
  refine ((unhide HN) _).mono ?_
  rintro r w5 ⟨rfl, hb5⟩
  replace r1 := (hb5.cell (p := ⟨w4.heap.size, 1, none⟩) (by show w4.heap.size < WC.heap.size; omega)).trans r1
  replace q0 := (hb5.cell (p := ⟨w4.heap.size + 1, 0, none⟩) (by show w4.heap.size + 1 < WC.heap.size; omega)).trans q0
  replace q1 := (hb5.cell (p := ⟨w4.heap.size + 1, 1, none⟩) (by show w4.heap.size + 1 < WC.heap.size; omega)).trans q1
  replace q2 := (hb5.cell (p := ⟨w4.heap.size + 1, 2, none⟩) (by show w4.heap.size + 1 < WC.heap.size; omega)).trans q2
  replace qf := (hb5.frozen (p := ⟨w4.heap.size + 1, 2, none⟩) (by show w4.heap.size + 1 < WC.heap.size; omega)).trans qf
  have HZ5 := hide ((unhide HZC).later hb5)
  have HP5 := hide ((unhide HPC).below hb5)
  have HBU5 := hide ((unhide HBUC).below (hb5.mono (unhide HBUC).size))
  have hz4 := (unhide HZ4).lt
  have hs5 := hb5.size
  clear hb5
  obtain ⟨v0, m0⟩ := (unhide HZ5).c0
  obtain ⟨v1, m1⟩ := (unhide HZ5).c1
  obtain ⟨v2, m2⟩ := (unhide HZ5).c2
  have z0 := (unhide HZ5).f 0
  have z1 := (unhide HZ5).f 1
  have z2 := (unhide HZ5).f 2
  have HM := hide (Qp.set3 m0 m1 m2 (.int .i64 4) (.int .i64 0) (.slice none 0 0))
  have HBF := hide (((((Below.refl w.heap.size w5).setCell (p := ⟨w.heap.size, 0, none⟩) (Nat.le_refl _) (.int .i64 4)).setCell (p := ⟨w.heap.size, 1, none⟩) (Nat.le_refl _) (.int .i64 0)).setCell (p := ⟨w.heap.size, 2, none⟩) (Nat.le_refl _) (.slice none 0 0)))
  go_wp2_with fail
  obtain ⟨s0, s1, s2⟩ := unhide HM
  refine bodyPost_ret (v := .agg #[.int .i64 4, .int .i64 0, .slice none 0 0]) (by simp [results, Tryz.results44, go_sem, s0, s1, s2]) rfl ?_
  exact ⟨rfl, (unhide HP5).kept ((unhide HBF).block bp hblt), (unhide HBU5).below (unhide HBF)⟩

set_option maxRecDepth 100000 in
set_option maxHeartbeats 1600000 in
theorem query_once (l : List Qp.T) (ta : Option Addr) (n c bp i a : Nat) (e : Int) (x : Qp.T) (w : World) (hp : Qp.P w bp ta n c (i : Nat) e) (hr : Qp.RT w ta l) (hx : l[i]? = some x) (ht : x.t = Qk.word 11) (y : Qp.T) (hy : l[i + 1]? = some y) (hty : y.t = Qk.word 4) (hne : ∀ b o, ta = some ⟨b, o, none⟩ → b ≠ bp) (hn : i + 1 < n) (hf : n ≤ 10000) (ha : a < 60) :
    Calls Tryz.prog 44 #[.pointer (some ⟨bp, 0, none⟩), .int .i64 (a : Nat)] w fun r w' => (∃ g, r = .returned (.agg #[.int .i64 11, .int .i64 0, .slice (some ⟨g, 0, none⟩) 1 1]) ∧ Qk.Lies w' g 0 ⟨4, 0, ⟨none, 0, 0⟩⟩ ∧ w.heap.size ≤ g ∧ g < w'.heap.size) ∧ Qp.P w' bp ta n c ((i + 1 + 1 : Nat) : Int) e ∧ Qk.But1 bp w.heap.size w w' := by
  have HS := hide (fun (W : World) (hb : Below w.heap.size w W) (wa : Option Addr) (wc : Nat) (hw : Dk.RK W wa [⟨#[40]⟩]) => show Calls Tryz.prog 57 #[.pointer (some ⟨bp, 0, none⟩), .slice wa 1 wc] W fun r w' => r = .returned (.bool false) ∧ Below W.heap.size W w' by
    have := sees_ok l [⟨#[40]⟩] wa ta n c bp i wc e x W (hp.below hb) (hr.below hb) hw (by decide) hx (by omega) hf
    rw [ht, Qp.open_no11] at this
    exact this)
  have HT := hide (fun (W : World) (hb : Below w.heap.size w W) (wa : Option Addr) (wc : Nat) (hw : Dk.RK W wa Qp.words) => show Calls Tryz.prog 60 #[.pointer (some ⟨bp, 0, none⟩), .slice wa 11 wc] W fun r w' => r = .returned (.string (Qk.word 11)) ∧ Qp.P w' bp ta n c ((i + 1 : Nat) : Int) e ∧ Qk.But1 bp W.heap.size W w' by
    have := take_ok l Qp.words wa ta n c bp i wc e x W (hp.below hb) (hr.below hb) hw (by decide) hx (by omega) hf (by rw [ht]; exact Qp.in11)
    rw [ht] at this
    exact this)
  have HK := hide (fun (W : World) => show Calls Tryz.prog 59 #[.string (Qk.word 11)] W fun r w' => r = .returned (.tuple #[.int .i64 11, .agg #[.string (Qk.word 11), .int .i64 1, .int .i64 0, .int .i64 0]]) ∧ Below W.heap.size W w' from kindOf_ok 11 (by decide) (by decide) W)
  have HN := hide (fun (W : World) => show Calls Tryz.prog 39 #[.agg #[.string (Qk.word 11), .int .i64 1, .int .i64 0, .int .i64 0]] W fun r w' => r = .returned (.bool false) ∧ Below W.heap.size W w' from hasNumber_any _ _ _ _ W)
  have hblt := hp.lt
  have hq : ¬ (60 : Int) < (a : Int) := by omega
  have HI := hide (fun (W : World) (hP : Qp.P W bp ta n c ((i + 1 : Nat) : Int) e) (hR : Qp.RT W ta l) => show Calls Tryz.prog 44 #[.pointer (some ⟨bp, 0, none⟩), .int .i64 ((a : Int) + 1)] W fun r w' => r = .returned (.agg #[.int .i64 4, .int .i64 0, .slice none 0 0]) ∧ Qp.P w' bp ta n c ((i + 1 + 1 : Nat) : Int) e ∧ Qk.But1 bp W.heap.size W w' by
    have := query_print l ta n c bp (i + 1) (a + 1) e y W hP hR hy hty (by omega) hf (by omega)
    rw [show ((a + 1 : Nat) : Int) = (a : Int) + 1 by omega] at this
    exact this)
  have HRT := hide (fun (W : World) (hb : Qk.But1 bp w.heap.size w W) => hr.but hne hb)
  clear hy hty
  clear hp hr hx ht
  go_enter Tryz.func44, Tryz.ntmps44
  go_wp2_with fail
  refine (giveUp_no _ _).mono ?_
  rintro r w1 ⟨rfl, hw1⟩
  subst hw1
  go_wp2_with fail
  have hbA := ((Below.refl w.heap.size w).alloc (Nat.le_refl _) (Obj.cells #[.int .i64 0, .int .i64 0, .slice none 0 0] 24)).alloc (by simp) (Obj.cells #[.string ⟨#[40]⟩] 9)
  have hzA : Qp.Z3 ((w.alloc (Obj.cells #[.int .i64 0, .int .i64 0, .slice none 0 0] 24)).alloc (Obj.cells #[.string ⟨#[40]⟩] 9)) w.heap.size := ⟨⟨.int .i64 0, by go_simp⟩, ⟨.int .i64 0, by go_simp⟩, ⟨.slice none 0 0, by go_simp⟩, fun i => by go_simp⟩
  refine ((unhide HS) _ hbA (some ⟨w.heap.size + 1, 0, none⟩) 1 ⟨fun i s hi => ?_⟩).mono ?_
  · match i, hi with
    | 0, hi => cases hi; exact ⟨w.heap.size + 1, 0, rfl, by simp, by go_simp, by decide⟩
    | _ + 1, hi => simp at hi
  rintro r w2 ⟨rfl, hb2⟩
  have HZ2 := hide (hzA.later hb2)
  have HB2 := hide (hbA.trans (hb2.mono hbA.size))
  clear hbA hzA hb2
  go_wp2_with fail
  have hbB := (Below.refl w2.heap.size w2).alloc (Nat.le_refl _) (Obj.cells #[.string ⟨#[115, 116, 101, 112]⟩, .string ⟨#[119, 114, 105, 116, 101]⟩, .string ⟨#[99, 97, 108, 108]⟩, .string ⟨#[112, 114, 105, 110, 116]⟩, .string ⟨#[108, 101, 115, 115]⟩, .string ⟨#[115, 97, 109, 101]⟩, .string ⟨#[110, 111, 116]⟩, .string ⟨#[112, 114, 101, 118]⟩, .string ⟨#[111, 110, 99, 101]⟩, .string ⟨#[97, 108, 108]⟩, .string ⟨#[115, 111, 111, 110]⟩] 9)
  refine ((unhide HT) _ ((unhide HB2).trans (hbB.mono (unhide HB2).size)) (some ⟨w2.heap.size, 0, none⟩) 11 ⟨fun i s hi => ?_⟩).mono ?_
  · match i, hi with
    | 0, hi => cases hi; exact ⟨w2.heap.size, 0, rfl, by simp, by go_simp, by decide⟩
    | 1, hi => cases hi; exact ⟨w2.heap.size, 0, rfl, by simp, by go_simp, by decide⟩
    | 2, hi => cases hi; exact ⟨w2.heap.size, 0, rfl, by simp, by go_simp, by decide⟩
    | 3, hi => cases hi; exact ⟨w2.heap.size, 0, rfl, by simp, by go_simp, by decide⟩
    | 4, hi => cases hi; exact ⟨w2.heap.size, 0, rfl, by simp, by go_simp, by decide⟩
    | 5, hi => cases hi; exact ⟨w2.heap.size, 0, rfl, by simp, by go_simp, by decide⟩
    | 6, hi => cases hi; exact ⟨w2.heap.size, 0, rfl, by simp, by go_simp, by decide⟩
    | 7, hi => cases hi; exact ⟨w2.heap.size, 0, rfl, by simp, by go_simp, by decide⟩
    | 8, hi => cases hi; exact ⟨w2.heap.size, 0, rfl, by simp, by go_simp, by decide⟩
    | 9, hi => cases hi; exact ⟨w2.heap.size, 0, rfl, by simp, by go_simp, by decide⟩
    | 10, hi => cases hi; exact ⟨w2.heap.size, 0, rfl, by simp, by go_simp, by decide⟩
    | _ + 11, hi => simp [Qp.words] at hi
  rintro r w3 ⟨rfl, hp3, hb3⟩
  have HZ3 := hide (((unhide HZ2).later hbB).but hb3 (by omega))
  have HBU3 := hide ((Qk.But1.refl bp w.heap.size w).below ((unhide HB2).trans (hbB.mono (unhide HB2).size)) |>.trans hb3 ((unhide HB2).trans (hbB.mono (unhide HB2).size)).size)
  have HP3 := hide hp3
  clear hp3 hb3 hbB
  go_wp2_with fail
  refine ((unhide HK) _).mono ?_
  rintro r w4 ⟨rfl, hb4⟩
  have HZ4 := hide ((unhide HZ3).later hb4)
  have HP4 := hide ((unhide HP3).below hb4)
  have HBU4 := hide ((unhide HBU3).below (hb4.mono (unhide HBU3).size))
  clear hb4
  go_wp2_with fail
  have hbC := ((Below.refl w4.heap.size w4).alloc (Nat.le_refl _) (Obj.cells #[.string (Qk.word 11), .int .i64 1, .int .i64 0, .int .i64 0] 63)).alloc (by simp) (Obj.cells #[.int .i64 11, .int .i64 0, .slice none 0 0] 24)
  have r1 : ((w4.alloc (Obj.cells #[.string (Qk.word 11), .int .i64 1, .int .i64 0, .int .i64 0] 63)).alloc (Obj.cells #[.int .i64 11, .int .i64 0, .slice none 0 0] 24)).cell? ⟨w4.heap.size, 1, none⟩ = some (.int .i64 1) := by go_simp
  have q0 : ((w4.alloc (Obj.cells #[.string (Qk.word 11), .int .i64 1, .int .i64 0, .int .i64 0] 63)).alloc (Obj.cells #[.int .i64 11, .int .i64 0, .slice none 0 0] 24)).cell? ⟨w4.heap.size + 1, 0, none⟩ = some (.int .i64 11) := by go_simp
  have q1 : ((w4.alloc (Obj.cells #[.string (Qk.word 11), .int .i64 1, .int .i64 0, .int .i64 0] 63)).alloc (Obj.cells #[.int .i64 11, .int .i64 0, .slice none 0 0] 24)).cell? ⟨w4.heap.size + 1, 1, none⟩ = some (.int .i64 0) := by go_simp
  have q2 : ((w4.alloc (Obj.cells #[.string (Qk.word 11), .int .i64 1, .int .i64 0, .int .i64 0] 63)).alloc (Obj.cells #[.int .i64 11, .int .i64 0, .slice none 0 0] 24)).cell? ⟨w4.heap.size + 1, 2, none⟩ = some (.slice none 0 0) := by go_simp
  have qf : ((w4.alloc (Obj.cells #[.string (Qk.word 11), .int .i64 1, .int .i64 0, .int .i64 0] 63)).alloc (Obj.cells #[.int .i64 11, .int .i64 0, .slice none 0 0] 24)).frozen? ⟨w4.heap.size + 1, 2, none⟩ = false := by go_simp
  have hs4 : ((w4.alloc (Obj.cells #[.string (Qk.word 11), .int .i64 1, .int .i64 0, .int .i64 0] 63)).alloc (Obj.cells #[.int .i64 11, .int .i64 0, .slice none 0 0] 24)).heap.size = w4.heap.size + 2 := by simp
  have HZC := hide ((unhide HZ4).later hbC)
  have HPC := hide ((unhide HP4).below hbC)
  have HBUC := hide ((unhide HBU4).below (hbC.mono (unhide HBU4).size))
  clear hbC
  generalize ((w4.alloc (Obj.cells #[.string (Qk.word 11), .int .i64 1, .int .i64 0, .int .i64 0] 63)).alloc (Obj.cells #[.int .i64 11, .int .i64 0, .slice none 0 0] 24)) = WC at *
  refine ((unhide HN) _).mono ?_
  rintro r w5 ⟨rfl, hb5⟩
  replace r1 := (hb5.cell (p := ⟨w4.heap.size, 1, none⟩) (by show w4.heap.size < WC.heap.size; omega)).trans r1
  replace q0 := (hb5.cell (p := ⟨w4.heap.size + 1, 0, none⟩) (by show w4.heap.size + 1 < WC.heap.size; omega)).trans q0
  replace q1 := (hb5.cell (p := ⟨w4.heap.size + 1, 1, none⟩) (by show w4.heap.size + 1 < WC.heap.size; omega)).trans q1
  replace q2 := (hb5.cell (p := ⟨w4.heap.size + 1, 2, none⟩) (by show w4.heap.size + 1 < WC.heap.size; omega)).trans q2
  replace qf := (hb5.frozen (p := ⟨w4.heap.size + 1, 2, none⟩) (by show w4.heap.size + 1 < WC.heap.size; omega)).trans qf
  have HZ5 := hide ((unhide HZC).later hb5)
  have HP5 := hide ((unhide HPC).below hb5)
  have HBU5 := hide ((unhide HBUC).below (hb5.mono (unhide HBUC).size))
  have hz4 := (unhide HZ4).lt
  have hs5 := hb5.size
  clear hb5
  go_wp2_with fail
  refine ((unhide HI) _ (unhide HP5) ((unhide HRT) _ (unhide HBU5))).mono ?_
  rintro r w6 ⟨rfl, hp6, hb6⟩
  replace q0 := (hb6.cell (q := w4.heap.size + 1) (o := 0) (by omega) (by omega)).trans q0
  replace q1 := (hb6.cell (q := w4.heap.size + 1) (o := 1) (by omega) (by omega)).trans q1
  replace q2 := (hb6.cell (q := w4.heap.size + 1) (o := 2) (by omega) (by omega)).trans q2
  replace qf : w6.frozen? ⟨w4.heap.size + 1, 2, none⟩ = false := (World.frozen?_of_block (a := ⟨w4.heap.size + 1, 2, none⟩) (hb6.block (w4.heap.size + 1) (by omega) (by omega))).trans qf
  have HZ6 := hide ((unhide HZ5).but hb6 (by omega))
  have HP6 := hide hp6
  have HBU6 := hide ((unhide HBU5).trans hb6 (unhide HBU5).size)
  have hs6 := hb6.size
  clear hp6 hb6 r1
  have h46 : w4.heap.size + 1 < w6.heap.size := by omega
  have h06 : w.heap.size < w6.heap.size := by omega
  have h04 : w.heap.size ≠ w4.heap.size + 1 := by omega
  have h40 : w4.heap.size + 1 ≠ w.heap.size := by omega
  clear hs6 hs5 hs4
  obtain ⟨v0, m0⟩ := (unhide HZ6).c0
  obtain ⟨v1, m1⟩ := (unhide HZ6).c1
  obtain ⟨v2, m2⟩ := (unhide HZ6).c2
  have z0 := (unhide HZ6).f 0
  have z1 := (unhide HZ6).f 1
  have z2 := (unhide HZ6).f 2
  have n0 : (w6.setCell ⟨w4.heap.size + 1, 2, none⟩ (.slice (some ⟨w6.heap.size, 0, none⟩) 1 1)).cell? ⟨w.heap.size, 0, none⟩ = some v0 := by go_simp
  have n1 : (w6.setCell ⟨w4.heap.size + 1, 2, none⟩ (.slice (some ⟨w6.heap.size, 0, none⟩) 1 1)).cell? ⟨w.heap.size, 1, none⟩ = some v1 := by go_simp
  have n2 : (w6.setCell ⟨w4.heap.size + 1, 2, none⟩ (.slice (some ⟨w6.heap.size, 0, none⟩) 1 1)).cell? ⟨w.heap.size, 2, none⟩ = some v2 := by go_simp
  have HM := hide (Qp.set3 n0 n1 n2 (.int .i64 11) (.int .i64 0) (.slice (some ⟨w6.heap.size, 0, none⟩) 1 1))
  clear n0 n1 n2
  have hsz : ((((w6.setCell ⟨w4.heap.size + 1, 2, none⟩ (.slice (some ⟨w6.heap.size, 0, none⟩) 1 1)).setCell ⟨w.heap.size, 0, none⟩ (.int .i64 11)).setCell ⟨w.heap.size, 1, none⟩ (.int .i64 0)).setCell ⟨w.heap.size, 2, none⟩ (.slice (some ⟨w6.heap.size, 0, none⟩) 1 1)).heap.size = w6.heap.size := by simp [World.setCell]
  have HSZ := hide hsz
  clear hsz
  have HBF := hide (((((((Below.refl w.heap.size w6).setCell (p := ⟨w4.heap.size + 1, 2, none⟩) (by show w.heap.size ≤ w4.heap.size + 1; omega) (.slice (some ⟨w6.heap.size, 0, none⟩) 1 1)).setCell (p := ⟨w.heap.size, 0, none⟩) (Nat.le_refl _) (.int .i64 11)).setCell (p := ⟨w.heap.size, 1, none⟩) (Nat.le_refl _) (.int .i64 0)).setCell (p := ⟨w.heap.size, 2, none⟩) (Nat.le_refl _) (.slice (some ⟨w6.heap.size, 0, none⟩) 1 1))).alloc (by rw [unhide HSZ]; omega) (Obj.cells #[.int .i64 4, .int .i64 0, .slice none 0 0] 24))
  go_wp2_with fail
  obtain ⟨s0, s1, s2⟩ := unhide HM
  have hsz := unhide HSZ
  generalize ((((w6.setCell ⟨w4.heap.size + 1, 2, none⟩ (.slice (some ⟨w6.heap.size, 0, none⟩) 1 1)).setCell ⟨w.heap.size, 0, none⟩ (.int .i64 11)).setCell ⟨w.heap.size, 1, none⟩ (.int .i64 0)).setCell ⟨w.heap.size, 2, none⟩ (.slice (some ⟨w6.heap.size, 0, none⟩) 1 1)) = X at *
  have hbX := (Below.refl X.heap.size X).alloc (Nat.le_refl _) (Obj.cells #[.int .i64 4, .int .i64 0, .slice none 0 0] 24)
  have hlt : w.heap.size < X.heap.size := by omega
  replace s0 := (hbX.cell (p := ⟨w.heap.size, 0, none⟩) hlt).trans s0
  replace s1 := (hbX.cell (p := ⟨w.heap.size, 1, none⟩) hlt).trans s1
  replace s2 := (hbX.cell (p := ⟨w.heap.size, 2, none⟩) hlt).trans s2
  have hL : Qk.Lies (X.alloc (Obj.cells #[.int .i64 4, .int .i64 0, .slice none 0 0] 24)) X.heap.size 0 ⟨4, 0, ⟨none, 0, 0⟩⟩ := ⟨by go_simp, by go_simp, by go_simp⟩
  rw [hsz] at hL
  refine bodyPost_ret (v := .agg #[.int .i64 11, .int .i64 0, .slice (some ⟨w6.heap.size, 0, none⟩) 1 1]) (by simp [results, Tryz.results44, go_sem, s0, s1, s2]) rfl ?_
  exact ⟨⟨w6.heap.size, rfl, hL, by omega, World.block_lt_of_cell? _ ⟨w6.heap.size, 0, none⟩ hL.c0⟩, (unhide HP6).kept ((unhide HBF).block bp hblt), (unhide HBU6).below (unhide HBF)⟩
end Go.Proofs.YtfhlnelgnnkeoaaGreatDoor
