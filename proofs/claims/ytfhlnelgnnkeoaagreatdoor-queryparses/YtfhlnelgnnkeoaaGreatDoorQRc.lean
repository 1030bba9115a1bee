/-
  Several texts in one: QR6, QR7. By the verifier.
-/
import Derived.Test.YtfhlnelgnnkeoaaGreatDoorQRb
import Derived.Test.YtfhlnelgnnkeoaaGreatDoorQP4
namespace Go.Proofs.YtfhlnelgnnkeoaaGreatDoor
open Go.RowKit
set_option linter.unusedVariables false

/-- A box of one cell that may be written. -/
structure Qp.Z1 (W : World) (b : Nat) : Prop where
  c0 : ∃ v, W.cell? ⟨b, 0, none⟩ = some v
  f0 : W.frozen? ⟨b, 0, none⟩ = false
theorem Qp.Z1.lt {W : World} {b : Nat} (h : Qp.Z1 W b) : b < W.heap.size := by
  obtain ⟨v, hv⟩ := h.c0
  exact World.block_lt_of_cell? W _ hv
theorem Qp.Z1.kept {W W' : World} {b : Nat} (h : Qp.Z1 W b) (hb : W'.heap[b]? = W.heap[b]?) : Qp.Z1 W' b :=
  ⟨by rw [World.cell?_of_block (a := ⟨b, 0, none⟩) hb]; exact h.c0, by rw [World.frozen?_of_block (a := ⟨b, 0, none⟩) hb]; exact h.f0⟩
/-- Three boxes written: what then stands, and what stays. -/
theorem Qp.ret5 {W : World} {b : Nat} (h : Qp.Z3 W b) (h1 : Qp.Z1 W (b + 1)) (h2 : Qp.Z1 W (b + 1 + 1)) (u0 u1 u2 u3 u4 : Value) :
    let V := ((((W.setCell ⟨b, 0, none⟩ u0).setCell ⟨b, 1, none⟩ u1).setCell ⟨b, 2, none⟩ u2).setCell ⟨b + 1, 0, none⟩ u3).setCell ⟨b + 1 + 1, 0, none⟩ u4
    (V.cell? ⟨b, 0, none⟩ = some u0 ∧ V.cell? ⟨b, 1, none⟩ = some u1 ∧ V.cell? ⟨b, 2, none⟩ = some u2 ∧ V.cell? ⟨b + 1, 0, none⟩ = some u3 ∧ V.cell? ⟨b + 1 + 1, 0, none⟩ = some u4) ∧ V.heap.size = W.heap.size ∧ Below b W V ∧ ∀ B, b + 2 < B → Qp.Ab B W V := by
  obtain ⟨⟨s0, s1, s2⟩, hs, hb, ha, hk⟩ := Qp.ret3 h u0 u1 u2
  generalize ((W.setCell ⟨b, 0, none⟩ u0).setCell ⟨b, 1, none⟩ u1).setCell ⟨b, 2, none⟩ u2 = S at *
  obtain ⟨a3, k3⟩ := (h1.kept (hk (b + 1) (by omega))).c0
  obtain ⟨a4, k4⟩ := (h2.kept (hk (b + 1 + 1) (by omega))).c0
  have n1 : ∀ (q : Nat) (o : Nat), q ≠ b + 1 → (S.setCell ⟨b + 1, 0, none⟩ u3).cell? ⟨q, o, none⟩ = S.cell? ⟨q, o, none⟩ := fun q o hq => World.cell?_of_block (a := ⟨q, o, none⟩) (Below.heap_setCell _ _ _ _ hq)
  have n2 : ∀ (q : Nat) (o : Nat), q ≠ b + 1 + 1 → ((S.setCell ⟨b + 1, 0, none⟩ u3).setCell ⟨b + 1 + 1, 0, none⟩ u4).cell? ⟨q, o, none⟩ = (S.setCell ⟨b + 1, 0, none⟩ u3).cell? ⟨q, o, none⟩ := fun q o hq => World.cell?_of_block (a := ⟨q, o, none⟩) (Below.heap_setCell _ _ _ _ hq)
  refine ⟨⟨?_, ?_, ?_, ?_, ?_⟩, ?_, ?_, fun B hB => ⟨?_, fun q h1 h2 => ?_⟩⟩
  · rw [n2 b 0 (by omega), n1 b 0 (by omega)]; exact s0
  · rw [n2 b 1 (by omega), n1 b 1 (by omega)]; exact s1
  · rw [n2 b 2 (by omega), n1 b 2 (by omega)]; exact s2
  · rw [n2 (b + 1) 0 (by omega)]; exact World.cell?_setCell_same _ _ _ k3
  · exact World.cell?_setCell_same _ _ _ (u := a4) (by rw [n1 (b + 1 + 1) 0 (by omega)]; exact k4)
  · simp [World.setCell] at hs ⊢; exact hs
  · exact (hb.setCell (p := ⟨b + 1, 0, none⟩) (by show b ≤ b + 1; omega) u3).setCell (p := ⟨b + 1 + 1, 0, none⟩) (by show b ≤ b + 1 + 1; omega) u4
  · simp [World.setCell] at hs ⊢; omega
  · exact ((Below.heap_setCell _ _ _ _ (show q ≠ b + 1 + 1 by omega)).trans (Below.heap_setCell _ _ _ _ (show q ≠ b + 1 by omega))).trans (hk q (by omega))

theorem qassert_place (x : Int) (w : World) : (Instr.typeAssert (.iface 72 (.int .i64 x)) 20 72 true).run Tryz.prog w = .ok (.tuple #[.int .i64 x, .bool true]) w := by kernel_rfl

set_option maxHeartbeats 800000 in
theorem qcatch_place (N : Nat) (a : Int) (w : World) (h : Qp.Z3 w N) (h1 : Qp.Z1 w (N + 1)) (h2 : Qp.Z1 w (N + 1 + 1)) :
    CallsD Tryz.prog 43 #[.pointer (some ⟨N, 0, none⟩), .pointer (some ⟨N + 1, 0, none⟩), .pointer (some ⟨N + 1 + 1, 0, none⟩)] (.panicking (Qp.gave a)) w fun e u' w' =>
      e = .returned (.tuple #[]) ∧ u' = .panicking [{ v := .iface 72 (.int .i64 a), recovered := true }] ∧
      (w'.cell? ⟨N, 0, none⟩ = some (.int .i64 0) ∧ w'.cell? ⟨N, 1, none⟩ = some (.int .i64 0) ∧ w'.cell? ⟨N, 2, none⟩ = some (.slice none 0 0) ∧ w'.cell? ⟨N + 1, 0, none⟩ = some (.int .i64 a) ∧ w'.cell? ⟨N + 1 + 1, 0, none⟩ = some (.int .i64 1)) ∧ Below N w w' := by
  have HV := hide (Qp.ret5 h h1 h2 (.int .i64 0) (.int .i64 0) (.slice none 0 0) (.int .i64 a) (.int .i64 1))
  obtain ⟨v0, m0⟩ := h.c0
  obtain ⟨v1, m1⟩ := h.c1
  obtain ⟨v2, m2⟩ := h.c2
  have z0 := h.f 0
  have z1 := h.f 1
  have z2 := h.f 2
  obtain ⟨v3, m3⟩ := h1.c0
  obtain ⟨v4, m4⟩ := h2.c0
  have z3 := h1.f0
  have z4 := h2.f0
  have hta := qassert_place
  clear h h1 h2
  refine callsD_of_wpS Tryz.func43 rfl fun c₀ cs hu => ?_
  simp only [Tryz.ntmps43, List.size_toArray, List.length_cons, List.length_nil, Nat.reduceAdd, Nat.reduceSub, Array.replicate_succ,
     Array.replicate_zero, List.push_toArray, List.append_toArray, List.nil_append, List.cons_append]
  apply wpS_seq
  refine rec_some (v := .iface 72 (.int .i64 a)) (cs' := { c₀ with mode := .panicking [{ v := .iface 72 (.int .i64 a), recovered := true }] } :: cs)
    ⟨#[.pointer (some ⟨N, 0, none⟩), .pointer (some ⟨N + 1, 0, none⟩), .pointer (some ⟨N + 1 + 1, 0, none⟩), .iface 72 (.int .i64 a), undef, undef, .iface 72 (.int .i64 a), undef, undef, undef, undef, undef, undef, undef, undef, undef, undef, undef, undef], []⟩
    (by simp [recoverD, hu, Qp.gave]) (by simp [go_sem]) ?_
  refine wpS_of_wp ?_
  go_wp2_with fail
  obtain ⟨hc, hs, hb, _⟩ := unhide HV
  exact ⟨rfl, _, rfl, _, by simp [results, Tryz.results43], rfl, rfl, hc, hb⟩
end Go.Proofs.YtfhlnelgnnkeoaaGreatDoor
namespace Go.Proofs.YtfhlnelgnnkeoaaGreatDoor
open Go.RowKit
set_option linter.unusedVariables false

/-- The query that has just these tokens. -/
def Qp.prs (l : List Qp.T) : Except Nat (Qk.AT 61) :=
  match Qp.q l 61 0 with
  | .error j => .error j
  | .ok (x, j) => if j < l.length then .error j else .ok x
/-- What parse leaves. -/
def Qp.OutP (l : List Qp.T) (e : Int) (w : World) (o : Except Nat (Qk.AT 61)) (r : Ending) (w' : World) : Prop :=
  match o with
  | .error j => r = .returned (.tuple #[.agg #[.int .i64 0, .int .i64 0, .slice none 0 0], .int .i64 (Qp.pl l e j), .int .i64 1]) ∧ Below w.heap.size w w'
  | .ok x => (∃ E : Qk.E, r = .returned (.tuple #[.agg #[.int .i64 E.k, .int .i64 E.n, .slice E.args.ad E.args.len E.args.cap], .int .i64 0, .int .i64 0]) ∧ Qp.RO w.heap.size w' 61 E x) ∧ Below w.heap.size w w'

set_option maxRecDepth 100000 in
set_option maxHeartbeats 3200000 in
theorem parse_any (l : List Qp.T) (ta : Option Addr) (c : Nat) (e : Int) (w : World) (hr : Qp.RT w ta l) (hta : ∀ b o, ta = some ⟨b, o, none⟩ → b < w.heap.size) (hf : l.length ≤ 10000) (hN : Qp.Num l) :
    Calls Tryz.prog 32 #[.slice ta l.length c, .int .i64 e] w (Qp.OutP l e w (Qp.prs l)) := by
  have hmf : ∀ (fn : Fn) (first cap : Array Value) (w : World), (Instr.makeFunc fn first cap).run Tryz.prog w = .ok (.func fn first cap) w := fun _ _ _ _ => rfl
  have hne : ∀ b o, ta = some ⟨b, o, none⟩ → b ≠ w.heap.size + 1 + 1 + 1 := fun b o h => by have := hta b o h; omega
  have HQ := hide (fun (W : World) (h1 : Qp.P W (w.heap.size + 1 + 1 + 1) ta l.length c 0 e) (h2 : Qp.RT W ta l) => show Calls Tryz.prog 44 #[.pointer (some ⟨w.heap.size + 1 + 1 + 1, 0, none⟩), .int .i64 0] W (Qp.OutQ (w.heap.size + 1 + 1 + 1) ta l c e W (Qp.q l 61 0)) from query_any l ta c (w.heap.size + 1 + 1 + 1) e hne hf hN 61 (Nat.le_refl _) 0 W h1 h2)
  have HG := hide (fun (j : Nat) (W : World) (h1 : Qp.P W (w.heap.size + 1 + 1 + 1) ta l.length c (j : Nat) e) (h2 : Qp.RT W ta l) => giveUp_yes l ta c (w.heap.size + 1 + 1 + 1) j e W h1 h2 hf)
  have HR := hide (And.intro hr hne)
  obtain ⟨o, ho⟩ : ∃ o, Qp.prs l = o := ⟨_, rfl⟩
  rw [ho]
  have HO := hide ho
  clear hr hN hta hne ho
  go_enter_defers Tryz.func32, Tryz.ntmps32
  go_wp2_with fail
  have hbW := ((((Below.refl w.heap.size w).alloc (Nat.le_refl _) (Obj.cells #[.int .i64 0, .int .i64 0, .slice none 0 0] 24)).alloc (by simp) (Obj.cells #[.int .i64 0] 3)).alloc (by simp; omega) (Obj.cells #[.int .i64 0] 25)).alloc (by simp; omega) (Obj.cells #[.slice ta l.length c, .int .i64 0, .int .i64 e] 75)
  have hP : Qp.P ((((w.alloc (Obj.cells #[.int .i64 0, .int .i64 0, .slice none 0 0] 24)).alloc (Obj.cells #[.int .i64 0] 3)).alloc (Obj.cells #[.int .i64 0] 25)).alloc (Obj.cells #[.slice ta l.length c, .int .i64 0, .int .i64 e] 75)) (w.heap.size + 1 + 1 + 1) ta l.length c 0 e := ⟨by go_simp, by go_simp, by go_simp, by go_simp⟩
  have hz : Qp.Z3 ((((w.alloc (Obj.cells #[.int .i64 0, .int .i64 0, .slice none 0 0] 24)).alloc (Obj.cells #[.int .i64 0] 3)).alloc (Obj.cells #[.int .i64 0] 25)).alloc (Obj.cells #[.slice ta l.length c, .int .i64 0, .int .i64 e] 75)) w.heap.size := ⟨⟨.int .i64 0, by go_simp⟩, ⟨.int .i64 0, by go_simp⟩, ⟨.slice none 0 0, by go_simp⟩, fun i => by go_simp⟩
  have ha1 : Qp.Z1 ((((w.alloc (Obj.cells #[.int .i64 0, .int .i64 0, .slice none 0 0] 24)).alloc (Obj.cells #[.int .i64 0] 3)).alloc (Obj.cells #[.int .i64 0] 25)).alloc (Obj.cells #[.slice ta l.length c, .int .i64 0, .int .i64 e] 75)) (w.heap.size + 1) := ⟨⟨.int .i64 0, by go_simp⟩, by go_simp⟩
  have ha2 : Qp.Z1 ((((w.alloc (Obj.cells #[.int .i64 0, .int .i64 0, .slice none 0 0] 24)).alloc (Obj.cells #[.int .i64 0] 3)).alloc (Obj.cells #[.int .i64 0] 25)).alloc (Obj.cells #[.slice ta l.length c, .int .i64 0, .int .i64 e] 75)) (w.heap.size + 1 + 1) := ⟨⟨.int .i64 0, by go_simp⟩, by go_simp⟩
  have hs0 : ((((w.alloc (Obj.cells #[.int .i64 0, .int .i64 0, .slice none 0 0] 24)).alloc (Obj.cells #[.int .i64 0] 3)).alloc (Obj.cells #[.int .i64 0] 25)).alloc (Obj.cells #[.slice ta l.length c, .int .i64 0, .int .i64 e] 75)).heap.size = w.heap.size + 4 := by simp
  have HBW := hide hbW
  have HP0 := hide hP
  have HZ0 := hide hz
  have HA0 := hide (And.intro ha1 ha2)
  clear hbW hP hz ha1 ha2
  generalize ((((w.alloc (Obj.cells #[.int .i64 0, .int .i64 0, .slice none 0 0] 24)).alloc (Obj.cells #[.int .i64 0] 3)).alloc (Obj.cells #[.int .i64 0] 25)).alloc (Obj.cells #[.slice ta l.length c, .int .i64 0, .int .i64 e] 75)) = WA at *
  refine ((unhide HQ) WA (unhide HP0) ((unhide HR).1.below (unhide HBW))).mono ?_
  intro r w1 hq
  cases hd : Qp.q l 61 0 with
  | error j =>
    rw [hd] at hq
    obtain ⟨rfl, hb1⟩ := hq
    obtain rfl : o = .error j := by rw [← unhide HO]; unfold Qp.prs; rw [hd]
    have HZ1 := hide ((unhide HZ0).but hb1 (by omega))
    have HA1 := hide (And.intro ((unhide HA0).1.kept (hb1.block (w.heap.size + 1) (by omega) (by omega))) ((unhide HA0).2.kept (hb1.block (w.heap.size + 1 + 1) (by omega) (by omega))))
    have HB1 := hide (show Below w.heap.size w w1 from ⟨hb1.os.trans (unhide HBW).os, hb1.tape.trans (unhide HBW).tape, hb1.output.trans (unhide HBW).output, Nat.le_trans (unhide HBW).size hb1.size, fun q h => (hb1.block q (by omega) (by omega)).trans ((unhide HBW).block q h)⟩)
    clear hb1
    go_wp2_with fail
    refine leaves_cons (f := 43) (args := #[.pointer (some ⟨w.heap.size, 0, none⟩), .pointer (some ⟨w.heap.size + 1, 0, none⟩), .pointer (some ⟨w.heap.size + 1 + 1, 0, none⟩)]) (by simp) (by simp [go_sem]) ?_
    refine (qcatch_place w.heap.size _ w1 (unhide HZ1) (unhide HA1).1 (unhide HA1).2).mono ?_
    rintro e u' w2 ⟨rfl, rfl, ⟨d0, d1, d2, d3, d4⟩, hb2⟩
    simp [Leaves, settle, results, Tryz.results32, go_sem, d0, d1, d2, d3, d4]
    exact ⟨rfl, (unhide HB1).trans hb2⟩
  | ok p =>
    obtain ⟨x, j⟩ := p
    rw [hd] at hq
    obtain ⟨⟨E, rfl, hro⟩, hp1, hb1⟩ := hq
    have HO2 := hide (show o = if j < l.length then .error j else .ok x by rw [← unhide HO]; unfold Qp.prs; rw [hd])
    have HZ1 := hide ((unhide HZ0).but hb1 (by omega))
    have HA1 := hide (And.intro ((unhide HA0).1.kept (hb1.block (w.heap.size + 1) (by omega) (by omega))) ((unhide HA0).2.kept (hb1.block (w.heap.size + 1 + 1) (by omega) (by omega))))
    have HB1 := hide (show Below w.heap.size w w1 from ⟨hb1.os.trans (unhide HBW).os, hb1.tape.trans (unhide HBW).tape, hb1.output.trans (unhide HBW).output, Nat.le_trans (unhide HBW).size hb1.size, fun q h => (hb1.block q (by omega) (by omega)).trans ((unhide HBW).block q h)⟩)
    have HRO1 := hide hro
    have HP1 := hide hp1
    have hs1 := hb1.size
    clear hb1 hro hp1 HO
    have HZS := hide ((((unhide HZ1).set 0 (.int .i64 E.k)).set 1 (.int .i64 E.n)).set 2 (.slice E.args.ad E.args.len E.args.cap))
    have HS1 := hide (Qp.ret3 (unhide HZ1) (.int .i64 E.k) (.int .i64 E.n) (.slice E.args.ad E.args.len E.args.cap))
    obtain ⟨v0, m0⟩ := (unhide HZ1).c0
    obtain ⟨v1, m1⟩ := (unhide HZ1).c1
    obtain ⟨v2, m2⟩ := (unhide HZ1).c2
    have z0 := (unhide HZ1).f 0
    have z1 := (unhide HZ1).f 1
    have z2 := (unhide HZ1).f 2
    obtain ⟨q0, q1, q2, qf⟩ := unhide HP1
    by_cases hj : j < l.length
    · have hj1 : (j : Int) < (l.length : Int) := by omega
      obtain rfl : o = .error j := by rw [unhide HO2, if_pos hj]
      go_wp2_with fail
      obtain ⟨⟨s0, s1, s2⟩, hsS, hbS, haS, hkS⟩ := unhide HS1
      generalize (((w1.setCell ⟨w.heap.size, 0, none⟩ (.int .i64 E.k)).setCell ⟨w.heap.size, 1, none⟩ (.int .i64 E.n)).setCell ⟨w.heap.size, 2, none⟩ (.slice E.args.ad E.args.len E.args.cap)) = S at *
      have HPS := hide ((unhide HP1).kept (hkS _ (by omega)))
      have HBS := hide ((unhide HB1).trans hbS)
      have HAS := hide (And.intro ((unhide HA1).1.kept (hkS _ (by omega))) ((unhide HA1).2.kept (hkS _ (by omega))))
      clear s0 s1 s2 hbS haS hkS HS1
      refine ((unhide HG) j S (unhide HPS) ((unhide HR).1.below (unhide HBS))).mono ?_
      rintro r w2 ⟨rfl, hb2⟩
      have HZ2 := hide ((unhide HZS).later hb2)
      have HA2 := hide (And.intro ((unhide HAS).1.kept (hb2.block _ (unhide HAS).1.lt)) ((unhide HAS).2.kept (hb2.block _ (unhide HAS).2.lt)))
      have HB2 := hide ((unhide HBS).trans (hb2.mono (unhide HBS).size))
      clear hb2
      go_wp2_with fail
      refine leaves_cons (f := 43) (args := #[.pointer (some ⟨w.heap.size, 0, none⟩), .pointer (some ⟨w.heap.size + 1, 0, none⟩), .pointer (some ⟨w.heap.size + 1 + 1, 0, none⟩)]) (by simp) (by simp [go_sem]) ?_
      refine (qcatch_place w.heap.size _ w2 (unhide HZ2) (unhide HA2).1 (unhide HA2).2).mono ?_
      rintro e u' w3 ⟨rfl, rfl, ⟨d0, d1, d2, d3, d4⟩, hb3⟩
      simp [Leaves, settle, results, Tryz.results32, go_sem, d0, d1, d2, d3, d4]
      exact ⟨rfl, (unhide HB2).trans hb3⟩
    · have hj1 : ¬ (j : Int) < (l.length : Int) := by omega
      obtain rfl : o = .ok x := by rw [unhide HO2, if_neg hj]
      go_wp2_with fail
      obtain ⟨⟨s0, s1, s2⟩, hsS, hbS, haS, hkS⟩ := unhide HS1
      generalize (((w1.setCell ⟨w.heap.size, 0, none⟩ (.int .i64 E.k)).setCell ⟨w.heap.size, 1, none⟩ (.int .i64 E.n)).setCell ⟨w.heap.size, 2, none⟩ (.slice E.args.ad E.args.len E.args.cap)) = S at *
      have HBS := hide ((unhide HB1).trans hbS)
      have HAS := hide (And.intro ((unhide HA1).1.kept (hkS _ (by omega))) ((unhide HA1).2.kept (hkS _ (by omega))))
      have HROS := hide ((unhide HRO1).ab (haS _ (by omega)))
      refine (giveUp_no _ _).mono ?_
      rintro r w2 ⟨rfl, hw2⟩
      obtain rfl : S = w2 := hw2.symm
      clear hbS haS hkS HS1 m0 m1 m2 z0 z1 z2 q0 q1 q2 qf
      have HV := hide (Qp.ret5 (unhide HZS) (unhide HAS).1 (unhide HAS).2 (.int .i64 E.k) (.int .i64 E.n) (.slice E.args.ad E.args.len E.args.cap) (.int .i64 0) (.int .i64 0))
      have z0 := (unhide HZS).f 0
      have z1 := (unhide HZS).f 1
      have z2 := (unhide HZS).f 2
      obtain ⟨v3, m3⟩ := (unhide HAS).1.c0
      obtain ⟨v4, m4⟩ := (unhide HAS).2.c0
      have z3 := (unhide HAS).1.f0
      have z4 := (unhide HAS).2.f0
      go_wp2_with fail
      obtain ⟨⟨d0, d1, d2, d3, d4⟩, hsV, hbV, haV⟩ := unhide HV
      generalize (((((S.setCell ⟨w.heap.size, 0, none⟩ (.int .i64 E.k)).setCell ⟨w.heap.size, 1, none⟩ (.int .i64 E.n)).setCell ⟨w.heap.size, 2, none⟩ (.slice E.args.ad E.args.len E.args.cap)).setCell ⟨w.heap.size + 1, 0, none⟩ (.int .i64 0)).setCell ⟨w.heap.size + 1 + 1, 0, none⟩ (.int .i64 0)) = V at *
      refine leaves_cons (f := 43) (args := #[.pointer (some ⟨w.heap.size, 0, none⟩), .pointer (some ⟨w.heap.size + 1, 0, none⟩), .pointer (some ⟨w.heap.size + 1 + 1, 0, none⟩)]) (by simp) (by simp [go_sem]) ?_
      refine (qcatch_idle _ _ _ _).mono ?_
      rintro e u' w3 ⟨rfl, rfl, hw3⟩
      obtain rfl : V = w3 := hw3.symm
      simp [Leaves, settle, results, Tryz.results32, go_sem, d0, d1, d2, d3, d4]
      exact ⟨⟨E, rfl, ((unhide HROS).ab (haV _ (by omega))).mono (by omega)⟩, (unhide HBS).trans hbV⟩
end Go.Proofs.YtfhlnelgnnkeoaaGreatDoor
