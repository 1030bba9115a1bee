/-
  The contract of tree's parse. By the verifier.
-/
import Derived.Test.YtfccpddehpgfoaaGreatDoorTTr
import Derived.Test.YtfccpddehpgfoaaGreatDoorUA
set_option maxRecDepth 100000
set_option maxHeartbeats 3200000
namespace Go.Proofs.YtfccpddehpgfoaaGreatDoor
open Go.RowKit
set_option linter.unusedVariables false
structure Tp.Z1 (W : World) (b : Nat) : Prop where
 c0 : ∃ v, W.cell? ⟨b, 0, none⟩ = some v
 f0 : W.frozen? ⟨b, 0, none⟩ = false
theorem Tp.Z1.lt {W : World} {b : Nat} (h : Tp.Z1 W b) : b < W.heap.size := by
 obtain ⟨v, hv⟩ := h.c0
 exact World.block_lt_of_cell? W _ hv
theorem Tp.Z1.kept {W W' : World} {b : Nat} (h : Tp.Z1 W b) (hb : W'.heap[b]? = W.heap[b]?) : Tp.Z1 W' b :=
 ⟨by rw [World.cell?_of_block (a := ⟨b, 0, none⟩) hb]; exact h.c0, by rw [World.frozen?_of_block (a := ⟨b, 0, none⟩) hb]; exact h.f0⟩
theorem Tp.ret3 {W : World} {b : Nat} (h0 : Tp.Z1 W b) (h1 : Tp.Z1 W (b + 1)) (h2 : Tp.Z1 W (b + 1 + 1)) (u0 u1 u2 : Value) :
  let V := ((W.setCell ⟨b, 0, none⟩ u0).setCell ⟨b + 1, 0, none⟩ u1).setCell ⟨b + 1 + 1, 0, none⟩ u2
  (V.cell? ⟨b, 0, none⟩ = some u0 ∧ V.cell? ⟨b + 1, 0, none⟩ = some u1 ∧ V.cell? ⟨b + 1 + 1, 0, none⟩ = some u2) ∧ V.heap.size = W.heap.size ∧ Below b W V ∧ ∀ q, b + 2 < q → V.heap[q]? = W.heap[q]? := by
 obtain ⟨a0, k0⟩ := h0.c0
 obtain ⟨a1, k1⟩ := h1.c0
 obtain ⟨a2, k2⟩ := h2.c0
 have n1 : ∀ (S : World) (v : Value) (q : Nat) (o : Nat), q ≠ b + 1 → (S.setCell ⟨b + 1, 0, none⟩ v).cell? ⟨q, o, none⟩ = S.cell? ⟨q, o, none⟩ := fun S v q o hq => World.cell?_of_block (a := ⟨q, o, none⟩) (Below.heap_setCell _ _ _ _ hq)
 have n2 : ∀ (S : World) (v : Value) (q : Nat) (o : Nat), q ≠ b + 1 + 1 → (S.setCell ⟨b + 1 + 1, 0, none⟩ v).cell? ⟨q, o, none⟩ = S.cell? ⟨q, o, none⟩ := fun S v q o hq => World.cell?_of_block (a := ⟨q, o, none⟩) (Below.heap_setCell _ _ _ _ hq)
 have n0 : ∀ (S : World) (v : Value) (q : Nat) (o : Nat), q ≠ b → (S.setCell ⟨b, 0, none⟩ v).cell? ⟨q, o, none⟩ = S.cell? ⟨q, o, none⟩ := fun S v q o hq => World.cell?_of_block (a := ⟨q, o, none⟩) (Below.heap_setCell _ _ _ _ hq)
 refine ⟨⟨?_, ?_, ?_⟩, by simp [World.setCell], ?_, fun q hq => ?_⟩
 · rw [n2 _ _ b 0 (by omega), n1 _ _ b 0 (by omega)]; exact World.cell?_setCell_same _ _ _ k0
 · rw [n2 _ _ (b + 1) 0 (by omega)]; exact World.cell?_setCell_same _ _ _ (u := a1) (by rw [n0 _ _ (b + 1) 0 (by omega)]; exact k1)
 · exact World.cell?_setCell_same _ _ _ (u := a2) (by rw [n1 _ _ (b + 1 + 1) 0 (by omega), n0 _ _ (b + 1 + 1) 0 (by omega)]; exact k2)
 · exact (((Below.refl b W).setCell (p := ⟨b, 0, none⟩) (Nat.le_refl _) u0).setCell (p := ⟨b + 1, 0, none⟩) (by show b ≤ b + 1; omega) u1).setCell (p := ⟨b + 1 + 1, 0, none⟩) (by show b ≤ b + 1 + 1; omega) u2
 · exact ((Below.heap_setCell _ _ _ _ (show q ≠ b + 1 + 1 by omega)).trans (Below.heap_setCell _ _ _ _ (show q ≠ b + 1 by omega))).trans (Below.heap_setCell _ _ _ _ (show q ≠ b by omega))
theorem tcatch_idle (a b c : Addr) (w : World) :
  CallsD Tryz.prog 64 #[.pointer (some a), .pointer (some b), .pointer (some c)] .returning w fun e u' w' => e = .returned (.tuple #[]) ∧ u' = .returning ∧ w' = w := by
 refine callsD_of_wpS Tryz.func64 rfl fun c₀ cs hu => ?_
 simp only [Tryz.ntmps64, List.size_toArray, List.length_cons, List.length_nil, Nat.reduceAdd, Nat.reduceSub, Array.replicate_succ,
    Array.replicate_zero, List.push_toArray, List.append_toArray, List.nil_append, List.cons_append]
 apply wpS_seq
 refine rec_none ⟨#[.pointer (some a), .pointer (some b), .pointer (some c), .nilIface, undef, undef, .nilIface, undef, undef, undef, undef, undef, undef, undef, undef, undef, undef, undef, undef], []⟩ (by simp [recoverD, hu]) (by simp [go_sem]) ?_
 refine wpS_of_wp ?_
 go_wp2
 cases c₀
 simp_all [bodyPostS, results, Tryz.results64]
theorem tassert_place (x : Int) (w : World) : (Instr.typeAssert (.iface 107 (.int .i64 x)) 20 107 true).run Tryz.prog w = .ok (.tuple #[.int .i64 x, .bool true]) w := by kernel_rfl
theorem tcatch_place (N : Nat) (a : Int) (w : World) (h0 : Tp.Z1 w N) (h1 : Tp.Z1 w (N + 1)) (h2 : Tp.Z1 w (N + 1 + 1)) :
  CallsD Tryz.prog 64 #[.pointer (some ⟨N, 0, none⟩), .pointer (some ⟨N + 1, 0, none⟩), .pointer (some ⟨N + 1 + 1, 0, none⟩)] (.panicking (Tp.gave a)) w fun e u' w' =>
   e = .returned (.tuple #[]) ∧ u' = .panicking [{ v := .iface 107 (.int .i64 a), recovered := true }] ∧
   (w'.cell? ⟨N, 0, none⟩ = some (.slice none 0 0) ∧ w'.cell? ⟨N + 1, 0, none⟩ = some (.int .i64 a) ∧ w'.cell? ⟨N + 1 + 1, 0, none⟩ = some (.int .i64 1)) ∧ Below N w w' := by
 have HV := hide (Tp.ret3 h0 h1 h2 (.slice none 0 0) (.int .i64 a) (.int .i64 1))
 obtain ⟨v2, m2⟩ := h0.c0
 have z2 := h0.f0
 obtain ⟨v3, m3⟩ := h1.c0
 obtain ⟨v4, m4⟩ := h2.c0
 have z3 := h1.f0
 have z4 := h2.f0
 have hta := tassert_place
 clear h0 h1 h2
 refine callsD_of_wpS Tryz.func64 rfl fun c₀ cs hu => ?_
 simp only [Tryz.ntmps64, List.size_toArray, List.length_cons, List.length_nil, Nat.reduceAdd, Nat.reduceSub, Array.replicate_succ,
    Array.replicate_zero, List.push_toArray, List.append_toArray, List.nil_append, List.cons_append]
 apply wpS_seq
 refine rec_some (v := .iface 107 (.int .i64 a)) (cs' := { c₀ with mode := .panicking [{ v := .iface 107 (.int .i64 a), recovered := true }] } :: cs)
  ⟨#[.pointer (some ⟨N, 0, none⟩), .pointer (some ⟨N + 1, 0, none⟩), .pointer (some ⟨N + 1 + 1, 0, none⟩), .iface 107 (.int .i64 a), undef, undef, .iface 107 (.int .i64 a), undef, undef, undef, undef, undef, undef, undef, undef, undef, undef, undef, undef], []⟩
  (by simp [recoverD, hu, Tp.gave]) (by simp [go_sem]) ?_
 refine wpS_of_wp ?_
 go_wp2_with fail
 obtain ⟨hc, hs, hb, _⟩ := unhide HV
 exact ⟨rfl, _, rfl, _, by simp [results, Tryz.results64], rfl, rfl, hc, hb⟩
def Tp.OutP (l : List Tp.T) (e : Int) (n : Nat) (w : World) (o : Except Nat (List (Tk.FT 61 n))) (r : Ending) (w' : World) : Prop :=
 match o with
 | .error j => r = .returned (.tuple #[.agg #[.slice none 0 0], .int .i64 (Tp.pl l e j), .int .i64 1]) ∧ Below w.heap.size w w'
 | .ok x => (∃ s : Tk.Sl, r = .returned (.tuple #[.agg #[.slice s.ad s.len s.cap], .int .i64 0, .int .i64 0]) ∧ Tp.Ow w.heap.size w.heap.size w' (fun W => Tk.RT W 61 n s x)) ∧ Below w.heap.size w w'
theorem tparse_any (l : List Tp.T) (ta : Option Addr) (c : Nat) (e : Int) (n : Nat) (hn : l.length ≤ n) (w : World) (hr : Tp.RT w ta l) (hta : ∀ b o, ta = some ⟨b, o, none⟩ → b < w.heap.size) (hf : Tp.Fine l) :
  Calls Tryz.prog 32 #[.slice ta l.length c, .int .i64 e] w (Tp.OutP l e n w (Tp.tree l e n)) := by
 have hmf : ∀ (fn : Fn) (first cap : Array Value) (w : World), (Instr.makeFunc fn first cap).run Tryz.prog w = .ok (.func fn first cap) w := fun _ _ _ _ => rfl
 have HQ := hide (fun (W : World) (h : Tp.J l ta c (w.heap.size + 1 + 1 + 1) e W 0 0) => ttree_any l ta c (w.heap.size + 1 + 1 + 1) e n hn W h)
 have HR := hide (And.intro hr (And.intro hta hf))
 obtain ⟨o, ho⟩ : ∃ o, Tp.tree l e n = o := ⟨_, rfl⟩
 rw [ho]
 have HO := hide ho
 clear hr hta ho hf
 go_enter_defers Tryz.func32, Tryz.ntmps32
 go_wp2_with fail
 have hbW := ((((Below.refl w.heap.size w).alloc (Nat.le_refl _) (Obj.cells #[.slice none 0 0] 24)).alloc (by simp) (Obj.cells #[.int .i64 0] 3)).alloc (by simp; omega) (Obj.cells #[.int .i64 0] 26)).alloc (by simp; omega) (Obj.cells #[.slice ta l.length c, .int .i64 0, .int .i64 e, .int .i64 0] 110)
 have hP : Tp.P ((((w.alloc (Obj.cells #[.slice none 0 0] 24)).alloc (Obj.cells #[.int .i64 0] 3)).alloc (Obj.cells #[.int .i64 0] 26)).alloc (Obj.cells #[.slice ta l.length c, .int .i64 0, .int .i64 e, .int .i64 0] 110)) (w.heap.size + 1 + 1 + 1) ta l.length c 0 e 0 := ⟨by go_simp, by go_simp, by go_simp, by go_simp, fun j => by go_simp⟩
 have hz : Tp.Z1 ((((w.alloc (Obj.cells #[.slice none 0 0] 24)).alloc (Obj.cells #[.int .i64 0] 3)).alloc (Obj.cells #[.int .i64 0] 26)).alloc (Obj.cells #[.slice ta l.length c, .int .i64 0, .int .i64 e, .int .i64 0] 110)) w.heap.size := ⟨⟨.slice none 0 0, by go_simp⟩, by go_simp⟩
 have ha1 : Tp.Z1 ((((w.alloc (Obj.cells #[.slice none 0 0] 24)).alloc (Obj.cells #[.int .i64 0] 3)).alloc (Obj.cells #[.int .i64 0] 26)).alloc (Obj.cells #[.slice ta l.length c, .int .i64 0, .int .i64 e, .int .i64 0] 110)) (w.heap.size + 1) := ⟨⟨.int .i64 0, by go_simp⟩, by go_simp⟩
 have ha2 : Tp.Z1 ((((w.alloc (Obj.cells #[.slice none 0 0] 24)).alloc (Obj.cells #[.int .i64 0] 3)).alloc (Obj.cells #[.int .i64 0] 26)).alloc (Obj.cells #[.slice ta l.length c, .int .i64 0, .int .i64 e, .int .i64 0] 110)) (w.heap.size + 1 + 1) := ⟨⟨.int .i64 0, by go_simp⟩, by go_simp⟩
 have hs0 : ((((w.alloc (Obj.cells #[.slice none 0 0] 24)).alloc (Obj.cells #[.int .i64 0] 3)).alloc (Obj.cells #[.int .i64 0] 26)).alloc (Obj.cells #[.slice ta l.length c, .int .i64 0, .int .i64 e, .int .i64 0] 110)).heap.size = w.heap.size + 4 := by simp
 have HBW := hide hbW
 have HP0 := hide hP
 have HZ0 := hide (And.intro hz (And.intro ha1 ha2))
 clear hbW hP hz ha1 ha2
 generalize ((((w.alloc (Obj.cells #[.slice none 0 0] 24)).alloc (Obj.cells #[.int .i64 0] 3)).alloc (Obj.cells #[.int .i64 0] 26)).alloc (Obj.cells #[.slice ta l.length c, .int .i64 0, .int .i64 e, .int .i64 0] 110)) = WA at *
 have HJ0 := hide (show Tp.J l ta c (w.heap.size + 1 + 1 + 1) e WA 0 0 from ⟨unhide HP0, (unhide HR).1.kept (unhide HBW).size (fun b o h => (unhide HBW).block b ((unhide HR).2.1 b o h)), fun b o h => by have := (unhide HR).2.1 b o h; omega, (unhide HR).2.2, Nat.zero_le _⟩)
 refine ((unhide HQ) WA (unhide HJ0)).mono ?_
 intro r w1 hq
 cases hd : Tp.tree l e n with
 | error j =>
  rw [hd] at hq
  obtain ⟨rfl, ht⟩ := hq
  obtain rfl : o = .error j := by rw [← unhide HO, hd]
  have hblk : ∀ q, q < w.heap.size + 3 → w1.heap[q]? = WA.heap[q]? := fun q hq => ht.block q (by omega) (by show ¬ q = w.heap.size + 1 + 1 + 1; omega)
  have HZ1 := hide (And.intro ((unhide HZ0).1.kept (hblk _ (by omega))) (And.intro ((unhide HZ0).2.1.kept (hblk _ (by omega))) ((unhide HZ0).2.2.kept (hblk _ (by omega)))))
  have HB1 := hide (show Below w.heap.size w w1 from (unhide HBW).trans ((ht.mono (n' := w.heap.size) (by omega) (fun _ _ h => h)).to_below (fun q hq hd => by have : q = w.heap.size + 1 + 1 + 1 := hd; omega)))
  clear ht hblk
  go_wp2_with fail
  refine leaves_cons (f := 64) (args := #[.pointer (some ⟨w.heap.size, 0, none⟩), .pointer (some ⟨w.heap.size + 1, 0, none⟩), .pointer (some ⟨w.heap.size + 1 + 1, 0, none⟩)]) (by simp) (by simp [go_sem]) ?_
  refine (tcatch_place w.heap.size _ w1 (unhide HZ1).1 (unhide HZ1).2.1 (unhide HZ1).2.2).mono ?_
  rintro e u' w2 ⟨rfl, rfl, ⟨d0, d1, d2⟩, hb2⟩
  simp [Leaves, settle, results, Tryz.results32, go_sem, d0, d1, d2]
  exact ⟨rfl, (unhide HB1).trans hb2⟩
 | ok x =>
  rw [hd] at hq
  obtain ⟨s, rfl, hro, ht⟩ := hq
  obtain rfl : o = .ok x := by rw [← unhide HO, hd]
  have hblk : ∀ q, q < w.heap.size + 3 → w1.heap[q]? = WA.heap[q]? := fun q hq => ht.block q (by omega) (by show ¬ q = w.heap.size + 1 + 1 + 1; omega)
  have HZ1 := hide (And.intro ((unhide HZ0).1.kept (hblk _ (by omega))) (And.intro ((unhide HZ0).2.1.kept (hblk _ (by omega))) ((unhide HZ0).2.2.kept (hblk _ (by omega)))))
  have HB1 := hide (show Below w.heap.size w w1 from (unhide HBW).trans ((ht.mono (n' := w.heap.size) (by omega) (fun _ _ h => h)).to_below (fun q hq hd => by have : q = w.heap.size + 1 + 1 + 1 := hd; omega)))
  have HRO := hide hro
  have hs1 := ht.size
  have HV := hide (Tp.ret3 (unhide HZ1).1 (unhide HZ1).2.1 (unhide HZ1).2.2 (.slice s.ad s.len s.cap) (.int .i64 0) (.int .i64 0))
  obtain ⟨v2, m2⟩ := (unhide HZ1).1.c0
  obtain ⟨v3, m3⟩ := (unhide HZ1).2.1.c0
  obtain ⟨v4, m4⟩ := (unhide HZ1).2.2.c0
  have z2 := (unhide HZ1).1.f0
  have z3 := (unhide HZ1).2.1.f0
  have z4 := (unhide HZ1).2.2.f0
  clear ht hblk hro
  go_wp2_with fail
  obtain ⟨⟨d0, d1, d2⟩, hsV, hbV, hkV⟩ := unhide HV
  generalize (((w1.setCell ⟨w.heap.size, 0, none⟩ (.slice s.ad s.len s.cap)).setCell ⟨w.heap.size + 1, 0, none⟩ (.int .i64 0)).setCell ⟨w.heap.size + 1 + 1, 0, none⟩ (.int .i64 0)) = V at *
  refine leaves_cons (f := 64) (args := #[.pointer (some ⟨w.heap.size, 0, none⟩), .pointer (some ⟨w.heap.size + 1, 0, none⟩), .pointer (some ⟨w.heap.size + 1 + 1, 0, none⟩)]) (by simp) (by simp [go_sem]) ?_
  refine (tcatch_idle _ _ _ _).mono ?_
  rintro e u' w3 ⟨rfl, rfl, hw3⟩
  obtain rfl : V = w3 := hw3.symm
  simp [Leaves, settle, results, Tryz.results32, go_sem, d0, d1, d2]
  exact ⟨⟨s, rfl, ((unhide HRO).go (by omega) (fun q h1 _ _ => hkV q (by omega))).wide (by omega) (by omega) (Or.inl (by omega))⟩, (unhide HB1).trans hbV⟩
end Go.Proofs.YtfccpddehpgfoaaGreatDoor
