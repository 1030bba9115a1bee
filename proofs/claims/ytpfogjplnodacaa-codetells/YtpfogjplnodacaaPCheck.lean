/-
  The contract of scope's Check. By the verifier.
-/
import Derived.Test.YtpfogjplnodacaaPProg
import Derived.Defers
import Derived.Recover
import Derived.Laws.Pointers
set_option maxHeartbeats 800000
namespace Go.Proofs.Ytpfogjplnodacaa
open Go.RowKit
set_option linter.unusedVariables false
theorem Pg.rec_none {P : Program} {K : Act → List Frame → World → Prop} {Q : Exit → Act → List Frame → World → Prop} {a : Act} (a' : Act) {cs : List Frame} {w : World} {id r d : Nat} {ty : TypeId} {pos pos' : String} {af af' : Array Edge}
  (hcs : recoverD cs = none) (ha : (a.put (some r) .nilIface).put (some d) ((a.put (some r) .nilIface).eval (.tmp r)) = a') (h : K a' cs w) :
  (Code.region id #[{ dst := some r, op := .call { callee := .builtin .recover, args := #[], argTypes := #[] }, type := ty, pos := pos, after := af, guard := none },
   { dst := some d, op := .assign (.tmp r), type := ty, pos := pos', after := af', guard := none }] false).wpS P (Exit.thenS K Q) a cs w := by
 subst ha
 apply wpS_region
 simp [wpOpsS, go_sem, hcs, Exit.thenS]
 simpa [go_sem] using h
theorem Pg.rec_some {P : Program} {K : Act → List Frame → World → Prop} {Q : Exit → Act → List Frame → World → Prop} {a : Act} (a' : Act) {cs cs' : List Frame} {w : World} {id r d : Nat} {ty : TypeId} {pos pos' : String} {af af' : Array Edge} {v : Value}
  (hcs : recoverD cs = some (v, cs')) (ha : (a.put (some r) v).put (some d) ((a.put (some r) v).eval (.tmp r)) = a') (h : K a' cs' w) :
  (Code.region id #[{ dst := some r, op := .call { callee := .builtin .recover, args := #[], argTypes := #[] }, type := ty, pos := pos, after := af, guard := none },
   { dst := some d, op := .assign (.tmp r), type := ty, pos := pos', after := af', guard := none }] false).wpS P (Exit.thenS K Q) a cs w := by
 subst ha
 apply wpS_region
 simp [wpOpsS, go_sem, hcs, Exit.thenS]
 simpa [go_sem] using h
theorem wcatch_idle (a : Addr) (w : World) :
  CallsD Try.prog 42 #[.pointer (some a)] .returning w fun e u' w' => e = .returned (.tuple #[]) ∧ u' = .returning ∧ w' = w := by
 refine callsD_of_wpS Try.func42 rfl fun c₀ cs hu => ?_
 simp only [Try.ntmps42, List.size_toArray, List.length_cons, List.length_nil, Nat.reduceAdd, Nat.reduceSub, Array.replicate_succ,
    Array.replicate_zero, List.push_toArray, List.append_toArray, List.nil_append, List.cons_append]
 apply wpS_seq
 refine Pg.rec_none ⟨#[.pointer (some a), .nilIface, undef, undef, .nilIface, undef, undef, undef, undef, undef, undef, undef, undef, undef, undef, undef], []⟩ (by simp [recoverD, hu]) (by simp [go_sem]) ?_
 refine wpS_of_wp ?_
 go_wp2
 cases c₀
 simp_all [bodyPostS, results, Try.results42]
theorem wassert (y : Int) (w : World) : (Instr.typeAssert (.iface 61 (.agg #[.int .i64 0, .int .i64 y])) 20 61 true).run Try.prog w = .ok (.tuple #[.agg #[.int .i64 0, .int .i64 y], .bool true]) w := by kernel_rfl
structure Pg.Z2 (W : World) (b : Nat) : Prop where
 c0 : ∃ v, W.cell? ⟨b, 0, none⟩ = some v
 c1 : ∃ v, W.cell? ⟨b, 1, none⟩ = some v
 f : ∀ i, W.frozen? ⟨b, i, none⟩ = false
theorem Pg.Z2.below {W W' : World} {b : Nat} (h : Pg.Z2 W b) (hb : Below W.heap.size W W') : Pg.Z2 W' b := by
 obtain ⟨v0, h0⟩ := h.c0
 obtain ⟨v1, h1⟩ := h.c1
 have hlt := World.block_lt_of_cell? W _ h0
 exact ⟨⟨v0, (hb.cell (p := ⟨b, 0, none⟩) hlt).trans h0⟩, ⟨v1, (hb.cell (p := ⟨b, 1, none⟩) hlt).trans h1⟩, fun i => (hb.frozen (p := ⟨b, i, none⟩) hlt).trans (h.f i)⟩
theorem Pg.Z2.put {W : World} {b : Nat} (h : Pg.Z2 W b) (u0 u1 : Value) : ((W.setCell ⟨b, 0, none⟩ u0).setCell ⟨b, 1, none⟩ u1).cell? ⟨b, 0, none⟩ = some u0 ∧ ((W.setCell ⟨b, 0, none⟩ u0).setCell ⟨b, 1, none⟩ u1).cell? ⟨b, 1, none⟩ = some u1 ∧ Below b W ((W.setCell ⟨b, 0, none⟩ u0).setCell ⟨b, 1, none⟩ u1) := by
 obtain ⟨v0, h0⟩ := h.c0
 obtain ⟨v1, h1⟩ := h.c1
 refine ⟨?_, ?_, ((Below.refl _ _).setCell (p := ⟨b, 0, none⟩) (Nat.le_refl _) _).setCell (p := ⟨b, 1, none⟩) (Nat.le_refl _) _⟩
 · rw [World.cell?_setCell_other _ _ _ _ (by simp)]; exact World.cell?_setCell_same _ _ _ h0
 · exact World.cell?_setCell_same _ _ _ (u := v1) (by rw [World.cell?_setCell_other _ _ _ _ (by simp)]; exact h1)
theorem wcatch_gave (N why : Nat) (w : World) (h : Pg.Z2 w N) :
  CallsD Try.prog 42 #[.pointer (some ⟨N, 0, none⟩)] (.panicking (Pg.gave why)) w fun e u' w' =>
   e = .returned (.tuple #[]) ∧ u' = .panicking [{ v := .iface 61 (.agg #[.int .i64 0, .int .i64 (why : Nat)]), recovered := true }] ∧
   (w'.cell? ⟨N, 0, none⟩ = some (.int .i64 0) ∧ w'.cell? ⟨N, 1, none⟩ = some (.int .i64 (why : Nat))) ∧ Below N w w' := by
 have hlt : N < w.heap.size := by obtain ⟨v0, h0⟩ := h.c0; exact World.block_lt_of_cell? w _ h0
 have HV := hide (show (((w.setCell ⟨N, 0, none⟩ (.int .i64 0)).setCell ⟨N, 1, none⟩ (.int .i64 (why : Nat))).alloc (Obj.cells #[.int .i64 0, .int .i64 (why : Nat)] 61)).cell? ⟨N, 0, none⟩ = some (.int .i64 0) ∧ (((w.setCell ⟨N, 0, none⟩ (.int .i64 0)).setCell ⟨N, 1, none⟩ (.int .i64 (why : Nat))).alloc (Obj.cells #[.int .i64 0, .int .i64 (why : Nat)] 61)).cell? ⟨N, 1, none⟩ = some (.int .i64 (why : Nat)) ∧ Below N w (((w.setCell ⟨N, 0, none⟩ (.int .i64 0)).setCell ⟨N, 1, none⟩ (.int .i64 (why : Nat))).alloc (Obj.cells #[.int .i64 0, .int .i64 (why : Nat)] 61)) by
  obtain ⟨h0, h1, hb⟩ := h.put (.int .i64 0) (.int .i64 (why : Nat))
  have hba := (Below.refl _ ((w.setCell ⟨N, 0, none⟩ (.int .i64 0)).setCell ⟨N, 1, none⟩ (.int .i64 (why : Nat)))).alloc (Nat.le_refl _) (Obj.cells #[.int .i64 0, .int .i64 (why : Nat)] 61)
  exact ⟨(hba.cell (p := ⟨N, 0, none⟩) (World.block_lt_of_cell? _ _ h0)).trans h0, (hba.cell (p := ⟨N, 1, none⟩) (World.block_lt_of_cell? _ _ h1)).trans h1, hb.alloc (by simp; omega) _⟩)
 obtain ⟨v0, m0⟩ := h.c0
 obtain ⟨v1, m1⟩ := h.c1
 have z0 := h.f 0
 have z1 := h.f 1
 have hta := wassert
 clear h
 refine callsD_of_wpS Try.func42 rfl fun c₀ cs hu => ?_
 simp only [Try.ntmps42, List.size_toArray, List.length_cons, List.length_nil, Nat.reduceAdd, Nat.reduceSub, Array.replicate_succ,
    Array.replicate_zero, List.push_toArray, List.append_toArray, List.nil_append, List.cons_append]
 apply wpS_seq
 refine Pg.rec_some (v := .iface 61 (.agg #[.int .i64 0, .int .i64 (why : Nat)])) (cs' := { c₀ with mode := .panicking [{ v := .iface 61 (.agg #[.int .i64 0, .int .i64 (why : Nat)]), recovered := true }] } :: cs)
  ⟨#[.pointer (some ⟨N, 0, none⟩), .iface 61 (.agg #[.int .i64 0, .int .i64 (why : Nat)]), undef, undef, .iface 61 (.agg #[.int .i64 0, .int .i64 (why : Nat)]), undef, undef, undef, undef, undef, undef, undef, undef, undef, undef, undef], []⟩
  (by simp [recoverD, hu, Pg.gave]) (by simp [go_sem]) ?_
 refine wpS_of_wp ?_
 go_wp2_with fail
 obtain ⟨hc0, hc1, hb⟩ := unhide HV
 exact ⟨rfl, _, rfl, _, by simp [results, Try.results42], rfl, rfl, ⟨hc0, hc1⟩, hb⟩
section
variable {m n : Nat} (s : Pg.Sl) (p : List (Pg.FT m n))
theorem checkIt_any (a : Nat) (w : World) (hp : Pg.RP w m n s p) (hpf : Pg.parFit p) (hc : w.cell? ⟨a, 0, none⟩ = some (.slice s.ad s.len s.cap)) :
  Calls Try.prog 25 #[.pointer (some ⟨a, 0, none⟩)] w fun r w' => r = Pg.ends (Pg.chkP p) (.tuple #[]) ∧ Below w.heap.size w w' := by
 have HCP := hide (checkProgram_any s p w hp hpf)
 generalize Pg.chkP p = R at *
 clear hp hpf
 go_enter Try.func25, Try.ntmps25
 go_wp2_with fail
 refine (unhide HCP).mono ?_
 rintro r w1 ⟨hr1, hb1⟩
 have HB1 := hide hb1
 clear hb1
 by_cases e1 : R = 0
 · rw [Pg.ends_ok e1] at hr1
   subst hr1
   have E := hide e1
   clear e1
   go_wp2_with fail
   go_end0
   exact ⟨(Pg.ends_ok (unhide E)).symm, unhide HB1⟩
 · rw [Pg.ends_no e1] at hr1
   subst hr1
   have E := hide e1
   clear e1
   go_wp2_with fail
   exact ⟨rfl, (Pg.ends_no (unhide E)).symm, unhide HB1⟩
theorem wrongIn_any (a : Nat) (w : World) (hp : Pg.RP w m n s p) (hpf : Pg.parFit p) (hc : w.cell? ⟨a, 0, none⟩ = some (.slice s.ad s.len s.cap)) :
  Calls Try.prog 24 #[.func (.func 25) #[] #[.pointer (some ⟨a, 0, none⟩)]] w fun r w' => r = .returned (.agg #[.int .i64 0, .int .i64 (Pg.chkP p : Nat)]) ∧ Below w.heap.size w w' := by
 have hmf : ∀ (fn : Fn) (first cap : Array Value) (w : World), (Instr.makeFunc fn first cap).run Try.prog w = .ok (.func fn first cap) w := fun _ _ _ _ => rfl
 have hb0 := (Below.refl w.heap.size w).alloc (Nat.le_refl _) (Obj.cells #[.int .i64 0, .int .i64 0] 61)
 have hlt := World.block_lt_of_cell? w _ hc
 have HCI := hide (checkIt_any s p a _ (Pg.RP.later hp hb0 (Nat.le_refl _)) hpf ((hb0.cell (p := ⟨a, 0, none⟩) hlt).trans hc))
 have HZ := hide (show Pg.Z2 (w.alloc (Obj.cells #[.int .i64 0, .int .i64 0] 61)) w.heap.size from ⟨⟨.int .i64 0, by go_simp⟩, ⟨.int .i64 0, by go_simp⟩, fun i => by go_simp⟩)
 have HB0 := hide hb0
 have hsz : (w.alloc (Obj.cells #[.int .i64 0, .int .i64 0] 61)).heap.size = w.heap.size + 1 := by simp
 generalize Pg.chkP p = R at *
 clear hp hpf hb0 hc hlt
 go_enter_defers Try.func24, Try.ntmps24
 go_wp2_with fail
 generalize w.alloc (Obj.cells #[.int .i64 0, .int .i64 0] 61) = W0 at *
 refine (unhide HCI).mono ?_
 rintro r w1 ⟨hr1, hb1⟩
 have HZ1 := hide ((unhide HZ).below hb1)
 have HB1 := hide ((unhide HB0).trans (hb1.mono (unhide HB0).size))
 clear hb1
 by_cases e1 : R = 0
 · rw [Pg.ends_ok e1] at hr1
   subst hr1
   have E := hide e1
   clear e1
   obtain ⟨v0, m0⟩ := (unhide HZ1).c0
   obtain ⟨v1, m1⟩ := (unhide HZ1).c1
   have z0 := (unhide HZ1).f 0
   have z1 := (unhide HZ1).f 1
   obtain ⟨d0, d1, hbp⟩ := (unhide HZ1).put (.int .i64 0) (.int .i64 0)
   have HBP := hide ((unhide HB1).trans hbp)
   clear hbp
   go_wp2_with fail
   generalize (w1.setCell ⟨w.heap.size, 0, none⟩ (.int .i64 0)).setCell ⟨w.heap.size, 1, none⟩ (.int .i64 0) = X at *
   refine leaves_cons (f := 42) (args := #[.pointer (some ⟨w.heap.size, 0, none⟩)]) (by simp) (by simp [go_sem]) ?_
   refine (wcatch_idle _ _).mono ?_
   rintro e u' w'' ⟨rfl, rfl, hw4⟩
   obtain rfl : X = w'' := hw4.symm
   simp [Leaves, settle, results, Try.results24, go_sem, d0, d1]
   exact ⟨by rw [unhide E]; rfl, unhide HBP⟩
 · rw [Pg.ends_no e1] at hr1
   subst hr1
   clear e1
   go_wp2_with fail
   refine leaves_cons (f := 42) (args := #[.pointer (some ⟨w.heap.size, 0, none⟩)]) (by simp) (by simp [go_sem]) ?_
   refine (wcatch_gave w.heap.size R w1 (unhide HZ1)).mono ?_
   rintro e u' w2 ⟨rfl, rfl, ⟨d0, d1⟩, hb2⟩
   simp [Leaves, settle, results, Try.results24, go_sem, d0, d1]
   exact (unhide HB1).trans hb2
theorem Check_any (w : World) (hp : Pg.RP w m n s p) (hpf : Pg.parFit p) :
  Calls Try.prog 9 #[.agg #[.slice s.ad s.len s.cap]] w fun r w' => r = .returned (.int .i64 (Pg.chkP p : Nat)) ∧ Below w.heap.size w w' := by
 have hmf : ∀ (fn : Fn) (first cap : Array Value) (w : World), (Instr.makeFunc fn first cap).run Try.prog w = .ok (.func fn first cap) w := fun _ _ _ _ => rfl
 have hfd : ∀ (y : Value) (w : World), (Instr.field 61 (.agg #[.int .i64 0, y]) 1).run Try.prog w = .ok y w := by intro y w; kernel_rfl
 have hb0 := (Below.refl w.heap.size w).alloc (Nat.le_refl _) (Obj.cells #[.slice s.ad s.len s.cap] 29)
 have HWI := hide (wrongIn_any s p w.heap.size _ (Pg.RP.later hp hb0 (Nat.le_refl _)) hpf (show (w.alloc (Obj.cells #[.slice s.ad s.len s.cap] 29)).cell? ⟨w.heap.size, 0, none⟩ = some (.slice s.ad s.len s.cap) by go_simp))
 have HB0 := hide hb0
 generalize Pg.chkP p = R at *
 clear hp hpf hb0
 go_enter Try.func9, Try.ntmps9
 go_wp2_with fail
 refine (unhide HWI).mono ?_
 rintro r w1 ⟨rfl, hb1⟩
 have HB1 := hide ((unhide HB0).trans (hb1.mono (unhide HB0).size))
 clear hb1
 go_wp2_with fail
 go_ret
 exact ⟨rfl, unhide HB1⟩
end
end Go.Proofs.Ytpfogjplnodacaa
