/-
  PCheck, PInD, PHasB, XRu, XEvs, XRight, XSml, XSmS. By the verifier.
-/
import Derived.Test.YtpfogjplnodacaaGreatLC
import Derived.Defers
import Derived.Recover
import Derived.Laws.Pointers
import Derived.Test.YtpfogjplnodacaaGreatLD
import Derived.Test.YtpfogjplnodacaaGreatXCall
import Derived.BigQuiet
set_option maxRecDepth 100000
set_option maxHeartbeats 3200000
namespace Go.Proofs.YtpfogjplnodacaaGreat
open Go.RowKit
set_option linter.unusedVariables false
theorem Pg.rec_none {P : Program} {K : Act → List Frame → World → Prop} {Q : Exit → Act → List Frame → World → Prop} {a : Act} (a' : Act) {cs : List Frame} {w : World} {id r d : Nat} {ty : TypeId} {pos pos' : String} {af af' : Array Edge}
  (hcs : recoverD cs = none) (ha : (a.put (some r) .nilIface).put (some d) ((a.put (some r) .nilIface).eval (.tmp r)) = a') (h : K a' cs w) :
  (Code.region id #[{ dst := some r, op := .call { callee := .builtin .recover, args := #[], argTypes := #[] }, type := ty, pos := pos, after := af, guard := none },
   { dst := some d, op := .assign (.tmp r), type := ty, pos := pos', after := af', guard := none }] false).wpS P (Exit.thenS K Q) a cs w := by
 subst ha
 apply wpS_region
 simp [wpOpsS, go_sem, hcs, Exit.thenS]
 simpa [go_sem] using h
theorem Pg.rec_some {P : Program} {K : Act → List Frame → World → Prop} {Q : Exit → Act → List Frame → World → Prop} {a : Act} (a' : Act) {cs cs' : List Frame} {w : World} {id r d : Nat} {ty : TypeId} {pos pos' : String} {af af' : Array Edge} {v : Value}
  (hcs : recoverD cs = some (v, cs')) (ha : (a.put (some r) v).put (some d) ((a.put (some r) v).eval (.tmp r)) = a') (h : K a' cs' w) :
  (Code.region id #[{ dst := some r, op := .call { callee := .builtin .recover, args := #[], argTypes := #[] }, type := ty, pos := pos, after := af, guard := none },
   { dst := some d, op := .assign (.tmp r), type := ty, pos := pos', after := af', guard := none }] false).wpS P (Exit.thenS K Q) a cs w := by
 subst ha
 apply wpS_region
 simp [wpOpsS, go_sem, hcs, Exit.thenS]
 simpa [go_sem] using h
theorem wcatch_idle (a : Addr) (w : World) :
  CallsD Tryz.prog 98 #[.pointer (some a)] .returning w fun e u' w' => e = .returned (.tuple #[]) ∧ u' = .returning ∧ w' = w := by
 refine callsD_of_wpS Tryz.func98 rfl fun c₀ cs hu => ?_
 simp only [Tryz.ntmps98, List.size_toArray, List.length_cons, List.length_nil, Nat.reduceAdd, Nat.reduceSub, Array.replicate_succ,
    Array.replicate_zero, List.push_toArray, List.append_toArray, List.nil_append, List.cons_append]
 apply wpS_seq
 refine Pg.rec_none ⟨#[.pointer (some a), .nilIface, undef, undef, .nilIface, undef, undef, undef, undef, undef, undef, undef, undef, undef, undef, undef], []⟩ (by simp [recoverD, hu]) (by simp [go_sem]) ?_
 refine wpS_of_wp ?_
 go_wp2
 cases c₀
 simp_all [bodyPostS, results, Tryz.results98]
theorem wassert (y : Int) (w : World) : (Instr.typeAssert (.iface 114 (.agg #[.int .i64 0, .int .i64 y])) 20 114 true).run Tryz.prog w = .ok (.tuple #[.agg #[.int .i64 0, .int .i64 y], .bool true]) w := by kernel_rfl
structure Pg.Z2 (W : World) (b : Nat) : Prop where
 c0 : ∃ v, W.cell? ⟨b, 0, none⟩ = some v
 c1 : ∃ v, W.cell? ⟨b, 1, none⟩ = some v
 f : ∀ i, W.frozen? ⟨b, i, none⟩ = false
theorem Pg.Z2.below {W W' : World} {b : Nat} (h : Pg.Z2 W b) (hb : Below W.heap.size W W') : Pg.Z2 W' b := by
 obtain ⟨v0, h0⟩ := h.c0
 obtain ⟨v1, h1⟩ := h.c1
 have hlt := World.block_lt_of_cell? W _ h0
 exact ⟨⟨v0, (hb.cell (p := ⟨b, 0, none⟩) hlt).trans h0⟩, ⟨v1, (hb.cell (p := ⟨b, 1, none⟩) hlt).trans h1⟩, fun i => (hb.frozen (p := ⟨b, i, none⟩) hlt).trans (h.f i)⟩
theorem Pg.Z2.put {W : World} {b : Nat} (h : Pg.Z2 W b) (u0 u1 : Value) : ((W.setCell ⟨b, 0, none⟩ u0).setCell ⟨b, 1, none⟩ u1).cell? ⟨b, 0, none⟩ = some u0 ∧ ((W.setCell ⟨b, 0, none⟩ u0).setCell ⟨b, 1, none⟩ u1).cell? ⟨b, 1, none⟩ = some u1 ∧ Below b W ((W.setCell ⟨b, 0, none⟩ u0).setCell ⟨b, 1, none⟩ u1) := by
 obtain ⟨v0, h0⟩ := h.c0
 obtain ⟨v1, h1⟩ := h.c1
 refine ⟨?_, ?_, ((Below.refl _ _).setCell (p := ⟨b, 0, none⟩) (Nat.le_refl _) _).setCell (p := ⟨b, 1, none⟩) (Nat.le_refl _) _⟩
 · rw [World.cell?_setCell_other _ _ _ _ (by simp)]; exact World.cell?_setCell_same _ _ _ h0
 · exact World.cell?_setCell_same _ _ _ (u := v1) (by rw [World.cell?_setCell_other _ _ _ _ (by simp)]; exact h1)
theorem wcatch_gave (N why : Nat) (w : World) (h : Pg.Z2 w N) :
  CallsD Tryz.prog 98 #[.pointer (some ⟨N, 0, none⟩)] (.panicking (Pg.gave why)) w fun e u' w' =>
   e = .returned (.tuple #[]) ∧ u' = .panicking [{ v := .iface 114 (.agg #[.int .i64 0, .int .i64 (why : Nat)]), recovered := true }] ∧
   (w'.cell? ⟨N, 0, none⟩ = some (.int .i64 0) ∧ w'.cell? ⟨N, 1, none⟩ = some (.int .i64 (why : Nat))) ∧ Below N w w' := by
 have hlt : N < w.heap.size := by obtain ⟨v0, h0⟩ := h.c0; exact World.block_lt_of_cell? w _ h0
 have HV := hide (show (((w.setCell ⟨N, 0, none⟩ (.int .i64 0)).setCell ⟨N, 1, none⟩ (.int .i64 (why : Nat))).alloc (Obj.cells #[.int .i64 0, .int .i64 (why : Nat)] 114)).cell? ⟨N, 0, none⟩ = some (.int .i64 0) ∧ (((w.setCell ⟨N, 0, none⟩ (.int .i64 0)).setCell ⟨N, 1, none⟩ (.int .i64 (why : Nat))).alloc (Obj.cells #[.int .i64 0, .int .i64 (why : Nat)] 114)).cell? ⟨N, 1, none⟩ = some (.int .i64 (why : Nat)) ∧ Below N w (((w.setCell ⟨N, 0, none⟩ (.int .i64 0)).setCell ⟨N, 1, none⟩ (.int .i64 (why : Nat))).alloc (Obj.cells #[.int .i64 0, .int .i64 (why : Nat)] 114)) by
  obtain ⟨h0, h1, hb⟩ := h.put (.int .i64 0) (.int .i64 (why : Nat))
  have hba := (Below.refl _ ((w.setCell ⟨N, 0, none⟩ (.int .i64 0)).setCell ⟨N, 1, none⟩ (.int .i64 (why : Nat)))).alloc (Nat.le_refl _) (Obj.cells #[.int .i64 0, .int .i64 (why : Nat)] 114)
  exact ⟨(hba.cell (p := ⟨N, 0, none⟩) (World.block_lt_of_cell? _ _ h0)).trans h0, (hba.cell (p := ⟨N, 1, none⟩) (World.block_lt_of_cell? _ _ h1)).trans h1, hb.alloc (by simp; omega) _⟩)
 obtain ⟨v0, m0⟩ := h.c0
 obtain ⟨v1, m1⟩ := h.c1
 have z0 := h.f 0
 have z1 := h.f 1
 have hta := wassert
 clear h
 refine callsD_of_wpS Tryz.func98 rfl fun c₀ cs hu => ?_
 simp only [Tryz.ntmps98, List.size_toArray, List.length_cons, List.length_nil, Nat.reduceAdd, Nat.reduceSub, Array.replicate_succ,
    Array.replicate_zero, List.push_toArray, List.append_toArray, List.nil_append, List.cons_append]
 apply wpS_seq
 refine Pg.rec_some (v := .iface 114 (.agg #[.int .i64 0, .int .i64 (why : Nat)])) (cs' := { c₀ with mode := .panicking [{ v := .iface 114 (.agg #[.int .i64 0, .int .i64 (why : Nat)]), recovered := true }] } :: cs)
  ⟨#[.pointer (some ⟨N, 0, none⟩), .iface 114 (.agg #[.int .i64 0, .int .i64 (why : Nat)]), undef, undef, .iface 114 (.agg #[.int .i64 0, .int .i64 (why : Nat)]), undef, undef, undef, undef, undef, undef, undef, undef, undef, undef, undef], []⟩
  (by simp [recoverD, hu, Pg.gave]) (by simp [go_sem]) ?_
 refine wpS_of_wp ?_
 go_wp2_with fail
 obtain ⟨hc0, hc1, hb⟩ := unhide HV
 exact ⟨rfl, _, rfl, _, by simp [results, Tryz.results98], rfl, rfl, ⟨hc0, hc1⟩, hb⟩
section
variable {m n : Nat} (s : Pg.Sl) (p : List (Pg.FT m n))
theorem checkIt_any (a : Nat) (w : World) (hp : Pg.RP w m n s p) (hpf : Pg.parFit p) (hc : w.cell? ⟨a, 0, none⟩ = some (.slice s.ad s.len s.cap)) :
  Calls Tryz.prog 60 #[.pointer (some ⟨a, 0, none⟩)] w fun r w' => r = Pg.ends (Pg.chkP p) (.tuple #[]) ∧ Below w.heap.size w w' := by
 have HCP := hide (checkProgram_any s p w hp hpf)
 generalize Pg.chkP p = R at *
 clear hp hpf
 go_enter Tryz.func60, Tryz.ntmps60
 go_wp2_with fail
 refine (unhide HCP).mono ?_
 rintro r w1 ⟨hr1, hb1⟩
 have HB1 := hide hb1
 clear hb1
 by_cases e1 : R = 0
 · rw [Pg.ends_ok e1] at hr1
   subst hr1
   have E := hide e1
   clear e1
   go_wp2_with fail
   go_end0
   exact ⟨(Pg.ends_ok (unhide E)).symm, unhide HB1⟩
 · rw [Pg.ends_no e1] at hr1
   subst hr1
   have E := hide e1
   clear e1
   go_wp2_with fail
   exact ⟨rfl, (Pg.ends_no (unhide E)).symm, unhide HB1⟩
theorem wrongIn_any (a : Nat) (w : World) (hp : Pg.RP w m n s p) (hpf : Pg.parFit p) (hc : w.cell? ⟨a, 0, none⟩ = some (.slice s.ad s.len s.cap)) :
  Calls Tryz.prog 59 #[.func (.func 60) #[] #[.pointer (some ⟨a, 0, none⟩)]] w fun r w' => r = .returned (.agg #[.int .i64 0, .int .i64 (Pg.chkP p : Nat)]) ∧ Below w.heap.size w w' := by
 have hmf : ∀ (fn : Fn) (first cap : Array Value) (w : World), (Instr.makeFunc fn first cap).run Tryz.prog w = .ok (.func fn first cap) w := fun _ _ _ _ => rfl
 have hb0 := (Below.refl w.heap.size w).alloc (Nat.le_refl _) (Obj.cells #[.int .i64 0, .int .i64 0] 114)
 have hlt := World.block_lt_of_cell? w _ hc
 have HCI := hide (checkIt_any s p a _ (Pg.RP.later hp hb0 (Nat.le_refl _)) hpf ((hb0.cell (p := ⟨a, 0, none⟩) hlt).trans hc))
 have HZ := hide (show Pg.Z2 (w.alloc (Obj.cells #[.int .i64 0, .int .i64 0] 114)) w.heap.size from ⟨⟨.int .i64 0, by go_simp⟩, ⟨.int .i64 0, by go_simp⟩, fun i => by go_simp⟩)
 have HB0 := hide hb0
 have hsz : (w.alloc (Obj.cells #[.int .i64 0, .int .i64 0] 114)).heap.size = w.heap.size + 1 := by simp
 generalize Pg.chkP p = R at *
 clear hp hpf hb0 hc hlt
 go_enter_defers Tryz.func59, Tryz.ntmps59
 go_wp2_with fail
 generalize w.alloc (Obj.cells #[.int .i64 0, .int .i64 0] 114) = W0 at *
 refine (unhide HCI).mono ?_
 rintro r w1 ⟨hr1, hb1⟩
 have HZ1 := hide ((unhide HZ).below hb1)
 have HB1 := hide ((unhide HB0).trans (hb1.mono (unhide HB0).size))
 clear hb1
 by_cases e1 : R = 0
 · rw [Pg.ends_ok e1] at hr1
   subst hr1
   have E := hide e1
   clear e1
   obtain ⟨v0, m0⟩ := (unhide HZ1).c0
   obtain ⟨v1, m1⟩ := (unhide HZ1).c1
   have z0 := (unhide HZ1).f 0
   have z1 := (unhide HZ1).f 1
   obtain ⟨d0, d1, hbp⟩ := (unhide HZ1).put (.int .i64 0) (.int .i64 0)
   have HBP := hide ((unhide HB1).trans hbp)
   clear hbp
   go_wp2_with fail
   generalize (w1.setCell ⟨w.heap.size, 0, none⟩ (.int .i64 0)).setCell ⟨w.heap.size, 1, none⟩ (.int .i64 0) = X at *
   refine leaves_cons (f := 98) (args := #[.pointer (some ⟨w.heap.size, 0, none⟩)]) (by simp) (by simp [go_sem]) ?_
   refine (wcatch_idle _ _).mono ?_
   rintro e u' w'' ⟨rfl, rfl, hw4⟩
   obtain rfl : X = w'' := hw4.symm
   simp [Leaves, settle, results, Tryz.results59, go_sem, d0, d1]
   exact ⟨by rw [unhide E]; rfl, unhide HBP⟩
 · rw [Pg.ends_no e1] at hr1
   subst hr1
   clear e1
   go_wp2_with fail
   refine leaves_cons (f := 98) (args := #[.pointer (some ⟨w.heap.size, 0, none⟩)]) (by simp) (by simp [go_sem]) ?_
   refine (wcatch_gave w.heap.size R w1 (unhide HZ1)).mono ?_
   rintro e u' w2 ⟨rfl, rfl, ⟨d0, d1⟩, hb2⟩
   simp [Leaves, settle, results, Tryz.results59, go_sem, d0, d1]
   exact (unhide HB1).trans hb2
theorem Check_any (w : World) (hp : Pg.RP w m n s p) (hpf : Pg.parFit p) :
  Calls Tryz.prog 27 #[.agg #[.slice s.ad s.len s.cap]] w fun r w' => r = .returned (.int .i64 (Pg.chkP p : Nat)) ∧ Below w.heap.size w w' := by
 have hmf : ∀ (fn : Fn) (first cap : Array Value) (w : World), (Instr.makeFunc fn first cap).run Tryz.prog w = .ok (.func fn first cap) w := fun _ _ _ _ => rfl
 have hfd : ∀ (y : Value) (w : World), (Instr.field 114 (.agg #[.int .i64 0, y]) 1).run Tryz.prog w = .ok y w := by intro y w; kernel_rfl
 have hb0 := (Below.refl w.heap.size w).alloc (Nat.le_refl _) (Obj.cells #[.slice s.ad s.len s.cap] 40)
 have HWI := hide (wrongIn_any s p w.heap.size _ (Pg.RP.later hp hb0 (Nat.le_refl _)) hpf (show (w.alloc (Obj.cells #[.slice s.ad s.len s.cap] 40)).cell? ⟨w.heap.size, 0, none⟩ = some (.slice s.ad s.len s.cap) by go_simp))
 have HB0 := hide hb0
 generalize Pg.chkP p = R at *
 clear hp hpf hb0
 go_enter Tryz.func27, Tryz.ntmps27
 go_wp2_with fail
 refine (unhide HWI).mono ?_
 rintro r w1 ⟨rfl, hb1⟩
 have HB1 := hide ((unhide HB0).trans (hb1.mono (unhide HB0).size))
 clear hb1
 go_wp2_with fail
 go_ret
 exact ⟨rfl, unhide HB1⟩
end
end Go.Proofs.YtpfogjplnodacaaGreat
namespace Go.Proofs.YtpfogjplnodacaaGreat
open Go.RowKit
set_option linter.unusedVariables false
def Pg.chkIn (l : List Int) (fuel : Int) : Nat := if 50 < l.length then 2 else if l.any Pg.beyond then 3 else if 0 ≤ fuel ∧ fuel ≤ 500 then 0 else 3
end Go.Proofs.YtpfogjplnodacaaGreat
namespace Go.Proofs.YtpfogjplnodacaaGreat
open Go.RowKit
set_option linter.unusedVariables false
theorem isBeyond_index (s : Pg.Sl) (l : List Int) (w : World) (hr : Pg.RN w s l) :
  Calls Tryz.prog 66 #[.slice s.ad s.len s.cap, .func (.func 30) #[] #[]] w fun e w' => (∃ r : Int, e = .returned (.int .i64 r) ∧ decide (0 ≤ r) = l.any Pg.beyond) ∧ w' = w := by
 obtain ⟨sa, sl, sc⟩ := s
 have hlen : sl = l.length := hr.len
 have hfew := hr.few
 rw [← hlen] at hfew
 have HLN := hide hlen
 have HR := hide hr
 clear hr hlen
 dsimp only
 go_enter Tryz.func66, Tryz.ntmps66
 go_wp2_with fail
 go_loop [8] (fun v => ∃ k : Nat, k ≤ sl ∧ v = .int .i64 k ∧ Hid (l.any Pg.beyond = (l.drop k).any Pg.beyond)) (fun v => sl - (intOf v).toNat)
 case atStart => exact ⟨0, by omega, rfl, by show _ = _; rw [List.drop_zero]⟩
 case round =>
  obtain ⟨k, hk, rfl, hall⟩ := hrel
  have HA := hide (unhide hall)
  clear hall
  by_cases hlt : k < sl
  · have hlt2 : k < l.length := by have := unhide HLN; omega
    have hy := List.getElem?_eq_getElem hlt2
    obtain ⟨b, o, had, hb, hc⟩ := (unhide HR).at_ k _ hy
    have HD := hide (show (l.drop k).any Pg.beyond = (Pg.beyond l[k] || (l.drop (k + 1)).any Pg.beyond) by rw [List.drop_eq_getElem_cons hlt2]; rfl)
    generalize l[k] = t at *
    have had' : sa = some ⟨b, o, none⟩ := had
    subst had'
    have hk1 : (0 : Int) ≤ (k : Int) := by omega
    have hk2 : (k : Int) < (sl : Int) := by omega
    clear hy had
    go_wp2_with fail
    refine (isBeyond_any _ _).mono ?_
    rintro e w' ⟨rfl, hw1⟩
    subst hw1
    cases h3 : Pg.beyond t
    · have HN := hide (show l.any Pg.beyond = (l.drop (k + 1)).any Pg.beyond by rw [unhide HA, unhide HD, h3]; rfl)
      clear h3
      go_wp2_with fail
      go_round
      case rel => exact ⟨k + 1, by omega, by go_num, unhide HN⟩
      case measure => simp [intOf]; omega
    · have HN := hide (show l.any Pg.beyond = true by rw [unhide HA, unhide HD, h3]; rfl)
      clear h3
      go_wp2_with fail
      go_ret
      exact ⟨⟨_, rfl, by rw [unhide HN]; simp⟩, rfl⟩
  · have HN := hide (show l.any Pg.beyond = false by rw [unhide HA, List.drop_of_length_le (by have := unhide HLN; omega)]; rfl)
    go_wp2_with fail
    go_ret
    exact ⟨⟨_, rfl, by rw [unhide HN]; rfl⟩, rfl⟩
theorem isBeyond_contains (s : Pg.Sl) (l : List Int) (w : World) (hr : Pg.RN w s l) :
  Calls Tryz.prog 29 #[.slice s.ad s.len s.cap, .func (.func 30) #[] #[]] w fun e w' => e = .returned (.bool (l.any Pg.beyond)) ∧ w' = w := by
 have HR := hide hr
 clear hr
 go_enter Tryz.func29, Tryz.ntmps29
 go_wp2_with fail
 refine (isBeyond_index s l _ (unhide HR)).mono ?_
 rintro e w' ⟨⟨r, rfl, hd⟩, hw1⟩
 subst hw1
 have HD := hide hd
 clear hd
 go_wp2_with fail
 all_goals
  go_ret
  refine ⟨?_, rfl⟩
  rw [← unhide HD]
  try rfl
 all_goals simp_all
end Go.Proofs.YtpfogjplnodacaaGreat
namespace Go.Proofs.YtpfogjplnodacaaGreat
open Go.RowKit
set_option linter.unusedVariables false
section
variable {m n : Nat} {w0 : World} {br : Nat} {fs : Pg.Sl} {p : List (Pg.FT m n)}
theorem call_ok (hpp : Xr.PP w0 fs p) : ∀ d, Xr.CallOk w0 br fs p d := by
 intro d
 induction d with
 | zero => exact xcall_any 0 hpp (fun e he => by cases he)
 | succ d ih =>
  refine xcall_any (d + 1) hpp (fun e he => ?_)
  cases he
  exact fun q x hx W s ev bf gv vb f h hsh hd hinv => function_any d hpp (cmds_ok d hpp ih) q x hx W s ev bf gv vb f h hsh hd hinv
theorem fn_ok (hpp : Xr.PP w0 fs p) (d : Nat) : Xr.FnOk w0 br fs p d := fun q x hx W s ev bf gv vb f h hsh hd hinv => function_any d hpp (cmds_ok d hpp (call_ok hpp d)) q x hx W s ev bf gv vb f h hsh hd hinv
theorem Xr.PP.of {w0 : World} {fs : Pg.Sl} {p : List (Pg.FT m n)} (hp : Pg.RP w0 m n fs p) (hc : Pg.chkP p = 0) : Xr.PP w0 fs p ∧ 0 < p.length := by
 unfold Pg.chkP at hc
 split at hc
 · cases hc
 rename_i h1
 split at hc
 · cases hc
 rename_i h2
 split at hc
 · cases hc
 rename_i h3
 refine ⟨⟨hp, fun i x hx => ?_, by omega, ?_⟩, by omega⟩
 · have h4 : (Pg.wfns p)[i]? = some (Pg.wfn p i x) := by unfold Pg.wfns; rw [List.getElem?_mapIdx, hx]; rfl
   exact Pg.first_zero hc _ (List.mem_of_getElem? h4)
 · have h5 : Pg.manyP p = false := by cases hm : Pg.manyP p with
    | false => rfl
    | true => exact absurd hm h3
   unfold Pg.manyP at h5
   rw [Bool.or_eq_false_iff, decide_eq_false_iff_not] at h5
   omega
theorem main_any (hpp : Xr.PP w0 fs p) (hp0 : 0 < p.length) (W : World) (inp : List Int) (fuel : Nat) (hf : fuel ≤ 500) (h : Xr.M w0 W br fs ⟨inp, fuel, 0, [], false⟩ (.slice none 0 0)) :
  Calls Tryz.prog 31 #[.pointer (some ⟨br, 0, none⟩)] W fun r W' => r = .returned (.tuple #[]) ∧ ∃ s ev, Xr.M w0 W' br fs s ev ∧ s.evs = Xr.main p inp fuel ∧ Below w0.heap.size w0 W' ∧ (Xr.main p inp fuel).length ≤ 3901 := by
 have hql : p.length - 1 < p.length := by omega
 have hxq := List.getElem?_eq_getElem hql
 generalize p[p.length - 1] = x at hxq
 obtain ⟨hwh, hwc, hwr⟩ := hpp.parts hxq
 obtain ⟨hd0, hd1, hd2, hd3⟩ := Xr.head_ok hwh
 obtain ⟨bq, oq, fq, hfs, hbq, hlq, hrq⟩ := hpp.rp.at_ _ x hxq
 have hlen := hpp.rp.len
 have hfew := hpp.few
 have HMN := hide (show Xr.main p inp fuel = (Xr.fin (Xr.fn p (Xr.call p 5) (p.length - 1) ⟨inp, fuel, 0, [], false⟩ (Xr.newF 0 0 x.sizes)).1 (Xr.fn p (Xr.call p 5) (p.length - 1) ⟨inp, fuel, 0, [], false⟩ (Xr.newF 0 0 x.sizes)).2 (-1) 0).evs by unfold Xr.main; rw [hxq])
 have HNF := hide (show Calls Tryz.prog 67 #[.int .i64 0, .int .i64 0, .slice fq.sizes.ad fq.sizes.len fq.sizes.cap] W fun r W' => ∃ gv vb, r = .returned (.pointer (some ⟨W.heap.size, 0, none⟩)) ∧ Xr.Fm w0 W' W.heap.size gv vb (Xr.newF 0 0 x.sizes) ∧ (∀ q ∈ Xr.own W.heap.size gv vb, W.heap.size ≤ q) ∧ Below W.heap.size W W' from newFrame_any (w0 := w0) 0 0 fq.sizes x.sizes W h.bel.size (hrq.sizes.later h.bel (Nat.le_refl _)) (by omega) (fun z hz => by have := hd3 z hz; omega))
 have l1 := (hlq.later h.bel (Nat.le_refl _) hbq).c1
 have HFN := hide (fun (V : World) (gv : Option Nat) (vb : List Nat) (hJ : Xr.J w0 V br fs ⟨inp, fuel, 0, [], false⟩ (.slice none 0 0) W.heap.size gv vb (Xr.newF 0 0 x.sizes)) => show Calls Tryz.prog 68 #[.pointer (some ⟨br, 0, none⟩), .pointer (some ⟨W.heap.size, 0, none⟩), .int .i64 ((fs.len : Int) - 1)] V (Xr.Post w0 br fs x.sizes W.heap.size gv vb V (.slice none 0 0) ⟨inp, fuel, 0, [], false⟩ (Xr.newF 0 0 x.sizes) (Xr.fn p (Xr.call p 5) (p.length - 1) ⟨inp, fuel, 0, [], false⟩ (Xr.newF 0 0 x.sizes))) from by
  rw [show (fs.len : Int) - 1 = ((p.length - 1 : Nat) : Int) by rw [hlen]; omega]
  exact fn_ok hpp 5 _ x hxq V _ _ _ _ _ _ hJ (Xr.Sh.new 0 0 x.sizes) rfl ⟨hf, by show 0 ≤ 700; omega, fun _ => ⟨by show 0 + fuel ≤ 600; omega, by show 0 + 7 * fuel + 0 ≤ 3900; omega⟩, by show 0 ≤ 3901; omega⟩)
 have HIV := hide (show Xr.Inv (⟨inp, fuel, 0, [], false⟩ : Xr.S) 0 from ⟨hf, by show 0 ≤ 700; omega, fun _ => ⟨by show 0 + fuel ≤ 600; omega, by show 0 + 7 * fuel + 0 ≤ 3900; omega⟩, by show 0 ≤ 3901; omega⟩)
 have HM := hide h
 generalize Xr.main p inp fuel = L at *
 generalize Xr.fn p (Xr.call p 5) (p.length - 1) ⟨inp, fuel, 0, [], false⟩ (Xr.newF 0 0 x.sizes) = T at *
 have c0 := h.c0
 obtain ⟨fa, fl, fc⟩ := fs
 have hfs' : fa = some ⟨bq, oq, none⟩ := hfs
 subst hfs'
 have hlen2 : fl = p.length := hlen
 obtain ⟨k, hk⟩ : ∃ k, p.length = k + 1 := ⟨p.length - 1, by omega⟩
 have hfk : fl = k + 1 := by omega
 have hk6 : k ≤ 5 := by omega
 rw [show p.length - 1 = k by omega] at l1
 subst hfk
 dsimp only at *
 have hcast : (((k + 1 : Nat) : Int) - 1) = (k : Int) := by omega
 rw [hcast] at HFN
 have hi0 : (0 : Int) ≤ (k : Int) := by omega
 have hi1 : (k : Int) < ((k + 1 : Nat) : Int) := by omega
 clear h hql hxq hwh hwc hwr hd0 hd1 hd2 hd3 hfs hbq hlq hrq hlen hfew hpp hp0 hlen2 hk hf hcast
 go_enter Tryz.func31, Tryz.ntmps31
 go_wp2_with fail
 refine (unhide HNF).mono ?_
 rintro r w1 ⟨gv, vb, rfl, hfm, hge, hb1⟩
 have hm1 := (unhide HM).below hb1
 have hJ1 : Xr.J w0 w1 br ⟨some ⟨bq, oq, none⟩, k + 1, fc⟩ ⟨inp, fuel, 0, [], false⟩ (.slice none 0 0) W.heap.size gv vb (Xr.newF 0 0 x.sizes) := ⟨hm1, hfm, fun e => by have := hge _ e; have := (unhide HM).lt; omega, fun q hq => by cases hq⟩
 have HF1 := hide ((unhide HFN) w1 gv vb hJ1)
 clear hfm hge hb1 hm1 hJ1
 go_wp2_with fail
 refine (unhide HF1).mono ?_
 rintro r w2 ⟨rfl, ev2, hJ2, hk2, hsh2, hin2, hdp2, hfu2⟩
 have HLN := hide (show L.length ≤ 3901 by rw [unhide HMN]; exact ((hin2 0 (unhide HIV)).fin _ _ _ 0).room)
 have HE := hide (end_any (-1) 0 w2 hJ2 ((hin2 0 (unhide HIV)).rm.le (by omega)))
 clear hJ2 hk2 hsh2 hin2 hdp2 hfu2
 go_wp2_with fail
 refine (unhide HE).mono ?_
 rintro r w3 ⟨rfl, ev3, hm3, hk3⟩
 have HP := hide (show ∃ s ev, Xr.M w0 w3 br ⟨some ⟨bq, oq, none⟩, k + 1, fc⟩ s ev ∧ s.evs = L ∧ Below w0.heap.size w0 w3 ∧ L.length ≤ 3901 from ⟨_, ev3, hm3, (unhide HMN).symm, hm3.bel, unhide HLN⟩)
 clear hm3 hk3
 go_wp2_with fail
 go_end0
 exact ⟨rfl, unhide HP⟩
end
end Go.Proofs.YtpfogjplnodacaaGreat
namespace Go.Proofs.YtpfogjplnodacaaGreat
open Go.RowKit
set_option linter.unusedVariables false
def Xr.chkR {m n : Nat} (p : List (Pg.FT m n)) (inp : List Int) (fuel : Int) : Nat := if Pg.chkP p = 0 then Pg.chkIn inp fuel else Pg.chkP p
def Xr.out {m n : Nat} (p : List (Pg.FT m n)) (inp : List Int) (fuel : Int) : List Ev := if Xr.chkR p inp fuel = 0 then Xr.main p inp fuel.toNat else []
theorem Run_len {m n : Nat} (fs : Pg.Sl) (p : List (Pg.FT m n)) (ts : Pg.Sl) (inp : List Int) (fuel : Int) (w : World) (hp : Pg.RP w m n fs p) (hpf : Pg.parFit p) (hin : Pg.RN w ts inp) :
  Calls Tryz.prog 14 #[.agg #[.slice fs.ad fs.len fs.cap], .slice ts.ad ts.len ts.cap, .int .i64 fuel] w fun r w' => ∃ a c, r = .returned (.tuple #[.slice a (Xr.out p inp fuel).length c, .int .i64 (Xr.chkR p inp fuel : Nat)]) ∧ w'.ownsRow w.heap.size 63 6 (.slice a (Xr.out p inp fuel).length c) (Xr.out p inp fuel).length (Xr.evC (Xr.out p inp fuel)) ∧ Below w.heap.size w w' ∧ (Xr.out p inp fuel).length ≤ 3901 := by
 have hb0 := (Below.refl w.heap.size w).alloc (Nat.le_refl _) (Obj.cells #[.slice fs.ad fs.len fs.cap] 40)
 have q0 : (w.alloc (Obj.cells #[.slice fs.ad fs.len fs.cap] 40)).cell? ⟨w.heap.size, 0, none⟩ = some (.slice fs.ad fs.len fs.cap) := by go_simp
 have HCK := hide (Check_any fs p _ (Pg.RP.later hp hb0 (Nat.le_refl _)) hpf)
 have HRN := hide (fun (V : World) (hV : Below w.heap.size w V) => hin.later hV (Nat.le_refl _))
 have HRP := hide (fun (V : World) (hV : Below w.heap.size w V) => Pg.RP.later hp hV (Nat.le_refl _))
 have hlen := hin.len
 have hfew := hin.few
 rw [← hlen] at hfew
 have HB0 := hide hb0
 have HCR := hide (show Xr.chkR p inp fuel = if Pg.chkP p = 0 then Pg.chkIn inp fuel else Pg.chkP p from rfl)
 have HOU := hide (show Xr.out p inp fuel = if Xr.chkR p inp fuel = 0 then Xr.main p inp fuel.toNat else [] from rfl)
 have HCI := hide (show Pg.chkIn inp fuel = if 50 < ts.len then 2 else if inp.any Pg.beyond then 3 else if 0 ≤ fuel ∧ fuel ≤ 500 then 0 else 3 by rw [hlen]; rfl)
 have HNO := hide (show ∀ (R : Nat) (L : List Ev) (V : World), R ≠ 0 → R = Xr.chkR p inp fuel → L = Xr.out p inp fuel → Below w.heap.size w V → (∃ a c, Ending.returned (.tuple #[.slice none 0 0, .int .i64 (R : Nat)]) = .returned (.tuple #[.slice a L.length c, .int .i64 (R : Nat)]) ∧ V.ownsRow w.heap.size 63 6 (.slice a L.length c) L.length (Xr.evC L) ∧ Below w.heap.size w V ∧ L.length ≤ 3901) from fun R L V h0 h1 h2 h3 => by
  have hL : L = [] := by rw [h2, unhide HOU, if_neg (by rw [← h1]; exact h0)]
  subst hL
  exact ⟨none, 0, rfl, ⟨rfl, .inl ⟨rfl, rfl⟩⟩, h3, by show 0 ≤ 3901; omega⟩)
 obtain ⟨R, hR⟩ : ∃ R, R = Xr.chkR p inp fuel := ⟨_, rfl⟩
 obtain ⟨L, hL⟩ : ∃ L, L = Xr.out p inp fuel := ⟨_, rfl⟩
 rw [← hR, ← hL]
 have HR := hide hR
 have HL := hide hL
 clear hp hpf hin hb0 hlen hR hL
 obtain ⟨ta, tn, tc⟩ := ts
 dsimp only at *
 go_enter Tryz.func14, Tryz.ntmps14
 go_wp2_with fail
 generalize w.alloc (Obj.cells #[.slice fs.ad fs.len fs.cap] 40) = W0 at *
 refine (unhide HCK).mono ?_
 rintro r w1 ⟨rfl, hb1⟩
 have r0 := (hb1.cell (p := ⟨w.heap.size, 0, none⟩) (World.block_lt_of_cell? _ _ q0)).trans q0
 have HB1 := hide ((unhide HB0).trans (hb1.mono (unhide HB0).size))
 clear hb1 q0
 by_cases hc : Pg.chkP p = 0
 case neg =>
  have HRR := hide (show R = Pg.chkP p by rw [unhide HR, unhide HCR, if_neg hc])
  generalize Pg.chkP p = CP at *
  have bc : (((CP : Nat) : Int) != 0) = true := by simp; exact hc
  have HC := hide hc
  clear hc
  go_wp2_with fail
  refine bodyPost_ret (v := .tuple #[.slice none 0 0, .int .i64 (CP : Nat)]) (by simp [results, Tryz.results14, go_sem]) rfl ?_
  have h1 := (unhide HNO) R L w1 (by rw [unhide HRR]; exact unhide HC) (unhide HR) (unhide HL) (unhide HB1)
  rw [unhide HRR] at h1 ⊢
  exact h1
 case pos =>
  have HPP := hide (Xr.PP.of ((unhide HRP) w1 (unhide HB1)) hc)
  have HR2 := hide (show R = if 50 < tn then 2 else if inp.any Pg.beyond then 3 else if 0 ≤ fuel ∧ fuel ≤ 500 then 0 else 3 by rw [unhide HR, unhide HCR, if_pos hc, unhide HCI])
  have HBY := hide (isBeyond_contains ⟨ta, tn, tc⟩ inp w1 ((unhide HRN) w1 (unhide HB1)))
  rw [hc]
  clear hc
  by_cases h50 : 50 < tn
  · have g50 : (tn : Int) > 50 := by omega
    have HRR := hide (show R = 2 by rw [unhide HR2, if_pos h50])
    clear h50
    go_wp2_with fail
    refine bodyPost_ret (v := .tuple #[.slice none 0 0, .int .i64 2]) (by simp [results, Tryz.results14, go_sem]) rfl ?_
    have h1 := (unhide HNO) R L w1 (by rw [unhide HRR]; decide) (unhide HR) (unhide HL) (unhide HB1)
    rw [unhide HRR] at h1 ⊢
    exact h1
  · have g50 : (50 < (tn : Int)) = False := by simp; omega
    have HR3 := hide (show R = if inp.any Pg.beyond then 3 else if 0 ≤ fuel ∧ fuel ≤ 500 then 0 else 3 by rw [unhide HR2, if_neg h50])
    clear h50
    generalize inp.any Pg.beyond = BY at *
    go_wp2_with fail
    refine (unhide HBY).mono ?_
    rintro r w2 ⟨rfl, hw2⟩
    subst hw2
    cases BY
    case true =>
     have HRR := hide (show R = 3 by rw [unhide HR3]; rfl)
     go_wp2_with fail
     refine bodyPost_ret (v := .tuple #[.slice none 0 0, .int .i64 3]) (by simp [results, Tryz.results14, go_sem]) rfl ?_
     have h1 := (unhide HNO) R L w2 (by rw [unhide HRR]; decide) (unhide HR) (unhide HL) (unhide HB1)
     rw [unhide HRR] at h1 ⊢
     exact h1
    case false =>
     have HR4 := hide (show R = if 0 ≤ fuel ∧ fuel ≤ 500 then 0 else 3 by rw [unhide HR3]; rfl)
     by_cases hf0 : fuel < 0
     · have HRR := hide (show R = 3 by rw [unhide HR4, if_neg (by omega)])
       go_wp2_with fail
       refine bodyPost_ret (v := .tuple #[.slice none 0 0, .int .i64 3]) (by simp [results, Tryz.results14, go_sem]) rfl ?_
       have h1 := (unhide HNO) R L w2 (by rw [unhide HRR]; decide) (unhide HR) (unhide HL) (unhide HB1)
       rw [unhide HRR] at h1 ⊢
       exact h1
     · by_cases hf5 : fuel > 500
       · have HRR := hide (show R = 3 by rw [unhide HR4, if_neg (by omega)])
         go_wp2_with fail
         refine bodyPost_ret (v := .tuple #[.slice none 0 0, .int .i64 3]) (by simp [results, Tryz.results14, go_sem]) rfl ?_
         have h1 := (unhide HNO) R L w2 (by rw [unhide HRR]; decide) (unhide HR) (unhide HL) (unhide HB1)
         rw [unhide HRR] at h1 ⊢
         exact h1
       · obtain ⟨k, rfl⟩ : ∃ k : Nat, fuel = k := ⟨fuel.toNat, by omega⟩
         have HRR := hide (show R = 0 by rw [unhide HR4, if_pos (by omega)])
         have HLL := hide (show L = Xr.main p inp k by rw [unhide HL, unhide HOU, if_pos (by rw [← unhide HR, unhide HRR]), Int.toNat_natCast])
         have hk5 : k ≤ 500 := by omega
         have g0 : ((k : Int) < 0) = False := by simp
         have g5 : (500 < (k : Int)) = False := by simp; omega
         have hb8 := (Below.refl w2.heap.size w2).alloc (Nat.le_refl _) (Obj.cells #[.slice fs.ad fs.len fs.cap, .slice ta tn tc, .int .i64 (k : Nat), .int .i64 0, .slice none 0 0, .bool false] 82)
         have HMN := hide (main_any (br := w2.heap.size) (unhide HPP).1 (unhide HPP).2 _ inp k hk5 (show Xr.M w2 (w2.alloc (Obj.cells #[.slice fs.ad fs.len fs.cap, .slice ta tn tc, .int .i64 (k : Nat), .int .i64 0, .slice none 0 0, .bool false] 82)) w2.heap.size fs ⟨inp, k, 0, [], false⟩ (.slice none 0 0) from ⟨hb8, Nat.le_refl _, by go_simp, ⟨⟨ta, tn, tc⟩, by go_simp, (unhide HRN) w2 (unhide HB1)⟩, by go_simp, by go_simp, by go_simp, by go_simp, fun i => by go_simp, ⟨rfl, .inl ⟨rfl, rfl⟩⟩, fun q hq => by cases hq⟩))
         clear hf0 hf5 hb8
         go_wp2_with fail
         refine (unhide HMN).mono ?_
         rintro r w3 ⟨rfl, s3, ev3, hm3, hev, hb3, hln⟩
         obtain ⟨a3, c3, rfl⟩ := hm3.form
         have k4 := hm3.c4
         have HP := hide (show ∃ a c, Ending.returned (.tuple #[.slice a3 s3.evs.length c3, .int .i64 0]) = .returned (.tuple #[.slice a L.length c, .int .i64 (R : Nat)]) ∧ w3.ownsRow w.heap.size 63 6 (.slice a L.length c) L.length (Xr.evC L) ∧ Below w.heap.size w w3 ∧ L.length ≤ 3901 from by
          rw [unhide HLL, ← hev, unhide HRR]
          exact ⟨a3, c3, rfl, Pg.ow_base hm3.row (unhide HB1).size, (unhide HB1).trans (hb3.mono (unhide HB1).size), by rw [hev]; exact hln⟩)
         clear hm3 hev hb3 hln
         generalize s3.evs.length = n3 at *
         go_wp2_with fail
         refine bodyPost_ret (v := .tuple #[.slice a3 n3 c3, .int .i64 0]) (by simp [results, Tryz.results14, go_sem]) rfl ?_
         exact unhide HP
theorem Run_any {m n : Nat} (fs : Pg.Sl) (p : List (Pg.FT m n)) (ts : Pg.Sl) (inp : List Int) (fuel : Int) (w : World) (hp : Pg.RP w m n fs p) (hpf : Pg.parFit p) (hin : Pg.RN w ts inp) :
  Calls Tryz.prog 14 #[.agg #[.slice fs.ad fs.len fs.cap], .slice ts.ad ts.len ts.cap, .int .i64 fuel] w fun r w' => ∃ a c, r = .returned (.tuple #[.slice a (Xr.out p inp fuel).length c, .int .i64 (Xr.chkR p inp fuel : Nat)]) ∧ w'.ownsRow w.heap.size 63 6 (.slice a (Xr.out p inp fuel).length c) (Xr.out p inp fuel).length (Xr.evC (Xr.out p inp fuel)) ∧ Below w.heap.size w w' := by
 refine (Run_len fs p ts inp fuel w hp hpf hin).mono ?_
 rintro r w' ⟨a, c, h1, h2, h3, _⟩
 exact ⟨a, c, h1, h2, h3⟩
end Go.Proofs.YtpfogjplnodacaaGreat
namespace Go.Proofs.YtpfogjplnodacaaGreat
open Go.RowKit
set_option linter.unusedVariables false
def Xr.that (k : Int) (l : List Ev) : List Ev := l.filter fun e => e.n0 == k
theorem Xr.re_own {W : World} {B n c : Nat} {a : Option Addr} {l : List Ev} (hl : l.length = n) (h : W.ownsRow B 63 6 (.slice a n c) n (Xr.evC l)) : Cl.RE W a l := by
 refine ⟨fun i x hi => ?_⟩
 obtain ⟨g, cap, hv, _, _⟩ := h.form (by have := (List.getElem?_eq_some_iff.1 hi).1; omega)
 cases hv
 have cc : ∀ j v, x.cells[j]? = some v → W.cell? ⟨g, 0 + i * 6 + j, none⟩ = some v := fun j v hv => by
  have := h.cells (g := g) rfl (i * 6 + j) v (Xr.evC_at l i x j v hi hv)
  rw [Xr.add_at] at this
  rw [Nat.zero_add]
  exact this
 have c0 := cc 0 _ rfl
 exact ⟨g, 0, rfl, World.block_lt_of_cell? W _ c0, by simpa using c0, cc 1 _ rfl, cc 2 _ rfl, cc 3 _ rfl, cc 4 _ rfl, cc 5 _ rfl⟩
end Go.Proofs.YtpfogjplnodacaaGreat
namespace Go.Proofs.YtpfogjplnodacaaGreat
open Go.RowKit
set_option linter.unusedVariables false
def Ev.same (a b : Ev) : Bool := a.n0 == b.n0 && a.n1 == b.n1 && a.n2 == b.n2 && a.n3 == b.n3 && a.n4 == b.n4 && a.n5 == b.n5
def Xr.sameL : List Ev → List Ev → Bool
 | [], [] => true
 | a :: r, b :: t => Ev.same a b && Xr.sameL r t
 | _, _ => false
end Go.Proofs.YtpfogjplnodacaaGreat
namespace Go.Proofs.YtpfogjplnodacaaGreat
open Go.RowKit
set_option linter.unusedVariables false
end Go.Proofs.YtpfogjplnodacaaGreat
namespace Go.Proofs.YtpfogjplnodacaaGreat
open Go.RowKit
set_option linter.unusedVariables false
def Xr.chkL {m n : Nat} (p : List (Pg.FT m n)) (l : List Ev) : Nat := if Pg.chkP p = 0 then (if 4000 < l.length then 2 else 0) else Pg.chkP p
def Xr.inOf (l : List Ev) : List Int := ((Xr.that 3 l).take 50).map (fun e => e.n5)
def Xr.right {m n : Nat} (p : List (Pg.FT m n)) (l : List Ev) : Bool :=
 decide (Xr.chkL p l = 0) && decide (Xr.chkR p (Xr.inOf l) ((Xr.that 1 l).length : Nat) = 0) && decide (l.length ≤ (Xr.out p (Xr.inOf l) ((Xr.that 1 l).length : Nat)).length) && Xr.sameL l ((Xr.out p (Xr.inOf l) ((Xr.that 1 l).length : Nat)).take l.length)
end Go.Proofs.YtpfogjplnodacaaGreat
namespace Go.Proofs.YtpfogjplnodacaaGreat
open Go.RowKit
set_option linter.unusedVariables false
def Xr.e0 : Pg.XT 1 := ((0, 0), [])
def Xr.eN : Pg.XT 1 := ((2, 0), [])
def Xr.small : List (Pg.FT 1 1) := [⟨0, [0], [((4, 0, 0), (Xr.e0, Xr.e0, []), ([], [])), ((5, 0, 0), (Xr.e0, Xr.eN, []), ([], []))], Xr.e0⟩]
theorem Pg.RX.e0 (w : World) : Pg.RX w 1 ⟨0, 0, ⟨none, 0, 0⟩⟩ Xr.e0 := ⟨⟨rfl, rfl⟩, ⟨rfl, Nat.le_refl _, Nat.zero_le _, fun i y hy => by simp [Xr.e0] at hy⟩⟩
theorem Pg.RX.eN (w : World) : Pg.RX w 1 ⟨2, 0, ⟨none, 0, 0⟩⟩ Xr.eN := ⟨⟨rfl, rfl⟩, ⟨rfl, Nat.le_refl _, Nat.zero_le _, fun i y hy => by simp [Xr.eN] at hy⟩⟩
theorem Pg.RS.none {α β : Type} (w : World) (wide : Nat) (lies : Nat → Nat → α → Prop) (reads : α → β → Prop) : Pg.RS w wide lies reads ⟨none, 0, 0⟩ [] := ⟨rfl, Nat.le_refl _, Nat.zero_le _, fun i y hy => by simp at hy⟩
end Go.Proofs.YtpfogjplnodacaaGreat
namespace Go.Proofs.YtpfogjplnodacaaGreat
open Go.RowKit
set_option linter.unusedVariables false
end Go.Proofs.YtpfogjplnodacaaGreat
namespace Go.Proofs.YtpfogjplnodacaaGreat
open Go.RowKit
set_option linter.unusedVariables false
theorem SameEvents_long (l : List Ev) (ad bd : Option Addr) (cap dap : Nat) (w : World) (hr : Cl.RE w ad l) (hr2 : Cl.RE w bd l) (hl : l.length ≤ 35184372088832) :
  Calls Tryz.prog 15 #[.slice ad l.length cap, .slice bd l.length dap] w fun e w' => e = .returned (.bool true) ∧ Below w.heap.size w w' := by
 have HR := hide hr
 have HR2 := hide hr2
 clear hr hr2
 have gll : ((l.length : Int) != (l.length : Int)) = false := by simp
 go_enter Tryz.func15, Tryz.ntmps15
 go_wp2_with fail
 go_loopw [5] (fun v wr => ∃ k : Nat, k ≤ l.length ∧ v = .int .i64 (k : Nat) ∧ Below w.heap.size w wr) (fun v _ => l.length - (intOf v).toNat)
 case atStart => exact ⟨0, by omega, rfl, Below.refl _ _⟩
 case round =>
  obtain ⟨k, hk, rfl, hbe⟩ := hrel
  have HBE := hide hbe
  clear hbe
  by_cases hlt : k < l.length
  · obtain ⟨t, ht⟩ : ∃ t, l[k]? = some t := ⟨l[k], List.getElem?_eq_getElem hlt⟩
    obtain ⟨b, o, rfl, hb, c0, c1, c2, c3, c4, c5⟩ := ((unhide HR).later (unhide HBE) (Nat.le_refl _)).at_ k t ht
    obtain ⟨b', o', rfl, hb', d0, d1, d2, d3, d4, d5⟩ := ((unhide HR2).later (unhide HBE) (Nat.le_refl _)).at_ k t ht
    clear ht
    have hk1 : (0 : Int) ≤ (k : Int) := by omega
    have hk2 : (k : Int) < (l.length : Int) := by omega
    go_wp2_with fail
    go_quiet (fail)
    go_wp2_with fail
    exact ⟨⟨k + 1, by omega, by go_num, below_drewN (unhide HBE) _⟩, by simp [intOf]; omega⟩
  · have hk2 : ¬ (k : Int) < (l.length : Int) := by omega
    go_wp2_with fail
    go_ret
    exact ⟨rfl, unhide HBE⟩
theorem SameEvents_eq (l : List Ev) (ad bd : Option Addr) (cap dap : Nat) (w : World) (hr : Cl.RE w ad l) (hr2 : Cl.RE w bd l) (hl : l.length ≤ 4000) :
  Calls Tryz.prog 15 #[.slice ad l.length cap, .slice bd l.length dap] w fun e w' => e = .returned (.bool true) ∧ Below w.heap.size w w' := SameEvents_long l ad bd cap dap w hr hr2 (by omega)
end Go.Proofs.YtpfogjplnodacaaGreat
