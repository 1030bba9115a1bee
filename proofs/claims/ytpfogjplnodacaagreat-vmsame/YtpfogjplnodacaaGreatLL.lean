/-
  PCheck, PInD, PHasB, XRu, XEvs, XRight, XSml, XSmS. By the verifier.
-/
import Derived.Test.YtpfogjplnodacaaGreatLC
import Derived.Defers
import Derived.Recover
import Derived.Laws.Pointers
import Derived.Test.YtpfogjplnodacaaGreatLD
import Derived.Test.YtpfogjplnodacaaGreatXCall
import Derived.BigQuiet
set_option maxRecDepth 100000
set_option maxHeartbeats 3200000
namespace Go.Proofs.YtpfogjplnodacaaGreat
open Go.RowKit
set_option linter.unusedVariables false
theorem Pg.rec_none {P : Program} {K : Act → List Frame → World → Prop} {Q : Exit → Act → List Frame → World → Prop} {a : Act} (a' : Act) {cs : List Frame} {w : World} {id r d : Nat} {ty : TypeId} {pos pos' : String} {af af' : Array Edge}
  (hcs : recoverD cs = none) (ha : (a.put (some r) .nilIface).put (some d) ((a.put (some r) .nilIface).eval (.tmp r)) = a') (h : K a' cs w) :
  (Code.region id #[{ dst := some r, op := .call { callee := .builtin .recover, args := #[], argTypes := #[] }, type := ty, pos := pos, after := af, guard := none },
   { dst := some d, op := .assign (.tmp r), type := ty, pos := pos', after := af', guard := none }] false).wpS P (Exit.thenS K Q) a cs w := by
 subst ha
 apply wpS_region
 simp [wpOpsS, go_sem, hcs, Exit.thenS]
 simpa [go_sem] using h
theorem Pg.rec_some {P : Program} {K : Act → List Frame → World → Prop} {Q : Exit → Act → List Frame → World → Prop} {a : Act} (a' : Act) {cs cs' : List Frame} {w : World} {id r d : Nat} {ty : TypeId} {pos pos' : String} {af af' : Array Edge} {v : Value}
  (hcs : recoverD cs = some (v, cs')) (ha : (a.put (some r) v).put (some d) ((a.put (some r) v).eval (.tmp r)) = a') (h : K a' cs' w) :
  (Code.region id #[{ dst := some r, op := .call { callee := .builtin .recover, args := #[], argTypes := #[] }, type := ty, pos := pos, after := af, guard := none },
   { dst := some d, op := .assign (.tmp r), type := ty, pos := pos', after := af', guard := none }] false).wpS P (Exit.thenS K Q) a cs w := by
 subst ha
 apply wpS_region
 simp [wpOpsS, go_sem, hcs, Exit.thenS]
 simpa [go_sem] using h
theorem wcatch_idle (a : Addr) (w : World) :
  CallsD Tryz.prog 98 #[.pointer (some a)] .returning w fun e u' w' => e = .returned (.tuple #[]) ∧ u' = .returning ∧ w' = w := by
 refine callsD_of_wpS Tryz.func98 rfl fun c₀ cs hu => ?_
 simp only [Tryz.ntmps98, List.size_toArray, List.length_cons, List.length_nil, Nat.reduceAdd, Nat.reduceSub, Array.replicate_succ,
    Array.replicate_zero, List.push_toArray, List.append_toArray, List.nil_append, List.cons_append]
 apply wpS_seq
 refine Pg.rec_none ⟨#[.pointer (some a), .nilIface, undef, undef, .nilIface, undef, undef, undef, undef, undef, undef, undef, undef, undef, undef, undef], []⟩ (by simp [recoverD, hu]) (by simp [go_sem]) ?_
 refine wpS_of_wp ?_
 go_wp2
 cases c₀
 simp_all [bodyPostS, results, Tryz.results98]
theorem wassert (y : Int) (w : World) : (Instr.typeAssert (.iface 114 (.agg #[.int .i64 0, .int .i64 y])) 20 114 true).run Tryz.prog w = .ok (.tuple #[.agg #[.int .i64 0, .int .i64 y], .bool true]) w := by kernel_rfl
structure Pg.Z2 (W : World) (b : Nat) : Prop where
 c0 : ∃ v, W.cell? ⟨b, 0, none⟩ = some v
 c1 : ∃ v, W.cell? ⟨b, 1, none⟩ = some v
 f : ∀ i, W.frozen? ⟨b, i, none⟩ = false
theorem Pg.Z2.below {W W' : World} {b : Nat} (h : Pg.Z2 W b) (hb : Below W.heap.size W W') : Pg.Z2 W' b := by
 obtain ⟨v0, h0⟩ := h.c0
 obtain ⟨v1, h1⟩ := h.c1
 have hlt := World.block_lt_of_cell? W _ h0
 exact ⟨⟨v0, (hb.cell (p := ⟨b, 0, none⟩) hlt).trans h0⟩, ⟨v1, (hb.cell (p := ⟨b, 1, none⟩) hlt).trans h1⟩, fun i => (hb.frozen (p := ⟨b, i, none⟩) hlt).trans (h.f i)⟩
theorem Pg.Z2.put {W : World} {b : Nat} (h : Pg.Z2 W b) (u0 u1 : Value) : ((W.setCell ⟨b, 0, none⟩ u0).setCell ⟨b, 1, none⟩ u1).cell? ⟨b, 0, none⟩ = some u0 ∧ ((W.setCell ⟨b, 0, none⟩ u0).setCell ⟨b, 1, none⟩ u1).cell? ⟨b, 1, none⟩ = some u1 ∧ Below b W ((W.setCell ⟨b, 0, none⟩ u0).setCell ⟨b, 1, none⟩ u1) := by
 obtain ⟨v0, h0⟩ := h.c0
 obtain ⟨v1, h1⟩ := h.c1
 refine ⟨?_, ?_, ((Below.refl _ _).setCell (p := ⟨b, 0, none⟩) (Nat.le_refl _) _).setCell (p := ⟨b, 1, none⟩) (Nat.le_refl _) _⟩
 · rw [World.cell?_setCell_other _ _ _ _ (by simp)]; exact World.cell?_setCell_same _ _ _ h0
 · exact World.cell?_setCell_same _ _ _ (u := v1) (by rw [World.cell?_setCell_other _ _ _ _ (by simp)]; exact h1)
theorem wcatch_gave (N why : Nat) (w : World) (h : Pg.Z2 w N) :
  CallsD Tryz.prog 98 #[.pointer (some ⟨N, 0, none⟩)] (.panicking (Pg.gave why)) w fun e u' w' =>
   e = .returned (.tuple #[]) ∧ u' = .panicking [{ v := .iface 114 (.agg #[.int .i64 0, .int .i64 (why : Nat)]), recovered := true }] ∧
   (w'.cell? ⟨N, 0, none⟩ = some (.int .i64 0) ∧ w'.cell? ⟨N, 1, none⟩ = some (.int .i64 (why : Nat))) ∧ Below N w w' := by
 have hlt : N < w.heap.size := by obtain ⟨v0, h0⟩ := h.c0; exact World.block_lt_of_cell? w _ h0
 have HV := hide (show (((w.setCell ⟨N, 0, none⟩ (.int .i64 0)).setCell ⟨N, 1, none⟩ (.int .i64 (why : Nat))).alloc (Obj.cells #[.int .i64 0, .int .i64 (why : Nat)] 114)).cell? ⟨N, 0, none⟩ = some (.int .i64 0) ∧ (((w.setCell ⟨N, 0, none⟩ (.int .i64 0)).setCell ⟨N, 1, none⟩ (.int .i64 (why : Nat))).alloc (Obj.cells #[.int .i64 0, .int .i64 (why : Nat)] 114)).cell? ⟨N, 1, none⟩ = some (.int .i64 (why : Nat)) ∧ Below N w (((w.setCell ⟨N, 0, none⟩ (.int .i64 0)).setCell ⟨N, 1, none⟩ (.int .i64 (why : Nat))).alloc (Obj.cells #[.int .i64 0, .int .i64 (why : Nat)] 114)) by
  obtain ⟨h0, h1, hb⟩ := h.put (.int .i64 0) (.int .i64 (why : Nat))
  have hba := (Below.refl _ ((w.setCell ⟨N, 0, none⟩ (.int .i64 0)).setCell ⟨N, 1, none⟩ (.int .i64 (why : Nat)))).alloc (Nat.le_refl _) (Obj.cells #[.int .i64 0, .int .i64 (why : Nat)] 114)
  exact ⟨(hba.cell (p := ⟨N, 0, none⟩) (World.block_lt_of_cell? _ _ h0)).trans h0, (hba.cell (p := ⟨N, 1, none⟩) (World.block_lt_of_cell? _ _ h1)).trans h1, hb.alloc (by simp; omega) _⟩)
 obtain ⟨v0, m0⟩ := h.c0
 obtain ⟨v1, m1⟩ := h.c1
 have z0 := h.f 0
 have z1 := h.f 1
 have hta := wassert
 clear h
 refine callsD_of_wpS Tryz.func98 rfl fun c₀ cs hu => ?_
 simp only [Tryz.ntmps98, List.size_toArray, List.length_cons, List.length_nil, Nat.reduceAdd, Nat.reduceSub, Array.replicate_succ,
    Array.replicate_zero, List.push_toArray, List.append_toArray, List.nil_append, List.cons_append]
 apply wpS_seq
 refine Pg.rec_some (v := .iface 114 (.agg #[.int .i64 0, .int .i64 (why : Nat)])) (cs' := { c₀ with mode := .panicking [{ v := .iface 114 (.agg #[.int .i64 0, .int .i64 (why : Nat)]), recovered := true }] } :: cs)
  ⟨#[.pointer (some ⟨N, 0, none⟩), .iface 114 (.agg #[.int .i64 0, .int .i64 (why : Nat)]), undef, undef, .iface 114 (.agg #[.int .i64 0, .int .i64 (why : Nat)]), undef, undef, undef, undef, undef, undef, undef, undef, undef, undef, undef], []⟩
  (by simp [recoverD, hu, Pg.gave]) (by simp [go_sem]) ?_
 refine wpS_of_wp ?_
 go_wp2_with fail
 obtain ⟨hc0, hc1, hb⟩ := unhide HV
 exact ⟨rfl, _, rfl, _, by simp [results, Tryz.results98], rfl, rfl, ⟨hc0, hc1⟩, hb⟩
section
variable {m n : Nat} (s : Pg.Sl) (p : List (Pg.FT m n))
theorem checkIt_any (a : Nat) (w : World) (hp : Pg.RP w m n s p) (hpf : Pg.parFit p) (hc : w.cell? ⟨a, 0, none⟩ = some (.slice s.ad s.len s.cap)) :
  Calls Tryz.prog 60 #[.pointer (some ⟨a, 0, none⟩)] w fun r w' => r = Pg.ends (Pg.chkP p) (.tuple #[]) ∧ Below w.heap.size w w' := by
 have HCP := hide (checkProgram_any s p w hp hpf)
 generalize Pg.chkP p = R at *
 clear hp hpf
 go_enter Tryz.func60, Tryz.ntmps60
 go_wp2_with fail
 refine (unhide HCP).mono ?_
 rintro r w1 ⟨hr1, hb1⟩
 have HB1 := hide hb1
 clear hb1
 by_cases e1 : R = 0
 · rw [Pg.ends_ok e1] at hr1
   subst hr1
   have E := hide e1
   clear e1
   go_wp2_with fail
   go_end0
   exact ⟨(Pg.ends_ok (unhide E)).symm, unhide HB1⟩
 · rw [Pg.ends_no e1] at hr1
   subst hr1
   have E := hide e1
   clear e1
   go_wp2_with fail
   exact ⟨rfl, (Pg.ends_no (unhide E)).symm, unhide HB1⟩
theorem wrongIn_any (a : Nat) (w : World) (hp : Pg.RP w m n s p) (hpf : Pg.parFit p) (hc : w.cell? ⟨a, 0, none⟩ = some (.slice s.ad s.len s.cap)) :
  Calls Tryz.prog 59 #[.func (.func 60) #[] #[.pointer (some ⟨a, 0, none⟩)]] w fun r w' => r = .returned (.agg #[.int .i64 0, .int .i64 (Pg.chkP p : Nat)]) ∧ Below w.heap.size w w' := by
 have hmf : ∀ (fn : Fn) (first cap : Array Value) (w : World), (Instr.makeFunc fn first cap).run Tryz.prog w = .ok (.func fn first cap) w := fun _ _ _ _ => rfl
 have hb0 := (Below.refl w.heap.size w).alloc (Nat.le_refl _) (Obj.cells #[.int .i64 0, .int .i64 0] 114)
 have hlt := World.block_lt_of_cell? w _ hc
 have HCI := hide (checkIt_any s p a _ (Pg.RP.later hp hb0 (Nat.le_refl _)) hpf ((hb0.cell (p := ⟨a, 0, none⟩) hlt).trans hc))
 have HZ := hide (show Pg.Z2 (w.alloc (Obj.cells #[.int .i64 0, .int .i64 0] 114)) w.heap.size from ⟨⟨.int .i64 0, by go_simp⟩, ⟨.int .i64 0, by go_simp⟩, fun i => by go_simp⟩)
 have HB0 := hide hb0
 have hsz : (w.alloc (Obj.cells #[.int .i64 0, .int .i64 0] 114)).heap.size = w.heap.size + 1 := by simp
 generalize Pg.chkP p = R at *
 clear hp hpf hb0 hc hlt
 go_enter_defers Tryz.func59, Tryz.ntmps59
 go_wp2_with fail
 generalize w.alloc (Obj.cells #[.int .i64 0, .int .i64 0] 114) = W0 at *
 refine (unhide HCI).mono ?_
 rintro r w1 ⟨hr1, hb1⟩
 have HZ1 := hide ((unhide HZ).below hb1)
 have HB1 := hide ((unhide HB0).trans (hb1.mono (unhide HB0).size))
 clear hb1
 by_cases e1 : R = 0
 · rw [Pg.ends_ok e1] at hr1
   subst hr1
   have E := hide e1
   clear e1
   obtain ⟨v0, m0⟩ := (unhide HZ1).c0
   obtain ⟨v1, m1⟩ := (unhide HZ1).c1
   have z0 := (unhide HZ1).f 0
   have z1 := (unhide HZ1).f 1
   obtain ⟨d0, d1, hbp⟩ := (unhide HZ1).put (.int .i64 0) (.int .i64 0)
   have HBP := hide ((unhide HB1).trans hbp)
   clear hbp
   go_wp2_with fail
   generalize (w1.setCell ⟨w.heap.size, 0, none⟩ (.int .i64 0)).setCell ⟨w.heap.size, 1, none⟩ (.int .i64 0) = X at *
   refine leaves_cons (f := 98) (args := #[.pointer (some ⟨w.heap.size, 0, none⟩)]) (by simp) (by simp [go_sem]) ?_
   refine (wcatch_idle _ _).mono ?_
   rintro e u' w'' ⟨rfl, rfl, hw4⟩
   obtain rfl : X = w'' := hw4.symm
   simp [Leaves, settle, results, Tryz.results59, go_sem, d0, d1]
   exact ⟨by rw [unhide E]; rfl, unhide HBP⟩
 · rw [Pg.ends_no e1] at hr1
   subst hr1
   clear e1
   go_wp2_with fail
   refine leaves_cons (f := 98) (args := #[.pointer (some ⟨w.heap.size, 0, none⟩)]) (by simp) (by simp [go_sem]) ?_
   refine (wcatch_gave w.heap.size R w1 (unhide HZ1)).mono ?_
   rintro e u' w2 ⟨rfl, rfl, ⟨d0, d1⟩, hb2⟩
   simp [Leaves, settle, results, Tryz.results59, go_sem, d0, d1]
   exact (unhide HB1).trans hb2
theorem Check_any (w : World) (hp : Pg.RP w m n s p) (hpf : Pg.parFit p) :
  Calls Tryz.prog 27 #[.agg #[.slice s.ad s.len s.cap]] w fun r w' => r = .returned (.int .i64 (Pg.chkP p : Nat)) ∧ Below w.heap.size w w' := by
 have hmf : ∀ (fn : Fn) (first cap : Array Value) (w : World), (Instr.makeFunc fn first cap).run Tryz.prog w = .ok (.func fn first cap) w := fun _ _ _ _ => rfl
 have hfd : ∀ (y : Value) (w : World), (Instr.field 114 (.agg #[.int .i64 0, y]) 1).run Tryz.prog w = .ok y w := by intro y w; kernel_rfl
 have hb0 := (Below.refl w.heap.size w).alloc (Nat.le_refl _) (Obj.cells #[.slice s.ad s.len s.cap] 40)
 have HWI := hide (wrongIn_any s p w.heap.size _ (Pg.RP.later hp hb0 (Nat.le_refl _)) hpf (show (w.alloc (Obj.cells #[.slice s.ad s.len s.cap] 40)).cell? ⟨w.heap.size, 0, none⟩ = some (.slice s.ad s.len s.cap) by go_simp))
 have HB0 := hide hb0
 generalize Pg.chkP p = R at *
 clear hp hpf hb0
 go_enter Tryz.func27, Tryz.ntmps27
 go_wp2_with fail
 refine (unhide HWI).mono ?_
 rintro r w1 ⟨rfl, hb1⟩
 have HB1 := hide ((unhide HB0).trans (hb1.mono (unhide HB0).size))
 clear hb1
 go_wp2_with fail
 go_ret
 exact ⟨rfl, unhide HB1⟩
end
end Go.Proofs.YtpfogjplnodacaaGreat
namespace Go.Proofs.YtpfogjplnodacaaGreat
open Go.RowKit
set_option linter.unusedVariables false
def Pg.chkIn (l : List Int) (fuel : Int) : Nat := if 50 < l.length then 2 else if l.any Pg.beyond then 3 else if 0 ≤ fuel ∧ fuel ≤ 500 then 0 else 3
end Go.Proofs.YtpfogjplnodacaaGreat
namespace Go.Proofs.YtpfogjplnodacaaGreat
open Go.RowKit
set_option linter.unusedVariables false
theorem isBeyond_index (s : Pg.Sl) (l : List Int) (w : World) (hr : Pg.RN w s l) :
  Calls Tryz.prog 66 #[.slice s.ad s.len s.cap, .func (.func 30) #[] #[]] w fun e w' => (∃ r : Int, e = .returned (.int .i64 r) ∧ decide (0 ≤ r) = l.any Pg.beyond) ∧ w' = w := by
 obtain ⟨sa, sl, sc⟩ := s
 have hlen : sl = l.length := hr.len
 have hfew := hr.few
 rw [← hlen] at hfew
 have HLN := hide hlen
 have HR := hide hr
 clear hr hlen
 dsimp only
 go_enter Tryz.func66, Tryz.ntmps66
 go_wp2_with fail
 go_loop [8] (fun v => ∃ k : Nat, k ≤ sl ∧ v = .int .i64 k ∧ Hid (l.any Pg.beyond = (l.drop k).any Pg.beyond)) (fun v => sl - (intOf v).toNat)
 case atStart => exact ⟨0, by omega, rfl, by show _ = _; rw [List.drop_zero]⟩
 case round =>
  obtain ⟨k, hk, rfl, hall⟩ := hrel
  have HA := hide (unhide hall)
  clear hall
  by_cases hlt : k < sl
  · have hlt2 : k < l.length := by have := unhide HLN; omega
    have hy := List.getElem?_eq_getElem hlt2
    obtain ⟨b, o, had, hb, hc⟩ := (unhide HR).at_ k _ hy
    have HD := hide (show (l.drop k).any Pg.beyond = (Pg.beyond l[k] || (l.drop (k + 1)).any Pg.beyond) by rw [List.drop_eq_getElem_cons hlt2]; rfl)
    generalize l[k] = t at *
    have had' : sa = some ⟨b, o, none⟩ := had
    subst had'
    have hk1 : (0 : Int) ≤ (k : Int) := by omega
    have hk2 : (k : Int) < (sl : Int) := by omega
    clear hy had
    go_wp2_with fail
    refine (isBeyond_any _ _).mono ?_
    rintro e w' ⟨rfl, hw1⟩
    subst hw1
    cases h3 : Pg.beyond t
    · have HN := hide (show l.any Pg.beyond = (l.drop (k + 1)).any Pg.beyond by rw [unhide HA, unhide HD, h3]; rfl)
      clear h3
      go_wp2_with fail
      go_round
      case rel => exact ⟨k + 1, by omega, by go_num, unhide HN⟩
      case measure => simp [intOf]; omega
    · have HN := hide (show l.any Pg.beyond = true by rw [unhide HA, unhide HD, h3]; rfl)
      clear h3
      go_wp2_with fail
      go_ret
      exact ⟨⟨_, rfl, by rw [unhide HN]; simp⟩, rfl⟩
  · have HN := hide (show l.any Pg.beyond = false by rw [unhide HA, List.drop_of_length_le (by have := unhide HLN; omega)]; rfl)
    go_wp2_with fail
    go_ret
    exact ⟨⟨_, rfl, by rw [unhide HN]; rfl⟩, rfl⟩
theorem isBeyond_contains (s : Pg.Sl) (l : List Int) (w : World) (hr : Pg.RN w s l) :
  Calls Tryz.prog 29 #[.slice s.ad s.len s.cap, .func (.func 30) #[] #[]] w fun e w' => e = .returned (.bool (l.any Pg.beyond)) ∧ w' = w := by
 have HR := hide hr
 clear hr
 go_enter Tryz.func29, Tryz.ntmps29
 go_wp2_with fail
 refine (isBeyond_index s l _ (unhide HR)).mono ?_
 rintro e w' ⟨⟨r, rfl, hd⟩, hw1⟩
 subst hw1
 have HD := hide hd
 clear hd
 go_wp2_with fail
 all_goals
  go_ret
  refine ⟨?_, rfl⟩
  rw [← unhide HD]
  try rfl
 all_goals simp_all
end Go.Proofs.YtpfogjplnodacaaGreat
namespace Go.Proofs.YtpfogjplnodacaaGreat
open Go.RowKit
set_option linter.unusedVariables false
section
variable {m n : Nat} {w0 : World} {br : Nat} {fs : Pg.Sl} {p : List (Pg.FT m n)}
theorem call_ok (hpp : Xr.PP w0 fs p) : ∀ d, Xr.CallOk w0 br fs p d := by
 intro d
 induction d with
 | zero => exact xcall_any 0 hpp (fun e he => by cases he)
 | succ d ih =>
  refine xcall_any (d + 1) hpp (fun e he => ?_)
  cases he
  exact fun q x hx W s ev bf gv vb f h hsh hd hinv => function_any d hpp (cmds_ok d hpp ih) q x hx W s ev bf gv vb f h hsh hd hinv
theorem fn_ok (hpp : Xr.PP w0 fs p) (d : Nat) : Xr.FnOk w0 br fs p d := fun q x hx W s ev bf gv vb f h hsh hd hinv => function_any d hpp (cmds_ok d hpp (call_ok hpp d)) q x hx W s ev bf gv vb f h hsh hd hinv
def Xr.Told (w0 : World) (l : List Ev) (ev : Value) (W : World) : Prop := W.ownsRow w0.heap.size 63 6 ev l.length (Xr.evC l)
theorem Xr.PP.of {w0 : World} {fs : Pg.Sl} {p : List (Pg.FT m n)} (hp : Pg.RP w0 m n fs p) (hc : Pg.chkP p = 0) : Xr.PP w0 fs p ∧ 0 < p.length := by
 unfold Pg.chkP at hc
 split at hc
 · cases hc
 rename_i h1
 split at hc
 · cases hc
 rename_i h2
 split at hc
 · cases hc
 rename_i h3
 refine ⟨⟨hp, fun i x hx => ?_, by omega, ?_⟩, by omega⟩
 · have h4 : (Pg.wfns p)[i]? = some (Pg.wfn p i x) := by unfold Pg.wfns; rw [List.getElem?_mapIdx, hx]; rfl
   exact Pg.first_zero hc _ (List.mem_of_getElem? h4)
 · have h5 : Pg.manyP p = false := by cases hm : Pg.manyP p with
    | false => rfl
    | true => exact absurd hm h3
   unfold Pg.manyP at h5
   rw [Bool.or_eq_false_iff, decide_eq_false_iff_not] at h5
   omega
theorem main_any (hpp : Xr.PP w0 fs p) (hp0 : 0 < p.length) (W : World) (inp : List Int) (fuel : Nat) (hf : fuel ≤ 500) (h : Xr.M w0 W br fs ⟨inp, fuel, 0, [], false⟩ (.slice none 0 0)) :
  Calls Tryz.prog 31 #[.pointer (some ⟨br, 0, none⟩)] W fun r W' => r = .returned (.tuple #[]) ∧ ∃ s ev, Xr.M w0 W' br fs s ev ∧ s.evs = Xr.main p inp fuel ∧ Below w0.heap.size w0 W' ∧ (Xr.main p inp fuel).length ≤ 3901 := by
 have hql : p.length - 1 < p.length := by omega
 have hxq := List.getElem?_eq_getElem hql
 generalize p[p.length - 1] = x at hxq
 obtain ⟨hwh, hwc, hwr⟩ := hpp.parts hxq
 obtain ⟨hd0, hd1, hd2, hd3⟩ := Xr.head_ok hwh
 obtain ⟨bq, oq, fq, hfs, hbq, hlq, hrq⟩ := hpp.rp.at_ _ x hxq
 have hlen := hpp.rp.len
 have hfew := hpp.few
 have HMN := hide (show Xr.main p inp fuel = (Xr.fin (Xr.fn p (Xr.call p 5) (p.length - 1) ⟨inp, fuel, 0, [], false⟩ (Xr.newF 0 0 x.sizes)).1 (Xr.fn p (Xr.call p 5) (p.length - 1) ⟨inp, fuel, 0, [], false⟩ (Xr.newF 0 0 x.sizes)).2 (-1) 0).evs by unfold Xr.main; rw [hxq])
 have HNF := hide (show Calls Tryz.prog 67 #[.int .i64 0, .int .i64 0, .slice fq.sizes.ad fq.sizes.len fq.sizes.cap] W fun r W' => ∃ gv vb, r = .returned (.pointer (some ⟨W.heap.size, 0, none⟩)) ∧ Xr.Fm w0 W' W.heap.size gv vb (Xr.newF 0 0 x.sizes) ∧ (∀ q ∈ Xr.own W.heap.size gv vb, W.heap.size ≤ q) ∧ Below W.heap.size W W' from newFrame_any (w0 := w0) 0 0 fq.sizes x.sizes W h.bel.size (hrq.sizes.later h.bel (Nat.le_refl _)) (by omega) (fun z hz => by have := hd3 z hz; omega))
 have l1 := (hlq.later h.bel (Nat.le_refl _) hbq).c1
 have HFN := hide (fun (V : World) (gv : Option Nat) (vb : List Nat) (hJ : Xr.J w0 V br fs ⟨inp, fuel, 0, [], false⟩ (.slice none 0 0) W.heap.size gv vb (Xr.newF 0 0 x.sizes)) => show Calls Tryz.prog 68 #[.pointer (some ⟨br, 0, none⟩), .pointer (some ⟨W.heap.size, 0, none⟩), .int .i64 ((fs.len : Int) - 1)] V (Xr.Post w0 br fs x.sizes W.heap.size gv vb V (.slice none 0 0) ⟨inp, fuel, 0, [], false⟩ (Xr.newF 0 0 x.sizes) (Xr.fn p (Xr.call p 5) (p.length - 1) ⟨inp, fuel, 0, [], false⟩ (Xr.newF 0 0 x.sizes))) from by
  rw [show (fs.len : Int) - 1 = ((p.length - 1 : Nat) : Int) by rw [hlen]; omega]
  exact fn_ok hpp 5 _ x hxq V _ _ _ _ _ _ hJ (Xr.Sh.new 0 0 x.sizes) rfl ⟨hf, by show 0 ≤ 700; omega, fun _ => ⟨by show 0 + fuel ≤ 600; omega, by show 0 + 7 * fuel + 0 ≤ 3900; omega⟩, by show 0 ≤ 3901; omega⟩)
 have HIV := hide (show Xr.Inv (⟨inp, fuel, 0, [], false⟩ : Xr.S) 0 from ⟨hf, by show 0 ≤ 700; omega, fun _ => ⟨by show 0 + fuel ≤ 600; omega, by show 0 + 7 * fuel + 0 ≤ 3900; omega⟩, by show 0 ≤ 3901; omega⟩)
 have HM := hide h
 generalize Xr.main p inp fuel = L at *
 generalize Xr.fn p (Xr.call p 5) (p.length - 1) ⟨inp, fuel, 0, [], false⟩ (Xr.newF 0 0 x.sizes) = T at *
 have c0 := h.c0
 obtain ⟨fa, fl, fc⟩ := fs
 have hfs' : fa = some ⟨bq, oq, none⟩ := hfs
 subst hfs'
 have hlen2 : fl = p.length := hlen
 obtain ⟨k, hk⟩ : ∃ k, p.length = k + 1 := ⟨p.length - 1, by omega⟩
 have hfk : fl = k + 1 := by omega
 have hk6 : k ≤ 5 := by omega
 rw [show p.length - 1 = k by omega] at l1
 subst hfk
 dsimp only at *
 have hcast : (((k + 1 : Nat) : Int) - 1) = (k : Int) := by omega
 rw [hcast] at HFN
 have hi0 : (0 : Int) ≤ (k : Int) := by omega
 have hi1 : (k : Int) < ((k + 1 : Nat) : Int) := by omega
 clear h hql hxq hwh hwc hwr hd0 hd1 hd2 hd3 hfs hbq hlq hrq hlen hfew hpp hp0 hlen2 hk hf hcast
 go_enter Tryz.func31, Tryz.ntmps31
 go_wp2_with fail
 refine (unhide HNF).mono ?_
 rintro r w1 ⟨gv, vb, rfl, hfm, hge, hb1⟩
 have hm1 := (unhide HM).below hb1
 have hJ1 : Xr.J w0 w1 br ⟨some ⟨bq, oq, none⟩, k + 1, fc⟩ ⟨inp, fuel, 0, [], false⟩ (.slice none 0 0) W.heap.size gv vb (Xr.newF 0 0 x.sizes) := ⟨hm1, hfm, fun e => by have := hge _ e; have := (unhide HM).lt; omega, fun q hq => by cases hq⟩
 have HF1 := hide ((unhide HFN) w1 gv vb hJ1)
 clear hfm hge hb1 hm1 hJ1
 go_wp2_with fail
 refine (unhide HF1).mono ?_
 rintro r w2 ⟨rfl, ev2, hJ2, hk2, hsh2, hin2, hdp2, hfu2⟩
 have HLN := hide (show L.length ≤ 3901 by rw [unhide HMN]; exact ((hin2 0 (unhide HIV)).fin _ _ _ 0).room)
 have HE := hide (end_any (-1) 0 w2 hJ2 ((hin2 0 (unhide HIV)).rm.le (by omega)))
 clear hJ2 hk2 hsh2 hin2 hdp2 hfu2
 go_wp2_with fail
 refine (unhide HE).mono ?_
 rintro r w3 ⟨rfl, ev3, hm3, hk3⟩
 have HP := hide (show ∃ s ev, Xr.M w0 w3 br ⟨some ⟨bq, oq, none⟩, k + 1, fc⟩ s ev ∧ s.evs = L ∧ Below w0.heap.size w0 w3 ∧ L.length ≤ 3901 from ⟨_, ev3, hm3, (unhide HMN).symm, hm3.bel, unhide HLN⟩)
 clear hm3 hk3
 go_wp2_with fail
 go_end0
 exact ⟨rfl, unhide HP⟩
end
end Go.Proofs.YtpfogjplnodacaaGreat
namespace Go.Proofs.YtpfogjplnodacaaGreat
open Go.RowKit
set_option linter.unusedVariables false
def Xr.chkR {m n : Nat} (p : List (Pg.FT m n)) (inp : List Int) (fuel : Int) : Nat := if Pg.chkP p = 0 then Pg.chkIn inp fuel else Pg.chkP p
def Xr.out {m n : Nat} (p : List (Pg.FT m n)) (inp : List Int) (fuel : Int) : List Ev := if Xr.chkR p inp fuel = 0 then Xr.main p inp fuel.toNat else []
theorem Run_len {m n : Nat} (fs : Pg.Sl) (p : List (Pg.FT m n)) (ts : Pg.Sl) (inp : List Int) (fuel : Int) (w : World) (hp : Pg.RP w m n fs p) (hpf : Pg.parFit p) (hin : Pg.RN w ts inp) :
  Calls Tryz.prog 14 #[.agg #[.slice fs.ad fs.len fs.cap], .slice ts.ad ts.len ts.cap, .int .i64 fuel] w fun r w' => ∃ a c, r = .returned (.tuple #[.slice a (Xr.out p inp fuel).length c, .int .i64 (Xr.chkR p inp fuel : Nat)]) ∧ w'.ownsRow w.heap.size 63 6 (.slice a (Xr.out p inp fuel).length c) (Xr.out p inp fuel).length (Xr.evC (Xr.out p inp fuel)) ∧ Below w.heap.size w w' ∧ (Xr.out p inp fuel).length ≤ 3901 := by
 have hb0 := (Below.refl w.heap.size w).alloc (Nat.le_refl _) (Obj.cells #[.slice fs.ad fs.len fs.cap] 40)
 have q0 : (w.alloc (Obj.cells #[.slice fs.ad fs.len fs.cap] 40)).cell? ⟨w.heap.size, 0, none⟩ = some (.slice fs.ad fs.len fs.cap) := by go_simp
 have HCK := hide (Check_any fs p _ (Pg.RP.later hp hb0 (Nat.le_refl _)) hpf)
 have HRN := hide (fun (V : World) (hV : Below w.heap.size w V) => hin.later hV (Nat.le_refl _))
 have HRP := hide (fun (V : World) (hV : Below w.heap.size w V) => Pg.RP.later hp hV (Nat.le_refl _))
 have hlen := hin.len
 have hfew := hin.few
 rw [← hlen] at hfew
 have HB0 := hide hb0
 have HCR := hide (show Xr.chkR p inp fuel = if Pg.chkP p = 0 then Pg.chkIn inp fuel else Pg.chkP p from rfl)
 have HOU := hide (show Xr.out p inp fuel = if Xr.chkR p inp fuel = 0 then Xr.main p inp fuel.toNat else [] from rfl)
 have HCI := hide (show Pg.chkIn inp fuel = if 50 < ts.len then 2 else if inp.any Pg.beyond then 3 else if 0 ≤ fuel ∧ fuel ≤ 500 then 0 else 3 by rw [hlen]; rfl)
 have HNO := hide (show ∀ (R : Nat) (L : List Ev) (V : World), R ≠ 0 → R = Xr.chkR p inp fuel → L = Xr.out p inp fuel → Below w.heap.size w V → (∃ a c, Ending.returned (.tuple #[.slice none 0 0, .int .i64 (R : Nat)]) = .returned (.tuple #[.slice a L.length c, .int .i64 (R : Nat)]) ∧ V.ownsRow w.heap.size 63 6 (.slice a L.length c) L.length (Xr.evC L) ∧ Below w.heap.size w V ∧ L.length ≤ 3901) from fun R L V h0 h1 h2 h3 => by
  have hL : L = [] := by rw [h2, unhide HOU, if_neg (by rw [← h1]; exact h0)]
  subst hL
  exact ⟨none, 0, rfl, ⟨rfl, .inl ⟨rfl, rfl⟩⟩, h3, by show 0 ≤ 3901; omega⟩)
 obtain ⟨R, hR⟩ : ∃ R, R = Xr.chkR p inp fuel := ⟨_, rfl⟩
 obtain ⟨L, hL⟩ : ∃ L, L = Xr.out p inp fuel := ⟨_, rfl⟩
 rw [← hR, ← hL]
 have HR := hide hR
 have HL := hide hL
 clear hp hpf hin hb0 hlen hR hL
 obtain ⟨ta, tn, tc⟩ := ts
 dsimp only at *
 go_enter Tryz.func14, Tryz.ntmps14
 go_wp2_with fail
 generalize w.alloc (Obj.cells #[.slice fs.ad fs.len fs.cap] 40) = W0 at *
 refine (unhide HCK).mono ?_
 rintro r w1 ⟨rfl, hb1⟩
 have r0 := (hb1.cell (p := ⟨w.heap.size, 0, none⟩) (World.block_lt_of_cell? _ _ q0)).trans q0
 have HB1 := hide ((unhide HB0).trans (hb1.mono (unhide HB0).size))
 clear hb1 q0
 by_cases hc : Pg.chkP p = 0
 case neg =>
  have HRR := hide (show R = Pg.chkP p by rw [unhide HR, unhide HCR, if_neg hc])
  generalize Pg.chkP p = CP at *
  have bc : (((CP : Nat) : Int) != 0) = true := by simp; exact hc
  have HC := hide hc
  clear hc
  go_wp2_with fail
  refine bodyPost_ret (v := .tuple #[.slice none 0 0, .int .i64 (CP : Nat)]) (by simp [results, Tryz.results14, go_sem]) rfl ?_
  have h1 := (unhide HNO) R L w1 (by rw [unhide HRR]; exact unhide HC) (unhide HR) (unhide HL) (unhide HB1)
  rw [unhide HRR] at h1 ⊢
  exact h1
 case pos =>
  have HPP := hide (Xr.PP.of ((unhide HRP) w1 (unhide HB1)) hc)
  have HR2 := hide (show R = if 50 < tn then 2 else if inp.any Pg.beyond then 3 else if 0 ≤ fuel ∧ fuel ≤ 500 then 0 else 3 by rw [unhide HR, unhide HCR, if_pos hc, unhide HCI])
  have HBY := hide (isBeyond_contains ⟨ta, tn, tc⟩ inp w1 ((unhide HRN) w1 (unhide HB1)))
  rw [hc]
  clear hc
  by_cases h50 : 50 < tn
  · have g50 : (tn : Int) > 50 := by omega
    have HRR := hide (show R = 2 by rw [unhide HR2, if_pos h50])
    clear h50
    go_wp2_with fail
    refine bodyPost_ret (v := .tuple #[.slice none 0 0, .int .i64 2]) (by simp [results, Tryz.results14, go_sem]) rfl ?_
    have h1 := (unhide HNO) R L w1 (by rw [unhide HRR]; decide) (unhide HR) (unhide HL) (unhide HB1)
    rw [unhide HRR] at h1 ⊢
    exact h1
  · have g50 : (50 < (tn : Int)) = False := by simp; omega
    have HR3 := hide (show R = if inp.any Pg.beyond then 3 else if 0 ≤ fuel ∧ fuel ≤ 500 then 0 else 3 by rw [unhide HR2, if_neg h50])
    clear h50
    generalize inp.any Pg.beyond = BY at *
    go_wp2_with fail
    refine (unhide HBY).mono ?_
    rintro r w2 ⟨rfl, hw2⟩
    subst hw2
    cases BY
    case true =>
     have HRR := hide (show R = 3 by rw [unhide HR3]; rfl)
     go_wp2_with fail
     refine bodyPost_ret (v := .tuple #[.slice none 0 0, .int .i64 3]) (by simp [results, Tryz.results14, go_sem]) rfl ?_
     have h1 := (unhide HNO) R L w2 (by rw [unhide HRR]; decide) (unhide HR) (unhide HL) (unhide HB1)
     rw [unhide HRR] at h1 ⊢
     exact h1
    case false =>
     have HR4 := hide (show R = if 0 ≤ fuel ∧ fuel ≤ 500 then 0 else 3 by rw [unhide HR3]; rfl)
     by_cases hf0 : fuel < 0
     · have HRR := hide (show R = 3 by rw [unhide HR4, if_neg (by omega)])
       go_wp2_with fail
       refine bodyPost_ret (v := .tuple #[.slice none 0 0, .int .i64 3]) (by simp [results, Tryz.results14, go_sem]) rfl ?_
       have h1 := (unhide HNO) R L w2 (by rw [unhide HRR]; decide) (unhide HR) (unhide HL) (unhide HB1)
       rw [unhide HRR] at h1 ⊢
       exact h1
     · by_cases hf5 : fuel > 500
       · have HRR := hide (show R = 3 by rw [unhide HR4, if_neg (by omega)])
         go_wp2_with fail
         refine bodyPost_ret (v := .tuple #[.slice none 0 0, .int .i64 3]) (by simp [results, Tryz.results14, go_sem]) rfl ?_
         have h1 := (unhide HNO) R L w2 (by rw [unhide HRR]; decide) (unhide HR) (unhide HL) (unhide HB1)
         rw [unhide HRR] at h1 ⊢
         exact h1
       · obtain ⟨k, rfl⟩ : ∃ k : Nat, fuel = k := ⟨fuel.toNat, by omega⟩
         have HRR := hide (show R = 0 by rw [unhide HR4, if_pos (by omega)])
         have HLL := hide (show L = Xr.main p inp k by rw [unhide HL, unhide HOU, if_pos (by rw [← unhide HR, unhide HRR]), Int.toNat_natCast])
         have hk5 : k ≤ 500 := by omega
         have g0 : ((k : Int) < 0) = False := by simp
         have g5 : (500 < (k : Int)) = False := by simp; omega
         have hb8 := (Below.refl w2.heap.size w2).alloc (Nat.le_refl _) (Obj.cells #[.slice fs.ad fs.len fs.cap, .slice ta tn tc, .int .i64 (k : Nat), .int .i64 0, .slice none 0 0, .bool false] 82)
         have HMN := hide (main_any (br := w2.heap.size) (unhide HPP).1 (unhide HPP).2 _ inp k hk5 (show Xr.M w2 (w2.alloc (Obj.cells #[.slice fs.ad fs.len fs.cap, .slice ta tn tc, .int .i64 (k : Nat), .int .i64 0, .slice none 0 0, .bool false] 82)) w2.heap.size fs ⟨inp, k, 0, [], false⟩ (.slice none 0 0) from ⟨hb8, Nat.le_refl _, by go_simp, ⟨⟨ta, tn, tc⟩, by go_simp, (unhide HRN) w2 (unhide HB1)⟩, by go_simp, by go_simp, by go_simp, by go_simp, fun i => by go_simp, ⟨rfl, .inl ⟨rfl, rfl⟩⟩, fun q hq => by cases hq⟩))
         clear hf0 hf5 hb8
         go_wp2_with fail
         refine (unhide HMN).mono ?_
         rintro r w3 ⟨rfl, s3, ev3, hm3, hev, hb3, hln⟩
         obtain ⟨a3, c3, rfl⟩ := hm3.form
         have k4 := hm3.c4
         have HP := hide (show ∃ a c, Ending.returned (.tuple #[.slice a3 s3.evs.length c3, .int .i64 0]) = .returned (.tuple #[.slice a L.length c, .int .i64 (R : Nat)]) ∧ w3.ownsRow w.heap.size 63 6 (.slice a L.length c) L.length (Xr.evC L) ∧ Below w.heap.size w w3 ∧ L.length ≤ 3901 from by
          rw [unhide HLL, ← hev, unhide HRR]
          exact ⟨a3, c3, rfl, Pg.ow_base hm3.row (unhide HB1).size, (unhide HB1).trans (hb3.mono (unhide HB1).size), by rw [hev]; exact hln⟩)
         clear hm3 hev hb3 hln
         generalize s3.evs.length = n3 at *
         go_wp2_with fail
         refine bodyPost_ret (v := .tuple #[.slice a3 n3 c3, .int .i64 0]) (by simp [results, Tryz.results14, go_sem]) rfl ?_
         exact unhide HP
theorem Run_any {m n : Nat} (fs : Pg.Sl) (p : List (Pg.FT m n)) (ts : Pg.Sl) (inp : List Int) (fuel : Int) (w : World) (hp : Pg.RP w m n fs p) (hpf : Pg.parFit p) (hin : Pg.RN w ts inp) :
  Calls Tryz.prog 14 #[.agg #[.slice fs.ad fs.len fs.cap], .slice ts.ad ts.len ts.cap, .int .i64 fuel] w fun r w' => ∃ a c, r = .returned (.tuple #[.slice a (Xr.out p inp fuel).length c, .int .i64 (Xr.chkR p inp fuel : Nat)]) ∧ w'.ownsRow w.heap.size 63 6 (.slice a (Xr.out p inp fuel).length c) (Xr.out p inp fuel).length (Xr.evC (Xr.out p inp fuel)) ∧ Below w.heap.size w w' := by
 refine (Run_len fs p ts inp fuel w hp hpf hin).mono ?_
 rintro r w' ⟨a, c, h1, h2, h3, _⟩
 exact ⟨a, c, h1, h2, h3⟩
end Go.Proofs.YtpfogjplnodacaaGreat
namespace Go.Proofs.YtpfogjplnodacaaGreat
open Go.RowKit
set_option linter.unusedVariables false
def Xr.that (k : Int) (l : List Ev) : List Ev := l.filter fun e => e.n0 == k
theorem Xr.that_step {k : Int} {l : List Ev} {i : Nat} {e : Ev} (h : l[i]? = some e) : Xr.that k (l.take (i + 1)) = if e.n0 == k then Xr.that k (l.take i) ++ [e] else Xr.that k (l.take i) := by
 obtain ⟨hlt, he⟩ := List.getElem?_eq_some_iff.1 h
 unfold Xr.that
 rw [List.take_succ_eq_append_getElem hlt, he, List.filter_append]
 by_cases hk : e.n0 == k
 · rw [if_pos hk]; simp [hk]
 · rw [if_neg hk]; simp [hk]
theorem Xr.that_le (k : Int) (l : List Ev) : (Xr.that k l).length ≤ l.length := List.length_filter_le _ _
theorem Xr.re_own {W : World} {B n c : Nat} {a : Option Addr} {l : List Ev} (hl : l.length = n) (h : W.ownsRow B 63 6 (.slice a n c) n (Xr.evC l)) : Cl.RE W a l := by
 refine ⟨fun i x hi => ?_⟩
 obtain ⟨g, cap, hv, _, _⟩ := h.form (by have := (List.getElem?_eq_some_iff.1 hi).1; omega)
 cases hv
 have cc : ∀ j v, x.cells[j]? = some v → W.cell? ⟨g, 0 + i * 6 + j, none⟩ = some v := fun j v hv => by
  have := h.cells (g := g) rfl (i * 6 + j) v (Xr.evC_at l i x j v hi hv)
  rw [Xr.add_at] at this
  rw [Nat.zero_add]
  exact this
 have c0 := cc 0 _ rfl
 exact ⟨g, 0, rfl, World.block_lt_of_cell? W _ c0, by simpa using c0, cc 1 _ rfl, cc 2 _ rfl, cc 3 _ rfl, cc 4 _ rfl, cc 5 _ rfl⟩
theorem stepsIs_any (e : Ev) (W : World) : Calls Tryz.prog 55 #[.agg #[.int .i64 e.n0, .int .i64 e.n1, .int .i64 e.n2, .int .i64 e.n3, .int .i64 e.n4, .int .i64 e.n5]] W fun r w' => r = .returned (.bool (e.n0 == 1)) ∧ Below W.heap.size W w' := by
 have HB := hide ((Below.refl W.heap.size W).alloc (Nat.le_refl _) (Obj.cells #[.int .i64 e.n0, .int .i64 e.n1, .int .i64 e.n2, .int .i64 e.n3, .int .i64 e.n4, .int .i64 e.n5] 63))
 go_enter Tryz.func55, Tryz.ntmps55
 go_wp2_with fail
 go_ret
 exact ⟨rfl, unhide HB⟩
theorem steps_any (l : List Ev) (ad : Option Addr) (cap : Nat) (w : World) (hr : Cl.RE w ad l) (hl : l.length ≤ 4000) :
  Calls Tryz.prog 54 #[.slice ad l.length cap, .func (.func 55) #[] #[]] w fun r w' => ∃ a c, r = .returned (.slice a (Xr.that 1 l).length c) ∧ w'.ownsRow w.heap.size 63 6 (.slice a (Xr.that 1 l).length c) (Xr.that 1 l).length (Xr.evC (Xr.that 1 l)) ∧ Below w.heap.size w w' := by
 obtain ⟨i0, hi0, hz0, hz1', hz2⟩ := info_of Tryz.infoEv
 have HI := hide hi0
 have HZ0 := hide hz0
 have HZ1 := hide hz1'
 have HZ2 := hide hz2
 obtain ⟨M, hM⟩ : ∃ M, M = Xr.that 1 l := ⟨_, rfl⟩
 rw [← hM]
 have HM := hide hM
 have HR := hide hr
 obtain ⟨nl, hnl⟩ : ∃ nl, nl = l.length := ⟨_, rfl⟩
 rw [← hnl] at hl ⊢
 have HNL := hide hnl
 clear hi0 hz0 hz1' hz2 hM hr hnl
 go_enter Tryz.func54, Tryz.ntmps54
 go_wp2_with fail
 go_loopw [5, 10] (fun mv iv wr => ∃ (i k c : Nat) (a : Option Addr), i ≤ nl ∧ iv = .int .i64 i ∧ mv = .slice a k c ∧ k ≤ i ∧ Hid (k = (Xr.that 1 (l.take i)).length) ∧ wr.ownsRow w.heap.size 63 6 (.slice a k c) k (Xr.evC (Xr.that 1 (l.take i))) ∧ Below w.heap.size w wr) (fun _ iv _ => nl - (intOf iv).toNat)
 case atStart => exact ⟨0, 0, 0, none, Nat.zero_le _, rfl, rfl, Nat.le_refl _, by show _ = _; rfl, ⟨rfl, .inl ⟨rfl, rfl⟩⟩, Below.refl _ _⟩
 case round =>
  obtain ⟨i, k, c, a, hi, rfl, rfl, hki, hkk, how, hbe⟩ := hrel
  have HK := hide (unhide hkk)
  clear hkk
  by_cases hlt : i < nl
  · have hlt2 : i < l.length := by have := unhide HNL; omega
    have hy := List.getElem?_eq_getElem hlt2
    obtain ⟨b, o, had, hb, p0, p1, p2, p3, p4, p5⟩ := (unhide HR).at_ i _ hy
    have HST := hide (Xr.that_step (k := 1) hy)
    generalize l[i] = e at *
    have hcl : ∀ jj, wr.cell? ⟨b, jj, none⟩ = w.cell? ⟨b, jj, none⟩ := fun jj => hbe.cell (p := ⟨b, jj, none⟩) hb
    replace p0 := (hcl _).trans p0
    replace p1 := (hcl _).trans p1
    replace p2 := (hcl _).trans p2
    replace p3 := (hcl _).trans p3
    replace p4 := (hcl _).trans p4
    replace p5 := (hcl _).trans p5
    have hal := (Below.refl wr.heap.size wr).alloc (Nat.le_refl _) (Obj.cells #[.int .i64 e.n0, .int .i64 e.n1, .int .i64 e.n2, .int .i64 e.n3, .int .i64 e.n4, .int .i64 e.n5] 63)
    have HCE := hide (show ∀ V : World, V.heap[wr.heap.size]? = (wr.alloc (Obj.cells #[.int .i64 e.n0, .int .i64 e.n1, .int .i64 e.n2, .int .i64 e.n3, .int .i64 e.n4, .int .i64 e.n5] 63)).heap[wr.heap.size]? → V.cell? ⟨wr.heap.size, 0, none⟩ = some (.int .i64 e.n0) ∧ V.cell? ⟨wr.heap.size, 1, none⟩ = some (.int .i64 e.n1) ∧ V.cell? ⟨wr.heap.size, 2, none⟩ = some (.int .i64 e.n2) ∧ V.cell? ⟨wr.heap.size, 3, none⟩ = some (.int .i64 e.n3) ∧ V.cell? ⟨wr.heap.size, 4, none⟩ = some (.int .i64 e.n4) ∧ V.cell? ⟨wr.heap.size, 5, none⟩ = some (.int .i64 e.n5) from fun V hV => by
     refine ⟨?_, ?_, ?_, ?_, ?_, ?_⟩
     · rw [Xr.cell_kept hV 0]; go_simp
     · rw [Xr.cell_kept hV 1]; go_simp
     · rw [Xr.cell_kept hV 2]; go_simp
     · rw [Xr.cell_kept hV 3]; go_simp
     · rw [Xr.cell_kept hV 4]; go_simp
     · rw [Xr.cell_kept hV 5]; go_simp)
    have HOW := hide (Pg.ow_below how hal)
    have HBA := hide (hbe.trans (hal.mono hbe.size))
    have hbz := hbe.size
    have HIS := hide (fun V => stepsIs_any e V)
    have had' : ad = some ⟨b, o, none⟩ := had
    subst had'
    have hi0' : (0 : Int) ≤ (i : Int) := by omega
    have hi1' : (i : Int) < (nl : Int) := by omega
    clear hy hb hcl hal how hbe had hlt2
    go_wp2_with fail
    generalize hW1 : wr.alloc (Obj.cells #[.int .i64 e.n0, .int .i64 e.n1, .int .i64 e.n2, .int .i64 e.n3, .int .i64 e.n4, .int .i64 e.n5] 63) = W1 at *
    have hwl : wr.heap.size < W1.heap.size := by rw [← hW1]; simp
    clear hW1 p0 p1 p2 p3 p4 p5
    refine ((unhide HIS) _).mono ?_
    rintro r w5 ⟨rfl, hb5⟩
    obtain ⟨s0, s1, s2, s3, s4, s5⟩ := (unhide HCE) w5 (hb5.block _ hwl)
    have HOW5 := hide (Pg.ow_below (unhide HOW) hb5)
    have HB5 := hide ((unhide HBA).trans (hb5.mono (unhide HBA).size))
    have hs5 : w.heap.size ≤ w5.heap.size := (unhide HB5).size
    clear hb5
    by_cases hk1 : e.n0 = 1
    · have bk : (e.n0 == 1) = true := by simp [hk1]
      have HS2 := hide (show Xr.that 1 (l.take (i + 1)) = Xr.that 1 (l.take i) ++ [e] by rw [unhide HST, if_pos bk])
      clear hk1
      obtain ⟨xs, hxs⟩ : ∃ xs, xs = Xr.evC (Xr.that 1 (l.take i)) := ⟨_, rfl⟩
      rw [← hxs] at HOW5
      have HXS := hide hxs
      clear hxs
      have HBK := hide (heap_alloc_new w5 (Obj.cells #[.int .i64 e.n0, .int .i64 e.n1, .int .i64 e.n2, .int .i64 e.n3, .int .i64 e.n4, .int .i64 e.n5] 63))
      have HBD := hide (show Below w5.heap.size w5 (w5.alloc (Obj.cells #[.int .i64 e.n0, .int .i64 e.n1, .int .i64 e.n2, .int .i64 e.n3, .int .i64 e.n4, .int .i64 e.n5] 63)) from (Below.refl _ _).alloc (Nat.le_refl _) _)
      have HLT := hide (show ∀ q, (Value.slice a k c).ownBlock = some q → w.heap.size ≤ q from fun q hq => ((unhide HOW5).lt q hq).1)
      go_wp2_with (at_builtin; refine wpList_append_lies _ (by rfl) _ _ _ (by rfl) w.heap.size 63 i0 _ 6 48 Tryz.underlying27 (unhide HI) (unhide HZ0) (unhide HZ1) (unhide HZ2) rfl (by omega) (.slice a k c) k xs (by rfl) (Pg.ow_below (unhide HOW5) (unhide HBD)) ⟨w5.heap.size, 0, none⟩ 1 1 [.int .i64 e.n0, .int .i64 e.n1, .int .i64 e.n2, .int .i64 e.n3, .int .i64 e.n4, .int .i64 e.n5] (by rfl) (by rfl) (World.news_of_block (unhide HBK)) (by simp [Value.oneCell']) (by omega) (by unfold maxLen; omega) (by omega) (by simp; omega) (w5.heap.size + 1) (by simp) ?_; intro gA cA w6 hoA hgA hatA hltA; have HOA := hide hoA; have HGA := hide hgA; clear hoA hgA hatA hltA)
      refine ⟨⟨i + 1, k + 1, cA, some ⟨gA, 0, none⟩, by omega, by go_num, rfl, by omega, ?_, ?_, ?_⟩, by simp [intOf]; omega⟩
      · show _ = _
        rw [unhide HS2, List.length_append, unhide HK]
        rfl
      · rw [unhide HS2, Xr.evC_snoc]
        rw [← unhide HXS]
        exact unhide HOA
      · exact Below.grown ((unhide HB5).trans ((unhide HBD).mono (unhide HB5).size)) (unhide HGA) (Nat.le_trans (unhide HB5).size (unhide HBD).size) (unhide HLT)
    · have bk : (e.n0 == 1) = false := by simpa using hk1
      have HS2 := hide (show Xr.that 1 (l.take (i + 1)) = Xr.that 1 (l.take i) by rw [unhide HST, if_neg (by rw [bk]; decide)])
      clear hk1
      go_wp2_with fail
      exact ⟨⟨i + 1, k, c, a, by omega, by go_num, rfl, by omega, by show _ = _; rw [unhide HS2]; exact unhide HK, by rw [unhide HS2]; exact unhide HOW5, unhide HB5⟩, by simp [intOf]; omega⟩
  · have HF := hide (show M = Xr.that 1 (l.take i) by rw [unhide HM, List.take_of_length_le (by have := unhide HNL; omega)])
    have HOW := hide how
    have HBE := hide hbe
    clear how hbe
    go_wp2_with fail
    go_ret
    have hk2 := unhide HK
    have ho := unhide HOW
    rw [← unhide HF] at hk2 ho
    subst hk2
    exact ⟨a, c, rfl, ho, unhide HBE⟩
theorem readsIs_any (e : Ev) (W : World) : Calls Tryz.prog 56 #[.agg #[.int .i64 e.n0, .int .i64 e.n1, .int .i64 e.n2, .int .i64 e.n3, .int .i64 e.n4, .int .i64 e.n5]] W fun r w' => r = .returned (.bool (e.n0 == 3)) ∧ Below W.heap.size W w' := by
 have HB := hide ((Below.refl W.heap.size W).alloc (Nat.le_refl _) (Obj.cells #[.int .i64 e.n0, .int .i64 e.n1, .int .i64 e.n2, .int .i64 e.n3, .int .i64 e.n4, .int .i64 e.n5] 63))
 go_enter Tryz.func56, Tryz.ntmps56
 go_wp2_with fail
 go_ret
 exact ⟨rfl, unhide HB⟩
theorem reads_any (l : List Ev) (ad : Option Addr) (cap : Nat) (w : World) (hr : Cl.RE w ad l) (hl : l.length ≤ 4000) :
  Calls Tryz.prog 54 #[.slice ad l.length cap, .func (.func 56) #[] #[]] w fun r w' => ∃ a c, r = .returned (.slice a (Xr.that 3 l).length c) ∧ w'.ownsRow w.heap.size 63 6 (.slice a (Xr.that 3 l).length c) (Xr.that 3 l).length (Xr.evC (Xr.that 3 l)) ∧ Below w.heap.size w w' := by
 obtain ⟨i0, hi0, hz0, hz1', hz2⟩ := info_of Tryz.infoEv
 have HI := hide hi0
 have HZ0 := hide hz0
 have HZ1 := hide hz1'
 have HZ2 := hide hz2
 obtain ⟨M, hM⟩ : ∃ M, M = Xr.that 3 l := ⟨_, rfl⟩
 rw [← hM]
 have HM := hide hM
 have HR := hide hr
 obtain ⟨nl, hnl⟩ : ∃ nl, nl = l.length := ⟨_, rfl⟩
 rw [← hnl] at hl ⊢
 have HNL := hide hnl
 clear hi0 hz0 hz1' hz2 hM hr hnl
 go_enter Tryz.func54, Tryz.ntmps54
 go_wp2_with fail
 go_loopw [5, 10] (fun mv iv wr => ∃ (i k c : Nat) (a : Option Addr), i ≤ nl ∧ iv = .int .i64 i ∧ mv = .slice a k c ∧ k ≤ i ∧ Hid (k = (Xr.that 3 (l.take i)).length) ∧ wr.ownsRow w.heap.size 63 6 (.slice a k c) k (Xr.evC (Xr.that 3 (l.take i))) ∧ Below w.heap.size w wr) (fun _ iv _ => nl - (intOf iv).toNat)
 case atStart => exact ⟨0, 0, 0, none, Nat.zero_le _, rfl, rfl, Nat.le_refl _, by show _ = _; rfl, ⟨rfl, .inl ⟨rfl, rfl⟩⟩, Below.refl _ _⟩
 case round =>
  obtain ⟨i, k, c, a, hi, rfl, rfl, hki, hkk, how, hbe⟩ := hrel
  have HK := hide (unhide hkk)
  clear hkk
  by_cases hlt : i < nl
  · have hlt2 : i < l.length := by have := unhide HNL; omega
    have hy := List.getElem?_eq_getElem hlt2
    obtain ⟨b, o, had, hb, p0, p1, p2, p3, p4, p5⟩ := (unhide HR).at_ i _ hy
    have HST := hide (Xr.that_step (k := 3) hy)
    generalize l[i] = e at *
    have hcl : ∀ jj, wr.cell? ⟨b, jj, none⟩ = w.cell? ⟨b, jj, none⟩ := fun jj => hbe.cell (p := ⟨b, jj, none⟩) hb
    replace p0 := (hcl _).trans p0
    replace p1 := (hcl _).trans p1
    replace p2 := (hcl _).trans p2
    replace p3 := (hcl _).trans p3
    replace p4 := (hcl _).trans p4
    replace p5 := (hcl _).trans p5
    have hal := (Below.refl wr.heap.size wr).alloc (Nat.le_refl _) (Obj.cells #[.int .i64 e.n0, .int .i64 e.n1, .int .i64 e.n2, .int .i64 e.n3, .int .i64 e.n4, .int .i64 e.n5] 63)
    have HCE := hide (show ∀ V : World, V.heap[wr.heap.size]? = (wr.alloc (Obj.cells #[.int .i64 e.n0, .int .i64 e.n1, .int .i64 e.n2, .int .i64 e.n3, .int .i64 e.n4, .int .i64 e.n5] 63)).heap[wr.heap.size]? → V.cell? ⟨wr.heap.size, 0, none⟩ = some (.int .i64 e.n0) ∧ V.cell? ⟨wr.heap.size, 1, none⟩ = some (.int .i64 e.n1) ∧ V.cell? ⟨wr.heap.size, 2, none⟩ = some (.int .i64 e.n2) ∧ V.cell? ⟨wr.heap.size, 3, none⟩ = some (.int .i64 e.n3) ∧ V.cell? ⟨wr.heap.size, 4, none⟩ = some (.int .i64 e.n4) ∧ V.cell? ⟨wr.heap.size, 5, none⟩ = some (.int .i64 e.n5) from fun V hV => by
     refine ⟨?_, ?_, ?_, ?_, ?_, ?_⟩
     · rw [Xr.cell_kept hV 0]; go_simp
     · rw [Xr.cell_kept hV 1]; go_simp
     · rw [Xr.cell_kept hV 2]; go_simp
     · rw [Xr.cell_kept hV 3]; go_simp
     · rw [Xr.cell_kept hV 4]; go_simp
     · rw [Xr.cell_kept hV 5]; go_simp)
    have HOW := hide (Pg.ow_below how hal)
    have HBA := hide (hbe.trans (hal.mono hbe.size))
    have hbz := hbe.size
    have HIS := hide (fun V => readsIs_any e V)
    have had' : ad = some ⟨b, o, none⟩ := had
    subst had'
    have hi0' : (0 : Int) ≤ (i : Int) := by omega
    have hi1' : (i : Int) < (nl : Int) := by omega
    clear hy hb hcl hal how hbe had hlt2
    go_wp2_with fail
    generalize hW1 : wr.alloc (Obj.cells #[.int .i64 e.n0, .int .i64 e.n1, .int .i64 e.n2, .int .i64 e.n3, .int .i64 e.n4, .int .i64 e.n5] 63) = W1 at *
    have hwl : wr.heap.size < W1.heap.size := by rw [← hW1]; simp
    clear hW1 p0 p1 p2 p3 p4 p5
    refine ((unhide HIS) _).mono ?_
    rintro r w5 ⟨rfl, hb5⟩
    obtain ⟨s0, s1, s2, s3, s4, s5⟩ := (unhide HCE) w5 (hb5.block _ hwl)
    have HOW5 := hide (Pg.ow_below (unhide HOW) hb5)
    have HB5 := hide ((unhide HBA).trans (hb5.mono (unhide HBA).size))
    have hs5 : w.heap.size ≤ w5.heap.size := (unhide HB5).size
    clear hb5
    by_cases hk1 : e.n0 = 3
    · have bk : (e.n0 == 3) = true := by simp [hk1]
      have HS2 := hide (show Xr.that 3 (l.take (i + 1)) = Xr.that 3 (l.take i) ++ [e] by rw [unhide HST, if_pos bk])
      clear hk1
      obtain ⟨xs, hxs⟩ : ∃ xs, xs = Xr.evC (Xr.that 3 (l.take i)) := ⟨_, rfl⟩
      rw [← hxs] at HOW5
      have HXS := hide hxs
      clear hxs
      have HBK := hide (heap_alloc_new w5 (Obj.cells #[.int .i64 e.n0, .int .i64 e.n1, .int .i64 e.n2, .int .i64 e.n3, .int .i64 e.n4, .int .i64 e.n5] 63))
      have HBD := hide (show Below w5.heap.size w5 (w5.alloc (Obj.cells #[.int .i64 e.n0, .int .i64 e.n1, .int .i64 e.n2, .int .i64 e.n3, .int .i64 e.n4, .int .i64 e.n5] 63)) from (Below.refl _ _).alloc (Nat.le_refl _) _)
      have HLT := hide (show ∀ q, (Value.slice a k c).ownBlock = some q → w.heap.size ≤ q from fun q hq => ((unhide HOW5).lt q hq).1)
      go_wp2_with (at_builtin; refine wpList_append_lies _ (by rfl) _ _ _ (by rfl) w.heap.size 63 i0 _ 6 48 Tryz.underlying27 (unhide HI) (unhide HZ0) (unhide HZ1) (unhide HZ2) rfl (by omega) (.slice a k c) k xs (by rfl) (Pg.ow_below (unhide HOW5) (unhide HBD)) ⟨w5.heap.size, 0, none⟩ 1 1 [.int .i64 e.n0, .int .i64 e.n1, .int .i64 e.n2, .int .i64 e.n3, .int .i64 e.n4, .int .i64 e.n5] (by rfl) (by rfl) (World.news_of_block (unhide HBK)) (by simp [Value.oneCell']) (by omega) (by unfold maxLen; omega) (by omega) (by simp; omega) (w5.heap.size + 1) (by simp) ?_; intro gA cA w6 hoA hgA hatA hltA; have HOA := hide hoA; have HGA := hide hgA; clear hoA hgA hatA hltA)
      refine ⟨⟨i + 1, k + 1, cA, some ⟨gA, 0, none⟩, by omega, by go_num, rfl, by omega, ?_, ?_, ?_⟩, by simp [intOf]; omega⟩
      · show _ = _
        rw [unhide HS2, List.length_append, unhide HK]
        rfl
      · rw [unhide HS2, Xr.evC_snoc]
        rw [← unhide HXS]
        exact unhide HOA
      · exact Below.grown ((unhide HB5).trans ((unhide HBD).mono (unhide HB5).size)) (unhide HGA) (Nat.le_trans (unhide HB5).size (unhide HBD).size) (unhide HLT)
    · have bk : (e.n0 == 3) = false := by simpa using hk1
      have HS2 := hide (show Xr.that 3 (l.take (i + 1)) = Xr.that 3 (l.take i) by rw [unhide HST, if_neg (by rw [bk]; decide)])
      clear hk1
      go_wp2_with fail
      exact ⟨⟨i + 1, k, c, a, by omega, by go_num, rfl, by omega, by show _ = _; rw [unhide HS2]; exact unhide HK, by rw [unhide HS2]; exact unhide HOW5, unhide HB5⟩, by simp [intOf]; omega⟩
  · have HF := hide (show M = Xr.that 3 (l.take i) by rw [unhide HM, List.take_of_length_le (by have := unhide HNL; omega)])
    have HOW := hide how
    have HBE := hide hbe
    clear how hbe
    go_wp2_with fail
    go_ret
    have hk2 := unhide HK
    have ho := unhide HOW
    rw [← unhide HF] at hk2 ho
    subst hk2
    exact ⟨a, c, rfl, ho, unhide HBE⟩
end Go.Proofs.YtpfogjplnodacaaGreat
namespace Go.Proofs.YtpfogjplnodacaaGreat
open Go.RowKit
set_option linter.unusedVariables false
def Ev.same (a b : Ev) : Bool := a.n0 == b.n0 && a.n1 == b.n1 && a.n2 == b.n2 && a.n3 == b.n3 && a.n4 == b.n4 && a.n5 == b.n5
theorem Ev.same_iff (a b : Ev) : Ev.same a b = true ↔ a = b := by
 obtain ⟨a0, a1, a2, a3, a4, a5⟩ := a
 obtain ⟨b0, b1, b2, b3, b4, b5⟩ := b
 simp [Ev.same, and_assoc]
theorem Xr.eq6 (x y : Ev) (W : World) : (Op.equalIn 10000 63 (.agg #[.int .i64 x.n0, .int .i64 x.n1, .int .i64 x.n2, .int .i64 x.n3, .int .i64 x.n4, .int .i64 x.n5]) (.agg #[.int .i64 y.n0, .int .i64 y.n1, .int .i64 y.n2, .int .i64 y.n3, .int .i64 y.n4, .int .i64 y.n5])).run Tryz.prog W = .ok (Ev.same x y) W := by
 have p0 : ∀ a b c d e f : Int, (part 3 #[.int .i64 a, .int .i64 b, .int .i64 c, .int .i64 d, .int .i64 e, .int .i64 f] 0).run Tryz.prog W = .ok (.int .i64 a) W := fun a b c d e f => by kernel_rfl
 have p1 : ∀ a b c d e f : Int, (part 3 #[.int .i64 a, .int .i64 b, .int .i64 c, .int .i64 d, .int .i64 e, .int .i64 f] 1).run Tryz.prog W = .ok (.int .i64 b) W := fun a b c d e f => by kernel_rfl
 have p2 : ∀ a b c d e f : Int, (part 3 #[.int .i64 a, .int .i64 b, .int .i64 c, .int .i64 d, .int .i64 e, .int .i64 f] 2).run Tryz.prog W = .ok (.int .i64 c) W := fun a b c d e f => by kernel_rfl
 have p3 : ∀ a b c d e f : Int, (part 3 #[.int .i64 a, .int .i64 b, .int .i64 c, .int .i64 d, .int .i64 e, .int .i64 f] 3).run Tryz.prog W = .ok (.int .i64 d) W := fun a b c d e f => by kernel_rfl
 have p4 : ∀ a b c d e f : Int, (part 3 #[.int .i64 a, .int .i64 b, .int .i64 c, .int .i64 d, .int .i64 e, .int .i64 f] 4).run Tryz.prog W = .ok (.int .i64 e) W := fun a b c d e f => by kernel_rfl
 have p5 : ∀ a b c d e f : Int, (part 3 #[.int .i64 a, .int .i64 b, .int .i64 c, .int .i64 d, .int .i64 e, .int .i64 f] 5).run Tryz.prog W = .ok (.int .i64 f) W := fun a b c d e f => by kernel_rfl
 have e : ∀ x y : Int, (Op.equalIn 9999 3 (.int .i64 x) (.int .i64 y)).run Tryz.prog W = .ok (x == y) W := fun x y => by
  rw [Op.equalIn]
  simp [run_underlying Tryz.underlying3]
 have hst : Tryz.prog.stoodInHeld 63 = false := by kernel_rfl
 rw [Op.equalIn]
 simp only [Sem.run_bind, run_underlying Tryz.underlying63, Result.andThen]
 simp [hst, p0, p1, p2, p3, p4, p5, e, Ev.same]
 by_cases h0 : x.n0 = y.n0
 · by_cases h1 : x.n1 = y.n1
   · by_cases h2 : x.n2 = y.n2
     · by_cases h3 : x.n3 = y.n3
       · by_cases h4 : x.n4 = y.n4
         · by_cases h5 : x.n5 = y.n5
           · simp [h0, h1, h2, h3, h4, h5]
           · simp [h0, h1, h2, h3, h4, h5]
         · simp [h0, h1, h2, h3, h4]
       · simp [h0, h1, h2, h3]
     · simp [h0, h1, h2]
   · simp [h0, h1]
 · simp [h0]
def Xr.sameL : List Ev → List Ev → Bool
 | [], [] => true
 | a :: r, b :: t => Ev.same a b && Xr.sameL r t
 | _, _ => false
theorem Xr.sameL_iff : ∀ (a b : List Ev), Xr.sameL a b = true ↔ a = b
 | [], [] => by simp [Xr.sameL]
 | a :: r, b :: t => by simp [Xr.sameL, Ev.same_iff, Xr.sameL_iff r t]
 | [], b :: t => by simp [Xr.sameL]
 | a :: r, [] => by simp [Xr.sameL]
theorem Xr.sameL_len {a b : List Ev} (h : a.length ≠ b.length) : Xr.sameL a b = false := by
 cases hs : Xr.sameL a b with
 | false => rfl
 | true => exact absurd (congrArg List.length ((Xr.sameL_iff a b).1 hs)) h
theorem Xr.sameL_drop {a b : List Ev} {i : Nat} {x y : Ev} (hx : a[i]? = some x) (hy : b[i]? = some y) : Xr.sameL (a.drop i) (b.drop i) = (Ev.same x y && Xr.sameL (a.drop (i + 1)) (b.drop (i + 1))) := by
 obtain ⟨h1, h2⟩ := List.getElem?_eq_some_iff.1 hx
 obtain ⟨h3, h4⟩ := List.getElem?_eq_some_iff.1 hy
 rw [List.drop_eq_getElem_cons h1, List.drop_eq_getElem_cons h3, h2, h4]
 rfl
theorem Equal_any (l1 l2 : List Ev) (ad bd : Option Addr) (cap dap : Nat) (w : World) (hr : Cl.RE w ad l1) (hr2 : Cl.RE w bd l2) (hl : l1.length ≤ 4000) (hl2 : l2.length ≤ 4000) :
  Calls Tryz.prog 58 #[.slice ad l1.length cap, .slice bd l2.length dap] w fun e w' => e = .returned (.bool (Xr.sameL l1 l2)) ∧ Below w.heap.size w w' := by
 obtain ⟨R, hR⟩ : ∃ R, R = Xr.sameL l1 l2 := ⟨_, rfl⟩
 rw [← hR]
 have HR := hide hr
 have HR2 := hide hr2
 by_cases hll : l1.length = l2.length
 · have HN1 := hide (Eq.refl l1.length)
   obtain ⟨nl, hnl⟩ : ∃ nl, nl = l1.length := ⟨_, rfl⟩
   rw [← hll, ← hnl]
   have HL1 := hide hnl
   have HL2 := hide (hnl.trans hll)
   have hn4 : nl ≤ 4000 := by omega
   have HRR := hide hR
   have gll : ((nl : Int) != (nl : Int)) = false := by simp
   clear hr hr2 hll hnl hl hl2 hR HN1
   go_enter Tryz.func58, Tryz.ntmps58
   go_wp2_with fail
   go_loopw [13] (fun v wr => ∃ k : Nat, k ≤ nl ∧ v = .int .i64 (k : Nat) ∧ Hid (R = Xr.sameL (l1.drop k) (l2.drop k)) ∧ Below w.heap.size w wr) (fun v _ => nl - (intOf v).toNat)
   case atStart => exact ⟨0, by omega, rfl, by show _ = _; rw [List.drop_zero, List.drop_zero]; exact unhide HRR, Below.refl _ _⟩
   case round =>
    obtain ⟨k, hk, rfl, hrel2, hbe⟩ := hrel
    have HRK := hide (unhide hrel2)
    have HBE := hide hbe
    clear hbe hrel2
    by_cases hlt : k < nl
    · obtain ⟨x, hx⟩ : ∃ x, l1[k]? = some x := ⟨_, List.getElem?_eq_getElem (by have := unhide HL1; omega)⟩
      obtain ⟨y, hy⟩ : ∃ y, l2[k]? = some y := ⟨_, List.getElem?_eq_getElem (by have := unhide HL2; omega)⟩
      obtain ⟨b, o, had, hb, c0, c1, c2, c3, c4, c5⟩ := ((unhide HR).later (unhide HBE) (Nat.le_refl _)).at_ k x hx
      obtain ⟨b', o', hbd, hb', d0, d1, d2, d3, d4, d5⟩ := ((unhide HR2).later (unhide HBE) (Nat.le_refl _)).at_ k y hy
      have HDR := hide (Xr.sameL_drop hx hy)
      subst had
      subst hbd
      clear hx hy
      have hk1 : (0 : Int) ≤ (k : Int) := by omega
      have hk2 : (k : Int) < (nl : Int) := by omega
      cases hsame : Ev.same x y
      · have HN := hide (show R = false by rw [unhide HRK, unhide HDR, hsame]; rfl)
        have heq : ∀ V : World, (Op.equalIn 10000 63 (.agg #[.int .i64 x.n0, .int .i64 x.n1, .int .i64 x.n2, .int .i64 x.n3, .int .i64 x.n4, .int .i64 x.n5]) (.agg #[.int .i64 y.n0, .int .i64 y.n1, .int .i64 y.n2, .int .i64 y.n3, .int .i64 y.n4, .int .i64 y.n5])).run Tryz.prog V = .ok false V := fun V => by rw [Xr.eq6, hsame]
        clear hsame
        go_wp2_with fail
        go_quiet (fail)
        go_wp2_with fail
        go_ret
        exact ⟨ret_bool (by rw [unhide HN]), below_drewN (unhide HBE) _⟩
      · have HN := hide (show R = Xr.sameL (l1.drop (k + 1)) (l2.drop (k + 1)) by rw [unhide HRK, unhide HDR, hsame]; rfl)
        have hxy := (Ev.same_iff x y).1 hsame
        subst hxy
        clear hsame
        go_wp2_with fail
        go_quiet (fail)
        go_wp2_with fail
        exact ⟨⟨k + 1, by omega, by go_num, by show _ = _; exact unhide HN, below_drewN (unhide HBE) _⟩, by simp [intOf]; omega⟩
    · have HN := hide (show R = true by rw [unhide HRK, List.drop_of_length_le (by have := unhide HL1; omega), List.drop_of_length_le (by have := unhide HL2; omega)]; rfl)
      go_wp2_with fail
      go_ret
      exact ⟨ret_bool (by rw [unhide HN]), unhide HBE⟩
 · have HN := hide (show R = false by rw [hR]; exact Xr.sameL_len hll)
   have gll : ((l1.length : Int) != (l2.length : Int)) = true := by simp; omega
   clear hr hr2 hll hR
   generalize l1.length = n1 at *
   generalize l2.length = n2 at *
   go_enter Tryz.func58, Tryz.ntmps58
   go_wp2_with fail
   go_ret
   exact ⟨ret_bool (by rw [unhide HN]), Below.refl _ _⟩
end Go.Proofs.YtpfogjplnodacaaGreat
namespace Go.Proofs.YtpfogjplnodacaaGreat
open Go.RowKit
set_option linter.unusedVariables false
theorem Xr.rn_own {W : World} {B n c : Nat} {a : Option Addr} {l : List Int} (hl : l.length = n) (hn : n ≤ 4000) (h : W.ownsRow B 3 1 (.slice a n c) n (l.map (Value.int .i64))) : Pg.RN W ⟨a, n, c⟩ l := by
 refine ⟨hl.symm, ?_, by omega, fun i z hz => ?_⟩
 · rcases h.2 with ⟨h1, h2⟩ | ⟨g, cap, cur, hv, _, _, hc, _⟩
   · show n ≤ c
     omega
   · cases hv
     exact hc
 · obtain ⟨g, cap, hv, _, hlt⟩ := h.form (by have := (List.getElem?_eq_some_iff.1 hz).1; omega)
   cases hv
   have hc := h.cells (g := g) rfl i (.int .i64 z) (by rw [List.getElem?_map, hz]; rfl)
   rw [Xr.add_at] at hc
   exact ⟨g, 0, rfl, hlt, by rw [Nat.zero_add]; exact hc⟩
theorem inputOf_any (l : List Ev) (ad : Option Addr) (cap : Nat) (w : World) (hr : Cl.RE w ad l) (hl : l.length ≤ 4000) (hcap : l.length ≤ cap) :
  Calls Tryz.prog 57 #[.slice ad l.length cap] w fun r w' => ∃ a n c, r = .returned (.slice a n c) ∧ Pg.RN w' ⟨a, n, c⟩ ((l.take 50).map (fun e => e.n5)) ∧ Below w.heap.size w w' := by
 obtain ⟨i3, hi3, hz3, hz3', hz3''⟩ := info_of Tryz.infoI3
 have HI := hide hi3
 have HZ0 := hide hz3
 have HZ1 := hide hz3'
 have HZ2 := hide hz3''
 have HR := hide hr
 obtain ⟨nl, hnl⟩ : ∃ nl, nl = l.length := ⟨_, rfl⟩
 rw [← hnl] at hl hcap ⊢
 have HNL := hide hnl
 obtain ⟨nm, hnm⟩ : ∃ nm, nm = min nl 50 := ⟨_, rfl⟩
 have hmn : nm ≤ nl := by omega
 have hm5 : nm ≤ 50 := by omega
 have HNM := hide hnm
 obtain ⟨M, hM⟩ : ∃ M, M = (l.take 50).map (fun e => e.n5) := ⟨_, rfl⟩
 rw [← hM]
 have HM := hide (show M = (l.take nm).map (fun e => e.n5) by
  rw [hM, hnm, hnl]
  rcases Nat.le_total l.length 50 with h | h
  · rw [Nat.min_eq_left h, List.take_of_length_le h, List.take_of_length_le (Nat.le_refl _)]
  · rw [Nat.min_eq_right h])
 clear hi3 hz3 hz3' hz3'' hr hnl hM
 have hmc : (nm : Int) ≤ (cap : Int) := by omega
 have hm0 : (0 : Int) ≤ (nm : Int) := by omega
 have hsl : (if (50 : Int) < (nl : Int) then (50 : Int) else (nl : Int)) = (nm : Int) := by rw [hnm]; split <;> omega
 have hsl2 : (if (nl : Int) < (50 : Int) then (nl : Int) else (50 : Int)) = (nm : Int) := by rw [hnm]; split <;> omega
 clear hnm
 go_enter Tryz.func57, Tryz.ntmps57
 go_wp2_with fail
 clear hsl hsl2
 go_loopw [3, 12] (fun mv iv wr => ∃ (i c : Nat) (a : Option Addr), i ≤ nm ∧ iv = .int .i64 i ∧ mv = .slice a i c ∧ wr.ownsRow w.heap.size 3 1 (.slice a i c) i (((l.take i).map (fun e => e.n5)).map (Value.int .i64)) ∧ Below w.heap.size w wr) (fun _ iv _ => nm - (intOf iv).toNat)
 case atStart => exact ⟨0, 0, none, Nat.zero_le _, rfl, rfl, ⟨rfl, .inl ⟨rfl, rfl⟩⟩, Below.refl _ _⟩
 case round =>
  obtain ⟨i, c, a, hi, rfl, rfl, how, hbe⟩ := hrel
  by_cases hlt : i < nm
  · have hlt2 : i < l.length := by have := unhide HNL; omega
    have hy := List.getElem?_eq_getElem hlt2
    obtain ⟨b, o, had, hb, p0, p1, p2, p3, p4, p5⟩ := (unhide HR).at_ i _ hy
    have HST := hide (show (l.take (i + 1)).map (fun e => e.n5) = (l.take i).map (fun e => e.n5) ++ [l[i].n5] by rw [List.take_succ_eq_append_getElem hlt2, List.map_append]; rfl)
    generalize l[i] = e at *
    have hcl : ∀ jj, wr.cell? ⟨b, jj, none⟩ = w.cell? ⟨b, jj, none⟩ := fun jj => hbe.cell (p := ⟨b, jj, none⟩) hb
    replace p0 := (hcl _).trans p0
    replace p1 := (hcl _).trans p1
    replace p2 := (hcl _).trans p2
    replace p3 := (hcl _).trans p3
    replace p4 := (hcl _).trans p4
    replace p5 := (hcl _).trans p5
    have hal := (Below.refl wr.heap.size wr).alloc (Nat.le_refl _) (Obj.cells #[.int .i64 e.n0, .int .i64 e.n1, .int .i64 e.n2, .int .i64 e.n3, .int .i64 e.n4, .int .i64 e.n5] 63)
    have q5 : (wr.alloc (Obj.cells #[.int .i64 e.n0, .int .i64 e.n1, .int .i64 e.n2, .int .i64 e.n3, .int .i64 e.n4, .int .i64 e.n5] 63)).cell? ⟨wr.heap.size, 5, none⟩ = some (.int .i64 e.n5) := by go_simp
    have HOW := hide (Pg.ow_below how hal)
    have HBA := hide (hbe.trans (hal.mono hbe.size))
    have hwz : w.heap.size ≤ (wr.alloc (Obj.cells #[.int .i64 e.n0, .int .i64 e.n1, .int .i64 e.n2, .int .i64 e.n3, .int .i64 e.n4, .int .i64 e.n5] 63)).heap.size := (hbe.trans (hal.mono hbe.size)).size
    have had' : ad = some ⟨b, o, none⟩ := had
    subst had'
    have hi0' : (0 : Int) ≤ (i : Int) := by omega
    have hi1' : (i : Int) < (nm : Int) := by omega
    clear hy hb hcl hal how hbe had hlt2
    obtain ⟨xs, hxs⟩ : ∃ xs, xs = (((l.take i).map (fun e => e.n5)).map (Value.int .i64)) := ⟨_, rfl⟩
    rw [← hxs] at HOW
    have HXS := hide hxs
    clear hxs
    go_upto_region 5 with fail
    generalize wr.alloc (Obj.cells #[.int .i64 e.n0, .int .i64 e.n1, .int .i64 e.n2, .int .i64 e.n3, .int .i64 e.n4, .int .i64 e.n5] 63) = W1 at *
    clear p0 p1 p2 p3 p4 p5
    have HBK := hide (heap_alloc_new W1 (Obj.cells #[.int .i64 e.n5] 3))
    have HBD := hide (show Below W1.heap.size W1 (W1.alloc (Obj.cells #[.int .i64 e.n5] 3)) from (Below.refl _ _).alloc (Nat.le_refl _) _)
    have HLT := hide (show ∀ q, (Value.slice a i c).ownBlock = some q → w.heap.size ≤ q from fun q hq => ((unhide HOW).lt q hq).1)
    go_wp2_with (at_builtin; refine wpList_append_lies _ (by rfl) _ _ _ (by rfl) w.heap.size 3 i3 _ 1 8 Tryz.underlying23 (unhide HI) (unhide HZ0) (unhide HZ1) (unhide HZ2) rfl (by omega) (.slice a i c) i xs (by rfl) (Pg.ow_below (unhide HOW) (unhide HBD)) ⟨W1.heap.size, 0, none⟩ 1 1 [.int .i64 e.n5] (by rfl) (by rfl) (World.news_of_block (unhide HBK)) (by simp [Value.oneCell']) (by omega) (by unfold maxLen; omega) (by omega) (by simp; omega) (W1.heap.size + 1) (by simp) ?_; intro gA cA w6 hoA hgA hatA hltA; have HOA := hide hoA; have HGA := hide hgA; clear hoA hgA hatA hltA)
    refine ⟨⟨i + 1, cA, some ⟨gA, 0, none⟩, by omega, by go_num, rfl, ?_, ?_⟩, by simp [intOf]; omega⟩
    · rw [unhide HST, List.map_append, ← unhide HXS]
      exact unhide HOA
    · exact Below.grown ((unhide HBA).trans ((unhide HBD).mono (unhide HBA).size)) (unhide HGA) (Nat.le_trans (unhide HBA).size (unhide HBD).size) (unhide HLT)
  · have hie : i = nm := by omega
    subst hie
    have HOW := hide how
    have HBE := hide hbe
    clear how hbe
    go_wp2_with fail
    go_ret
    refine ⟨a, i, c, rfl, ?_, unhide HBE⟩
    rw [unhide HM]
    exact Xr.rn_own (by rw [List.length_map, List.length_take]; have := unhide HNL; omega) (by omega) (unhide HOW)
end Go.Proofs.YtpfogjplnodacaaGreat
namespace Go.Proofs.YtpfogjplnodacaaGreat
open Go.RowKit
set_option linter.unusedVariables false
def Xr.chkL {m n : Nat} (p : List (Pg.FT m n)) (l : List Ev) : Nat := if Pg.chkP p = 0 then (if 4000 < l.length then 2 else 0) else Pg.chkP p
def Xr.inOf (l : List Ev) : List Int := ((Xr.that 3 l).take 50).map (fun e => e.n5)
def Xr.right {m n : Nat} (p : List (Pg.FT m n)) (l : List Ev) : Bool :=
 decide (Xr.chkL p l = 0) && decide (Xr.chkR p (Xr.inOf l) ((Xr.that 1 l).length : Nat) = 0) && decide (l.length ≤ (Xr.out p (Xr.inOf l) ((Xr.that 1 l).length : Nat)).length) && Xr.sameL l ((Xr.out p (Xr.inOf l) ((Xr.that 1 l).length : Nat)).take l.length)
theorem Cl.RE.takeN {w : World} {ad : Option Addr} {l : List Ev} (h : Cl.RE w ad l) (k : Nat) : Cl.RE w ad (l.take k) := ⟨fun i x hi => by
 rw [List.getElem?_take] at hi
 split at hi
 · exact h.at_ i x hi
 · cases hi⟩
theorem Xr.own_cap {W : World} {B n c : Nat} {a : Option Addr} {e : TypeId} {z : Nat} {xs : List Value} (h : W.ownsRow B e z (.slice a n c) n xs) : n ≤ c := by
 rcases h.2 with ⟨h1, h2⟩ | ⟨g, cap, cur, hv, _, _, hc, _⟩
 · omega
 · cases hv
   exact hc
theorem Xr.out_len {m n : Nat} (p : List (Pg.FT m n)) (inp : List Int) (fuel : Int) (W : World) {B c : Nat} {a : Option Addr} (h : W.ownsRow B 63 6 (.slice a (Xr.out p inp fuel).length c) (Xr.out p inp fuel).length (Xr.evC (Xr.out p inp fuel))) : (Xr.out p inp fuel).length ≤ 9223372036854775807 := by
 have h1 := Xr.own_cap h
 rcases h.2 with ⟨_, h2⟩ | ⟨g, cap, cur, hv, _, _, _, hc, _⟩
 · omega
 · cases hv
   unfold maxLen at hc
   omega
theorem Right_any {m n : Nat} (fs : Pg.Sl) (p : List (Pg.FT m n)) (l : List Ev) (ad : Option Addr) (cap : Nat) (w : World) (hp : Pg.RP w m n fs p) (hpf : Pg.parFit p) (hr : Cl.RE w ad l) (hl : l.length ≤ 35184372088832) :
  Calls Tryz.prog 25 #[.agg #[.slice fs.ad fs.len fs.cap], .slice ad l.length cap] w fun r w' => r = .returned (.tuple #[.bool (Xr.right p l), .int .i64 (Xr.chkL p l : Nat)]) ∧ Below w.heap.size w w' := by
 have hb0 := (Below.refl w.heap.size w).alloc (Nat.le_refl _) (Obj.cells #[.slice fs.ad fs.len fs.cap] 40)
 have q0 : (w.alloc (Obj.cells #[.slice fs.ad fs.len fs.cap] 40)).cell? ⟨w.heap.size, 0, none⟩ = some (.slice fs.ad fs.len fs.cap) := by go_simp
 have HCK := hide (Check_any fs p _ (Pg.RP.later hp hb0 (Nat.le_refl _)) hpf)
 have HRE := hide (fun (V : World) (hV : Below w.heap.size w V) => hr.later hV (Nat.le_refl _))
 have HRUN := hide (fun (V : World) (hV : Below w.heap.size w V) (ts : Pg.Sl) (inp : List Int) (fuel : Int) (hin : Pg.RN V ts inp) => Run_any fs p ts inp fuel V (Pg.RP.later hp hV (Nat.le_refl _)) hpf hin)
 have HB0 := hide hb0
 obtain ⟨R, hR⟩ : ∃ R, R = Xr.chkL p l := ⟨_, rfl⟩
 obtain ⟨B, hB⟩ : ∃ B, B = Xr.right p l := ⟨_, rfl⟩
 rw [← hR, ← hB]
 obtain ⟨nl, hnl⟩ : ∃ nl, nl = l.length := ⟨_, rfl⟩
 have HCL := hide (show R = if Pg.chkP p = 0 then (if 4000 < nl then 2 else 0) else Pg.chkP p by rw [hR, hnl]; rfl)
 have HBF := hide (show R ≠ 0 → B = false from fun h => by rw [hB]; unfold Xr.right; rw [← hR, decide_eq_false h]; rfl)
 have HBT := hide (show R = 0 → B = (decide (Xr.chkR p (Xr.inOf l) ((Xr.that 1 l).length : Nat) = 0) && decide (nl ≤ (Xr.out p (Xr.inOf l) ((Xr.that 1 l).length : Nat)).length) && Xr.sameL l ((Xr.out p (Xr.inOf l) ((Xr.that 1 l).length : Nat)).take nl)) from fun h => by rw [hB, hnl]; unfold Xr.right; rw [← hR, decide_eq_true h]; rfl)
 rw [← hnl] at hl ⊢
 have HNL := hide hnl
 clear hp hpf hr hb0 hR hB hnl
 go_enter Tryz.func25, Tryz.ntmps25
 go_wp2_with fail
 generalize w.alloc (Obj.cells #[.slice fs.ad fs.len fs.cap] 40) = W0 at *
 refine (unhide HCK).mono ?_
 rintro r w1 ⟨rfl, hb1⟩
 have r0 := (hb1.cell (p := ⟨w.heap.size, 0, none⟩) (World.block_lt_of_cell? _ _ q0)).trans q0
 have HB1 := hide ((unhide HB0).trans (hb1.mono (unhide HB0).size))
 clear hb1 q0
 by_cases hc : Pg.chkP p = 0
 case neg =>
  have HRR := hide (show R = Pg.chkP p by rw [unhide HCL, if_neg hc])
  generalize Pg.chkP p = CP at *
  have bc : (((CP : Nat) : Int) != 0) = true := by simp; exact hc
  have HC := hide hc
  clear hc
  go_wp2_with fail
  refine bodyPost_ret (v := .tuple #[.bool false, .int .i64 (CP : Nat)]) (by simp [results, Tryz.results25, go_sem]) rfl ?_
  rw [(unhide HBF) (by rw [unhide HRR]; exact unhide HC), unhide HRR]
  exact ⟨rfl, unhide HB1⟩
 case pos =>
  have HR2 := hide (show R = if 4000 < nl then 2 else 0 by rw [unhide HCL, if_pos hc])
  rw [hc]
  clear hc
  by_cases h4 : 4000 < nl
  · have g4 : (nl : Int) > 4000 := by omega
    have HRR := hide (show R = 2 by rw [unhide HR2, if_pos h4])
    clear h4
    go_wp2_with fail
    refine bodyPost_ret (v := .tuple #[.bool false, .int .i64 2]) (by simp [results, Tryz.results25, go_sem]) rfl ?_
    rw [(unhide HBF) (by rw [unhide HRR]; decide), unhide HRR]
    exact ⟨rfl, unhide HB1⟩
  · have g4 : (4000 < (nl : Int)) = False := by simp; omega
    have hn4 : nl ≤ 4000 := by omega
    have HRR := hide (show R = 0 by rw [unhide HR2, if_neg h4])
    have HBB := hide ((unhide HBT) (unhide HRR))
    have hl4 : l.length ≤ 4000 := by have := unhide HNL; omega
    have HST := hide (fun (V : World) (hV : Below w.heap.size w V) => show Calls Tryz.prog 54 #[.slice ad nl cap, .func (.func 55) #[] #[]] V _ from by rw [unhide HNL]; exact steps_any l ad cap V ((unhide HRE) V hV) hl4)
    have HRD := hide (fun (V : World) (hV : Below w.heap.size w V) => show Calls Tryz.prog 54 #[.slice ad nl cap, .func (.func 56) #[] #[]] V _ from by rw [unhide HNL]; exact reads_any l ad cap V ((unhide HRE) V hV) hl4)
    have hs4 : (Xr.that 1 l).length ≤ 4000 := Nat.le_trans (Xr.that_le 1 l) hl4
    have hr4 : (Xr.that 3 l).length ≤ 4000 := Nat.le_trans (Xr.that_le 3 l) hl4
    clear h4
    go_wp2_with fail
    refine ((unhide HST) _ (unhide HB1)).mono ?_
    rintro r w2 ⟨a2, c2, rfl, ho2, hb2⟩
    have r2 := (hb2.cell (p := ⟨w.heap.size, 0, none⟩) (World.block_lt_of_cell? _ _ r0)).trans r0
    have HB2 := hide ((unhide HB1).trans (hb2.mono (unhide HB1).size))
    clear hb2 ho2 r0
    go_wp2_with fail
    refine ((unhide HRD) _ (unhide HB2)).mono ?_
    rintro r w3 ⟨a3, c3, rfl, ho3, hb3⟩
    have r3 := (hb3.cell (p := ⟨w.heap.size, 0, none⟩) (World.block_lt_of_cell? _ _ r2)).trans r2
    have HB3 := hide ((unhide HB2).trans (hb3.mono (unhide HB2).size))
    have HRE3 := hide (Xr.re_own rfl ho3)
    have hc3 := Xr.own_cap ho3
    have HIN := hide (fun (V : World) (hV : Below w3.heap.size w3 V) => inputOf_any (Xr.that 3 l) a3 c3 V ((unhide HRE3).later hV (Nat.le_refl _)) hr4 hc3)
    have HIO := hide (show ((Xr.that 3 l).take 50).map (fun e => e.n5) = Xr.inOf l from rfl)
    rw [unhide HIO] at HIN
    have hbl3 := World.block_lt_of_cell? _ _ r3
    clear hb3 ho3 r2
    generalize Xr.inOf l = IN at *
    generalize (Xr.that 1 l).length = ST at *
    generalize (Xr.that 3 l).length = RD at *
    have HO := hide (Xr.out_len p IN (ST : Nat))
    generalize hO : Xr.out p IN ((ST : Nat) : Int) = O at *
    generalize hQ : Xr.chkR p IN ((ST : Nat) : Int) = Q at *
    have HRN := hide (fun (V : World) (hV : Below w3.heap.size w3 V) (ts : Pg.Sl) (hin : Pg.RN V ts IN) => show Calls Tryz.prog 14 #[.agg #[.slice fs.ad fs.len fs.cap], .slice ts.ad ts.len ts.cap, .int .i64 (ST : Nat)] V fun r w' => ∃ a c, r = .returned (.tuple #[.slice a O.length c, .int .i64 (Q : Nat)]) ∧ w'.ownsRow V.heap.size 63 6 (.slice a O.length c) O.length (Xr.evC O) ∧ Below V.heap.size V w' from by
     have := (unhide HRUN) V ((unhide HB3).trans (hV.mono (unhide HB3).size)) ts IN (ST : Nat) hin
     rw [hO, hQ] at this
     exact this)
    clear hO hQ
    go_upto_region 8 with fail
    have HKM := hide (show ∀ V : World, Below w3.heap.size w3 V → (V.cell? ⟨w.heap.size, 0, none⟩ = some (.slice fs.ad fs.len fs.cap) ∧ Below w3.heap.size w3 V) from fun V hV => ⟨(hV.cell (p := ⟨w.heap.size, 0, none⟩) hbl3).trans r3, hV⟩)
    clear r3
    go_cut [9, 10] (fun t9 t10 V => t10 = .int .i64 (Q : Nat) ∧ ∃ a6 c6, t9 = .slice a6 O.length c6 ∧ V.ownsRow w3.heap.size 63 6 (.slice a6 O.length c6) O.length (Xr.evC O) ∧ Below w3.heap.size w3 V)
    case first =>
     go_region_held3 (fun V => V.cell? ⟨w.heap.size, 0, none⟩ = some (.slice fs.ad fs.len fs.cap) ∧ Below w3.heap.size w3 V)
      (first | assumption | exact (unhide HKM) _ ((Below.refl _ _).drew) | exact (unhide HKM) _ (unhide HB6) | exact (unhide HKM) _ (unhide HB5))
      (first
       | (go_at_call 57; refine ((unhide HIN) _ ?_).mono ?_; exact (Below.refl _ _).drew; rintro r w5 ⟨a5, n5, c5, rfl, hrn5, hb5⟩; have HN5 := hide hrn5; have HB5 := hide (((Below.refl w3.heap.size w3).drew).trans (hb5.mono (Nat.le_refl _))); clear hrn5 hb5)
       | (go_at_call 14; refine ((unhide HRN) w5 (unhide HB5) ⟨a5, n5, c5⟩ (unhide HN5)).mono ?_; rintro r w6 ⟨a6, c6, rfl, ho6, hb6⟩; have HO6 := hide (Pg.ow_base ho6 (unhide HB5).size); have HB6 := hide ((unhide HB5).trans (hb6.mono (unhide HB5).size)); clear ho6 hb6))
     all_goals
      go_wp2_with fail
      go_meet
      case rel => exact ⟨rfl, _, _, rfl, unhide HO6, unhide HB6⟩
    case rest =>
     rename World => W4
     obtain ⟨rfl, a6, c6, rfl, ho6, hb6⟩ := hcut
     have HB4 := hide ((unhide HB3).trans (hb6.mono (unhide HB3).size))
     have hc6 := Xr.own_cap ho6
     have HRO := hide (Xr.re_own rfl ho6)
     clear ho6 hb6
     by_cases hQ0 : Q = 0
     case neg =>
      have HBX := hide (show B = false by rw [unhide HBB, decide_eq_false hQ0]; rfl)
      have bq : (((Q : Nat) : Int) == 0) = false := by simp; exact hQ0
      clear hQ0
      generalize O.length = NO at *
      go_wp2_with fail
      refine bodyPost_ret (v := .tuple #[.bool false, .int .i64 0]) (by simp [results, Tryz.results25, go_sem]) rfl ?_
      rw [unhide HBX, unhide HRR]
      exact ⟨rfl, unhide HB4⟩
     case pos =>
      have HB5 := hide (show B = (decide (nl ≤ O.length) && Xr.sameL l (O.take nl)) by rw [unhide HBB, decide_eq_true hQ0]; rfl)
      subst hQ0
      by_cases hno : nl ≤ O.length
      · have HBX := hide (show B = Xr.sameL l (O.take nl) by rw [unhide HB5, decide_eq_true hno]; rfl)
        have htl : (O.take nl).length = nl := by rw [List.length_take]; omega
        have HEQ := hide (show Calls Tryz.prog 58 #[.slice ad nl cap, .slice a6 nl c6] W4 fun e w' => e = .returned (.bool (Xr.sameL l (O.take nl))) ∧ Below W4.heap.size W4 w' from by
         have := Equal_any l (O.take nl) ad a6 cap c6 W4 ((unhide HRE) W4 (unhide HB4)) ((unhide HRO).takeN nl) hl4 (by omega)
         rw [htl, ← unhide HNL] at this
         exact this)
        generalize Xr.sameL l (O.take nl) = SB at *
        clear htl
        have g1 : (nl : Int) ≤ (O.length : Int) := by omega
        have g2 : (nl : Int) ≤ (c6 : Int) := by omega
        have g3 : (0 : Int) ≤ (nl : Int) := by omega
        generalize O.length = NO at *
        go_wp2_with fail
        refine (unhide HEQ).mono ?_
        rintro r w7 ⟨rfl, hb7⟩
        have HB7 := hide ((unhide HB4).trans (hb7.mono (unhide HB4).size))
        clear hb7
        go_wp2_with fail
        refine bodyPost_ret (v := .tuple #[.bool SB, .int .i64 0]) (by simp [results, Tryz.results25, go_sem]) rfl ?_
        rw [unhide HBX, unhide HRR]
        exact ⟨rfl, unhide HB7⟩
      · have HBX := hide (show B = false by rw [unhide HB5, decide_eq_false hno]; rfl)
        have g1 : ((nl : Int) ≤ (O.length : Int)) = False := by simp; omega
        have g2 : ¬ (nl : Int) ≤ (O.length : Int) := by omega
        clear hno
        generalize O.length = NO at *
        go_wp2_with fail
        refine bodyPost_ret (v := .tuple #[.bool false, .int .i64 0]) (by simp [results, Tryz.results25, go_sem]) rfl ?_
        rw [unhide HBX, unhide HRR]
        exact ⟨rfl, unhide HB4⟩
end Go.Proofs.YtpfogjplnodacaaGreat
namespace Go.Proofs.YtpfogjplnodacaaGreat
open Go.RowKit
set_option linter.unusedVariables false
def Xr.e0 : Pg.XT 1 := ((0, 0), [])
def Xr.eN : Pg.XT 1 := ((2, 0), [])
def Xr.small : List (Pg.FT 1 1) := [⟨0, [0], [((4, 0, 0), (Xr.e0, Xr.e0, []), ([], [])), ((5, 0, 0), (Xr.e0, Xr.eN, []), ([], []))], Xr.e0⟩]
theorem Xr.small_fit : Pg.parFit Xr.small := by
 intro x hx
 simp only [Xr.small, List.mem_cons, List.not_mem_nil, or_false] at hx
 subst hx
 show (0 : Int) ≤ 9223372036854775807
 omega
theorem Pg.RX.e0 (w : World) : Pg.RX w 1 ⟨0, 0, ⟨none, 0, 0⟩⟩ Xr.e0 := ⟨⟨rfl, rfl⟩, ⟨rfl, Nat.le_refl _, Nat.zero_le _, fun i y hy => by simp [Xr.e0] at hy⟩⟩
theorem Pg.RX.eN (w : World) : Pg.RX w 1 ⟨2, 0, ⟨none, 0, 0⟩⟩ Xr.eN := ⟨⟨rfl, rfl⟩, ⟨rfl, Nat.le_refl _, Nat.zero_le _, fun i y hy => by simp [Xr.eN] at hy⟩⟩
theorem Pg.RS.none {α β : Type} (w : World) (wide : Nat) (lies : Nat → Nat → α → Prop) (reads : α → β → Prop) : Pg.RS w wide lies reads ⟨none, 0, 0⟩ [] := ⟨rfl, Nat.le_refl _, Nat.zero_le _, fun i y hy => by simp at hy⟩
theorem small_any (w : World) :
  Calls Tryz.prog 23 #[] w fun r w' => ∃ g, r = .returned (.agg #[.slice (some ⟨g, 0, none⟩) 1 1]) ∧ Pg.RP w' 1 1 ⟨some ⟨g, 0, none⟩, 1, 1⟩ Xr.small ∧ Below w.heap.size w w' := by
 go_enter Tryz.func23, Tryz.ntmps23
 go_wp2_with fail
 refine bodyPost_ret (v := .agg #[.slice (some ⟨w.heap.size + 1 + 1 + 1, 0, none⟩) 1 1]) (by simp [results, Tryz.results23, go_sem]) rfl ⟨w.heap.size + 1 + 1 + 1, rfl, ⟨rfl, Nat.le_refl _, by simp [Xr.small], fun i y hy => ?_⟩, ((((Below.refl _ _).alloc (Nat.le_refl _) _).alloc (by simp) _).alloc (by simp; omega) _).alloc (by simp; omega) _⟩
 match i, hy with
 | 0, hy =>
  cases hy
  refine ⟨w.heap.size + 1 + 1 + 1, 0, ⟨0, ⟨some ⟨w.heap.size + 1, 0, none⟩, 1, 1⟩, ⟨some ⟨w.heap.size + 1 + 1, 0, none⟩, 2, 2⟩, ⟨0, 0, ⟨none, 0, 0⟩⟩⟩, rfl, by simp, ⟨by go_simp, by go_simp, by go_simp, by go_simp, by go_simp, by go_simp⟩, ⟨rfl, ⟨rfl, Nat.le_refl _, by simp, fun k z hz => ?_⟩, ⟨rfl, Nat.le_refl _, by show 2 ≤ 35184372088832; omega, fun k z hz => ?_⟩, Pg.RX.e0 _⟩⟩
  · match k, hz with
    | 0, hz => cases hz; exact ⟨w.heap.size + 1, 0, rfl, by simp <;> omega, by go_simp⟩
    | _ + 1, hz => simp at hz
  · match k, hz with
    | 0, hz =>
     cases hz
     exact ⟨w.heap.size + 1 + 1, 0, ⟨4, 0, 0, ⟨0, 0, ⟨none, 0, 0⟩⟩, ⟨0, 0, ⟨none, 0, 0⟩⟩, ⟨none, 0, 0⟩, ⟨none, 0, 0⟩, ⟨none, 0, 0⟩⟩, rfl, by simp <;> omega, ⟨by go_simp, by go_simp, by go_simp, by go_simp, by go_simp, by go_simp, by go_simp, by go_simp, by go_simp, by go_simp, by go_simp, by go_simp⟩, ⟨rfl, rfl, rfl⟩, ⟨Pg.RX.e0 _, Pg.RX.e0 _, Pg.RS.none _ _ _ _⟩, Pg.RS.none _ _ _ _, Pg.RS.none _ _ _ _⟩
    | 1, hz =>
     cases hz
     exact ⟨w.heap.size + 1 + 1, 0, ⟨5, 0, 0, ⟨0, 0, ⟨none, 0, 0⟩⟩, ⟨2, 0, ⟨none, 0, 0⟩⟩, ⟨none, 0, 0⟩, ⟨none, 0, 0⟩, ⟨none, 0, 0⟩⟩, rfl, by simp <;> omega, ⟨by go_simp, by go_simp, by go_simp, by go_simp, by go_simp, by go_simp, by go_simp, by go_simp, by go_simp, by go_simp, by go_simp, by go_simp⟩, ⟨rfl, rfl, rfl⟩, ⟨Pg.RX.e0 _, Pg.RX.eN _, Pg.RS.none _ _ _ _⟩, Pg.RS.none _ _ _ _, Pg.RS.none _ _ _ _⟩
    | _ + 2, hz => cases hz
 | _ + 1, hy => simp [Xr.small] at hy
end Go.Proofs.YtpfogjplnodacaaGreat
namespace Go.Proofs.YtpfogjplnodacaaGreat
open Go.RowKit
set_option linter.unusedVariables false
def Xr.tr : List Ev := [⟨1, 0, 0, 0, 0, 0⟩, ⟨3, 0, 0, 0, 0, 7⟩, ⟨2, 0, 0, 0, 0, 7⟩, ⟨1, 0, 1, 0, 0, 0⟩, ⟨4, 0, 1, 0, 0, 7⟩, ⟨7, 0, -1, 0, 0, 0⟩]
theorem Xr.small_ok : Xr.chkR Xr.small [7] 9 = 0 := by kernel_rfl
theorem Xr.small_out : Xr.out Xr.small [7] 9 = Xr.tr := by kernel_rfl
theorem Xr.small_chk (l : List Ev) (h : l.length ≤ 6) : Xr.chkL Xr.small l = 0 := by
 have h1 : Pg.chkP Xr.small = 0 := by kernel_rfl
 unfold Xr.chkL
 rw [if_pos h1, if_neg (by omega)]
theorem Xr.small_right : Xr.right Xr.small (Xr.tr.take 3) = true := by kernel_rfl
theorem Xr.small_wrong : Xr.right Xr.small (Xr.tr.drop 1) = false := by kernel_rfl
end Go.Proofs.YtpfogjplnodacaaGreat
namespace Go.Proofs.YtpfogjplnodacaaGreat
open Go.RowKit
set_option linter.unusedVariables false
theorem SameEvents_long (l : List Ev) (ad bd : Option Addr) (cap dap : Nat) (w : World) (hr : Cl.RE w ad l) (hr2 : Cl.RE w bd l) (hl : l.length ≤ 35184372088832) :
  Calls Tryz.prog 15 #[.slice ad l.length cap, .slice bd l.length dap] w fun e w' => e = .returned (.bool true) ∧ Below w.heap.size w w' := by
 have HR := hide hr
 have HR2 := hide hr2
 clear hr hr2
 have gll : ((l.length : Int) != (l.length : Int)) = false := by simp
 go_enter Tryz.func15, Tryz.ntmps15
 go_wp2_with fail
 go_loopw [5] (fun v wr => ∃ k : Nat, k ≤ l.length ∧ v = .int .i64 (k : Nat) ∧ Below w.heap.size w wr) (fun v _ => l.length - (intOf v).toNat)
 case atStart => exact ⟨0, by omega, rfl, Below.refl _ _⟩
 case round =>
  obtain ⟨k, hk, rfl, hbe⟩ := hrel
  have HBE := hide hbe
  clear hbe
  by_cases hlt : k < l.length
  · obtain ⟨t, ht⟩ : ∃ t, l[k]? = some t := ⟨l[k], List.getElem?_eq_getElem hlt⟩
    obtain ⟨b, o, rfl, hb, c0, c1, c2, c3, c4, c5⟩ := ((unhide HR).later (unhide HBE) (Nat.le_refl _)).at_ k t ht
    obtain ⟨b', o', rfl, hb', d0, d1, d2, d3, d4, d5⟩ := ((unhide HR2).later (unhide HBE) (Nat.le_refl _)).at_ k t ht
    clear ht
    have hk1 : (0 : Int) ≤ (k : Int) := by omega
    have hk2 : (k : Int) < (l.length : Int) := by omega
    go_wp2_with fail
    go_quiet (fail)
    go_wp2_with fail
    exact ⟨⟨k + 1, by omega, by go_num, below_drewN (unhide HBE) _⟩, by simp [intOf]; omega⟩
  · have hk2 : ¬ (k : Int) < (l.length : Int) := by omega
    go_wp2_with fail
    go_ret
    exact ⟨rfl, unhide HBE⟩
theorem SameEvents_eq (l : List Ev) (ad bd : Option Addr) (cap dap : Nat) (w : World) (hr : Cl.RE w ad l) (hr2 : Cl.RE w bd l) (hl : l.length ≤ 4000) :
  Calls Tryz.prog 15 #[.slice ad l.length cap, .slice bd l.length dap] w fun e w' => e = .returned (.bool true) ∧ Below w.heap.size w w' := SameEvents_long l ad bd cap dap w hr hr2 (by omega)
theorem xsmallTrace_any (w : World) :
  Calls Tryz.prog 26 #[] w fun e w' => ∃ g, e = .returned (.slice (some ⟨g, 0, none⟩) 6 6) ∧ w.heap.size ≤ g ∧ Cl.RE w' (some ⟨g, 0, none⟩) Xr.tr ∧ Below w.heap.size w w' := by
 go_enter Tryz.func26, Tryz.ntmps26
 go_wp2_with fail
 refine bodyPost_ret (v := .slice (some ⟨w.heap.size, 0, none⟩) 6 6) (by simp [results, Tryz.results26, go_sem]) rfl ⟨w.heap.size, rfl, Nat.le_refl _, ⟨fun i x hi => ?_⟩, (Below.refl _ _).alloc (Nat.le_refl _) _⟩
 match i, hi with
 | 0, hi => cases hi; exact ⟨w.heap.size, 0, rfl, by simp, by go_simp, by go_simp, by go_simp, by go_simp, by go_simp, by go_simp⟩
 | 1, hi => cases hi; exact ⟨w.heap.size, 0, rfl, by simp, by go_simp, by go_simp, by go_simp, by go_simp, by go_simp, by go_simp⟩
 | 2, hi => cases hi; exact ⟨w.heap.size, 0, rfl, by simp, by go_simp, by go_simp, by go_simp, by go_simp, by go_simp, by go_simp⟩
 | 3, hi => cases hi; exact ⟨w.heap.size, 0, rfl, by simp, by go_simp, by go_simp, by go_simp, by go_simp, by go_simp, by go_simp⟩
 | 4, hi => cases hi; exact ⟨w.heap.size, 0, rfl, by simp, by go_simp, by go_simp, by go_simp, by go_simp, by go_simp, by go_simp⟩
 | 5, hi => cases hi; exact ⟨w.heap.size, 0, rfl, by simp, by go_simp, by go_simp, by go_simp, by go_simp, by go_simp, by go_simp⟩
 | _ + 6, hi => simp [Xr.tr] at hi
end Go.Proofs.YtpfogjplnodacaaGreat
