/-
  Regions of the document's Runner.Call, each in a theorem of its own. By the verifier; written by mkrc.py.
-/
import Derived.Test.YtpfogjplnodacaaGreatR1
import Derived.Deep.RegionLaw
import Derived.Deep.AppendSrc
set_option maxRecDepth 100000
set_option maxHeartbeats 3200000
namespace Go.Proofs.YtpfogjplnodacaaGreat
open Go.RowKit Go.Maps
set_option linter.unusedVariables false
theorem Rm.app_ints {w : World} {B : Nat} {la : Option Addr} {i lc : Nat} {zs : List Int} (hrow : w.ownsRow B 3 1 (.slice la i lc) i (zs.map (Value.int .i64))) (hi : i ≤ 1000) (z : Int) (ty : TypeId) :
  ∃ gA cA w6, (Builtin.append_ #[23, 23] ty #[.slice (some ⟨w.heap.size, 0, none⟩) 1 1, .slice la i lc]).run Tryz.prog (w.alloc (Obj.cells #[.int .i64 z] 3)) = .ok (.slice (some ⟨gA, 0, none⟩) (i + 1) cA) w6 ∧ Below w.heap.size w w6 ∧ w6.ownsRow w.heap.size 3 1 (.slice (some ⟨gA, 0, none⟩) (i + 1) cA) (i + 1) ((z :: zs).map (Value.int .i64)) := by
 obtain ⟨i0, hi0, hz0, hz1, hz2⟩ := info_of Tryz.infoI3
 have hnew := heap_alloc_new w (Obj.cells #[.int .i64 z] 3)
 have hb := (Below.refl w.heap.size w).alloc (Nat.le_refl _) (Obj.cells #[.int .i64 z] 3)
 have hown : (w.alloc (Obj.cells #[.int .i64 z] 3)).ownsRow w.heap.size 3 1 (.slice (some ⟨w.heap.size, 0, none⟩) 1 1) 1 [.int .i64 z] := ⟨rfl, .inr ⟨w.heap.size, 1, _, rfl, Nat.le_refl _, hnew, Nat.le_refl _, by unfold maxLen; omega, rfl, rfl⟩⟩
 have hl : (zs.map (Value.int .i64)).length = i := by have := hrow.1; omega
 rcases Nat.eq_zero_or_pos i with h0 | h0
 · subst h0
   have hzs : zs = [] := List.eq_nil_of_length_eq_zero (by simpa using hl)
   subst hzs
   refine ⟨w.heap.size, 1, _, ?_, hb, hown⟩
   have hs : Src Tryz.prog i0.size 23 (.slice la 0 lc) 0 [] (w.alloc (Obj.cells #[.int .i64 z] 3)) := by
    cases la with
    | none => exact Src.ofNil _ Tryz.underlying23 lc
    | some a => exact Src.ofSlice _ Tryz.underlying23 a 0 lc [] (by simp) (fun j u h => by simp at h) (fun u h => by cases h)
   have := run_append_room_src (P := Tryz.prog) (w.alloc (Obj.cells #[.int .i64 z] 3)) 23 23 ty 3 i0 Tryz.underlying23 hi0 w.heap.size 0 1 1 (.slice la 0 lc) 0 [] hs (by omega) (by simp) (by simp)
   simpa [World.setCells] using this
 · obtain ⟨gl, cl, e1, e2⟩ : ∃ gl cl, la = some ⟨gl, 0, none⟩ ∧ lc = cl := by
    rcases hrow.2 with ⟨h1, h2⟩ | ⟨g, cap, cur, hv, _⟩
    · omega
    · cases hv; exact ⟨g, _, rfl, rfl⟩
   subst e1 e2
   have hlt := hrow.lt gl rfl
   obtain ⟨g, cap, w', hr, h2, h3, h4, h5⟩ := run_append_lies (P := Tryz.prog) (w.alloc (Obj.cells #[.int .i64 z] 3)) 23 ty w.heap.size 3 i0 _ 1 8 Tryz.underlying23 hi0 hz0 hz1 hz2 rfl (by omega) (.slice (some ⟨w.heap.size, 0, none⟩) 1 1) 1 [.int .i64 z] hown ⟨gl, 0, none⟩ i lc (zs.map (Value.int .i64)) (by omega) (fun j u hj => by
    have hj2 : j < i := by have := (List.getElem?_eq_some_iff.1 hj).1; omega
    rw [Xr.add_at]
    rw [hb.cell (p := ⟨gl, j, none⟩) hlt.2, hrow.cellAt j (by omega)]
    exact hj) (fun u hu => by obtain ⟨_, _, rfl⟩ := List.mem_map.1 hu; rfl) h0 (by unfold maxLen; omega) (by omega) (by simp) _ rfl
   refine ⟨g, cap, w', by rw [Nat.add_comm i 1]; exact hr, Below.grown hb h3 (by simp) (fun q hq => by cases hq; exact Nat.le_refl _), ?_⟩
   rw [Nat.add_comm i 1]
   exact h2
theorem Rm.wp_run {P : Program} {w : World} {ops : Array Oper} {rest : List Oper} {o : Oper} {a : Act} {Q : Exit → Act → World → Prop} (hgd : o.guard = none) (s x : Operand) (t : TypeId)
  (ho : o.op = .call { callee := .builtin .append, args := #[s, x], argTypes := #[t, t] }) (v u : Value) (hs : a.eval s = v) (hx : a.eval x = u) {i : Nat} {K : Nat → Nat → World → Prop} (hr : ∀ ty, ∃ gA cA w6, (Builtin.append_ #[t, t] ty #[v, u]).run P w = .ok (.slice (some ⟨gA, 0, none⟩) (i + 1) cA) w6 ∧ K gA cA w6)
  (h : ∀ gA cA w6, K gA cA w6 → wpList P ops Q rest (a.put o.dst (.slice (some ⟨gA, 0, none⟩) (i + 1) cA)) w6) : wpList P ops Q (o :: rest) a w := by
 obtain ⟨gA, cA, w6, h1, h2⟩ := hr o.type
 refine wpList_plain hgd fun _ hK => ?_
 unfold Oper.wp execOp
 simp only [ho, resolve, invoke, builtin, Sem.run_bind, Sem.run_pure, Result.andThen_ok, List.map_toArray, List.map_cons, List.map_nil, hs, hx, h1]
 exact hK _ _ (h gA cA w6 h2)
section
variable {T : Array Value} {w : World} {Q : Exit → Act → World → Prop} {bm g c : Nat}
theorem rc_r0 {xk xa xb : Int} (hT : T.size = 131) (s1 : T[1]? = some (.agg #[.int .i64 xk, .int .i64 xa, .int .i64 xb]))
  (hQ : ∀ T', (Fq.Kp 3 T T' ∧ T'[3]? = some (.pointer (some ⟨w.heap.size, 0, none⟩))) → Q .normal ⟨T', []⟩ (w.alloc (Obj.cells #[.int .i64 xk, .int .i64 xa, .int .i64 xb] 54))) : (Fq.reg Tryz.f49 0).wp Tryz.prog Q ⟨T, []⟩ w := by
 have a1 := fun h => Fq.el s1 h
 have d1 := Fq.gd s1
 have hu : undef = Value.tuple #[] := rfl
 have HQ := hide hQ
 clear hQ
 conv => arg 2; whnf
 go_wp2_with fail
 exact (unhide HQ) _ ⟨(by (repeat (with_reducible refine Fq.Kp.set ?_ (by decide) _)); with_reducible exact Fq.Kp.refl _ _), Fq.set_at _ (by simp [hT]) _⟩
theorem rc_r1 (hT : T.size = 131)
  (hQ : ∀ T', (Fq.Kp 4 T T' ∧ T'[4]? = some (.slice none 0 0)) → Q .normal ⟨T', []⟩ (w)) : (Fq.reg Tryz.f49 1).wp Tryz.prog Q ⟨T, []⟩ w := by
 have hu : undef = Value.tuple #[] := rfl
 have HQ := hide hQ
 clear hQ
 conv => arg 2; whnf
 go_wp2_with fail
 exact (unhide HQ) _ ⟨(by (repeat (with_reducible refine Fq.Kp.set ?_ (by decide) _)); with_reducible exact Fq.Kp.refl _ _), Fq.set_at _ (by simp [hT]) _⟩
theorem rc_r2 (hT : T.size = 131)
  (hQ : ∀ T', (Fq.Kp 5 T T' ∧ T'[5]? = some (.int .i64 0)) → Q .normal ⟨T', []⟩ (w)) : (Fq.reg Tryz.f49 2).wp Tryz.prog Q ⟨T, []⟩ w := by
 have hu : undef = Value.tuple #[] := rfl
 have HQ := hide hQ
 clear hQ
 conv => arg 2; whnf
 go_wp2_with fail
 exact (unhide HQ) _ ⟨(by (repeat (with_reducible refine Fq.Kp.set ?_ (by decide) _)); with_reducible exact Fq.Kp.refl _ _), Fq.set_at _ (by simp [hT]) _⟩
theorem rc_r3 {i nb b3 : Nat} {VB : Bool} (hT : T.size = 131) (s3 : T[3]? = some (.pointer (some ⟨b3, 0, none⟩))) (s5 : T[5]? = some (.int .i64 (i : Nat))) (x2 : w.cell? ⟨b3, 2, none⟩ = some (.int .i64 (nb : Nat))) (hVB : VB = decide ((i : Int) < (nb : Nat)))
  (hQ : ∀ T', (Fq.Kp 11 T T' ∧ T'[14]? = some (.bool VB)) → Q .normal ⟨T', []⟩ (w)) : (Fq.reg Tryz.f49 3).wp Tryz.prog Q ⟨T, []⟩ w := by
 have a3 := fun h => Fq.el s3 h
 have d3 := Fq.gd s3
 have a5 := fun h => Fq.el s5 h
 have d5 := Fq.gd s5
 have hu : undef = Value.tuple #[] := rfl
 have HQ := hide hQ
 clear hQ
 conv => arg 2; whnf
 by_cases hR : (i : Int) < (nb : Nat)
 · have HV3 := hide (show VB = true by rw [hVB, decide_eq_true hR] <;> rfl)
   clear hVB
   go_wp2_with fail
   exact (unhide HQ) _ ⟨(by (repeat (with_reducible refine Fq.Kp.set ?_ (by decide) _)); with_reducible exact Fq.Kp.refl _ _), (Fq.set_at _ (by simp [hT]) _).trans (by rw [unhide HV3] <;> rfl)⟩
 · have HV3 := hide (show VB = false by rw [hVB, decide_eq_false hR] <;> rfl)
   skip
   clear hVB
   go_wp2_with fail
   exact (unhide HQ) _ ⟨(by (repeat (with_reducible refine Fq.Kp.set ?_ (by decide) _)); with_reducible exact Fq.Kp.refl _ _), (Fq.set_at _ (by simp [hT]) _).trans (by rw [unhide HV3] <;> rfl)⟩
theorem rc_r4 {i : Nat} (hT : T.size = 131) (s5 : T[5]? = some (.int .i64 (i : Nat))) (hi : i ≤ 35184372088832)
  (hQ : ∀ T', (Fq.Kp 5 T T' ∧ T'[5]? = some (.int .i64 ((i + 1 : Nat) : Int))) → Q .normal ⟨T', []⟩ (w)) : (Fq.reg Tryz.f49 4).wp Tryz.prog Q ⟨T, []⟩ w := by
 have a5 := fun h => Fq.el s5 h
 have d5 := Fq.gd s5
 have hu : undef = Value.tuple #[] := rfl
 have HQ := hide hQ
 clear hQ
 conv => arg 2; whnf
 go_wp2_with fail
 exact (unhide HQ) _ ⟨(by (repeat (with_reducible refine Fq.Kp.set ?_ (by decide) _)); with_reducible exact Fq.Kp.refl _ _), (Fq.set_at _ (by simp [hT]) _).trans (congrArg some (by go_num))⟩
theorem rc_r5 {z : Int} (hT : T.size = 131) (s0 : T[0]? = some (.pointer (some ⟨bm, 0, none⟩))) {R : World → Prop}  (hc : Calls Tryz.prog 46 #[.pointer (some ⟨bm, 0, none⟩)] w fun r w' => r = .returned (.int .i64 z) ∧ R w')
  (hQ : ∀ T' w', (Fq.Kp 6 T T' ∧ T'[6]? = some (.int .i64 z) ∧ R w') → Q .normal ⟨T', []⟩ w') : (Fq.reg Tryz.f49 5).wp Tryz.prog Q ⟨T, []⟩ w := by
 have a0 := fun h => Fq.el s0 h
 have d0 := Fq.gd s0
 have hu : undef = Value.tuple #[] := rfl
 have HQ := hide hQ
 clear hQ
 conv => arg 2; whnf
 have HC := hide hc
 clear hc
 go_wp2_with (with_reducible refine (Calls.mono (unhide HC) ?_); rintro r w2 ⟨rfl, hb2⟩; have HB := hide hb2; clear hb2)
 exact (unhide HQ) _ _ ⟨(by (repeat (with_reducible refine Fq.Kp.set ?_ (by decide) _)); with_reducible exact Fq.Kp.refl _ _), Fq.set_at _ (by simp [hT]) _, unhide HB⟩
theorem rc_r6 {la : Option Addr} {i lc : Nat} {z : Int} (hT : T.size = 131) (s4 : T[4]? = some (.slice la i lc)) (s5 : T[5]? = some (.int .i64 (i : Nat))) (s6 : T[6]? = some (.int .i64 z)) {B : Nat} (zs : List Int) (hrow : w.ownsRow B 3 1 (.slice la i lc) i (zs.map (Value.int .i64))) (hi : i ≤ 1000)
  (hQ : ∀ T' w', (Fq.Kp 4 T T' ∧ T'[5]? = some (.int .i64 (i : Nat)) ∧ ∃ gA cA, T'[4]? = some (.slice (some ⟨gA, 0, none⟩) (i + 1) cA) ∧ Below w.heap.size w w' ∧ w'.ownsRow w.heap.size 3 1 (.slice (some ⟨gA, 0, none⟩) (i + 1) cA) (i + 1) ((z :: zs).map (Value.int .i64))) → Q .normal ⟨T', []⟩ w') : (Fq.reg Tryz.f49 6).wp Tryz.prog Q ⟨T, []⟩ w := by
 have HQ := hide hQ
 clear hQ
 conv => arg 2; whnf
 refine Fq.norm (fun T' w' => Fq.Kp 4 T T' ∧ T'[5]? = some (.int .i64 (i : Nat)) ∧ ∃ gA cA, T'[4]? = some (.slice (some ⟨gA, 0, none⟩) (i + 1) cA) ∧ Below w.heap.size w w' ∧ w'.ownsRow w.heap.size 3 1 (.slice (some ⟨gA, 0, none⟩) (i + 1) cA) (i + 1) ((z :: zs).map (Value.int .i64))) (fun T' w' h => (unhide HQ) T' w' h) ?_
 obtain ⟨t, ht⟩ : ∃ t : Nat → Value, t = fun i => T.getD i (.tuple #[]) := ⟨_, rfl⟩
 have hTl : T = #[t 0, t 1, t 2, t 3, t 4, t 5, t 6, t 7, t 8, t 9, t 10, t 11, t 12, t 13, t 14, t 15, t 16, t 17, t 18, t 19, t 20, t 21, t 22, t 23, t 24, t 25, t 26, t 27, t 28, t 29, t 30, t 31, t 32, t 33, t 34, t 35, t 36, t 37, t 38, t 39, t 40, t 41, t 42, t 43, t 44, t 45, t 46, t 47, t 48, t 49, t 50, t 51, t 52, t 53, t 54, t 55, t 56, t 57, t 58, t 59, t 60, t 61, t 62, t 63, t 64, t 65, t 66, t 67, t 68, t 69, t 70, t 71, t 72, t 73, t 74, t 75, t 76, t 77, t 78, t 79, t 80, t 81, t 82, t 83, t 84, t 85, t 86, t 87, t 88, t 89, t 90, t 91, t 92, t 93, t 94, t 95, t 96, t 97, t 98, t 99, t 100, t 101, t 102, t 103, t 104, t 105, t 106, t 107, t 108, t 109, t 110, t 111, t 112, t 113, t 114, t 115, t 116, t 117, t 118, t 119, t 120, t 121, t 122, t 123, t 124, t 125, t 126, t 127, t 128, t 129, t 130] := by rw [ht]; exact Fq.ls_is hT
 rw [(congrFun ht 4).trans (Fq.gd s4), (congrFun ht 5).trans (Fq.gd s5), (congrFun ht 6).trans (Fq.gd s6)] at hTl
 clear ht hT s4 s5 s6
 refine Fq.fr hTl ?_
 have HTL := hide hTl
 clear hTl
 have HAP := hide (Rm.app_ints hrow hi z)
 clear hrow
 go_wp2_with (at_builtin; refine Rm.wp_run rfl _ _ _ rfl (.slice (some ⟨w.heap.size, 0, none⟩) 1 1) (.slice la i lc) (by rfl) (by rfl) (unhide HAP) ?_; intro gA cA w6 hpA; have HPA := hide hpA; clear hpA)
 refine ⟨rfl, ⟨by rw [unhide HTL]; rfl, fun k hk => by rw [unhide HTL]; rcases (show k = 0 ∨ k = 1 ∨ k = 2 ∨ k = 3 by omega) with rfl | rfl | rfl | rfl <;> rfl⟩, (by first | rfl | simp), gA, cA, (by first | rfl | simp), unhide HPA⟩
theorem rc_r7 {b3 b o n q sl sc : Nat} {sa : Option Addr} (hT : T.size = 131) (s0 : T[0]? = some (.pointer (some ⟨bm, 0, none⟩))) (s3 : T[3]? = some (.pointer (some ⟨b3, 0, none⟩))) (h2 : w.cell? ⟨bm, 2, none⟩ = some (.slice (some ⟨b, o, none⟩) n c)) (x1 : w.cell? ⟨b3, 1, none⟩ = some (.int .i64 (q : Nat))) (hq : q < n) (hn : n ≤ 35184372088832) (hs : w.cell? ⟨b, o + q, none⟩ = some (.slice sa sl sc))
  (hQ : ∀ T', (Fq.Kp 7 T T' ∧ T'[7]? = some (.slice sa sl sc)) → Q .normal ⟨T', []⟩ (w.drew)) : (Fq.reg Tryz.f49 7).wp Tryz.prog Q ⟨T, []⟩ w := by
 have HQ := hide hQ
 clear hQ
 conv => arg 2; whnf
 refine Fq.norm (fun T' w' => Fq.Kp 7 T T' ∧ T'[7]? = some (.slice sa sl sc) ∧ w' = (w.drew)) (fun T' w' h => by obtain ⟨h0, h1, rfl⟩ := h; exact (unhide HQ) T' ⟨h0, h1⟩) ?_
 obtain ⟨t, ht⟩ : ∃ t : Nat → Value, t = fun i => T.getD i (.tuple #[]) := ⟨_, rfl⟩
 have hTl : T = #[t 0, t 1, t 2, t 3, t 4, t 5, t 6, t 7, t 8, t 9, t 10, t 11, t 12, t 13, t 14, t 15, t 16, t 17, t 18, t 19, t 20, t 21, t 22, t 23, t 24, t 25, t 26, t 27, t 28, t 29, t 30, t 31, t 32, t 33, t 34, t 35, t 36, t 37, t 38, t 39, t 40, t 41, t 42, t 43, t 44, t 45, t 46, t 47, t 48, t 49, t 50, t 51, t 52, t 53, t 54, t 55, t 56, t 57, t 58, t 59, t 60, t 61, t 62, t 63, t 64, t 65, t 66, t 67, t 68, t 69, t 70, t 71, t 72, t 73, t 74, t 75, t 76, t 77, t 78, t 79, t 80, t 81, t 82, t 83, t 84, t 85, t 86, t 87, t 88, t 89, t 90, t 91, t 92, t 93, t 94, t 95, t 96, t 97, t 98, t 99, t 100, t 101, t 102, t 103, t 104, t 105, t 106, t 107, t 108, t 109, t 110, t 111, t 112, t 113, t 114, t 115, t 116, t 117, t 118, t 119, t 120, t 121, t 122, t 123, t 124, t 125, t 126, t 127, t 128, t 129, t 130] := by rw [ht]; exact Fq.ls_is hT
 rw [(congrFun ht 0).trans (Fq.gd s0), (congrFun ht 3).trans (Fq.gd s3)] at hTl
 clear ht hT s0 s3
 refine Fq.fr hTl ?_
 have HTL := hide hTl
 clear hTl
 have q0 : (0 : Int) ≤ (q : Int) := by omega
 have q1 : (q : Int) < (n : Int) := by omega
 go_region_law (fail)
 all_goals exact ⟨rfl, ⟨by rw [unhide HTL]; rfl, fun k hk => by rw [unhide HTL]; rcases (show k = 0 ∨ k = 1 ∨ k = 2 ∨ k = 3 ∨ k = 4 ∨ k = 5 ∨ k = 6 by omega) with rfl | rfl | rfl | rfl | rfl | rfl | rfl <;> rfl⟩, (by first | rfl | simp), rfl⟩
theorem rc_r8 {b3 nb sl sc : Nat} {sa : Option Addr} {lo VB : Bool} (hT : T.size = 131) (s0 : T[0]? = some (.pointer (some ⟨bm, 0, none⟩))) (s3 : T[3]? = some (.pointer (some ⟨b3, 0, none⟩))) (s7 : T[7]? = some (.slice sa sl sc)) (h10 : w.cell? ⟨bm, 10, none⟩ = some (.bool lo)) (x2 : w.cell? ⟨b3, 2, none⟩ = some (.int .i64 (nb : Nat))) (hsl : sl ≤ 35184372088832) (hVB : VB = (lo || decide (sl < nb)))
  (hQ : ∀ T', (Fq.Kp 11 T T' ∧ T'[42]? = some (.bool VB)) → Q .normal ⟨T', []⟩ (w)) : (Fq.reg Tryz.f49 8).wp Tryz.prog Q ⟨T, []⟩ w := by
 have a0 := fun h => Fq.el s0 h
 have d0 := Fq.gd s0
 have a3 := fun h => Fq.el s3 h
 have d3 := Fq.gd s3
 have a7 := fun h => Fq.el s7 h
 have d7 := Fq.gd s7
 have hu : undef = Value.tuple #[] := rfl
 have HQ := hide hQ
 clear hQ
 conv => arg 2; whnf
 cases lo with
 | true =>
  have HV3 := hide (show VB = true by rw [hVB]; rfl)
  clear hVB
  go_wp2_with fail
  exact (unhide HQ) _ ⟨(by (repeat (with_reducible refine Fq.Kp.set ?_ (by decide) _)); with_reducible exact Fq.Kp.refl _ _), (Fq.set_at _ (by simp [hT]) _).trans (by rw [unhide HV3] <;> rfl)⟩
 | false =>
  by_cases hR : (sl : Int) < (nb : Nat)
  · have HV3 := hide (show VB = true by rw [hVB, decide_eq_true (by omega)]; rfl)
    clear hVB
    go_wp2_with fail
    exact (unhide HQ) _ ⟨(by (repeat (with_reducible refine Fq.Kp.set ?_ (by decide) _)); with_reducible exact Fq.Kp.refl _ _), (Fq.set_at _ (by simp [hT]) _).trans (by rw [unhide HV3] <;> rfl)⟩
  · have HV3 := hide (show VB = false by rw [hVB, decide_eq_false (by omega)]; rfl)
    clear hVB
    go_wp2_with fail
    exact (unhide HQ) _ ⟨(by (repeat (with_reducible refine Fq.Kp.set ?_ (by decide) _)); with_reducible exact Fq.Kp.refl _ _), (Fq.set_at _ (by simp [hT]) _).trans (by rw [unhide HV3] <;> rfl)⟩
theorem rc_r9 {lo : Bool} (hT : T.size = 131) (s0 : T[0]? = some (.pointer (some ⟨bm, 0, none⟩))) (h10 : w.cell? ⟨bm, 10, none⟩ = some (.bool lo)) (hf : w.frozen? ⟨bm, 10, none⟩ = false)
  (hQ : ∀ T', (Fq.Kp 11 T T') → Q .normal ⟨T', []⟩ (w.setCell ⟨bm, 10, none⟩ (.bool true))) : (Fq.reg Tryz.f49 9).wp Tryz.prog Q ⟨T, []⟩ w := by
 have a0 := fun h => Fq.el s0 h
 have d0 := Fq.gd s0
 have hu : undef = Value.tuple #[] := rfl
 have HQ := hide hQ
 clear hQ
 conv => arg 2; whnf
 go_wp2_with fail
 exact (unhide HQ) _ (by (repeat (with_reducible refine Fq.Kp.set ?_ (by decide) _)); with_reducible exact Fq.Kp.refl _ _)
theorem rc_r10 (hT : T.size = 131)
  (hQ : ∀ T', (Fq.Kp 8 T T' ∧ T'[8]? = some (.int .i64 0)) → Q .normal ⟨T', []⟩ (w)) : (Fq.reg Tryz.f49 10).wp Tryz.prog Q ⟨T, []⟩ w := by
 have hu : undef = Value.tuple #[] := rfl
 have HQ := hide hQ
 clear hQ
 conv => arg 2; whnf
 go_wp2_with fail
 exact (unhide HQ) _ ⟨(by (repeat (with_reducible refine Fq.Kp.set ?_ (by decide) _)); with_reducible exact Fq.Kp.refl _ _), Fq.set_at _ (by simp [hT]) _⟩
theorem rc_r11 {i nb b3 : Nat} {VB : Bool} (hT : T.size = 131) (s3 : T[3]? = some (.pointer (some ⟨b3, 0, none⟩))) (s8 : T[8]? = some (.int .i64 (i : Nat))) (x2 : w.cell? ⟨b3, 2, none⟩ = some (.int .i64 (nb : Nat))) (hVB : VB = decide ((i : Int) < (nb : Nat)))
  (hQ : ∀ T', (Fq.Kp 11 T T' ∧ T'[49]? = some (.bool VB)) → Q .normal ⟨T', []⟩ (w)) : (Fq.reg Tryz.f49 11).wp Tryz.prog Q ⟨T, []⟩ w := by
 have a3 := fun h => Fq.el s3 h
 have d3 := Fq.gd s3
 have a8 := fun h => Fq.el s8 h
 have d8 := Fq.gd s8
 have hu : undef = Value.tuple #[] := rfl
 have HQ := hide hQ
 clear hQ
 conv => arg 2; whnf
 by_cases hR : (i : Int) < (nb : Nat)
 · have HV3 := hide (show VB = true by rw [hVB, decide_eq_true hR] <;> rfl)
   clear hVB
   go_wp2_with fail
   exact (unhide HQ) _ ⟨(by (repeat (with_reducible refine Fq.Kp.set ?_ (by decide) _)); with_reducible exact Fq.Kp.refl _ _), (Fq.set_at _ (by simp [hT]) _).trans (by rw [unhide HV3] <;> rfl)⟩
 · have HV3 := hide (show VB = false by rw [hVB, decide_eq_false hR] <;> rfl)
   skip
   clear hVB
   go_wp2_with fail
   exact (unhide HQ) _ ⟨(by (repeat (with_reducible refine Fq.Kp.set ?_ (by decide) _)); with_reducible exact Fq.Kp.refl _ _), (Fq.set_at _ (by simp [hT]) _).trans (by rw [unhide HV3] <;> rfl)⟩
theorem rc_r12 {i : Nat} (hT : T.size = 131) (s8 : T[8]? = some (.int .i64 (i : Nat))) (hi : i ≤ 35184372088832)
  (hQ : ∀ T', (Fq.Kp 8 T T' ∧ T'[8]? = some (.int .i64 ((i + 1 : Nat) : Int))) → Q .normal ⟨T', []⟩ (w)) : (Fq.reg Tryz.f49 12).wp Tryz.prog Q ⟨T, []⟩ w := by
 have a8 := fun h => Fq.el s8 h
 have d8 := Fq.gd s8
 have hu : undef = Value.tuple #[] := rfl
 have HQ := hide hQ
 clear hQ
 conv => arg 2; whnf
 go_wp2_with fail
 exact (unhide HQ) _ ⟨(by (repeat (with_reducible refine Fq.Kp.set ?_ (by decide) _)); with_reducible exact Fq.Kp.refl _ _), (Fq.set_at _ (by simp [hT]) _).trans (congrArg some (by go_num))⟩
theorem rc_r13 {b o i sl sc : Nat} {z : Int} {VB : Bool} (hT : T.size = 131) (s7 : T[7]? = some (.slice (some ⟨b, o, none⟩) sl sc)) (s8 : T[8]? = some (.int .i64 (i : Nat))) (hi : i < sl) (hsl : sl ≤ 35184372088832) (hz : w.cell? ⟨b, o + i, none⟩ = some (.int .i64 z)) (hVB : VB = decide (0 < z))
  (hQ : ∀ T', (Fq.Kp 11 T T' ∧ T'[56]? = some (.bool VB)) → Q .normal ⟨T', []⟩ (w)) : (Fq.reg Tryz.f49 13).wp Tryz.prog Q ⟨T, []⟩ w := by
 have a7 := fun h => Fq.el s7 h
 have d7 := Fq.gd s7
 have a8 := fun h => Fq.el s8 h
 have d8 := Fq.gd s8
 have hu : undef = Value.tuple #[] := rfl
 have HQ := hide hQ
 clear hQ
 conv => arg 2; whnf
 have i0 : (0 : Int) ≤ (i : Int) := by omega
 have i1 : (i : Int) < (sl : Int) := by omega
 by_cases hR : 0 < z
 · have HV3 := hide (show VB = true by rw [hVB, decide_eq_true hR] <;> rfl)
   clear hVB
   go_wp2_with fail
   exact (unhide HQ) _ ⟨(by (repeat (with_reducible refine Fq.Kp.set ?_ (by decide) _)); with_reducible exact Fq.Kp.refl _ _), (Fq.set_at _ (by simp [hT]) _).trans (by rw [unhide HV3] <;> rfl)⟩
 · have HV3 := hide (show VB = false by rw [hVB, decide_eq_false hR] <;> rfl)
   clear hVB
   go_wp2_with fail
   exact (unhide HQ) _ ⟨(by (repeat (with_reducible refine Fq.Kp.set ?_ (by decide) _)); with_reducible exact Fq.Kp.refl _ _), (Fq.set_at _ (by simp [hT]) _).trans (by rw [unhide HV3] <;> rfl)⟩
theorem rc_r14 {lo : Bool} (hT : T.size = 131) (s0 : T[0]? = some (.pointer (some ⟨bm, 0, none⟩))) (h10 : w.cell? ⟨bm, 10, none⟩ = some (.bool lo)) (hf : w.frozen? ⟨bm, 10, none⟩ = false)
  (hQ : ∀ T', (Fq.Kp 11 T T') → Q .normal ⟨T', []⟩ (w.setCell ⟨bm, 10, none⟩ (.bool true))) : (Fq.reg Tryz.f49 14).wp Tryz.prog Q ⟨T, []⟩ w := by
 have a0 := fun h => Fq.el s0 h
 have d0 := Fq.gd s0
 have hu : undef = Value.tuple #[] := rfl
 have HQ := hide hQ
 clear hQ
 conv => arg 2; whnf
 go_wp2_with fail
 exact (unhide HQ) _ (by (repeat (with_reducible refine Fq.Kp.set ?_ (by decide) _)); with_reducible exact Fq.Kp.refl _ _)
theorem rc_r15 {k6 : Nat} {at_ : Int} (hT : T.size = 131) (s0 : T[0]? = some (.pointer (some ⟨bm, 0, none⟩))) (hc : Calls Tryz.prog 41 #[.pointer (some ⟨bm, 0, none⟩)] w fun r w' => r = .returned (.pointer (some ⟨g, k6, none⟩)) ∧ Below w.heap.size w w') (ha : ∀ V, Below w.heap.size w V → V.cell? ⟨g, k6 + 3, none⟩ = some (.int .i64 at_))
  (hQ : ∀ T' w', (Fq.Kp 9 T T' ∧ T'[9]? = some (.int .i64 at_) ∧ Below w.heap.size w w') → Q .normal ⟨T', []⟩ w') : (Fq.reg Tryz.f49 15).wp Tryz.prog Q ⟨T, []⟩ w := by
 have a0 := fun h => Fq.el s0 h
 have d0 := Fq.gd s0
 have hu : undef = Value.tuple #[] := rfl
 have HQ := hide hQ
 clear hQ
 conv => arg 2; whnf
 have HC := hide hc
 have HA := hide ha
 clear hc ha
 go_wp2_with (with_reducible refine (Calls.mono (unhide HC) ?_); rintro r w2 ⟨rfl, hb2⟩; have HB := hide hb2; have z2 := (unhide HA) _ hb2; clear hb2)
 exact (unhide HQ) _ _ ⟨(by (repeat (with_reducible refine Fq.Kp.set ?_ (by decide) _)); with_reducible exact Fq.Kp.refl _ _), Fq.set_at _ (by simp [hT]) _, unhide HB⟩
theorem rc_r16 {n : Nat} {VB : Bool} (hT : T.size = 131) (s0 : T[0]? = some (.pointer (some ⟨bm, 0, none⟩))) (h7 : w.cell? ⟨bm, 7, none⟩ = some (.slice (some ⟨g, 0, none⟩) n c)) (hn : n ≤ 1000) (hVB : VB = decide (n = 6))
  (hQ : ∀ T', (Fq.Kp 11 T T' ∧ T'[70]? = some (.bool VB)) → Q .normal ⟨T', []⟩ (w)) : (Fq.reg Tryz.f49 16).wp Tryz.prog Q ⟨T, []⟩ w := by
 have a0 := fun h => Fq.el s0 h
 have d0 := Fq.gd s0
 have hu : undef = Value.tuple #[] := rfl
 have HQ := hide hQ
 clear hQ
 conv => arg 2; whnf
 by_cases hR : n = 6
 · have HV3 := hide (show VB = true by rw [hVB, decide_eq_true hR] <;> rfl)
   clear hVB
   go_wp2_with fail
   exact (unhide HQ) _ ⟨(by (repeat (with_reducible refine Fq.Kp.set ?_ (by decide) _)); with_reducible exact Fq.Kp.refl _ _), (Fq.set_at _ (by simp [hT]) _).trans (by rw [unhide HV3] <;> rfl)⟩
 · have HV3 := hide (show VB = false by rw [hVB, decide_eq_false hR] <;> rfl)
   have b0 : (((n : Nat) : Int) == 6) = false := by simp; omega
   clear hVB
   go_wp2_with fail
   exact (unhide HQ) _ ⟨(by (repeat (with_reducible refine Fq.Kp.set ?_ (by decide) _)); with_reducible exact Fq.Kp.refl _ _), (Fq.set_at _ (by simp [hT]) _).trans (by rw [unhide HV3] <;> rfl)⟩
theorem rc_r17 {at_ : Int} (hT : T.size = 131) (s0 : T[0]? = some (.pointer (some ⟨bm, 0, none⟩))) (s9 : T[9]? = some (.int .i64 at_)) {R : World → Prop}  (hc : Calls Tryz.prog 42 #[.pointer (some ⟨bm, 0, none⟩), .int .i64 at_, .int .i64 4] w fun r w' => r = .returned (.tuple #[]) ∧ R w')
  (hQ : ∀ T' w', (Fq.Kp 11 T T' ∧ R w') → Q .normal ⟨T', []⟩ w') : (Fq.reg Tryz.f49 17).wp Tryz.prog Q ⟨T, []⟩ w := by
 have a0 := fun h => Fq.el s0 h
 have d0 := Fq.gd s0
 have a9 := fun h => Fq.el s9 h
 have d9 := Fq.gd s9
 have hu : undef = Value.tuple #[] := rfl
 have HQ := hide hQ
 clear hQ
 conv => arg 2; whnf
 have HC := hide hc
 clear hc
 go_wp2_with (with_reducible refine (Calls.mono (unhide HC) ?_); rintro r w2 ⟨rfl, hb2⟩; have HB := hide hb2; clear hb2)
 exact (unhide HQ) _ _ ⟨(by (repeat (with_reducible refine Fq.Kp.set ?_ (by decide) _)); with_reducible exact Fq.Kp.refl _ _), unhide HB⟩
theorem rc_r18 {q b3 : Nat} {at_ mk : Int} (hT : T.size = 131) (s0 : T[0]? = some (.pointer (some ⟨bm, 0, none⟩))) (s3 : T[3]? = some (.pointer (some ⟨b3, 0, none⟩))) (s9 : T[9]? = some (.int .i64 at_)) {R : World → Prop} (x1 : w.cell? ⟨b3, 1, none⟩ = some (.int .i64 (q : Nat))) (h6 : w.cell? ⟨bm, 6, none⟩ = some (.int .i64 mk)) (hc : Calls Tryz.prog 43 #[.pointer (some ⟨bm, 0, none⟩), .int .i64 5, .int .i64 at_, .int .i64 (q : Nat), .int .i64 0, .int .i64 mk] w.drew fun r w' => r = .returned (.tuple #[]) ∧ R w')
  (hQ : ∀ T' w', (Fq.Kp 10 T T' ∧ R w') → Q .normal ⟨T', []⟩ w') : (Fq.reg Tryz.f49 18).wp Tryz.prog Q ⟨T, []⟩ w := by
 have HQ := hide hQ
 clear hQ
 conv => arg 2; whnf
 refine Fq.norm (fun T' w' => Fq.Kp 10 T T' ∧ R w') (fun T' w' h => (unhide HQ) T' w' h) ?_
 obtain ⟨t, ht⟩ : ∃ t : Nat → Value, t = fun i => T.getD i (.tuple #[]) := ⟨_, rfl⟩
 have hTl : T = #[t 0, t 1, t 2, t 3, t 4, t 5, t 6, t 7, t 8, t 9, t 10, t 11, t 12, t 13, t 14, t 15, t 16, t 17, t 18, t 19, t 20, t 21, t 22, t 23, t 24, t 25, t 26, t 27, t 28, t 29, t 30, t 31, t 32, t 33, t 34, t 35, t 36, t 37, t 38, t 39, t 40, t 41, t 42, t 43, t 44, t 45, t 46, t 47, t 48, t 49, t 50, t 51, t 52, t 53, t 54, t 55, t 56, t 57, t 58, t 59, t 60, t 61, t 62, t 63, t 64, t 65, t 66, t 67, t 68, t 69, t 70, t 71, t 72, t 73, t 74, t 75, t 76, t 77, t 78, t 79, t 80, t 81, t 82, t 83, t 84, t 85, t 86, t 87, t 88, t 89, t 90, t 91, t 92, t 93, t 94, t 95, t 96, t 97, t 98, t 99, t 100, t 101, t 102, t 103, t 104, t 105, t 106, t 107, t 108, t 109, t 110, t 111, t 112, t 113, t 114, t 115, t 116, t 117, t 118, t 119, t 120, t 121, t 122, t 123, t 124, t 125, t 126, t 127, t 128, t 129, t 130] := by rw [ht]; exact Fq.ls_is hT
 rw [(congrFun ht 0).trans (Fq.gd s0), (congrFun ht 3).trans (Fq.gd s3), (congrFun ht 9).trans (Fq.gd s9)] at hTl
 clear ht hT s0 s3 s9
 refine Fq.fr hTl ?_
 have HTL := hide hTl
 clear hTl
 have HC := hide hc
 clear hc
 go_region_law (go_simp; go_at_call 43; refine (unhide HC).mono ?_; rintro r6 w6 ⟨rfl, hb6⟩; have HB := hide hb6; clear hb6)
 all_goals exact ⟨rfl, ⟨by rw [unhide HTL]; rfl, fun k hk => by rw [unhide HTL]; rcases (show k = 0 ∨ k = 1 ∨ k = 2 ∨ k = 3 ∨ k = 4 ∨ k = 5 ∨ k = 6 ∨ k = 7 ∨ k = 8 ∨ k = 9 by omega) with rfl | rfl | rfl | rfl | rfl | rfl | rfl | rfl | rfl | rfl <;> rfl⟩, unhide HB⟩
theorem rc_r20 {k : Nat} (hT : T.size = 131) (s0 : T[0]? = some (.pointer (some ⟨bm, 0, none⟩))) (h6 : w.cell? ⟨bm, 6, none⟩ = some (.int .i64 (k : Nat))) (hf : w.frozen? ⟨bm, 6, none⟩ = false) (hk : k ≤ 1000000)
  (hQ : ∀ T', (Fq.Kp 11 T T') → Q .normal ⟨T', []⟩ (w.setCell ⟨bm, 6, none⟩ (.int .i64 ((k + 1 : Nat) : Int)))) : (Fq.reg Tryz.f49 20).wp Tryz.prog Q ⟨T, []⟩ w := by
 have a0 := fun h => Fq.el s0 h
 have d0 := Fq.gd s0
 have hu : undef = Value.tuple #[] := rfl
 have HQ := hide hQ
 clear hQ
 conv => arg 2; whnf
 have hw0 : IntKind.i64.wrap ((k : Int) + 1) = (k : Int) + 1 := by rw [IntKind.wrap_i64]; omega
 have hc : ((k + 1 : Nat) : Int) = (k : Int) + 1 := by omega
 rw [hc] at HQ
 go_wp2_with fail
 exact (unhide HQ) _ (by (repeat (with_reducible refine Fq.Kp.set ?_ (by decide) _)); with_reducible exact Fq.Kp.refl _ _)
theorem rc_r21 (hT : T.size = 131)
  (hQ : ∀ T', (Fq.Kp 10 T T' ∧ T'[10]? = some (.int .i64 0)) → Q .normal ⟨T', []⟩ (w)) : (Fq.reg Tryz.f49 21).wp Tryz.prog Q ⟨T, []⟩ w := by
 have hu : undef = Value.tuple #[] := rfl
 have HQ := hide hQ
 clear hQ
 conv => arg 2; whnf
 go_wp2_with fail
 exact (unhide HQ) _ ⟨(by (repeat (with_reducible refine Fq.Kp.set ?_ (by decide) _)); with_reducible exact Fq.Kp.refl _ _), Fq.set_at _ (by simp [hT]) _⟩
theorem rc_r22 {i nb b3 : Nat} {VB : Bool} (hT : T.size = 131) (s3 : T[3]? = some (.pointer (some ⟨b3, 0, none⟩))) (s10 : T[10]? = some (.int .i64 (i : Nat))) (x2 : w.cell? ⟨b3, 2, none⟩ = some (.int .i64 (nb : Nat))) (hVB : VB = decide ((i : Int) < (nb : Nat)))
  (hQ : ∀ T', (Fq.Kp 11 T T' ∧ T'[120]? = some (.bool VB)) → Q .normal ⟨T', []⟩ (w)) : (Fq.reg Tryz.f49 22).wp Tryz.prog Q ⟨T, []⟩ w := by
 have a3 := fun h => Fq.el s3 h
 have d3 := Fq.gd s3
 have a10 := fun h => Fq.el s10 h
 have d10 := Fq.gd s10
 have hu : undef = Value.tuple #[] := rfl
 have HQ := hide hQ
 clear hQ
 conv => arg 2; whnf
 by_cases hR : (i : Int) < (nb : Nat)
 · have HV3 := hide (show VB = true by rw [hVB, decide_eq_true hR] <;> rfl)
   clear hVB
   go_wp2_with fail
   exact (unhide HQ) _ ⟨(by (repeat (with_reducible refine Fq.Kp.set ?_ (by decide) _)); with_reducible exact Fq.Kp.refl _ _), (Fq.set_at _ (by simp [hT]) _).trans (by rw [unhide HV3] <;> rfl)⟩
 · have HV3 := hide (show VB = false by rw [hVB, decide_eq_false hR] <;> rfl)
   skip
   clear hVB
   go_wp2_with fail
   exact (unhide HQ) _ ⟨(by (repeat (with_reducible refine Fq.Kp.set ?_ (by decide) _)); with_reducible exact Fq.Kp.refl _ _), (Fq.set_at _ (by simp [hT]) _).trans (by rw [unhide HV3] <;> rfl)⟩
theorem rc_r23 {i : Nat} (hT : T.size = 131) (s10 : T[10]? = some (.int .i64 (i : Nat))) (hi : i ≤ 35184372088832)
  (hQ : ∀ T', (Fq.Kp 10 T T' ∧ T'[10]? = some (.int .i64 ((i + 1 : Nat) : Int))) → Q .normal ⟨T', []⟩ (w)) : (Fq.reg Tryz.f49 23).wp Tryz.prog Q ⟨T, []⟩ w := by
 have a10 := fun h => Fq.el s10 h
 have d10 := Fq.gd s10
 have hu : undef = Value.tuple #[] := rfl
 have HQ := hide hQ
 clear hQ
 conv => arg 2; whnf
 go_wp2_with fail
 exact (unhide HQ) _ ⟨(by (repeat (with_reducible refine Fq.Kp.set ?_ (by decide) _)); with_reducible exact Fq.Kp.refl _ _), (Fq.set_at _ (by simp [hT]) _).trans (congrArg some (by go_num))⟩
theorem rc_r24 {gl i nl rc : Nat} {at_ z : Int} (hT : T.size = 131) (s0 : T[0]? = some (.pointer (some ⟨bm, 0, none⟩))) (s4 : T[4]? = some (.slice (some ⟨gl, 0, none⟩) nl rc)) (s9 : T[9]? = some (.int .i64 at_)) (s10 : T[10]? = some (.int .i64 (i : Nat))) {R : World → Prop} (hi : i < nl) (hnl : nl ≤ 35184372088832) (hz : w.cell? ⟨gl, i, none⟩ = some (.int .i64 z)) (hc : Calls Tryz.prog 48 #[.pointer (some ⟨bm, 0, none⟩), .int .i64 at_, .int .i64 (i : Nat), .int .i64 0, .int .i64 z] w fun r w' => r = .returned (.tuple #[]) ∧ R w')
  (hQ : ∀ T' w', (Fq.Kp 11 T T' ∧ R w') → Q .normal ⟨T', []⟩ w') : (Fq.reg Tryz.f49 24).wp Tryz.prog Q ⟨T, []⟩ w := by
 have a0 := fun h => Fq.el s0 h
 have d0 := Fq.gd s0
 have a4 := fun h => Fq.el s4 h
 have d4 := Fq.gd s4
 have a9 := fun h => Fq.el s9 h
 have d9 := Fq.gd s9
 have a10 := fun h => Fq.el s10 h
 have d10 := Fq.gd s10
 have hu : undef = Value.tuple #[] := rfl
 have HQ := hide hQ
 clear hQ
 conv => arg 2; whnf
 have HC := hide hc
 have i0 : (0 : Int) ≤ (i : Int) := by omega
 have i1 : (i : Int) < (nl : Int) := by omega
 clear hc
 go_wp2_with (with_reducible refine (Calls.mono (unhide HC) ?_); rintro r w2 ⟨rfl, hb2⟩; have HB := hide hb2; clear hb2)
 exact (unhide HQ) _ _ ⟨(by (repeat (with_reducible refine Fq.Kp.set ?_ (by decide) _)); with_reducible exact Fq.Kp.refl _ _), unhide HB⟩
end
end Go.Proofs.YtpfogjplnodacaaGreat
