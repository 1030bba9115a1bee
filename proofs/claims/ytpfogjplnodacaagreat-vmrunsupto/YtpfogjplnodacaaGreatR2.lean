/-
  RQ, RCb, RRa. By the verifier.
-/
import Derived.Test.YtpfogjplnodacaaGreatR1
import Derived.Deep.RegionHeld3
import Derived.Deep.RegionLaw
set_option maxRecDepth 100000
set_option maxHeartbeats 12800000
namespace Go.Proofs.YtpfogjplnodacaaGreat
open Go.RowKit
set_option linter.unusedVariables false
def Rq.dep (md : Region.Mode) (ops : Array Oper) : Nat → Nat → Nat → Bool
 | 0, _, _ => false
 | k + 1, j, i => match ops[j]? with
  | none => false
  | some o => o.after.any fun e => Region.binds md e && (e.on == i || Rq.dep md ops k e.on i)
section
variable {P : Program} {md : Region.Mode} {ops : Array Oper} {Q : Exit → Act → World → Prop} {late : Nat → Bool} {S : World → Prop}
def Rq.Cl (md : Region.Mode) (ops : Array Oper) (listed : Array Bool) : Prop := ∀ (j : Nat) (oj : Oper), ops[j]? = some oj → listed.getD j false = true → ∀ e ∈ oj.after, Region.binds md e = true → listed.getD e.on false = true
theorem Rq.Cl.dep {listed : Array Bool} (h : Rq.Cl md ops listed) : ∀ (k j i : Nat), listed.getD j false = true → Rq.dep md ops k j i = true → listed.getD i false = true
 | 0, j, i, _, hd => by cases hd
 | k + 1, j, i, hj, hd => by
  unfold Rq.dep at hd
  cases ho : ops[j]? with
  | none => rw [ho] at hd; cases hd
  | some o =>
   rw [ho] at hd
   obtain ⟨e, he, hb⟩ := Array.any_eq_true'.1 hd
   rw [Bool.and_eq_true, Bool.or_eq_true] at hb
   have h1 := h j o ho hj e he hb.1
   rcases hb.2 with h2 | h2
   · have h3 : e.on = i := by simpa using h2
     rw [← h3]; exact h1
   · exact h.dep k e.on i h1 h2
theorem Rq.Cl.ready {listed : Array Bool} (h : Rq.Cl md ops listed) {j i k : Nat} (hj : j ∈ Region.ready md ops listed) (hd : Rq.dep md ops k j i = true) : listed.getD i false = true := by
 obtain ⟨_, o, ho, hall⟩ := mem_ready.1 hj
 cases k with
 | zero => cases hd
 | succ k =>
  unfold Rq.dep at hd
  rw [ho] at hd
  obtain ⟨e, he, hb⟩ := Array.any_eq_true'.1 hd
  rw [Bool.and_eq_true, Bool.or_eq_true] at hb
  have h1 := hall e he hb.1
  rcases hb.2 with h2 | h2
  · have h3 : e.on = i := by simpa using h2
    rw [← h3]; exact h1
  · exact h.dep k e.on i h1 h2
theorem Rq.Cl.next {listed : Array Bool} (h : Rq.Cl md ops listed) {j : Nat} (hj : j ∈ Region.ready md ops listed) : Rq.Cl md ops (listed.setIfInBounds j true) := by
 intro k ok hk hl e he hb
 by_cases hkj : k = j
 · subst hkj
   obtain ⟨_, o, ho, hall⟩ := mem_ready.1 hj
   rw [ho] at hk
   cases hk
   exact getD_set_true (hall e he hb)
 · rw [getD_set_ne false (Ne.symm hkj)] at hl
   exact getD_set_true (h k ok hk hl e he hb)
theorem Rq.Cl.none (n : Nat) : Rq.Cl md ops (Array.replicate n false) := by
 intro j oj _ hl
 simp [Array.getD] at hl
def Rq.any (P : Program) (md : Region.Mode) (ops : Array Oper) (Q : Exit → Act → World → Prop) (late : Nat → Bool) (S : World → Prop) : Nat → Array Bool → Act → World → Prop
 | 0, listed, a, w => Region.ready md ops listed = [] ∧ Q .normal a w
 | fuel + 1, listed, a, w =>
  (Region.ready md ops listed = [] → Q .normal a w) ∧
  ∀ i ∈ Region.ready md ops listed, wpOp P ops Q i (fun a' w' => (late i = false → S w') ∧ Rq.any P md ops Q late S fuel (listed.setIfInBounds i true) a' w') a w
theorem Rq.any_is : ∀ (fuel : Nat) (listed : Array Bool) (a : Act) (w : World), Rq.any P md ops Q late S fuel listed a w → wpAny P md ops Q fuel listed a w
 | 0, _, _, _, h => h
 | fuel + 1, _, _, _, h => ⟨h.1, fun i hi => wpOp_mono (fun a' w' h' => Rq.any_is fuel _ a' w' h'.2) (h.2 i hi)⟩
theorem Rq.first {N i : Nat} {oi : Oper} {v : Value} (hi : ops[i]? = some oi) (hsel : ∀ (j : Nat) (o : Oper) cs b, ops[j]? = some o → o.op ≠ .select cs b)
  (hQ : ∀ c a w, Q (.panic c) (a.put oi.dst v) w → Q (.panic c) a w) (hlate : ∀ j, late j = true → Rq.dep md ops N j i = true) :
  ∀ (fuel : Nat) (listed : Array Bool) (a : Act) (w : World),
   (∀ j oj, ops[j]? = some oj → j ≠ i → listed.getD j true = false → (∀ e ∈ oj.after, Region.binds md e = true → e.on ≠ i) → oi.apart ops oj = true) →
   Rq.Cl md ops listed → i ∈ Region.ready md ops listed → YieldsIf P ops S oi v a → S w →
   Rq.any P md ops Q late S fuel (listed.setIfInBounds i true) (a.put oi.dst v) w → Rq.any P md ops Q late S (fuel + 1) listed a w := by
 intro fuel
 induction fuel with
 | zero =>
  intro listed a w _ _ hr hy hS H
  refine ⟨fun h => (by rw [h] at hr; cases hr), fun j hj => ?_⟩
  by_cases hji : j = i
  · subst hji; exact hy.wpOp hi hS ⟨fun _ => hS, H⟩
  · have := ready_mono hj hji
    rw [H.1] at this
    cases this
 | succ fuel ih =>
  intro listed a w hfree hcl hr hy hS H
  refine ⟨fun h => (by rw [h] at hr; cases hr), fun j hj => ?_⟩
  by_cases hji : j = i
  · subst hji; exact hy.wpOp hi hS ⟨fun _ => hS, H⟩
  · have h1 := H.2 j (ready_mono hj hji)
    have h0 := (mem_ready.1 hr).1
    have hiu : ¬ listed.getD i false = true := fun e => by
     rcases Nat.lt_or_ge i listed.size with h' | h'
     · simp [h'] at h0 e; rw [h0] at e; cases e
     · simp [Array.getElem?_eq_none h'] at e
    have hlj : late j = false := by
     cases hl : late j with
     | false => rfl
     | true => exact absurd (hcl.ready hj (hlate j hl)) hiu
    obtain ⟨hjun, oj, hoj, hall⟩ := mem_ready.1 hj
    have hnot : ∀ e ∈ oj.after, Region.binds md e = true → e.on ≠ i := fun e he hb heq => by
     have h1 := hall e he hb
     rw [heq] at h1
     exact hiu h1
    have h2 := wpOp_putIf hoj (hfree j oj hoj hji hjun hnot) (fun cs b => hsel i oi cs b hi) (fun cs b => hsel j oj cs b hoj) hQ hy h1
    have hfree' : ∀ k ok, ops[k]? = some ok → k ≠ i → (listed.setIfInBounds j true).getD k true = false →
      (∀ e ∈ ok.after, Region.binds md e = true → e.on ≠ i) → oi.apart ops ok = true := fun k ok hk hki hun hno => by
     refine hfree k ok hk hki ?_ hno
     by_cases hjk : j = k
     · subst hjk; exact hjun
     · rw [getD_set_ne true hjk] at hun; exact hun
    refine wpOp_mono (fun a' w' h3 => ⟨fun _ => h3.2.1 hlj, ih (listed.setIfInBounds j true) a' w' hfree' (hcl.next hj) (ready_mono hr (Ne.symm hji)) h3.1 (h3.2.1 hlj) ?_⟩) h2
    rw [Array.setIfInBounds_comm _ _ hji]
    exact h3.2.2
theorem Rq.take (i : Nat) {oi : Oper} {v : Value} {fuel : Nat} {listed : Array Bool} {a : Act} {w : World} (hi : ops[i]? = some oi)
  (hs : Region.noSelect ops = true) (hf : Region.free md ops listed i = true) (hr : (Region.ready md ops listed).contains i = true) (hlate : ∀ j, late j = true → Rq.dep md ops ops.size j i = true)
  (hQ : ∀ c a w, Q (.panic c) (a.put oi.dst v) w → Q (.panic c) a w) (hcl : Rq.Cl md ops listed) (hy : YieldsIf P ops S oi v a) (hS : S w)
  (h : Rq.Cl md ops (listed.setIfInBounds i true) → Rq.any P md ops Q late S fuel (listed.setIfInBounds i true) (a.put oi.dst v) w) : Rq.any P md ops Q late S (fuel + 1) listed a w :=
 Rq.first hi (Region.noSelect_spec hs) hQ hlate fuel listed a w (Region.free_spec hi hf) hcl (by simpa using hr) hy hS (h (hcl.next (by simpa using hr)))
theorem Rq.one (j : Nat) {o : Oper} {fuel : Nat} {listed : Array Bool} {a : Act} {w : World} (hr : Region.ready md ops listed = [j]) (ho : ops[j]? = some o) (hcl : Rq.Cl md ops listed)
  (h : ∀ K : Act → World → Prop, (∀ a' w', (late j = false → S w') → (Rq.Cl md ops (listed.setIfInBounds j true) → Rq.any P md ops Q late S fuel (listed.setIfInBounds j true) a' w') → K a' w') → if Region.wanted o (yielded ops a.tmps) = true then Oper.wp P o a w K Q else K (a.put o.dst undef) w) : Rq.any P md ops Q late S (fuel + 1) listed a w := by
 have hj : j ∈ Region.ready md ops listed := by rw [hr]; exact List.mem_singleton.2 rfl
 refine ⟨fun e => (by rw [hr] at e; cases e), fun i hi => ?_⟩
 rw [hr] at hi
 have hij : i = j := by simpa using hi
 subst hij
 have h1 := h _ (fun a' w' h1 h2 => (⟨h1, h2 (hcl.next hj)⟩ : (late i = false → S w') ∧ Rq.any P md ops Q late S fuel (listed.setIfInBounds i true) a' w'))
 unfold wpOp
 simp only [ho]
 split
 · rename_i hw
   rw [if_pos hw] at h1
   exact .inl h1
 · rename_i hw
   rw [if_neg hw] at h1
   exact h1
theorem Rq.done {listed : Array Bool} {a : Act} {w : World} (hr : Region.ready md ops listed = []) (h : Q .normal a w) : ∀ fuel, Rq.any P md ops Q late S fuel listed a w
 | 0 => ⟨hr, h⟩
 | _ + 1 => ⟨fun _ => h, by rw [hr]; simp⟩
theorem Rq.begin (late : Nat → Bool) (S : World → Prop) {id : Nat} {a : Act} {w : World} (hm : P.follows .mixedOrders = true) (hS : S w.drew)
  (h : S w.drew → Rq.Cl .any ops (Array.replicate ops.size false) → Rq.any P .any ops Q late S ops.size (Array.replicate ops.size false) a w.drew) : (Code.region id ops true).wp P Q a w :=
 wp_region_any hm (Rq.any_is _ _ _ _ (h hS (Rq.Cl.none _)))
end
def Rq.Nth (l : List Oper) (i : Nat) (o : Oper) : Prop := l[i]? = some o
theorem Rq.z {o : Oper} {l : List Oper} : Rq.Nth (o :: l) 0 o := rfl
theorem Rq.s {x o : Oper} {l : List Oper} {i : Nat} (h : Rq.Nth l i o) : Rq.Nth (x :: l) (i + 1) o := h
theorem Rq.Nth.is {l : List Oper} {i : Nat} {o : Oper} (h : Rq.Nth l i o) : l.toArray[i]? = some o := by rw [List.getElem?_toArray]; exact h
section
variable {P : Program} {md : Region.Mode} {l : List Oper} {Q : Exit → Act → World → Prop} {n : Nat} {S : World → Prop}
theorem Rq.tk (i : Nat) (v : Value) {oi : Oper} {fuel : Nat} {listed : Array Bool} {a : Act} {w : World} (hi : Rq.Nth l i oi)
  (hs : Region.noSelect l.toArray = true) (hf : Region.free md l.toArray listed i = true) (hr : (Region.ready md l.toArray listed).contains i = true) (hlate : Rq.dep md l.toArray l.toArray.size n i = true)
  (hQ : ∀ c a w, Q (.panic c) (a.put oi.dst v) w → Q (.panic c) a w) (hcl : Rq.Cl md l.toArray listed) (hS : S w) (hw : Region.wanted oi (yielded l.toArray a.tmps) = true) (hy : ∀ w, S w → (execOp a.eval oi).run P w = .ok (.value v) w)
  (h : Rq.Cl md l.toArray (listed.setIfInBounds i true) → Rq.any P md l.toArray Q (fun j => Nat.beq j n) S fuel (listed.setIfInBounds i true) (a.put oi.dst v) w) : Rq.any P md l.toArray Q (fun j => Nat.beq j n) S (fuel + 1) listed a w :=
 Rq.take i hi.is hs hf hr (fun j hj => by have e : j = n := Nat.eq_of_beq_eq_true hj; rw [e]; exact hlate) hQ hcl (.inl ⟨hw, hy⟩) hS h
theorem Rq.on (j : Nat) {o : Oper} {fuel : Nat} {listed : Array Bool} {a : Act} {w : World} (ho : Rq.Nth l j o) (hr : Region.ready md l.toArray listed = [j]) (hcl : Rq.Cl md l.toArray listed)
  (h : ∀ K : Act → World → Prop, (∀ a' w', (Nat.beq j n = false → S w') → (Rq.Cl md l.toArray (listed.setIfInBounds j true) → Rq.any P md l.toArray Q (fun j => Nat.beq j n) S fuel (listed.setIfInBounds j true) a' w') → K a' w') → if Region.wanted o (yielded l.toArray a.tmps) = true then Oper.wp P o a w K Q else K (a.put o.dst undef) w) : Rq.any P md l.toArray Q (fun j => Nat.beq j n) S (fuel + 1) listed a w :=
 Rq.one j hr ho.is hcl h
end
end Go.Proofs.YtpfogjplnodacaaGreat
namespace Go.Proofs.YtpfogjplnodacaaGreat
open Go.RowKit Go.Maps
set_option linter.unusedVariables false
theorem Tryz.infoRf : (Tryz.prog.info? 61).map (fun i => (i.zero, i.size, i.bytes)) = some (some (.agg #[.int .i64 0, .int .i64 0, .int .i64 0, .int .i64 0, .slice none 0 0, .slice none 0 0]), 6, 80) := by kernel_rfl
def Rm.Nf (w w' : World) (bm B : Nat) (ra : Option Addr) (n rc : Nat) (xs : List Value) (mk : Int) (q : Nat) (z : Int) (zl : Nat) (zs : List (List Int)) : Prop :=
 ∃ (gv : Option Nat) (vb : List Nat) (cz : Nat) (w5 w6 : World) (gA cA : Nat), w' = w6.setCell ⟨bm, 7, none⟩ (.slice (some ⟨gA, 0, none⟩) (n + 1) cA) ∧ Rm.Zf w5 w.heap.size gv vb cz zs ∧ Below w.heap.size w w5 ∧ w5.grownBy w6 (Value.slice ra n rc).ownBlock ∧ w6.ownsRow B 61 6 (.slice (some ⟨gA, 0, none⟩) (n + 1) cA) (n + 1) (xs ++ [.int .i64 mk, .int .i64 (q : Nat), .int .i64 z, .int .i64 (-1), .slice none 0 0, .slice (gv.map fun g => ⟨g, 0, none⟩) zl cz]) ∧ ((Value.slice ra n rc).ownBlock = some gA ∨ w5.heap.size ≤ gA)
theorem Rm.Nf.mk {w w5 w6 : World} {bm B : Nat} {ra : Option Addr} {n rc : Nat} {xs : List Value} {mk : Int} {q : Nat} {z : Int} {zl : Nat} {zs : List (List Int)} {gv : Option Nat} {vb : List Nat} {cz : Nat} {gA cA : Nat} {o : Obj} (hzf : Rm.Zf w5 w.heap.size gv vb cz zs) (hb : Below w.heap.size w w5) (hg : (w5.alloc o).grownBy w6 (Value.slice ra n rc).ownBlock) (ho : w6.ownsRow B 61 6 (.slice (some ⟨gA, 0, none⟩) (n + 1) cA) (n + 1) (xs ++ [.int .i64 mk, .int .i64 (q : Nat), .int .i64 z, .int .i64 (-1), .slice none 0 0, .slice (gv.map fun g => ⟨g, 0, none⟩) zl cz])) (hat : (Value.slice ra n rc).ownBlock = some gA ∨ gA = (w5.alloc o).heap.size) : Rm.Nf w (w6.setCell ⟨bm, 7, none⟩ (.slice (some ⟨gA, 0, none⟩) (n + 1) cA)) bm B ra n rc xs mk q z zl zs := by
 have h1 := (Below.refl w5.heap.size w5).alloc (Nat.le_refl _) o
 exact ⟨gv, vb, cz, w5, w6, gA, cA, rfl, hzf, hb, ⟨hg.os.trans h1.os, hg.tape.trans h1.tape, hg.output.trans h1.output, Nat.le_trans h1.size hg.size, fun b e1 e2 => (hg.block b (Nat.lt_of_lt_of_le e1 h1.size) e2).trans (h1.block b e1)⟩, ho, hat.imp id (fun e => by rw [e]; exact h1.size)⟩
theorem Rm.five {V V6 : World} {bm b3 b1 o1 q : Nat} {u1 u2 u3 u4 u5 : Value} (h : V.cell? ⟨bm, 7, none⟩ = some u1 ∧ V.cell? ⟨bm, 6, none⟩ = some u2 ∧ V.cell? ⟨b3, 1, none⟩ = some u3 ∧ V.cell? ⟨bm, 1, none⟩ = some u4 ∧ V.cell? ⟨b1, o1 + q, none⟩ = some u5) (h1 : V6.heap[bm]? = V.heap[bm]?) (h2 : V6.heap[b3]? = V.heap[b3]?) (h3 : V6.heap[b1]? = V.heap[b1]?) :
  V6.cell? ⟨bm, 7, none⟩ = some u1 ∧ V6.cell? ⟨bm, 6, none⟩ = some u2 ∧ V6.cell? ⟨b3, 1, none⟩ = some u3 ∧ V6.cell? ⟨bm, 1, none⟩ = some u4 ∧ V6.cell? ⟨b1, o1 + q, none⟩ = some u5 :=
 ⟨(Xr.cell_kept h1 7).trans h.1, (Xr.cell_kept h1 6).trans h.2.1, (Xr.cell_kept h2 1).trans h.2.2.1, (Xr.cell_kept h1 1).trans h.2.2.2.1, (Xr.cell_kept h3 _).trans h.2.2.2.2⟩
section
variable {T : Array Value} {w : World} {Q : Exit → Act → World → Prop} {bm g c : Nat}
theorem rc_r19 {b3 b1 o1 fl fc q n rc sl sc zl : Nat} {ra sa : Option Addr} {mk z : Int} (hT : T.size = 131) (s0 : T[0]? = some (.pointer (some ⟨bm, 0, none⟩))) (s3 : T[3]? = some (.pointer (some ⟨b3, 0, none⟩))) (s7 : T[7]? = some (.slice sa sl sc)) {B : Nat} {xs : List Value} {zs : List (List Int)} (hF : ∀ V, Below w.heap.size w V → V.cell? ⟨bm, 7, none⟩ = some (.slice ra n rc) ∧ V.cell? ⟨bm, 6, none⟩ = some (.int .i64 mk) ∧ V.cell? ⟨b3, 1, none⟩ = some (.int .i64 (q : Nat)) ∧ V.cell? ⟨bm, 1, none⟩ = some (.slice (some ⟨b1, o1, none⟩) fl fc) ∧ V.cell? ⟨b1, o1 + q, none⟩ = some (.int .i64 z)) (hf : w.frozen? ⟨bm, 7, none⟩ = false) (hq : q < fl) (hfl : fl ≤ 35184372088832) (hbm : bm < w.heap.size) (hrow : w.ownsRow B 61 6 (.slice ra n rc) n xs) (hB : B ≤ w.heap.size) (hn : n ≤ 1000) (hne : ∀ b, (Value.slice ra n rc).ownBlock = some b → b ≠ bm ∧ b ≠ b3 ∧ b ≠ b1 ∧ b < w.heap.size)
  (hZ : ∀ V, Below w.heap.size w V → Calls Tryz.prog 21 #[.slice sa sl sc] V fun r w' => ∃ gv vb cz, r = .returned (.slice (gv.map fun g => ⟨g, 0, none⟩) zl cz) ∧ Rm.Zf w' V.heap.size gv vb cz zs ∧ Below V.heap.size V w')
  (hQ : ∀ T' w', (Fq.Kp 11 T T' ∧ Rm.Nf w w' bm B ra n rc xs mk q z zl zs) → Q .normal ⟨T', []⟩ w') : (Fq.reg Tryz.f49 19).wp Tryz.prog Q ⟨T, []⟩ w := by
 have HQ := hide hQ
 clear hQ
 conv => arg 2; whnf
 refine Fq.norm (fun T' w' => Fq.Kp 11 T T' ∧ Rm.Nf w w' bm B ra n rc xs mk q z zl zs) (fun T' w' h => (unhide HQ) T' w' h) ?_
 obtain ⟨t, ht⟩ : ∃ t : Nat → Value, t = fun i => T.getD i (.tuple #[]) := ⟨_, rfl⟩
 have hTl : T = #[t 0, t 1, t 2, t 3, t 4, t 5, t 6, t 7, t 8, t 9, t 10, t 11, t 12, t 13, t 14, t 15, t 16, t 17, t 18, t 19, t 20, t 21, t 22, t 23, t 24, t 25, t 26, t 27, t 28, t 29, t 30, t 31, t 32, t 33, t 34, t 35, t 36, t 37, t 38, t 39, t 40, t 41, t 42, t 43, t 44, t 45, t 46, t 47, t 48, t 49, t 50, t 51, t 52, t 53, t 54, t 55, t 56, t 57, t 58, t 59, t 60, t 61, t 62, t 63, t 64, t 65, t 66, t 67, t 68, t 69, t 70, t 71, t 72, t 73, t 74, t 75, t 76, t 77, t 78, t 79, t 80, t 81, t 82, t 83, t 84, t 85, t 86, t 87, t 88, t 89, t 90, t 91, t 92, t 93, t 94, t 95, t 96, t 97, t 98, t 99, t 100, t 101, t 102, t 103, t 104, t 105, t 106, t 107, t 108, t 109, t 110, t 111, t 112, t 113, t 114, t 115, t 116, t 117, t 118, t 119, t 120, t 121, t 122, t 123, t 124, t 125, t 126, t 127, t 128, t 129, t 130] := by rw [ht]; exact Fq.ls_is hT
 rw [(congrFun ht 0).trans (Fq.gd s0), (congrFun ht 3).trans (Fq.gd s3), (congrFun ht 7).trans (Fq.gd s7)] at hTl
 clear ht hT s0 s3 s7
 refine Fq.fr hTl ?_
 have HTL := hide hTl
 clear hTl
 have HZ := hide hZ
 have q0 : (0 : Int) ≤ (q : Int) := by omega
 have q1 : (q : Int) < (fl : Int) := by omega
 obtain ⟨y7, y6, y3, y1, yf⟩ := hF w (Below.refl _ _)
 have hb3l := World.block_lt_of_cell? w _ y3
 have hb1l := World.block_lt_of_cell? w _ yf
 obtain ⟨i0, hi0, hz0, hz1', hz2⟩ := info_of Tryz.infoRf
 have HI := hide hi0
 have HZ0 := hide hz0
 have HZ1 := hide hz1'
 have HZ2 := hide hz2
 have HROW := hide hrow
 have HNE := hide hne
 have HSF := hide hF
 have HS0 := hide (hF _ (Below.refl w.heap.size w).drew)
 clear hi0 hz0 hz1' hz2 hrow hne hZ hF y6 y3 y1 yf
 refine Rq.begin (fun j => Nat.beq j 27) (fun V => V.cell? ⟨bm, 7, none⟩ = some (.slice ra n rc) ∧ V.cell? ⟨bm, 6, none⟩ = some (.int .i64 mk) ∧ V.cell? ⟨b3, 1, none⟩ = some (.int .i64 (q : Nat)) ∧ V.cell? ⟨bm, 1, none⟩ = some (.slice (some ⟨b1, o1, none⟩) fl fc) ∧ V.cell? ⟨b1, o1 + q, none⟩ = some (.int .i64 z)) (by kernel_rfl) (unhide HS0) (fun hHeld hcl => ?_)
 refine Rq.tk 0 (.pointer (some ⟨bm, 0, none⟩)) Rq.z (by kernel_rfl) (by kernel_rfl) (by kernel_rfl) (by kernel_rfl) (fun _ _ _ h => h) (by assumption) (by assumption) (by rfl) (fun w hSw => by (try dsimp only at hSw); go_simp) (fun hcl => ?_)
 (try simp only [Act.put, List.setIfInBounds_toArray, List.set_cons_zero, List.set_cons_succ])
 refine Rq.tk 1 (.pointer (some ⟨bm, 0, none⟩)) (Rq.s Rq.z) (by kernel_rfl) (by kernel_rfl) (by kernel_rfl) (by kernel_rfl) (fun _ _ _ h => h) (by assumption) (by assumption) (by rfl) (fun w hSw => by (try dsimp only at hSw); go_simp) (fun hcl => ?_)
 (try simp only [Act.put, List.setIfInBounds_toArray, List.set_cons_zero, List.set_cons_succ])
 refine Rq.tk 2 (.pointer (some ⟨bm, 0, none⟩)) (Rq.s (Rq.s Rq.z)) (by kernel_rfl) (by kernel_rfl) (by kernel_rfl) (by kernel_rfl) (fun _ _ _ h => h) (by assumption) (by assumption) (by rfl) (fun w hSw => by (try dsimp only at hSw); go_simp) (fun hcl => ?_)
 (try simp only [Act.put, List.setIfInBounds_toArray, List.set_cons_zero, List.set_cons_succ])
 refine Rq.tk 3 (.pointer (some ⟨bm, 7, none⟩)) (Rq.s (Rq.s (Rq.s Rq.z))) (by kernel_rfl) (by kernel_rfl) (by kernel_rfl) (by kernel_rfl) (fun _ _ _ h => h) (by assumption) (by assumption) (by rfl) (fun w hSw => by (try dsimp only at hSw); go_simp) (fun hcl => ?_)
 (try simp only [Act.put, List.setIfInBounds_toArray, List.set_cons_zero, List.set_cons_succ])
 refine Rq.tk 4 (.slice ra n rc) (Rq.s (Rq.s (Rq.s (Rq.s Rq.z)))) (by kernel_rfl) (by kernel_rfl) (by kernel_rfl) (by kernel_rfl) (fun _ _ _ h => h) (by assumption) (by assumption) (by rfl) (fun w hSw => by (try dsimp only at hSw); go_simp) (fun hcl => ?_)
 (try simp only [Act.put, List.setIfInBounds_toArray, List.set_cons_zero, List.set_cons_succ])
 refine Rq.tk 5 (.pointer (some ⟨bm, 0, none⟩)) (Rq.s (Rq.s (Rq.s (Rq.s (Rq.s Rq.z))))) (by kernel_rfl) (by kernel_rfl) (by kernel_rfl) (by kernel_rfl) (fun _ _ _ h => h) (by assumption) (by assumption) (by rfl) (fun w hSw => by (try dsimp only at hSw); go_simp) (fun hcl => ?_)
 (try simp only [Act.put, List.setIfInBounds_toArray, List.set_cons_zero, List.set_cons_succ])
 refine Rq.tk 6 (.pointer (some ⟨bm, 0, none⟩)) (Rq.s (Rq.s (Rq.s (Rq.s (Rq.s (Rq.s Rq.z)))))) (by kernel_rfl) (by kernel_rfl) (by kernel_rfl) (by kernel_rfl) (fun _ _ _ h => h) (by assumption) (by assumption) (by rfl) (fun w hSw => by (try dsimp only at hSw); go_simp) (fun hcl => ?_)
 (try simp only [Act.put, List.setIfInBounds_toArray, List.set_cons_zero, List.set_cons_succ])
 refine Rq.tk 7 (.pointer (some ⟨bm, 6, none⟩)) (Rq.s (Rq.s (Rq.s (Rq.s (Rq.s (Rq.s (Rq.s Rq.z))))))) (by kernel_rfl) (by kernel_rfl) (by kernel_rfl) (by kernel_rfl) (fun _ _ _ h => h) (by assumption) (by assumption) (by rfl) (fun w hSw => by (try dsimp only at hSw); go_simp) (fun hcl => ?_)
 (try simp only [Act.put, List.setIfInBounds_toArray, List.set_cons_zero, List.set_cons_succ])
 refine Rq.tk 8 (.int .i64 mk) (Rq.s (Rq.s (Rq.s (Rq.s (Rq.s (Rq.s (Rq.s (Rq.s Rq.z)))))))) (by kernel_rfl) (by kernel_rfl) (by kernel_rfl) (by kernel_rfl) (fun _ _ _ h => h) (by assumption) (by assumption) (by rfl) (fun w hSw => by (try dsimp only at hSw); go_simp) (fun hcl => ?_)
 (try simp only [Act.put, List.setIfInBounds_toArray, List.set_cons_zero, List.set_cons_succ])
 refine Rq.tk 9 (.pointer (some ⟨b3, 1, none⟩)) (Rq.s (Rq.s (Rq.s (Rq.s (Rq.s (Rq.s (Rq.s (Rq.s (Rq.s Rq.z))))))))) (by kernel_rfl) (by kernel_rfl) (by kernel_rfl) (by kernel_rfl) (fun _ _ _ h => h) (by assumption) (by assumption) (by rfl) (fun w hSw => by (try dsimp only at hSw); go_simp) (fun hcl => ?_)
 (try simp only [Act.put, List.setIfInBounds_toArray, List.set_cons_zero, List.set_cons_succ])
 refine Rq.tk 10 (.int .i64 (q : Nat)) (Rq.s (Rq.s (Rq.s (Rq.s (Rq.s (Rq.s (Rq.s (Rq.s (Rq.s (Rq.s Rq.z)))))))))) (by kernel_rfl) (by kernel_rfl) (by kernel_rfl) (by kernel_rfl) (fun _ _ _ h => h) (by assumption) (by assumption) (by rfl) (fun w hSw => by (try dsimp only at hSw); go_simp) (fun hcl => ?_)
 (try simp only [Act.put, List.setIfInBounds_toArray, List.set_cons_zero, List.set_cons_succ])
 refine Rq.tk 11 (.pointer (some ⟨bm, 0, none⟩)) (Rq.s (Rq.s (Rq.s (Rq.s (Rq.s (Rq.s (Rq.s (Rq.s (Rq.s (Rq.s (Rq.s Rq.z))))))))))) (by kernel_rfl) (by kernel_rfl) (by kernel_rfl) (by kernel_rfl) (fun _ _ _ h => h) (by assumption) (by assumption) (by rfl) (fun w hSw => by (try dsimp only at hSw); go_simp) (fun hcl => ?_)
 (try simp only [Act.put, List.setIfInBounds_toArray, List.set_cons_zero, List.set_cons_succ])
 refine Rq.tk 12 (.pointer (some ⟨bm, 0, none⟩)) (Rq.s (Rq.s (Rq.s (Rq.s (Rq.s (Rq.s (Rq.s (Rq.s (Rq.s (Rq.s (Rq.s (Rq.s Rq.z)))))))))))) (by kernel_rfl) (by kernel_rfl) (by kernel_rfl) (by kernel_rfl) (fun _ _ _ h => h) (by assumption) (by assumption) (by rfl) (fun w hSw => by (try dsimp only at hSw); go_simp) (fun hcl => ?_)
 (try simp only [Act.put, List.setIfInBounds_toArray, List.set_cons_zero, List.set_cons_succ])
 refine Rq.tk 13 (.pointer (some ⟨bm, 0, none⟩)) (Rq.s (Rq.s (Rq.s (Rq.s (Rq.s (Rq.s (Rq.s (Rq.s (Rq.s (Rq.s (Rq.s (Rq.s (Rq.s Rq.z))))))))))))) (by kernel_rfl) (by kernel_rfl) (by kernel_rfl) (by kernel_rfl) (fun _ _ _ h => h) (by assumption) (by assumption) (by rfl) (fun w hSw => by (try dsimp only at hSw); go_simp) (fun hcl => ?_)
 (try simp only [Act.put, List.setIfInBounds_toArray, List.set_cons_zero, List.set_cons_succ])
 refine Rq.tk 14 (.pointer (some ⟨bm, 1, none⟩)) (Rq.s (Rq.s (Rq.s (Rq.s (Rq.s (Rq.s (Rq.s (Rq.s (Rq.s (Rq.s (Rq.s (Rq.s (Rq.s (Rq.s Rq.z)))))))))))))) (by kernel_rfl) (by kernel_rfl) (by kernel_rfl) (by kernel_rfl) (fun _ _ _ h => h) (by assumption) (by assumption) (by rfl) (fun w hSw => by (try dsimp only at hSw); go_simp) (fun hcl => ?_)
 (try simp only [Act.put, List.setIfInBounds_toArray, List.set_cons_zero, List.set_cons_succ])
 refine Rq.tk 15 (.slice (some ⟨b1, o1, none⟩) fl fc) (Rq.s (Rq.s (Rq.s (Rq.s (Rq.s (Rq.s (Rq.s (Rq.s (Rq.s (Rq.s (Rq.s (Rq.s (Rq.s (Rq.s (Rq.s Rq.z))))))))))))))) (by kernel_rfl) (by kernel_rfl) (by kernel_rfl) (by kernel_rfl) (fun _ _ _ h => h) (by assumption) (by assumption) (by rfl) (fun w hSw => by (try dsimp only at hSw); go_simp) (fun hcl => ?_)
 (try simp only [Act.put, List.setIfInBounds_toArray, List.set_cons_zero, List.set_cons_succ])
 refine Rq.tk 16 (.pointer (some ⟨b3, 1, none⟩)) (Rq.s (Rq.s (Rq.s (Rq.s (Rq.s (Rq.s (Rq.s (Rq.s (Rq.s (Rq.s (Rq.s (Rq.s (Rq.s (Rq.s (Rq.s (Rq.s Rq.z)))))))))))))))) (by kernel_rfl) (by kernel_rfl) (by kernel_rfl) (by kernel_rfl) (fun _ _ _ h => h) (by assumption) (by assumption) (by rfl) (fun w hSw => by (try dsimp only at hSw); go_simp) (fun hcl => ?_)
 (try simp only [Act.put, List.setIfInBounds_toArray, List.set_cons_zero, List.set_cons_succ])
 refine Rq.tk 17 (.int .i64 (q : Nat)) (Rq.s (Rq.s (Rq.s (Rq.s (Rq.s (Rq.s (Rq.s (Rq.s (Rq.s (Rq.s (Rq.s (Rq.s (Rq.s (Rq.s (Rq.s (Rq.s (Rq.s Rq.z))))))))))))))))) (by kernel_rfl) (by kernel_rfl) (by kernel_rfl) (by kernel_rfl) (fun _ _ _ h => h) (by assumption) (by assumption) (by rfl) (fun w hSw => by (try dsimp only at hSw); go_simp) (fun hcl => ?_)
 (try simp only [Act.put, List.setIfInBounds_toArray, List.set_cons_zero, List.set_cons_succ])
 refine Rq.tk 18 (.pointer (some ⟨b1, o1 + q, none⟩)) (Rq.s (Rq.s (Rq.s (Rq.s (Rq.s (Rq.s (Rq.s (Rq.s (Rq.s (Rq.s (Rq.s (Rq.s (Rq.s (Rq.s (Rq.s (Rq.s (Rq.s (Rq.s Rq.z)))))))))))))))))) (by kernel_rfl) (by kernel_rfl) (by kernel_rfl) (by kernel_rfl) (fun _ _ _ h => h) (by assumption) (by assumption) (by rfl) (fun w hSw => by (try dsimp only at hSw); go_simp) (fun hcl => ?_)
 (try simp only [Act.put, List.setIfInBounds_toArray, List.set_cons_zero, List.set_cons_succ])
 refine Rq.tk 19 (.int .i64 z) (Rq.s (Rq.s (Rq.s (Rq.s (Rq.s (Rq.s (Rq.s (Rq.s (Rq.s (Rq.s (Rq.s (Rq.s (Rq.s (Rq.s (Rq.s (Rq.s (Rq.s (Rq.s (Rq.s Rq.z))))))))))))))))))) (by kernel_rfl) (by kernel_rfl) (by kernel_rfl) (by kernel_rfl) (fun _ _ _ h => h) (by assumption) (by assumption) (by rfl) (fun w hSw => by (try dsimp only at hSw); go_simp) (fun hcl => ?_)
 (try simp only [Act.put, List.setIfInBounds_toArray, List.set_cons_zero, List.set_cons_succ])
 refine Rq.tk 20 (.slice sa sl sc) (Rq.s (Rq.s (Rq.s (Rq.s (Rq.s (Rq.s (Rq.s (Rq.s (Rq.s (Rq.s (Rq.s (Rq.s (Rq.s (Rq.s (Rq.s (Rq.s (Rq.s (Rq.s (Rq.s (Rq.s Rq.z)))))))))))))))))))) (by kernel_rfl) (by kernel_rfl) (by kernel_rfl) (by kernel_rfl) (fun _ _ _ h => h) (by assumption) (by assumption) (by rfl) (fun w hSw => by (try dsimp only at hSw); go_simp) (fun hcl => ?_)
 (try simp only [Act.put, List.setIfInBounds_toArray, List.set_cons_zero, List.set_cons_succ])
 refine Rq.on 21 (Rq.s (Rq.s (Rq.s (Rq.s (Rq.s (Rq.s (Rq.s (Rq.s (Rq.s (Rq.s (Rq.s (Rq.s (Rq.s (Rq.s (Rq.s (Rq.s (Rq.s (Rq.s (Rq.s (Rq.s (Rq.s Rq.z))))))))))))))))))))) (by kernel_rfl) (by assumption) (fun K hK => ?_)
 go_simp
 go_at_call 21
 refine ((unhide HZ) _ (Below.refl _ _).drew).mono ?_
 rintro r5 w5 ⟨gv, vb, cz, rfl, hzf, hb5⟩
 have HBW := hide (((Below.refl w.heap.size w).drew).trans (hb5.mono (Nat.le_refl _)))
 have HZF := hide hzf
 have HBD := hide ((unhide HBW).alloc (unhide HBW).size (Obj.cells #[.int .i64 mk, .int .i64 (q : Nat), .int .i64 z, .int .i64 (-1), .slice none 0 0, .slice (gv.map fun g => ⟨g, 0, none⟩) zl cz] 61))
 have HBK := hide (heap_alloc_new w5 (Obj.cells #[.int .i64 mk, .int .i64 (q : Nat), .int .i64 z, .int .i64 (-1), .slice none 0 0, .slice (gv.map fun g => ⟨g, 0, none⟩) zl cz] 61))
 clear hzf hb5 hHeld hcl
 refine hK _ _ (fun _ => (unhide HSF) _ (unhide HBW)) (fun hcl => ?_)
 (try simp only [Act.put, List.setIfInBounds_toArray, List.set_cons_zero, List.set_cons_succ])
 clear hK K
 have hHeld := (unhide HSF) _ (unhide HBW)
 refine Rq.tk 22 (.agg #[.int .i64 mk, .int .i64 (q : Nat), .int .i64 z, .int .i64 (-1), .slice none 0 0, .slice (gv.map fun g => ⟨g, 0, none⟩) zl cz]) (Rq.s (Rq.s (Rq.s (Rq.s (Rq.s (Rq.s (Rq.s (Rq.s (Rq.s (Rq.s (Rq.s (Rq.s (Rq.s (Rq.s (Rq.s (Rq.s (Rq.s (Rq.s (Rq.s (Rq.s (Rq.s (Rq.s Rq.z)))))))))))))))))))))) (by kernel_rfl) (by kernel_rfl) (by kernel_rfl) (by kernel_rfl) (fun _ _ _ h => h) (by assumption) (by assumption) (by rfl) (fun w hSw => by (try dsimp only at hSw); go_simp) (fun hcl => ?_)
 (try simp only [Act.put, List.setIfInBounds_toArray, List.set_cons_zero, List.set_cons_succ])
 refine Rq.on 23 (Rq.s (Rq.s (Rq.s (Rq.s (Rq.s (Rq.s (Rq.s (Rq.s (Rq.s (Rq.s (Rq.s (Rq.s (Rq.s (Rq.s (Rq.s (Rq.s (Rq.s (Rq.s (Rq.s (Rq.s (Rq.s (Rq.s (Rq.s Rq.z))))))))))))))))))))))) (by kernel_rfl) (by assumption) (fun K hK => ?_)
 go_simp
 refine hK _ _ (fun _ => (unhide HSF) _ (unhide HBD)) (fun hcl => ?_)
 (try simp only [Act.put, List.setIfInBounds_toArray, List.set_cons_zero, List.set_cons_succ])
 clear hK K hHeld
 refine Rq.on 24 (Rq.s (Rq.s (Rq.s (Rq.s (Rq.s (Rq.s (Rq.s (Rq.s (Rq.s (Rq.s (Rq.s (Rq.s (Rq.s (Rq.s (Rq.s (Rq.s (Rq.s (Rq.s (Rq.s (Rq.s (Rq.s (Rq.s (Rq.s (Rq.s Rq.z)))))))))))))))))))))))) (by kernel_rfl) (by assumption) (fun K hK => ?_)
 refine step_append_lies _ rfl (.tmp 87) (.tmp 106) 56 rfl B 61 i0 _ 6 80 Tryz.underlying56 (unhide HI) (unhide HZ0) (unhide HZ1) (unhide HZ2) rfl (by omega) (.slice ra n rc) n xs rfl (Pg.ow_below (unhide HROW) (unhide HBD)) _ 1 1 [.int .i64 mk, .int .i64 (q : Nat), .int .i64 z, .int .i64 (-1), .slice none 0 0, .slice (gv.map fun g => ⟨g, 0, none⟩) zl cz] rfl rfl (World.news_of_block (unhide HBK)) (by simp [Value.oneCell']) (by omega) (by unfold maxLen; omega) (by omega) (Nat.le_trans hB (unhide HBD).size) _ rfl ?_
 intro gA cA w6 hoA hgA hatA hltA
 have HOA := hide hoA
 have HGA := hide hgA
 have HAT := hide hatA
 have hnn := fun (b : Nat) (h1 : b < w.heap.size) (h2 : ∀ e, (Value.slice ra n rc).ownBlock = some e → e ≠ b) => (hgA.block b (Nat.lt_of_lt_of_le h1 (unhide HBD).size) (fun e => h2 b e.symm rfl))
 have hS6 := Rm.five ((unhide HSF) _ (unhide HBD)) (hnn bm hbm (fun e he => ((unhide HNE) e he).1)) (hnn b3 hb3l (fun e he => ((unhide HNE) e he).2.1)) (hnn b1 hb1l (fun e he => ((unhide HNE) e he).2.2.1))
 have z4 := hS6.1
 have z5 := ((Xr.frz_kept (hnn bm hbm (fun e he => ((unhide HNE) e he).1)) 7).trans ((unhide HBD).frozen (p := ⟨bm, 7, none⟩) hbm)).trans hf
 clear hatA hltA hoA hgA hnn
 refine hK _ _ (fun _ => hS6) (fun hcl => ?_)
 (try simp only [Act.put, List.setIfInBounds_toArray, List.set_cons_zero, List.set_cons_succ])
 clear hK K
 refine Rq.tk 25 (.pointer (some ⟨bm, 0, none⟩)) (Rq.s (Rq.s (Rq.s (Rq.s (Rq.s (Rq.s (Rq.s (Rq.s (Rq.s (Rq.s (Rq.s (Rq.s (Rq.s (Rq.s (Rq.s (Rq.s (Rq.s (Rq.s (Rq.s (Rq.s (Rq.s (Rq.s (Rq.s (Rq.s (Rq.s Rq.z))))))))))))))))))))))))) (by kernel_rfl) (by kernel_rfl) (by kernel_rfl) (by kernel_rfl) (fun _ _ _ h => h) (by assumption) (by assumption) (by rfl) (fun w hSw => by (try dsimp only at hSw); go_simp) (fun hcl => ?_)
 (try simp only [Act.put, List.setIfInBounds_toArray, List.set_cons_zero, List.set_cons_succ])
 refine Rq.tk 26 (.pointer (some ⟨bm, 7, none⟩)) (Rq.s (Rq.s (Rq.s (Rq.s (Rq.s (Rq.s (Rq.s (Rq.s (Rq.s (Rq.s (Rq.s (Rq.s (Rq.s (Rq.s (Rq.s (Rq.s (Rq.s (Rq.s (Rq.s (Rq.s (Rq.s (Rq.s (Rq.s (Rq.s (Rq.s (Rq.s Rq.z)))))))))))))))))))))))))) (by kernel_rfl) (by kernel_rfl) (by kernel_rfl) (by kernel_rfl) (fun _ _ _ h => h) (by assumption) (by assumption) (by rfl) (fun w hSw => by (try dsimp only at hSw); go_simp) (fun hcl => ?_)
 (try simp only [Act.put, List.setIfInBounds_toArray, List.set_cons_zero, List.set_cons_succ])
 refine Rq.on 27 (Rq.s (Rq.s (Rq.s (Rq.s (Rq.s (Rq.s (Rq.s (Rq.s (Rq.s (Rq.s (Rq.s (Rq.s (Rq.s (Rq.s (Rq.s (Rq.s (Rq.s (Rq.s (Rq.s (Rq.s (Rq.s (Rq.s (Rq.s (Rq.s (Rq.s (Rq.s (Rq.s Rq.z))))))))))))))))))))))))))) (by kernel_rfl) (by assumption) (fun K hK => ?_)
 go_simp
 refine hK _ _ (fun e => absurd e (by decide)) (fun hcl => ?_)
 (try simp only [Act.put, List.setIfInBounds_toArray, List.set_cons_zero, List.set_cons_succ])
 refine Rq.done (by kernel_rfl) ?_ _
 have HB := hide (Rm.Nf.mk (unhide HZF) (unhide HBW) (unhide HGA) (unhide HOA) (unhide HAT) : Rm.Nf w _ bm B ra n rc xs mk q z zl zs)
 exact ⟨rfl, ⟨by rw [unhide HTL]; rfl, fun k hk => by rw [unhide HTL]; rcases (show k = 0 ∨ k = 1 ∨ k = 2 ∨ k = 3 ∨ k = 4 ∨ k = 5 ∨ k = 6 ∨ k = 7 ∨ k = 8 ∨ k = 9 ∨ k = 10 by omega) with rfl | rfl | rfl | rfl | rfl | rfl | rfl | rfl | rfl | rfl | rfl <;> rfl⟩, unhide HB⟩
end
end Go.Proofs.YtpfogjplnodacaaGreat
namespace Go.Proofs.YtpfogjplnodacaaGreat
open Go.RowKit Go.Maps
set_option linter.unusedVariables false
theorem Rm.five2 {V V6 : World} {bm b3 b1 b2 o1 o2 q : Nat} {u1 u2 u3 u4 u5 : Value} (h : V.cell? ⟨bm, 7, none⟩ = some u1 ∧ V.cell? ⟨b3, 1, none⟩ = some u2 ∧ V.cell? ⟨b3, 2, none⟩ = some u3 ∧ V.cell? ⟨b1, o1 + q, none⟩ = some u4 ∧ V.cell? ⟨b2, o2 + q, none⟩ = some u5) (h1 : V6.heap[bm]? = V.heap[bm]?) (h2 : V6.heap[b3]? = V.heap[b3]?) (h3 : V6.heap[b1]? = V.heap[b1]?) (h4 : V6.heap[b2]? = V.heap[b2]?) :
  V6.cell? ⟨bm, 7, none⟩ = some u1 ∧ V6.cell? ⟨b3, 1, none⟩ = some u2 ∧ V6.cell? ⟨b3, 2, none⟩ = some u3 ∧ V6.cell? ⟨b1, o1 + q, none⟩ = some u4 ∧ V6.cell? ⟨b2, o2 + q, none⟩ = some u5 :=
 ⟨(Xr.cell_kept h1 7).trans h.1, (Xr.cell_kept h2 1).trans h.2.1, (Xr.cell_kept h2 2).trans h.2.2.1, (Xr.cell_kept h3 _).trans h.2.2.2.1, (Xr.cell_kept h4 _).trans h.2.2.2.2⟩
section
variable {T : Array Value} {w : World} {Q : Exit → Act → World → Prop} {bm g c : Nat}
theorem rr_r0 {si sf sz : Option Addr} {ni ci nf cf nz cz : Nat} (hT : T.size = 61) (s0 : T[0]? = some (.agg #[.slice si ni ci, .slice sf nf cf, .slice sz nz cz]))
  (hQ : ∀ T', (Fq.Kp 3 T T' ∧ T'[3]? = some (.pointer (some ⟨w.heap.size, 0, none⟩))) → Q .normal ⟨T', []⟩ (w.alloc (Obj.cells #[.slice si ni ci, .slice sf nf cf, .slice sz nz cz] 26))) : (Fq.reg Tryz.f8 0).wp Tryz.prog Q ⟨T, []⟩ w := by
 have a0 := fun h => Fq.el s0 h
 have d0 := Fq.gd s0
 have hu : undef = Value.tuple #[] := rfl
 have HQ := hide hQ
 clear hQ
 conv => arg 2; whnf
 go_wp2_with fail
 exact (unhide HQ) _ ⟨(by (repeat (with_reducible refine Fq.Kp.set ?_ (by decide) _)); with_reducible exact Fq.Kp.refl _ _), by simp [hT]⟩
theorem rr_r1 {b3 n cf : Nat} {sf : Option Addr} (hT : T.size = 61) (s3 : T[3]? = some (.pointer (some ⟨b3, 0, none⟩))) (x1 : w.cell? ⟨b3, 1, none⟩ = some (.slice sf (n + 1) cf)) (hn : n ≤ 35184372088832)
  (hQ : ∀ T', (Fq.Kp 8 T T' ∧ T'[8]? = some (.int .i64 (n : Nat))) → Q .normal ⟨T', []⟩ (w)) : (Fq.reg Tryz.f8 1).wp Tryz.prog Q ⟨T, []⟩ w := by
 have a3 := fun h => Fq.el s3 h
 have d3 := Fq.gd s3
 have hu : undef = Value.tuple #[] := rfl
 have HQ := hide hQ
 clear hQ
 conv => arg 2; whnf
 have hw0 : IntKind.i64.wrap (((n + 1 : Nat) : Int) - 1) = (n : Int) := by rw [IntKind.wrap_i64]; omega
 have hw1 : IntKind.i64.wrap ((n : Int) + 1 - 1) = (n : Int) := by rw [IntKind.wrap_i64]; omega
 have hw2 : IntKind.i64.wrap (n : Int) = (n : Int) := by rw [IntKind.wrap_i64]; omega
 go_wp2_with fail
 exact (unhide HQ) _ ⟨(by (repeat (with_reducible refine Fq.Kp.set ?_ (by decide) _)); with_reducible exact Fq.Kp.refl _ _), Fq.set_at _ (by simp [hT]) _⟩
theorem rr_r2 {b3 il ic : Nat} {ia : Option Addr} {fu : Int} {si sf sz : Option Addr} {ni ci nf cf nz cz : Nat} (hT : T.size = 61) (s1 : T[1]? = some (.slice ia il ic)) (s2 : T[2]? = some (.int .i64 fu)) (s3 : T[3]? = some (.pointer (some ⟨b3, 0, none⟩))) (x0 : w.cell? ⟨b3, 0, none⟩ = some (.slice si ni ci)) (x1 : w.cell? ⟨b3, 1, none⟩ = some (.slice sf nf cf)) (x2 : w.cell? ⟨b3, 2, none⟩ = some (.slice sz nz cz))
  (hQ : ∀ T', (Fq.Kp 9 T T' ∧ T'[9]? = some (.pointer (some ⟨w.heap.size, 0, none⟩))) → Q .normal ⟨T', []⟩ (w.alloc (Obj.cells #[.slice si ni ci, .slice sf nf cf, .slice sz nz cz, .slice ia il ic, .int .i64 fu, .int .i64 0, .int .i64 1, .slice none 0 0, .slice none 0 0, .bool false, .bool false] 58))) : (Fq.reg Tryz.f8 2).wp Tryz.prog Q ⟨T, []⟩ w := by
 have a1 := fun h => Fq.el s1 h
 have d1 := Fq.gd s1
 have a2 := fun h => Fq.el s2 h
 have d2 := Fq.gd s2
 have a3 := fun h => Fq.el s3 h
 have d3 := Fq.gd s3
 have hu : undef = Value.tuple #[] := rfl
 have HQ := hide hQ
 clear hQ
 conv => arg 2; whnf
 go_wp2_with fail
 exact (unhide HQ) _ ⟨(by (repeat (with_reducible refine Fq.Kp.set ?_ (by decide) _)); with_reducible exact Fq.Kp.refl _ _), Fq.set_at _ (by simp [hT]) _⟩
theorem rr_r3 {b3 b1 b2 o1 o2 fl fc s2 c2 q sl sc zl : Nat} {sa : Option Addr} {z : Int} (hT : T.size = 61) (s3 : T[3]? = some (.pointer (some ⟨b3, 0, none⟩))) (s8 : T[8]? = some (.int .i64 (q : Nat))) (s9 : T[9]? = some (.pointer (some ⟨bm, 0, none⟩))) {B : Nat} {zs : List (List Int)} (hF : ∀ V, Below w.heap.size w V → V.cell? ⟨bm, 7, none⟩ = some (.slice none 0 0) ∧ V.cell? ⟨b3, 1, none⟩ = some (.slice (some ⟨b1, o1, none⟩) fl fc) ∧ V.cell? ⟨b3, 2, none⟩ = some (.slice (some ⟨b2, o2, none⟩) s2 c2) ∧ V.cell? ⟨b1, o1 + q, none⟩ = some (.int .i64 z) ∧ V.cell? ⟨b2, o2 + q, none⟩ = some (.slice sa sl sc)) (hf : w.frozen? ⟨bm, 7, none⟩ = false) (hq : q < fl) (hq2 : q < s2) (hfl : fl ≤ 35184372088832) (hs2 : s2 ≤ 35184372088832) (hbm : bm < w.heap.size) (hb3 : b3 < w.heap.size) (hb1 : b1 < w.heap.size) (hb2 : b2 < w.heap.size) (hB : B ≤ w.heap.size)
  (hZ : ∀ V, Below w.heap.size w V → Calls Tryz.prog 21 #[.slice sa sl sc] V fun r w' => ∃ gv vb cz, r = .returned (.slice (gv.map fun g => ⟨g, 0, none⟩) zl cz) ∧ Rm.Zf w' V.heap.size gv vb cz zs ∧ Below V.heap.size V w')
  (hQ : ∀ T' w', (Fq.Kp 10 T T' ∧ Rm.Nf w w' bm B none 0 0 [] 0 q z zl zs) → Q .normal ⟨T', []⟩ w') : (Fq.reg Tryz.f8 3).wp Tryz.prog Q ⟨T, []⟩ w := by
 have HQ := hide hQ
 clear hQ
 conv => arg 2; whnf
 refine Fq.norm (fun T' w' => Fq.Kp 10 T T' ∧ Rm.Nf w w' bm B none 0 0 [] 0 q z zl zs) (fun T' w' h => (unhide HQ) T' w' h) ?_
 obtain ⟨t, ht⟩ : ∃ t : Nat → Value, t = fun i => T.getD i (.tuple #[]) := ⟨_, rfl⟩
 have hTl : T = #[t 0, t 1, t 2, t 3, t 4, t 5, t 6, t 7, t 8, t 9, t 10, t 11, t 12, t 13, t 14, t 15, t 16, t 17, t 18, t 19, t 20, t 21, t 22, t 23, t 24, t 25, t 26, t 27, t 28, t 29, t 30, t 31, t 32, t 33, t 34, t 35, t 36, t 37, t 38, t 39, t 40, t 41, t 42, t 43, t 44, t 45, t 46, t 47, t 48, t 49, t 50, t 51, t 52, t 53, t 54, t 55, t 56, t 57, t 58, t 59, t 60] := by rw [ht]; exact Fq.ls_is hT
 rw [(congrFun ht 3).trans (Fq.gd s3), (congrFun ht 8).trans (Fq.gd s8), (congrFun ht 9).trans (Fq.gd s9)] at hTl
 clear ht hT s3 s8 s9
 refine Fq.fr hTl ?_
 have HTL := hide hTl
 clear hTl
 have HZ := hide hZ
 have q0 : (0 : Int) ≤ (q : Int) := by omega
 have q1 : (q : Int) < (fl : Int) := by omega
 have q2 : (q : Int) < (s2 : Int) := by omega
 obtain ⟨i0, hi0, hz0, hz1', hz2⟩ := info_of Tryz.infoRf
 have HI := hide hi0
 have HZ0 := hide hz0
 have HZ1 := hide hz1'
 have HZ2 := hide hz2
 have HSF := hide hF
 have HS0 := hide (hF _ (Below.refl w.heap.size w).drew)
 clear hi0 hz0 hz1' hz2 hZ hF
 refine Rq.begin (fun j => Nat.beq j 18) (fun V => V.cell? ⟨bm, 7, none⟩ = some (.slice none 0 0) ∧ V.cell? ⟨b3, 1, none⟩ = some (.slice (some ⟨b1, o1, none⟩) fl fc) ∧ V.cell? ⟨b3, 2, none⟩ = some (.slice (some ⟨b2, o2, none⟩) s2 c2) ∧ V.cell? ⟨b1, o1 + q, none⟩ = some (.int .i64 z) ∧ V.cell? ⟨b2, o2 + q, none⟩ = some (.slice sa sl sc)) (by kernel_rfl) (unhide HS0) (fun hHeld hcl => ?_)
 refine Rq.tk 0 (.pointer (some ⟨bm, 7, none⟩)) Rq.z (by kernel_rfl) (by kernel_rfl) (by kernel_rfl) (by kernel_rfl) (fun _ _ _ h => h) (by assumption) (by assumption) (by rfl) (fun w hSw => by (try dsimp only at hSw); go_simp) (fun hcl => ?_)
 (try simp only [Act.put, List.setIfInBounds_toArray, List.set_cons_zero, List.set_cons_succ])
 refine Rq.tk 1 (.slice none 0 0) (Rq.s Rq.z) (by kernel_rfl) (by kernel_rfl) (by kernel_rfl) (by kernel_rfl) (fun _ _ _ h => h) (by assumption) (by assumption) (by rfl) (fun w hSw => by (try dsimp only at hSw); go_simp) (fun hcl => ?_)
 (try simp only [Act.put, List.setIfInBounds_toArray, List.set_cons_zero, List.set_cons_succ])
 refine Rq.tk 2 (.int .i64 (q : Nat)) (Rq.s (Rq.s Rq.z)) (by kernel_rfl) (by kernel_rfl) (by kernel_rfl) (by kernel_rfl) (fun _ _ _ h => h) (by assumption) (by assumption) (by rfl) (fun w hSw => by (try dsimp only at hSw); go_simp) (fun hcl => ?_)
 (try simp only [Act.put, List.setIfInBounds_toArray, List.set_cons_zero, List.set_cons_succ])
 refine Rq.tk 3 (.pointer (some ⟨b3, 1, none⟩)) (Rq.s (Rq.s (Rq.s Rq.z))) (by kernel_rfl) (by kernel_rfl) (by kernel_rfl) (by kernel_rfl) (fun _ _ _ h => h) (by assumption) (by assumption) (by rfl) (fun w hSw => by (try dsimp only at hSw); go_simp) (fun hcl => ?_)
 (try simp only [Act.put, List.setIfInBounds_toArray, List.set_cons_zero, List.set_cons_succ])
 refine Rq.tk 4 (.slice (some ⟨b1, o1, none⟩) fl fc) (Rq.s (Rq.s (Rq.s (Rq.s Rq.z)))) (by kernel_rfl) (by kernel_rfl) (by kernel_rfl) (by kernel_rfl) (fun _ _ _ h => h) (by assumption) (by assumption) (by rfl) (fun w hSw => by (try dsimp only at hSw); go_simp) (fun hcl => ?_)
 (try simp only [Act.put, List.setIfInBounds_toArray, List.set_cons_zero, List.set_cons_succ])
 refine Rq.tk 5 (.int .i64 (q : Nat)) (Rq.s (Rq.s (Rq.s (Rq.s (Rq.s Rq.z))))) (by kernel_rfl) (by kernel_rfl) (by kernel_rfl) (by kernel_rfl) (fun _ _ _ h => h) (by assumption) (by assumption) (by rfl) (fun w hSw => by (try dsimp only at hSw); go_simp) (fun hcl => ?_)
 (try simp only [Act.put, List.setIfInBounds_toArray, List.set_cons_zero, List.set_cons_succ])
 refine Rq.tk 6 (.pointer (some ⟨b1, o1 + q, none⟩)) (Rq.s (Rq.s (Rq.s (Rq.s (Rq.s (Rq.s Rq.z)))))) (by kernel_rfl) (by kernel_rfl) (by kernel_rfl) (by kernel_rfl) (fun _ _ _ h => h) (by assumption) (by assumption) (by rfl) (fun w hSw => by (try dsimp only at hSw); go_simp) (fun hcl => ?_)
 (try simp only [Act.put, List.setIfInBounds_toArray, List.set_cons_zero, List.set_cons_succ])
 refine Rq.tk 7 (.int .i64 z) (Rq.s (Rq.s (Rq.s (Rq.s (Rq.s (Rq.s (Rq.s Rq.z))))))) (by kernel_rfl) (by kernel_rfl) (by kernel_rfl) (by kernel_rfl) (fun _ _ _ h => h) (by assumption) (by assumption) (by rfl) (fun w hSw => by (try dsimp only at hSw); go_simp) (fun hcl => ?_)
 (try simp only [Act.put, List.setIfInBounds_toArray, List.set_cons_zero, List.set_cons_succ])
 refine Rq.tk 8 (.pointer (some ⟨b3, 2, none⟩)) (Rq.s (Rq.s (Rq.s (Rq.s (Rq.s (Rq.s (Rq.s (Rq.s Rq.z)))))))) (by kernel_rfl) (by kernel_rfl) (by kernel_rfl) (by kernel_rfl) (fun _ _ _ h => h) (by assumption) (by assumption) (by rfl) (fun w hSw => by (try dsimp only at hSw); go_simp) (fun hcl => ?_)
 (try simp only [Act.put, List.setIfInBounds_toArray, List.set_cons_zero, List.set_cons_succ])
 refine Rq.tk 9 (.slice (some ⟨b2, o2, none⟩) s2 c2) (Rq.s (Rq.s (Rq.s (Rq.s (Rq.s (Rq.s (Rq.s (Rq.s (Rq.s Rq.z))))))))) (by kernel_rfl) (by kernel_rfl) (by kernel_rfl) (by kernel_rfl) (fun _ _ _ h => h) (by assumption) (by assumption) (by rfl) (fun w hSw => by (try dsimp only at hSw); go_simp) (fun hcl => ?_)
 (try simp only [Act.put, List.setIfInBounds_toArray, List.set_cons_zero, List.set_cons_succ])
 refine Rq.tk 10 (.int .i64 (q : Nat)) (Rq.s (Rq.s (Rq.s (Rq.s (Rq.s (Rq.s (Rq.s (Rq.s (Rq.s (Rq.s Rq.z)))))))))) (by kernel_rfl) (by kernel_rfl) (by kernel_rfl) (by kernel_rfl) (fun _ _ _ h => h) (by assumption) (by assumption) (by rfl) (fun w hSw => by (try dsimp only at hSw); go_simp) (fun hcl => ?_)
 (try simp only [Act.put, List.setIfInBounds_toArray, List.set_cons_zero, List.set_cons_succ])
 refine Rq.tk 11 (.pointer (some ⟨b2, o2 + q, none⟩)) (Rq.s (Rq.s (Rq.s (Rq.s (Rq.s (Rq.s (Rq.s (Rq.s (Rq.s (Rq.s (Rq.s Rq.z))))))))))) (by kernel_rfl) (by kernel_rfl) (by kernel_rfl) (by kernel_rfl) (fun _ _ _ h => h) (by assumption) (by assumption) (by rfl) (fun w hSw => by (try dsimp only at hSw); go_simp) (fun hcl => ?_)
 (try simp only [Act.put, List.setIfInBounds_toArray, List.set_cons_zero, List.set_cons_succ])
 refine Rq.tk 12 (.slice sa sl sc) (Rq.s (Rq.s (Rq.s (Rq.s (Rq.s (Rq.s (Rq.s (Rq.s (Rq.s (Rq.s (Rq.s (Rq.s Rq.z)))))))))))) (by kernel_rfl) (by kernel_rfl) (by kernel_rfl) (by kernel_rfl) (fun _ _ _ h => h) (by assumption) (by assumption) (by rfl) (fun w hSw => by (try dsimp only at hSw); go_simp) (fun hcl => ?_)
 (try simp only [Act.put, List.setIfInBounds_toArray, List.set_cons_zero, List.set_cons_succ])
 refine Rq.on 13 (Rq.s (Rq.s (Rq.s (Rq.s (Rq.s (Rq.s (Rq.s (Rq.s (Rq.s (Rq.s (Rq.s (Rq.s (Rq.s Rq.z))))))))))))) (by kernel_rfl) (by assumption) (fun K hK => ?_)
 go_simp
 go_at_call 21
 refine ((unhide HZ) _ (Below.refl _ _).drew).mono ?_
 rintro r5 w5 ⟨gv, vb, cz, rfl, hzf, hb5⟩
 have HBW := hide (((Below.refl w.heap.size w).drew).trans (hb5.mono (Nat.le_refl _)))
 have HZF := hide hzf
 have HBD := hide ((unhide HBW).alloc (unhide HBW).size (Obj.cells #[.int .i64 0, .int .i64 (q : Nat), .int .i64 z, .int .i64 (-1), .slice none 0 0, .slice (gv.map fun g => ⟨g, 0, none⟩) zl cz] 61))
 have HBK := hide (heap_alloc_new w5 (Obj.cells #[.int .i64 0, .int .i64 (q : Nat), .int .i64 z, .int .i64 (-1), .slice none 0 0, .slice (gv.map fun g => ⟨g, 0, none⟩) zl cz] 61))
 clear hzf hb5 hHeld hcl
 refine hK _ _ (fun _ => (unhide HSF) _ (unhide HBW)) (fun hcl => ?_)
 (try simp only [Act.put, List.setIfInBounds_toArray, List.set_cons_zero, List.set_cons_succ])
 clear hK K
 have hHeld := (unhide HSF) _ (unhide HBW)
 refine Rq.tk 14 (.agg #[.int .i64 0, .int .i64 (q : Nat), .int .i64 z, .int .i64 (-1), .slice none 0 0, .slice (gv.map fun g => ⟨g, 0, none⟩) zl cz]) (Rq.s (Rq.s (Rq.s (Rq.s (Rq.s (Rq.s (Rq.s (Rq.s (Rq.s (Rq.s (Rq.s (Rq.s (Rq.s (Rq.s Rq.z)))))))))))))) (by kernel_rfl) (by kernel_rfl) (by kernel_rfl) (by kernel_rfl) (fun _ _ _ h => h) (by assumption) (by assumption) (by rfl) (fun w hSw => by (try dsimp only at hSw); go_simp) (fun hcl => ?_)
 (try simp only [Act.put, List.setIfInBounds_toArray, List.set_cons_zero, List.set_cons_succ])
 refine Rq.on 15 (Rq.s (Rq.s (Rq.s (Rq.s (Rq.s (Rq.s (Rq.s (Rq.s (Rq.s (Rq.s (Rq.s (Rq.s (Rq.s (Rq.s (Rq.s Rq.z))))))))))))))) (by kernel_rfl) (by assumption) (fun K hK => ?_)
 go_simp
 refine hK _ _ (fun _ => (unhide HSF) _ (unhide HBD)) (fun hcl => ?_)
 (try simp only [Act.put, List.setIfInBounds_toArray, List.set_cons_zero, List.set_cons_succ])
 clear hK K hHeld
 refine Rq.on 16 (Rq.s (Rq.s (Rq.s (Rq.s (Rq.s (Rq.s (Rq.s (Rq.s (Rq.s (Rq.s (Rq.s (Rq.s (Rq.s (Rq.s (Rq.s (Rq.s Rq.z)))))))))))))))) (by kernel_rfl) (by assumption) (fun K hK => ?_)
 refine step_append_lies _ rfl (.tmp 20) (.tmp 34) 56 rfl B 61 i0 _ 6 80 Tryz.underlying56 (unhide HI) (unhide HZ0) (unhide HZ1) (unhide HZ2) rfl (by omega) (.slice none 0 0) 0 [] rfl ⟨rfl, .inl ⟨rfl, rfl⟩⟩ _ 1 1 [.int .i64 0, .int .i64 (q : Nat), .int .i64 z, .int .i64 (-1), .slice none 0 0, .slice (gv.map fun g => ⟨g, 0, none⟩) zl cz] rfl rfl (World.news_of_block (unhide HBK)) (by simp [Value.oneCell']) (by omega) (by unfold maxLen; omega) (by omega) (Nat.le_trans hB (unhide HBD).size) _ rfl ?_
 intro gA cA w6 hoA hgA hatA hltA
 have HOA := hide hoA
 have HGA := hide hgA
 have HAT := hide hatA
 have hnn := fun (b : Nat) (h1 : b < w.heap.size) => (hgA.block b (Nat.lt_of_lt_of_le h1 (unhide HBD).size) (fun e => by cases e))
 have hS6 := Rm.five2 ((unhide HSF) _ (unhide HBD)) (hnn bm hbm) (hnn b3 hb3) (hnn b1 hb1) (hnn b2 hb2)
 have z4 := hS6.1
 have z5 := ((Xr.frz_kept (hnn bm hbm) 7).trans ((unhide HBD).frozen (p := ⟨bm, 7, none⟩) hbm)).trans hf
 clear hatA hltA hoA hgA hnn
 refine hK _ _ (fun _ => hS6) (fun hcl => ?_)
 (try simp only [Act.put, List.setIfInBounds_toArray, List.set_cons_zero, List.set_cons_succ])
 clear hK K
 have hHeld := hS6
 refine Rq.tk 17 (.pointer (some ⟨bm, 7, none⟩)) (Rq.s (Rq.s (Rq.s (Rq.s (Rq.s (Rq.s (Rq.s (Rq.s (Rq.s (Rq.s (Rq.s (Rq.s (Rq.s (Rq.s (Rq.s (Rq.s (Rq.s Rq.z))))))))))))))))) (by kernel_rfl) (by kernel_rfl) (by kernel_rfl) (by kernel_rfl) (fun _ _ _ h => h) (by assumption) (by assumption) (by rfl) (fun w hSw => by (try dsimp only at hSw); go_simp) (fun hcl => ?_)
 (try simp only [Act.put, List.setIfInBounds_toArray, List.set_cons_zero, List.set_cons_succ])
 refine Rq.on 18 (Rq.s (Rq.s (Rq.s (Rq.s (Rq.s (Rq.s (Rq.s (Rq.s (Rq.s (Rq.s (Rq.s (Rq.s (Rq.s (Rq.s (Rq.s (Rq.s (Rq.s (Rq.s Rq.z)))))))))))))))))) (by kernel_rfl) (by assumption) (fun K hK => ?_)
 go_simp
 refine hK _ _ (fun e => absurd e (by decide)) (fun hcl => ?_)
 (try simp only [Act.put, List.setIfInBounds_toArray, List.set_cons_zero, List.set_cons_succ])
 refine Rq.done (by kernel_rfl) ?_ _
 have HB := hide (Rm.Nf.mk (unhide HZF) (unhide HBW) (unhide HGA) (unhide HOA) (unhide HAT) : Rm.Nf w _ bm B none 0 0 [] 0 q z zl zs)
 exact ⟨rfl, ⟨by rw [unhide HTL]; rfl, fun k hk => by rw [unhide HTL]; rcases (show k = 0 ∨ k = 1 ∨ k = 2 ∨ k = 3 ∨ k = 4 ∨ k = 5 ∨ k = 6 ∨ k = 7 ∨ k = 8 ∨ k = 9 by omega) with rfl | rfl | rfl | rfl | rfl | rfl | rfl | rfl | rfl | rfl <;> rfl⟩, unhide HB⟩
theorem rr_r4 (hT : T.size = 61)
  (hQ : ∀ T', (Fq.Kp 10 T T' ∧ T'[10]? = some (.int .i64 0)) → Q .normal ⟨T', []⟩ (w)) : (Fq.reg Tryz.f8 4).wp Tryz.prog Q ⟨T, []⟩ w := by
 have hu : undef = Value.tuple #[] := rfl
 have HQ := hide hQ
 clear hQ
 conv => arg 2; whnf
 go_wp2_with fail
 exact (unhide HQ) _ ⟨(by (repeat (with_reducible refine Fq.Kp.set ?_ (by decide) _)); with_reducible exact Fq.Kp.refl _ _), Fq.set_at _ (by simp [hT]) _⟩
theorem rr_r5 {n : Nat} {ov lo VB : Bool} (hT : T.size = 61) (s9 : T[9]? = some (.pointer (some ⟨bm, 0, none⟩))) (s10 : T[10]? = some (.int .i64 (n : Nat))) (h9 : w.cell? ⟨bm, 9, none⟩ = some (.bool ov)) (h10 : w.cell? ⟨bm, 10, none⟩ = some (.bool lo)) (hVB : VB = (decide (n < 50000) && !ov && !lo))
  (hQ : ∀ T', (Fq.Kp 11 T T' ∧ T'[48]? = some (.bool VB)) → Q .normal ⟨T', []⟩ (w)) : (Fq.reg Tryz.f8 5).wp Tryz.prog Q ⟨T, []⟩ w := by
 have a9 := fun h => Fq.el s9 h
 have d9 := Fq.gd s9
 have a10 := fun h => Fq.el s10 h
 have d10 := Fq.gd s10
 have hu : undef = Value.tuple #[] := rfl
 have HQ := hide hQ
 clear hQ
 conv => arg 2; whnf
 by_cases hR : (n : Int) < 50000
 · have hn : n < 50000 := by omega
   cases ov with
   | true =>
    have HV3 := hide (show VB = false by rw [hVB, decide_eq_true hn]; rfl)
    clear hVB
    go_wp2_with fail
    exact (unhide HQ) _ ⟨(by (repeat (with_reducible refine Fq.Kp.set ?_ (by decide) _)); with_reducible exact Fq.Kp.refl _ _), (Fq.set_at _ (by simp [hT]) _).trans (by rw [unhide HV3] <;> rfl)⟩
   | false =>
    cases lo with
    | true =>
     have HV3 := hide (show VB = false by rw [hVB, decide_eq_true hn]; rfl)
     clear hVB
     go_wp2_with fail
     exact (unhide HQ) _ ⟨(by (repeat (with_reducible refine Fq.Kp.set ?_ (by decide) _)); with_reducible exact Fq.Kp.refl _ _), (Fq.set_at _ (by simp [hT]) _).trans (by rw [unhide HV3] <;> rfl)⟩
    | false =>
     have HV3 := hide (show VB = true by rw [hVB, decide_eq_true hn]; rfl)
     clear hVB
     go_wp2_with fail
     exact (unhide HQ) _ ⟨(by (repeat (with_reducible refine Fq.Kp.set ?_ (by decide) _)); with_reducible exact Fq.Kp.refl _ _), (Fq.set_at _ (by simp [hT]) _).trans (by rw [unhide HV3] <;> rfl)⟩
 · have hn : ¬ n < 50000 := by omega
   have HV3 := hide (show VB = false by rw [hVB, decide_eq_false hn]; rfl)
   clear hVB
   go_wp2_with fail
   exact (unhide HQ) _ ⟨(by (repeat (with_reducible refine Fq.Kp.set ?_ (by decide) _)); with_reducible exact Fq.Kp.refl _ _), (Fq.set_at _ (by simp [hT]) _).trans (by rw [unhide HV3] <;> rfl)⟩
theorem rr_r6 {i : Nat} (hT : T.size = 61) (s10 : T[10]? = some (.int .i64 (i : Nat))) (hi : i ≤ 35184372088832)
  (hQ : ∀ T', (Fq.Kp 10 T T' ∧ T'[10]? = some (.int .i64 ((i + 1 : Nat) : Int))) → Q .normal ⟨T', []⟩ (w)) : (Fq.reg Tryz.f8 6).wp Tryz.prog Q ⟨T, []⟩ w := by
 have a10 := fun h => Fq.el s10 h
 have d10 := Fq.gd s10
 have hu : undef = Value.tuple #[] := rfl
 have HQ := hide hQ
 clear hQ
 conv => arg 2; whnf
 go_wp2_with fail
 exact (unhide HQ) _ ⟨(by (repeat (with_reducible refine Fq.Kp.set ?_ (by decide) _)); with_reducible exact Fq.Kp.refl _ _), (Fq.set_at _ (by simp [hT]) _).trans (congrArg some (by go_num))⟩
theorem rr_r7 (hT : T.size = 61) (s9 : T[9]? = some (.pointer (some ⟨bm, 0, none⟩))) {R : World → Prop} (hc : Calls Tryz.prog 22 #[.pointer (some ⟨bm, 0, none⟩)] w fun r w' => r = .returned (.tuple #[]) ∧ R w')
  (hQ : ∀ T' w', (Fq.Kp 11 T T' ∧ R w') → Q .normal ⟨T', []⟩ w') : (Fq.reg Tryz.f8 7).wp Tryz.prog Q ⟨T, []⟩ w := by
 have a9 := fun h => Fq.el s9 h
 have d9 := Fq.gd s9
 have hu : undef = Value.tuple #[] := rfl
 have HQ := hide hQ
 clear hQ
 conv => arg 2; whnf
 have HC := hide hc
 clear hc
 go_wp2_with (with_reducible refine (Calls.mono (unhide HC) ?_); rintro r w2 ⟨rfl, hb2⟩; have HB := hide hb2; clear hb2)
 exact (unhide HQ) _ _ ⟨(by (repeat (with_reducible refine Fq.Kp.set ?_ (by decide) _)); with_reducible exact Fq.Kp.refl _ _), unhide HB⟩
theorem rr_r8 {ov lo VB : Bool} (hT : T.size = 61) (s9 : T[9]? = some (.pointer (some ⟨bm, 0, none⟩))) (h9 : w.cell? ⟨bm, 9, none⟩ = some (.bool ov)) (h10 : w.cell? ⟨bm, 10, none⟩ = some (.bool lo)) (hVB : VB = (lo || !ov))
  (hQ : ∀ T', (Fq.Kp 11 T T' ∧ T'[58]? = some (.bool VB)) → Q .normal ⟨T', []⟩ (w)) : (Fq.reg Tryz.f8 8).wp Tryz.prog Q ⟨T, []⟩ w := by
 have a9 := fun h => Fq.el s9 h
 have d9 := Fq.gd s9
 have hu : undef = Value.tuple #[] := rfl
 have HQ := hide hQ
 clear hQ
 conv => arg 2; whnf
 cases lo with
 | true =>
  have HV3 := hide (show VB = true by rw [hVB]; rfl)
  clear hVB
  go_wp2_with fail
  exact (unhide HQ) _ ⟨(by (repeat (with_reducible refine Fq.Kp.set ?_ (by decide) _)); with_reducible exact Fq.Kp.refl _ _), (Fq.set_at _ (by simp [hT]) _).trans (by rw [unhide HV3] <;> rfl)⟩
 | false =>
  cases ov with
  | true =>
   have HV3 := hide (show VB = false by rw [hVB]; rfl)
   clear hVB
   go_wp2_with fail
   exact (unhide HQ) _ ⟨(by (repeat (with_reducible refine Fq.Kp.set ?_ (by decide) _)); with_reducible exact Fq.Kp.refl _ _), (Fq.set_at _ (by simp [hT]) _).trans (by rw [unhide HV3] <;> rfl)⟩
  | false =>
   have HV3 := hide (show VB = true by rw [hVB]; rfl)
   clear hVB
   go_wp2_with fail
   exact (unhide HQ) _ ⟨(by (repeat (with_reducible refine Fq.Kp.set ?_ (by decide) _)); with_reducible exact Fq.Kp.refl _ _), (Fq.set_at _ (by simp [hT]) _).trans (by rw [unhide HV3] <;> rfl)⟩
theorem rr_r9 (hT : T.size = 61)
  (hQ : ∀ T', (Fq.Kp 6 T T' ∧ T'[6]? = some (.slice none 0 0) ∧ T'[7]? = some (.bool false)) → Q .normal ⟨T', []⟩ (w)) : (Fq.reg Tryz.f8 9).wp Tryz.prog Q ⟨T, []⟩ w := by
 have hu : undef = Value.tuple #[] := rfl
 have HQ := hide hQ
 clear hQ
 conv => arg 2; whnf
 go_wp2_with fail
 exact (unhide HQ) _ ⟨(by (repeat (with_reducible refine Fq.Kp.set ?_ (by decide) _)); with_reducible exact Fq.Kp.refl _ _), by simp [hT], by simp [hT]⟩
theorem rr_r10 {el ec : Nat} {ea : Option Addr} (hT : T.size = 61) (s9 : T[9]? = some (.pointer (some ⟨bm, 0, none⟩))) (h8 : w.cell? ⟨bm, 8, none⟩ = some (.slice ea el ec))
  (hQ : ∀ T', (Fq.Kp 6 T T' ∧ T'[6]? = some (.slice ea el ec) ∧ T'[7]? = some (.bool true)) → Q .normal ⟨T', []⟩ (w)) : (Fq.reg Tryz.f8 10).wp Tryz.prog Q ⟨T, []⟩ w := by
 have a9 := fun h => Fq.el s9 h
 have d9 := Fq.gd s9
 have hu : undef = Value.tuple #[] := rfl
 have HQ := hide hQ
 clear hQ
 conv => arg 2; whnf
 go_wp2_with fail
 exact (unhide HQ) _ ⟨(by (repeat (with_reducible refine Fq.Kp.set ?_ (by decide) _)); with_reducible exact Fq.Kp.refl _ _), by simp [hT], by simp [hT]⟩
end
end Go.Proofs.YtpfogjplnodacaaGreat
