/- By the verifier. -/
import Derived.Test.YtfccpddehpgfoaaGreatDoorTGo
import Derived.Deep.RegionHeld3
namespace Go.Proofs.YtfccpddehpgfoaaGreatDoor
open Go.RowKit
set_option linter.unusedVariables false
def Rq.dep (md : Region.Mode) (ops : Array Oper) : Nat → Nat → Nat → Bool
 | 0, _, _ => false
 | k + 1, j, i => match ops[j]? with
  | none => false
  | some o => o.after.any fun e => Region.binds md e && (e.on == i || Rq.dep md ops k e.on i)
section
variable {P : Program} {md : Region.Mode} {ops : Array Oper} {Q : Exit → Act → World → Prop} {late : Nat → Bool} {S : World → Prop}
def Rq.Cl (md : Region.Mode) (ops : Array Oper) (listed : Array Bool) : Prop := ∀ (j : Nat) (oj : Oper), ops[j]? = some oj → listed.getD j false = true → ∀ e ∈ oj.after, Region.binds md e = true → listed.getD e.on false = true
theorem Rq.Cl.dep {listed : Array Bool} (h : Rq.Cl md ops listed) : ∀ (k j i : Nat), listed.getD j false = true → Rq.dep md ops k j i = true → listed.getD i false = true
 | 0, j, i, _, hd => by cases hd
 | k + 1, j, i, hj, hd => by
  unfold Rq.dep at hd
  cases ho : ops[j]? with
  | none => rw [ho] at hd; cases hd
  | some o =>
   rw [ho] at hd
   obtain ⟨e, he, hb⟩ := Array.any_eq_true'.1 hd
   rw [Bool.and_eq_true, Bool.or_eq_true] at hb
   have h1 := h j o ho hj e he hb.1
   rcases hb.2 with h2 | h2
   · have h3 : e.on = i := by simpa using h2
     rw [← h3]; exact h1
   exact h.dep k e.on i h1 h2
theorem Rq.Cl.ready {listed : Array Bool} (h : Rq.Cl md ops listed) {j i k : Nat} (hj : j ∈ Region.ready md ops listed) (hd : Rq.dep md ops k j i = true) : listed.getD i false = true := by
 obtain ⟨_, o, ho, hall⟩ := mem_ready.1 hj
 cases k with
 | zero => cases hd
 | succ k =>
  unfold Rq.dep at hd
  rw [ho] at hd
  obtain ⟨e, he, hb⟩ := Array.any_eq_true'.1 hd
  rw [Bool.and_eq_true, Bool.or_eq_true] at hb
  have h1 := hall e he hb.1
  rcases hb.2 with h2 | h2
  · have h3 : e.on = i := by simpa using h2
    rw [← h3]; exact h1
  exact h.dep k e.on i h1 h2
theorem Rq.Cl.next {listed : Array Bool} (h : Rq.Cl md ops listed) {j : Nat} (hj : j ∈ Region.ready md ops listed) : Rq.Cl md ops (listed.setIfInBounds j true) := by
 intro k ok hk hl e he hb
 by_cases hkj : k = j
 · subst hkj
   obtain ⟨_, o, ho, hall⟩ := mem_ready.1 hj
   rw [ho] at hk
   cases hk
   exact getD_set_true (hall e he hb)
 rw [getD_set_ne false (Ne.symm hkj)] at hl
 exact getD_set_true (h k ok hk hl e he hb)
theorem Rq.Cl.none (n : Nat) : Rq.Cl md ops (Array.replicate n false) := by
 intro j oj _ hl
 simp [Array.getD] at hl
def Rq.any (P : Program) (md : Region.Mode) (ops : Array Oper) (Q : Exit → Act → World → Prop) (late : Nat → Bool) (S : World → Prop) : Nat → Array Bool → Act → World → Prop
 | 0, listed, a, w => Region.ready md ops listed = [] ∧ Q .normal a w
 | fuel + 1, listed, a, w =>
  (Region.ready md ops listed = [] → Q .normal a w) ∧
  ∀ i ∈ Region.ready md ops listed, wpOp P ops Q i (fun a' w' => (late i = false → S w') ∧ Rq.any P md ops Q late S fuel (listed.setIfInBounds i true) a' w') a w
theorem ZhJ : ∀ (fuel : Nat) (listed : Array Bool) (a : Act) (w : World), Rq.any P md ops Q late S fuel listed a w → wpAny P md ops Q fuel listed a w
 | 0, _, _, _, h => h
 | fuel + 1, _, _, _, h => ⟨h.1, fun i hi => wpOp_mono (fun a' w' h' => ZhJ fuel _ a' w' h'.2) (h.2 i hi)⟩
theorem Rq.first {N i : Nat} {oi : Oper} {v : Value} (hi : ops[i]? = some oi) (hsel : ∀ (j : Nat) (o : Oper) cs b, ops[j]? = some o → o.op ≠ .select cs b)
  (hQ : ∀ c a w, Q (.panic c) (a.put oi.dst v) w → Q (.panic c) a w) (hlate : ∀ j, late j = true → Rq.dep md ops N j i = true) :
  ∀ (fuel : Nat) (listed : Array Bool) (a : Act) (w : World),
   (∀ j oj, ops[j]? = some oj → j ≠ i → listed.getD j true = false → (∀ e ∈ oj.after, Region.binds md e = true → e.on ≠ i) → oi.apart ops oj = true) →
   Rq.Cl md ops listed → i ∈ Region.ready md ops listed → YieldsIf P ops S oi v a → S w →
   Rq.any P md ops Q late S fuel (listed.setIfInBounds i true) (a.put oi.dst v) w → Rq.any P md ops Q late S (fuel + 1) listed a w := by
 intro fuel
 induction fuel with
 | zero =>
  intro listed a w _ _ hr hy hS H
  refine ⟨fun h => (by rw [h] at hr; cases hr), fun j hj => ?_⟩
  by_cases hji : j = i
  · subst hji; exact hy.wpOp hi hS ⟨fun _ => hS, H⟩
  have := ready_mono hj hji
  rw [H.1] at this
  cases this
 | succ fuel ih =>
  intro listed a w hfree hcl hr hy hS H
  refine ⟨fun h => (by rw [h] at hr; cases hr), fun j hj => ?_⟩
  by_cases hji : j = i
  · subst hji; exact hy.wpOp hi hS ⟨fun _ => hS, H⟩
  have h1 := H.2 j (ready_mono hj hji)
  have h0 := (mem_ready.1 hr).1
  have hiu : ¬ listed.getD i false = true := fun e => by
   rcases Nat.lt_or_ge i listed.size with h' | h'
   · simp [h'] at h0 e; rw [h0] at e; cases e
   simp [Array.getElem?_eq_none h'] at e
  have hlj : late j = false := by
   cases hl : late j with
   | false => rfl
   | true => exact absurd (hcl.ready hj (hlate j hl)) hiu
  obtain ⟨hjun, oj, hoj, hall⟩ := mem_ready.1 hj
  have hnot : ∀ e ∈ oj.after, Region.binds md e = true → e.on ≠ i := fun e he hb heq => by
   have h1 := hall e he hb
   rw [heq] at h1
   exact hiu h1
  have h2 := wpOp_putIf hoj (hfree j oj hoj hji hjun hnot) (fun cs b => hsel i oi cs b hi) (fun cs b => hsel j oj cs b hoj) hQ hy h1
  have hfree' : ∀ k ok, ops[k]? = some ok → k ≠ i → (listed.setIfInBounds j true).getD k true = false →
    (∀ e ∈ ok.after, Region.binds md e = true → e.on ≠ i) → oi.apart ops ok = true := fun k ok hk hki hun hno => by
   refine hfree k ok hk hki ?_ hno
   by_cases hjk : j = k
   · subst hjk; exact hjun
   rw [getD_set_ne true hjk] at hun; exact hun
  refine wpOp_mono (fun a' w' h3 => ⟨fun _ => h3.2.1 hlj, ih (listed.setIfInBounds j true) a' w' hfree' (hcl.next hj) (ready_mono hr (Ne.symm hji)) h3.1 (h3.2.1 hlj) ?_⟩) h2
  rw [Array.setIfInBounds_comm _ _ hji]
  exact h3.2.2
theorem Rq.take (i : Nat) {oi : Oper} {v : Value} {fuel : Nat} {listed : Array Bool} {a : Act} {w : World} (hi : ops[i]? = some oi)
  (hs : Region.noSelect ops = true) (hf : Region.free md ops listed i = true) (hr : (Region.ready md ops listed).contains i = true) (hlate : ∀ j, late j = true → Rq.dep md ops ops.size j i = true)
  (hQ : ∀ c a w, Q (.panic c) (a.put oi.dst v) w → Q (.panic c) a w) (hcl : Rq.Cl md ops listed) (hy : YieldsIf P ops S oi v a) (hS : S w)
  (h : Rq.Cl md ops (listed.setIfInBounds i true) → Rq.any P md ops Q late S fuel (listed.setIfInBounds i true) (a.put oi.dst v) w) : Rq.any P md ops Q late S (fuel + 1) listed a w :=
 Rq.first hi (Region.noSelect_spec hs) hQ hlate fuel listed a w (Region.free_spec hi hf) hcl (by simpa using hr) hy hS (h (hcl.next (by simpa using hr)))
theorem Rq.one (j : Nat) {o : Oper} {fuel : Nat} {listed : Array Bool} {a : Act} {w : World} (hr : Region.ready md ops listed = [j]) (ho : ops[j]? = some o) (hcl : Rq.Cl md ops listed)
  (h : ∀ K : Act → World → Prop, (∀ a' w', (late j = false → S w') → (Rq.Cl md ops (listed.setIfInBounds j true) → Rq.any P md ops Q late S fuel (listed.setIfInBounds j true) a' w') → K a' w') → if Region.wanted o (yielded ops a.tmps) = true then Oper.wp P o a w K Q else K (a.put o.dst undef) w) : Rq.any P md ops Q late S (fuel + 1) listed a w := by
 have hj : j ∈ Region.ready md ops listed := by rw [hr]; exact List.mem_singleton.2 rfl
 refine ⟨fun e => (by rw [hr] at e; cases e), fun i hi => ?_⟩
 rw [hr] at hi
 have hij : i = j := by simpa using hi
 subst hij
 have h1 := h _ (fun a' w' h1 h2 => (⟨h1, h2 (hcl.next hj)⟩ : (late i = false → S w') ∧ Rq.any P md ops Q late S fuel (listed.setIfInBounds i true) a' w'))
 unfold wpOp
 simp only [ho]
 split
 · rename_i hw
   rw [if_pos hw] at h1
   exact .inl h1
 rename_i hw
 rw [if_neg hw] at h1
 exact h1
theorem Rq.done {listed : Array Bool} {a : Act} {w : World} (hr : Region.ready md ops listed = []) (h : Q .normal a w) : ∀ fuel, Rq.any P md ops Q late S fuel listed a w
 | 0 => ⟨hr, h⟩
 | _ + 1 => ⟨fun _ => h, by rw [hr]; simp⟩
theorem ZbA (late : Nat → Bool) (S : World → Prop) {id : Nat} {a : Act} {w : World} (hm : P.follows .mixedOrders = true) (hS : S w.drew)
  (h : S w.drew → Rq.Cl .any ops (Array.replicate ops.size false) → Rq.any P .any ops Q late S ops.size (Array.replicate ops.size false) a w.drew) : (Code.region id ops true).wp P Q a w :=
 wp_region_any hm (ZhJ _ _ _ _ (h hS (Rq.Cl.none _)))
end
def Rq.Nth (l : List Oper) (i : Nat) (o : Oper) : Prop := l[i]? = some o
theorem Rq.z {o : Oper} {l : List Oper} : Rq.Nth (o :: l) 0 o := rfl
theorem Rq.s {x o : Oper} {l : List Oper} {i : Nat} (h : Rq.Nth l i o) : Rq.Nth (x :: l) (i + 1) o := h
theorem Rq.Nth.is {l : List Oper} {i : Nat} {o : Oper} (h : Rq.Nth l i o) : l.toArray[i]? = some o := by rw [List.getElem?_toArray]; exact h
section
variable {P : Program} {md : Region.Mode} {l : List Oper} {Q : Exit → Act → World → Prop} {n : Nat} {S : World → Prop}
theorem Rq.tk (i : Nat) (v : Value) {oi : Oper} {fuel : Nat} {listed : Array Bool} {a : Act} {w : World} (hi : Rq.Nth l i oi)
  (hs : Region.noSelect l.toArray = true) (hf : Region.free md l.toArray listed i = true) (hr : (Region.ready md l.toArray listed).contains i = true) (hlate : Rq.dep md l.toArray l.toArray.size n i = true)
  (hQ : ∀ c a w, Q (.panic c) (a.put oi.dst v) w → Q (.panic c) a w) (hcl : Rq.Cl md l.toArray listed) (hS : S w) (hw : Region.wanted oi (yielded l.toArray a.tmps) = true) (hy : ∀ w, S w → (execOp a.eval oi).run P w = .ok (.value v) w)
  (h : Rq.Cl md l.toArray (listed.setIfInBounds i true) → Rq.any P md l.toArray Q (fun j => Nat.beq j n) S fuel (listed.setIfInBounds i true) (a.put oi.dst v) w) : Rq.any P md l.toArray Q (fun j => Nat.beq j n) S (fuel + 1) listed a w :=
 Rq.take i hi.is hs hf hr (fun j hj => by have e : j = n := Nat.eq_of_beq_eq_true hj; rw [e]; exact hlate) hQ hcl (.inl ⟨hw, hy⟩) hS h
theorem Rq.on (j : Nat) {o : Oper} {fuel : Nat} {listed : Array Bool} {a : Act} {w : World} (ho : Rq.Nth l j o) (hr : Region.ready md l.toArray listed = [j]) (hcl : Rq.Cl md l.toArray listed)
  (h : ∀ K : Act → World → Prop, (∀ a' w', (Nat.beq j n = false → S w') → (Rq.Cl md l.toArray (listed.setIfInBounds j true) → Rq.any P md l.toArray Q (fun j => Nat.beq j n) S fuel (listed.setIfInBounds j true) a' w') → K a' w') → if Region.wanted o (yielded l.toArray a.tmps) = true then Oper.wp P o a w K Q else K (a.put o.dst undef) w) : Rq.any P md l.toArray Q (fun j => Nat.beq j n) S (fuel + 1) listed a w :=
 Rq.one j hr ho.is hcl h
end
structure Tp.Ls {α β : Type} (l : List Tp.T) (ta : Option Addr) (c bp : Nat) (e : Int) (fb pb xa : Nat) (xv : Value) (k : Nat) (ty : TypeId) (wide : Nat) (cl : α → List Value) (R : World → α → β → Prop) (b : Nat) (W0 : World) (v : Value) (es : List α) (acc : List β) (i : Nat) (W : World) : Prop where
 at_ : Tp.J l ta c bp e W i b
 tu : Tp.Tu (fun q => q = bp ∨ q = fb) W0.heap.size W0 W
 box : W.cell? ⟨fb, k, none⟩ = some v
 oth : ∀ j, j ≠ k → W.cell? ⟨fb, j, none⟩ = W0.cell? ⟨fb, j, none⟩
 fz : ∀ j, W.frozen? ⟨fb, j, none⟩ = false
 par : W.cell? ⟨pb, 0, none⟩ = some (.pointer (some ⟨bp, 0, none⟩))
 arg : W.cell? ⟨xa, 0, none⟩ = some xv
 row : Tp.Rw W0.heap.size bp W ty wide cl R v es acc
 pos : bp < fb ∧ fb < W0.heap.size ∧ bp < pb ∧ pb < W0.heap.size ∧ pb ≠ fb
 pox : bp < xa ∧ xa < W0.heap.size ∧ xa ≠ fb
section
variable {α β : Type} {l : List Tp.T} {ta : Option Addr} {c bp : Nat} {e : Int} {fb pb xa : Nat} {xv : Value} {k : Nat} {ty : TypeId} {wide : Nat} {cl : α → List Value} {R : World → α → β → Prop} {b b' : Nat} {W0 W W1 : World} {v : Value} {es : List α} {acc : List β} {i j : Nat}
theorem Tp.Ls.step (h : Tp.Ls l ta c bp e fb pb xa xv k ty wide cl R b W0 v es acc i W) (hj : Tp.J l ta c bp e W1 j b') (ht : Tp.Tu (ZaA bp) W.heap.size W W1) : Tp.Ls l ta c bp e fb pb xa xv k ty wide cl R b' W0 v es acc j W1 := by
 obtain ⟨p1, p2, p3, p4, p5⟩ := h.pos
 obtain ⟨p6, p7, p8⟩ := h.pox
 have hz := h.tu.size
 have hfb : W1.heap[fb]? = W.heap[fb]? := ht.block fb (by omega) (by show ¬ fb = bp; omega)
 have hpb : W1.heap[pb]? = W.heap[pb]? := ht.block pb (by omega) (by show ¬ pb = bp; omega)
 have hxa : W1.heap[xa]? = W.heap[xa]? := ht.block xa (by omega) (by show ¬ xa = bp; omega)
 have hc : ∀ j, W1.cell? ⟨fb, j, none⟩ = W.cell? ⟨fb, j, none⟩ := fun j => Zc (a := ⟨fb, j, none⟩) hfb
 exact ⟨hj, h.tu.then ht hz (fun q _ hq => Or.inl hq), (hc k).trans h.box, fun j hj => (hc j).trans (h.oth j hj), fun j => (Zf (a := ⟨fb, j, none⟩) hfb).trans (h.fz j),
  (Zc (a := ⟨pb, 0, none⟩) hpb).trans h.par, (Zc (a := ⟨xa, 0, none⟩) hxa).trans h.arg, h.row.kept ht.size (by omega) (fun q h1 h2 => ht.block q h2 (by show ¬ q = bp; omega)), h.pos, h.pox⟩
theorem Tp.Ls.app (h : Tp.Ls l ta c bp e fb pb xa xv k ty wide cl R b W0 v es acc i W) {E : α} {x : β} {W6 : World} (hE : Tp.Ow W0.heap.size (Tp.blk bp v) W (fun W => R W E x)) (hg : W.grownBy W6 v.ownBlock) {g cc : Nat}
  (ho : W6.ownsRow W0.heap.size ty wide (.slice (some ⟨g, 0, none⟩) (es.length + 1) cc) (es.length + 1) (es.flatMap cl ++ cl E)) (hat : v.ownBlock = some g ∨ W.heap.size ≤ g) :
  Tp.Ls l ta c bp e fb pb xa xv k ty wide cl R b W0 (.slice (some ⟨g, 0, none⟩) (es.length + 1) cc) (es ++ [E]) (acc ++ [x]) i (W6.setCell ⟨fb, k, none⟩ (.slice (some ⟨g, 0, none⟩) (es.length + 1) cc)) := by
 obtain ⟨p1, p2, p3, p4, p5⟩ := h.pos
 obtain ⟨p6, p7, p8⟩ := h.pox
 have hz := h.tu.size
 have hlow : ∀ q, q < W0.heap.size → W6.heap[q]? = W.heap[q]? := fun q hq => hg.block q (by omega) (fun e => by have := (h.row.row.lt q e.symm).1; omega)
 have hc : ∀ j, W6.cell? ⟨fb, j, none⟩ = W.cell? ⟨fb, j, none⟩ := fun j => Zc (a := ⟨fb, j, none⟩) (hlow fb p2)
 have hS : ∀ q, q ≠ fb → (W6.setCell ⟨fb, k, none⟩ (.slice (some ⟨g, 0, none⟩) (es.length + 1) cc)).heap[q]? = W6.heap[q]? := fun q hq => Below.heap_setCell _ _ _ _ hq
 have hsz : (W6.setCell ⟨fb, k, none⟩ (.slice (some ⟨g, 0, none⟩) (es.length + 1) cc)).heap.size = W6.heap.size := by simp [World.setCell]
 have hrow := h.row.app hE hg.size (by omega) (fun q _ h2 h3 => hg.block q h2 (fun e => h3 e.symm)) ho hat
 refine ⟨?_, ?_, ?_, fun j hj => ?_, fun j => ?_, ?_, ?_, hrow.kept (by omega) (by omega) (fun q h1 _ => hS q (by omega)), h.pos, h.pox⟩
 · exact h.at_.kept (by have := hg.size; omega) (fun q hq => (hS q (by omega)).trans (hlow q (by omega)))
 · exact (h.tu.trans ⟨hg.os, hg.tape, hg.output, hg.size, fun q h1 _ => hlow q h1⟩).set (b := fb) (o := k) _ (fun _ => Or.inr rfl)
 · exact World.cell?_setCell_same _ _ _ ((hc k).trans h.box)
 · exact (Tp.set_ne hj).trans ((hc j).trans (h.oth j hj))
 · rw [World.frozen?_setCell]
   exact (Zf (a := ⟨fb, j, none⟩) (hlow fb p2)).trans (h.fz j)
 · exact (Zc (a := ⟨pb, 0, none⟩) ((hS pb p5).trans (hlow pb p4))).trans h.par
 exact (Zc (a := ⟨xa, 0, none⟩) ((hS xa p8).trans (hlow xa p7))).trans h.arg
end
def ZgP {α β : Type} (l : List Tp.T) (ta : Option Addr) (c bp : Nat) (e : Int) (fb pb xa : Nat) (xv : Value) (k : Nat) (ty : TypeId) (wide : Nat) (cl : α → List Value) (R : World → α → β → Prop) (b : Nat) (W0 : World) (es : List α) (acc : List β) (o : Except Nat (β × Nat)) (r : Ending) (w' : World) : Prop :=
 match o with
 | .error j => r = .panicked (Zdp (Zaz l e j)) ∧ Tp.Tu (fun q => q = bp ∨ q = fb) W0.heap.size W0 w'
 | .ok (x, j) => r = .returned (.tuple #[]) ∧ ∃ v' E, Tp.Ls l ta c bp e fb pb xa xv k ty wide cl R b W0 v' (es ++ [E]) (acc ++ [x]) j w'
def Zgl (s : ByteArray) : List Value := [.string s]
theorem Zf1 : (Tryz.prog.info? 9).map (fun i => (i.zero, i.size, i.bytes)) = some (some (.string ⟨#[]⟩), 1, 16) := by kernel_rfl
section
variable {P : Program} {md : Region.Mode} {ops : Array Oper} {Q : Exit → Act → World → Prop} {late : Nat → Bool} {S : World → Prop}
theorem Rq.op {j : Nat} {o : Oper} {fuel : Nat} {listed : Array Bool} {a : Act} {w : World} (hj : j ∈ Region.ready md ops listed) (ho : ops[j]? = some o) (hcl : Rq.Cl md ops listed)
  (h : ∀ K : Act → World → Prop, (∀ a' w', (late j = false → S w') → (Rq.Cl md ops (listed.setIfInBounds j true) → Rq.any P md ops Q late S fuel (listed.setIfInBounds j true) a' w') → K a' w') → if Region.wanted o (yielded ops a.tmps) = true then Oper.wp P o a w K Q else K (a.put o.dst undef) w) :
  wpOp P ops Q j (fun a' w' => (late j = false → S w') ∧ Rq.any P md ops Q late S fuel (listed.setIfInBounds j true) a' w') a w := by
 have h1 := h _ (fun a' w' h1 h2 => (⟨h1, h2 (hcl.next hj)⟩ : (late j = false → S w') ∧ Rq.any P md ops Q late S fuel (listed.setIfInBounds j true) a' w'))
 unfold wpOp
 simp only [ho]
 split
 · rename_i hw
   rw [if_pos hw] at h1
   exact .inl h1
 rename_i hw
 rw [if_neg hw] at h1
 exact h1
theorem Rq.two (j k : Nat) {oj ok : Oper} {fuel : Nat} {listed : Array Bool} {a : Act} {w : World} (hoj : ops[j]? = some oj) (hok : ops[k]? = some ok) (hr : Region.ready md ops listed = [j, k]) (hcl : Rq.Cl md ops listed)
  (hJ : ∀ K : Act → World → Prop, (∀ a' w', (late j = false → S w') → (Rq.Cl md ops (listed.setIfInBounds j true) → Rq.any P md ops Q late S fuel (listed.setIfInBounds j true) a' w') → K a' w') → if Region.wanted oj (yielded ops a.tmps) = true then Oper.wp P oj a w K Q else K (a.put oj.dst undef) w)
  (hK : ∀ K : Act → World → Prop, (∀ a' w', (late k = false → S w') → (Rq.Cl md ops (listed.setIfInBounds k true) → Rq.any P md ops Q late S fuel (listed.setIfInBounds k true) a' w') → K a' w') → if Region.wanted ok (yielded ops a.tmps) = true then Oper.wp P ok a w K Q else K (a.put ok.dst undef) w) :
  Rq.any P md ops Q late S (fuel + 1) listed a w := by
 have hjm : j ∈ Region.ready md ops listed := by rw [hr]; simp
 have hkm : k ∈ Region.ready md ops listed := by rw [hr]; simp
 refine ⟨fun e => (by rw [hr] at e; cases e), fun i hi => ?_⟩
 rw [hr] at hi
 rcases List.mem_cons.1 hi with hi | hi
 · subst hi
   exact Rq.op hjm hoj hcl hJ
 have hik : i = k := by simpa using hi
 subst hik
 exact Rq.op hkm hok hcl hK
end
section
variable {α β : Type} {B d : Nat} {W W1 : World} {ty : TypeId} {wide : Nat} {cl : α → List Value} {R : World → α → β → Prop} {v : Value} {es : List α} {xs : List β}
theorem Tp.Rw.last {E F : α} {x : β} {g c : Nat} (h : W.ownsRow B ty wide (.slice (some ⟨g, 0, none⟩) (es.length + 1) c) (es.length + 1) (es.flatMap cl ++ cl E)) (hW : W1.ownsRow B ty wide (.slice (some ⟨g, 0, none⟩) (es.length + 1) c) (es.length + 1) (es.flatMap cl ++ cl F)) (hlen : es.length = xs.length)
  (hown : ∀ (i : Nat) (G : α) (y : β), es[i]? = some G → xs[i]? = some y → Tp.Ow B g W1 (fun W => R W G y)) (hF : Tp.Ow B g W1 (fun W => R W F x)) :
  Tp.Rw B d W1 ty wide cl R (.slice (some ⟨g, 0, none⟩) (es.length + 1) c) (es ++ [F]) (xs ++ [x]) := by
 refine ⟨by rw [Za, List.flatMap_append]; simpa using hW, by rw [Za, Za, hlen]; rfl, fun i G y h1 h2 => ?_⟩
 show Tp.Ow B g W1 _
 by_cases hi : i < es.length
 · rw [List.getElem?_append_left hi] at h1
   rw [List.getElem?_append_left (by rw [← hlen]; exact hi)] at h2
   exact hown i G y h1 h2
 rw [List.getElem?_append_right (by omega)] at h1
 rw [List.getElem?_append_right (by rw [← hlen]; omega), ← hlen] at h2
 have h0 : i - es.length = 0 := by
  have := (List.getElem?_eq_some_iff.1 h1).1
  simp at this
  omega
 rw [h0] at h1 h2
 cases h1
 cases h2
 exact hF
end
theorem Tp.Ow.appE {B d : Nat} {v : Value} {W W6 : World} {P : World → Prop} (h : Tp.Ow B (Tp.blk d v) W P) (hg : W.grownBy W6 v.ownBlock) {g : Nat} (hat : v.ownBlock = some g ∨ W.heap.size ≤ g) : Tp.Ow B g W6 P := fun W' h1 h2 =>
 h W' (Nat.le_trans hg.size h1) (fun q a1 a2 a3 => by
  have hne : v.ownBlock ≠ some q := fun e => a2 (by unfold Tp.blk; rw [e]; rfl)
  refine (h2 q a1 ?_ (Nat.lt_of_lt_of_le a3 hg.size)).trans (hg.block q a3 (fun e => hne e.symm))
  intro e
  rcases hat with h3 | h3
  · exact hne (e ▸ h3)
  omega)
theorem Tp.set5 (L : List Value) (n : Nat) (hL : L.length = n) (z0 z1 z2 z3 z4 a0 a1 a2 a3 a4 : Value) :
  (((((L ++ [z0, z1, z2, z3, z4]).set n a0).set (n + 1) a1).set (n + 2) a2).set (n + 3) a3).set (n + 4) a4 = L ++ [a0, a1, a2, a3, a4] := by
 subst hL
 simp
section
variable {l : List Tp.T} {ta : Option Addr} {c bp : Nat} {e : Int} {fb pb xa : Nat} {xv : Value} {k : Nat} {ty : TypeId} {β : Type} {R : World → Tk.E → β → Prop} {b : Nat} {W0 W : World} {g cc : Nat} {es : List Tk.E} {acc : List β} {Z : Tk.E} {z : β} {i : Nat}
theorem Zh3 (es : List Tk.E) : (es.flatMap Tk.E.cl).length = es.length * 5 := by
 induction es with
 | nil => rfl
 | cons x r ih => rw [List.flatMap_cons, Za, ih, Zo]; show 5 + _ = _; omega
theorem Tp.Ls.lastRow (h : Tp.Ls l ta c bp e fb pb xa xv k ty 5 Tk.E.cl R b W0 (.slice (some ⟨g, 0, none⟩) (es.length + 1) cc) (es ++ [Z]) (acc ++ [z]) i W) :
  W.ownsRow W0.heap.size ty 5 (.slice (some ⟨g, 0, none⟩) (es.length + 1) cc) (es.length + 1) (es.flatMap Tk.E.cl ++ Tk.E.cl Z) := by
 have h1 := h.row.row
 rw [Za, List.flatMap_append] at h1
 simpa using h1
theorem Tp.Ls.lastAt (h : Tp.Ls l ta c bp e fb pb xa xv k ty 5 Tk.E.cl R b W0 (.slice (some ⟨g, 0, none⟩) (es.length + 1) cc) (es ++ [Z]) (acc ++ [z]) i W) :
  (W.cell? ⟨g, es.length * 5, none⟩ = some (.int .i64 Z.k) ∧ W.cell? ⟨g, es.length * 5 + 1, none⟩ = some (.int .i64 Z.a) ∧ W.cell? ⟨g, es.length * 5 + 2, none⟩ = some (.int .i64 Z.n) ∧ W.cell? ⟨g, es.length * 5 + 3, none⟩ = some (.string Z.nm) ∧ W.cell? ⟨g, es.length * 5 + 4, none⟩ = some (.slice Z.args.ad Z.args.len Z.args.cap)) ∧ ∀ j, W.frozen? ⟨g, j, none⟩ = false := by
 have h1 := h.lastRow
 have hl := Zh3 es
 have hc : ∀ j, j < 5 → W.cell? ⟨g, es.length * 5 + j, none⟩ = (Tk.E.cl Z)[j]? := fun j hj => by
  rw [h1.cellAt _ (by omega), List.getElem?_append_right (by omega)]
  congr 1
  omega
 exact ⟨⟨hc 0 (by decide), hc 1 (by decide), hc 2 (by decide), hc 3 (by decide), hc 4 (by decide)⟩, fun j => h1.frozenAt j⟩
theorem Tp.Ls.last (h : Tp.Ls l ta c bp e fb pb xa xv k ty 5 Tk.E.cl R b W0 (.slice (some ⟨g, 0, none⟩) (es.length + 1) cc) (es ++ [Z]) (acc ++ [z]) i W) {E : Tk.E} {x : β} (hE : Tp.Ow W0.heap.size g W (fun W => R W E x)) :
  Tp.Ls l ta c bp e fb pb xa xv k ty 5 Tk.E.cl R b W0 (.slice (some ⟨g, 0, none⟩) (es.length + 1) cc) (es ++ [E]) (acc ++ [x]) i (((((W.setCell ⟨g, es.length * 5, none⟩ (.int .i64 E.k)).setCell ⟨g, es.length * 5 + 1, none⟩ (.int .i64 E.a)).setCell ⟨g, es.length * 5 + 2, none⟩ (.int .i64 E.n)).setCell ⟨g, es.length * 5 + 3, none⟩ (.string E.nm)).setCell ⟨g, es.length * 5 + 4, none⟩ (.slice E.args.ad E.args.len E.args.cap)) := by
 have r0 := h.lastRow
 have hg : W0.heap.size ≤ g := (r0.lt g rfl).1
 obtain ⟨p1, p2, p3, p4, p5⟩ := h.pos
 obtain ⟨p6, p7, p8⟩ := h.pox
 have r5 := ((((r0.stored (es.length * 5) (.int .i64 E.k)).1.stored (es.length * 5 + 1) (.int .i64 E.a)).1.stored (es.length * 5 + 2) (.int .i64 E.n)).1.stored (es.length * 5 + 3) (.string E.nm)).1.stored (es.length * 5 + 4) (.slice E.args.ad E.args.len E.args.cap)
 replace r5 := r5.1
 rw [show Tk.E.cl Z = [.int .i64 Z.k, .int .i64 Z.a, .int .i64 Z.n, .string Z.nm, .slice Z.args.ad Z.args.len Z.args.cap] from rfl, Tp.set5 _ _ (Zh3 es)] at r5
 have hk : ∀ q, q ≠ g → (((((W.setCell ⟨g, es.length * 5, none⟩ (.int .i64 E.k)).setCell ⟨g, es.length * 5 + 1, none⟩ (.int .i64 E.a)).setCell ⟨g, es.length * 5 + 2, none⟩ (.int .i64 E.n)).setCell ⟨g, es.length * 5 + 3, none⟩ (.string E.nm)).setCell ⟨g, es.length * 5 + 4, none⟩ (.slice E.args.ad E.args.len E.args.cap)).heap[q]? = W.heap[q]? := fun q hq =>
  ((((Below.heap_setCell _ _ _ _ hq).trans (Below.heap_setCell _ _ _ _ hq)).trans (Below.heap_setCell _ _ _ _ hq)).trans (Below.heap_setCell _ _ _ _ hq)).trans (Below.heap_setCell _ _ _ _ hq)
 have hs : (((((W.setCell ⟨g, es.length * 5, none⟩ (.int .i64 E.k)).setCell ⟨g, es.length * 5 + 1, none⟩ (.int .i64 E.a)).setCell ⟨g, es.length * 5 + 2, none⟩ (.int .i64 E.n)).setCell ⟨g, es.length * 5 + 3, none⟩ (.string E.nm)).setCell ⟨g, es.length * 5 + 4, none⟩ (.slice E.args.ad E.args.len E.args.cap)).heap.size = W.heap.size := by simp [World.setCell]
 have ht := ((((h.tu.set (b := g) (o := es.length * 5) (.int .i64 E.k) (by omega)).set (b := g) (o := es.length * 5 + 1) (.int .i64 E.a) (by omega)).set (b := g) (o := es.length * 5 + 2) (.int .i64 E.n) (by omega)).set (b := g) (o := es.length * 5 + 3) (.string E.nm) (by omega)).set (b := g) (o := es.length * 5 + 4) (.slice E.args.ad E.args.len E.args.cap) (by omega)
 generalize (((((W.setCell ⟨g, es.length * 5, none⟩ (.int .i64 E.k)).setCell ⟨g, es.length * 5 + 1, none⟩ (.int .i64 E.a)).setCell ⟨g, es.length * 5 + 2, none⟩ (.int .i64 E.n)).setCell ⟨g, es.length * 5 + 3, none⟩ (.string E.nm)).setCell ⟨g, es.length * 5 + 4, none⟩ (.slice E.args.ad E.args.len E.args.cap)) = S at *
 have hc : ∀ j, S.cell? ⟨fb, j, none⟩ = W.cell? ⟨fb, j, none⟩ := fun j => Zc (a := ⟨fb, j, none⟩) (hk fb (by omega))
 have hlen : es.length = acc.length := by
  have := h.row.len
  rw [Za, Za] at this
  simpa using this
 refine ⟨h.at_.kept (by omega) (fun q hq => hk q (by omega)), ht, (hc k).trans h.box, fun j hj => (hc j).trans (h.oth j hj), fun j => (Zf (a := ⟨fb, j, none⟩) (hk fb (by omega))).trans (h.fz j),
  (Zc (a := ⟨pb, 0, none⟩) (hk pb (by omega))).trans h.par, (Zc (a := ⟨xa, 0, none⟩) (hk xa (by omega))).trans h.arg, ?_, h.pos, h.pox⟩
 refine Tp.Rw.last (E := Z) (F := E) (W := W) r0 r5 hlen (fun j G y h1 h2 => ?_) (hE.go (by omega) (fun q _ h2 _ => hk q h2))
 have h3 : (es ++ [Z])[j]? = some G := by rw [List.getElem?_append_left (List.getElem?_eq_some_iff.1 h1).1]; exact h1
 have h4 : (acc ++ [z])[j]? = some y := by rw [List.getElem?_append_left (List.getElem?_eq_some_iff.1 h2).1]; exact h2
 exact (h.row.own j G y h3 h4).go (by omega) (fun q _ h2 _ => hk q h2)
end
end Go.Proofs.YtfccpddehpgfoaaGreatDoor
