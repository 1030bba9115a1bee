/-
  TF2, TCm, TLi, TCh, TCd. By the verifier.
-/
import Derived.Test.YtfccpddehpgfoaaGreatDoorUG
import Derived.Laws.IdiomCopy
import Derived.Laws.Rows
import Derived.Deep.LoopGhost
import Derived.Deep.CutBlock
set_option maxRecDepth 100000
set_option maxHeartbeats 3200000
namespace Go.Proofs.YtfccpddehpgfoaaGreatDoor
open Go.RowKit
set_option linter.unusedVariables false
theorem Tryz.infoTE : (Tryz.prog.info? 52).map (fun i => (i.zero, i.size, i.bytes)) = some (some (.agg #[.int .i64 0, .int .i64 0, .int .i64 0, .string ⟨#[]⟩, .slice none 0 0]), 5, 64) := by kernel_rfl
section
variable (l : List Tp.T) (ta : Option Addr) (c bp : Nat) (e : Int)
end
end Go.Proofs.YtfccpddehpgfoaaGreatDoor
namespace Go.Proofs.YtfccpddehpgfoaaGreatDoor
open Go.RowKit
set_option linter.unusedVariables false
structure Tp.Cb (l : List Tp.T) (ta : Option Addr) (c bp : Nat) (e : Int) (w0 : World) (cb : Nat) (P : World → Prop) (cs : Array Value) (i b : Nat) (W : World) : Prop where
 at_ : Tp.J l ta c bp e W i b
 tu : Tp.Tu (fun q => q = bp ∨ q = cb) w0.heap.size w0 W
 box : ∀ j v, cs[j]? = some v → W.cell? ⟨cb, j, none⟩ = some v
 fz : ∀ j, W.frozen? ⟨cb, j, none⟩ = false
 own : Tp.Ow w0.heap.size bp W P
 pos : bp < cb ∧ cb < w0.heap.size
section
variable {l : List Tp.T} {ta : Option Addr} {c bp : Nat} {e : Int} {w0 W W1 : World} {cb : Nat} {P Q : World → Prop} {cs cs' : Array Value} {i b j b' : Nat}
theorem Tp.Cb.lt (h : Tp.Cb l ta c bp e w0 cb P cs i b W) : bp < cb ∧ cb < w0.heap.size ∧ w0.heap.size ≤ W.heap.size := ⟨h.pos.1, h.pos.2, h.tu.size⟩
theorem Tp.Cb.step (h : Tp.Cb l ta c bp e w0 cb P cs i b W) (hj : Tp.J l ta c bp e W1 j b') (ht : Tp.Tu (Tp.D1 bp) W.heap.size W W1) : Tp.Cb l ta c bp e w0 cb P cs j b' W1 := by
 obtain ⟨p1, p2, p3⟩ := h.lt
 have hb : W1.heap[cb]? = W.heap[cb]? := ht.block cb (by omega) (by show ¬ cb = bp; omega)
 exact ⟨hj, h.tu.then ht p3 (fun _ _ h => Or.inl h), fun k v hk => (World.cell?_of_block (a := ⟨cb, k, none⟩) hb).trans (h.box k v hk), fun k => (World.frozen?_of_block (a := ⟨cb, k, none⟩) hb).trans (h.fz k),
  h.own.tu ht (Nat.le_refl _) (fun q hq => Or.inr hq), h.pos⟩
theorem Tp.Cb.below (h : Tp.Cb l ta c bp e w0 cb P cs i b W) (hb : Below W.heap.size W W1) : Tp.Cb l ta c bp e w0 cb P cs i b W1 := h.step (h.at_.below hb) (Tp.Tu.of_below hb)
theorem Tp.Cb.and {B : Nat} (h : Tp.Cb l ta c bp e w0 cb P cs i b W) (hq : Tp.Ow B bp W Q) (hB : w0.heap.size ≤ B) : Tp.Cb l ta c bp e w0 cb (fun V => P V ∧ Q V) cs i b W :=
 ⟨h.at_, h.tu, h.box, h.fz, fun W' h1 h2 => ⟨h.own W' h1 h2, hq W' h1 (fun q a1 a2 a3 => h2 q (by omega) a2 a3)⟩, h.pos⟩
theorem Tp.Cb.imp (h : Tp.Cb l ta c bp e w0 cb P cs i b W) (hi : ∀ V, P V → Q V) : Tp.Cb l ta c bp e w0 cb Q cs i b W := ⟨h.at_, h.tu, h.box, h.fz, fun W' h1 h2 => hi W' (h.own W' h1 h2), h.pos⟩
theorem Tp.Cb.set (h : Tp.Cb l ta c bp e w0 cb P cs i b W) (k : Nat) (v : Value) (hk : ∃ u, cs[k]? = some u) (hcs : cs' = cs.setIfInBounds k v) : Tp.Cb l ta c bp e w0 cb P cs' i b (W.setCell ⟨cb, k, none⟩ v) := by
 obtain ⟨p1, p2, p3⟩ := h.lt
 obtain ⟨u, hu⟩ := hk
 subst hcs
 refine ⟨h.at_.set _ p1, h.tu.set _ (fun _ => Or.inr rfl), fun j x hj => ?_, fun j => by rw [World.frozen?_setCell]; exact h.fz j, h.own.go (by simp [World.setCell]) (fun q h1 _ _ => Below.heap_setCell _ _ _ _ (show q ≠ cb by omega)), h.pos⟩
 by_cases hjk : k = j
 · subst hjk
   rw [Array.getElem?_setIfInBounds_self_of_lt (Array.getElem?_eq_some_iff.1 hu).1] at hj
   cases hj
   exact World.cell?_setCell_same _ _ _ (h.box _ _ hu)
 · rw [Array.getElem?_setIfInBounds_ne hjk] at hj
   exact (Tp.set_ne (fun h => hjk h.symm)).trans (h.box _ _ hj)
theorem Tp.Cb.set5 (h : Tp.Cb l ta c bp e w0 cb P cs i b W) (k : Nat) (E : Tk.E) (h0 : ∃ u, cs[k]? = some u) (h1 : ∃ u, cs[k + 1]? = some u) (h2 : ∃ u, cs[k + 2]? = some u) (h3 : ∃ u, cs[k + 3]? = some u) (h4 : ∃ u, cs[k + 4]? = some u)
  (hcs : cs' = ((((cs.setIfInBounds k (.int .i64 E.k)).setIfInBounds (k + 1) (.int .i64 E.a)).setIfInBounds (k + 2) (.int .i64 E.n)).setIfInBounds (k + 3) (.string E.nm)).setIfInBounds (k + 4) (.slice E.args.ad E.args.len E.args.cap)) :
  Tp.Cb l ta c bp e w0 cb P cs' i b (((((W.setCell ⟨cb, k, none⟩ (.int .i64 E.k)).setCell ⟨cb, k + 1, none⟩ (.int .i64 E.a)).setCell ⟨cb, k + 2, none⟩ (.int .i64 E.n)).setCell ⟨cb, k + 3, none⟩ (.string E.nm)).setCell ⟨cb, k + 4, none⟩ (.slice E.args.ad E.args.len E.args.cap)) := by
 have hx : ∀ (cs : Array Value) (m : Nat) (v : Value) (q : Nat), (∃ u, cs[q]? = some u) → ∃ u, (cs.setIfInBounds m v)[q]? = some u := fun cs m v q ⟨u, hu⟩ => by
  have hlt := (Array.getElem?_eq_some_iff.1 hu).1
  exact ⟨_, Array.getElem?_eq_getElem (by rw [Array.size_setIfInBounds]; exact hlt)⟩
 subst hcs
 exact ((((h.set k _ h0 rfl).set (k + 1) _ (hx _ _ _ _ h1) rfl).set (k + 2) _ (hx _ _ _ _ (hx _ _ _ _ h2)) rfl).set (k + 3) _ (hx _ _ _ _ (hx _ _ _ _ (hx _ _ _ _ h3))) rfl).set (k + 4) _ (hx _ _ _ _ (hx _ _ _ _ (hx _ _ _ _ (hx _ _ _ _ h4)))) rfl
theorem Tp.Cb.list {α β : Type} {pb xa k wide : Nat} {xv : Value} {ty : TypeId} {cl : α → List Value} {R : World → α → β → Prop} {v : Value} {es : List α} {xs : List β} (h : Tp.Cb l ta c bp e w0 cb P cs i b W)
  (hL : Tp.Ls l ta c bp e cb pb xa xv k ty wide cl R b' W v es xs j W1) (hw : ∀ E, (cl E).length = wide) {lies : World → Nat → Nat → α → Prop}
  (hl : ∀ (W : World) (g o : Nat) (E : α), (∀ (j : Nat) (u : Value), (cl E)[j]? = some u → W.cell? ⟨g, o + j, none⟩ = some u) → lies W g o E) (hfew : xs.length ≤ 35184372088832) :
  ∃ s : Tk.Sl, Tp.Cb l ta c bp e w0 cb (fun V => P V ∧ Tk.RS V wide (lies V) (R V) s xs) (cs.setIfInBounds k (.slice s.ad s.len s.cap)) j b' W1 := by
 obtain ⟨p1, p2, p3⟩ := h.lt
 obtain ⟨s, rfl, hs⟩ := hL.row.reads (by omega) hw hl hfew
 refine ⟨s, hL.at_, (h.tu.trans (hL.tu.mono p3 (fun _ _ h => h))), fun q u hq => ?_, hL.fz, fun W' h1 h2 => ⟨?_, hs W' h1 (fun q a1 a2 a3 => h2 q (by omega) a2 a3)⟩, h.pos⟩
 · by_cases hqk : k = q
   · subst hqk
     have hlt := (Array.getElem?_eq_some_iff.1 hq).1
     rw [Array.size_setIfInBounds] at hlt
     rw [Array.getElem?_setIfInBounds_self_of_lt hlt] at hq
     cases hq
     exact hL.box
   · rw [Array.getElem?_setIfInBounds_ne hqk] at hq
     exact (hL.oth q (fun h => hqk h.symm)).trans (h.box _ _ hq)
 · exact (h.own.tu hL.tu (Nat.le_refl _) (fun q hq => by rcases hq with hq | hq <;> omega)) W' h1 h2
end
theorem Tp.Ow.imp {B g : Nat} {W : World} {P Q : World → Prop} (h : Tp.Ow B g W P) (hi : ∀ V, P V → Q V) : Tp.Ow B g W Q := fun W' h1 h2 => hi W' (h W' h1 h2)
def Tk.C.new (a : Int) : Tk.C := ⟨0, a, ⟨#[]⟩, ⟨#[]⟩, Tk.E.zero, Tk.E.zero, ⟨none, 0, 0⟩, ⟨none, 0, 0⟩, ⟨none, 0, 0⟩⟩
theorem Tp.zeroE (B bp : Nat) (W : World) : Tp.Ow B bp W (fun W => Tk.RE W 61 Tk.E.zero Tp.zE) := Tp.leafE B bp 60 W 0 0 0 ⟨#[]⟩ (by decide)
theorem Tp.zeroE_any (W : World) : Tk.RE W 61 Tk.E.zero Tp.zE := (Tp.zeroE 0 0 W).now
theorem Tp.put_at (R : Nat) : ∀ (L : List Value) (k : Nat) (W : World), (∀ j, k ≤ j → j < k + L.length → ∃ u, W.cell? ⟨R, j, none⟩ = some u) →
  (∀ j v, L[j]? = some v → (W.setCells R k L).cell? ⟨R, k + j, none⟩ = some v) ∧ (∀ j, j < k → (W.setCells R k L).cell? ⟨R, j, none⟩ = W.cell? ⟨R, j, none⟩) ∧ (W.setCells R k L).heap.size = W.heap.size ∧ (∀ q, q ≠ R → (W.setCells R k L).heap[q]? = W.heap[q]?) ∧ (∀ (D : Nat → Prop) (n : Nat), n ≤ R → Tp.Tu D n W (W.setCells R k L))
 | [], k, W, _ => ⟨fun j v h => by simp at h, fun _ _ => rfl, rfl, fun _ _ => rfl, fun D n _ => Tp.Tu.refl _ _ _⟩
 | v :: r, k, W, h => by
  have h0 := h k (Nat.le_refl _) (by simp)
  obtain ⟨u, hu⟩ := h0
  obtain ⟨h1, h2, h3, h4, h5⟩ := Tp.put_at R r (k + 1) (W.setCell ⟨R, k, none⟩ v) (fun j a1 a2 => by
   rw [Tp.set_ne (by omega)]
   exact h j (by omega) (by simp; omega))
  refine ⟨fun j x hj => ?_, fun j hj => (h2 j (by omega)).trans (Tp.set_ne (by omega)), h3.trans (by simp [World.setCell]), fun q hq => (h4 q hq).trans (Below.heap_setCell _ _ _ _ hq), fun D n hn => ((Tp.Tu.refl D n W).set (b := R) (o := k) v (fun hR => by omega)).trans (h5 D n hn)⟩
  cases j with
  | zero =>
   cases hj
   exact (h2 k (by omega)).trans (World.cell?_setCell_same _ _ _ hu)
  | succ j =>
   have := h1 j x (by simpa using hj)
   rw [show k + 1 + j = k + (j + 1) by omega] at this
   exact this
section
variable {P : Program} {ty : TypeId} {cs : Array Value} {d : TypeDesc}
theorem Tp.loadV {b : Nat} {W : World} (hc : ∀ j v, cs[j]? = some v → W.cell? ⟨b, j, none⟩ = some v) (hu : P.underlying ty = some d) (hd : (match d with | .struct _ | .array _ _ => true | _ => false) = true) (hi : (P.info? ty).map (·.size) = some cs.size) :
  (loadVar ty ⟨b, 0, none⟩).run P W = .ok (.agg cs) W := by
 have hl : (loadCells ⟨b, 0, none⟩ cs.toList.length).run P W = .ok cs.toList.toArray W :=
  run_loadCells_list (P := P) W ⟨b, 0, none⟩ cs.toList (fun j v hv => by
   have hadd : (⟨b, 0, none⟩ : Addr).add j = ⟨b, j, none⟩ := by unfold Addr.add; split <;> simp_all
   rw [hadd]
   exact hc j v (by simpa using hv))
 cases hq : P.info? ty with
 | none => simp [hq] at hi
 | some i =>
  have hs : i.size = cs.size := by simpa [hq] using hi
  have hagg : (isAgg ty).run P W = .ok true W := by
   unfold isAgg
   rw [Sem.run_bind, run_underlying hu W]
   cases d <;> simp_all
  simp only [Array.length_toList, Array.toArray_toList] at hl
  simp [loadVar, Sem.run_bind, hagg, sizeOf, typeInfo, hq, hs, hl]
theorem Tp.storeV {b : Nat} {W : World} (hc : ∀ j, j < cs.size → (W.cell? ⟨b, j, none⟩).isSome = true) (hf : ∀ j, W.frozen? ⟨b, j, none⟩ = false) (h1 : ∀ v ∈ cs.toList, v.oneCell' = true) (hi : (P.info? ty).map (·.size) = some cs.size) :
  (storeVar ty ⟨b, 0, none⟩ (.agg cs)).run P W = .ok () (W.setCells b 0 cs.toList) := by
 have := run_storeCells_cells (P := P) b 0 cs.toList 0 W (fun j hj => by simpa using hc j (by simpa using hj)) (fun j _ => by simpa using hf j) h1
 cases hq : P.info? ty with
 | none => simp [hq] at hi
 | some i =>
  have hs : cs.size = i.size := by simp [hq] at hi; omega
  simp at this
  simp [storeVar, sizeOf, typeInfo, hq, Value.cells, hs, this]
theorem Tp.handed {Q : Exit → Act → World → Prop} {id t p r cb Rb : Nat} {o1 o2 : Oper} {T : List Value} {W : World} (h1 : o1.op = .load ty (.tmp p)) (hd1 : o1.dst = some t) (g1 : o1.guard = none) (h2 : o2.op = .store ty (.tmp r) (.tmp t)) (hd2 : o2.dst = none) (g2 : o2.guard = none)
  (hp : T[p]? = some (.pointer (some ⟨cb, 0, none⟩))) (hr : T[r]? = some (.pointer (some ⟨Rb, 0, none⟩))) (ht : t < T.length) (htr : t ≠ r)
  (hc : ∀ j v, cs[j]? = some v → W.cell? ⟨cb, j, none⟩ = some v) (hR : ∀ j, j < cs.size → ∃ u, W.cell? ⟨Rb, j, none⟩ = some u) (hRf : ∀ j, W.frozen? ⟨Rb, j, none⟩ = false) (hone : ∀ v ∈ cs.toList, v.oneCell' = true)
  (hu : P.underlying ty = some d) (hd : (match d with | .struct _ | .array _ _ => true | _ => false) = true) (hi : (P.info? ty).map (·.size) = some cs.size)
  (h : Q .normal ⟨(T.set t (.agg cs)).toArray, []⟩ (W.setCells Rb 0 cs.toList)) : (Code.region id #[o1, o2] false).wp P Q ⟨T.toArray, []⟩ W := by
 refine wp_region_lit ?_
 refine wpList_plain g1 fun K hK => ?_
 unfold Oper.wp execOp
 have e1 : (Act.eval ⟨T.toArray, []⟩ (.tmp p)) = .pointer (some ⟨cb, 0, none⟩) := by simp [Act.eval, hp]
 simp only [h1, e1, Instr.loadAt, Instr.sureAddr, Sem.run_bind, Sem.run_pure, Result.andThen_ok, Tp.loadV hc hu hd hi]
 refine hK _ _ (wpList_plain g2 fun K2 hK2 => ?_)
 unfold Oper.wp execOp
 have e2 : (Act.eval (Act.put ⟨T.toArray, []⟩ o1.dst (.agg cs)) (.tmp r)) = .pointer (some ⟨Rb, 0, none⟩) := by
  rw [hd1]
  simp [Act.eval, Act.put, List.getElem?_set_ne htr, hr]
 have e3 : (Act.eval (Act.put ⟨T.toArray, []⟩ o1.dst (.agg cs)) (.tmp t)) = .agg cs := by
  rw [hd1]
  simp [Act.eval, Act.put, ht]
 simp only [h2, e2, e3, Instr.storeAt, Instr.sureAddr, Sem.run_bind, Sem.run_pure, Result.andThen_ok, Tp.storeV (fun j hj => by obtain ⟨u, hu⟩ := hR j hj; rw [hu]; rfl) hRf hone hi]
 refine hK2 _ _ ?_
 rw [hd2, hd1]
 have e4 : (Act.put (Act.put ⟨T.toArray, []⟩ (some t) (.agg cs)) none undef) = ⟨(T.set t (.agg cs)).toArray, []⟩ := by simp [Act.put]
 rw [e4]
 exact h
theorem Tp.handedR {fn : Func} {r Rb : Nat} {T : Array Value} {W : World} (hres : fn.results = #[.cell r ty]) (hr : T[r]? = some (.pointer (some ⟨Rb, 0, none⟩))) (hR : ∀ j, j < cs.size → ∃ u, W.cell? ⟨Rb, j, none⟩ = some u)
  (hu : P.underlying ty = some d) (hd : (match d with | .struct _ | .array _ _ => true | _ => false) = true) (hi : (P.info? ty).map (·.size) = some cs.size) : (results fn T).run P (W.setCells Rb 0 cs.toList) = .ok (.agg cs) (W.setCells Rb 0 cs.toList) := by
 have hput := Tp.put_at Rb cs.toList 0 W (fun j _ hj => hR j (by simpa using hj))
 have e5 : (loadVar ty ⟨Rb, 0, none⟩).run P (W.setCells Rb 0 cs.toList) = .ok (.agg cs) (W.setCells Rb 0 cs.toList) := Tp.loadV (fun j v hj => by
  have := hput.1 j v (by simpa using hj)
  rwa [Nat.zero_add] at this) hu hd hi
 simp [results, hres, hr, asAddr, e5]
end
end Go.Proofs.YtfccpddehpgfoaaGreatDoor
namespace Go.Proofs.YtfccpddehpgfoaaGreatDoor
open Go.RowKit
set_option linter.unusedVariables false
end Go.Proofs.YtfccpddehpgfoaaGreatDoor
namespace Go.Proofs.YtfccpddehpgfoaaGreatDoor
open Go.RowKit
set_option linter.unusedVariables false
section
variable (l : List Tp.T) (ta : Option Addr) (c bp : Nat) (e : Int)
end
end Go.Proofs.YtfccpddehpgfoaaGreatDoor
namespace Go.Proofs.YtfccpddehpgfoaaGreatDoor
open Go.RowKit
set_option linter.unusedVariables false
theorem Tryz.sizeTC : (Tryz.prog.info? 56).map (·.size) = some 17 := by kernel_rfl
section
variable (l : List Tp.T) (ta : Option Addr) (c bp : Nat) (e : Int)
end
end Go.Proofs.YtfccpddehpgfoaaGreatDoor
