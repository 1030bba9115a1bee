/- By the verifier. -/
import Derived.Test.YtfccpddehpgfoaaGreatDoorXQ
import Derived.Deep.WholeRow
namespace Go.Proofs.YtfccpddehpgfoaaGreatDoor
open Go.RowKit
set_option linter.unusedVariables false
section
variable {P : Program} {ty : TypeId} {cs z : Array Value} {d : TypeDesc} {size : Nat}
theorem Zho {b o : Nat} {W : World} (hc : ∀ j v, cs[j]? = some v → W.cell? ⟨b, o + j, none⟩ = some v) (hu : P.underlying ty = some d) (hd : (match d with | .struct _ | .array _ _ => true | _ => false) = true) (hi : (P.info? ty).map (·.size) = some cs.size) :
  (loadVar ty ⟨b, o, none⟩).run P W = .ok (.agg cs) W := by
 have hl : (loadCells ⟨b, o, none⟩ cs.toList.length).run P W = .ok cs.toList.toArray W :=
  run_loadCells_list (P := P) W ⟨b, o, none⟩ cs.toList (fun j v hv => by
   have hadd : (⟨b, o, none⟩ : Addr).add j = ⟨b, o + j, none⟩ := by unfold Addr.add; split <;> simp_all
   rw [hadd]
   exact hc j v (by simpa using hv))
 cases hq : P.info? ty with
 | none => simp [hq] at hi
 | some i =>
  have hs : i.size = cs.size := by simpa [hq] using hi
  have hagg : (isAgg ty).run P W = .ok true W := by
   unfold isAgg
   rw [Sem.run_bind, run_underlying hu W]
   cases d <;> simp_all
  simp only [Array.length_toList, Array.toArray_toList] at hl
  simp [loadVar, Sem.run_bind, hagg, sizeOf, typeInfo, hq, hs, hl]
theorem ZfW {W : World} {tyS : TypeId} {b o i len cap : Nat} (huS : P.underlying tyS = some (.slice ty)) (hi : (P.info? ty).map (·.size) = some size) (hlt : i < len) :
  (Instr.indexAt tyS (.slice (some ⟨b, o, none⟩) len cap) (.int .i64 (i : Nat))).run P W = .ok (.pointer (some ⟨b, o + i * size, none⟩)) W := by
 have hadd : (⟨b, o, none⟩ : Addr).add (i * size) = ⟨b, o + i * size, none⟩ := by unfold Addr.add; split <;> simp_all
 have h1 : (0 : Int) ≤ (i : Int) ∧ (i : Int) < (len : Int) := by omega
 cases hq : P.info? ty with
 | none => simp [hq] at hi
 | some t =>
  have hs : t.size = size := by simpa [hq] using hi
  simp [Instr.indexAt, asIntOf, run_underlying huS, sizeOf, typeInfo, hq, hs, h1, hadd]
  omega
theorem ZfI {Q : Exit → Act → World → Prop} {id tA tL tB p q b o i len cap : Nat} {o1 o2 o3 o4 : Oper} {T : List Value} {W : World} {tyS : TypeId}
  (h1 : o1.op = .indexAddr tyS (.tmp p) (.tmp q)) (d1 : o1.dst = some tA) (g1 : o1.guard = none) (h2 : o2.op = .load ty (.tmp tA)) (d2 : o2.dst = some tL) (g2 : o2.guard = none)
  (h3 : o3.op = .alloc ty) (d3 : o3.dst = some tB) (g3 : o3.guard = none) (h4 : o4.op = .store ty (.tmp tB) (.tmp tL)) (d4 : o4.dst = none) (g4 : o4.guard = none)
  (hp : T[p]? = some (.slice (some ⟨b, o, none⟩) len cap)) (hq : T[q]? = some (.int .i64 (i : Nat))) (hlt : i < len) (l1 : tA < T.length) (l2 : tL < T.length) (l3 : tB < T.length) (n1 : tA ≠ tL) (n2 : tL ≠ tB)
  (huS : P.underlying tyS = some (.slice ty)) (hinf : (P.info? ty).map (fun i => (i.zero, i.size)) = some (some (.agg z), size)) (hz : z.size = size) (hcs : cs.size = size) (hu : P.underlying ty = some d) (hd : (match d with | .struct _ | .array _ _ => true | _ => false) = true)
  (hc : ∀ j v, cs[j]? = some v → W.cell? ⟨b, o + i * size + j, none⟩ = some v) (hone : ∀ v ∈ cs.toList, v.oneCell' = true)
  (h : Q .normal ⟨(((T.set tA (.pointer (some ⟨b, o + i * size, none⟩))).set tL (.agg cs)).set tB (.pointer (some ⟨W.heap.size, 0, none⟩))).toArray, []⟩ (W.alloc (.cells cs ty))) :
  (Code.region id #[o1, o2, o3, o4] false).wp P Q ⟨T.toArray, []⟩ W := by
 have hi : (P.info? ty).map (·.size) = some size := (zero_of_info hinf).2
 have hi2 : (P.info? ty).map (·.size) = some cs.size := by rw [hcs]; exact hi
 have hzero := (zero_of_info hinf).1
 refine wp_region_lit ?_
 refine wpList_plain g1 fun K hK => ?_
 unfold Oper.wp execOp
 have e1 : (Act.eval ⟨T.toArray, []⟩ (.tmp p)) = .slice (some ⟨b, o, none⟩) len cap := by simp [Act.eval, hp]
 have e2 : (Act.eval ⟨T.toArray, []⟩ (.tmp q)) = .int .i64 (i : Nat) := by simp [Act.eval, hq]
 simp only [h1, e1, e2, Sem.run_bind, Sem.run_pure, Result.andThen_ok, ZfW huS hi hlt]
 refine hK _ _ (wpList_plain g2 fun K2 hK2 => ?_)
 have p1 : (Act.put ⟨T.toArray, []⟩ o1.dst (.pointer (some ⟨b, o + i * size, none⟩))) = ⟨(T.set tA (.pointer (some ⟨b, o + i * size, none⟩))).toArray, []⟩ := by rw [d1]; simp [Act.put]
 rw [p1]
 unfold Oper.wp execOp
 have e3 : (Act.eval ⟨(T.set tA (.pointer (some ⟨b, o + i * size, none⟩))).toArray, []⟩ (.tmp tA)) = .pointer (some ⟨b, o + i * size, none⟩) := by simp [Act.eval, l1]
 simp only [h2, e3, Instr.loadAt, Instr.sureAddr, Sem.run_bind, Sem.run_pure, Result.andThen_ok, Zho hc hu hd hi2]
 refine hK2 _ _ (wpList_plain g3 fun K3 hK3 => ?_)
 have p2 : (Act.put ⟨(T.set tA (.pointer (some ⟨b, o + i * size, none⟩))).toArray, []⟩ o2.dst (.agg cs)) = ⟨((T.set tA (.pointer (some ⟨b, o + i * size, none⟩))).set tL (.agg cs)).toArray, []⟩ := by rw [d2]; simp [Act.put]
 rw [p2]
 unfold Oper.wp execOp
 simp only [h3, Instr.alloc, Sem.run_bind, hzero, Result.andThen_ok, newVar, Value.cells]
 refine hK3 _ (W.alloc (.cells z ty)) (wpList_plain g4 fun K4 hK4 => ?_)
 have p3 : (Act.put ⟨((T.set tA (.pointer (some ⟨b, o + i * size, none⟩))).set tL (.agg cs)).toArray, []⟩ o3.dst (.pointer (some ⟨W.heap.size, 0, none⟩))) = ⟨(((T.set tA (.pointer (some ⟨b, o + i * size, none⟩))).set tL (.agg cs)).set tB (.pointer (some ⟨W.heap.size, 0, none⟩))).toArray, []⟩ := by rw [d3]; simp [Act.put]
 rw [p3]
 unfold Oper.wp execOp
 have e4 : (Act.eval ⟨(((T.set tA (.pointer (some ⟨b, o + i * size, none⟩))).set tL (.agg cs)).set tB (.pointer (some ⟨W.heap.size, 0, none⟩))).toArray, []⟩ (.tmp tB)) = .pointer (some ⟨W.heap.size, 0, none⟩) := by simp [Act.eval, l3]
 have e5 : (Act.eval ⟨(((T.set tA (.pointer (some ⟨b, o + i * size, none⟩))).set tL (.agg cs)).set tB (.pointer (some ⟨W.heap.size, 0, none⟩))).toArray, []⟩ (.tmp tL)) = .agg cs := by
  have hg : (((T.set tA (.pointer (some ⟨b, o + i * size, none⟩))).set tL (.agg cs)).set tB (.pointer (some ⟨W.heap.size, 0, none⟩)))[tL]? = some (.agg cs) := by
   rw [List.getElem?_set_ne (Ne.symm n2), List.getElem?_set_self (by simp; exact l2)]
  simp only [Act.eval, Array.getD_eq_getD_getElem?, List.getElem?_toArray, hg, Option.getD_some]
 simp only [h4, e4, e5, Instr.storeAt, Instr.sureAddr, Sem.run_bind, Sem.run_pure, Result.andThen_ok, run_storeVar_new W ty z cs hi2 (by omega) (Array.all_eq_true_iff_forall_mem.2 (fun v hv => hone v (by simpa using hv)))]
 refine hK4 _ _ ?_
 rw [d4]
 exact h
end
end Go.Proofs.YtfccpddehpgfoaaGreatDoor
