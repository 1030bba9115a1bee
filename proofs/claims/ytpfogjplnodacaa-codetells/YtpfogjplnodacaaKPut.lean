/-
  The contracts of the compiler's put and goHere. By the verifier.
-/
import Derived.Test.YtpfogjplnodacaaKMem
import Derived.Laws.OwnMore
set_option maxRecDepth 100000
set_option maxHeartbeats 1600000
namespace Go.Proofs.Ytpfogjplnodacaa
open Go.RowKit
set_option linter.unusedVariables false
theorem kput_any {w0 W : World} {bc : Nat} {rv : Value} {l : List Kd.I} {a : Nat} (h : Kd.M w0 W bc rv l a) (hl : l.length ≤ 100000) (k x y : Int) :
  Calls Try.prog 29 #[.pointer (some ⟨bc, 0, none⟩), .int .i64 k, .int .i64 x, .int .i64 y] W fun r W' => r = .returned (.int .i64 (l.length : Nat)) ∧ ∃ rv', Kd.M w0 W' bc rv' (l ++ [⟨k, x, y⟩]) a ∧ Kd.Kp bc rv rv' W W' := by
 obtain ⟨g0, c, rfl, hlc⟩ := h.form
 obtain ⟨i0, hi0, hz0, hz1', hz2⟩ := info_of Try.infoIn
 have HI := hide hi0
 have HZ0 := hide hz0
 have HZ1 := hide hz1'
 have HZ2 := hide hz2
 have k0 := h.c0
 have kf := h.fz 0
 have hlt := h.lt
 have HROW := hide h.row
 have HBK := hide (heap_alloc_new W (Obj.cells #[.int .i64 k, .int .i64 x, .int .i64 y] 55))
 have HBD := hide (show Below W.heap.size W (W.alloc (Obj.cells #[.int .i64 k, .int .i64 x, .int .i64 y] 55)) from (Below.refl _ _).alloc (Nat.le_refl _) _)
 have hw0 : w0.heap.size ≤ W.heap.size := h.bel.size
 have HAP := hide (fun (w6 : World) (hg : (W.alloc (Obj.cells #[.int .i64 k, .int .i64 x, .int .i64 y] 55)).grownBy w6 (Value.slice g0 l.length c).ownBlock) (g cc : Nat) (ho : w6.ownsRow w0.heap.size 55 3 (.slice (some ⟨g, 0, none⟩) (l.length + 1) cc) (l.length + 1) (Kd.cl l ++ [.int .i64 k, .int .i64 x, .int .i64 y])) (hat : (Value.slice g0 l.length c).ownBlock = some g ∨ W.heap.size ≤ g) => Kd.M.app (x := ⟨k, x, y⟩) h ((Below.refl _ _).alloc (Nat.le_refl _) _) hg g cc ho hat)
 have HGB := hide (fun (w6 : World) (hg : (W.alloc (Obj.cells #[.int .i64 k, .int .i64 x, .int .i64 y] 55)).grownBy w6 (Value.slice g0 l.length c).ownBlock) => show w6.heap[bc]? = W.heap[bc]? from (hg.block bc (by simp; omega) (fun e => h.ap bc e.symm rfl)).trans (((Below.refl W.heap.size W).alloc (Nat.le_refl _) _).block bc h.lt))
 generalize hn : l.length = n at *
 generalize hxs : Kd.cl l = xs at *
 clear h hi0 hz0 hz1' hz2 hxs hn
 have hw1 : IntKind.i64.wrap (((n + 1 : Nat) : Int) - 1) = (n : Int) := by rw [IntKind.wrap_i64]; omega
 go_enter Try.func29, Try.ntmps29
 go_wp2_with (at_builtin; refine wpList_append_lies _ (by rfl) _ _ _ (by rfl) w0.heap.size 55 i0 _ 3 24 Try.underlying22 (unhide HI) (unhide HZ0) (unhide HZ1) (unhide HZ2) rfl (by omega) (.slice g0 n c) n xs (by rfl) (Pg.ow_below (unhide HROW) (unhide HBD)) ⟨W.heap.size, 0, none⟩ 1 1 [.int .i64 k, .int .i64 x, .int .i64 y] (by rfl) (by rfl) (World.news_of_block (unhide HBK)) (by simp [Value.oneCell']) (by omega) (by unfold maxLen; omega) (by omega) (by simp; omega) (W.heap.size + 1) (by simp) ?_; intro gA cA w6 hoA hgA hatA hltA; have HOA := hide hoA; have HGA := hide hgA; have HAT := hide (show (Value.slice g0 n c).ownBlock = some gA ∨ W.heap.size ≤ gA from hatA.imp id (fun e => by rw [e]; exact Nat.le_succ _)); have hbb := (unhide HGB) w6 hgA; have z4 := (Kd.cell_kept hbb 0).trans k0; have z5 := (Kd.frz_kept hbb 0).trans kf; clear hatA hltA hoA hgA hbb)
 go_ret
 have hA := (unhide HAP) _ (unhide HGA) _ _ (unhide HOA) (unhide HAT)
 exact ⟨rfl, _, hA.1, hA.2⟩
end Go.Proofs.Ytpfogjplnodacaa
