/-
  The contract of slices.Clone at numbers. By the verifier.
-/
import Derived.Test.YtpfogjplnodacaaKMem
import Derived.Laws.AppendOwn
import Derived.OwnWalk
import Derived.Lib.SliceRun
set_option maxHeartbeats 800000
namespace Go.Proofs.Ytpfogjplnodacaa
open Go.RowKit
set_option linter.unusedVariables false
theorem Try.infoK3 : (Try.prog.info? 3).map (fun i => (i.zero, i.size, i.bytes)) = some (some (.int .i64 0), 1, 8) := by kernel_rfl
theorem Kd.add_at (g o j : Nat) : (⟨g, o, none⟩ : Addr).add j = ⟨g, o + j, none⟩ := by unfold Addr.add; split <;> simp_all
theorem Kd.cell_alloc {w : World} {a : Addr} {v : Value} {o : Obj} (h : w.cell? a = some v) : (w.alloc o).cell? a = some v := by
 rw [← h]
 exact ((Below.refl w.heap.size w).alloc (Nat.le_refl _) o).cell (World.block_lt_of_cell? w _ h)
theorem Kd.one_i (l : List Int) : ∀ u ∈ l.map (Value.int .i64), u.oneCell' = true := by
 intro u hu; obtain ⟨x, _, rfl⟩ := List.mem_map.1 hu; rfl
theorem Kd.rn_own {W : World} {B n c : Nat} {a : Option Addr} {l : List Int} (hl : l.length = n) (hn : n ≤ 35184372088832) (h : W.ownsRow B 3 1 (.slice a n c) n (l.map (Value.int .i64))) : Pg.RN W ⟨a, n, c⟩ l := by
 refine ⟨hl.symm, ?_, by omega, fun i z hz => ?_⟩
 · rcases h.2 with ⟨h1, h2⟩ | ⟨g, cap, cur, hv, _, _, hc, _⟩
   · show n ≤ c
     omega
   · cases hv
     exact hc
 · obtain ⟨g, cap, hv, _, hlt⟩ := h.form (by have := (List.getElem?_eq_some_iff.1 hz).1; omega)
   cases hv
   have hc := h.cells (g := g) rfl i (.int .i64 z) (by rw [List.getElem?_map, hz]; rfl)
   rw [Kd.add_at] at hc
   exact ⟨g, 0, rfl, hlt, hc⟩
theorem Kd.rn_news {w : World} {a : Addr} {n c : Nat} {l : List Int} (h : Pg.RN w ⟨some a, n, c⟩ l) : ∀ j u, (l.map (Value.int .i64))[j]? = some u → w.cell? (a.add j) = some u := by
 intro j u hu
 rw [List.getElem?_map] at hu
 cases hx : l[j]? with
 | none => rw [hx] at hu; cases hu
 | some s =>
  rw [hx] at hu
  simp at hu
  subst hu
  obtain ⟨b, o, h1, _, h3⟩ := h.at_ j s hx
  cases h1
  rw [Kd.add_at]; exact h3
theorem kclone_at (l : List Int) (a : Addr) (cap : Nat) (w : World) (hc : ∀ j u, (l.map (Value.int .i64))[j]? = some u → w.cell? (a.add j) = some u) (hl : l.length ≤ 600) :
  Calls Try.prog 27 #[.slice (some a) l.length cap] w fun e w' => ∃ v, e = .returned v ∧ w'.ownsRow w.heap.size 3 1 v l.length (l.map (Value.int .i64)) ∧ Below w.heap.size w w' := by
 obtain ⟨i0, hi, hz0, hz1, hz2⟩ := info_of Try.infoK3
 have HNW := hide (fun j u hj => Kd.cell_alloc (o := .cells #[] 3) (hc j u hj))
 have HOW := hide (World.ownsRow_made (base := w.heap.size) (e := 3) (size := 1) w #[] 0 (Nat.le_refl _) (Nat.zero_le _) (by simp))
 have HI := hide hi
 have HZ0 := hide hz0
 have HZ1 := hide hz1
 have HZ2 := hide hz2
 clear hc hi hz0 hz1 hz2
 have q22 : ∀ (w : World) (a : Option Addr) (n c n' c' : Nat), (binOp .eql 23 (.slice a n c) (.slice none n' c')).run Try.prog w = .ok (.bool a.isNone) w := fun w a n c n' c' => Lib.run_eql_slice_nil w _ _ a n c n' c' Try.underlying23
 go_enter Try.func27, Try.ntmps27
 go_wp2_with (at_builtin; refine wpList_append_own _ (by rfl) _ _ _ (by rfl) w.heap.size 3 i0 _ 1 8 Try.underlying23 (unhide HI) (unhide HZ0) (unhide HZ1) (unhide HZ2) rfl (by omega) (.slice (some ⟨w.heap.size, 0, none⟩) 0 0) 0 [] (by rfl) (unhide HOW) a l.length cap (l.map (Value.int .i64)) (by rfl) (by simp) (unhide HNW) (Kd.one_i l) (by unfold maxLen; omega) (by omega) (by simp) ?_; intro v' w1 hown hgrow hnil; have HO := hide hown; have HG := hide hgrow; clear hown hgrow hnil)
 go_ret
 refine ⟨v', rfl, by have := unhide HO; rw [Nat.zero_add, List.nil_append] at this; exact this, ?_⟩
 exact ((Below.refl _ w).alloc (Nat.le_refl _) _).grown (unhide HG) (by simp) (by intro k hk; simp [Value.ownBlock] at hk; omega)
theorem kclone_nil (n cap : Nat) (w : World) :
  Calls Try.prog 27 #[.slice none n cap] w fun e w' => e = .returned (.slice none 0 0) ∧ w' = w := by
 have q22 : ∀ (w : World) (a : Option Addr) (n c n' c' : Nat), (binOp .eql 23 (.slice a n c) (.slice none n' c')).run Try.prog w = .ok (.bool a.isNone) w := fun w a n c n' c' => Lib.run_eql_slice_nil w _ _ a n c n' c' Try.underlying23
 go_enter Try.func27, Try.ntmps27
 go_wp2
 go_ret
 exact ⟨rfl, rfl⟩
theorem kclone_any (l : List Int) (s : Pg.Sl) (w : World) (hr : Pg.RN w s l) (hl : l.length ≤ 600) :
  Calls Try.prog 27 #[.slice s.ad s.len s.cap] w fun e w' => ∃ a c, e = .returned (.slice a l.length c) ∧ w'.ownsRow w.heap.size 3 1 (.slice a l.length c) l.length (l.map (Value.int .i64)) ∧ Below w.heap.size w w' := by
 obtain ⟨ad, n, cap⟩ := s
 have hn : n = l.length := hr.len
 subst hn
 cases ad with
 | none =>
  have h0 : l = [] := by
   cases l with
   | nil => rfl
   | cons x r => obtain ⟨b, o, h1, _⟩ := hr.at_ 0 x rfl; cases h1
  subst h0
  refine (kclone_nil _ cap w).mono ?_
  rintro e w' ⟨rfl, rfl⟩
  exact ⟨none, 0, rfl, World.ownsRow_nil _ _ _ _, Below.refl _ _⟩
 | some a =>
  refine (kclone_at l a cap w (Kd.rn_news hr) hl).mono ?_
  rintro e w' ⟨v, rfl, ho, hb⟩
  rcases ho.2 with ⟨rfl, hn⟩ | ⟨g, cap', cur, rfl, hr⟩
  · rw [hn] at ho ⊢; exact ⟨none, 0, rfl, ho, hb⟩
  · exact ⟨some ⟨g, 0, none⟩, cap', rfl, ⟨ho.1, .inr ⟨g, cap', cur, rfl, hr⟩⟩, hb⟩
end Go.Proofs.Ytpfogjplnodacaa
