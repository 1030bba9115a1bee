/-
  The contract of the closure that reads a parameter. By the verifier.
-/
import Derived.Test.YtfccpddehpgfoaaGreatDoorUG
set_option maxRecDepth 100000
set_option maxHeartbeats 3200000
namespace Go.Proofs.YtfccpddehpgfoaaGreatDoor
open Go.RowKit
set_option linter.unusedVariables false
section
variable (l : List Tp.T) (ta : Option Addr) (c bp : Nat) (e : Int)
theorem tfun1_any (fb pb b : Nat) (W0 : World) (v : Value) (es acc : List ByteArray) (i : Nat) (w : World) (hacc : es.length ≤ 10002) (h : Tp.Ls l ta c bp e fb pb pb (.pointer (some ⟨bp, 0, none⟩)) 2 9 1 Tp.clS (fun _ => Tk.RSt) b W0 v es acc i w) :
  Calls Tryz.prog 153 #[.pointer (some ⟨fb, 0, none⟩), .pointer (some ⟨pb, 0, none⟩)] w (Tp.OutL l ta c bp e fb pb pb (.pointer (some ⟨bp, 0, none⟩)) 2 9 1 Tp.clS (fun _ => Tk.RSt) b W0 es acc (Tp.name l i)) := by
 obtain ⟨o, ho⟩ : ∃ o, Tp.name l i = o := ⟨_, rfl⟩
 rw [ho]
 have HEQ := hide ho
 clear ho
 obtain ⟨ga, cap, rfl, hcap⟩ := h.row.form
 obtain ⟨t0, hi0, hz0, hz1', hz2⟩ := Tp.info_of Tryz.infoTS
 have HI := hide hi0
 have HZ0 := hide hz0
 have HZ1 := hide hz1'
 have HZ2 := hide hz2
 have hbox := h.box
 have hpar := h.par
 have hlt := h.at_.lt
 have HLS := hide h
 obtain ⟨p1, p2, p3, p4, p5⟩ := h.pos
 have hz := h.tu.size
 have hS0 : w.drew.cell? ⟨fb, 2, none⟩ = some (.slice ga es.length cap) ∧ w.drew.cell? ⟨pb, 0, none⟩ = some (.pointer (some ⟨bp, 0, none⟩)) := ⟨by go_simp, by go_simp⟩
 have HS0 := hide hS0
 have HN := hide (tname_any l ta c bp e i b w.drew (h.at_.below (Below.refl _ _).drew))
 clear h hi0 hz0 hz1' hz2 hS0
 go_enter Tryz.func153, Tryz.ntmps153
 go_wp2_with fail
 refine Rq.begin (fun j => Nat.beq j 7) (fun V => V.cell? ⟨fb, 2, none⟩ = some (.slice ga es.length cap) ∧ V.cell? ⟨pb, 0, none⟩ = some (.pointer (some ⟨bp, 0, none⟩))) (by kernel_rfl) (unhide HS0) (fun hHeld hcl => ?_)
 refine Rq.tk 0 (.pointer (some ⟨fb, 2, none⟩)) Rq.z (by kernel_rfl) (by kernel_rfl) (by kernel_rfl) (by kernel_rfl) (fun _ _ _ h => h) (by assumption) (by assumption) (by rfl) (fun w hSw => by (try dsimp only at hSw); go_simp) (fun hcl => ?_)
 (try simp only [Act.put, List.setIfInBounds_toArray, List.set_cons_zero, List.set_cons_succ])
 refine Rq.tk 1 (.slice ga es.length cap) (Rq.s Rq.z) (by kernel_rfl) (by kernel_rfl) (by kernel_rfl) (by kernel_rfl) (fun _ _ _ h => h) (by assumption) (by assumption) (by rfl) (fun w hSw => by (try dsimp only at hSw); obtain ⟨hA, hB⟩ := hSw; go_simp) (fun hcl => ?_)
 (try simp only [Act.put, List.setIfInBounds_toArray, List.set_cons_zero, List.set_cons_succ])
 refine Rq.tk 2 (.pointer (some ⟨bp, 0, none⟩)) (Rq.s (Rq.s Rq.z)) (by kernel_rfl) (by kernel_rfl) (by kernel_rfl) (by kernel_rfl) (fun _ _ _ h => h) (by assumption) (by assumption) (by rfl) (fun w hSw => by (try dsimp only at hSw); obtain ⟨hA, hB⟩ := hSw; go_simp) (fun hcl => ?_)
 (try simp only [Act.put, List.setIfInBounds_toArray, List.set_cons_zero, List.set_cons_succ])
 refine Rq.on 3 (Rq.s (Rq.s (Rq.s Rq.z))) (by kernel_rfl) (by assumption) (fun K hK => ?_)
 go_simp
 go_at_call 151
 refine (unhide HN).mono ?_
 intro r w1 h1
 cases hn : Tp.name l i with
 | error j =>
  rw [hn] at h1
  obtain ⟨rfl, ht⟩ := h1
  obtain rfl : o = .error j := by rw [← unhide HEQ, hn]
  have HT := hide ((unhide HLS).tu.then ((Tp.Tu.of_below (n := w.heap.size) (Below.refl _ w).drew).trans ht) hz (fun _ _ h => Or.inl h))
  clear ht hK
  go_simp
  exact ⟨rfl, rfl, unhide HT⟩
 | ok p =>
  obtain ⟨x, j⟩ := p
  rw [hn] at h1
  obtain ⟨⟨rfl, hx⟩, hj, ht⟩ := h1
  obtain rfl : o = .ok (x, j) := by rw [← unhide HEQ, hn]
  have hbN := (Below.refl w1.heap.size w1).alloc (Nat.le_refl _) (Obj.cells #[.string x] 9)
  have hL1 := (unhide HLS).step hj ((Tp.Tu.of_below (n := w.heap.size) (Below.refl _ w).drew).trans ht)
  have hL2 := hL1.step (hj.below hbN) (Tp.Tu.of_below hbN)
  have HL1 := hide hL1
  have HL2 := hide hL2
  have HBK := hide (heap_alloc_new w1 (Obj.cells #[.string x] 9))
  have HXL := hide hx
  have hs2 : W0.heap.size ≤ (w1.alloc (Obj.cells #[.string x] 9)).heap.size := hL2.tu.size
  clear hj ht hbN hL1 hL2 hx hHeld hcl
  go_simp
  refine hK _ _ (fun _ => ⟨(unhide HL1).box, (unhide HL1).par⟩) (fun hcl => ?_)
  (try simp only [Act.put, List.setIfInBounds_toArray, List.set_cons_zero, List.set_cons_succ])
  clear hK K
  have hHeld : w1.cell? ⟨fb, 2, none⟩ = some (.slice ga es.length cap) ∧ w1.cell? ⟨pb, 0, none⟩ = some (.pointer (some ⟨bp, 0, none⟩)) := ⟨(unhide HL1).box, (unhide HL1).par⟩
  refine Rq.on 4 (Rq.s (Rq.s (Rq.s (Rq.s Rq.z)))) (by kernel_rfl) (by assumption) (fun K hK => ?_)
  go_simp
  refine hK _ _ (fun _ => ⟨(unhide HL2).box, (unhide HL2).par⟩) (fun hcl => ?_)
  (try simp only [Act.put, List.setIfInBounds_toArray, List.set_cons_zero, List.set_cons_succ])
  clear hK K hHeld
  refine Rq.on 5 (Rq.s (Rq.s (Rq.s (Rq.s (Rq.s Rq.z))))) (by kernel_rfl) (by assumption) (fun K hK => ?_)
  refine step_append_lies _ rfl (.tmp 3) (.tmp 6) 47 rfl W0.heap.size 9 t0 _ 1 16 Tryz.underlying47 (unhide HI) (unhide HZ0) (unhide HZ1) (unhide HZ2) rfl (by omega) (.slice ga es.length cap) es.length (es.flatMap Tp.clS) rfl (unhide HL2).row.row _ 1 1 [.string x] rfl rfl (World.news_of_block (unhide HBK)) (by simp [Value.oneCell']) (by omega) (by unfold maxLen; omega) (by omega) hs2 _ rfl ?_
  intro gA cA w6 hoA hgA hatA hltA
  have hA := (unhide HL2).app (x := x) (E := x) (fun _ _ _ => ⟨rfl, unhide HXL⟩) hgA hoA (hatA.imp id (fun e => by rw [e]; exact Nat.le_refl _))
  have hrow := (unhide HL2).row.row
  have hlow : ∀ q, q < W0.heap.size → w6.heap[q]? = (w1.alloc (Obj.cells #[.string x] 9)).heap[q]? := fun q hq => hgA.block q (by omega) (fun e => by have := (hrow.lt q e.symm).1; omega)
  have z4 : w6.cell? ⟨fb, 2, none⟩ = some (.slice ga es.length cap) := (World.cell?_of_block (a := ⟨fb, 2, none⟩) (hlow fb p2)).trans (unhide HL2).box
  have z5 : w6.frozen? ⟨fb, 2, none⟩ = false := (World.frozen?_of_block (a := ⟨fb, 2, none⟩) (hlow fb p2)).trans ((unhide HL2).fz 2)
  have z6 : w6.cell? ⟨pb, 0, none⟩ = some (.pointer (some ⟨bp, 0, none⟩)) := (World.cell?_of_block (a := ⟨pb, 0, none⟩) (hlow pb p4)).trans (unhide HL2).par
  have HA := hide hA
  clear hA hatA hltA hoA hgA hlow hrow
  refine hK _ _ (fun _ => ⟨z4, z6⟩) (fun hcl => ?_)
  (try simp only [Act.put, List.setIfInBounds_toArray, List.set_cons_zero, List.set_cons_succ])
  clear hK K
  have hHeld : w6.cell? ⟨fb, 2, none⟩ = some (.slice ga es.length cap) ∧ w6.cell? ⟨pb, 0, none⟩ = some (.pointer (some ⟨bp, 0, none⟩)) := ⟨z4, z6⟩
  refine Rq.on 6 (Rq.s (Rq.s (Rq.s (Rq.s (Rq.s (Rq.s Rq.z)))))) (by kernel_rfl) (by assumption) (fun K hK => ?_)
  go_simp
  refine hK _ _ (fun _ => hHeld) (fun hcl => ?_)
  (try simp only [Act.put, List.setIfInBounds_toArray, List.set_cons_zero, List.set_cons_succ])
  clear hK K
  refine Rq.on 7 (Rq.s (Rq.s (Rq.s (Rq.s (Rq.s (Rq.s (Rq.s Rq.z))))))) (by kernel_rfl) (by assumption) (fun K hK => ?_)
  go_simp
  refine hK _ _ (fun e => absurd e (by decide)) (fun hcl => ?_)
  (try simp only [Act.put, List.setIfInBounds_toArray, List.set_cons_zero, List.set_cons_succ])
  refine Rq.done (by kernel_rfl) ?_ _
  go_end0
  exact ⟨rfl, _, _, unhide HA⟩
end
end Go.Proofs.YtfccpddehpgfoaaGreatDoor
