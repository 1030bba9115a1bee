/-
  The contract of the closure that reads an argument. By the verifier.
-/
import Derived.Test.YtfccpddehpgfoaaGreatDoorUG
set_option maxRecDepth 100000
set_option maxHeartbeats 3200000
namespace Go.Proofs.YtfccpddehpgfoaaGreatDoor
open Go.RowKit
set_option linter.unusedVariables false
theorem Tryz.infoTE : (Tryz.prog.info? 52).map (fun i => (i.zero, i.size, i.bytes)) = some (some (.agg #[.int .i64 0, .int .i64 0, .int .i64 0, .string ⟨#[]⟩, .slice none 0 0]), 5, 64) := by kernel_rfl
section
variable (l : List Tp.T) (ta : Option Addr) (c bp : Nat) (e : Int)
theorem tchg1_any (fb pb xa : Nat) (W0 : World) (v : Value) (es : List Tk.E) (acc : List (Tk.ET 61)) (i : Nat) (w : World) (hacc : es.length ≤ 10002) (h : Tp.Ls l ta c bp e fb pb xa (.pointer (some ⟨fb, 0, none⟩)) 14 52 5 Tk.E.cl (fun W => Tk.RE W 61) 1 W0 v es acc i w) :
  Calls Tryz.prog 213 #[.pointer (some ⟨xa, 0, none⟩), .pointer (some ⟨pb, 0, none⟩)] w (Tp.OutL l ta c bp e fb pb xa (.pointer (some ⟨fb, 0, none⟩)) 14 52 5 Tk.E.cl (fun W => Tk.RE W 61) 1 W0 es acc (Tp.expr l e 61 1 i)) := by
 obtain ⟨o, ho⟩ : ∃ o, Tp.expr l e 61 1 i = o := ⟨_, rfl⟩
 rw [ho]
 have HEQ := hide ho
 clear ho
 obtain ⟨ga, cap, rfl, hcap⟩ := h.row.form
 have hbox := h.box
 have hpar := h.par
 have harg := h.arg
 have hlt := h.at_.lt
 have HLS := hide h
 obtain ⟨p1, p2, p3, p4, p5⟩ := h.pos
 obtain ⟨p6, p7, p8⟩ := h.pox
 have hz := h.tu.size
 clear h
 go_enter Tryz.func213, Tryz.ntmps213
 go_wp2_with fail
 go_region
 · go_wp2_with fail
   have hbV : Below w.heap.size w ((w.alloc (Obj.cells #[.bool false] 4)).drew.drew) := ((Below.refl _ _).alloc (Nat.le_refl _) _).drew.drew
   have hLV := (unhide HLS).step ((unhide HLS).at_.below hbV) (Tp.Tu.of_below hbV)
   have HLV := hide hLV
   have HQ := hide (texpr_any l ta c bp e 61 1 (by omega) (by omega) i _ hLV.at_)
   have hHeld : (fun V => V.cell? ⟨fb, 14, none⟩ = some (.slice ga es.length cap) ∧ V.cell? ⟨pb, 0, none⟩ = some (.pointer (some ⟨bp, 0, none⟩)) ∧ V.cell? ⟨xa, 0, none⟩ = some (.pointer (some ⟨fb, 0, none⟩))) ((w.alloc (Obj.cells #[.bool false] 4)).drew.drew) := ⟨hLV.box, hLV.par, hLV.arg⟩
   obtain ⟨t0, hi0, hz0, hz1', hz2⟩ := Tp.info_of Tryz.infoTE
   have HI := hide hi0
   have HZ0 := hide hz0
   have HZ1 := hide hz1'
   have HZ2 := hide hz2
   have hsV : ((w.alloc (Obj.cells #[.bool false] 4)).drew.drew).heap.size = w.heap.size + 1 := by simp
   clear hbV hLV hi0 hz0 hz1' hz2 hbox hpar harg
   refine Rq.begin (fun j => Nat.beq j 11) (fun V => V.cell? ⟨fb, 14, none⟩ = some (.slice ga es.length cap) ∧ V.cell? ⟨pb, 0, none⟩ = some (.pointer (some ⟨bp, 0, none⟩)) ∧ V.cell? ⟨xa, 0, none⟩ = some (.pointer (some ⟨fb, 0, none⟩))) (by kernel_rfl) hHeld (fun hHeld hcl => ?_)
   generalize ((w.alloc (Obj.cells #[.bool false] 4)).drew.drew) = WV at *
   refine Rq.tk 0 (.pointer (some ⟨fb, 0, none⟩)) Rq.z (by kernel_rfl) (by kernel_rfl) (by kernel_rfl) (by kernel_rfl) (fun _ _ _ h => h) (by assumption) (by assumption) (by rfl) (fun w hSw => by (try dsimp only at hSw); obtain ⟨hA, hB, hC⟩ := hSw; go_simp) (fun hcl => ?_)
   (try simp only [Act.put, List.setIfInBounds_toArray, List.set_cons_zero, List.set_cons_succ])
   refine Rq.tk 1 (.pointer (some ⟨fb, 0, none⟩)) (Rq.s Rq.z) (by kernel_rfl) (by kernel_rfl) (by kernel_rfl) (by kernel_rfl) (fun _ _ _ h => h) (by assumption) (by assumption) (by rfl) (fun w hSw => by (try dsimp only at hSw); obtain ⟨hA, hB, hC⟩ := hSw; go_simp) (fun hcl => ?_)
   (try simp only [Act.put, List.setIfInBounds_toArray, List.set_cons_zero, List.set_cons_succ])
   refine Rq.tk 2 (.pointer (some ⟨fb, 0, none⟩)) (Rq.s (Rq.s Rq.z)) (by kernel_rfl) (by kernel_rfl) (by kernel_rfl) (by kernel_rfl) (fun _ _ _ h => h) (by assumption) (by assumption) (by rfl) (fun w hSw => by (try dsimp only at hSw); obtain ⟨hA, hB, hC⟩ := hSw; go_simp) (fun hcl => ?_)
   (try simp only [Act.put, List.setIfInBounds_toArray, List.set_cons_zero, List.set_cons_succ])
   refine Rq.tk 3 (.pointer (some ⟨fb, 14, none⟩)) (Rq.s (Rq.s (Rq.s Rq.z))) (by kernel_rfl) (by kernel_rfl) (by kernel_rfl) (by kernel_rfl) (fun _ _ _ h => h) (by assumption) (by assumption) (by rfl) (fun w hSw => by (try dsimp only at hSw); obtain ⟨hA, hB, hC⟩ := hSw; go_simp) (fun hcl => ?_)
   (try simp only [Act.put, List.setIfInBounds_toArray, List.set_cons_zero, List.set_cons_succ])
   refine Rq.tk 4 (.slice ga es.length cap) (Rq.s (Rq.s (Rq.s (Rq.s Rq.z)))) (by kernel_rfl) (by kernel_rfl) (by kernel_rfl) (by kernel_rfl) (fun _ _ _ h => h) (by assumption) (by assumption) (by rfl) (fun w hSw => by (try dsimp only at hSw); obtain ⟨hA, hB, hC⟩ := hSw; go_simp) (fun hcl => ?_)
   (try simp only [Act.put, List.setIfInBounds_toArray, List.set_cons_zero, List.set_cons_succ])
   refine Rq.tk 5 (.pointer (some ⟨bp, 0, none⟩)) (Rq.s (Rq.s (Rq.s (Rq.s (Rq.s Rq.z))))) (by kernel_rfl) (by kernel_rfl) (by kernel_rfl) (by kernel_rfl) (fun _ _ _ h => h) (by assumption) (by assumption) (by rfl) (fun w hSw => by (try dsimp only at hSw); obtain ⟨hA, hB, hC⟩ := hSw; go_simp) (fun hcl => ?_)
   (try simp only [Act.put, List.setIfInBounds_toArray, List.set_cons_zero, List.set_cons_succ])
   refine Rq.on 6 (Rq.s (Rq.s (Rq.s (Rq.s (Rq.s (Rq.s Rq.z)))))) (by kernel_rfl) (by assumption) (fun K hK => ?_)
   go_simp
   go_at_call 156
   refine (unhide HQ).mono ?_
   intro r w1 h1
   cases hn : Tp.expr l e 61 1 i with
   | error j =>
    rw [hn] at h1
    obtain ⟨rfl, ht⟩ := h1
    obtain rfl : o = .error j := by rw [← unhide HEQ, hn]
    have HT := hide ((unhide HLV).tu.then ht (unhide HLV).tu.size (fun _ _ h => Or.inl h))
    clear ht hK
    go_simp
    exact ⟨rfl, rfl, unhide HT⟩
   | ok p =>
    obtain ⟨x, j⟩ := p
    rw [hn] at h1
    obtain ⟨⟨E, rfl, hro⟩, hj, ht⟩ := h1
    obtain rfl : o = .ok (x, j) := by rw [← unhide HEQ, hn]
    have hbN := (Below.refl w1.heap.size w1).alloc (Nat.le_refl _) (Obj.cells #[.int .i64 E.k, .int .i64 E.a, .int .i64 E.n, .string E.nm, .slice E.args.ad E.args.len E.args.cap] 52)
    have hL1 := (unhide HLV).step hj ht
    have hL2 := hL1.step (hj.below hbN) (Tp.Tu.of_below hbN)
    have hrv := (unhide HLV).row.row
    have hEO : Tp.Ow W0.heap.size (Tp.blk bp (.slice ga es.length cap)) (w1.alloc (Obj.cells #[.int .i64 E.k, .int .i64 E.a, .int .i64 E.n, .string E.nm, .slice E.args.ad E.args.len E.args.cap] 52)) (fun W => Tk.RE W 61 E x) := (hro.wide (B' := W0.heap.size) (g' := Tp.blk bp (.slice ga es.length cap)) (by omega) (by omega) (by
     unfold Tp.blk
     cases hq : (Value.slice ga es.length cap).ownBlock with
     | none => left; show bp < _; omega
     | some q => left; exact (hrv.lt q hq).2)).go hbN.size (fun q _ _ hq => hbN.block q hq)
    have HEO := hide hEO
    have HL1 := hide hL1
    have HL2 := hide hL2
    have HBK := hide (heap_alloc_new w1 (Obj.cells #[.int .i64 E.k, .int .i64 E.a, .int .i64 E.n, .string E.nm, .slice E.args.ad E.args.len E.args.cap] 52))
    have hs2 : W0.heap.size ≤ (w1.alloc (Obj.cells #[.int .i64 E.k, .int .i64 E.a, .int .i64 E.n, .string E.nm, .slice E.args.ad E.args.len E.args.cap] 52)).heap.size := hL2.tu.size
    clear hj ht hbN hL1 hL2 hEO hro hrv hHeld hcl
    go_simp
    refine hK _ _ (fun _ => ⟨(unhide HL1).box, (unhide HL1).par, (unhide HL1).arg⟩) (fun hcl => ?_)
    (try simp only [Act.put, List.setIfInBounds_toArray, List.set_cons_zero, List.set_cons_succ])
    clear hK K
    refine Rq.on 7 (Rq.s (Rq.s (Rq.s (Rq.s (Rq.s (Rq.s (Rq.s Rq.z))))))) (by kernel_rfl) (by assumption) (fun K hK => ?_)
    go_simp
    refine hK _ _ (fun _ => ⟨(unhide HL2).box, (unhide HL2).par, (unhide HL2).arg⟩) (fun hcl => ?_)
    (try simp only [Act.put, List.setIfInBounds_toArray, List.set_cons_zero, List.set_cons_succ])
    clear hK K
    refine Rq.on 8 (Rq.s (Rq.s (Rq.s (Rq.s (Rq.s (Rq.s (Rq.s (Rq.s Rq.z)))))))) (by kernel_rfl) (by assumption) (fun K hK => ?_)
    refine step_append_lies _ rfl (.tmp 20) (.tmp 23) 50 rfl W0.heap.size 52 t0 _ 5 64 Tryz.underlying50 (unhide HI) (unhide HZ0) (unhide HZ1) (unhide HZ2) rfl (by omega) (.slice ga es.length cap) es.length (es.flatMap Tk.E.cl) rfl (unhide HL2).row.row _ 1 1 [.int .i64 E.k, .int .i64 E.a, .int .i64 E.n, .string E.nm, .slice E.args.ad E.args.len E.args.cap] rfl rfl (World.news_of_block (unhide HBK)) (by simp [Value.oneCell']) (by omega) (by unfold maxLen; omega) (by omega) hs2 _ rfl ?_
    intro gA cA w6 hoA hgA hatA hltA
    have hA := (unhide HL2).app (x := x) (E := E) (unhide HEO) hgA hoA (hatA.imp id (fun e => by rw [e]; exact Nat.le_refl _))
    have hrow := (unhide HL2).row.row
    have hlow : ∀ q, q < W0.heap.size → w6.heap[q]? = (w1.alloc (Obj.cells #[.int .i64 E.k, .int .i64 E.a, .int .i64 E.n, .string E.nm, .slice E.args.ad E.args.len E.args.cap] 52)).heap[q]? := fun q hq => hgA.block q (by omega) (fun e => by have := (hrow.lt q e.symm).1; omega)
    have z4 : w6.cell? ⟨fb, 14, none⟩ = some (.slice ga es.length cap) := (World.cell?_of_block (a := ⟨fb, 14, none⟩) (hlow fb p2)).trans (unhide HL2).box
    have z5 : w6.frozen? ⟨fb, 14, none⟩ = false := (World.frozen?_of_block (a := ⟨fb, 14, none⟩) (hlow fb p2)).trans ((unhide HL2).fz 14)
    have z6 : w6.cell? ⟨pb, 0, none⟩ = some (.pointer (some ⟨bp, 0, none⟩)) := (World.cell?_of_block (a := ⟨pb, 0, none⟩) (hlow pb p4)).trans (unhide HL2).par
    have z7 : w6.cell? ⟨xa, 0, none⟩ = some (.pointer (some ⟨fb, 0, none⟩)) := (World.cell?_of_block (a := ⟨xa, 0, none⟩) (hlow xa p7)).trans (unhide HL2).arg
    have HA := hide hA
    clear hA hatA hltA hoA hgA hlow hrow
    refine hK _ _ (fun _ => ⟨z4, z6, z7⟩) (fun hcl => ?_)
    (try simp only [Act.put, List.setIfInBounds_toArray, List.set_cons_zero, List.set_cons_succ])
    clear hK K
    refine Rq.on 9 (Rq.s (Rq.s (Rq.s (Rq.s (Rq.s (Rq.s (Rq.s (Rq.s (Rq.s Rq.z))))))))) (by kernel_rfl) (by assumption) (fun K hK => ?_)
    go_simp
    refine hK _ _ (fun _ => ⟨z4, z6, z7⟩) (fun hcl => ?_)
    (try simp only [Act.put, List.setIfInBounds_toArray, List.set_cons_zero, List.set_cons_succ])
    clear hK K
    refine Rq.on 10 (Rq.s (Rq.s (Rq.s (Rq.s (Rq.s (Rq.s (Rq.s (Rq.s (Rq.s (Rq.s Rq.z)))))))))) (by kernel_rfl) (by assumption) (fun K hK => ?_)
    go_simp
    refine hK _ _ (fun _ => ⟨z4, z6, z7⟩) (fun hcl => ?_)
    (try simp only [Act.put, List.setIfInBounds_toArray, List.set_cons_zero, List.set_cons_succ])
    clear hK K
    refine Rq.on 11 (Rq.s (Rq.s (Rq.s (Rq.s (Rq.s (Rq.s (Rq.s (Rq.s (Rq.s (Rq.s (Rq.s Rq.z))))))))))) (by kernel_rfl) (by assumption) (fun K hK => ?_)
    go_simp
    refine hK _ _ (fun e => absurd e (by decide)) (fun hcl => ?_)
    (try simp only [Act.put, List.setIfInBounds_toArray, List.set_cons_zero, List.set_cons_succ])
    refine Rq.done (by kernel_rfl) ?_ _
    go_end0
    exact ⟨rfl, _, _, unhide HA⟩
 · go_wp2_with fail
   have hbV : Below w.heap.size w ((w.alloc (Obj.cells #[.bool true] 4)).drew.drew) := ((Below.refl _ _).alloc (Nat.le_refl _) _).drew.drew
   have hLV := (unhide HLS).step ((unhide HLS).at_.below hbV) (Tp.Tu.of_below hbV)
   have HLV := hide hLV
   have HQ := hide (fun (W : World) (h : Tp.J l ta c bp e W i 1) => texpr_any l ta c bp e 61 1 (by omega) (by omega) i W h)
   have hHeld : (fun V => V.cell? ⟨fb, 14, none⟩ = some (.slice ga es.length cap) ∧ V.cell? ⟨pb, 0, none⟩ = some (.pointer (some ⟨bp, 0, none⟩)) ∧ V.cell? ⟨xa, 0, none⟩ = some (.pointer (some ⟨fb, 0, none⟩))) ((w.alloc (Obj.cells #[.bool true] 4)).drew.drew) := ⟨hLV.box, hLV.par, hLV.arg⟩
   obtain ⟨t0, hi0, hz0, hz1', hz2⟩ := Tp.info_of Tryz.infoTE
   have HI := hide hi0
   have HZ0 := hide hz0
   have HZ1 := hide hz1'
   have HZ2 := hide hz2
   have hsV : ((w.alloc (Obj.cells #[.bool true] 4)).drew.drew).heap.size = w.heap.size + 1 := by simp
   clear hbV hLV hi0 hz0 hz1' hz2 hbox hpar harg
   refine Rq.begin (fun j => Nat.beq j 11) (fun V => V.cell? ⟨fb, 14, none⟩ = some (.slice ga es.length cap) ∧ V.cell? ⟨pb, 0, none⟩ = some (.pointer (some ⟨bp, 0, none⟩)) ∧ V.cell? ⟨xa, 0, none⟩ = some (.pointer (some ⟨fb, 0, none⟩))) (by kernel_rfl) hHeld (fun hHeld hcl => ?_)
   generalize ((w.alloc (Obj.cells #[.bool true] 4)).drew.drew) = WV at *
   refine Rq.tk 0 (.pointer (some ⟨fb, 0, none⟩)) Rq.z (by kernel_rfl) (by kernel_rfl) (by kernel_rfl) (by kernel_rfl) (fun _ _ _ h => h) (by assumption) (by assumption) (by rfl) (fun w hSw => by (try dsimp only at hSw); obtain ⟨hA, hB, hC⟩ := hSw; go_simp) (fun hcl => ?_)
   (try simp only [Act.put, List.setIfInBounds_toArray, List.set_cons_zero, List.set_cons_succ])
   refine Rq.tk 1 (.pointer (some ⟨fb, 0, none⟩)) (Rq.s Rq.z) (by kernel_rfl) (by kernel_rfl) (by kernel_rfl) (by kernel_rfl) (fun _ _ _ h => h) (by assumption) (by assumption) (by rfl) (fun w hSw => by (try dsimp only at hSw); obtain ⟨hA, hB, hC⟩ := hSw; go_simp) (fun hcl => ?_)
   (try simp only [Act.put, List.setIfInBounds_toArray, List.set_cons_zero, List.set_cons_succ])
   refine Rq.tk 2 (.pointer (some ⟨fb, 14, none⟩)) (Rq.s (Rq.s Rq.z)) (by kernel_rfl) (by kernel_rfl) (by kernel_rfl) (by kernel_rfl) (fun _ _ _ h => h) (by assumption) (by assumption) (by rfl) (fun w hSw => by (try dsimp only at hSw); obtain ⟨hA, hB, hC⟩ := hSw; go_simp) (fun hcl => ?_)
   (try simp only [Act.put, List.setIfInBounds_toArray, List.set_cons_zero, List.set_cons_succ])
   refine Rq.tk 3 (.slice ga es.length cap) (Rq.s (Rq.s (Rq.s Rq.z))) (by kernel_rfl) (by kernel_rfl) (by kernel_rfl) (by kernel_rfl) (fun _ _ _ h => h) (by assumption) (by assumption) (by rfl) (fun w hSw => by (try dsimp only at hSw); obtain ⟨hA, hB, hC⟩ := hSw; go_simp) (fun hcl => ?_)
   (try simp only [Act.put, List.setIfInBounds_toArray, List.set_cons_zero, List.set_cons_succ])
   refine Rq.tk 4 (.pointer (some ⟨bp, 0, none⟩)) (Rq.s (Rq.s (Rq.s (Rq.s Rq.z)))) (by kernel_rfl) (by kernel_rfl) (by kernel_rfl) (by kernel_rfl) (fun _ _ _ h => h) (by assumption) (by assumption) (by rfl) (fun w hSw => by (try dsimp only at hSw); obtain ⟨hA, hB, hC⟩ := hSw; go_simp) (fun hcl => ?_)
   (try simp only [Act.put, List.setIfInBounds_toArray, List.set_cons_zero, List.set_cons_succ])
   refine Rq.tk 6 (.int .i64 es.length) (Rq.s (Rq.s (Rq.s (Rq.s (Rq.s (Rq.s Rq.z)))))) (by kernel_rfl) (by kernel_rfl) (by kernel_rfl) (by kernel_rfl) (fun _ _ _ h => h) (by assumption) (by assumption) (by rfl) (fun w hSw => by (try dsimp only at hSw); obtain ⟨hA, hB, hC⟩ := hSw; go_simp) (fun hcl => ?_)
   (try simp only [Act.put, List.setIfInBounds_toArray, List.set_cons_zero, List.set_cons_succ])
   refine Rq.two 5 7 (Rq.s (Rq.s (Rq.s (Rq.s (Rq.s Rq.z))))).is (Rq.s (Rq.s (Rq.s (Rq.s (Rq.s (Rq.s (Rq.s Rq.z))))))).is (by kernel_rfl) (by assumption) (fun K hK => ?_) (fun K hK => ?_)
   · go_simp
     go_at_call 156
     refine ((unhide HQ) _ (unhide HLV).at_).mono ?_
     intro r w1 h1
     cases hn : Tp.expr l e 61 1 i with
     | error j =>
      rw [hn] at h1
      obtain ⟨rfl, ht⟩ := h1
      obtain rfl : o = .error j := by rw [← unhide HEQ, hn]
      have HT := hide ((unhide HLV).tu.then ht (unhide HLV).tu.size (fun _ _ h => Or.inl h))
      clear ht hK
      go_simp
      exact ⟨rfl, rfl, unhide HT⟩
     | ok p =>
      obtain ⟨x, j⟩ := p
      rw [hn] at h1
      obtain ⟨⟨E, rfl, hro⟩, hj, ht⟩ := h1
      obtain rfl : o = .ok (x, j) := by rw [← unhide HEQ, hn]
      have hrv := (unhide HLV).row.row
      have hlv := (unhide HLV).tu.size
      have hE1 : Tp.Ow W0.heap.size (Tp.blk bp (.slice ga es.length cap)) w1 (fun W => Tk.RE W 61 E x) := hro.wide (by omega) (by omega) (by
       unfold Tp.blk
       cases hq : (Value.slice ga es.length cap).ownBlock with
       | none => left; show bp < _; omega
       | some q => left; exact (hrv.lt q hq).2)
      have hL1 := (unhide HLV).step hj ht
      have hbN := (Below.refl w1.heap.size w1).alloc (Nat.le_refl _) (Obj.cells #[.int .i64 0, .int .i64 0, .int .i64 0, .string ⟨#[]⟩, .slice none 0 0] 52)
      have HEO := hide (hE1.go hbN.size (fun q _ _ hq => hbN.block q hq))
      have HL1 := hide hL1
      have HL2 := hide (hL1.step (hj.below hbN) (Tp.Tu.of_below hbN))
      have HBK := hide (heap_alloc_new w1 (Obj.cells #[.int .i64 0, .int .i64 0, .int .i64 0, .string ⟨#[]⟩, .slice none 0 0] 52))
      have hs2 : W0.heap.size ≤ (w1.alloc (Obj.cells #[.int .i64 0, .int .i64 0, .int .i64 0, .string ⟨#[]⟩, .slice none 0 0] 52)).heap.size := (unhide HL2).tu.size
      clear hj ht hbN hL1 hE1 hro hrv hlv hHeld hcl HLV HLS
      go_simp
      refine hK _ _ (fun _ => ⟨(unhide HL1).box, (unhide HL1).par, (unhide HL1).arg⟩) (fun hcl => ?_)
      (try simp only [Act.put, List.setIfInBounds_toArray, List.set_cons_zero, List.set_cons_succ])
      clear hK K
      refine Rq.on 7 (Rq.s (Rq.s (Rq.s (Rq.s (Rq.s (Rq.s (Rq.s Rq.z))))))) (by kernel_rfl) (by assumption) (fun K hK => ?_)
      go_simp
      refine hK _ _ (fun _ => ⟨(unhide HL2).box, (unhide HL2).par, (unhide HL2).arg⟩) (fun hcl => ?_)
      (try simp only [Act.put, List.setIfInBounds_toArray, List.set_cons_zero, List.set_cons_succ])
      clear hK K
      generalize hW2 : (w1.alloc (Obj.cells #[.int .i64 0, .int .i64 0, .int .i64 0, .string ⟨#[]⟩, .slice none 0 0] 52)) = W2 at *
      clear hW2
      refine Rq.on 8 (Rq.s (Rq.s (Rq.s (Rq.s (Rq.s (Rq.s (Rq.s (Rq.s Rq.z)))))))) (by kernel_rfl) (by assumption) (fun K hK => ?_)
      refine step_append_lies _ rfl (.tmp 7) (.tmp 11) 50 rfl W0.heap.size 52 t0 _ 5 64 Tryz.underlying50 (unhide HI) (unhide HZ0) (unhide HZ1) (unhide HZ2) rfl (by omega) (.slice ga es.length cap) es.length (es.flatMap Tk.E.cl) rfl (unhide HL2).row.row _ 1 1 [.int .i64 0, .int .i64 0, .int .i64 0, .string ⟨#[]⟩, .slice none 0 0] rfl rfl (World.news_of_block (unhide HBK)) (by simp [Value.oneCell']) (by omega) (by unfold maxLen; omega) (by omega) hs2 _ rfl ?_
      intro gA cA w6 hoA hgA hatA hltA
      have hA := (unhide HL2).app (x := Tp.zE) (E := Tk.E.zero) (Tp.leafE _ _ _ _ _ _ _ _ (by decide)) hgA hoA (hatA.imp id (fun e => by rw [e]; exact Nat.le_refl _))
      have hE6 := (unhide HEO).appE hgA (hatA.imp id (fun e => by rw [e]; exact Nat.le_refl _))
      have hrow := (unhide HL2).row.row
      have hlow : ∀ q, q < W0.heap.size → w6.heap[q]? = W2.heap[q]? := fun q hq => hgA.block q (by omega) (fun e => by have := (hrow.lt q e.symm).1; omega)
      have z4 : w6.cell? ⟨fb, 14, none⟩ = some (.slice ga es.length cap) := (World.cell?_of_block (a := ⟨fb, 14, none⟩) (hlow fb p2)).trans (unhide HL2).box
      have z5 : w6.frozen? ⟨fb, 14, none⟩ = false := (World.frozen?_of_block (a := ⟨fb, 14, none⟩) (hlow fb p2)).trans ((unhide HL2).fz 14)
      have z6 : w6.cell? ⟨pb, 0, none⟩ = some (.pointer (some ⟨bp, 0, none⟩)) := (World.cell?_of_block (a := ⟨pb, 0, none⟩) (hlow pb p4)).trans (unhide HL2).par
      have z7 : w6.cell? ⟨xa, 0, none⟩ = some (.pointer (some ⟨fb, 0, none⟩)) := (World.cell?_of_block (a := ⟨xa, 0, none⟩) (hlow xa p7)).trans (unhide HL2).arg
      have HA := hide hA
      have HE6 := hide hE6
      have hgz : W0.heap.size ≤ gA := (hoA.lt gA rfl).1
      clear hA hatA hltA hoA hgA hlow hrow hE6
      refine hK _ _ (fun _ => ⟨z4, z6, z7⟩) (fun hcl => ?_)
      (try simp only [Act.put, List.setIfInBounds_toArray, List.set_cons_zero, List.set_cons_succ])
      clear hK K
      refine Rq.on 9 (Rq.s (Rq.s (Rq.s (Rq.s (Rq.s (Rq.s (Rq.s (Rq.s (Rq.s Rq.z))))))))) (by kernel_rfl) (by assumption) (fun K hK => ?_)
      go_simp
      refine hK _ _ (fun _ => ⟨z4, z6, z7⟩) (fun hcl => ?_)
      (try simp only [Act.put, List.setIfInBounds_toArray, List.set_cons_zero, List.set_cons_succ])
      clear hK K
      refine Rq.on 10 (Rq.s (Rq.s (Rq.s (Rq.s (Rq.s (Rq.s (Rq.s (Rq.s (Rq.s (Rq.s Rq.z)))))))))) (by kernel_rfl) (by assumption) (fun K hK => ?_)
      go_simp
      refine hK _ _ (fun _ => ⟨z4, z6, z7⟩) (fun hcl => ?_)
      (try simp only [Act.put, List.setIfInBounds_toArray, List.set_cons_zero, List.set_cons_succ])
      clear hK K
      refine Rq.on 11 (Rq.s (Rq.s (Rq.s (Rq.s (Rq.s (Rq.s (Rq.s (Rq.s (Rq.s (Rq.s (Rq.s Rq.z))))))))))) (by kernel_rfl) (by assumption) (fun K hK => ?_)
      go_simp
      refine hK _ _ (fun e => absurd e (by decide)) (fun hcl => ?_)
      (try simp only [Act.put, List.setIfInBounds_toArray, List.set_cons_zero, List.set_cons_succ])
      refine Rq.done (by kernel_rfl) ?_ _
      clear hK K
      have hA := unhide HA
      obtain ⟨⟨l0, l1, l2, l3, l4⟩, lf⟩ := hA.lastAt
      have HZ := hide (hA.last (E := E) (x := x) ((unhide HE6).go (by simp [World.setCell]) (fun q h1 h2 _ => Below.heap_setCell _ _ _ _ (show q ≠ fb by omega))))
      clear hA z4 z5 z6 z7
      go_wp2_with fail
      go_end0
      exact ⟨rfl, _, _, unhide HZ⟩
   · have hbN := (Below.refl WV.heap.size WV).alloc (Nat.le_refl _) (Obj.cells #[.int .i64 0, .int .i64 0, .int .i64 0, .string ⟨#[]⟩, .slice none 0 0] 52)
     have hLN := (unhide HLV).step ((unhide HLV).at_.below hbN) (Tp.Tu.of_below hbN)
     have HLN := hide hLN
     have hbk := heap_alloc_new WV (Obj.cells #[.int .i64 0, .int .i64 0, .int .i64 0, .string ⟨#[]⟩, .slice none 0 0] 52)
     have hsN : (WV.alloc (Obj.cells #[.int .i64 0, .int .i64 0, .int .i64 0, .string ⟨#[]⟩, .slice none 0 0] 52)).heap.size = WV.heap.size + 1 := by simp
     have hwb : bp < WV.heap.size := (unhide HLV).at_.lt
     clear hbN hHeld hcl
     go_simp
     refine hK _ _ (fun _ => ⟨(unhide HLN).box, (unhide HLN).par, (unhide HLN).arg⟩) (fun hcl => ?_)
     (try simp only [Act.put, List.setIfInBounds_toArray, List.set_cons_zero, List.set_cons_succ])
     clear hK K
     generalize hWN : (WV.alloc (Obj.cells #[.int .i64 0, .int .i64 0, .int .i64 0, .string ⟨#[]⟩, .slice none 0 0] 52)) = WN at *
     clear hWN
     refine Rq.on 5 (Rq.s (Rq.s (Rq.s (Rq.s (Rq.s Rq.z))))) (by kernel_rfl) (by assumption) (fun K hK => ?_)
     go_simp
     go_at_call 156
     refine ((unhide HQ) _ (unhide HLN).at_).mono ?_
     intro r w1 h1
     cases hn : Tp.expr l e 61 1 i with
     | error j =>
      rw [hn] at h1
      obtain ⟨rfl, ht⟩ := h1
      obtain rfl : o = .error j := by rw [← unhide HEQ, hn]
      have HT := hide ((unhide HLN).tu.then ht (unhide HLN).tu.size (fun _ _ h => Or.inl h))
      clear ht hK
      go_simp
      exact ⟨rfl, rfl, unhide HT⟩
     | ok p =>
      obtain ⟨x, j⟩ := p
      rw [hn] at h1
      obtain ⟨⟨E, rfl, hro⟩, hj, ht⟩ := h1
      obtain rfl : o = .ok (x, j) := by rw [← unhide HEQ, hn]
      have hrv := (unhide HLN).row.row
      have hlv := (unhide HLN).tu.size
      have hE1 : Tp.Ow W0.heap.size (Tp.blk bp (.slice ga es.length cap)) w1 (fun W => Tk.RE W 61 E x) := hro.wide (by omega) (by omega) (by
       unfold Tp.blk
       cases hq : (Value.slice ga es.length cap).ownBlock with
       | none => left; show bp < _; omega
       | some q => left; exact (hrv.lt q hq).2)
      have hL1 := (unhide HLN).step hj ht
      have hbk1 : w1.heap[WV.heap.size]? = some (Obj.cells #[.int .i64 0, .int .i64 0, .int .i64 0, .string ⟨#[]⟩, .slice none 0 0] 52) := (ht.block WV.heap.size (by omega) (by show ¬ WV.heap.size = bp; omega)).trans hbk
      rw [hsV] at hbk1
      have HBK := hide hbk1
      clear hbk1
      have HEO := hide hE1
      have HL2 := hide hL1
      have hs2 : W0.heap.size ≤ w1.heap.size := hL1.tu.size
      clear hj ht hL1 hE1 hro hrv hlv hcl HLV HLS HLN hbk
      go_simp
      refine hK _ _ (fun _ => ⟨(unhide HL2).box, (unhide HL2).par, (unhide HL2).arg⟩) (fun hcl => ?_)
      (try simp only [Act.put, List.setIfInBounds_toArray, List.set_cons_zero, List.set_cons_succ])
      clear hK K
      generalize hW2 : w1 = W2 at *
      refine Rq.on 8 (Rq.s (Rq.s (Rq.s (Rq.s (Rq.s (Rq.s (Rq.s (Rq.s Rq.z)))))))) (by kernel_rfl) (by assumption) (fun K hK => ?_)
      refine step_append_lies _ rfl (.tmp 7) (.tmp 11) 50 rfl W0.heap.size 52 t0 _ 5 64 Tryz.underlying50 (unhide HI) (unhide HZ0) (unhide HZ1) (unhide HZ2) rfl (by omega) (.slice ga es.length cap) es.length (es.flatMap Tk.E.cl) rfl (unhide HL2).row.row _ 1 1 [.int .i64 0, .int .i64 0, .int .i64 0, .string ⟨#[]⟩, .slice none 0 0] rfl rfl (World.news_of_block (unhide HBK)) (by simp [Value.oneCell']) (by omega) (by unfold maxLen; omega) (by omega) hs2 _ rfl ?_
      intro gA cA w6 hoA hgA hatA hltA
      have hA := (unhide HL2).app (x := Tp.zE) (E := Tk.E.zero) (Tp.leafE _ _ _ _ _ _ _ _ (by decide)) hgA hoA (hatA.imp id (fun e => by rw [e]; exact Nat.le_refl _))
      have hE6 := (unhide HEO).appE hgA (hatA.imp id (fun e => by rw [e]; exact Nat.le_refl _))
      have hrow := (unhide HL2).row.row
      have hlow : ∀ q, q < W0.heap.size → w6.heap[q]? = W2.heap[q]? := fun q hq => hgA.block q (by omega) (fun e => by have := (hrow.lt q e.symm).1; omega)
      have z4 : w6.cell? ⟨fb, 14, none⟩ = some (.slice ga es.length cap) := (World.cell?_of_block (a := ⟨fb, 14, none⟩) (hlow fb p2)).trans (unhide HL2).box
      have z5 : w6.frozen? ⟨fb, 14, none⟩ = false := (World.frozen?_of_block (a := ⟨fb, 14, none⟩) (hlow fb p2)).trans ((unhide HL2).fz 14)
      have z6 : w6.cell? ⟨pb, 0, none⟩ = some (.pointer (some ⟨bp, 0, none⟩)) := (World.cell?_of_block (a := ⟨pb, 0, none⟩) (hlow pb p4)).trans (unhide HL2).par
      have z7 : w6.cell? ⟨xa, 0, none⟩ = some (.pointer (some ⟨fb, 0, none⟩)) := (World.cell?_of_block (a := ⟨xa, 0, none⟩) (hlow xa p7)).trans (unhide HL2).arg
      have HA := hide hA
      have HE6 := hide hE6
      have hgz : W0.heap.size ≤ gA := (hoA.lt gA rfl).1
      clear hA hatA hltA hoA hgA hlow hrow hE6
      refine hK _ _ (fun _ => ⟨z4, z6, z7⟩) (fun hcl => ?_)
      (try simp only [Act.put, List.setIfInBounds_toArray, List.set_cons_zero, List.set_cons_succ])
      clear hK K
      refine Rq.on 9 (Rq.s (Rq.s (Rq.s (Rq.s (Rq.s (Rq.s (Rq.s (Rq.s (Rq.s Rq.z))))))))) (by kernel_rfl) (by assumption) (fun K hK => ?_)
      go_simp
      refine hK _ _ (fun _ => ⟨z4, z6, z7⟩) (fun hcl => ?_)
      (try simp only [Act.put, List.setIfInBounds_toArray, List.set_cons_zero, List.set_cons_succ])
      clear hK K
      refine Rq.on 10 (Rq.s (Rq.s (Rq.s (Rq.s (Rq.s (Rq.s (Rq.s (Rq.s (Rq.s (Rq.s Rq.z)))))))))) (by kernel_rfl) (by assumption) (fun K hK => ?_)
      go_simp
      refine hK _ _ (fun _ => ⟨z4, z6, z7⟩) (fun hcl => ?_)
      (try simp only [Act.put, List.setIfInBounds_toArray, List.set_cons_zero, List.set_cons_succ])
      clear hK K
      refine Rq.on 11 (Rq.s (Rq.s (Rq.s (Rq.s (Rq.s (Rq.s (Rq.s (Rq.s (Rq.s (Rq.s (Rq.s Rq.z))))))))))) (by kernel_rfl) (by assumption) (fun K hK => ?_)
      go_simp
      refine hK _ _ (fun e => absurd e (by decide)) (fun hcl => ?_)
      (try simp only [Act.put, List.setIfInBounds_toArray, List.set_cons_zero, List.set_cons_succ])
      refine Rq.done (by kernel_rfl) ?_ _
      clear hK K
      have hA := unhide HA
      obtain ⟨⟨l0, l1, l2, l3, l4⟩, lf⟩ := hA.lastAt
      have HZ := hide (hA.last (E := E) (x := x) ((unhide HE6).go (by simp [World.setCell]) (fun q h1 h2 _ => Below.heap_setCell _ _ _ _ (show q ≠ fb by omega))))
      clear hA z4 z5 z6 z7
      go_wp2_with fail
      go_end0
      exact ⟨rfl, _, _, unhide HZ⟩
end
end Go.Proofs.YtfccpddehpgfoaaGreatDoor
