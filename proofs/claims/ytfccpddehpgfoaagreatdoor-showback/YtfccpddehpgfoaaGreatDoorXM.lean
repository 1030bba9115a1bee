/- By the verifier. -/
import Derived.Test.YtfccpddehpgfoaaGreatDoorUG
import Derived.Laws.IdiomCopy
import Derived.Laws.Rows
import Derived.Deep.CutBlock
set_option maxRecDepth 100000
set_option maxHeartbeats 3200000
namespace Go.Proofs.YtfccpddehpgfoaaGreatDoor
open Go.RowKit
set_option linter.unusedVariables false
theorem ZdY : (Tryz.prog.info? 52).map (fun i => (i.zero, i.size, i.bytes)) = some (some (.agg #[.int .i64 0, .int .i64 0, .int .i64 0, .string ⟨#[]⟩, .slice none 0 0]), 5, 64) := by kernel_rfl
section
variable (l : List Tp.T) (ta : Option Addr) (c bp : Nat) (e : Int)
theorem Zlt (fb pb xa : Nat) (W0 : World) (v : Value) (es : List Tk.E) (acc : List (Zat 61)) (i : Nat) (w : World) (hacc : es.length ≤ 10002) (h : Tp.Ls l ta c bp e fb pb xa (.pointer (some ⟨fb, 0, none⟩)) 14 52 5 Tk.E.cl (fun W => Tk.RE W 61) 1 W0 v es acc i w) :
  Calls Tryz.prog 213 #[.pointer (some ⟨xa, 0, none⟩), .pointer (some ⟨pb, 0, none⟩)] w (ZgP l ta c bp e fb pb xa (.pointer (some ⟨fb, 0, none⟩)) 14 52 5 Tk.E.cl (fun W => Tk.RE W 61) 1 W0 es acc (Tp.expr l e 61 1 i)) := by
 obtain ⟨o, ho⟩ : ∃ o, Tp.expr l e 61 1 i = o := ⟨_, rfl⟩
 rw [ho]
 have HEQ := Hd ho
 clear ho
 obtain ⟨ga, cap, rfl, hcap⟩ := h.row.form
 have hbox := h.box
 have hpar := h.par
 have harg := h.arg
 have hlt := h.at_.lt
 have HLS := Hd h
 obtain ⟨p1, p2, p3, p4, p5⟩ := h.pos
 obtain ⟨p6, p7, p8⟩ := h.pox
 have hz := h.tu.size
 clear h
 go_enter Tryz.func213, Tryz.ntmps213
 go_wp2_with fail
 go_region
 · go_wp2_with fail
   have hbV : Below w.heap.size w ((w.alloc (Obj.cells #[.bool false] 4)).drew.drew) := (Zr.alloc Zl _).drew.drew
   have hLV := (uh HLS).step ((uh HLS).at_.below hbV) (Tp.Tu.of_below hbV)
   have HLV := Hd hLV
   have HQ := Hd (ZbN l ta c bp e 61 1 (by omega) (by omega) i _ hLV.at_)
   have hHeld : (fun V => V.cell? ⟨fb, 14, none⟩ = some (.slice ga es.length cap) ∧ V.cell? ⟨pb, 0, none⟩ = some (.pointer (some ⟨bp, 0, none⟩)) ∧ V.cell? ⟨xa, 0, none⟩ = some (.pointer (some ⟨fb, 0, none⟩))) ((w.alloc (Obj.cells #[.bool false] 4)).drew.drew) := ⟨hLV.box, hLV.par, hLV.arg⟩
   obtain ⟨t0, hi0, hz0, hz1', hz2⟩ := Tp.info_of ZdY
   have HI := Hd hi0
   have HZ0 := Hd hz0
   have HZ1 := Hd hz1'
   have HZ2 := Hd hz2
   have hsV : ((w.alloc (Obj.cells #[.bool false] 4)).drew.drew).heap.size = w.heap.size + 1 := by simp
   clear hbV hLV hi0 hz0 hz1' hz2 hbox hpar harg
   refine ZbA (fun j => Nat.beq j 11) (fun V => V.cell? ⟨fb, 14, none⟩ = some (.slice ga es.length cap) ∧ V.cell? ⟨pb, 0, none⟩ = some (.pointer (some ⟨bp, 0, none⟩)) ∧ V.cell? ⟨xa, 0, none⟩ = some (.pointer (some ⟨fb, 0, none⟩))) (by kernel_rfl) hHeld (fun hHeld hcl => ?_)
   generalize ((w.alloc (Obj.cells #[.bool false] 4)).drew.drew) = WV at *
   refine Rq.tk 0 (.pointer (some ⟨fb, 0, none⟩)) Rq.z (by kernel_rfl) (by kernel_rfl) (by kernel_rfl) (by kernel_rfl) (fun _ _ _ h => h) (by assumption) (by assumption) (by rfl) (fun w hSw => by (try dsimp only at hSw); obtain ⟨hA, hB, hC⟩ := hSw; go_simp) (fun hcl => ?_)
   (try simp only [Act.put, Zt, Zz, Zs])
   refine Rq.tk 1 (.pointer (some ⟨fb, 0, none⟩)) (Rq.s Rq.z) (by kernel_rfl) (by kernel_rfl) (by kernel_rfl) (by kernel_rfl) (fun _ _ _ h => h) (by assumption) (by assumption) (by rfl) (fun w hSw => by (try dsimp only at hSw); obtain ⟨hA, hB, hC⟩ := hSw; go_simp) (fun hcl => ?_)
   (try simp only [Act.put, Zt, Zz, Zs])
   refine Rq.tk 2 (.pointer (some ⟨fb, 0, none⟩)) (Rq.s (Rq.s Rq.z)) (by kernel_rfl) (by kernel_rfl) (by kernel_rfl) (by kernel_rfl) (fun _ _ _ h => h) (by assumption) (by assumption) (by rfl) (fun w hSw => by (try dsimp only at hSw); obtain ⟨hA, hB, hC⟩ := hSw; go_simp) (fun hcl => ?_)
   (try simp only [Act.put, Zt, Zz, Zs])
   refine Rq.tk 3 (.pointer (some ⟨fb, 14, none⟩)) (Rq.s (Rq.s (Rq.s Rq.z))) (by kernel_rfl) (by kernel_rfl) (by kernel_rfl) (by kernel_rfl) (fun _ _ _ h => h) (by assumption) (by assumption) (by rfl) (fun w hSw => by (try dsimp only at hSw); obtain ⟨hA, hB, hC⟩ := hSw; go_simp) (fun hcl => ?_)
   (try simp only [Act.put, Zt, Zz, Zs])
   refine Rq.tk 4 (.slice ga es.length cap) (Rq.s (Rq.s (Rq.s (Rq.s Rq.z)))) (by kernel_rfl) (by kernel_rfl) (by kernel_rfl) (by kernel_rfl) (fun _ _ _ h => h) (by assumption) (by assumption) (by rfl) (fun w hSw => by (try dsimp only at hSw); obtain ⟨hA, hB, hC⟩ := hSw; go_simp) (fun hcl => ?_)
   (try simp only [Act.put, Zt, Zz, Zs])
   refine Rq.tk 5 (.pointer (some ⟨bp, 0, none⟩)) (Rq.s (Rq.s (Rq.s (Rq.s (Rq.s Rq.z))))) (by kernel_rfl) (by kernel_rfl) (by kernel_rfl) (by kernel_rfl) (fun _ _ _ h => h) (by assumption) (by assumption) (by rfl) (fun w hSw => by (try dsimp only at hSw); obtain ⟨hA, hB, hC⟩ := hSw; go_simp) (fun hcl => ?_)
   (try simp only [Act.put, Zt, Zz, Zs])
   refine Rq.on 6 (Rq.s (Rq.s (Rq.s (Rq.s (Rq.s (Rq.s Rq.z)))))) (by kernel_rfl) (by assumption) (fun K hK => ?_)
   go_simp
   go_at_call 156
   refine (uh HQ).mono ?_
   intro r w1 h1
   cases hn : Tp.expr l e 61 1 i with
   | error j =>
    rw [hn] at h1
    obtain ⟨rfl, ht⟩ := h1
    obtain rfl : o = .error j := by rw [← uh HEQ, hn]
    have HT := Hd ((uh HLV).tu.then ht (uh HLV).tu.size (fun _ _ h => Or.inl h))
    clear ht hK
    go_simp
    exact ⟨rfl, rfl, uh HT⟩
   | ok p =>
    obtain ⟨x, j⟩ := p
    rw [hn] at h1
    obtain ⟨⟨E, rfl, hro⟩, hj, ht⟩ := h1
    obtain rfl : o = .ok (x, j) := by rw [← uh HEQ, hn]
    have hbN := (Below.refl w1.heap.size w1).alloc Zl (Obj.cells #[.int .i64 E.k, .int .i64 E.a, .int .i64 E.n, .string E.nm, .slice E.args.ad E.args.len E.args.cap] 52)
    have hL1 := (uh HLV).step hj ht
    have hL2 := hL1.step (hj.below hbN) (Tp.Tu.of_below hbN)
    have hrv := (uh HLV).row.row
    have hEO : Tp.Ow W0.heap.size (Tp.blk bp (.slice ga es.length cap)) (w1.alloc (Obj.cells #[.int .i64 E.k, .int .i64 E.a, .int .i64 E.n, .string E.nm, .slice E.args.ad E.args.len E.args.cap] 52)) (fun W => Tk.RE W 61 E x) := (hro.wide (B' := W0.heap.size) (g' := Tp.blk bp (.slice ga es.length cap)) (by omega) (by omega) (by
     unfold Tp.blk
     cases hq : (Value.slice ga es.length cap).ownBlock with
     | none => left; show bp < _; omega
     | some q => left; exact (hrv.lt q hq).2)).go hbN.size (fun q _ _ hq => hbN.block q hq)
    have HEO := Hd hEO
    have HL1 := Hd hL1
    have HL2 := Hd hL2
    have HBK := Hd (heap_alloc_new w1 (Obj.cells #[.int .i64 E.k, .int .i64 E.a, .int .i64 E.n, .string E.nm, .slice E.args.ad E.args.len E.args.cap] 52))
    have hs2 : W0.heap.size ≤ (w1.alloc (Obj.cells #[.int .i64 E.k, .int .i64 E.a, .int .i64 E.n, .string E.nm, .slice E.args.ad E.args.len E.args.cap] 52)).heap.size := hL2.tu.size
    clear hj ht hbN hL1 hL2 hEO hro hrv hHeld hcl
    go_simp
    refine hK _ _ (fun _ => ⟨(uh HL1).box, (uh HL1).par, (uh HL1).arg⟩) (fun hcl => ?_)
    (try simp only [Act.put, Zt, Zz, Zs])
    clear hK K
    refine Rq.on 7 (Rq.s (Rq.s (Rq.s (Rq.s (Rq.s (Rq.s (Rq.s Rq.z))))))) (by kernel_rfl) (by assumption) (fun K hK => ?_)
    go_simp
    refine hK _ _ (fun _ => ⟨(uh HL2).box, (uh HL2).par, (uh HL2).arg⟩) (fun hcl => ?_)
    (try simp only [Act.put, Zt, Zz, Zs])
    clear hK K
    refine Rq.on 8 (Rq.s (Rq.s (Rq.s (Rq.s (Rq.s (Rq.s (Rq.s (Rq.s Rq.z)))))))) (by kernel_rfl) (by assumption) (fun K hK => ?_)
    refine step_append_lies _ rfl (.tmp 20) (.tmp 23) 50 rfl W0.heap.size 52 t0 _ 5 64 Tryz.underlying50 (uh HI) (uh HZ0) (uh HZ1) (uh HZ2) rfl (by omega) (.slice ga es.length cap) es.length (es.flatMap Tk.E.cl) rfl (uh HL2).row.row _ 1 1 [.int .i64 E.k, .int .i64 E.a, .int .i64 E.n, .string E.nm, .slice E.args.ad E.args.len E.args.cap] rfl rfl (World.news_of_block (uh HBK)) (by simp [Value.oneCell']) (by omega) (by unfold maxLen; omega) (by omega) hs2 _ rfl ?_
    intro gA cA w6 hoA hgA hatA hltA
    have hA := (uh HL2).app (x := x) (E := E) (uh HEO) hgA hoA (hatA.imp id (fun e => by rw [e]; exact Nat.le_refl _))
    have hrow := (uh HL2).row.row
    have hlow : ∀ q, q < W0.heap.size → w6.heap[q]? = (w1.alloc (Obj.cells #[.int .i64 E.k, .int .i64 E.a, .int .i64 E.n, .string E.nm, .slice E.args.ad E.args.len E.args.cap] 52)).heap[q]? := fun q hq => hgA.block q (by omega) (fun e => by have := (hrow.lt q e.symm).1; omega)
    have z4 : w6.cell? ⟨fb, 14, none⟩ = some (.slice ga es.length cap) := (Zc (a := ⟨fb, 14, none⟩) (hlow fb p2)).trans (uh HL2).box
    have z5 : w6.frozen? ⟨fb, 14, none⟩ = false := (Zf (a := ⟨fb, 14, none⟩) (hlow fb p2)).trans ((uh HL2).fz 14)
    have z6 : w6.cell? ⟨pb, 0, none⟩ = some (.pointer (some ⟨bp, 0, none⟩)) := (Zc (a := ⟨pb, 0, none⟩) (hlow pb p4)).trans (uh HL2).par
    have z7 : w6.cell? ⟨xa, 0, none⟩ = some (.pointer (some ⟨fb, 0, none⟩)) := (Zc (a := ⟨xa, 0, none⟩) (hlow xa p7)).trans (uh HL2).arg
    have HA := Hd hA
    clear hA hatA hltA hoA hgA hlow hrow
    refine hK _ _ (fun _ => ⟨z4, z6, z7⟩) (fun hcl => ?_)
    (try simp only [Act.put, Zt, Zz, Zs])
    clear hK K
    refine Rq.on 9 (Rq.s (Rq.s (Rq.s (Rq.s (Rq.s (Rq.s (Rq.s (Rq.s (Rq.s Rq.z))))))))) (by kernel_rfl) (by assumption) (fun K hK => ?_)
    go_simp
    refine hK _ _ (fun _ => ⟨z4, z6, z7⟩) (fun hcl => ?_)
    (try simp only [Act.put, Zt, Zz, Zs])
    clear hK K
    refine Rq.on 10 (Rq.s (Rq.s (Rq.s (Rq.s (Rq.s (Rq.s (Rq.s (Rq.s (Rq.s (Rq.s Rq.z)))))))))) (by kernel_rfl) (by assumption) (fun K hK => ?_)
    go_simp
    refine hK _ _ (fun _ => ⟨z4, z6, z7⟩) (fun hcl => ?_)
    (try simp only [Act.put, Zt, Zz, Zs])
    clear hK K
    refine Rq.on 11 (Rq.s (Rq.s (Rq.s (Rq.s (Rq.s (Rq.s (Rq.s (Rq.s (Rq.s (Rq.s (Rq.s Rq.z))))))))))) (by kernel_rfl) (by assumption) (fun K hK => ?_)
    go_simp
    refine hK _ _ (fun e => absurd e (by decide)) (fun hcl => ?_)
    (try simp only [Act.put, Zt, Zz, Zs])
    refine Rq.done (by kernel_rfl) ?_ _
    go_end0
    exact ⟨rfl, _, _, uh HA⟩
 go_wp2_with fail
 have hbV : Below w.heap.size w ((w.alloc (Obj.cells #[.bool true] 4)).drew.drew) := (Zr.alloc Zl _).drew.drew
 have hLV := (uh HLS).step ((uh HLS).at_.below hbV) (Tp.Tu.of_below hbV)
 have HLV := Hd hLV
 have HQ := Hd (fun (W : World) (h : Tp.J l ta c bp e W i 1) => ZbN l ta c bp e 61 1 (by omega) (by omega) i W h)
 have hHeld : (fun V => V.cell? ⟨fb, 14, none⟩ = some (.slice ga es.length cap) ∧ V.cell? ⟨pb, 0, none⟩ = some (.pointer (some ⟨bp, 0, none⟩)) ∧ V.cell? ⟨xa, 0, none⟩ = some (.pointer (some ⟨fb, 0, none⟩))) ((w.alloc (Obj.cells #[.bool true] 4)).drew.drew) := ⟨hLV.box, hLV.par, hLV.arg⟩
 obtain ⟨t0, hi0, hz0, hz1', hz2⟩ := Tp.info_of ZdY
 have HI := Hd hi0
 have HZ0 := Hd hz0
 have HZ1 := Hd hz1'
 have HZ2 := Hd hz2
 have hsV : ((w.alloc (Obj.cells #[.bool true] 4)).drew.drew).heap.size = w.heap.size + 1 := by simp
 clear hbV hLV hi0 hz0 hz1' hz2 hbox hpar harg
 refine ZbA (fun j => Nat.beq j 11) (fun V => V.cell? ⟨fb, 14, none⟩ = some (.slice ga es.length cap) ∧ V.cell? ⟨pb, 0, none⟩ = some (.pointer (some ⟨bp, 0, none⟩)) ∧ V.cell? ⟨xa, 0, none⟩ = some (.pointer (some ⟨fb, 0, none⟩))) (by kernel_rfl) hHeld (fun hHeld hcl => ?_)
 generalize ((w.alloc (Obj.cells #[.bool true] 4)).drew.drew) = WV at *
 refine Rq.tk 0 (.pointer (some ⟨fb, 0, none⟩)) Rq.z (by kernel_rfl) (by kernel_rfl) (by kernel_rfl) (by kernel_rfl) (fun _ _ _ h => h) (by assumption) (by assumption) (by rfl) (fun w hSw => by (try dsimp only at hSw); obtain ⟨hA, hB, hC⟩ := hSw; go_simp) (fun hcl => ?_)
 (try simp only [Act.put, Zt, Zz, Zs])
 refine Rq.tk 1 (.pointer (some ⟨fb, 0, none⟩)) (Rq.s Rq.z) (by kernel_rfl) (by kernel_rfl) (by kernel_rfl) (by kernel_rfl) (fun _ _ _ h => h) (by assumption) (by assumption) (by rfl) (fun w hSw => by (try dsimp only at hSw); obtain ⟨hA, hB, hC⟩ := hSw; go_simp) (fun hcl => ?_)
 (try simp only [Act.put, Zt, Zz, Zs])
 refine Rq.tk 2 (.pointer (some ⟨fb, 14, none⟩)) (Rq.s (Rq.s Rq.z)) (by kernel_rfl) (by kernel_rfl) (by kernel_rfl) (by kernel_rfl) (fun _ _ _ h => h) (by assumption) (by assumption) (by rfl) (fun w hSw => by (try dsimp only at hSw); obtain ⟨hA, hB, hC⟩ := hSw; go_simp) (fun hcl => ?_)
 (try simp only [Act.put, Zt, Zz, Zs])
 refine Rq.tk 3 (.slice ga es.length cap) (Rq.s (Rq.s (Rq.s Rq.z))) (by kernel_rfl) (by kernel_rfl) (by kernel_rfl) (by kernel_rfl) (fun _ _ _ h => h) (by assumption) (by assumption) (by rfl) (fun w hSw => by (try dsimp only at hSw); obtain ⟨hA, hB, hC⟩ := hSw; go_simp) (fun hcl => ?_)
 (try simp only [Act.put, Zt, Zz, Zs])
 refine Rq.tk 4 (.pointer (some ⟨bp, 0, none⟩)) (Rq.s (Rq.s (Rq.s (Rq.s Rq.z)))) (by kernel_rfl) (by kernel_rfl) (by kernel_rfl) (by kernel_rfl) (fun _ _ _ h => h) (by assumption) (by assumption) (by rfl) (fun w hSw => by (try dsimp only at hSw); obtain ⟨hA, hB, hC⟩ := hSw; go_simp) (fun hcl => ?_)
 (try simp only [Act.put, Zt, Zz, Zs])
 refine Rq.tk 6 (.int .i64 es.length) (Rq.s (Rq.s (Rq.s (Rq.s (Rq.s (Rq.s Rq.z)))))) (by kernel_rfl) (by kernel_rfl) (by kernel_rfl) (by kernel_rfl) (fun _ _ _ h => h) (by assumption) (by assumption) (by rfl) (fun w hSw => by (try dsimp only at hSw); obtain ⟨hA, hB, hC⟩ := hSw; go_simp) (fun hcl => ?_)
 (try simp only [Act.put, Zt, Zz, Zs])
 refine Rq.two 5 7 (Rq.s (Rq.s (Rq.s (Rq.s (Rq.s Rq.z))))).is (Rq.s (Rq.s (Rq.s (Rq.s (Rq.s (Rq.s (Rq.s Rq.z))))))).is (by kernel_rfl) (by assumption) (fun K hK => ?_) (fun K hK => ?_)
 · go_simp
   go_at_call 156
   refine ((uh HQ) _ (uh HLV).at_).mono ?_
   intro r w1 h1
   cases hn : Tp.expr l e 61 1 i with
   | error j =>
    rw [hn] at h1
    obtain ⟨rfl, ht⟩ := h1
    obtain rfl : o = .error j := by rw [← uh HEQ, hn]
    have HT := Hd ((uh HLV).tu.then ht (uh HLV).tu.size (fun _ _ h => Or.inl h))
    clear ht hK
    go_simp
    exact ⟨rfl, rfl, uh HT⟩
   | ok p =>
    obtain ⟨x, j⟩ := p
    rw [hn] at h1
    obtain ⟨⟨E, rfl, hro⟩, hj, ht⟩ := h1
    obtain rfl : o = .ok (x, j) := by rw [← uh HEQ, hn]
    have hrv := (uh HLV).row.row
    have hlv := (uh HLV).tu.size
    have hE1 : Tp.Ow W0.heap.size (Tp.blk bp (.slice ga es.length cap)) w1 (fun W => Tk.RE W 61 E x) := hro.wide (by omega) (by omega) (by
     unfold Tp.blk
     cases hq : (Value.slice ga es.length cap).ownBlock with
     | none => left; show bp < _; omega
     | some q => left; exact (hrv.lt q hq).2)
    have hL1 := (uh HLV).step hj ht
    have hbN := (Below.refl w1.heap.size w1).alloc Zl (Obj.cells #[.int .i64 0, .int .i64 0, .int .i64 0, .string ⟨#[]⟩, .slice none 0 0] 52)
    have HEO := Hd (hE1.go hbN.size (fun q _ _ hq => hbN.block q hq))
    have HL1 := Hd hL1
    have HL2 := Hd (hL1.step (hj.below hbN) (Tp.Tu.of_below hbN))
    have HBK := Hd (heap_alloc_new w1 (Obj.cells #[.int .i64 0, .int .i64 0, .int .i64 0, .string ⟨#[]⟩, .slice none 0 0] 52))
    have hs2 : W0.heap.size ≤ (w1.alloc (Obj.cells #[.int .i64 0, .int .i64 0, .int .i64 0, .string ⟨#[]⟩, .slice none 0 0] 52)).heap.size := (uh HL2).tu.size
    clear hj ht hbN hL1 hE1 hro hrv hlv hHeld hcl HLV HLS
    go_simp
    refine hK _ _ (fun _ => ⟨(uh HL1).box, (uh HL1).par, (uh HL1).arg⟩) (fun hcl => ?_)
    (try simp only [Act.put, Zt, Zz, Zs])
    clear hK K
    refine Rq.on 7 (Rq.s (Rq.s (Rq.s (Rq.s (Rq.s (Rq.s (Rq.s Rq.z))))))) (by kernel_rfl) (by assumption) (fun K hK => ?_)
    go_simp
    refine hK _ _ (fun _ => ⟨(uh HL2).box, (uh HL2).par, (uh HL2).arg⟩) (fun hcl => ?_)
    (try simp only [Act.put, Zt, Zz, Zs])
    clear hK K
    generalize hW2 : (w1.alloc (Obj.cells #[.int .i64 0, .int .i64 0, .int .i64 0, .string ⟨#[]⟩, .slice none 0 0] 52)) = W2 at *
    clear hW2
    refine Rq.on 8 (Rq.s (Rq.s (Rq.s (Rq.s (Rq.s (Rq.s (Rq.s (Rq.s Rq.z)))))))) (by kernel_rfl) (by assumption) (fun K hK => ?_)
    refine step_append_lies _ rfl (.tmp 7) (.tmp 11) 50 rfl W0.heap.size 52 t0 _ 5 64 Tryz.underlying50 (uh HI) (uh HZ0) (uh HZ1) (uh HZ2) rfl (by omega) (.slice ga es.length cap) es.length (es.flatMap Tk.E.cl) rfl (uh HL2).row.row _ 1 1 [.int .i64 0, .int .i64 0, .int .i64 0, .string ⟨#[]⟩, .slice none 0 0] rfl rfl (World.news_of_block (uh HBK)) (by simp [Value.oneCell']) (by omega) (by unfold maxLen; omega) (by omega) hs2 _ rfl ?_
    intro gA cA w6 hoA hgA hatA hltA
    have hA := (uh HL2).app (x := ZaO) (E := Tk.E.zero) (ZcP _ _ _ _ _ _ _ _ (by decide)) hgA hoA (hatA.imp id (fun e => by rw [e]; exact Nat.le_refl _))
    have hE6 := (uh HEO).appE hgA (hatA.imp id (fun e => by rw [e]; exact Nat.le_refl _))
    have hrow := (uh HL2).row.row
    have hlow : ∀ q, q < W0.heap.size → w6.heap[q]? = W2.heap[q]? := fun q hq => hgA.block q (by omega) (fun e => by have := (hrow.lt q e.symm).1; omega)
    have z4 : w6.cell? ⟨fb, 14, none⟩ = some (.slice ga es.length cap) := (Zc (a := ⟨fb, 14, none⟩) (hlow fb p2)).trans (uh HL2).box
    have z5 : w6.frozen? ⟨fb, 14, none⟩ = false := (Zf (a := ⟨fb, 14, none⟩) (hlow fb p2)).trans ((uh HL2).fz 14)
    have z6 : w6.cell? ⟨pb, 0, none⟩ = some (.pointer (some ⟨bp, 0, none⟩)) := (Zc (a := ⟨pb, 0, none⟩) (hlow pb p4)).trans (uh HL2).par
    have z7 : w6.cell? ⟨xa, 0, none⟩ = some (.pointer (some ⟨fb, 0, none⟩)) := (Zc (a := ⟨xa, 0, none⟩) (hlow xa p7)).trans (uh HL2).arg
    have HA := Hd hA
    have HE6 := Hd hE6
    have hgz : W0.heap.size ≤ gA := (hoA.lt gA rfl).1
    clear hA hatA hltA hoA hgA hlow hrow hE6
    refine hK _ _ (fun _ => ⟨z4, z6, z7⟩) (fun hcl => ?_)
    (try simp only [Act.put, Zt, Zz, Zs])
    clear hK K
    refine Rq.on 9 (Rq.s (Rq.s (Rq.s (Rq.s (Rq.s (Rq.s (Rq.s (Rq.s (Rq.s Rq.z))))))))) (by kernel_rfl) (by assumption) (fun K hK => ?_)
    go_simp
    refine hK _ _ (fun _ => ⟨z4, z6, z7⟩) (fun hcl => ?_)
    (try simp only [Act.put, Zt, Zz, Zs])
    clear hK K
    refine Rq.on 10 (Rq.s (Rq.s (Rq.s (Rq.s (Rq.s (Rq.s (Rq.s (Rq.s (Rq.s (Rq.s Rq.z)))))))))) (by kernel_rfl) (by assumption) (fun K hK => ?_)
    go_simp
    refine hK _ _ (fun _ => ⟨z4, z6, z7⟩) (fun hcl => ?_)
    (try simp only [Act.put, Zt, Zz, Zs])
    clear hK K
    refine Rq.on 11 (Rq.s (Rq.s (Rq.s (Rq.s (Rq.s (Rq.s (Rq.s (Rq.s (Rq.s (Rq.s (Rq.s Rq.z))))))))))) (by kernel_rfl) (by assumption) (fun K hK => ?_)
    go_simp
    refine hK _ _ (fun e => absurd e (by decide)) (fun hcl => ?_)
    (try simp only [Act.put, Zt, Zz, Zs])
    refine Rq.done (by kernel_rfl) ?_ _
    clear hK K
    have hA := uh HA
    obtain ⟨⟨l0, l1, l2, l3, l4⟩, lf⟩ := hA.lastAt
    have HZ := Hd (hA.last (E := E) (x := x) ((uh HE6).go (by simp [World.setCell]) (fun q h1 h2 _ => Below.heap_setCell _ _ _ _ (show q ≠ fb by omega))))
    clear hA z4 z5 z6 z7
    go_wp2_with fail
    go_end0
    exact ⟨rfl, _, _, uh HZ⟩
 have hbN := (Below.refl WV.heap.size WV).alloc Zl (Obj.cells #[.int .i64 0, .int .i64 0, .int .i64 0, .string ⟨#[]⟩, .slice none 0 0] 52)
 have hLN := (uh HLV).step ((uh HLV).at_.below hbN) (Tp.Tu.of_below hbN)
 have HLN := Hd hLN
 have hbk := heap_alloc_new WV (Obj.cells #[.int .i64 0, .int .i64 0, .int .i64 0, .string ⟨#[]⟩, .slice none 0 0] 52)
 have hsN : (WV.alloc (Obj.cells #[.int .i64 0, .int .i64 0, .int .i64 0, .string ⟨#[]⟩, .slice none 0 0] 52)).heap.size = WV.heap.size + 1 := by simp
 have hwb : bp < WV.heap.size := (uh HLV).at_.lt
 clear hbN hHeld hcl
 go_simp
 refine hK _ _ (fun _ => ⟨(uh HLN).box, (uh HLN).par, (uh HLN).arg⟩) (fun hcl => ?_)
 (try simp only [Act.put, Zt, Zz, Zs])
 clear hK K
 generalize hWN : (WV.alloc (Obj.cells #[.int .i64 0, .int .i64 0, .int .i64 0, .string ⟨#[]⟩, .slice none 0 0] 52)) = WN at *
 clear hWN
 refine Rq.on 5 (Rq.s (Rq.s (Rq.s (Rq.s (Rq.s Rq.z))))) (by kernel_rfl) (by assumption) (fun K hK => ?_)
 go_simp
 go_at_call 156
 refine ((uh HQ) _ (uh HLN).at_).mono ?_
 intro r w1 h1
 cases hn : Tp.expr l e 61 1 i with
 | error j =>
  rw [hn] at h1
  obtain ⟨rfl, ht⟩ := h1
  obtain rfl : o = .error j := by rw [← uh HEQ, hn]
  have HT := Hd ((uh HLN).tu.then ht (uh HLN).tu.size (fun _ _ h => Or.inl h))
  clear ht hK
  go_simp
  exact ⟨rfl, rfl, uh HT⟩
 | ok p =>
  obtain ⟨x, j⟩ := p
  rw [hn] at h1
  obtain ⟨⟨E, rfl, hro⟩, hj, ht⟩ := h1
  obtain rfl : o = .ok (x, j) := by rw [← uh HEQ, hn]
  have hrv := (uh HLN).row.row
  have hlv := (uh HLN).tu.size
  have hE1 : Tp.Ow W0.heap.size (Tp.blk bp (.slice ga es.length cap)) w1 (fun W => Tk.RE W 61 E x) := hro.wide (by omega) (by omega) (by
   unfold Tp.blk
   cases hq : (Value.slice ga es.length cap).ownBlock with
   | none => left; show bp < _; omega
   | some q => left; exact (hrv.lt q hq).2)
  have hL1 := (uh HLN).step hj ht
  have hbk1 : w1.heap[WV.heap.size]? = some (Obj.cells #[.int .i64 0, .int .i64 0, .int .i64 0, .string ⟨#[]⟩, .slice none 0 0] 52) := (ht.block WV.heap.size (by omega) (by show ¬ WV.heap.size = bp; omega)).trans hbk
  rw [hsV] at hbk1
  have HBK := Hd hbk1
  clear hbk1
  have HEO := Hd hE1
  have HL2 := Hd hL1
  have hs2 : W0.heap.size ≤ w1.heap.size := hL1.tu.size
  clear hj ht hL1 hE1 hro hrv hlv hcl HLV HLS HLN hbk
  go_simp
  refine hK _ _ (fun _ => ⟨(uh HL2).box, (uh HL2).par, (uh HL2).arg⟩) (fun hcl => ?_)
  (try simp only [Act.put, Zt, Zz, Zs])
  clear hK K
  generalize hW2 : w1 = W2 at *
  refine Rq.on 8 (Rq.s (Rq.s (Rq.s (Rq.s (Rq.s (Rq.s (Rq.s (Rq.s Rq.z)))))))) (by kernel_rfl) (by assumption) (fun K hK => ?_)
  refine step_append_lies _ rfl (.tmp 7) (.tmp 11) 50 rfl W0.heap.size 52 t0 _ 5 64 Tryz.underlying50 (uh HI) (uh HZ0) (uh HZ1) (uh HZ2) rfl (by omega) (.slice ga es.length cap) es.length (es.flatMap Tk.E.cl) rfl (uh HL2).row.row _ 1 1 [.int .i64 0, .int .i64 0, .int .i64 0, .string ⟨#[]⟩, .slice none 0 0] rfl rfl (World.news_of_block (uh HBK)) (by simp [Value.oneCell']) (by omega) (by unfold maxLen; omega) (by omega) hs2 _ rfl ?_
  intro gA cA w6 hoA hgA hatA hltA
  have hA := (uh HL2).app (x := ZaO) (E := Tk.E.zero) (ZcP _ _ _ _ _ _ _ _ (by decide)) hgA hoA (hatA.imp id (fun e => by rw [e]; exact Nat.le_refl _))
  have hE6 := (uh HEO).appE hgA (hatA.imp id (fun e => by rw [e]; exact Nat.le_refl _))
  have hrow := (uh HL2).row.row
  have hlow : ∀ q, q < W0.heap.size → w6.heap[q]? = W2.heap[q]? := fun q hq => hgA.block q (by omega) (fun e => by have := (hrow.lt q e.symm).1; omega)
  have z4 : w6.cell? ⟨fb, 14, none⟩ = some (.slice ga es.length cap) := (Zc (a := ⟨fb, 14, none⟩) (hlow fb p2)).trans (uh HL2).box
  have z5 : w6.frozen? ⟨fb, 14, none⟩ = false := (Zf (a := ⟨fb, 14, none⟩) (hlow fb p2)).trans ((uh HL2).fz 14)
  have z6 : w6.cell? ⟨pb, 0, none⟩ = some (.pointer (some ⟨bp, 0, none⟩)) := (Zc (a := ⟨pb, 0, none⟩) (hlow pb p4)).trans (uh HL2).par
  have z7 : w6.cell? ⟨xa, 0, none⟩ = some (.pointer (some ⟨fb, 0, none⟩)) := (Zc (a := ⟨xa, 0, none⟩) (hlow xa p7)).trans (uh HL2).arg
  have HA := Hd hA
  have HE6 := Hd hE6
  have hgz : W0.heap.size ≤ gA := (hoA.lt gA rfl).1
  clear hA hatA hltA hoA hgA hlow hrow hE6
  refine hK _ _ (fun _ => ⟨z4, z6, z7⟩) (fun hcl => ?_)
  (try simp only [Act.put, Zt, Zz, Zs])
  clear hK K
  refine Rq.on 9 (Rq.s (Rq.s (Rq.s (Rq.s (Rq.s (Rq.s (Rq.s (Rq.s (Rq.s Rq.z))))))))) (by kernel_rfl) (by assumption) (fun K hK => ?_)
  go_simp
  refine hK _ _ (fun _ => ⟨z4, z6, z7⟩) (fun hcl => ?_)
  (try simp only [Act.put, Zt, Zz, Zs])
  clear hK K
  refine Rq.on 10 (Rq.s (Rq.s (Rq.s (Rq.s (Rq.s (Rq.s (Rq.s (Rq.s (Rq.s (Rq.s Rq.z)))))))))) (by kernel_rfl) (by assumption) (fun K hK => ?_)
  go_simp
  refine hK _ _ (fun _ => ⟨z4, z6, z7⟩) (fun hcl => ?_)
  (try simp only [Act.put, Zt, Zz, Zs])
  clear hK K
  refine Rq.on 11 (Rq.s (Rq.s (Rq.s (Rq.s (Rq.s (Rq.s (Rq.s (Rq.s (Rq.s (Rq.s (Rq.s Rq.z))))))))))) (by kernel_rfl) (by assumption) (fun K hK => ?_)
  go_simp
  refine hK _ _ (fun e => absurd e (by decide)) (fun hcl => ?_)
  (try simp only [Act.put, Zt, Zz, Zs])
  refine Rq.done (by kernel_rfl) ?_ _
  clear hK K
  have hA := uh HA
  obtain ⟨⟨l0, l1, l2, l3, l4⟩, lf⟩ := hA.lastAt
  have HZ := Hd (hA.last (E := E) (x := x) ((uh HE6).go (by simp [World.setCell]) (fun q h1 h2 _ => Below.heap_setCell _ _ _ _ (show q ≠ fb by omega))))
  clear hA z4 z5 z6 z7
  go_wp2_with fail
  go_end0
  exact ⟨rfl, _, _, uh HZ⟩
end
structure Tp.Cb (l : List Tp.T) (ta : Option Addr) (c bp : Nat) (e : Int) (w0 : World) (cb : Nat) (P : World → Prop) (cs : Array Value) (i b : Nat) (W : World) : Prop where
 at_ : Tp.J l ta c bp e W i b
 tu : Tp.Tu (fun q => q = bp ∨ q = cb) w0.heap.size w0 W
 box : ∀ j v, cs[j]? = some v → W.cell? ⟨cb, j, none⟩ = some v
 fz : ∀ j, W.frozen? ⟨cb, j, none⟩ = false
 own : Tp.Ow w0.heap.size bp W P
 pos : bp < cb ∧ cb < w0.heap.size
def Zd8 (s bp cb : Nat) (V : World) : Prop := V.cell? ⟨s + 1, 0, none⟩ = some (.pointer (some ⟨cb, 0, none⟩)) ∧ V.cell? ⟨s, 0, none⟩ = some (.pointer (some ⟨bp, 0, none⟩))
section
variable {l : List Tp.T} {ta : Option Addr} {c bp : Nat} {e : Int} {w0 W W1 : World} {cb : Nat} {P Q : World → Prop} {cs cs' : Array Value} {i b j b' : Nat}
theorem Tp.Cb.lt (h : Tp.Cb l ta c bp e w0 cb P cs i b W) : bp < cb ∧ cb < w0.heap.size ∧ w0.heap.size ≤ W.heap.size := ⟨h.pos.1, h.pos.2, h.tu.size⟩
theorem Tp.Cb.step (h : Tp.Cb l ta c bp e w0 cb P cs i b W) (hj : Tp.J l ta c bp e W1 j b') (ht : Tp.Tu (ZaA bp) W.heap.size W W1) : Tp.Cb l ta c bp e w0 cb P cs j b' W1 := by
 obtain ⟨p1, p2, p3⟩ := h.lt
 have hb : W1.heap[cb]? = W.heap[cb]? := ht.block cb (by omega) (by show ¬ cb = bp; omega)
 exact ⟨hj, h.tu.then ht p3 (fun _ _ h => Or.inl h), fun k v hk => (Zc (a := ⟨cb, k, none⟩) hb).trans (h.box k v hk), fun k => (Zf (a := ⟨cb, k, none⟩) hb).trans (h.fz k),
  h.own.tu ht Zl (fun q hq => Or.inr hq), h.pos⟩
theorem Tp.Cb.below (h : Tp.Cb l ta c bp e w0 cb P cs i b W) (hb : Below W.heap.size W W1) : Tp.Cb l ta c bp e w0 cb P cs i b W1 := h.step (h.at_.below hb) (Tp.Tu.of_below hb)
theorem Tp.Cb.and {B : Nat} (h : Tp.Cb l ta c bp e w0 cb P cs i b W) (hq : Tp.Ow B bp W Q) (hB : w0.heap.size ≤ B) : Tp.Cb l ta c bp e w0 cb (fun V => P V ∧ Q V) cs i b W :=
 ⟨h.at_, h.tu, h.box, h.fz, fun W' h1 h2 => ⟨h.own W' h1 h2, hq W' h1 (fun q a1 a2 a3 => h2 q (by omega) a2 a3)⟩, h.pos⟩
theorem Tp.Cb.imp (h : Tp.Cb l ta c bp e w0 cb P cs i b W) (hi : ∀ V, P V → Q V) : Tp.Cb l ta c bp e w0 cb Q cs i b W := ⟨h.at_, h.tu, h.box, h.fz, fun W' h1 h2 => hi W' (h.own W' h1 h2), h.pos⟩
theorem Tp.Cb.set (h : Tp.Cb l ta c bp e w0 cb P cs i b W) (k : Nat) (v : Value) (hk : ∃ u, cs[k]? = some u) (hcs : cs' = cs.setIfInBounds k v) : Tp.Cb l ta c bp e w0 cb P cs' i b (W.setCell ⟨cb, k, none⟩ v) := by
 obtain ⟨p1, p2, p3⟩ := h.lt
 obtain ⟨u, hu⟩ := hk
 subst hcs
 refine ⟨h.at_.set _ p1, h.tu.set _ (fun _ => Or.inr rfl), fun j x hj => ?_, fun j => by rw [World.frozen?_setCell]; exact h.fz j, h.own.go (by simp [World.setCell]) (fun q h1 _ _ => Below.heap_setCell _ _ _ _ (show q ≠ cb by omega)), h.pos⟩
 by_cases hjk : k = j
 · subst hjk
   rw [Array.getElem?_setIfInBounds_self_of_lt (Array.getElem?_eq_some_iff.1 hu).1] at hj
   cases hj
   exact World.cell?_setCell_same _ _ _ (h.box _ _ hu)
 rw [Array.getElem?_setIfInBounds_ne hjk] at hj
 exact (Tp.set_ne (fun h => hjk h.symm)).trans (h.box _ _ hj)
theorem Tp.Cb.set5 (h : Tp.Cb l ta c bp e w0 cb P cs i b W) (k : Nat) (E : Tk.E) (h0 : ∃ u, cs[k]? = some u) (h1 : ∃ u, cs[k + 1]? = some u) (h2 : ∃ u, cs[k + 2]? = some u) (h3 : ∃ u, cs[k + 3]? = some u) (h4 : ∃ u, cs[k + 4]? = some u)
  (hcs : cs' = ((((cs.setIfInBounds k (.int .i64 E.k)).setIfInBounds (k + 1) (.int .i64 E.a)).setIfInBounds (k + 2) (.int .i64 E.n)).setIfInBounds (k + 3) (.string E.nm)).setIfInBounds (k + 4) (.slice E.args.ad E.args.len E.args.cap)) :
  Tp.Cb l ta c bp e w0 cb P cs' i b (((((W.setCell ⟨cb, k, none⟩ (.int .i64 E.k)).setCell ⟨cb, k + 1, none⟩ (.int .i64 E.a)).setCell ⟨cb, k + 2, none⟩ (.int .i64 E.n)).setCell ⟨cb, k + 3, none⟩ (.string E.nm)).setCell ⟨cb, k + 4, none⟩ (.slice E.args.ad E.args.len E.args.cap)) := by
 have hx : ∀ (cs : Array Value) (m : Nat) (v : Value) (q : Nat), (∃ u, cs[q]? = some u) → ∃ u, (cs.setIfInBounds m v)[q]? = some u := fun cs m v q ⟨u, hu⟩ => by
  have hlt := (Array.getElem?_eq_some_iff.1 hu).1
  exact ⟨_, Array.getElem?_eq_getElem (by rw [Array.size_setIfInBounds]; exact hlt)⟩
 subst hcs
 exact ((((h.set k _ h0 rfl).set (k + 1) _ (hx _ _ _ _ h1) rfl).set (k + 2) _ (hx _ _ _ _ (hx _ _ _ _ h2)) rfl).set (k + 3) _ (hx _ _ _ _ (hx _ _ _ _ (hx _ _ _ _ h3))) rfl).set (k + 4) _ (hx _ _ _ _ (hx _ _ _ _ (hx _ _ _ _ (hx _ _ _ _ h4)))) rfl
theorem Tp.Cb.list {α β : Type} {pb xa k wide : Nat} {xv : Value} {ty : TypeId} {cl : α → List Value} {R : World → α → β → Prop} {v : Value} {es : List α} {xs : List β} (h : Tp.Cb l ta c bp e w0 cb P cs i b W)
  (hL : Tp.Ls l ta c bp e cb pb xa xv k ty wide cl R b' W v es xs j W1) (hw : ∀ E, (cl E).length = wide) {lies : World → Nat → Nat → α → Prop}
  (hl : ∀ (W : World) (g o : Nat) (E : α), (∀ (j : Nat) (u : Value), (cl E)[j]? = some u → W.cell? ⟨g, o + j, none⟩ = some u) → lies W g o E) (hfew : xs.length ≤ 35184372088832) :
  ∃ s : Tk.Sl, Tp.Cb l ta c bp e w0 cb (fun V => P V ∧ Tk.RS V wide (lies V) (R V) s xs) (cs.setIfInBounds k (.slice s.ad s.len s.cap)) j b' W1 := by
 obtain ⟨p1, p2, p3⟩ := h.lt
 obtain ⟨s, rfl, hs⟩ := hL.row.reads (by omega) hw hl hfew
 refine ⟨s, hL.at_, (h.tu.trans (hL.tu.mono p3 (fun _ _ h => h))), fun q u hq => ?_, hL.fz, fun W' h1 h2 => ⟨?_, hs W' h1 (fun q a1 a2 a3 => h2 q (by omega) a2 a3)⟩, h.pos⟩
 · by_cases hqk : k = q
   · subst hqk
     have hlt := (Array.getElem?_eq_some_iff.1 hq).1
     rw [Array.size_setIfInBounds] at hlt
     rw [Array.getElem?_setIfInBounds_self_of_lt hlt] at hq
     cases hq
     exact hL.box
   rw [Array.getElem?_setIfInBounds_ne hqk] at hq
   exact (hL.oth q (fun h => hqk h.symm)).trans (h.box _ _ hq)
 exact (h.own.tu hL.tu Zl (fun q hq => by rcases hq with hq | hq <;> omega)) W' h1 h2
end
theorem Tp.Ow.imp {B g : Nat} {W : World} {P Q : World → Prop} (h : Tp.Ow B g W P) (hi : ∀ V, P V → Q V) : Tp.Ow B g W Q := fun W' h1 h2 => hi W' (h W' h1 h2)
theorem Zfr {β : Type} (l : List Tp.T) (thing : Nat → Except Nat (β × Nat)) : ∀ (f i : Nat) (acc xs : List β) (j : Nat), ZbC l thing f i acc = .ok (xs, j) → xs.length ≤ acc.length + f
 | 0, _, _, _, _, h => by cases h
 | f + 1, i, acc, xs, j, h => by
  unfold ZbC at h
  split at h
  · cases hn : thing (i + 1) with
    | error j => rw [hn] at h; cases h
    | ok p =>
     obtain ⟨x, k⟩ := p
     rw [hn] at h
     have := Zfr l thing f k _ _ _ h
     rw [Za] at this
     simp at this
     omega
  cases h
  omega
theorem Zf2 {β : Type} (l : List Tp.T) (thing : Nat → Except Nat (β × Nat)) {i j : Nat} {xs : List β} (h : Tp.list l thing i = .ok (xs, j)) : xs.length ≤ l.length + 2 := by
 unfold Tp.list at h
 cases h1 : Zak l ⟨#[40]⟩ i with
 | error j => rw [h1] at h; cases h
 | ok i1 =>
  rw [h1] at h
  dsimp only at h
  cases h2 : Za8 l thing i1 with
  | error j => rw [h2] at h; cases h
  | ok p =>
   obtain ⟨ys, k⟩ := p
   rw [h2] at h
   dsimp only at h
   have hy : ys.length ≤ l.length + 2 := by
    unfold Za8 at h2
    split at h2
    · cases h2; simp
    cases h3 : thing i1 with
    | error j => rw [h3] at h2; cases h2
    | ok p =>
     obtain ⟨x, k⟩ := p
     rw [h3] at h2
     have := Zfr l thing _ _ _ _ _ h2
     simp at this
     omega
   cases h3 : Zak l ⟨#[41]⟩ k with
   | error j => rw [h3] at h; cases h
   | ok k1 => rw [h3] at h; cases h; exact hy
def Tk.C.new (a : Int) : Tk.C := ⟨0, a, ⟨#[]⟩, ⟨#[]⟩, Tk.E.zero, Tk.E.zero, ⟨none, 0, 0⟩, ⟨none, 0, 0⟩, ⟨none, 0, 0⟩⟩
def Zl4 (B bp cb n : Nat) (x : Zap 61 n) (r : Ending) (W : World) : Prop := r = .returned (.tuple #[]) ∧ ∃ C : Tk.C, (∀ j v, C.cells[j]? = some v → W.cell? ⟨cb, j, none⟩ = some v) ∧ (∀ j, W.frozen? ⟨cb, j, none⟩ = false) ∧ Tp.Ow B bp W (fun W => Tk.RC W 61 n C x)
theorem ZlF (B bp : Nat) (W : World) : Tp.Ow B bp W (fun W => Tk.RE W 61 Tk.E.zero ZaO) := ZcP B bp 60 W 0 0 0 ⟨#[]⟩ (by decide)
theorem ZaK (W : World) : Tk.RE W 61 Tk.E.zero ZaO := (ZlF 0 0 W).now
theorem ZcD (R : Nat) : ∀ (L : List Value) (k : Nat) (W : World), (∀ j, k ≤ j → j < k + L.length → ∃ u, W.cell? ⟨R, j, none⟩ = some u) →
  (∀ j v, L[j]? = some v → (W.setCells R k L).cell? ⟨R, k + j, none⟩ = some v) ∧ (∀ j, j < k → (W.setCells R k L).cell? ⟨R, j, none⟩ = W.cell? ⟨R, j, none⟩) ∧ (W.setCells R k L).heap.size = W.heap.size ∧ (∀ q, q ≠ R → (W.setCells R k L).heap[q]? = W.heap[q]?) ∧ (∀ (D : Nat → Prop) (n : Nat), n ≤ R → Tp.Tu D n W (W.setCells R k L))
 | [], k, W, _ => ⟨fun j v h => by simp at h, fun _ _ => rfl, rfl, fun _ _ => rfl, fun D n _ => Tp.Tu.refl _ _ _⟩
 | v :: r, k, W, h => by
  have h0 := h k Zl (by simp)
  obtain ⟨u, hu⟩ := h0
  obtain ⟨h1, h2, h3, h4, h5⟩ := ZcD R r (k + 1) (W.setCell ⟨R, k, none⟩ v) (fun j a1 a2 => by
   rw [Tp.set_ne (by omega)]
   exact h j (by omega) (by simp; omega))
  refine ⟨fun j x hj => ?_, fun j hj => (h2 j (by omega)).trans (Tp.set_ne (by omega)), h3.trans (by simp [World.setCell]), fun q hq => (h4 q hq).trans (Below.heap_setCell _ _ _ _ hq), fun D n hn => ((Tp.Tu.refl D n W).set (b := R) (o := k) v (fun hR => by omega)).trans (h5 D n hn)⟩
  cases j with
  | zero =>
   cases hj
   exact (h2 k (by omega)).trans (World.cell?_setCell_same _ _ _ hu)
  | succ j =>
   have := h1 j x (by simpa using hj)
   rw [show k + 1 + j = k + (j + 1) by omega] at this
   exact this
section
variable {P : Program} {ty : TypeId} {cs : Array Value} {d : TypeDesc}
theorem ZjI {b : Nat} {W : World} (hc : ∀ j v, cs[j]? = some v → W.cell? ⟨b, j, none⟩ = some v) (hu : P.underlying ty = some d) (hd : (match d with | .struct _ | .array _ _ => true | _ => false) = true) (hi : (P.info? ty).map (·.size) = some cs.size) :
  (loadVar ty ⟨b, 0, none⟩).run P W = .ok (.agg cs) W := by
 have hl : (loadCells ⟨b, 0, none⟩ cs.toList.length).run P W = .ok cs.toList.toArray W :=
  run_loadCells_list (P := P) W ⟨b, 0, none⟩ cs.toList (fun j v hv => by
   have hadd : (⟨b, 0, none⟩ : Addr).add j = ⟨b, j, none⟩ := by unfold Addr.add; split <;> simp_all
   rw [hadd]
   exact hc j v (by simpa using hv))
 cases hq : P.info? ty with
 | none => simp [hq] at hi
 | some i =>
  have hs : i.size = cs.size := by simpa [hq] using hi
  have hagg : (isAgg ty).run P W = .ok true W := by
   unfold isAgg
   rw [Sem.run_bind, run_underlying hu W]
   cases d <;> simp_all
  simp only [Array.length_toList, Array.toArray_toList] at hl
  simp [loadVar, Sem.run_bind, hagg, sizeOf, typeInfo, hq, hs, hl]
theorem ZkZ {b : Nat} {W : World} (hc : ∀ j, j < cs.size → (W.cell? ⟨b, j, none⟩).isSome = true) (hf : ∀ j, W.frozen? ⟨b, j, none⟩ = false) (h1 : ∀ v ∈ cs.toList, v.oneCell' = true) (hi : (P.info? ty).map (·.size) = some cs.size) :
  (storeVar ty ⟨b, 0, none⟩ (.agg cs)).run P W = .ok () (W.setCells b 0 cs.toList) := by
 have := run_storeCells_cells (P := P) b 0 cs.toList 0 W (fun j hj => by simpa using hc j (by simpa using hj)) (fun j _ => by simpa using hf j) h1
 cases hq : P.info? ty with
 | none => simp [hq] at hi
 | some i =>
  have hs : cs.size = i.size := by simp [hq] at hi; omega
  simp at this
  simp [storeVar, sizeOf, typeInfo, hq, Value.cells, hs, this]
theorem Zdm {Q : Exit → Act → World → Prop} {id t p r cb Rb : Nat} {o1 o2 : Oper} {T : List Value} {W : World} (h1 : o1.op = .load ty (.tmp p)) (hd1 : o1.dst = some t) (g1 : o1.guard = none) (h2 : o2.op = .store ty (.tmp r) (.tmp t)) (hd2 : o2.dst = none) (g2 : o2.guard = none)
  (hp : T[p]? = some (.pointer (some ⟨cb, 0, none⟩))) (hr : T[r]? = some (.pointer (some ⟨Rb, 0, none⟩))) (ht : t < T.length) (htr : t ≠ r)
  (hc : ∀ j v, cs[j]? = some v → W.cell? ⟨cb, j, none⟩ = some v) (hR : ∀ j, j < cs.size → ∃ u, W.cell? ⟨Rb, j, none⟩ = some u) (hRf : ∀ j, W.frozen? ⟨Rb, j, none⟩ = false) (hone : ∀ v ∈ cs.toList, v.oneCell' = true)
  (hu : P.underlying ty = some d) (hd : (match d with | .struct _ | .array _ _ => true | _ => false) = true) (hi : (P.info? ty).map (·.size) = some cs.size)
  (h : Q .normal ⟨(T.set t (.agg cs)).toArray, []⟩ (W.setCells Rb 0 cs.toList)) : (Code.region id #[o1, o2] false).wp P Q ⟨T.toArray, []⟩ W := by
 refine wp_region_lit ?_
 refine wpList_plain g1 fun K hK => ?_
 unfold Oper.wp execOp
 have e1 : (Act.eval ⟨T.toArray, []⟩ (.tmp p)) = .pointer (some ⟨cb, 0, none⟩) := by simp [Act.eval, hp]
 simp only [h1, e1, Instr.loadAt, Instr.sureAddr, Sem.run_bind, Sem.run_pure, Result.andThen_ok, ZjI hc hu hd hi]
 refine hK _ _ (wpList_plain g2 fun K2 hK2 => ?_)
 unfold Oper.wp execOp
 have e2 : (Act.eval (Act.put ⟨T.toArray, []⟩ o1.dst (.agg cs)) (.tmp r)) = .pointer (some ⟨Rb, 0, none⟩) := by
  rw [hd1]
  simp [Act.eval, Act.put, List.getElem?_set_ne htr, hr]
 have e3 : (Act.eval (Act.put ⟨T.toArray, []⟩ o1.dst (.agg cs)) (.tmp t)) = .agg cs := by
  rw [hd1]
  simp [Act.eval, Act.put, ht]
 simp only [h2, e2, e3, Instr.storeAt, Instr.sureAddr, Sem.run_bind, Sem.run_pure, Result.andThen_ok, ZkZ (fun j hj => by obtain ⟨u, hu⟩ := hR j hj; rw [hu]; rfl) hRf hone hi]
 refine hK2 _ _ ?_
 rw [hd2, hd1]
 have e4 : (Act.put (Act.put ⟨T.toArray, []⟩ (some t) (.agg cs)) none undef) = ⟨(T.set t (.agg cs)).toArray, []⟩ := by simp [Act.put]
 rw [e4]
 exact h
theorem ZcY {fn : Func} {r Rb : Nat} {T : Array Value} {W : World} (hres : fn.results = #[.cell r ty]) (hr : T[r]? = some (.pointer (some ⟨Rb, 0, none⟩))) (hR : ∀ j, j < cs.size → ∃ u, W.cell? ⟨Rb, j, none⟩ = some u)
  (hu : P.underlying ty = some d) (hd : (match d with | .struct _ | .array _ _ => true | _ => false) = true) (hi : (P.info? ty).map (·.size) = some cs.size) : (results fn T).run P (W.setCells Rb 0 cs.toList) = .ok (.agg cs) (W.setCells Rb 0 cs.toList) := by
 have hput := ZcD Rb cs.toList 0 W (fun j _ hj => hR j (by simpa using hj))
 have e5 : (loadVar ty ⟨Rb, 0, none⟩).run P (W.setCells Rb 0 cs.toList) = .ok (.agg cs) (W.setCells Rb 0 cs.toList) := ZjI (fun j v hj => by
  have := hput.1 j v (by simpa using hj)
  rwa [Nat.zero_add] at this) hu hd hi
 simp [results, hres, hr, asAddr, e5]
end
def ZkK {α β : Type} (l : List Tp.T) (ta : Option Addr) (c bp : Nat) (e : Int) (fb pb xa : Nat) (xv : Value) (k : Nat) (ty : TypeId) (wide : Nat) (cl : α → List Value) (R : World → α → β → Prop) (b : Nat) (W0 : World) (o : Except Nat (List β × Nat)) (r : Ending) (w' : World) : Prop :=
 match o with
 | .error j => r = .panicked (Zdp (Zaz l e j)) ∧ Tp.Tu (fun q => q = bp ∨ q = fb) W0.heap.size W0 w'
 | .ok (xs, j) => r = .returned (.tuple #[]) ∧ ∃ v es, Tp.Ls l ta c bp e fb pb xa xv k ty wide cl R b W0 v es xs j w'
structure Tp.Mo {α β : Type} (l : List Tp.T) (ta : Option Addr) (c bp : Nat) (e : Int) (fb pb xa : Nat) (xv : Value) (k : Nat) (ty : TypeId) (wide : Nat) (cl : α → List Value) (R : World → α → β → Prop) (W0 : World) (thing : Nat → Except Nat (β × Nat)) (om : Except Nat (List β × Nat)) (f : Nat) (v : Value) (es : List α) (acc : List β) (i : Nat) (W : World) : Prop where
 ls : Tp.Ls l ta c bp e fb pb xa xv k ty wide cl R 1 W0 v es acc i W
 is : ZbC l thing f i acc = om
 fuel : l.length < f + i
 many : es.length + f = l.length + 2
theorem Zj2 {α β : Type} (l : List Tp.T) (ta : Option Addr) (c bp : Nat) (e : Int) (fb pb xa : Nat) (xv : Value) (k : Nat) (ty : TypeId) (wide : Nat) (cl : α → List Value) (R : World → α → β → Prop) (thing : Nat → Except Nat (β × Nat)) (fa i0 : Nat) (w : World)
  (HGo : ∀ i x j, thing i = .ok (x, j) → i < j)
  (HTh : ∀ (v : Value) (es : List α) (acc : List β) (i : Nat) (W : World), es.length ≤ 10002 → Tp.Ls l ta c bp e fb pb xa xv k ty wide cl R 1 w v es acc i W → Calls Tryz.prog 153 #[.pointer (some ⟨fa, 0, none⟩), .pointer (some ⟨pb, 0, none⟩)] W (ZgP l ta c bp e fb pb xa xv k ty wide cl R 1 w es acc (thing i)))
  (h : Tp.Ls l ta c bp e fb pb xa xv k ty wide cl R 0 w (.slice none 0 0) [] [] i0 w) :
  Calls Tryz.prog 152 #[.pointer (some ⟨bp, 0, none⟩), .func (.func 153) #[] #[.pointer (some ⟨fa, 0, none⟩), .pointer (some ⟨pb, 0, none⟩)]] w (ZkK l ta c bp e fb pb xa xv k ty wide cl R 0 w (Tp.list l thing i0)) := by
 obtain ⟨o, ho⟩ : ∃ o, Tp.list l thing i0 = o := ⟨_, rfl⟩
 rw [ho]
 have HEQ := Hd ho
 have HG := Hd HGo
 have HT := Hd HTh
 have HL0 := Hd h
 have hll := h.at_.fine.few
 have HO := Hd (Zeh l ta c bp e ⟨#[40]⟩ (by decide) i0 0 (by omega) w h.at_)
 have hop : Zba l ⟨#[40]⟩ 0 i0 = Zak l ⟨#[40]⟩ i0 := by unfold Zba; rw [if_neg (by omega)]
 rw [hop] at HO
 clear h ho HGo HTh hop
 go_enter Tryz.func152, Tryz.ntmps152
 go_wp2_with fail
 refine (uh HO).mono ?_
 intro r w1 h1
 cases hn : Zak l ⟨#[40]⟩ i0 with
 | error j =>
  rw [hn] at h1
  obtain ⟨rfl, ht⟩ := h1
  have HT1 := Hd (ht.mono (D' := fun q => q = bp ∨ q = fb) Zl (fun _ _ h => Or.inl h))
  obtain rfl : o = .error j := by rw [← uh HEQ]; simp only [Tp.list, hn]
  clear ht
  go_wp2_with fail
  exact ⟨rfl, rfl, uh HT1⟩
 | ok i =>
  rw [hn] at h1
  obtain ⟨rfl, hj, ht⟩ := h1
  have HE1 := Hd hn
  have HL1 := Hd ((uh HL0).step hj ht)
  clear hj ht hn HO HL0
  obtain ⟨y, hy⟩ : ∃ y, Zal l i ⟨#[41]⟩ = y := ⟨_, rfl⟩
  have HY := Hd hy
  go_wp2_with fail
  refine (ZbJ l ta c bp e ⟨#[41]⟩ i 1 w1 (uh HL1).at_ y hy).mono ?_
  rintro r w2 ⟨rfl, hb2⟩
  have HL2 := Hd ((uh HL1).step ((uh HL1).at_.below hb2) (Tp.Tu.of_below hb2))
  clear hb2 HL1 hy
  cases y
  · have HT2 := Hd ((uh HT) _ _ _ _ _ (by simp) (uh HL2))
    go_wp2_with fail
    refine (uh HT2).mono ?_
    intro r w3 h3
    cases hn : thing i with
    | error j =>
     rw [hn] at h3
     obtain ⟨rfl, ht⟩ := h3
     have HT3 := Hd ht
     obtain rfl : o = .error j := by rw [← uh HEQ]; simp only [Tp.list, Za8, uh HE1, uh HY, Zb, if_false, hn]
     clear ht
     go_wp2_with fail
     exact ⟨rfl, rfl, uh HT3⟩
    | ok p =>
     obtain ⟨x, j⟩ := p
     rw [hn] at h3
     obtain ⟨rfl, v3, E3, hL3⟩ := h3
     obtain ⟨om, hom⟩ : ∃ om, ZbC l thing (l.length + 1) j [x] = om := ⟨_, rfl⟩
     have hIT : Za8 l thing i = om := by unfold Za8; rw [uh HY, hn]; exact hom
     have HIT := Hd hIT
     have HM0 := Hd (show Tp.Mo l ta c bp e fb pb xa xv k ty wide cl R w thing om (l.length + 1) v3 ([] ++ [E3]) ([] ++ [x]) j w3 from ⟨hL3, hom, by omega, by simp; omega⟩)
     clear hL3 hom hIT hn HL2 HT2
     go_wp2_with fail
     go_loopg [] (l.length + 1) (fun f wr => ∃ v es acc i, Tp.Mo l ta c bp e fb pb xa xv k ty wide cl R w thing om f v es acc i wr)
     case atStart => exact ⟨_, _, _, _, uh HM0⟩
     case round =>
      clear HM0 HY
      obtain ⟨v, es, acc, i, hm⟩ := hrel
      have hf := hm.fuel
      have hle := hm.ls.at_.le
      obtain ⟨f, rfl⟩ : ∃ f, gk = f + 1 := ⟨gk - 1, by omega⟩
      have HM := Hd hm
      clear hm
      obtain ⟨y, hy⟩ : ∃ y, Zal l i ⟨#[44]⟩ = y := ⟨_, rfl⟩
      have HY := Hd hy
      go_wp2_with fail
      refine (Zbi l ta c bp e ⟨#[44]⟩ (by decide) i 1 wr (uh HM).ls.at_ y hy).mono ?_
      rintro r w4 ⟨rfl, hj4, ht4⟩
      have HL4 := Hd ((uh HM).ls.step hj4 ht4)
      clear hj4 ht4 hy
      cases y
      · replace HL4 := Hd (show Tp.Ls l ta c bp e fb pb xa xv k ty wide cl R 1 w v es acc i w4 by simpa using uh HL4)
        obtain rfl : om = .ok (acc, i) := by rw [← (uh HM).is]; simp only [ZbC, uh HY, Zb, if_false]
        have hL := uh HL4
        have HC := Hd (ZcA l ta c bp e ⟨#[41]⟩ (by decide) i 0 (by omega) w4 hL.at_)
        clear hL
        go_wp2_with fail
        refine (uh HC).mono ?_
        intro r w9 h9
        cases hn : Zak l ⟨#[41]⟩ i with
        | error j =>
         rw [hn] at h9
         obtain ⟨rfl, ht⟩ := h9
         have HT := Hd ((uh HL4).tu.then ht (uh HL4).tu.size (fun _ _ h => Or.inl h))
         obtain rfl : o = .error j := by rw [← uh HEQ]; simp only [Tp.list, uh HE1, uh HIT, hn]
         clear ht
         go_wp2_with fail
         exact ⟨rfl, rfl, uh HT⟩
        | ok j =>
         rw [hn] at h9
         obtain ⟨rfl, hj, ht⟩ := h9
         obtain rfl : o = .ok (acc, j) := by rw [← uh HEQ]; simp only [Tp.list, uh HE1, uh HIT, hn]
         have HL9 := Hd ((uh HL4).step hj ht)
         clear hj ht
         go_wp2_with fail
         go_end0
         exact ⟨rfl, _, _, uh HL9⟩
      replace HL4 := Hd (show Tp.Ls l ta c bp e fb pb xa xv k ty wide cl R 1 w v es acc (i + 1) w4 by simpa using uh HL4)
      have hmany := (uh HM).many
      have HT4 := Hd ((uh HT) _ _ _ _ _ (by omega) (uh HL4))
      go_wp2_with fail
      refine (uh HT4).mono ?_
      intro r w5 h5
      cases hn : thing (i + 1) with
      | error j =>
       rw [hn] at h5
       obtain ⟨rfl, ht⟩ := h5
       have HT5 := Hd ht
       obtain rfl : om = .error j := by rw [← (uh HM).is]; simp only [ZbC, uh HY, if_true, hn]
       obtain rfl : o = .error j := by rw [← uh HEQ]; simp only [Tp.list, uh HE1, uh HIT]
       clear ht
       go_wp2_with fail
       exact ⟨rfl, rfl, uh HT5⟩
      | ok p =>
       obtain ⟨x, j⟩ := p
       rw [hn] at h5
       obtain ⟨rfl, v5, E5, hL5⟩ := h5
       have hgo := (uh HG) _ _ _ hn
       have HM5 := Hd (show Tp.Mo l ta c bp e fb pb xa xv k ty wide cl R w thing om f v5 (es ++ [E5]) (acc ++ [x]) j w5 from ⟨hL5, by rw [← (uh HM).is]; simp only [ZbC, uh HY, if_true, hn], by omega, by rw [Za]; simp; omega⟩)
       clear hL5 hn HT4 HL4
       go_wp2_with fail
       go_roundg f
       case measure => omega
       case rel => exact ⟨_, _, _, _, uh HM5⟩
  obtain ⟨acc, hacc⟩ : ∃ acc : List β, acc = [] := ⟨_, rfl⟩
  have HIT := Hd (show Za8 l thing i = .ok (acc, i) by unfold Za8; rw [uh HY, hacc]; rfl)
  rw [← hacc] at HL2
  clear hacc
  have hL := uh HL2
  have HC := Hd (ZcA l ta c bp e ⟨#[41]⟩ (by decide) i 0 (by omega) w2 hL.at_)
  clear hL
  go_wp2_with fail
  refine (uh HC).mono ?_
  intro r w9 h9
  cases hn : Zak l ⟨#[41]⟩ i with
  | error j =>
   rw [hn] at h9
   obtain ⟨rfl, ht⟩ := h9
   have HT := Hd ((uh HL2).tu.then ht (uh HL2).tu.size (fun _ _ h => Or.inl h))
   obtain rfl : o = .error j := by rw [← uh HEQ]; simp only [Tp.list, uh HE1, uh HIT, hn]
   clear ht
   go_wp2_with fail
   exact ⟨rfl, rfl, uh HT⟩
  | ok j =>
   rw [hn] at h9
   obtain ⟨rfl, hj, ht⟩ := h9
   obtain rfl : o = .ok (acc, j) := by rw [← uh HEQ]; simp only [Tp.list, uh HE1, uh HIT, hn]
   have HL9 := Hd ((uh HL2).step hj ht)
   clear hj ht
   go_wp2_with fail
   go_end0
   exact ⟨rfl, _, _, uh HL9⟩
theorem Zj3 {α β : Type} (l : List Tp.T) (ta : Option Addr) (c bp : Nat) (e : Int) (fb pb xa : Nat) (xv : Value) (k : Nat) (ty : TypeId) (wide : Nat) (cl : α → List Value) (R : World → α → β → Prop) (thing : Nat → Except Nat (β × Nat)) (fa i0 : Nat) (w : World)
  (HGo : ∀ i x j, thing i = .ok (x, j) → i < j)
  (HTh : ∀ (v : Value) (es : List α) (acc : List β) (i : Nat) (W : World), es.length ≤ 10002 → Tp.Ls l ta c bp e fb pb xa xv k ty wide cl R 1 w v es acc i W → Calls Tryz.prog 213 #[.pointer (some ⟨fa, 0, none⟩), .pointer (some ⟨pb, 0, none⟩)] W (ZgP l ta c bp e fb pb xa xv k ty wide cl R 1 w es acc (thing i)))
  (h : Tp.Ls l ta c bp e fb pb xa xv k ty wide cl R 0 w (.slice none 0 0) [] [] i0 w) :
  Calls Tryz.prog 152 #[.pointer (some ⟨bp, 0, none⟩), .func (.func 213) #[] #[.pointer (some ⟨fa, 0, none⟩), .pointer (some ⟨pb, 0, none⟩)]] w (ZkK l ta c bp e fb pb xa xv k ty wide cl R 0 w (Tp.list l thing i0)) := by
 obtain ⟨o, ho⟩ : ∃ o, Tp.list l thing i0 = o := ⟨_, rfl⟩
 rw [ho]
 have HEQ := Hd ho
 have HG := Hd HGo
 have HT := Hd HTh
 have HL0 := Hd h
 have hll := h.at_.fine.few
 have HO := Hd (Zeh l ta c bp e ⟨#[40]⟩ (by decide) i0 0 (by omega) w h.at_)
 have hop : Zba l ⟨#[40]⟩ 0 i0 = Zak l ⟨#[40]⟩ i0 := by unfold Zba; rw [if_neg (by omega)]
 rw [hop] at HO
 clear h ho HGo HTh hop
 go_enter Tryz.func152, Tryz.ntmps152
 go_wp2_with fail
 refine (uh HO).mono ?_
 intro r w1 h1
 cases hn : Zak l ⟨#[40]⟩ i0 with
 | error j =>
  rw [hn] at h1
  obtain ⟨rfl, ht⟩ := h1
  have HT1 := Hd (ht.mono (D' := fun q => q = bp ∨ q = fb) Zl (fun _ _ h => Or.inl h))
  obtain rfl : o = .error j := by rw [← uh HEQ]; simp only [Tp.list, hn]
  clear ht
  go_wp2_with fail
  exact ⟨rfl, rfl, uh HT1⟩
 | ok i =>
  rw [hn] at h1
  obtain ⟨rfl, hj, ht⟩ := h1
  have HE1 := Hd hn
  have HL1 := Hd ((uh HL0).step hj ht)
  clear hj ht hn HO HL0
  obtain ⟨y, hy⟩ : ∃ y, Zal l i ⟨#[41]⟩ = y := ⟨_, rfl⟩
  have HY := Hd hy
  go_wp2_with fail
  refine (ZbJ l ta c bp e ⟨#[41]⟩ i 1 w1 (uh HL1).at_ y hy).mono ?_
  rintro r w2 ⟨rfl, hb2⟩
  have HL2 := Hd ((uh HL1).step ((uh HL1).at_.below hb2) (Tp.Tu.of_below hb2))
  clear hb2 HL1 hy
  cases y
  · have HT2 := Hd ((uh HT) _ _ _ _ _ (by simp) (uh HL2))
    go_wp2_with fail
    refine (uh HT2).mono ?_
    intro r w3 h3
    cases hn : thing i with
    | error j =>
     rw [hn] at h3
     obtain ⟨rfl, ht⟩ := h3
     have HT3 := Hd ht
     obtain rfl : o = .error j := by rw [← uh HEQ]; simp only [Tp.list, Za8, uh HE1, uh HY, Zb, if_false, hn]
     clear ht
     go_wp2_with fail
     exact ⟨rfl, rfl, uh HT3⟩
    | ok p =>
     obtain ⟨x, j⟩ := p
     rw [hn] at h3
     obtain ⟨rfl, v3, E3, hL3⟩ := h3
     obtain ⟨om, hom⟩ : ∃ om, ZbC l thing (l.length + 1) j [x] = om := ⟨_, rfl⟩
     have hIT : Za8 l thing i = om := by unfold Za8; rw [uh HY, hn]; exact hom
     have HIT := Hd hIT
     have HM0 := Hd (show Tp.Mo l ta c bp e fb pb xa xv k ty wide cl R w thing om (l.length + 1) v3 ([] ++ [E3]) ([] ++ [x]) j w3 from ⟨hL3, hom, by omega, by simp; omega⟩)
     clear hL3 hom hIT hn HL2 HT2
     go_wp2_with fail
     go_loopg [] (l.length + 1) (fun f wr => ∃ v es acc i, Tp.Mo l ta c bp e fb pb xa xv k ty wide cl R w thing om f v es acc i wr)
     case atStart => exact ⟨_, _, _, _, uh HM0⟩
     case round =>
      clear HM0 HY
      obtain ⟨v, es, acc, i, hm⟩ := hrel
      have hf := hm.fuel
      have hle := hm.ls.at_.le
      obtain ⟨f, rfl⟩ : ∃ f, gk = f + 1 := ⟨gk - 1, by omega⟩
      have HM := Hd hm
      clear hm
      obtain ⟨y, hy⟩ : ∃ y, Zal l i ⟨#[44]⟩ = y := ⟨_, rfl⟩
      have HY := Hd hy
      go_wp2_with fail
      refine (Zbi l ta c bp e ⟨#[44]⟩ (by decide) i 1 wr (uh HM).ls.at_ y hy).mono ?_
      rintro r w4 ⟨rfl, hj4, ht4⟩
      have HL4 := Hd ((uh HM).ls.step hj4 ht4)
      clear hj4 ht4 hy
      cases y
      · replace HL4 := Hd (show Tp.Ls l ta c bp e fb pb xa xv k ty wide cl R 1 w v es acc i w4 by simpa using uh HL4)
        obtain rfl : om = .ok (acc, i) := by rw [← (uh HM).is]; simp only [ZbC, uh HY, Zb, if_false]
        have hL := uh HL4
        have HC := Hd (ZcA l ta c bp e ⟨#[41]⟩ (by decide) i 0 (by omega) w4 hL.at_)
        clear hL
        go_wp2_with fail
        refine (uh HC).mono ?_
        intro r w9 h9
        cases hn : Zak l ⟨#[41]⟩ i with
        | error j =>
         rw [hn] at h9
         obtain ⟨rfl, ht⟩ := h9
         have HT := Hd ((uh HL4).tu.then ht (uh HL4).tu.size (fun _ _ h => Or.inl h))
         obtain rfl : o = .error j := by rw [← uh HEQ]; simp only [Tp.list, uh HE1, uh HIT, hn]
         clear ht
         go_wp2_with fail
         exact ⟨rfl, rfl, uh HT⟩
        | ok j =>
         rw [hn] at h9
         obtain ⟨rfl, hj, ht⟩ := h9
         obtain rfl : o = .ok (acc, j) := by rw [← uh HEQ]; simp only [Tp.list, uh HE1, uh HIT, hn]
         have HL9 := Hd ((uh HL4).step hj ht)
         clear hj ht
         go_wp2_with fail
         go_end0
         exact ⟨rfl, _, _, uh HL9⟩
      replace HL4 := Hd (show Tp.Ls l ta c bp e fb pb xa xv k ty wide cl R 1 w v es acc (i + 1) w4 by simpa using uh HL4)
      have hmany := (uh HM).many
      have HT4 := Hd ((uh HT) _ _ _ _ _ (by omega) (uh HL4))
      go_wp2_with fail
      refine (uh HT4).mono ?_
      intro r w5 h5
      cases hn : thing (i + 1) with
      | error j =>
       rw [hn] at h5
       obtain ⟨rfl, ht⟩ := h5
       have HT5 := Hd ht
       obtain rfl : om = .error j := by rw [← (uh HM).is]; simp only [ZbC, uh HY, if_true, hn]
       obtain rfl : o = .error j := by rw [← uh HEQ]; simp only [Tp.list, uh HE1, uh HIT]
       clear ht
       go_wp2_with fail
       exact ⟨rfl, rfl, uh HT5⟩
      | ok p =>
       obtain ⟨x, j⟩ := p
       rw [hn] at h5
       obtain ⟨rfl, v5, E5, hL5⟩ := h5
       have hgo := (uh HG) _ _ _ hn
       have HM5 := Hd (show Tp.Mo l ta c bp e fb pb xa xv k ty wide cl R w thing om f v5 (es ++ [E5]) (acc ++ [x]) j w5 from ⟨hL5, by rw [← (uh HM).is]; simp only [ZbC, uh HY, if_true, hn], by omega, by rw [Za]; simp; omega⟩)
       clear hL5 hn HT4 HL4
       go_wp2_with fail
       go_roundg f
       case measure => omega
       case rel => exact ⟨_, _, _, _, uh HM5⟩
  obtain ⟨acc, hacc⟩ : ∃ acc : List β, acc = [] := ⟨_, rfl⟩
  have HIT := Hd (show Za8 l thing i = .ok (acc, i) by unfold Za8; rw [uh HY, hacc]; rfl)
  rw [← hacc] at HL2
  clear hacc
  have hL := uh HL2
  have HC := Hd (ZcA l ta c bp e ⟨#[41]⟩ (by decide) i 0 (by omega) w2 hL.at_)
  clear hL
  go_wp2_with fail
  refine (uh HC).mono ?_
  intro r w9 h9
  cases hn : Zak l ⟨#[41]⟩ i with
  | error j =>
   rw [hn] at h9
   obtain ⟨rfl, ht⟩ := h9
   have HT := Hd ((uh HL2).tu.then ht (uh HL2).tu.size (fun _ _ h => Or.inl h))
   obtain rfl : o = .error j := by rw [← uh HEQ]; simp only [Tp.list, uh HE1, uh HIT, hn]
   clear ht
   go_wp2_with fail
   exact ⟨rfl, rfl, uh HT⟩
  | ok j =>
   rw [hn] at h9
   obtain ⟨rfl, hj, ht⟩ := h9
   obtain rfl : o = .ok (acc, j) := by rw [← uh HEQ]; simp only [Tp.list, uh HE1, uh HIT, hn]
   have HL9 := Hd ((uh HL2).step hj ht)
   clear hj ht
   go_wp2_with fail
   go_end0
   exact ⟨rfl, _, _, uh HL9⟩
section
variable (l : List Tp.T) (ta : Option Addr) (c bp : Nat) (e : Int)
theorem Zjx {n : Nat} (cb i : Nat) (w : World) (h : Tp.J l ta c bp e w i 0) (hcb : bp < cb) (hX : ∀ j v, (Tk.C.new (Zaz l e i)).cells[j]? = some v → w.cell? ⟨cb, j, none⟩ = some v) (hfz : ∀ j, w.frozen? ⟨cb, j, none⟩ = false) :
  Calls Tryz.prog 205 #[.pointer (some ⟨bp, 0, none⟩), .pointer (some ⟨cb, 0, none⟩)] w (Tp.Out l ta c bp e (fun q => q = bp ∨ q = cb) w 0 (Zl4 w.heap.size bp cb (n + 1)) (Zax l e (n := n) i)) := by
 obtain ⟨o, ho⟩ : ∃ o, Zax l e (n := n) i = o := ⟨_, rfl⟩
 rw [ho]
 have hlt := h.lt
 have hcl : cb < w.heap.size := World.block_lt_of_cell? w _ (hX 0 _ rfl)
 obtain ⟨a, ha⟩ : ∃ a, Zaz l e i = a := ⟨_, rfl⟩
 rw [ha] at hX
 have HPL := Hd ha
 have HEQ := Hd ho
 have hbA : Below w.heap.size w ((w.alloc (Obj.cells #[.pointer (some ⟨bp, 0, none⟩)] 159)).alloc (Obj.cells #[.pointer (some ⟨cb, 0, none⟩)] 219)) := (Zr.alloc Zl _).alloc (by simp) _
 have HC := Hd (show Tp.Cb l ta c bp e w cb (Zd8 w.heap.size bp cb) (Tk.C.new a).cells i 0 ((w.alloc (Obj.cells #[.pointer (some ⟨bp, 0, none⟩)] 159)).alloc (Obj.cells #[.pointer (some ⟨cb, 0, none⟩)] 219)) from
  ⟨h.below hbA, Tp.Tu.of_below hbA, fun k v hk => (hbA.cell (p := ⟨cb, k, none⟩) hcl).trans (hX k v hk), fun k => (Zf (a := ⟨cb, k, none⟩) (hbA.block cb hcl)).trans (hfz k),
   fun W' h1 h2 => ⟨(Zc (a := ⟨w.heap.size + 1, 0, none⟩) (h2 (w.heap.size + 1) (by omega) (by omega) (by simp))).trans (by simp), (Zc (a := ⟨w.heap.size, 0, none⟩) (h2 w.heap.size (by omega) (by omega) (by simp; omega))).trans (by simp)⟩, hcb, hcl⟩)
 clear h ho ha hX hfz hbA
 go_enter Tryz.func205, Tryz.ntmps205
 go_wp2_with fail
 generalize ((w.alloc (Obj.cells #[.pointer (some ⟨bp, 0, none⟩)] 159)).alloc (Obj.cells #[.pointer (some ⟨cb, 0, none⟩)] 219)) = w1 at *
 have hHeld : (fun V => Zd8 w.heap.size bp cb V) (w1).drew := (uh HC).below Zr.drew |>.own.now
 have HCd := Hd ((uh HC).below Zr.drew)
 have HQ := Hd (ZcJ l ta c bp e i 0 w1.drew ((uh HC).below Zr.drew).at_)
 refine ZbA (fun j => Nat.beq j 5) (fun V => Zd8 w.heap.size bp cb V) (by kernel_rfl) hHeld (fun hHeld hcl => ?_)
 generalize (w1).drew = w1d at *
 refine Rq.tk 0 (.pointer (some ⟨cb, 0, none⟩)) Rq.z (by kernel_rfl) (by kernel_rfl) (by kernel_rfl) (by kernel_rfl) (fun _ _ _ h => h) (by assumption) (by assumption) (by rfl) (fun w hSw => by (try dsimp only at hSw); obtain ⟨hA, hB⟩ := hSw; go_simp) (fun hcl => ?_)
 (try simp only [Act.put, Zt, Zz, Zs])
 refine Rq.tk 1 (.pointer (some ⟨bp, 0, none⟩)) (Rq.s Rq.z) (by kernel_rfl) (by kernel_rfl) (by kernel_rfl) (by kernel_rfl) (fun _ _ _ h => h) (by assumption) (by assumption) (by rfl) (fun w hSw => by (try dsimp only at hSw); obtain ⟨hA, hB⟩ := hSw; go_simp) (fun hcl => ?_)
 (try simp only [Act.put, Zt, Zz, Zs])
 refine Rq.on 2 (Rq.s (Rq.s Rq.z)) (by kernel_rfl) (by assumption) (fun K hK => ?_)
 go_simp
 go_at_call 151
 refine (uh HQ).mono ?_
 intro r w2 h1
 cases hn : Tp.name l i with
 | error j =>
  rw [hn] at h1
  obtain ⟨rfl, ht⟩ := h1
  obtain rfl : o = .error j := by rw [← uh HEQ]; simp only [Zax, hn]
  have HT := Hd ((uh HCd).tu.then ht (uh HCd).lt.2.2 (fun _ _ h => Or.inl h))
  clear ht hK
  go_simp
  exact ⟨rfl, rfl, uh HT⟩
 | ok p =>
  obtain ⟨x, j⟩ := p
  rw [hn] at h1
  obtain ⟨⟨rfl, hnm⟩, hj, ht⟩ := h1
  have HN1 := Hd hn
  have HNM := Hd hnm
  have HCx := Hd ((uh HCd).step hj ht)
  clear hn hnm
  have hp1 := (uh HCx).own.now
  clear hj ht hHeld hcl HCd HC HQ
  go_simp
  refine hK _ _ (fun _ => hp1) (fun hcl => ?_)
  (try simp only [Act.put, Zt, Zz, Zs])
  clear hK K
  refine Rq.on 3 (Rq.s (Rq.s (Rq.s Rq.z))) (by kernel_rfl) (by assumption) (fun K hK => ?_)
  go_simp
  refine hK _ _ (fun _ => hp1) (fun hcl => ?_)
  (try simp only [Act.put, Zt, Zz, Zs])
  clear hK K
  refine Rq.on 4 (Rq.s (Rq.s (Rq.s (Rq.s Rq.z)))) (by kernel_rfl) (by assumption) (fun K hK => ?_)
  go_simp
  refine hK _ _ (fun _ => hp1) (fun hcl => ?_)
  (try simp only [Act.put, Zt, Zz, Zs])
  clear hK K
  refine Rq.on 5 (Rq.s (Rq.s (Rq.s (Rq.s (Rq.s Rq.z))))) (by kernel_rfl) (by assumption) (fun K hK => ?_)
  have hc0 := (uh HCx).box 2 _ rfl
  have hz0 := (uh HCx).fz
  go_simp
  have HC2 := Hd ((uh HCx).set 2 (.string x) ⟨_, rfl⟩ (cs' := ((Tk.C.mk 0 a x ⟨#[]⟩ Tk.E.zero Tk.E.zero ⟨none, 0, 0⟩ ⟨none, 0, 0⟩ ⟨none, 0, 0⟩)).cells) rfl)
  clear hc0 hz0 HCx
  refine hK _ _ (fun e => absurd e (by decide)) (fun hcl => ?_)
  (try simp only [Act.put, Zt, Zz, Zs])
  refine Rq.done (by kernel_rfl) ?_ _
  clear hK K hp1 hcl
  generalize (w2.setCell ⟨cb, 2, none⟩ (.string x)) = w3 at *
  have HC := HC2
  clear HC2
  obtain ⟨hb0, hb1⟩ := (uh HC).own.now
  obtain ⟨nm, rfl⟩ : ∃ nm, nm = x := ⟨x, rfl⟩
  obtain ⟨i1, rfl⟩ : ∃ i1, i1 = j := ⟨j, rfl⟩
  obtain ⟨y1, hy1⟩ : ∃ y, Zal l i1 ⟨#[91]⟩ = y := ⟨_, rfl⟩
  have HY1 := Hd hy1
  go_wp2_with fail
  refine (ZbJ l ta c bp e ⟨#[91]⟩ i1 0 w3 (uh HC).at_ y1 hy1).mono ?_
  rintro r w4 ⟨rfl, hb4⟩
  replace HC := Hd ((uh HC).below hb4)
  clear hb4 hy1 hb0 hb1
  obtain ⟨hb0, hb1⟩ := (uh HC).own.now
  cases y1
  · go_wp2_with fail
    refine (ZaX l ta c bp e ⟨#[61]⟩ (by decide) i1 0 w4 (uh HC).at_).mono ?_
    intro r w5 h1
    cases hn : Zak l ⟨#[61]⟩ i1 with
    | error j =>
     rw [hn] at h1
     obtain ⟨rfl, ht⟩ := h1
     obtain rfl : o = .error j := by rw [← uh HEQ]; simp only [Zax, uh HN1, uh HY1, Zb, if_false, hn]
     have HT := Hd ((uh HC).tu.then ht (uh HC).lt.2.2 (fun _ _ h => Or.inl h))
     clear ht
     go_wp2_with fail
     exact ⟨rfl, rfl, uh HT⟩
    | ok i2 =>
     rw [hn] at h1
     obtain ⟨rfl, hj, ht⟩ := h1
     have HNi2 := Hd hn
     replace HC := Hd ((uh HC).step hj ht)
     clear hj ht hn hb0 hb1
     obtain ⟨hb0, hb1⟩ := (uh HC).own.now
     obtain ⟨y2, hy2⟩ : ∃ y, Zal l i2 ⟨#[114, 101, 97, 100]⟩ = y := ⟨_, rfl⟩
     have HY2 := Hd hy2
     go_wp2_with fail
     refine (Zbi l ta c bp e ⟨#[114, 101, 97, 100]⟩ (by decide) i2 0 w5 (uh HC).at_ y2 hy2).mono ?_
     rintro r w6 ⟨rfl, hj, ht⟩
     replace HC := Hd ((uh HC).step hj ht)
     clear hj ht hy2 hb0 hb1
     obtain ⟨hb0, hb1⟩ := (uh HC).own.now
     cases y2
     · replace HC := Hd (show Tp.Cb l ta c bp e w cb (Zd8 w.heap.size bp cb) ((Tk.C.mk 0 a nm ⟨#[]⟩ Tk.E.zero Tk.E.zero ⟨none, 0, 0⟩ ⟨none, 0, 0⟩ ⟨none, 0, 0⟩)).cells i2 0 w6 by simpa using uh HC)
       obtain ⟨y3, hy3⟩ : ∃ y, ZbM l i2 = y := ⟨_, rfl⟩
       have HY3 := Hd hy3
       go_wp2_with fail
       refine (ZdB l ta c bp e i2 0 w6 (uh HC).at_ y3 hy3).mono ?_
       rintro r w7 ⟨rfl, hb7⟩
       replace HC := Hd ((uh HC).below hb7)
       clear hb7 hy3 hb0 hb1
       obtain ⟨hb0, hb1⟩ := (uh HC).own.now
       cases y3
       · have hc0 := (uh HC).box 0 _ rfl
         have hz0 := (uh HC).fz
         have HC2 := Hd ((uh HC).set 0 (.int .i64 1) ⟨_, rfl⟩ (cs' := ((Tk.C.mk 1 a nm ⟨#[]⟩ Tk.E.zero Tk.E.zero ⟨none, 0, 0⟩ ⟨none, 0, 0⟩ ⟨none, 0, 0⟩)).cells) rfl)
         go_wp2_with fail
         clear hc0 hz0 HC hb0 hb1
         generalize (w7.setCell ⟨cb, 0, none⟩ (.int .i64 1)) = wa at *
         have HC := HC2
         clear HC2
         obtain ⟨hb0, hb1⟩ := (uh HC).own.now
         have hHeld : (fun V => Zd8 w.heap.size bp cb V) (wa).drew := (uh HC).below Zr.drew |>.own.now
         have HCd := Hd ((uh HC).below Zr.drew)
         have HQ := Hd (ZbN l ta c bp e 61 0 (by omega) (by omega) i2 wa.drew ((uh HC).below Zr.drew).at_)
         refine ZbA (fun j => Nat.beq j 5) (fun V => Zd8 w.heap.size bp cb V) (by kernel_rfl) hHeld (fun hHeld hcl => ?_)
         generalize (wa).drew = wad at *
         refine Rq.tk 0 (.pointer (some ⟨cb, 0, none⟩)) Rq.z (by kernel_rfl) (by kernel_rfl) (by kernel_rfl) (by kernel_rfl) (fun _ _ _ h => h) (by assumption) (by assumption) (by rfl) (fun w hSw => by (try dsimp only at hSw); obtain ⟨hA, hB⟩ := hSw; go_simp) (fun hcl => ?_)
         (try simp only [Act.put, Zt, Zz, Zs])
         refine Rq.tk 1 (.pointer (some ⟨bp, 0, none⟩)) (Rq.s Rq.z) (by kernel_rfl) (by kernel_rfl) (by kernel_rfl) (by kernel_rfl) (fun _ _ _ h => h) (by assumption) (by assumption) (by rfl) (fun w hSw => by (try dsimp only at hSw); obtain ⟨hA, hB⟩ := hSw; go_simp) (fun hcl => ?_)
         (try simp only [Act.put, Zt, Zz, Zs])
         refine Rq.on 2 (Rq.s (Rq.s Rq.z)) (by kernel_rfl) (by assumption) (fun K hK => ?_)
         go_simp
         go_at_call 156
         refine (uh HQ).mono ?_
         intro r wb h1
         cases hn : Tp.expr l e 61 0 i2 with
         | error j =>
          rw [hn] at h1
          obtain ⟨rfl, ht⟩ := h1
          obtain rfl : o = .error j := by rw [← uh HEQ]; simp only [Zax, uh HN1, uh HY1, Zb, if_false, uh HNi2, uh HY2, uh HY3, Bool.false_and, hn]
          have HT := Hd ((uh HCd).tu.then ht (uh HCd).lt.2.2 (fun _ _ h => Or.inl h))
          clear ht hK
          go_simp
          exact ⟨rfl, rfl, uh HT⟩
         | ok p =>
          obtain ⟨x, j⟩ := p
          rw [hn] at h1
          obtain ⟨⟨F, rfl, hro⟩, hj, ht⟩ := h1
          have HNX := Hd hn
          have HCx := Hd (((uh HCd).step hj ht).and hro (uh HCd).lt.2.2)
          clear hn hro
          have hp1 := (uh HCx).own.now.1
          clear hj ht hHeld hcl HCd HC HQ
          go_simp
          refine hK _ _ (fun _ => hp1) (fun hcl => ?_)
          (try simp only [Act.put, Zt, Zz, Zs])
          clear hK K
          refine Rq.on 3 (Rq.s (Rq.s (Rq.s Rq.z))) (by kernel_rfl) (by assumption) (fun K hK => ?_)
          go_simp
          refine hK _ _ (fun _ => hp1) (fun hcl => ?_)
          (try simp only [Act.put, Zt, Zz, Zs])
          clear hK K
          refine Rq.on 4 (Rq.s (Rq.s (Rq.s (Rq.s Rq.z)))) (by kernel_rfl) (by assumption) (fun K hK => ?_)
          go_simp
          refine hK _ _ (fun _ => hp1) (fun hcl => ?_)
          (try simp only [Act.put, Zt, Zz, Zs])
          clear hK K
          refine Rq.on 5 (Rq.s (Rq.s (Rq.s (Rq.s (Rq.s Rq.z))))) (by kernel_rfl) (by assumption) (fun K hK => ?_)
          have hz0 := (uh HCx).fz
          have hc0 := (uh HCx).box 9 _ rfl
          have hc1 := (uh HCx).box 10 _ rfl
          have hc2 := (uh HCx).box 11 _ rfl
          have hc3 := (uh HCx).box 12 _ rfl
          have hc4 := (uh HCx).box 13 _ rfl
          go_simp
          have HC2 := Hd ((uh HCx).set5 9 F ⟨_, rfl⟩ ⟨_, rfl⟩ ⟨_, rfl⟩ ⟨_, rfl⟩ ⟨_, rfl⟩ (cs' := ((Tk.C.mk 1 a nm ⟨#[]⟩ Tk.E.zero F ⟨none, 0, 0⟩ ⟨none, 0, 0⟩ ⟨none, 0, 0⟩)).cells) rfl)
          clear hz0 hc0 hc1 hc2 hc3 hc4 HCx
          refine hK _ _ (fun e => absurd e (by decide)) (fun hcl => ?_)
          (try simp only [Act.put, Zt, Zz, Zs])
          refine Rq.done (by kernel_rfl) ?_ _
          clear hK K hp1 hcl
          generalize (((((wb.setCell ⟨cb, 9, none⟩ (.int .i64 F.k)).setCell ⟨cb, 10, none⟩ (.int .i64 F.a)).setCell ⟨cb, 11, none⟩ (.int .i64 F.n)).setCell ⟨cb, 12, none⟩ (.string F.nm)).setCell ⟨cb, 13, none⟩ (.slice F.args.ad F.args.len F.args.cap)) = wc at *
          have HC := HC2
          clear HC2
          obtain ⟨hb0, hb1⟩ := (uh HC).own.now.1
          obtain rfl : o = .ok (((1, a, nm, ⟨#[]⟩), (ZaO, x, []), ([], [])), j) := by rw [← uh HEQ]; simp only [Zax, uh HN1, uh HY1, Zb, if_false, uh HNi2, uh HY2, uh HY3, Bool.false_and, uh HNX, uh HPL]
          go_wp2_with fail
          go_end0
          exact ⟨⟨rfl, _, (uh HC).box, (uh HC).fz, fun W' h1 h2 => ⟨⟨⟨rfl, rfl, rfl, rfl⟩, uh HNM, (show (⟨#[]⟩ : ByteArray).size ≤ maxLen by decide)⟩, ⟨ZaK W', ((uh HC).own W' h1 h2).2, Zav _ _ _ _⟩, Zav _ _ _ _, Zav _ _ _ _⟩⟩, (uh HC).at_, (uh HC).tu⟩
       have HA := Hd (ZcC l ta c bp e 1 (by omega) i2 0 _ (uh HC).at_)
       obtain ⟨y4, hy4⟩ : ∃ y, Zal l (i2 + 1) ⟨#[40]⟩ = y := ⟨_, rfl⟩
       have HY4 := Hd hy4
       unfold Zal at hy4
       obtain ⟨t, htk⟩ : ∃ t, Tp.tk l (i2 + 1) = t := ⟨_, rfl⟩
       rw [htk] at HA hy4
       rw [show (⟨#[40]⟩ : ByteArray).toList = [40] from by rw [ByteArray.toList_mk]] at hy4
       have hfd : ∀ W : World, (Instr.field 63 (.agg #[.int .i64 t.k, .int .i64 t.a, .string t.t]) 2).run Tryz.prog W = .ok (.string t.t) W := fun _ => by kernel_rfl
       go_wp2_with fail
       refine (uh HA).mono ?_
       rintro r w8 ⟨rfl, hb8⟩
       replace HC := Hd ((uh HC).below hb8)
       clear hb8 HA hb0 hb1 htk
       obtain ⟨hb0, hb1⟩ := (uh HC).own.now
       cases y4
       · have hc0 := (uh HC).box 0 _ rfl
         have hz0 := (uh HC).fz
         have HC2 := Hd ((uh HC).set 0 (.int .i64 1) ⟨_, rfl⟩ (cs' := ((Tk.C.mk 1 a nm ⟨#[]⟩ Tk.E.zero Tk.E.zero ⟨none, 0, 0⟩ ⟨none, 0, 0⟩ ⟨none, 0, 0⟩)).cells) rfl)
         go_wp2_with fail
         clear hc0 hz0 HC hb0 hb1
         generalize (w8.setCell ⟨cb, 0, none⟩ (.int .i64 1)) = wa at *
         have HC := HC2
         clear HC2
         obtain ⟨hb0, hb1⟩ := (uh HC).own.now
         have hHeld : (fun V => Zd8 w.heap.size bp cb V) (wa).drew := (uh HC).below Zr.drew |>.own.now
         have HCd := Hd ((uh HC).below Zr.drew)
         have HQ := Hd (ZbN l ta c bp e 61 0 (by omega) (by omega) i2 wa.drew ((uh HC).below Zr.drew).at_)
         refine ZbA (fun j => Nat.beq j 5) (fun V => Zd8 w.heap.size bp cb V) (by kernel_rfl) hHeld (fun hHeld hcl => ?_)
         generalize (wa).drew = wad at *
         refine Rq.tk 0 (.pointer (some ⟨cb, 0, none⟩)) Rq.z (by kernel_rfl) (by kernel_rfl) (by kernel_rfl) (by kernel_rfl) (fun _ _ _ h => h) (by assumption) (by assumption) (by rfl) (fun w hSw => by (try dsimp only at hSw); obtain ⟨hA, hB⟩ := hSw; go_simp) (fun hcl => ?_)
         (try simp only [Act.put, Zt, Zz, Zs])
         refine Rq.tk 1 (.pointer (some ⟨bp, 0, none⟩)) (Rq.s Rq.z) (by kernel_rfl) (by kernel_rfl) (by kernel_rfl) (by kernel_rfl) (fun _ _ _ h => h) (by assumption) (by assumption) (by rfl) (fun w hSw => by (try dsimp only at hSw); obtain ⟨hA, hB⟩ := hSw; go_simp) (fun hcl => ?_)
         (try simp only [Act.put, Zt, Zz, Zs])
         refine Rq.on 2 (Rq.s (Rq.s Rq.z)) (by kernel_rfl) (by assumption) (fun K hK => ?_)
         go_simp
         go_at_call 156
         refine (uh HQ).mono ?_
         intro r wb h1
         cases hn : Tp.expr l e 61 0 i2 with
         | error j =>
          rw [hn] at h1
          obtain ⟨rfl, ht⟩ := h1
          obtain rfl : o = .error j := by rw [← uh HEQ]; simp only [Zax, uh HN1, uh HY1, Zb, if_false, uh HNi2, uh HY2, uh HY3, uh HY4, Bool.true_and, hn]
          have HT := Hd ((uh HCd).tu.then ht (uh HCd).lt.2.2 (fun _ _ h => Or.inl h))
          clear ht hK
          go_simp
          exact ⟨rfl, rfl, uh HT⟩
         | ok p =>
          obtain ⟨x, j⟩ := p
          rw [hn] at h1
          obtain ⟨⟨F, rfl, hro⟩, hj, ht⟩ := h1
          have HNX := Hd hn
          have HCx := Hd (((uh HCd).step hj ht).and hro (uh HCd).lt.2.2)
          clear hn hro
          have hp1 := (uh HCx).own.now.1
          clear hj ht hHeld hcl HCd HC HQ
          go_simp
          refine hK _ _ (fun _ => hp1) (fun hcl => ?_)
          (try simp only [Act.put, Zt, Zz, Zs])
          clear hK K
          refine Rq.on 3 (Rq.s (Rq.s (Rq.s Rq.z))) (by kernel_rfl) (by assumption) (fun K hK => ?_)
          go_simp
          refine hK _ _ (fun _ => hp1) (fun hcl => ?_)
          (try simp only [Act.put, Zt, Zz, Zs])
          clear hK K
          refine Rq.on 4 (Rq.s (Rq.s (Rq.s (Rq.s Rq.z)))) (by kernel_rfl) (by assumption) (fun K hK => ?_)
          go_simp
          refine hK _ _ (fun _ => hp1) (fun hcl => ?_)
          (try simp only [Act.put, Zt, Zz, Zs])
          clear hK K
          refine Rq.on 5 (Rq.s (Rq.s (Rq.s (Rq.s (Rq.s Rq.z))))) (by kernel_rfl) (by assumption) (fun K hK => ?_)
          have hz0 := (uh HCx).fz
          have hc0 := (uh HCx).box 9 _ rfl
          have hc1 := (uh HCx).box 10 _ rfl
          have hc2 := (uh HCx).box 11 _ rfl
          have hc3 := (uh HCx).box 12 _ rfl
          have hc4 := (uh HCx).box 13 _ rfl
          go_simp
          have HC2 := Hd ((uh HCx).set5 9 F ⟨_, rfl⟩ ⟨_, rfl⟩ ⟨_, rfl⟩ ⟨_, rfl⟩ ⟨_, rfl⟩ (cs' := ((Tk.C.mk 1 a nm ⟨#[]⟩ Tk.E.zero F ⟨none, 0, 0⟩ ⟨none, 0, 0⟩ ⟨none, 0, 0⟩)).cells) rfl)
          clear hz0 hc0 hc1 hc2 hc3 hc4 HCx
          refine hK _ _ (fun e => absurd e (by decide)) (fun hcl => ?_)
          (try simp only [Act.put, Zt, Zz, Zs])
          refine Rq.done (by kernel_rfl) ?_ _
          clear hK K hp1 hcl
          generalize (((((wb.setCell ⟨cb, 9, none⟩ (.int .i64 F.k)).setCell ⟨cb, 10, none⟩ (.int .i64 F.a)).setCell ⟨cb, 11, none⟩ (.int .i64 F.n)).setCell ⟨cb, 12, none⟩ (.string F.nm)).setCell ⟨cb, 13, none⟩ (.slice F.args.ad F.args.len F.args.cap)) = wc at *
          have HC := HC2
          clear HC2
          obtain ⟨hb0, hb1⟩ := (uh HC).own.now.1
          obtain rfl : o = .ok (((1, a, nm, ⟨#[]⟩), (ZaO, x, []), ([], [])), j) := by rw [← uh HEQ]; simp only [Zax, uh HN1, uh HY1, Zb, if_false, uh HNi2, uh HY2, uh HY3, uh HY4, Bool.true_and, uh HNX, uh HPL]
          go_wp2_with fail
          go_end0
          exact ⟨⟨rfl, _, (uh HC).box, (uh HC).fz, fun W' h1 h2 => ⟨⟨⟨rfl, rfl, rfl, rfl⟩, uh HNM, (show (⟨#[]⟩ : ByteArray).size ≤ maxLen by decide)⟩, ⟨ZaK W', ((uh HC).own W' h1 h2).2, Zav _ _ _ _⟩, Zav _ _ _ _, Zav _ _ _ _⟩⟩, (uh HC).at_, (uh HC).tu⟩
       have hc0 := (uh HC).box 0 _ rfl
       have hz0 := (uh HC).fz
       have HC2 := Hd ((uh HC).set 0 (.int .i64 3) ⟨_, rfl⟩ (cs' := ((Tk.C.mk 3 a nm ⟨#[]⟩ Tk.E.zero Tk.E.zero ⟨none, 0, 0⟩ ⟨none, 0, 0⟩ ⟨none, 0, 0⟩)).cells) rfl)
       go_wp2_with fail
       clear hc0 hz0 HC hb0 hb1
       generalize (w8.setCell ⟨cb, 0, none⟩ (.int .i64 3)) = wa at *
       have HC := HC2
       clear HC2
       obtain ⟨hb0, hb1⟩ := (uh HC).own.now
       have hHeld : (fun V => Zd8 w.heap.size bp cb V) (wa).drew := (uh HC).below Zr.drew |>.own.now
       have HCd := Hd ((uh HC).below Zr.drew)
       have HQ := Hd (ZcJ l ta c bp e i2 0 wa.drew ((uh HC).below Zr.drew).at_)
       refine ZbA (fun j => Nat.beq j 5) (fun V => Zd8 w.heap.size bp cb V) (by kernel_rfl) hHeld (fun hHeld hcl => ?_)
       generalize (wa).drew = wad at *
       refine Rq.tk 0 (.pointer (some ⟨cb, 0, none⟩)) Rq.z (by kernel_rfl) (by kernel_rfl) (by kernel_rfl) (by kernel_rfl) (fun _ _ _ h => h) (by assumption) (by assumption) (by rfl) (fun w hSw => by (try dsimp only at hSw); obtain ⟨hA, hB⟩ := hSw; go_simp) (fun hcl => ?_)
       (try simp only [Act.put, Zt, Zz, Zs])
       refine Rq.tk 1 (.pointer (some ⟨bp, 0, none⟩)) (Rq.s Rq.z) (by kernel_rfl) (by kernel_rfl) (by kernel_rfl) (by kernel_rfl) (fun _ _ _ h => h) (by assumption) (by assumption) (by rfl) (fun w hSw => by (try dsimp only at hSw); obtain ⟨hA, hB⟩ := hSw; go_simp) (fun hcl => ?_)
       (try simp only [Act.put, Zt, Zz, Zs])
       refine Rq.on 2 (Rq.s (Rq.s Rq.z)) (by kernel_rfl) (by assumption) (fun K hK => ?_)
       go_simp
       go_at_call 151
       refine (uh HQ).mono ?_
       intro r wb h1
       cases hn : Tp.name l i2 with
       | error j =>
        rw [hn] at h1
        obtain ⟨rfl, ht⟩ := h1
        obtain rfl : o = .error j := by unfold Tp.name at hn; rw [uh HY3] at hn; cases hn
        have HT := Hd ((uh HCd).tu.then ht (uh HCd).lt.2.2 (fun _ _ h => Or.inl h))
        clear ht hK
        go_simp
        exact ⟨rfl, rfl, uh HT⟩
       | ok p =>
        obtain ⟨x, j⟩ := p
        rw [hn] at h1
        obtain ⟨⟨rfl, hot⟩, hj, ht⟩ := h1
        have HN2 := Hd hn
        have HOT := Hd hot
        have HCx := Hd ((uh HCd).step hj ht)
        clear hn hot
        have hp1 := (uh HCx).own.now
        clear hj ht hHeld hcl HCd HC HQ
        go_simp
        refine hK _ _ (fun _ => hp1) (fun hcl => ?_)
        (try simp only [Act.put, Zt, Zz, Zs])
        clear hK K
        refine Rq.on 3 (Rq.s (Rq.s (Rq.s Rq.z))) (by kernel_rfl) (by assumption) (fun K hK => ?_)
        go_simp
        refine hK _ _ (fun _ => hp1) (fun hcl => ?_)
        (try simp only [Act.put, Zt, Zz, Zs])
        clear hK K
        refine Rq.on 4 (Rq.s (Rq.s (Rq.s (Rq.s Rq.z)))) (by kernel_rfl) (by assumption) (fun K hK => ?_)
        go_simp
        refine hK _ _ (fun _ => hp1) (fun hcl => ?_)
        (try simp only [Act.put, Zt, Zz, Zs])
        clear hK K
        refine Rq.on 5 (Rq.s (Rq.s (Rq.s (Rq.s (Rq.s Rq.z))))) (by kernel_rfl) (by assumption) (fun K hK => ?_)
        have hc0 := (uh HCx).box 3 _ rfl
        have hz0 := (uh HCx).fz
        go_simp
        have HC2 := Hd ((uh HCx).set 3 (.string x) ⟨_, rfl⟩ (cs' := ((Tk.C.mk 3 a nm x Tk.E.zero Tk.E.zero ⟨none, 0, 0⟩ ⟨none, 0, 0⟩ ⟨none, 0, 0⟩)).cells) rfl)
        clear hc0 hz0 HCx
        refine hK _ _ (fun e => absurd e (by decide)) (fun hcl => ?_)
        (try simp only [Act.put, Zt, Zz, Zs])
        refine Rq.done (by kernel_rfl) ?_ _
        clear hK K hp1 hcl
        generalize (wb.setCell ⟨cb, 3, none⟩ (.string x)) = wc at *
        have HC := HC2
        clear HC2
        obtain ⟨hb0, hb1⟩ := (uh HC).own.now
        obtain ⟨hx, hj1⟩ : x = (Tp.tk l i2).t ∧ j = i2 + 1 := by
         have h := uh HN2
         unfold Tp.name at h
         rw [uh HY3] at h
         cases h
         exact ⟨rfl, rfl⟩
        subst hj1
        have HX := Hd hx
        clear hx
        have hlt2 := (uh HC).lt
        have hbc := (uh HC).box 14 _ rfl
        have HL := Hd (Zj3 l ta c bp e cb w.heap.size (w.heap.size + 1) (.pointer (some ⟨cb, 0, none⟩)) 14 52 5 Tk.E.cl (fun W => Tk.RE W 61) (Tp.expr l e 61 1) (w.heap.size + 1) (i2 + 1) wc
         (fun i x j h => Zbg 61 h) (fun v es acc i W hl h => Zlt l ta c bp e cb w.heap.size (w.heap.size + 1) wc v es acc i W hl h)
         ⟨(uh HC).at_, Tp.Tu.refl _ _ _, hbc, fun _ _ => rfl, (uh HC).fz, hb1, hb0, Tp.Rw.nil _ _ _ _ _ _ _, ⟨hlt2.1, by omega, by omega, by have := World.block_lt_of_cell? wc _ hb1; exact this, by omega⟩, ⟨by omega, by have := World.block_lt_of_cell? wc _ hb0; exact this, by omega⟩⟩)
        clear hbc
        go_wp2_with fail
        refine (uh HL).mono ?_
        intro r wd h1
        cases hn : Tp.list l (Tp.expr l e 61 1) (i2 + 1) with
        | error j =>
         rw [hn] at h1
         obtain ⟨rfl, ht⟩ := h1
         obtain rfl : o = .error j := by rw [← uh HEQ]; simp only [Zax, uh HN1, uh HY1, Zb, if_false, uh HNi2, uh HY2, uh HY3, uh HY4, Bool.and_self, if_true, hn]
         have HT := Hd ((uh HC).tu.trans (ht.mono (uh HC).lt.2.2 (fun _ _ h => h)))
         clear ht
         go_wp2_with fail
         exact ⟨rfl, rfl, uh HT⟩
        | ok p =>
         obtain ⟨xs, j⟩ := p
         rw [hn] at h1
         obtain ⟨rfl, v, es, hls⟩ := h1
         obtain rfl : o = .ok (((3, a, nm, x), (ZaO, ZaO, xs), ([], [])), j) := by rw [← uh HEQ]; simp only [Zax, uh HN1, uh HY1, Zb, if_false, uh HNi2, uh HY2, uh HY3, uh HY4, Bool.and_self, if_true, hn, uh HPL, uh HX]
         have hfl := hls.row.row.1
         obtain ⟨s, hC⟩ := (uh HC).list hls (fun _ => rfl) Tk.E.lies_cl (by
          have h2 := Zf2 l _ hn
          have h3 := (uh HC).at_.fine.few
          omega)
         replace HC := Hd hC
         clear hls hC hb0 hb1 HL hfl
         go_wp2_with fail
         go_end0
         exact ⟨⟨rfl, (Tk.C.mk 3 a nm x Tk.E.zero Tk.E.zero s ⟨none, 0, 0⟩ ⟨none, 0, 0⟩), (uh HC).box, (uh HC).fz, fun W' h1 h2 => ⟨⟨⟨rfl, rfl, rfl, rfl⟩, uh HNM, uh HOT⟩, ⟨ZaK W', ZaK W', ((uh HC).own W' h1 h2).2⟩, Zav _ _ _ _, Zav _ _ _ _⟩⟩, (uh HC).at_, (uh HC).tu⟩
     obtain rfl : o = .ok (((4, a, nm, ⟨#[]⟩), (ZaO, ZaO, []), ([], [])), i2 + 1) := by rw [← uh HEQ]; simp only [Zax, uh HN1, uh HY1, Zb, if_false, uh HNi2, uh HY2, if_true, uh HPL]
     have hc0 := (uh HC).box 0 _ rfl
     have hz0 := (uh HC).fz
     have HC2 := Hd ((uh HC).set 0 (.int .i64 4) ⟨_, rfl⟩ (cs' := ((Tk.C.mk 4 a nm ⟨#[]⟩ Tk.E.zero Tk.E.zero ⟨none, 0, 0⟩ ⟨none, 0, 0⟩ ⟨none, 0, 0⟩)).cells) rfl)
     go_wp2_with fail
     clear hc0 hz0 HC hb0 hb1
     have HC := HC2
     clear HC2
     go_end0
     exact ⟨⟨rfl, _, (uh HC).box, (uh HC).fz, fun W' h1 h2 => ⟨⟨⟨rfl, rfl, rfl, rfl⟩, uh HNM, (show (⟨#[]⟩ : ByteArray).size ≤ maxLen by decide)⟩, ⟨ZaK W', ZaK W', Zav _ _ _ _⟩, Zav _ _ _ _, Zav _ _ _ _⟩⟩, (uh HC).at_, (uh HC).tu⟩
  have hc0 := (uh HC).box 0 _ rfl
  have hz0 := (uh HC).fz
  have HC2 := Hd ((uh HC).set 0 (.int .i64 2) ⟨_, rfl⟩ (cs' := ((Tk.C.mk 2 a nm ⟨#[]⟩ Tk.E.zero Tk.E.zero ⟨none, 0, 0⟩ ⟨none, 0, 0⟩ ⟨none, 0, 0⟩)).cells) rfl)
  go_wp2_with fail
  clear hc0 hz0 HC hb0 hb1
  generalize (w4.setCell ⟨cb, 0, none⟩ (.int .i64 2)) = wa at *
  have HC := HC2
  clear HC2
  obtain ⟨hb0, hb1⟩ := (uh HC).own.now
  have hHeld : (fun V => Zd8 w.heap.size bp cb V) (wa).drew := (uh HC).below Zr.drew |>.own.now
  have HCd := Hd ((uh HC).below Zr.drew)
  have HQ := Hd (Zgf l ta c bp e (Tp.expr l e 61) 0 (by omega) (fun i W hb hJ => ZbN l ta c bp e 61 (0 + 1) (by omega) hb i W hJ) i1 wa.drew ((uh HC).below Zr.drew).at_)
  refine ZbA (fun j => Nat.beq j 5) (fun V => Zd8 w.heap.size bp cb V) (by kernel_rfl) hHeld (fun hHeld hcl => ?_)
  generalize (wa).drew = wad at *
  refine Rq.tk 0 (.pointer (some ⟨cb, 0, none⟩)) Rq.z (by kernel_rfl) (by kernel_rfl) (by kernel_rfl) (by kernel_rfl) (fun _ _ _ h => h) (by assumption) (by assumption) (by rfl) (fun w hSw => by (try dsimp only at hSw); obtain ⟨hA, hB⟩ := hSw; go_simp) (fun hcl => ?_)
  (try simp only [Act.put, Zt, Zz, Zs])
  refine Rq.tk 1 (.pointer (some ⟨bp, 0, none⟩)) (Rq.s Rq.z) (by kernel_rfl) (by kernel_rfl) (by kernel_rfl) (by kernel_rfl) (fun _ _ _ h => h) (by assumption) (by assumption) (by rfl) (fun w hSw => by (try dsimp only at hSw); obtain ⟨hA, hB⟩ := hSw; go_simp) (fun hcl => ?_)
  (try simp only [Act.put, Zt, Zz, Zs])
  refine Rq.on 2 (Rq.s (Rq.s Rq.z)) (by kernel_rfl) (by assumption) (fun K hK => ?_)
  go_simp
  go_at_call 190
  refine (uh HQ).mono ?_
  intro r wb h1
  cases hn : Tp.index l (Tp.expr l e 61) 0 i1 with
  | error j =>
   rw [hn] at h1
   obtain ⟨rfl, ht⟩ := h1
   obtain rfl : o = .error j := by rw [← uh HEQ]; simp only [Zax, uh HN1, uh HY1, if_true, hn]
   have HT := Hd ((uh HCd).tu.then ht (uh HCd).lt.2.2 (fun _ _ h => Or.inl h))
   clear ht hK
   go_simp
   exact ⟨rfl, rfl, uh HT⟩
  | ok p =>
   obtain ⟨x, j⟩ := p
   rw [hn] at h1
   obtain ⟨⟨I, rfl, hro⟩, hj, ht⟩ := h1
   have HNI := Hd hn
   have HCx := Hd (((uh HCd).step hj ht).and hro (uh HCd).lt.2.2)
   clear hn hro
   have hp1 := (uh HCx).own.now.1
   clear hj ht hHeld hcl HCd HC HQ
   go_simp
   refine hK _ _ (fun _ => hp1) (fun hcl => ?_)
   (try simp only [Act.put, Zt, Zz, Zs])
   clear hK K
   refine Rq.on 3 (Rq.s (Rq.s (Rq.s Rq.z))) (by kernel_rfl) (by assumption) (fun K hK => ?_)
   go_simp
   refine hK _ _ (fun _ => hp1) (fun hcl => ?_)
   (try simp only [Act.put, Zt, Zz, Zs])
   clear hK K
   refine Rq.on 4 (Rq.s (Rq.s (Rq.s (Rq.s Rq.z)))) (by kernel_rfl) (by assumption) (fun K hK => ?_)
   go_simp
   refine hK _ _ (fun _ => hp1) (fun hcl => ?_)
   (try simp only [Act.put, Zt, Zz, Zs])
   clear hK K
   refine Rq.on 5 (Rq.s (Rq.s (Rq.s (Rq.s (Rq.s Rq.z))))) (by kernel_rfl) (by assumption) (fun K hK => ?_)
   have hz0 := (uh HCx).fz
   have hc0 := (uh HCx).box 4 _ rfl
   have hc1 := (uh HCx).box 5 _ rfl
   have hc2 := (uh HCx).box 6 _ rfl
   have hc3 := (uh HCx).box 7 _ rfl
   have hc4 := (uh HCx).box 8 _ rfl
   go_simp
   have HC2 := Hd ((uh HCx).set5 4 I ⟨_, rfl⟩ ⟨_, rfl⟩ ⟨_, rfl⟩ ⟨_, rfl⟩ ⟨_, rfl⟩ (cs' := ((Tk.C.mk 2 a nm ⟨#[]⟩ I Tk.E.zero ⟨none, 0, 0⟩ ⟨none, 0, 0⟩ ⟨none, 0, 0⟩)).cells) rfl)
   clear hz0 hc0 hc1 hc2 hc3 hc4 HCx
   refine hK _ _ (fun e => absurd e (by decide)) (fun hcl => ?_)
   (try simp only [Act.put, Zt, Zz, Zs])
   refine Rq.done (by kernel_rfl) ?_ _
   clear hK K hp1 hcl
   generalize (((((wb.setCell ⟨cb, 4, none⟩ (.int .i64 I.k)).setCell ⟨cb, 5, none⟩ (.int .i64 I.a)).setCell ⟨cb, 6, none⟩ (.int .i64 I.n)).setCell ⟨cb, 7, none⟩ (.string I.nm)).setCell ⟨cb, 8, none⟩ (.slice I.args.ad I.args.len I.args.cap)) = wc at *
   have HC := HC2
   clear HC2
   obtain ⟨hb0, hb1⟩ := (uh HC).own.now.1
   obtain ⟨xi, rfl⟩ : ∃ xi, xi = x := ⟨x, rfl⟩
   go_wp2_with fail
   refine (ZaX l ta c bp e ⟨#[61]⟩ (by decide) j 0 wc (uh HC).at_).mono ?_
   intro r wd h1
   cases hn : Zak l ⟨#[61]⟩ j with
   | error j =>
    rw [hn] at h1
    obtain ⟨rfl, ht⟩ := h1
    obtain rfl : o = .error j := by rw [← uh HEQ]; simp only [Zax, uh HN1, uh HY1, if_true, uh HNI, hn]
    have HT := Hd ((uh HC).tu.then ht (uh HC).lt.2.2 (fun _ _ h => Or.inl h))
    clear ht
    go_wp2_with fail
    exact ⟨rfl, rfl, uh HT⟩
   | ok i2 =>
    rw [hn] at h1
    obtain ⟨rfl, hj, ht⟩ := h1
    have HNi2 := Hd hn
    replace HC := Hd ((uh HC).step hj ht)
    clear hj ht hn hb0 hb1
    obtain ⟨hb0, hb1⟩ := (uh HC).own.now.1
    go_wp2_with fail
    have hHeld : (fun V => Zd8 w.heap.size bp cb V) (wd).drew := (uh HC).below Zr.drew |>.own.now.1
    have HCd := Hd ((uh HC).below Zr.drew)
    have HQ := Hd (ZbN l ta c bp e 61 0 (by omega) (by omega) i2 wd.drew ((uh HC).below Zr.drew).at_)
    refine ZbA (fun j => Nat.beq j 5) (fun V => Zd8 w.heap.size bp cb V) (by kernel_rfl) hHeld (fun hHeld hcl => ?_)
    generalize (wd).drew = wdd at *
    refine Rq.tk 0 (.pointer (some ⟨cb, 0, none⟩)) Rq.z (by kernel_rfl) (by kernel_rfl) (by kernel_rfl) (by kernel_rfl) (fun _ _ _ h => h) (by assumption) (by assumption) (by rfl) (fun w hSw => by (try dsimp only at hSw); obtain ⟨hA, hB⟩ := hSw; go_simp) (fun hcl => ?_)
    (try simp only [Act.put, Zt, Zz, Zs])
    refine Rq.tk 1 (.pointer (some ⟨bp, 0, none⟩)) (Rq.s Rq.z) (by kernel_rfl) (by kernel_rfl) (by kernel_rfl) (by kernel_rfl) (fun _ _ _ h => h) (by assumption) (by assumption) (by rfl) (fun w hSw => by (try dsimp only at hSw); obtain ⟨hA, hB⟩ := hSw; go_simp) (fun hcl => ?_)
    (try simp only [Act.put, Zt, Zz, Zs])
    refine Rq.on 2 (Rq.s (Rq.s Rq.z)) (by kernel_rfl) (by assumption) (fun K hK => ?_)
    go_simp
    go_at_call 156
    refine (uh HQ).mono ?_
    intro r we h1
    cases hn : Tp.expr l e 61 0 i2 with
    | error j =>
     rw [hn] at h1
     obtain ⟨rfl, ht⟩ := h1
     obtain rfl : o = .error j := by rw [← uh HEQ]; simp only [Zax, uh HN1, uh HY1, if_true, uh HNI, uh HNi2, hn]
     have HT := Hd ((uh HCd).tu.then ht (uh HCd).lt.2.2 (fun _ _ h => Or.inl h))
     clear ht hK
     go_simp
     exact ⟨rfl, rfl, uh HT⟩
    | ok p =>
     obtain ⟨x, j⟩ := p
     rw [hn] at h1
     obtain ⟨⟨F, rfl, hro⟩, hj, ht⟩ := h1
     have HNX := Hd hn
     have HCx := Hd (((uh HCd).step hj ht).and hro (uh HCd).lt.2.2)
     clear hn hro
     have hp1 := (uh HCx).own.now.1.1
     clear hj ht hHeld hcl HCd HC HQ
     go_simp
     refine hK _ _ (fun _ => hp1) (fun hcl => ?_)
     (try simp only [Act.put, Zt, Zz, Zs])
     clear hK K
     refine Rq.on 3 (Rq.s (Rq.s (Rq.s Rq.z))) (by kernel_rfl) (by assumption) (fun K hK => ?_)
     go_simp
     refine hK _ _ (fun _ => hp1) (fun hcl => ?_)
     (try simp only [Act.put, Zt, Zz, Zs])
     clear hK K
     refine Rq.on 4 (Rq.s (Rq.s (Rq.s (Rq.s Rq.z)))) (by kernel_rfl) (by assumption) (fun K hK => ?_)
     go_simp
     refine hK _ _ (fun _ => hp1) (fun hcl => ?_)
     (try simp only [Act.put, Zt, Zz, Zs])
     clear hK K
     refine Rq.on 5 (Rq.s (Rq.s (Rq.s (Rq.s (Rq.s Rq.z))))) (by kernel_rfl) (by assumption) (fun K hK => ?_)
     have hz0 := (uh HCx).fz
     have hc0 := (uh HCx).box 9 _ rfl
     have hc1 := (uh HCx).box 10 _ rfl
     have hc2 := (uh HCx).box 11 _ rfl
     have hc3 := (uh HCx).box 12 _ rfl
     have hc4 := (uh HCx).box 13 _ rfl
     go_simp
     have HC2 := Hd ((uh HCx).set5 9 F ⟨_, rfl⟩ ⟨_, rfl⟩ ⟨_, rfl⟩ ⟨_, rfl⟩ ⟨_, rfl⟩ (cs' := ((Tk.C.mk 2 a nm ⟨#[]⟩ I F ⟨none, 0, 0⟩ ⟨none, 0, 0⟩ ⟨none, 0, 0⟩)).cells) rfl)
     clear hz0 hc0 hc1 hc2 hc3 hc4 HCx
     refine hK _ _ (fun e => absurd e (by decide)) (fun hcl => ?_)
     (try simp only [Act.put, Zt, Zz, Zs])
     refine Rq.done (by kernel_rfl) ?_ _
     clear hK K hp1 hcl
     generalize (((((we.setCell ⟨cb, 9, none⟩ (.int .i64 F.k)).setCell ⟨cb, 10, none⟩ (.int .i64 F.a)).setCell ⟨cb, 11, none⟩ (.int .i64 F.n)).setCell ⟨cb, 12, none⟩ (.string F.nm)).setCell ⟨cb, 13, none⟩ (.slice F.args.ad F.args.len F.args.cap)) = wf at *
     have HC := HC2
     clear HC2
     obtain ⟨hb0, hb1⟩ := (uh HC).own.now.1.1
     obtain rfl : o = .ok (((2, a, nm, ⟨#[]⟩), (xi, x, []), ([], [])), j) := by rw [← uh HEQ]; simp only [Zax, uh HN1, uh HY1, if_true, uh HNI, uh HNi2, uh HNX, uh HPL]
     go_wp2_with fail
     refine bodyPost_ret (results_none rfl _ _ _) rfl ?_
     exact ⟨⟨rfl, _, (uh HC).box, (uh HC).fz, fun W' h1 h2 => ⟨⟨⟨rfl, rfl, rfl, rfl⟩, uh HNM, (show (⟨#[]⟩ : ByteArray).size ≤ maxLen by decide)⟩, ⟨((uh HC).own W' h1 h2).1.2, ((uh HC).own W' h1 h2).2, Zav _ _ _ _⟩, Zav _ _ _ _, Zav _ _ _ _⟩⟩, (uh HC).at_, (uh HC).tu⟩
end
theorem Zcg : (Tryz.prog.info? 56).map (·.size) = some 17 := by kernel_rfl
section
variable (l : List Tp.T) (ta : Option Addr) (c bp : Nat) (e : Int)
theorem ZkI {n : Nat} (rec : Nat → Except Nat (Zap 61 n × Nat)) (i : Nat) (HGo : ∀ i x j, rec i = .ok (x, j) → i < j)
  (HR : ∀ (i' : Nat) (W : World), i < i' → i' < l.length → Tp.J l ta c bp e W i' 0 → Calls Tryz.prog 188 #[.pointer (some ⟨bp, 0, none⟩)] W (Tp.Out l ta c bp e (ZaA bp) W 0 (Zip W.heap.size bp n) (rec i')))
  (w : World) (h : Tp.J l ta c bp e w i 0) :
  Calls Tryz.prog 188 #[.pointer (some ⟨bp, 0, none⟩)] w (Tp.Out l ta c bp e (ZaA bp) w 0 (Zip w.heap.size bp (n + 1)) (Za0 l e rec i)) := by
 obtain ⟨o, ho⟩ : ∃ o, Za0 l e rec i = o := ⟨_, rfl⟩
 rw [ho]
 have hlt := h.lt
 have HEQ := Hd ho
 have HRC := Hd HR
 have HG := Hd HGo
 have hbA := (Below.refl w.heap.size w).alloc Zl (Obj.cells #[.int .i64 0, .int .i64 0, .string ⟨#[]⟩, .string ⟨#[]⟩, .int .i64 0, .int .i64 0, .int .i64 0, .string ⟨#[]⟩, .slice none 0 0, .int .i64 0, .int .i64 0, .int .i64 0, .string ⟨#[]⟩, .slice none 0 0, .slice none 0 0, .slice none 0 0, .slice none 0 0] 56)
 have HA := Hd (ZfY l ta c bp e i 0 _ (h.below hbA))
 have HJ := Hd (h.below hbA)
 have HB := Hd hbA
 have hsa : (w.alloc (Obj.cells #[.int .i64 0, .int .i64 0, .string ⟨#[]⟩, .string ⟨#[]⟩, .int .i64 0, .int .i64 0, .int .i64 0, .string ⟨#[]⟩, .slice none 0 0, .int .i64 0, .int .i64 0, .int .i64 0, .string ⟨#[]⟩, .slice none 0 0, .slice none 0 0, .slice none 0 0, .slice none 0 0] 56)).heap.size = w.heap.size + 1 := by simp
 have HRX := Hd (show ∀ j v, (Tk.C.new 0).cells[j]? = some v → (w.alloc (Obj.cells #[.int .i64 0, .int .i64 0, .string ⟨#[]⟩, .string ⟨#[]⟩, .int .i64 0, .int .i64 0, .int .i64 0, .string ⟨#[]⟩, .slice none 0 0, .int .i64 0, .int .i64 0, .int .i64 0, .string ⟨#[]⟩, .slice none 0 0, .slice none 0 0, .slice none 0 0, .slice none 0 0] 56)).cell? ⟨w.heap.size, j, none⟩ = some v from fun j v hj => by go_simp; simpa [Tk.C.new, Tk.C.cells, Tk.E.zero] using hj)
 have HRF := Hd (show ∀ j, (w.alloc (Obj.cells #[.int .i64 0, .int .i64 0, .string ⟨#[]⟩, .string ⟨#[]⟩, .int .i64 0, .int .i64 0, .int .i64 0, .string ⟨#[]⟩, .slice none 0 0, .int .i64 0, .int .i64 0, .int .i64 0, .string ⟨#[]⟩, .slice none 0 0, .slice none 0 0, .slice none 0 0, .slice none 0 0] 56)).frozen? ⟨w.heap.size, j, none⟩ = false from fun j => by go_simp)
 clear h ho HR HGo hbA
 go_enter Tryz.func188, Tryz.ntmps188
 go_wp2_with fail
 generalize (w.alloc (Obj.cells #[.int .i64 0, .int .i64 0, .string ⟨#[]⟩, .string ⟨#[]⟩, .int .i64 0, .int .i64 0, .int .i64 0, .string ⟨#[]⟩, .slice none 0 0, .int .i64 0, .int .i64 0, .int .i64 0, .string ⟨#[]⟩, .slice none 0 0, .slice none 0 0, .slice none 0 0, .slice none 0 0] 56)) = wa at *
 refine (uh HA).mono ?_
 rintro r w1 ⟨rfl, hb1⟩
 obtain ⟨a, ha⟩ : ∃ a, Zaz l e i = a := ⟨_, rfl⟩
 rw [ha]
 have HPL := Hd ha
 have hs1 := hb1.size
 have hbN := (Below.refl w1.heap.size w1).alloc Zl (Obj.cells #[.int .i64 0, .int .i64 a, .string ⟨#[]⟩, .string ⟨#[]⟩, .int .i64 0, .int .i64 0, .int .i64 0, .string ⟨#[]⟩, .slice none 0 0, .int .i64 0, .int .i64 0, .int .i64 0, .string ⟨#[]⟩, .slice none 0 0, .slice none 0 0, .slice none 0 0, .slice none 0 0] 56)
 have hs2 : (w1.alloc (Obj.cells #[.int .i64 0, .int .i64 a, .string ⟨#[]⟩, .string ⟨#[]⟩, .int .i64 0, .int .i64 0, .int .i64 0, .string ⟨#[]⟩, .slice none 0 0, .int .i64 0, .int .i64 0, .int .i64 0, .string ⟨#[]⟩, .slice none 0 0, .slice none 0 0, .slice none 0 0, .slice none 0 0] 56)).heap.size = w1.heap.size + 1 := by simp
 have HC := Hd (show Tp.Cb l ta c bp e (w1.alloc (Obj.cells #[.int .i64 0, .int .i64 a, .string ⟨#[]⟩, .string ⟨#[]⟩, .int .i64 0, .int .i64 0, .int .i64 0, .string ⟨#[]⟩, .slice none 0 0, .int .i64 0, .int .i64 0, .int .i64 0, .string ⟨#[]⟩, .slice none 0 0, .slice none 0 0, .slice none 0 0, .slice none 0 0] 56)) w1.heap.size (fun _ => True) (Tk.C.new a).cells i 0 (w1.alloc (Obj.cells #[.int .i64 0, .int .i64 a, .string ⟨#[]⟩, .string ⟨#[]⟩, .int .i64 0, .int .i64 0, .int .i64 0, .string ⟨#[]⟩, .slice none 0 0, .int .i64 0, .int .i64 0, .int .i64 0, .string ⟨#[]⟩, .slice none 0 0, .slice none 0 0, .slice none 0 0, .slice none 0 0] 56)) from
  ⟨((uh HJ).below hb1).below hbN, Tp.Tu.refl _ _ _, fun j v hj => by go_simp; simpa [Tk.C.new, Tk.C.cells, Tk.E.zero] using hj, fun j => by go_simp, fun _ _ _ => trivial, ⟨by omega, by omega⟩⟩)
 have hbR : (w1.alloc (Obj.cells #[.int .i64 0, .int .i64 a, .string ⟨#[]⟩, .string ⟨#[]⟩, .int .i64 0, .int .i64 0, .int .i64 0, .string ⟨#[]⟩, .slice none 0 0, .int .i64 0, .int .i64 0, .int .i64 0, .string ⟨#[]⟩, .slice none 0 0, .slice none 0 0, .slice none 0 0, .slice none 0 0] 56)).heap[w.heap.size]? = wa.heap[w.heap.size]? := (hbN.block _ (by omega)).trans (hb1.block _ (by omega))
 have HX := Hd (show (∀ j v, (Tk.C.new 0).cells[j]? = some v → (w1.alloc (Obj.cells #[.int .i64 0, .int .i64 a, .string ⟨#[]⟩, .string ⟨#[]⟩, .int .i64 0, .int .i64 0, .int .i64 0, .string ⟨#[]⟩, .slice none 0 0, .int .i64 0, .int .i64 0, .int .i64 0, .string ⟨#[]⟩, .slice none 0 0, .slice none 0 0, .slice none 0 0, .slice none 0 0] 56)).cell? ⟨w.heap.size, j, none⟩ = some v) ∧ ∀ j, (w1.alloc (Obj.cells #[.int .i64 0, .int .i64 a, .string ⟨#[]⟩, .string ⟨#[]⟩, .int .i64 0, .int .i64 0, .int .i64 0, .string ⟨#[]⟩, .slice none 0 0, .int .i64 0, .int .i64 0, .int .i64 0, .string ⟨#[]⟩, .slice none 0 0, .slice none 0 0, .slice none 0 0, .slice none 0 0] 56)).frozen? ⟨w.heap.size, j, none⟩ = false from
  ⟨fun j v hj => (Zc (a := ⟨w.heap.size, j, none⟩) hbR).trans ((uh HRX) j v hj), fun j => (Zf (a := ⟨w.heap.size, j, none⟩) hbR).trans ((uh HRF) j)⟩)
 have HT0 := Hd (((uh HB).trans (hb1.mono (by omega))).trans (hbN.mono (by omega)))
 clear hb1 hbN hbR HA HJ HB HRX HRF ha
 go_upto_block 0 with fail
 generalize hw2 : (w1.alloc (Obj.cells #[.int .i64 0, .int .i64 a, .string ⟨#[]⟩, .string ⟨#[]⟩, .int .i64 0, .int .i64 0, .int .i64 0, .string ⟨#[]⟩, .slice none 0 0, .int .i64 0, .int .i64 0, .int .i64 0, .string ⟨#[]⟩, .slice none 0 0, .slice none 0 0, .slice none 0 0, .slice none 0 0] 56)) = w2 at *
 clear hw2
 generalize w1.heap.size = cb at *
 go_cut [] from 4 (fun W => ∃ (x : Zap 61 (n + 1)) (j : Nat) (C : Tk.C), o = .ok (x, j) ∧ Tp.Cb l ta c bp e w2 cb (fun V => Tk.RC V 61 (n + 1) C x) C.cells j 0 W)
 case first =>
  go_wp2_with fail
  obtain ⟨y1, hy1⟩ : ∃ y, Zal l i ⟨#[112, 114, 105, 110, 116]⟩ = y := ⟨_, rfl⟩
  have HY1 := Hd hy1
  refine (Zbi l ta c bp e ⟨#[112, 114, 105, 110, 116]⟩ (by decide) i 0 w2 (uh HC).at_ y1 hy1).mono ?_
  rintro r w3 ⟨rfl, hj, ht⟩
  replace HC := Hd ((uh HC).step hj ht)
  clear hj ht hy1
  cases y1
  · replace HC := Hd (show Tp.Cb l ta c bp e w2 cb (fun _ => True) ((Tk.C.mk 0 a ⟨#[]⟩ ⟨#[]⟩ Tk.E.zero Tk.E.zero ⟨none, 0, 0⟩ ⟨none, 0, 0⟩ ⟨none, 0, 0⟩)).cells i 0 w3 from uh HC)
    go_wp2_with fail
    obtain ⟨y2, hy2⟩ : ∃ y, Zal l i ⟨#[105, 102]⟩ = y := ⟨_, rfl⟩
    have HY2 := Hd hy2
    refine (Zbi l ta c bp e ⟨#[105, 102]⟩ (by decide) i 0 w3 (uh HC).at_ y2 hy2).mono ?_
    rintro r w4 ⟨rfl, hj, ht⟩
    replace HC := Hd ((uh HC).step hj ht)
    clear hj ht hy2
    cases y2
    · replace HC := Hd (show Tp.Cb l ta c bp e w2 cb (fun _ => True) ((Tk.C.mk 0 a ⟨#[]⟩ ⟨#[]⟩ Tk.E.zero Tk.E.zero ⟨none, 0, 0⟩ ⟨none, 0, 0⟩ ⟨none, 0, 0⟩)).cells i 0 w4 from uh HC)
      go_wp2_with fail
      obtain ⟨y3, hy3⟩ : ∃ y, Zal l i ⟨#[119, 104, 105, 108, 101]⟩ = y := ⟨_, rfl⟩
      have HY3 := Hd hy3
      refine (Zbi l ta c bp e ⟨#[119, 104, 105, 108, 101]⟩ (by decide) i 0 w4 (uh HC).at_ y3 hy3).mono ?_
      rintro r w5 ⟨rfl, hj, ht⟩
      replace HC := Hd ((uh HC).step hj ht)
      clear hj ht hy3
      cases y3
      · replace HC := Hd (show Tp.Cb l ta c bp e w2 cb (fun _ => True) ((Tk.C.mk 0 a ⟨#[]⟩ ⟨#[]⟩ Tk.E.zero Tk.E.zero ⟨none, 0, 0⟩ ⟨none, 0, 0⟩ ⟨none, 0, 0⟩)).cells i 0 w5 from uh HC)
        go_wp2_with fail
        have hlc := (uh HC).lt
        refine (Zjx l ta c bp e (n := n) cb i w5 (uh HC).at_ hlc.1 (by rw [uh HPL]; exact (uh HC).box) (uh HC).fz).mono ?_
        intro r w6 h1
        cases hn : Zax l e (n := n) i with
        | error j =>
         rw [hn] at h1
         obtain ⟨rfl, ht⟩ := h1
         obtain rfl : o = .error j := by rw [← uh HEQ]; simp only [Za0, uh HY1, uh HY2, uh HY3, Zb, if_false, hn]
         have HT := Hd ((Tp.Tu.of_below (uh HT0)).trans (((uh HC).tu.then ht hlc.2.2 (fun _ _ h => h)).mono (by omega) (fun q hq h => by rcases h with h | h; exact h; omega)))
         clear ht
         go_wp2_with fail
         exact ⟨rfl, rfl, uh HT⟩
        | ok p =>
         obtain ⟨x, j⟩ := p
         rw [hn] at h1
         obtain ⟨⟨rfl, K, hkb, hkf, hko⟩, hj, ht⟩ := h1
         have HN1 := Hd hn
         replace HC := Hd (show Tp.Cb l ta c bp e w2 cb (fun W => Tk.RC W 61 (n + 1) K x) K.cells j 0 w6 from ⟨hj, (uh HC).tu.then ht hlc.2.2 (fun _ _ h => h), hkb, hkf, hko.wide hlc.2.2 (by omega) (Or.inl (by omega)), hlc.1, hlc.2.1⟩)
         clear hj ht hn hkb hkf hko hlc
         go_wp2_with fail
         refine (ZaX l ta c bp e ⟨#[59]⟩ (by decide) (j) 0 w6 (uh HC).at_).mono ?_
         intro r w7 h1
         cases hn : Zak l ⟨#[59]⟩ (j) with
         | error j =>
          rw [hn] at h1
          obtain ⟨rfl, ht⟩ := h1
          obtain rfl : o = .error j := by rw [← uh HEQ]; simp only [Za0, uh HY1, uh HY2, uh HY3, Zb, if_false, uh HN1, hn]
          have HT := Hd ((Tp.Tu.of_below (uh HT0)).trans (((uh HC).tu.then ht (uh HC).lt.2.2 (fun _ _ h => Or.inl h)).mono (by omega) (fun q hq h => by rcases h with h | h; exact h; omega)))
          clear ht
          go_wp2_with fail
          exact ⟨rfl, rfl, uh HT⟩
         | ok j2 =>
          rw [hn] at h1
          obtain ⟨rfl, hj, ht⟩ := h1
          have HN2 := Hd hn
          replace HC := Hd ((uh HC).step hj ht)
          clear hj ht hn
          go_wp2_with fail
          obtain rfl : o = .ok (x, j2) := by rw [← uh HEQ]; simp only [Za0, uh HY1, uh HY2, uh HY3, Zb, if_false, uh HN1, uh HN2]
          go_meet
          case rel => exact ⟨x, j2, K, rfl, (uh HC).imp (fun V h => h)⟩
      have hc0 := (uh HC).box 0 _ rfl
      have hz0 := (uh HC).fz
      have HC2 := Hd ((uh HC).set 0 (.int .i64 7) ⟨_, rfl⟩ (cs' := ((Tk.C.mk 7 a ⟨#[]⟩ ⟨#[]⟩ Tk.E.zero Tk.E.zero ⟨none, 0, 0⟩ ⟨none, 0, 0⟩ ⟨none, 0, 0⟩)).cells) rfl)
      go_wp2_with fail
      clear hc0 hz0 HC
      generalize (w5.setCell ⟨cb, 0, none⟩ (.int .i64 7)) = wb at *
      have HC := HC2
      clear HC2
      refine (ZbN l ta c bp e 61 0 (by omega) (by omega) (i + 1) wb (uh HC).at_).mono ?_
      intro r wc h1
      cases hn : Tp.expr l e 61 0 (i + 1) with
      | error j =>
       rw [hn] at h1
       obtain ⟨rfl, ht⟩ := h1
       obtain rfl : o = .error j := by rw [← uh HEQ]; simp only [Za0, uh HY1, uh HY2, uh HY3, if_true, Zb, if_false, hn]
       have HT := Hd ((Tp.Tu.of_below (uh HT0)).trans (((uh HC).tu.then ht (uh HC).lt.2.2 (fun _ _ h => Or.inl h)).mono (by omega) (fun q hq h => by rcases h with h | h; exact h; omega)))
       clear ht
       go_wp2_with fail
       exact ⟨rfl, rfl, uh HT⟩
      | ok p =>
       rw [hn] at h1
       obtain ⟨x, j⟩ := p
       obtain ⟨⟨F, rfl, hro⟩, hj, ht⟩ := h1
       have HN1 := Hd hn
       replace HC := Hd (((uh HC).step hj ht).and hro (uh HC).lt.2.2)
       clear hro
       clear hj ht hn
       have hc0 := (uh HC).box 9 _ rfl
       have hc1 := (uh HC).box 10 _ rfl
       have hc2 := (uh HC).box 11 _ rfl
       have hc3 := (uh HC).box 12 _ rfl
       have hc4 := (uh HC).box 13 _ rfl
       have hz0 := (uh HC).fz
       have HC2 := Hd ((uh HC).set5 9 F ⟨_, rfl⟩ ⟨_, rfl⟩ ⟨_, rfl⟩ ⟨_, rfl⟩ ⟨_, rfl⟩ (cs' := ((Tk.C.mk 7 a ⟨#[]⟩ ⟨#[]⟩ Tk.E.zero F ⟨none, 0, 0⟩ ⟨none, 0, 0⟩ ⟨none, 0, 0⟩)).cells) rfl)
       go_wp2_with fail
       clear hz0 hc0 hc1 hc2 hc3 hc4 HC
       generalize (((((wc.setCell ⟨cb, 9, none⟩ (.int .i64 F.k)).setCell ⟨cb, 10, none⟩ (.int .i64 F.a)).setCell ⟨cb, 11, none⟩ (.int .i64 F.n)).setCell ⟨cb, 12, none⟩ (.string F.nm)).setCell ⟨cb, 13, none⟩ (.slice F.args.ad F.args.len F.args.cap)) = wd at *
       have HC := HC2
       clear HC2
       have hgo : i < j := by have := Zbg 61 (uh HN1); omega
       refine (ZeI l ta c bp e rec (j) (uh HG) (fun i' W h1 h2 hJ => (uh HRC) i' W (by omega) h2 hJ) wd (uh HC).at_).mono ?_
       intro r we h1
       cases hn : Tp.block l rec (j) with
       | error j =>
        rw [hn] at h1
        obtain ⟨rfl, ht⟩ := h1
        obtain rfl : o = .error j := by rw [← uh HEQ]; simp only [Za0, uh HY1, uh HY2, uh HY3, if_true, Zb, if_false, uh HN1, hn]
        have HT := Hd ((Tp.Tu.of_below (uh HT0)).trans (((uh HC).tu.then ht (uh HC).lt.2.2 (fun _ _ h => Or.inl h)).mono (by omega) (fun q hq h => by rcases h with h | h; exact h; omega)))
        clear ht
        go_wp2_with fail
        exact ⟨rfl, rfl, uh HT⟩
       | ok p =>
        rw [hn] at h1
        obtain ⟨th, j2⟩ := p
        obtain ⟨⟨s, rfl, hro⟩, hj, ht⟩ := h1
        have HN2 := Hd hn
        replace HC := Hd (((uh HC).step hj ht).and hro (uh HC).lt.2.2)
        clear hro
        clear hj ht hn
        obtain rfl : o = .ok (((7, a, ⟨#[]⟩, ⟨#[]⟩), (ZaO, x, []), (th, [])), j2) := by rw [← uh HEQ]; simp only [Za0, uh HY1, uh HY2, uh HY3, if_true, Zb, if_false, uh HN1, uh HN2, uh HPL]
        have hc0 := (uh HC).box 15 _ rfl
        have hz0 := (uh HC).fz
        have HC2 := Hd ((uh HC).set 15 (.slice s.ad s.len s.cap) ⟨_, rfl⟩ (cs' := ((Tk.C.mk 7 a ⟨#[]⟩ ⟨#[]⟩ Tk.E.zero F ⟨none, 0, 0⟩ s ⟨none, 0, 0⟩)).cells) rfl)
        go_wp2_with fail
        go_meet
        case rel => exact ⟨((7, a, ⟨#[]⟩, ⟨#[]⟩), (ZaO, x, []), (th, [])), j2, (Tk.C.mk 7 a ⟨#[]⟩ ⟨#[]⟩ Tk.E.zero F ⟨none, 0, 0⟩ s ⟨none, 0, 0⟩), rfl, (uh HC2).imp (fun V h => ⟨⟨⟨rfl, rfl, rfl, rfl⟩, (show (⟨#[]⟩ : ByteArray).size ≤ maxLen by decide), (show (⟨#[]⟩ : ByteArray).size ≤ maxLen by decide)⟩, ⟨ZaK V, h.1.2, Zav _ _ _ _⟩, h.2, Zav _ _ _ _⟩)⟩
    have hc0 := (uh HC).box 0 _ rfl
    have hz0 := (uh HC).fz
    have HC2 := Hd ((uh HC).set 0 (.int .i64 6) ⟨_, rfl⟩ (cs' := ((Tk.C.mk 6 a ⟨#[]⟩ ⟨#[]⟩ Tk.E.zero Tk.E.zero ⟨none, 0, 0⟩ ⟨none, 0, 0⟩ ⟨none, 0, 0⟩)).cells) rfl)
    go_wp2_with fail
    clear hc0 hz0 HC
    generalize (w4.setCell ⟨cb, 0, none⟩ (.int .i64 6)) = wb at *
    have HC := HC2
    clear HC2
    refine (ZbN l ta c bp e 61 0 (by omega) (by omega) (i + 1) wb (uh HC).at_).mono ?_
    intro r wc h1
    cases hn : Tp.expr l e 61 0 (i + 1) with
    | error j =>
     rw [hn] at h1
     obtain ⟨rfl, ht⟩ := h1
     obtain rfl : o = .error j := by rw [← uh HEQ]; simp only [Za0, uh HY1, uh HY2, if_true, Zb, if_false, hn]
     have HT := Hd ((Tp.Tu.of_below (uh HT0)).trans (((uh HC).tu.then ht (uh HC).lt.2.2 (fun _ _ h => Or.inl h)).mono (by omega) (fun q hq h => by rcases h with h | h; exact h; omega)))
     clear ht
     go_wp2_with fail
     exact ⟨rfl, rfl, uh HT⟩
    | ok p =>
     rw [hn] at h1
     obtain ⟨x, j⟩ := p
     obtain ⟨⟨F, rfl, hro⟩, hj, ht⟩ := h1
     have HN1 := Hd hn
     replace HC := Hd (((uh HC).step hj ht).and hro (uh HC).lt.2.2)
     clear hro
     clear hj ht hn
     have hc0 := (uh HC).box 9 _ rfl
     have hc1 := (uh HC).box 10 _ rfl
     have hc2 := (uh HC).box 11 _ rfl
     have hc3 := (uh HC).box 12 _ rfl
     have hc4 := (uh HC).box 13 _ rfl
     have hz0 := (uh HC).fz
     have HC2 := Hd ((uh HC).set5 9 F ⟨_, rfl⟩ ⟨_, rfl⟩ ⟨_, rfl⟩ ⟨_, rfl⟩ ⟨_, rfl⟩ (cs' := ((Tk.C.mk 6 a ⟨#[]⟩ ⟨#[]⟩ Tk.E.zero F ⟨none, 0, 0⟩ ⟨none, 0, 0⟩ ⟨none, 0, 0⟩)).cells) rfl)
     go_wp2_with fail
     clear hz0 hc0 hc1 hc2 hc3 hc4 HC
     generalize (((((wc.setCell ⟨cb, 9, none⟩ (.int .i64 F.k)).setCell ⟨cb, 10, none⟩ (.int .i64 F.a)).setCell ⟨cb, 11, none⟩ (.int .i64 F.n)).setCell ⟨cb, 12, none⟩ (.string F.nm)).setCell ⟨cb, 13, none⟩ (.slice F.args.ad F.args.len F.args.cap)) = wd at *
     have HC := HC2
     clear HC2
     have hgo : i < j := by have := Zbg 61 (uh HN1); omega
     refine (ZeI l ta c bp e rec (j) (uh HG) (fun i' W h1 h2 hJ => (uh HRC) i' W (by omega) h2 hJ) wd (uh HC).at_).mono ?_
     intro r we h1
     cases hn : Tp.block l rec (j) with
     | error j =>
      rw [hn] at h1
      obtain ⟨rfl, ht⟩ := h1
      obtain rfl : o = .error j := by rw [← uh HEQ]; simp only [Za0, uh HY1, uh HY2, if_true, Zb, if_false, uh HN1, hn]
      have HT := Hd ((Tp.Tu.of_below (uh HT0)).trans (((uh HC).tu.then ht (uh HC).lt.2.2 (fun _ _ h => Or.inl h)).mono (by omega) (fun q hq h => by rcases h with h | h; exact h; omega)))
      clear ht
      go_wp2_with fail
      exact ⟨rfl, rfl, uh HT⟩
     | ok p =>
      rw [hn] at h1
      obtain ⟨th, j2⟩ := p
      obtain ⟨⟨s, rfl, hro⟩, hj, ht⟩ := h1
      have HN2 := Hd hn
      replace HC := Hd (((uh HC).step hj ht).and hro (uh HC).lt.2.2)
      clear hro
      clear hj ht hn
      have hc0 := (uh HC).box 15 _ rfl
      have hz0 := (uh HC).fz
      have HC2 := Hd ((uh HC).set 15 (.slice s.ad s.len s.cap) ⟨_, rfl⟩ (cs' := ((Tk.C.mk 6 a ⟨#[]⟩ ⟨#[]⟩ Tk.E.zero F ⟨none, 0, 0⟩ s ⟨none, 0, 0⟩)).cells) rfl)
      go_wp2_with fail
      clear hc0 hz0 HC
      generalize (we.setCell ⟨cb, 15, none⟩ (.slice s.ad s.len s.cap)) = wf at *
      have HC := HC2
      clear HC2
      obtain ⟨y4, hy4⟩ : ∃ y, Zal l j2 ⟨#[101, 108, 115, 101]⟩ = y := ⟨_, rfl⟩
      have HY4 := Hd hy4
      refine (Zbi l ta c bp e ⟨#[101, 108, 115, 101]⟩ (by decide) j2 0 wf (uh HC).at_ y4 hy4).mono ?_
      rintro r wg ⟨rfl, hj, ht⟩
      replace HC := Hd ((uh HC).step hj ht)
      clear hj ht hy4
      cases y4
      · replace HC := Hd (show Tp.Cb l ta c bp e w2 cb (fun V => (True ∧ Tk.RE V 61 F x) ∧ Tk.RS V 17 (Tk.LC V) (Tk.RC V 61 n) s th) ((Tk.C.mk 6 a ⟨#[]⟩ ⟨#[]⟩ Tk.E.zero F ⟨none, 0, 0⟩ s ⟨none, 0, 0⟩)).cells j2 0 wg from uh HC)
        go_wp2_with fail
        obtain rfl : o = .ok (((6, a, ⟨#[]⟩, ⟨#[]⟩), (ZaO, x, []), (th, [])), j2) := by rw [← uh HEQ]; simp only [Za0, uh HY1, uh HY2, if_true, Zb, if_false, uh HN1, uh HN2, uh HY4, uh HPL]
        go_meet
        case rel => exact ⟨((6, a, ⟨#[]⟩, ⟨#[]⟩), (ZaO, x, []), (th, [])), j2, (Tk.C.mk 6 a ⟨#[]⟩ ⟨#[]⟩ Tk.E.zero F ⟨none, 0, 0⟩ s ⟨none, 0, 0⟩), rfl, (uh HC).imp (fun V h => ⟨⟨⟨rfl, rfl, rfl, rfl⟩, (show (⟨#[]⟩ : ByteArray).size ≤ maxLen by decide), (show (⟨#[]⟩ : ByteArray).size ≤ maxLen by decide)⟩, ⟨ZaK V, h.1.2, Zav _ _ _ _⟩, h.2, Zav _ _ _ _⟩)⟩
      go_wp2_with fail
      have hgo : i < j2 + 1 := by have := Zbg 61 (uh HN1); have := Zc2 (uh HG) (uh HN2); omega
      refine (ZeI l ta c bp e rec (j2 + 1) (uh HG) (fun i' W h1 h2 hJ => (uh HRC) i' W (by omega) h2 hJ) wg (uh HC).at_).mono ?_
      intro r wh h1
      cases hn : Tp.block l rec (j2 + 1) with
      | error j =>
       rw [hn] at h1
       obtain ⟨rfl, ht⟩ := h1
       obtain rfl : o = .error j := by rw [← uh HEQ]; simp only [Za0, uh HY1, uh HY2, if_true, Zb, if_false, uh HN1, uh HN2, uh HY4, hn]
       have HT := Hd ((Tp.Tu.of_below (uh HT0)).trans (((uh HC).tu.then ht (uh HC).lt.2.2 (fun _ _ h => Or.inl h)).mono (by omega) (fun q hq h => by rcases h with h | h; exact h; omega)))
       clear ht
       go_wp2_with fail
       exact ⟨rfl, rfl, uh HT⟩
      | ok p =>
       rw [hn] at h1
       obtain ⟨el, j3⟩ := p
       obtain ⟨⟨u, rfl, hro⟩, hj, ht⟩ := h1
       have HN3 := Hd hn
       replace HC := Hd (((uh HC).step hj ht).and hro (uh HC).lt.2.2)
       clear hro
       clear hj ht hn
       obtain rfl : o = .ok (((6, a, ⟨#[]⟩, ⟨#[]⟩), (ZaO, x, []), (th, el)), j3) := by rw [← uh HEQ]; simp only [Za0, uh HY1, uh HY2, if_true, Zb, if_false, uh HN1, uh HN2, uh HY4, uh HN3, uh HPL]
       have hc0 := (uh HC).box 16 _ rfl
       have hz0 := (uh HC).fz
       have HC2 := Hd ((uh HC).set 16 (.slice u.ad u.len u.cap) ⟨_, rfl⟩ (cs' := ((Tk.C.mk 6 a ⟨#[]⟩ ⟨#[]⟩ Tk.E.zero F ⟨none, 0, 0⟩ s u)).cells) rfl)
       go_wp2_with fail
       go_meet
       case rel => exact ⟨((6, a, ⟨#[]⟩, ⟨#[]⟩), (ZaO, x, []), (th, el)), j3, (Tk.C.mk 6 a ⟨#[]⟩ ⟨#[]⟩ Tk.E.zero F ⟨none, 0, 0⟩ s u), rfl, (uh HC2).imp (fun V h => ⟨⟨⟨rfl, rfl, rfl, rfl⟩, (show (⟨#[]⟩ : ByteArray).size ≤ maxLen by decide), (show (⟨#[]⟩ : ByteArray).size ≤ maxLen by decide)⟩, ⟨ZaK V, h.1.1.2, Zav _ _ _ _⟩, h.1.2, h.2⟩)⟩
  have hc0 := (uh HC).box 0 _ rfl
  have hz0 := (uh HC).fz
  have HC2 := Hd ((uh HC).set 0 (.int .i64 5) ⟨_, rfl⟩ (cs' := ((Tk.C.mk 5 a ⟨#[]⟩ ⟨#[]⟩ Tk.E.zero Tk.E.zero ⟨none, 0, 0⟩ ⟨none, 0, 0⟩ ⟨none, 0, 0⟩)).cells) rfl)
  go_wp2_with fail
  clear hc0 hz0 HC
  generalize (w3.setCell ⟨cb, 0, none⟩ (.int .i64 5)) = wb at *
  have HC := HC2
  clear HC2
  refine (ZbN l ta c bp e 61 0 (by omega) (by omega) (i + 1) wb (uh HC).at_).mono ?_
  intro r wc h1
  cases hn : Tp.expr l e 61 0 (i + 1) with
  | error j =>
   rw [hn] at h1
   obtain ⟨rfl, ht⟩ := h1
   obtain rfl : o = .error j := by rw [← uh HEQ]; simp only [Za0, uh HY1, if_true, hn]
   have HT := Hd ((Tp.Tu.of_below (uh HT0)).trans (((uh HC).tu.then ht (uh HC).lt.2.2 (fun _ _ h => Or.inl h)).mono (by omega) (fun q hq h => by rcases h with h | h; exact h; omega)))
   clear ht
   go_wp2_with fail
   exact ⟨rfl, rfl, uh HT⟩
  | ok p =>
   rw [hn] at h1
   obtain ⟨x, j⟩ := p
   obtain ⟨⟨F, rfl, hro⟩, hj, ht⟩ := h1
   have HN1 := Hd hn
   replace HC := Hd (((uh HC).step hj ht).and hro (uh HC).lt.2.2)
   clear hro
   clear hj ht hn
   have hc0 := (uh HC).box 9 _ rfl
   have hc1 := (uh HC).box 10 _ rfl
   have hc2 := (uh HC).box 11 _ rfl
   have hc3 := (uh HC).box 12 _ rfl
   have hc4 := (uh HC).box 13 _ rfl
   have hz0 := (uh HC).fz
   have HC2 := Hd ((uh HC).set5 9 F ⟨_, rfl⟩ ⟨_, rfl⟩ ⟨_, rfl⟩ ⟨_, rfl⟩ ⟨_, rfl⟩ (cs' := ((Tk.C.mk 5 a ⟨#[]⟩ ⟨#[]⟩ Tk.E.zero F ⟨none, 0, 0⟩ ⟨none, 0, 0⟩ ⟨none, 0, 0⟩)).cells) rfl)
   go_wp2_with fail
   clear hz0 hc0 hc1 hc2 hc3 hc4 HC
   generalize (((((wc.setCell ⟨cb, 9, none⟩ (.int .i64 F.k)).setCell ⟨cb, 10, none⟩ (.int .i64 F.a)).setCell ⟨cb, 11, none⟩ (.int .i64 F.n)).setCell ⟨cb, 12, none⟩ (.string F.nm)).setCell ⟨cb, 13, none⟩ (.slice F.args.ad F.args.len F.args.cap)) = wd at *
   have HC := HC2
   clear HC2
   refine (ZaX l ta c bp e ⟨#[59]⟩ (by decide) (j) 0 wd (uh HC).at_).mono ?_
   intro r we h1
   cases hn : Zak l ⟨#[59]⟩ (j) with
   | error j =>
    rw [hn] at h1
    obtain ⟨rfl, ht⟩ := h1
    obtain rfl : o = .error j := by rw [← uh HEQ]; simp only [Za0, uh HY1, if_true, uh HN1, hn]
    have HT := Hd ((Tp.Tu.of_below (uh HT0)).trans (((uh HC).tu.then ht (uh HC).lt.2.2 (fun _ _ h => Or.inl h)).mono (by omega) (fun q hq h => by rcases h with h | h; exact h; omega)))
    clear ht
    go_wp2_with fail
    exact ⟨rfl, rfl, uh HT⟩
   | ok j2 =>
    rw [hn] at h1
    obtain ⟨rfl, hj, ht⟩ := h1
    have HN2 := Hd hn
    replace HC := Hd ((uh HC).step hj ht)
    clear hj ht hn
    go_wp2_with fail
    obtain rfl : o = .ok (((5, a, ⟨#[]⟩, ⟨#[]⟩), (ZaO, x, []), ([], [])), j2) := by rw [← uh HEQ]; simp only [Za0, uh HY1, if_true, uh HN1, uh HN2, uh HPL]
    go_meet
    case rel => exact ⟨((5, a, ⟨#[]⟩, ⟨#[]⟩), (ZaO, x, []), ([], [])), j2, (Tk.C.mk 5 a ⟨#[]⟩ ⟨#[]⟩ Tk.E.zero F ⟨none, 0, 0⟩ ⟨none, 0, 0⟩ ⟨none, 0, 0⟩), rfl, (uh HC).imp (fun V h => ⟨⟨⟨rfl, rfl, rfl, rfl⟩, (show (⟨#[]⟩ : ByteArray).size ≤ maxLen by decide), (show (⟨#[]⟩ : ByteArray).size ≤ maxLen by decide)⟩, ⟨ZaK V, h.2, Zav _ _ _ _⟩, Zav _ _ _ _, Zav _ _ _ _⟩)⟩
 case rest =>
  obtain ⟨x, j, K, rfl, hC⟩ := hcut
  have HC := Hd hC
  clear hC
  have hlc := (uh HC).lt
  have hRb : wc.heap[w.heap.size]? = w2.heap[w.heap.size]? := (uh HC).tu.block _ (by omega) (by omega)
  have hRx : ∀ j v, (Tk.C.new 0).cells[j]? = some v → wc.cell? ⟨w.heap.size, j, none⟩ = some v := fun j v hj => (Zc (a := ⟨w.heap.size, j, none⟩) hRb).trans ((uh HX).1 j v hj)
  have hRf : ∀ j, wc.frozen? ⟨w.heap.size, j, none⟩ = false := fun j => (Zf (a := ⟨w.heap.size, j, none⟩) hRb).trans ((uh HX).2 j)
  have hRe : ∀ j, j < K.cells.size → ∃ u, wc.cell? ⟨w.heap.size, j, none⟩ = some u := fun j hj => ⟨_, hRx j _ (Array.getElem?_eq_getElem (show j < (Tk.C.new 0).cells.size from hj))⟩
  obtain ⟨hp, _, hsS, hkS, htS⟩ := ZcD w.heap.size K.cells.toList 0 wc (fun j _ hj => hRe j (by simpa using hj))
  have hT := ((Tp.Tu.of_below (uh HT0)).trans ((uh HC).tu.mono (by omega) (D' := ZaA bp) (fun q hq h => by rcases h with h | h; exact h; omega))).trans (htS _ _ Zl)
  have hone : ∀ v ∈ K.cells.toList, v.oneCell' = true := fun v hv => by simp [Tk.C.cells] at hv; rcases hv with h | h | h | h | h | h | h | h | h | h | h | h | h | h | h | h | h <;> subst h <;> rfl
  go_upto_region 18 with fail
  refine Zdm (cs := K.cells) (cb := cb) (Rb := w.heap.size) (t := 45) (p := 3) (r := 2) rfl rfl rfl rfl rfl rfl rfl rfl (by simp) (by decide) (uh HC).box hRe hRf hone Tryz.underlying56 rfl Zcg ?_
  go_wp2_with fail
  refine bodyPost_ret (ZcY (cs := K.cells) (r := 2) rfl rfl hRe Tryz.underlying56 rfl Zcg) rfl ?_
  exact ⟨⟨K, rfl, ((uh HC).own.go (by omega) (fun q h1 _ _ => hkS q (by omega))).wide (B' := w.heap.size) (g' := bp) (by omega) (by omega) (Or.inl (by omega))⟩, (uh HC).at_.kept (by omega) (fun q hq => hkS q (by omega)), hT⟩
theorem Zg0 : ∀ (n i : Nat) (w : World), i < l.length → l.length ≤ n + i → Tp.J l ta c bp e w i 0 →
  Calls Tryz.prog 188 #[.pointer (some ⟨bp, 0, none⟩)] w (Tp.Out l ta c bp e (ZaA bp) w 0 (Zip w.heap.size bp n) (Tp.cmd l e n i))
 | 0, i, w, h1, h2, _ => by omega
 | n + 1, i, w, h1, h2, h => ZkI l ta c bp e (Tp.cmd l e n) i (fun i x j h => Zdh n h) (fun i' W h3 h4 hJ => Zg0 n i' W h4 (by omega) hJ) w h
end
end Go.Proofs.YtfccpddehpgfoaaGreatDoor
