/- By the verifier. -/
import Derived.Test.YtfccpddehpgfoaaGreatDoorXM
import Derived.Test.YtfccpddehpgfoaaGreatDoorXK
set_option maxRecDepth 100000
set_option maxHeartbeats 3200000
namespace Go.Proofs.YtfccpddehpgfoaaGreatDoor
open Go.RowKit
set_option linter.unusedVariables false
section
variable (l : List Tp.T) (ta : Option Addr) (c bp : Nat) (e : Int)
theorem ZkG (fb pb b : Nat) (W0 : World) (v : Value) (es acc : List ByteArray) (i : Nat) (w : World) (hacc : es.length ≤ 10002) (h : Tp.Ls l ta c bp e fb pb pb (.pointer (some ⟨bp, 0, none⟩)) 2 9 1 Zgl (fun _ => Zcv) b W0 v es acc i w) :
  Calls Tryz.prog 153 #[.pointer (some ⟨fb, 0, none⟩), .pointer (some ⟨pb, 0, none⟩)] w (ZgP l ta c bp e fb pb pb (.pointer (some ⟨bp, 0, none⟩)) 2 9 1 Zgl (fun _ => Zcv) b W0 es acc (Tp.name l i)) := by
 obtain ⟨o, ho⟩ : ∃ o, Tp.name l i = o := ⟨_, rfl⟩
 rw [ho]
 have HEQ := Hd ho
 clear ho
 obtain ⟨ga, cap, rfl, hcap⟩ := h.row.form
 obtain ⟨t0, hi0, hz0, hz1', hz2⟩ := Tp.info_of Zf1
 have HI := Hd hi0
 have HZ0 := Hd hz0
 have HZ1 := Hd hz1'
 have HZ2 := Hd hz2
 have hbox := h.box
 have hpar := h.par
 have hlt := h.at_.lt
 have HLS := Hd h
 obtain ⟨p1, p2, p3, p4, p5⟩ := h.pos
 have hz := h.tu.size
 have hS0 : w.drew.cell? ⟨fb, 2, none⟩ = some (.slice ga es.length cap) ∧ w.drew.cell? ⟨pb, 0, none⟩ = some (.pointer (some ⟨bp, 0, none⟩)) := ⟨by go_simp, by go_simp⟩
 have HS0 := Hd hS0
 have HN := Hd (ZcJ l ta c bp e i b w.drew (h.at_.below Zr.drew))
 clear h hi0 hz0 hz1' hz2 hS0
 go_enter Tryz.func153, Tryz.ntmps153
 go_wp2_with fail
 refine ZbA (fun j => Nat.beq j 7) (fun V => V.cell? ⟨fb, 2, none⟩ = some (.slice ga es.length cap) ∧ V.cell? ⟨pb, 0, none⟩ = some (.pointer (some ⟨bp, 0, none⟩))) (by kernel_rfl) (uh HS0) (fun hHeld hcl => ?_)
 refine Rq.tk 0 (.pointer (some ⟨fb, 2, none⟩)) Rq.z (by kernel_rfl) (by kernel_rfl) (by kernel_rfl) (by kernel_rfl) (fun _ _ _ h => h) (by assumption) (by assumption) (by rfl) (fun w hSw => by (try dsimp only at hSw); go_simp) (fun hcl => ?_)
 (try simp only [Act.put, Zt, Zz, Zs])
 refine Rq.tk 1 (.slice ga es.length cap) (Rq.s Rq.z) (by kernel_rfl) (by kernel_rfl) (by kernel_rfl) (by kernel_rfl) (fun _ _ _ h => h) (by assumption) (by assumption) (by rfl) (fun w hSw => by (try dsimp only at hSw); obtain ⟨hA, hB⟩ := hSw; go_simp) (fun hcl => ?_)
 (try simp only [Act.put, Zt, Zz, Zs])
 refine Rq.tk 2 (.pointer (some ⟨bp, 0, none⟩)) (Rq.s (Rq.s Rq.z)) (by kernel_rfl) (by kernel_rfl) (by kernel_rfl) (by kernel_rfl) (fun _ _ _ h => h) (by assumption) (by assumption) (by rfl) (fun w hSw => by (try dsimp only at hSw); obtain ⟨hA, hB⟩ := hSw; go_simp) (fun hcl => ?_)
 (try simp only [Act.put, Zt, Zz, Zs])
 refine Rq.on 3 (Rq.s (Rq.s (Rq.s Rq.z))) (by kernel_rfl) (by assumption) (fun K hK => ?_)
 go_simp
 go_at_call 151
 refine (uh HN).mono ?_
 intro r w1 h1
 cases hn : Tp.name l i with
 | error j =>
  rw [hn] at h1
  obtain ⟨rfl, ht⟩ := h1
  obtain rfl : o = .error j := by rw [← uh HEQ, hn]
  have HT := Hd ((uh HLS).tu.then ((Tp.Tu.of_below (n := w.heap.size) (Below.refl _ w).drew).trans ht) hz (fun _ _ h => Or.inl h))
  clear ht hK
  go_simp
  exact ⟨rfl, rfl, uh HT⟩
 | ok p =>
  obtain ⟨x, j⟩ := p
  rw [hn] at h1
  obtain ⟨⟨rfl, hx⟩, hj, ht⟩ := h1
  obtain rfl : o = .ok (x, j) := by rw [← uh HEQ, hn]
  have hbN := (Below.refl w1.heap.size w1).alloc Zl (Obj.cells #[.string x] 9)
  have hL1 := (uh HLS).step hj ((Tp.Tu.of_below (n := w.heap.size) (Below.refl _ w).drew).trans ht)
  have hL2 := hL1.step (hj.below hbN) (Tp.Tu.of_below hbN)
  have HL1 := Hd hL1
  have HL2 := Hd hL2
  have HBK := Hd (heap_alloc_new w1 (Obj.cells #[.string x] 9))
  have HXL := Hd hx
  have hs2 : W0.heap.size ≤ (w1.alloc (Obj.cells #[.string x] 9)).heap.size := hL2.tu.size
  clear hj ht hbN hL1 hL2 hx hHeld hcl
  go_simp
  refine hK _ _ (fun _ => ⟨(uh HL1).box, (uh HL1).par⟩) (fun hcl => ?_)
  (try simp only [Act.put, Zt, Zz, Zs])
  clear hK K
  have hHeld : w1.cell? ⟨fb, 2, none⟩ = some (.slice ga es.length cap) ∧ w1.cell? ⟨pb, 0, none⟩ = some (.pointer (some ⟨bp, 0, none⟩)) := ⟨(uh HL1).box, (uh HL1).par⟩
  refine Rq.on 4 (Rq.s (Rq.s (Rq.s (Rq.s Rq.z)))) (by kernel_rfl) (by assumption) (fun K hK => ?_)
  go_simp
  refine hK _ _ (fun _ => ⟨(uh HL2).box, (uh HL2).par⟩) (fun hcl => ?_)
  (try simp only [Act.put, Zt, Zz, Zs])
  clear hK K hHeld
  refine Rq.on 5 (Rq.s (Rq.s (Rq.s (Rq.s (Rq.s Rq.z))))) (by kernel_rfl) (by assumption) (fun K hK => ?_)
  refine step_append_lies _ rfl (.tmp 3) (.tmp 6) 47 rfl W0.heap.size 9 t0 _ 1 16 Tryz.underlying47 (uh HI) (uh HZ0) (uh HZ1) (uh HZ2) rfl (by omega) (.slice ga es.length cap) es.length (es.flatMap Zgl) rfl (uh HL2).row.row _ 1 1 [.string x] rfl rfl (World.news_of_block (uh HBK)) (by simp [Value.oneCell']) (by omega) (by unfold maxLen; omega) (by omega) hs2 _ rfl ?_
  intro gA cA w6 hoA hgA hatA hltA
  have hA := (uh HL2).app (x := x) (E := x) (fun _ _ _ => ⟨rfl, uh HXL⟩) hgA hoA (hatA.imp id (fun e => by rw [e]; exact Nat.le_refl _))
  have hrow := (uh HL2).row.row
  have hlow : ∀ q, q < W0.heap.size → w6.heap[q]? = (w1.alloc (Obj.cells #[.string x] 9)).heap[q]? := fun q hq => hgA.block q (by omega) (fun e => by have := (hrow.lt q e.symm).1; omega)
  have z4 : w6.cell? ⟨fb, 2, none⟩ = some (.slice ga es.length cap) := (Zc (a := ⟨fb, 2, none⟩) (hlow fb p2)).trans (uh HL2).box
  have z5 : w6.frozen? ⟨fb, 2, none⟩ = false := (Zf (a := ⟨fb, 2, none⟩) (hlow fb p2)).trans ((uh HL2).fz 2)
  have z6 : w6.cell? ⟨pb, 0, none⟩ = some (.pointer (some ⟨bp, 0, none⟩)) := (Zc (a := ⟨pb, 0, none⟩) (hlow pb p4)).trans (uh HL2).par
  have HA := Hd hA
  clear hA hatA hltA hoA hgA hlow hrow
  refine hK _ _ (fun _ => ⟨z4, z6⟩) (fun hcl => ?_)
  (try simp only [Act.put, Zt, Zz, Zs])
  clear hK K
  have hHeld : w6.cell? ⟨fb, 2, none⟩ = some (.slice ga es.length cap) ∧ w6.cell? ⟨pb, 0, none⟩ = some (.pointer (some ⟨bp, 0, none⟩)) := ⟨z4, z6⟩
  refine Rq.on 6 (Rq.s (Rq.s (Rq.s (Rq.s (Rq.s (Rq.s Rq.z)))))) (by kernel_rfl) (by assumption) (fun K hK => ?_)
  go_simp
  refine hK _ _ (fun _ => hHeld) (fun hcl => ?_)
  (try simp only [Act.put, Zt, Zz, Zs])
  clear hK K
  refine Rq.on 7 (Rq.s (Rq.s (Rq.s (Rq.s (Rq.s (Rq.s (Rq.s Rq.z))))))) (by kernel_rfl) (by assumption) (fun K hK => ?_)
  go_simp
  refine hK _ _ (fun e => absurd e (by decide)) (fun hcl => ?_)
  (try simp only [Act.put, Zt, Zz, Zs])
  refine Rq.done (by kernel_rfl) ?_ _
  go_end0
  exact ⟨rfl, _, _, uh HA⟩
end
def Tk.F.new (a : Int) : Tk.F := ⟨a, ⟨#[]⟩, ⟨none, 0, 0⟩, ⟨none, 0, 0⟩, ⟨none, 0, 0⟩, Tk.E.zero⟩
theorem Zc6 : (Tryz.prog.info? 54).map (·.size) = some 10 := by kernel_rfl
def Tp.gF (B bp n : Nat) (x : Tk.FT 61 n) (r : Ending) (W : World) : Prop := ∃ F : Tk.F, r = .returned (.agg F.cells) ∧ Tp.Ow B bp W (fun W => Tk.RF W 61 n F x)
theorem Tp.Cb.old {l : List Tp.T} {ta : Option Addr} {c bp : Nat} {e : Int} {w0 W : World} {cb : Nat} {P : World → Prop} {cs : Array Value} {i b : Nat} (h : Tp.Cb l ta c bp e w0 cb P cs i b W) (q : Nat) (h0 : q < w0.heap.size) (h1 : q ≠ bp) (h2 : q ≠ cb) : W.heap[q]? = w0.heap[q]? :=
 h.tu.block q h0 (fun hd => by rcases hd with hd | hd; exact h1 hd; exact h2 hd)
section
variable (l : List Tp.T) (ta : Option Addr) (c bp : Nat) (e : Int)
theorem Zlm (n : Nat) (hn : l.length ≤ n) (i : Nat) (w : World) (h : Tp.J l ta c bp e w i 0) :
  Calls Tryz.prog 110 #[.pointer (some ⟨bp, 0, none⟩)] w (Tp.Out l ta c bp e (ZaA bp) w 0 (Tp.gF w.heap.size bp n) (Tp.main l e n i)) := by
 obtain ⟨o, ho⟩ : ∃ o, Tp.main l e n i = o := ⟨_, rfl⟩
 rw [ho]
 have hlt := h.lt
 have HEQ := Hd ho
 have HRC := Hd (fun (i' : Nat) (W : World) (h1 : i' < l.length) (hJ : Tp.J l ta c bp e W i' 0) => Zg0 l ta c bp e n i' W h1 (by omega) hJ)
 have hbA : Below w.heap.size w (w.alloc (Obj.cells #[.int .i64 0, .string ⟨#[]⟩, .slice none 0 0, .slice none 0 0, .slice none 0 0, .int .i64 0, .int .i64 0, .int .i64 0, .string ⟨#[]⟩, .slice none 0 0] 54)) := Zr.alloc Zl _
 have HA := Hd (ZfY l ta c bp e i 0 _ (h.below hbA))
 have HJ := Hd (h.below hbA)
 have HB := Hd hbA
 have hsa : (w.alloc (Obj.cells #[.int .i64 0, .string ⟨#[]⟩, .slice none 0 0, .slice none 0 0, .slice none 0 0, .int .i64 0, .int .i64 0, .int .i64 0, .string ⟨#[]⟩, .slice none 0 0] 54)).heap.size = w.heap.size + 1 := by simp
 have HRX := Hd (show ∀ j v, (Tk.F.new 0).cells[j]? = some v → (w.alloc (Obj.cells #[.int .i64 0, .string ⟨#[]⟩, .slice none 0 0, .slice none 0 0, .slice none 0 0, .int .i64 0, .int .i64 0, .int .i64 0, .string ⟨#[]⟩, .slice none 0 0] 54)).cell? ⟨w.heap.size, j, none⟩ = some v from fun j v hj => by go_simp; simpa [Tk.F.new, Tk.F.cells, Tk.E.zero] using hj)
 have HRF := Hd (show ∀ j, (w.alloc (Obj.cells #[.int .i64 0, .string ⟨#[]⟩, .slice none 0 0, .slice none 0 0, .slice none 0 0, .int .i64 0, .int .i64 0, .int .i64 0, .string ⟨#[]⟩, .slice none 0 0] 54)).frozen? ⟨w.heap.size, j, none⟩ = false from fun j => by go_simp)
 clear h ho hbA
 go_enter Tryz.func110, Tryz.ntmps110
 go_wp2_with fail
 generalize (w.alloc (Obj.cells #[.int .i64 0, .string ⟨#[]⟩, .slice none 0 0, .slice none 0 0, .slice none 0 0, .int .i64 0, .int .i64 0, .int .i64 0, .string ⟨#[]⟩, .slice none 0 0] 54)) = wa at *
 refine (uh HA).mono ?_
 rintro r w1 ⟨rfl, hb1⟩
 obtain ⟨a, ha⟩ : ∃ a, Zaz l e i = a := ⟨_, rfl⟩
 rw [ha]
 have HPL := Hd ha
 have hs1 := hb1.size
 have hbN := (Below.refl w1.heap.size w1).alloc Zl (Obj.cells #[.int .i64 a, .string ⟨#[]⟩, .slice none 0 0, .slice none 0 0, .slice none 0 0, .int .i64 0, .int .i64 0, .int .i64 0, .string ⟨#[]⟩, .slice none 0 0] 54)
 have hs2 : (w1.alloc (Obj.cells #[.int .i64 a, .string ⟨#[]⟩, .slice none 0 0, .slice none 0 0, .slice none 0 0, .int .i64 0, .int .i64 0, .int .i64 0, .string ⟨#[]⟩, .slice none 0 0] 54)).heap.size = w1.heap.size + 1 := by simp
 have HC := Hd (show Tp.Cb l ta c bp e (w1.alloc (Obj.cells #[.int .i64 a, .string ⟨#[]⟩, .slice none 0 0, .slice none 0 0, .slice none 0 0, .int .i64 0, .int .i64 0, .int .i64 0, .string ⟨#[]⟩, .slice none 0 0] 54)) w1.heap.size (fun _ => True) (Tk.F.new a).cells i 0 (w1.alloc (Obj.cells #[.int .i64 a, .string ⟨#[]⟩, .slice none 0 0, .slice none 0 0, .slice none 0 0, .int .i64 0, .int .i64 0, .int .i64 0, .string ⟨#[]⟩, .slice none 0 0] 54)) from
  ⟨((uh HJ).below hb1).below hbN, Tp.Tu.refl _ _ _, fun j v hj => by go_simp; simpa [Tk.F.new, Tk.F.cells, Tk.E.zero] using hj, fun j => by go_simp, fun _ _ _ => trivial, ⟨by omega, by omega⟩⟩)
 have hbR : ∀ q, q < w.heap.size + 1 → (w1.alloc (Obj.cells #[.int .i64 a, .string ⟨#[]⟩, .slice none 0 0, .slice none 0 0, .slice none 0 0, .int .i64 0, .int .i64 0, .int .i64 0, .string ⟨#[]⟩, .slice none 0 0] 54)).heap[q]? = wa.heap[q]? := fun q hq => (hbN.block _ (by omega)).trans (hb1.block _ (by omega))
 have HX := Hd (show (∀ j v, (Tk.F.new 0).cells[j]? = some v → (w1.alloc (Obj.cells #[.int .i64 a, .string ⟨#[]⟩, .slice none 0 0, .slice none 0 0, .slice none 0 0, .int .i64 0, .int .i64 0, .int .i64 0, .string ⟨#[]⟩, .slice none 0 0] 54)).cell? ⟨w.heap.size, j, none⟩ = some v) ∧ ∀ j, (w1.alloc (Obj.cells #[.int .i64 a, .string ⟨#[]⟩, .slice none 0 0, .slice none 0 0, .slice none 0 0, .int .i64 0, .int .i64 0, .int .i64 0, .string ⟨#[]⟩, .slice none 0 0] 54)).frozen? ⟨w.heap.size, j, none⟩ = false from
  ⟨fun j v hj => (Zc (a := ⟨w.heap.size, j, none⟩) (hbR w.heap.size (by omega))).trans ((uh HRX) j v hj), fun j => (Zf (a := ⟨w.heap.size, j, none⟩) (hbR w.heap.size (by omega))).trans ((uh HRF) j)⟩)
 have HT0 := Hd (((uh HB).trans (hb1.mono (by omega))).trans (hbN.mono (by omega)))
 clear hb1 hbN hbR HA HJ HB HRX HRF ha
 go_wp2_with fail
 generalize hw2 : (w1.alloc (Obj.cells #[.int .i64 a, .string ⟨#[]⟩, .slice none 0 0, .slice none 0 0, .slice none 0 0, .int .i64 0, .int .i64 0, .int .i64 0, .string ⟨#[]⟩, .slice none 0 0] 54)) = w2 at *
 clear hw2
 generalize w1.heap.size = cb at *
 refine (ZaX l ta c bp e ⟨#[109, 97, 105, 110]⟩ (by decide) i 0 w2 (uh HC).at_).mono ?_
 intro r u1 h1
 cases hn : Zak l ⟨#[109, 97, 105, 110]⟩ i with
 | error j =>
  rw [hn] at h1
  obtain ⟨rfl, ht⟩ := h1
  obtain rfl : o = .error j := by rw [← uh HEQ]; simp only [Tp.main, hn]
  have HT := Hd ((Tp.Tu.of_below (uh HT0)).trans (((uh HC).tu.then ht (uh HC).lt.2.2 (fun _ _ h => Or.inl h)).mono (by omega) (fun q hq h => by rcases h with h | h; exact h; omega)))
  clear ht
  go_wp2_with fail
  exact ⟨rfl, rfl, uh HT⟩
 | ok i1 =>
  rw [hn] at h1
  obtain ⟨rfl, hj, ht⟩ := h1
  have HN1 := Hd hn
  replace HC := Hd ((uh HC).step hj ht)
  clear hj ht hn
  go_wp2_with fail
  refine (ZaX l ta c bp e ⟨#[123]⟩ (by decide) i1 0 u1 (uh HC).at_).mono ?_
  intro r u2 h1
  cases hn : Zak l ⟨#[123]⟩ i1 with
  | error j =>
   rw [hn] at h1
   obtain ⟨rfl, ht⟩ := h1
   obtain rfl : o = .error j := by rw [← uh HEQ]; simp only [Tp.main, Tp.body, uh HN1, hn]
   have HT := Hd ((Tp.Tu.of_below (uh HT0)).trans (((uh HC).tu.then ht (uh HC).lt.2.2 (fun _ _ h => Or.inl h)).mono (by omega) (fun q hq h => by rcases h with h | h; exact h; omega)))
   clear ht
   go_wp2_with fail
   exact ⟨rfl, rfl, uh HT⟩
  | ok i4 =>
   rw [hn] at h1
   obtain ⟨rfl, hj, ht⟩ := h1
   have HN2 := Hd hn
   replace HC := Hd ((uh HC).step hj ht)
   clear hj ht hn
   go_wp2_with fail
   refine (Ziq l ta c bp e i4 0 u2 (uh HC).at_).mono ?_
   intro r u3 h1
   cases hn : Tp.vars l (l.length + 1) i4 [] with
   | error j =>
    rw [hn] at h1
    obtain ⟨rfl, ht⟩ := h1
    obtain rfl : o = .error j := by rw [← uh HEQ]; simp only [Tp.main, Tp.body, uh HN1, uh HN2, hn]
    have HT := Hd ((Tp.Tu.of_below (uh HT0)).trans (((uh HC).tu.then ht (uh HC).lt.2.2 (fun _ _ h => Or.inl h)).mono (by omega) (fun q hq h => by rcases h with h | h; exact h; omega)))
    clear ht
    go_wp2_with fail
    exact ⟨rfl, rfl, uh HT⟩
   | ok p =>
    rw [hn] at h1
    obtain ⟨vs, i5⟩ := p
    obtain ⟨⟨sv, rfl, hro⟩, hj, ht⟩ := h1
    have HN3 := Hd hn
    replace HC := Hd (((uh HC).step hj ht).and hro (uh HC).lt.2.2)
    clear hro
    clear hj ht hn
    have hc0 := (uh HC).box 3 _ rfl
    have hz0 := (uh HC).fz
    have HC2 := Hd ((uh HC).set 3 (.slice sv.ad sv.len sv.cap) ⟨_, rfl⟩ (cs' := ((Tk.F.mk a ⟨#[]⟩ ⟨none, 0, 0⟩ sv ⟨none, 0, 0⟩ Tk.E.zero)).cells) rfl)
    go_wp2_with fail
    clear hc0 hz0 HC
    generalize (u3.setCell ⟨cb, 3, none⟩ (.slice sv.ad sv.len sv.cap)) = u3s at *
    have HC := HC2
    clear HC2
    refine (ZfF l ta c bp e (Tp.cmd l e n) i5 (fun i x j h => Zdh n h) (fun i' W _ h2 hJ => (uh HRC) i' W h2 hJ) u3s (uh HC).at_).mono ?_
    intro r u4 h1
    cases hn : ZaV l (Tp.cmd l e n) (l.length + 1) i5 [] with
    | error j =>
     rw [hn] at h1
     obtain ⟨rfl, ht⟩ := h1
     obtain rfl : o = .error j := by rw [← uh HEQ]; simp only [Tp.main, Tp.body, uh HN1, uh HN2, uh HN3, hn]
     have HT := Hd ((Tp.Tu.of_below (uh HT0)).trans (((uh HC).tu.then ht (uh HC).lt.2.2 (fun _ _ h => Or.inl h)).mono (by omega) (fun q hq h => by rcases h with h | h; exact h; omega)))
     clear ht
     go_wp2_with fail
     exact ⟨rfl, rfl, uh HT⟩
    | ok p =>
     rw [hn] at h1
     obtain ⟨cs, i6⟩ := p
     obtain ⟨⟨sc, rfl, hro⟩, hj, ht⟩ := h1
     have HN4 := Hd hn
     replace HC := Hd (((uh HC).step hj ht).and hro (uh HC).lt.2.2)
     clear hro
     clear hj ht hn
     have hc0 := (uh HC).box 4 _ rfl
     have hz0 := (uh HC).fz
     have HC2 := Hd ((uh HC).set 4 (.slice sc.ad sc.len sc.cap) ⟨_, rfl⟩ (cs' := ((Tk.F.mk a ⟨#[]⟩ ⟨none, 0, 0⟩ sv sc Tk.E.zero)).cells) rfl)
     go_wp2_with fail
     clear hc0 hz0 HC
     generalize (u4.setCell ⟨cb, 4, none⟩ (.slice sc.ad sc.len sc.cap)) = u4s at *
     have HC := HC2
     clear HC2
     refine (ZaX l ta c bp e ⟨#[125]⟩ (by decide) i6 0 u4s (uh HC).at_).mono ?_
     intro r u5 h1
     cases hn : Zak l ⟨#[125]⟩ i6 with
     | error j =>
      rw [hn] at h1
      obtain ⟨rfl, ht⟩ := h1
      obtain rfl : o = .error j := by rw [← uh HEQ]; simp only [Tp.main, Tp.body, uh HN1, uh HN2, uh HN3, uh HN4, hn]
      have HT := Hd ((Tp.Tu.of_below (uh HT0)).trans (((uh HC).tu.then ht (uh HC).lt.2.2 (fun _ _ h => Or.inl h)).mono (by omega) (fun q hq h => by rcases h with h | h; exact h; omega)))
      clear ht
      go_wp2_with fail
      exact ⟨rfl, rfl, uh HT⟩
     | ok i10 =>
      rw [hn] at h1
      obtain ⟨rfl, hj, ht⟩ := h1
      have HN5 := Hd hn
      replace HC := Hd ((uh HC).step hj ht)
      clear hj ht hn
      obtain rfl : o = .ok (⟨a, ⟨#[]⟩, [], vs, cs, ZaO⟩, i10) := by rw [← uh HEQ]; simp only [Tp.main, Tp.body, uh HN1, uh HN2, uh HN3, uh HN4, uh HN5, uh HPL]
      obtain ⟨K, hK⟩ : ∃ K, K = (Tk.F.mk a ⟨#[]⟩ ⟨none, 0, 0⟩ sv sc Tk.E.zero) := ⟨_, rfl⟩
      have hRF := (uh HC).own.imp (Q := fun V => Tk.RF V 61 n K ⟨a, ⟨#[]⟩, [], vs, cs, ZaO⟩) (fun V h => by rw [hK]; exact ⟨rfl, rfl, (show (⟨#[]⟩ : ByteArray).size ≤ maxLen by decide), Zav _ _ _ _, h.1.2, h.2, ZaK V⟩)
      rw [← hK] at HC
      have hlc := (uh HC).lt
      have hRb : u5.heap[w.heap.size]? = w2.heap[w.heap.size]? := (uh HC).old _ (by omega) (by omega) (by omega)
      have hRx : ∀ j v, (Tk.F.new 0).cells[j]? = some v → u5.cell? ⟨w.heap.size, j, none⟩ = some v := fun j v hj => (Zc (a := ⟨w.heap.size, j, none⟩) hRb).trans ((uh HX).1 j v hj)
      have hRf : ∀ j, u5.frozen? ⟨w.heap.size, j, none⟩ = false := fun j => (Zf (a := ⟨w.heap.size, j, none⟩) hRb).trans ((uh HX).2 j)
      have hRe : ∀ j, j < K.cells.size → ∃ u, u5.cell? ⟨w.heap.size, j, none⟩ = some u := fun j hj => ⟨_, hRx j _ (Array.getElem?_eq_getElem (show j < (Tk.F.new 0).cells.size from hj))⟩
      obtain ⟨hp, _, hsS, hkS, htS⟩ := ZcD w.heap.size K.cells.toList 0 u5 (fun j _ hj => hRe j (by simpa using hj))
      have hT := ((Tp.Tu.of_below (uh HT0)).trans ((uh HC).tu.mono (by omega) (D' := ZaA bp) (fun q hq h => by rcases h with h | h; exact h; omega))).trans (htS _ _ (by omega))
      have hone : ∀ v ∈ K.cells.toList, v.oneCell' = true := fun v hv => by simp [Tk.F.cells] at hv; rcases hv with h | h | h | h | h | h | h | h | h | h <;> subst h <;> rfl
      go_upto_region 7 with fail
      refine Zdm (cs := K.cells) (cb := cb) (Rb := w.heap.size) (t := 19) (p := 3) (r := 2) rfl rfl rfl rfl rfl rfl rfl rfl (by simp) (by decide) (uh HC).box hRe hRf hone Tryz.underlying54 rfl Zc6 ?_
      go_wp2_with fail
      refine bodyPost_ret (ZcY (cs := K.cells) (r := 2) rfl rfl hRe Tryz.underlying54 rfl Zc6) rfl ?_
      exact ⟨⟨K, rfl, (hRF.go (by omega) (fun q h1 _ _ => hkS q (by omega))).wide (B' := w.heap.size) (g' := bp) (by omega) (by omega) (Or.inl (by omega))⟩, (uh HC).at_.kept (by omega) (fun q hq => hkS q (by omega)), hT⟩
theorem Zhr (n : Nat) (hn : l.length ≤ n) (i : Nat) (w : World) (h : Tp.J l ta c bp e w i 0) :
  Calls Tryz.prog 109 #[.pointer (some ⟨bp, 0, none⟩)] w (Tp.Out l ta c bp e (ZaA bp) w 0 (Tp.gF w.heap.size bp n) (Tp.func l e n i)) := by
 obtain ⟨o, ho⟩ : ∃ o, Tp.func l e n i = o := ⟨_, rfl⟩
 rw [ho]
 have hlt := h.lt
 have HEQ := Hd ho
 have HRC := Hd (fun (i' : Nat) (W : World) (h1 : i' < l.length) (hJ : Tp.J l ta c bp e W i' 0) => Zg0 l ta c bp e n i' W h1 (by omega) hJ)
 have hbA : Below w.heap.size w ((w.alloc (Obj.cells #[.pointer (some ⟨bp, 0, none⟩)] 159)).alloc (Obj.cells #[.int .i64 0, .string ⟨#[]⟩, .slice none 0 0, .slice none 0 0, .slice none 0 0, .int .i64 0, .int .i64 0, .int .i64 0, .string ⟨#[]⟩, .slice none 0 0] 54)) := (Zr.alloc Zl _).alloc (by simp) _
 have HA := Hd (ZfY l ta c bp e i 0 _ (h.below hbA))
 have HJ := Hd (h.below hbA)
 have HB := Hd hbA
 have hsa : ((w.alloc (Obj.cells #[.pointer (some ⟨bp, 0, none⟩)] 159)).alloc (Obj.cells #[.int .i64 0, .string ⟨#[]⟩, .slice none 0 0, .slice none 0 0, .slice none 0 0, .int .i64 0, .int .i64 0, .int .i64 0, .string ⟨#[]⟩, .slice none 0 0] 54)).heap.size = w.heap.size + 2 := by simp
 have HRX := Hd (show ∀ j v, (Tk.F.new 0).cells[j]? = some v → ((w.alloc (Obj.cells #[.pointer (some ⟨bp, 0, none⟩)] 159)).alloc (Obj.cells #[.int .i64 0, .string ⟨#[]⟩, .slice none 0 0, .slice none 0 0, .slice none 0 0, .int .i64 0, .int .i64 0, .int .i64 0, .string ⟨#[]⟩, .slice none 0 0] 54)).cell? ⟨(w.heap.size + 1), j, none⟩ = some v from fun j v hj => by go_simp; simpa [Tk.F.new, Tk.F.cells, Tk.E.zero] using hj)
 have HRF := Hd (show ∀ j, ((w.alloc (Obj.cells #[.pointer (some ⟨bp, 0, none⟩)] 159)).alloc (Obj.cells #[.int .i64 0, .string ⟨#[]⟩, .slice none 0 0, .slice none 0 0, .slice none 0 0, .int .i64 0, .int .i64 0, .int .i64 0, .string ⟨#[]⟩, .slice none 0 0] 54)).frozen? ⟨(w.heap.size + 1), j, none⟩ = false from fun j => by go_simp)
 have hpb0 : ((w.alloc (Obj.cells #[.pointer (some ⟨bp, 0, none⟩)] 159)).alloc (Obj.cells #[.int .i64 0, .string ⟨#[]⟩, .slice none 0 0, .slice none 0 0, .slice none 0 0, .int .i64 0, .int .i64 0, .int .i64 0, .string ⟨#[]⟩, .slice none 0 0] 54)).cell? ⟨w.heap.size, 0, none⟩ = some (.pointer (some ⟨bp, 0, none⟩)) := by go_simp
 have HPB0 := Hd hpb0
 clear h ho hbA hpb0
 go_enter Tryz.func109, Tryz.ntmps109
 go_wp2_with fail
 generalize ((w.alloc (Obj.cells #[.pointer (some ⟨bp, 0, none⟩)] 159)).alloc (Obj.cells #[.int .i64 0, .string ⟨#[]⟩, .slice none 0 0, .slice none 0 0, .slice none 0 0, .int .i64 0, .int .i64 0, .int .i64 0, .string ⟨#[]⟩, .slice none 0 0] 54)) = wa at *
 refine (uh HA).mono ?_
 rintro r w1 ⟨rfl, hb1⟩
 obtain ⟨a, ha⟩ : ∃ a, Zaz l e i = a := ⟨_, rfl⟩
 rw [ha]
 have HPL := Hd ha
 have hs1 := hb1.size
 have hbN := (Below.refl w1.heap.size w1).alloc Zl (Obj.cells #[.int .i64 a, .string ⟨#[]⟩, .slice none 0 0, .slice none 0 0, .slice none 0 0, .int .i64 0, .int .i64 0, .int .i64 0, .string ⟨#[]⟩, .slice none 0 0] 54)
 have hs2 : (w1.alloc (Obj.cells #[.int .i64 a, .string ⟨#[]⟩, .slice none 0 0, .slice none 0 0, .slice none 0 0, .int .i64 0, .int .i64 0, .int .i64 0, .string ⟨#[]⟩, .slice none 0 0] 54)).heap.size = w1.heap.size + 1 := by simp
 have HC := Hd (show Tp.Cb l ta c bp e (w1.alloc (Obj.cells #[.int .i64 a, .string ⟨#[]⟩, .slice none 0 0, .slice none 0 0, .slice none 0 0, .int .i64 0, .int .i64 0, .int .i64 0, .string ⟨#[]⟩, .slice none 0 0] 54)) w1.heap.size (fun _ => True) (Tk.F.new a).cells i 0 (w1.alloc (Obj.cells #[.int .i64 a, .string ⟨#[]⟩, .slice none 0 0, .slice none 0 0, .slice none 0 0, .int .i64 0, .int .i64 0, .int .i64 0, .string ⟨#[]⟩, .slice none 0 0] 54)) from
  ⟨((uh HJ).below hb1).below hbN, Tp.Tu.refl _ _ _, fun j v hj => by go_simp; simpa [Tk.F.new, Tk.F.cells, Tk.E.zero] using hj, fun j => by go_simp, fun _ _ _ => trivial, ⟨by omega, by omega⟩⟩)
 have hbR : ∀ q, q < w.heap.size + 2 → (w1.alloc (Obj.cells #[.int .i64 a, .string ⟨#[]⟩, .slice none 0 0, .slice none 0 0, .slice none 0 0, .int .i64 0, .int .i64 0, .int .i64 0, .string ⟨#[]⟩, .slice none 0 0] 54)).heap[q]? = wa.heap[q]? := fun q hq => (hbN.block _ (by omega)).trans (hb1.block _ (by omega))
 have HX := Hd (show (∀ j v, (Tk.F.new 0).cells[j]? = some v → (w1.alloc (Obj.cells #[.int .i64 a, .string ⟨#[]⟩, .slice none 0 0, .slice none 0 0, .slice none 0 0, .int .i64 0, .int .i64 0, .int .i64 0, .string ⟨#[]⟩, .slice none 0 0] 54)).cell? ⟨(w.heap.size + 1), j, none⟩ = some v) ∧ ∀ j, (w1.alloc (Obj.cells #[.int .i64 a, .string ⟨#[]⟩, .slice none 0 0, .slice none 0 0, .slice none 0 0, .int .i64 0, .int .i64 0, .int .i64 0, .string ⟨#[]⟩, .slice none 0 0] 54)).frozen? ⟨(w.heap.size + 1), j, none⟩ = false from
  ⟨fun j v hj => (Zc (a := ⟨(w.heap.size + 1), j, none⟩) (hbR (w.heap.size + 1) (by omega))).trans ((uh HRX) j v hj), fun j => (Zf (a := ⟨(w.heap.size + 1), j, none⟩) (hbR (w.heap.size + 1) (by omega))).trans ((uh HRF) j)⟩)
 have HT0 := Hd (((uh HB).trans (hb1.mono (by omega))).trans (hbN.mono (by omega)))
 have HPB := Hd ((Zc (a := ⟨w.heap.size, 0, none⟩) (hbR w.heap.size (by omega))).trans (uh HPB0))
 have hb0 := uh HPB
 clear hb1 hbN hbR HA HJ HB HRX HRF ha HPB0
 go_wp2_with fail
 generalize hw2 : (w1.alloc (Obj.cells #[.int .i64 a, .string ⟨#[]⟩, .slice none 0 0, .slice none 0 0, .slice none 0 0, .int .i64 0, .int .i64 0, .int .i64 0, .string ⟨#[]⟩, .slice none 0 0] 54)) = w2 at *
 clear hw2
 generalize w1.heap.size = cb at *
 refine (ZaX l ta c bp e ⟨#[102, 117, 110, 99]⟩ (by decide) i 0 w2 (uh HC).at_).mono ?_
 intro r u1 h1
 cases hn : Zak l ⟨#[102, 117, 110, 99]⟩ i with
 | error j =>
  rw [hn] at h1
  obtain ⟨rfl, ht⟩ := h1
  obtain rfl : o = .error j := by rw [← uh HEQ]; simp only [Tp.func, hn]
  have HT := Hd ((Tp.Tu.of_below (uh HT0)).trans (((uh HC).tu.then ht (uh HC).lt.2.2 (fun _ _ h => Or.inl h)).mono (by omega) (fun q hq h => by rcases h with h | h; exact h; omega)))
  clear ht
  go_wp2_with fail
  exact ⟨rfl, rfl, uh HT⟩
 | ok i1 =>
  rw [hn] at h1
  obtain ⟨rfl, hj, ht⟩ := h1
  have HN1 := Hd hn
  replace HC := Hd ((uh HC).step hj ht)
  clear hj ht hn hb0
  have hb0 := (Zc (a := ⟨w.heap.size, 0, none⟩) ((uh HC).old w.heap.size (by omega) (by omega) (by omega))).trans (uh HPB)
  go_wp2_with fail
  refine (ZcJ l ta c bp e i1 0 u1 (uh HC).at_).mono ?_
  intro r u2 h1
  cases hn : Tp.name l i1 with
  | error j =>
   rw [hn] at h1
   obtain ⟨rfl, ht⟩ := h1
   obtain rfl : o = .error j := by rw [← uh HEQ]; simp only [Tp.func, uh HN1, hn]
   have HT := Hd ((Tp.Tu.of_below (uh HT0)).trans (((uh HC).tu.then ht (uh HC).lt.2.2 (fun _ _ h => Or.inl h)).mono (by omega) (fun q hq h => by rcases h with h | h; exact h; omega)))
   clear ht
   go_wp2_with fail
   exact ⟨rfl, rfl, uh HT⟩
  | ok p =>
   rw [hn] at h1
   obtain ⟨nm, i2⟩ := p
   obtain ⟨⟨rfl, hnm⟩, hj, ht⟩ := h1
   have HN2 := Hd hn
   have HNM := Hd hnm
   replace HC := Hd ((uh HC).step hj ht)
   clear hnm
   clear hj ht hn hb0
   have hb0 := (Zc (a := ⟨w.heap.size, 0, none⟩) ((uh HC).old w.heap.size (by omega) (by omega) (by omega))).trans (uh HPB)
   have hc0 := (uh HC).box 1 _ rfl
   have hz0 := (uh HC).fz
   have HC2 := Hd ((uh HC).set 1 (.string nm) ⟨_, rfl⟩ (cs' := ((Tk.F.mk a nm ⟨none, 0, 0⟩ ⟨none, 0, 0⟩ ⟨none, 0, 0⟩ Tk.E.zero)).cells) rfl)
   go_wp2_with fail
   clear hc0 hz0 HC hb0
   generalize (u2.setCell ⟨cb, 1, none⟩ (.string nm)) = u2s at *
   have HC := HC2
   clear HC2
   have hb0 := (Zc (a := ⟨w.heap.size, 0, none⟩) ((uh HC).old w.heap.size (by omega) (by omega) (by omega))).trans (uh HPB)
   have hlt2 := (uh HC).lt
   have hbc := (uh HC).box 2 _ rfl
   have hbl := World.block_lt_of_cell? u2s _ hb0
   have HL := Hd (Zj2 l ta c bp e cb w.heap.size w.heap.size (.pointer (some ⟨bp, 0, none⟩)) 2 9 1 Zgl (fun _ => Zcv) (Tp.name l) cb i2 u2s
    (fun i x j h => by have := Zb4 h; omega) (fun v es acc i W hl h => ZkG l ta c bp e cb w.heap.size 1 u2s v es acc i W hl h)
    ⟨(uh HC).at_, Tp.Tu.refl _ _ _, hbc, fun _ _ => rfl, (uh HC).fz, hb0, hb0, Tp.Rw.nil _ _ _ _ _ _ _, ⟨hlt2.1, by omega, by omega, hbl, by omega⟩, ⟨by omega, hbl, by omega⟩⟩)
   clear hbc hbl
   refine (uh HL).mono ?_
   intro r u3 h1
   cases hn : Tp.list l (Tp.name l) i2 with
   | error j =>
    rw [hn] at h1
    obtain ⟨rfl, ht⟩ := h1
    obtain rfl : o = .error j := by rw [← uh HEQ]; simp only [Tp.func, uh HN1, uh HN2, hn]
    have HT := Hd ((Tp.Tu.of_below (uh HT0)).trans (((uh HC).tu.trans (ht.mono (uh HC).lt.2.2 (fun _ _ h => h))).mono (by omega) (fun q hq h => by rcases h with h | h; exact h; omega)))
    clear ht
    go_wp2_with fail
    exact ⟨rfl, rfl, uh HT⟩
   | ok p =>
    rw [hn] at h1
    obtain ⟨xs, i3⟩ := p
    obtain ⟨rfl, v, es, hls⟩ := h1
    have HN3 := Hd hn
    obtain ⟨s, hC⟩ := (uh HC).list hls (lies := ZeF) (fun _ => rfl) (fun W g o E h => h 0 _ rfl) (by
     have h2 := Zf2 l _ hn
     have h3 := (uh HC).at_.fine.few
     omega)
    replace HC := Hd (show Tp.Cb l ta c bp e w2 cb (fun V => True ∧ Tk.RS V 1 (ZeF V) Zcv s xs) ((Tk.F.mk a nm s ⟨none, 0, 0⟩ ⟨none, 0, 0⟩ Tk.E.zero)).cells i3 0 u3 from hC)
    clear hls hC HL
    clear hn hb0
    have hb0 := (Zc (a := ⟨w.heap.size, 0, none⟩) ((uh HC).old w.heap.size (by omega) (by omega) (by omega))).trans (uh HPB)
    go_wp2_with fail
    refine (ZaX l ta c bp e ⟨#[123]⟩ (by decide) i3 0 u3 (uh HC).at_).mono ?_
    intro r u4 h1
    cases hn : Zak l ⟨#[123]⟩ i3 with
    | error j =>
     rw [hn] at h1
     obtain ⟨rfl, ht⟩ := h1
     obtain rfl : o = .error j := by rw [← uh HEQ]; simp only [Tp.func, Tp.body, uh HN1, uh HN2, uh HN3, hn]
     have HT := Hd ((Tp.Tu.of_below (uh HT0)).trans (((uh HC).tu.then ht (uh HC).lt.2.2 (fun _ _ h => Or.inl h)).mono (by omega) (fun q hq h => by rcases h with h | h; exact h; omega)))
     clear ht
     go_wp2_with fail
     exact ⟨rfl, rfl, uh HT⟩
    | ok i4 =>
     rw [hn] at h1
     obtain ⟨rfl, hj, ht⟩ := h1
     have HN4 := Hd hn
     replace HC := Hd ((uh HC).step hj ht)
     clear hj ht hn hb0
     have hb0 := (Zc (a := ⟨w.heap.size, 0, none⟩) ((uh HC).old w.heap.size (by omega) (by omega) (by omega))).trans (uh HPB)
     go_wp2_with fail
     refine (Ziq l ta c bp e i4 0 u4 (uh HC).at_).mono ?_
     intro r u5 h1
     cases hn : Tp.vars l (l.length + 1) i4 [] with
     | error j =>
      rw [hn] at h1
      obtain ⟨rfl, ht⟩ := h1
      obtain rfl : o = .error j := by rw [← uh HEQ]; simp only [Tp.func, Tp.body, uh HN1, uh HN2, uh HN3, uh HN4, hn]
      have HT := Hd ((Tp.Tu.of_below (uh HT0)).trans (((uh HC).tu.then ht (uh HC).lt.2.2 (fun _ _ h => Or.inl h)).mono (by omega) (fun q hq h => by rcases h with h | h; exact h; omega)))
      clear ht
      go_wp2_with fail
      exact ⟨rfl, rfl, uh HT⟩
     | ok p =>
      rw [hn] at h1
      obtain ⟨vs, i5⟩ := p
      obtain ⟨⟨sv, rfl, hro⟩, hj, ht⟩ := h1
      have HN5 := Hd hn
      replace HC := Hd (((uh HC).step hj ht).and hro (uh HC).lt.2.2)
      clear hro
      clear hj ht hn hb0
      have hb0 := (Zc (a := ⟨w.heap.size, 0, none⟩) ((uh HC).old w.heap.size (by omega) (by omega) (by omega))).trans (uh HPB)
      have hc0 := (uh HC).box 3 _ rfl
      have hz0 := (uh HC).fz
      have HC2 := Hd ((uh HC).set 3 (.slice sv.ad sv.len sv.cap) ⟨_, rfl⟩ (cs' := ((Tk.F.mk a nm s sv ⟨none, 0, 0⟩ Tk.E.zero)).cells) rfl)
      go_wp2_with fail
      clear hc0 hz0 HC hb0
      generalize (u5.setCell ⟨cb, 3, none⟩ (.slice sv.ad sv.len sv.cap)) = u5s at *
      have HC := HC2
      clear HC2
      have hb0 := (Zc (a := ⟨w.heap.size, 0, none⟩) ((uh HC).old w.heap.size (by omega) (by omega) (by omega))).trans (uh HPB)
      refine (ZfF l ta c bp e (Tp.cmd l e n) i5 (fun i x j h => Zdh n h) (fun i' W _ h2 hJ => (uh HRC) i' W h2 hJ) u5s (uh HC).at_).mono ?_
      intro r u6 h1
      cases hn : ZaV l (Tp.cmd l e n) (l.length + 1) i5 [] with
      | error j =>
       rw [hn] at h1
       obtain ⟨rfl, ht⟩ := h1
       obtain rfl : o = .error j := by rw [← uh HEQ]; simp only [Tp.func, Tp.body, uh HN1, uh HN2, uh HN3, uh HN4, uh HN5, hn]
       have HT := Hd ((Tp.Tu.of_below (uh HT0)).trans (((uh HC).tu.then ht (uh HC).lt.2.2 (fun _ _ h => Or.inl h)).mono (by omega) (fun q hq h => by rcases h with h | h; exact h; omega)))
       clear ht
       go_wp2_with fail
       exact ⟨rfl, rfl, uh HT⟩
      | ok p =>
       rw [hn] at h1
       obtain ⟨cs, i6⟩ := p
       obtain ⟨⟨sc, rfl, hro⟩, hj, ht⟩ := h1
       have HN6 := Hd hn
       replace HC := Hd (((uh HC).step hj ht).and hro (uh HC).lt.2.2)
       clear hro
       clear hj ht hn hb0
       have hb0 := (Zc (a := ⟨w.heap.size, 0, none⟩) ((uh HC).old w.heap.size (by omega) (by omega) (by omega))).trans (uh HPB)
       have hc0 := (uh HC).box 4 _ rfl
       have hz0 := (uh HC).fz
       have HC2 := Hd ((uh HC).set 4 (.slice sc.ad sc.len sc.cap) ⟨_, rfl⟩ (cs' := ((Tk.F.mk a nm s sv sc Tk.E.zero)).cells) rfl)
       go_wp2_with fail
       clear hc0 hz0 HC hb0
       generalize (u6.setCell ⟨cb, 4, none⟩ (.slice sc.ad sc.len sc.cap)) = u6s at *
       have HC := HC2
       clear HC2
       have hb0 := (Zc (a := ⟨w.heap.size, 0, none⟩) ((uh HC).old w.heap.size (by omega) (by omega) (by omega))).trans (uh HPB)
       refine (ZaX l ta c bp e ⟨#[114, 101, 116, 117, 114, 110]⟩ (by decide) i6 0 u6s (uh HC).at_).mono ?_
       intro r u7 h1
       cases hn : Zak l ⟨#[114, 101, 116, 117, 114, 110]⟩ i6 with
       | error j =>
        rw [hn] at h1
        obtain ⟨rfl, ht⟩ := h1
        obtain rfl : o = .error j := by rw [← uh HEQ]; simp only [Tp.func, Tp.body, uh HN1, uh HN2, uh HN3, uh HN4, uh HN5, uh HN6, hn]
        have HT := Hd ((Tp.Tu.of_below (uh HT0)).trans (((uh HC).tu.then ht (uh HC).lt.2.2 (fun _ _ h => Or.inl h)).mono (by omega) (fun q hq h => by rcases h with h | h; exact h; omega)))
        clear ht
        go_wp2_with fail
        exact ⟨rfl, rfl, uh HT⟩
       | ok i7 =>
        rw [hn] at h1
        obtain ⟨rfl, hj, ht⟩ := h1
        have HN7 := Hd hn
        replace HC := Hd ((uh HC).step hj ht)
        clear hj ht hn hb0
        have hb0 := (Zc (a := ⟨w.heap.size, 0, none⟩) ((uh HC).old w.heap.size (by omega) (by omega) (by omega))).trans (uh HPB)
        go_wp2_with fail
        refine (ZbN l ta c bp e 61 0 (by omega) (by omega) i7 u7 (uh HC).at_).mono ?_
        intro r u8 h1
        cases hn : Tp.expr l e 61 0 i7 with
        | error j =>
         rw [hn] at h1
         obtain ⟨rfl, ht⟩ := h1
         obtain rfl : o = .error j := by rw [← uh HEQ]; simp only [Tp.func, Tp.body, uh HN1, uh HN2, uh HN3, uh HN4, uh HN5, uh HN6, uh HN7, hn]
         have HT := Hd ((Tp.Tu.of_below (uh HT0)).trans (((uh HC).tu.then ht (uh HC).lt.2.2 (fun _ _ h => Or.inl h)).mono (by omega) (fun q hq h => by rcases h with h | h; exact h; omega)))
         clear ht
         go_wp2_with fail
         exact ⟨rfl, rfl, uh HT⟩
        | ok p =>
         rw [hn] at h1
         obtain ⟨x, i8⟩ := p
         obtain ⟨⟨E, rfl, hro⟩, hj, ht⟩ := h1
         have HN8 := Hd hn
         replace HC := Hd (((uh HC).step hj ht).and hro (uh HC).lt.2.2)
         clear hro
         clear hj ht hn hb0
         have hb0 := (Zc (a := ⟨w.heap.size, 0, none⟩) ((uh HC).old w.heap.size (by omega) (by omega) (by omega))).trans (uh HPB)
         have hc0 := (uh HC).box 5 _ rfl
         have hc1 := (uh HC).box 6 _ rfl
         have hc2 := (uh HC).box 7 _ rfl
         have hc3 := (uh HC).box 8 _ rfl
         have hc4 := (uh HC).box 9 _ rfl
         have hz0 := (uh HC).fz
         have HC2 := Hd ((uh HC).set5 5 E ⟨_, rfl⟩ ⟨_, rfl⟩ ⟨_, rfl⟩ ⟨_, rfl⟩ ⟨_, rfl⟩ (cs' := ((Tk.F.mk a nm s sv sc E)).cells) rfl)
         go_wp2_with fail
         clear hz0 hc0 hc1 hc2 hc3 hc4 HC hb0
         generalize (((((u8.setCell ⟨cb, 5, none⟩ (.int .i64 E.k)).setCell ⟨cb, 6, none⟩ (.int .i64 E.a)).setCell ⟨cb, 7, none⟩ (.int .i64 E.n)).setCell ⟨cb, 8, none⟩ (.string E.nm)).setCell ⟨cb, 9, none⟩ (.slice E.args.ad E.args.len E.args.cap)) = u8s at *
         have HC := HC2
         clear HC2
         have hb0 := (Zc (a := ⟨w.heap.size, 0, none⟩) ((uh HC).old w.heap.size (by omega) (by omega) (by omega))).trans (uh HPB)
         refine (ZaX l ta c bp e ⟨#[59]⟩ (by decide) i8 0 u8s (uh HC).at_).mono ?_
         intro r u9 h1
         cases hn : Zak l ⟨#[59]⟩ i8 with
         | error j =>
          rw [hn] at h1
          obtain ⟨rfl, ht⟩ := h1
          obtain rfl : o = .error j := by rw [← uh HEQ]; simp only [Tp.func, Tp.body, uh HN1, uh HN2, uh HN3, uh HN4, uh HN5, uh HN6, uh HN7, uh HN8, hn]
          have HT := Hd ((Tp.Tu.of_below (uh HT0)).trans (((uh HC).tu.then ht (uh HC).lt.2.2 (fun _ _ h => Or.inl h)).mono (by omega) (fun q hq h => by rcases h with h | h; exact h; omega)))
          clear ht
          go_wp2_with fail
          exact ⟨rfl, rfl, uh HT⟩
         | ok i9 =>
          rw [hn] at h1
          obtain ⟨rfl, hj, ht⟩ := h1
          have HN9 := Hd hn
          replace HC := Hd ((uh HC).step hj ht)
          clear hj ht hn hb0
          have hb0 := (Zc (a := ⟨w.heap.size, 0, none⟩) ((uh HC).old w.heap.size (by omega) (by omega) (by omega))).trans (uh HPB)
          go_wp2_with fail
          refine (ZaX l ta c bp e ⟨#[125]⟩ (by decide) i9 0 u9 (uh HC).at_).mono ?_
          intro r u10 h1
          cases hn : Zak l ⟨#[125]⟩ i9 with
          | error j =>
           rw [hn] at h1
           obtain ⟨rfl, ht⟩ := h1
           obtain rfl : o = .error j := by rw [← uh HEQ]; simp only [Tp.func, Tp.body, uh HN1, uh HN2, uh HN3, uh HN4, uh HN5, uh HN6, uh HN7, uh HN8, uh HN9, hn]
           have HT := Hd ((Tp.Tu.of_below (uh HT0)).trans (((uh HC).tu.then ht (uh HC).lt.2.2 (fun _ _ h => Or.inl h)).mono (by omega) (fun q hq h => by rcases h with h | h; exact h; omega)))
           clear ht
           go_wp2_with fail
           exact ⟨rfl, rfl, uh HT⟩
          | ok i10 =>
           rw [hn] at h1
           obtain ⟨rfl, hj, ht⟩ := h1
           have HN10 := Hd hn
           replace HC := Hd ((uh HC).step hj ht)
           clear hj ht hn hb0
           have hb0 := (Zc (a := ⟨w.heap.size, 0, none⟩) ((uh HC).old w.heap.size (by omega) (by omega) (by omega))).trans (uh HPB)
           obtain rfl : o = .ok (⟨a, nm, xs, vs, cs, x⟩, i10) := by rw [← uh HEQ]; simp only [Tp.func, Tp.body, uh HN1, uh HN2, uh HN3, uh HN4, uh HN5, uh HN6, uh HN7, uh HN8, uh HN9, uh HN10, uh HPL]
           obtain ⟨K, hK⟩ : ∃ K, K = (Tk.F.mk a nm s sv sc E) := ⟨_, rfl⟩
           have hRF := (uh HC).own.imp (Q := fun V => Tk.RF V 61 n K ⟨a, nm, xs, vs, cs, x⟩) (fun V h => by rw [hK]; exact ⟨rfl, rfl, uh HNM, h.1.1.1.2, h.1.1.2, h.1.2, h.2⟩)
           rw [← hK] at HC
           have hlc := (uh HC).lt
           have hRb : u10.heap[(w.heap.size + 1)]? = w2.heap[(w.heap.size + 1)]? := (uh HC).old _ (by omega) (by omega) (by omega)
           have hRx : ∀ j v, (Tk.F.new 0).cells[j]? = some v → u10.cell? ⟨(w.heap.size + 1), j, none⟩ = some v := fun j v hj => (Zc (a := ⟨(w.heap.size + 1), j, none⟩) hRb).trans ((uh HX).1 j v hj)
           have hRf : ∀ j, u10.frozen? ⟨(w.heap.size + 1), j, none⟩ = false := fun j => (Zf (a := ⟨(w.heap.size + 1), j, none⟩) hRb).trans ((uh HX).2 j)
           have hRe : ∀ j, j < K.cells.size → ∃ u, u10.cell? ⟨(w.heap.size + 1), j, none⟩ = some u := fun j hj => ⟨_, hRx j _ (Array.getElem?_eq_getElem (show j < (Tk.F.new 0).cells.size from hj))⟩
           obtain ⟨hp, _, hsS, hkS, htS⟩ := ZcD (w.heap.size + 1) K.cells.toList 0 u10 (fun j _ hj => hRe j (by simpa using hj))
           have hT := ((Tp.Tu.of_below (uh HT0)).trans ((uh HC).tu.mono (by omega) (D' := ZaA bp) (fun q hq h => by rcases h with h | h; exact h; omega))).trans (htS _ _ (by omega))
           have hone : ∀ v ∈ K.cells.toList, v.oneCell' = true := fun v hv => by simp [Tk.F.cells] at hv; rcases hv with h | h | h | h | h | h | h | h | h | h <;> subst h <;> rfl
           go_upto_region 12 with fail
           refine Zdm (cs := K.cells) (cb := cb) (Rb := (w.heap.size + 1)) (t := 32) (p := 3) (r := 2) rfl rfl rfl rfl rfl rfl rfl rfl (by simp) (by decide) (uh HC).box hRe hRf hone Tryz.underlying54 rfl Zc6 ?_
           go_wp2_with fail
           refine bodyPost_ret (ZcY (cs := K.cells) (r := 2) rfl rfl hRe Tryz.underlying54 rfl Zc6) rfl ?_
           exact ⟨⟨K, rfl, (hRF.go (by omega) (fun q h1 _ _ => hkS q (by omega))).wide (B' := w.heap.size) (g' := bp) (by omega) (by omega) (Or.inl (by omega))⟩, (uh HC).at_.kept (by omega) (fun q hq => hkS q (by omega)), hT⟩
end
theorem Zfw : (Tryz.prog.info? 54).map (fun i => (i.zero, i.size, i.bytes)) = some (some (.agg #[.int .i64 0, .string ⟨#[]⟩, .slice none 0 0, .slice none 0 0, .slice none 0 0, .int .i64 0, .int .i64 0, .int .i64 0, .string ⟨#[]⟩, .slice none 0 0]), 10, 160) := by kernel_rfl
structure Tp.Fs (l : List Tp.T) (ta : Option Addr) (c bp : Nat) (e : Int) (w0 : World) (cb n : Nat) (v : Value) (es : List Tk.F) (acc : List (Tk.FT 61 n)) (i : Nat) (W : World) : Prop where
 at_ : Tp.J l ta c bp e W i 0
 tu : Tp.Tu (fun q => q = bp ∨ q = cb) w0.heap.size w0 W
 box : W.cell? ⟨cb, 0, none⟩ = some v
 fz : ∀ j, W.frozen? ⟨cb, j, none⟩ = false
 row : Tp.Rw w0.heap.size bp W 54 10 (fun E : Tk.F => E.cells.toList) (fun W => Tk.RF W 61 n) v es acc
 pos : bp < cb ∧ cb < w0.heap.size
section
variable {l : List Tp.T} {ta : Option Addr} {c bp : Nat} {e : Int} {w0 W W1 : World} {cb n : Nat} {v : Value} {es : List Tk.F} {acc : List (Tk.FT 61 n)} {i j : Nat}
theorem Tp.Fs.step (h : Tp.Fs l ta c bp e w0 cb n v es acc i W) (hj : Tp.J l ta c bp e W1 j 0) (ht : Tp.Tu (ZaA bp) W.heap.size W W1) : Tp.Fs l ta c bp e w0 cb n v es acc j W1 := by
 obtain ⟨p1, p2⟩ := h.pos
 have hz := h.tu.size
 have hb : W1.heap[cb]? = W.heap[cb]? := ht.block cb (by omega) (by show ¬ cb = bp; omega)
 exact ⟨hj, h.tu.then ht hz (fun q _ hq => Or.inl hq), (Zc (a := ⟨cb, 0, none⟩) hb).trans h.box, fun k => (Zf (a := ⟨cb, k, none⟩) hb).trans (h.fz k),
  h.row.kept ht.size (by omega) (fun q h1 h2 => ht.block q h2 (by show ¬ q = bp; omega)), h.pos⟩
theorem Tp.Fs.app (h : Tp.Fs l ta c bp e w0 cb n v es acc i W) {E : Tk.F} {x : Tk.FT 61 n} {W6 : World} (hE : Tp.Ow w0.heap.size (Tp.blk bp v) W (fun W => Tk.RF W 61 n E x)) (hg : W.grownBy W6 v.ownBlock) {g cc : Nat}
  (ho : W6.ownsRow w0.heap.size 54 10 (.slice (some ⟨g, 0, none⟩) (es.length + 1) cc) (es.length + 1) (es.flatMap (fun E : Tk.F => E.cells.toList) ++ E.cells.toList)) (hat : v.ownBlock = some g ∨ W.heap.size ≤ g) :
  Tp.Fs l ta c bp e w0 cb n (.slice (some ⟨g, 0, none⟩) (es.length + 1) cc) (es ++ [E]) (acc ++ [x]) i (W6.setCell ⟨cb, 0, none⟩ (.slice (some ⟨g, 0, none⟩) (es.length + 1) cc)) := by
 obtain ⟨p1, p2⟩ := h.pos
 have hz := h.tu.size
 have hlow : ∀ q, q < w0.heap.size → W6.heap[q]? = W.heap[q]? := fun q hq => hg.block q (by omega) (fun e => by have := (h.row.row.lt q e.symm).1; omega)
 have hS : ∀ q, q ≠ cb → (W6.setCell ⟨cb, 0, none⟩ (.slice (some ⟨g, 0, none⟩) (es.length + 1) cc)).heap[q]? = W6.heap[q]? := fun q hq => Below.heap_setCell _ _ _ _ hq
 have hsz : (W6.setCell ⟨cb, 0, none⟩ (.slice (some ⟨g, 0, none⟩) (es.length + 1) cc)).heap.size = W6.heap.size := by simp [World.setCell]
 have hrow := h.row.app hE hg.size (by omega) (fun q _ h2 h3 => hg.block q h2 (fun e => h3 e.symm)) ho hat
 refine ⟨?_, ?_, ?_, fun j => ?_, hrow.kept (by omega) (by omega) (fun q h1 _ => hS q (by omega)), h.pos⟩
 · exact h.at_.kept (by have := hg.size; omega) (fun q hq => (hS q (by omega)).trans (hlow q (by omega)))
 · exact (h.tu.trans ⟨hg.os, hg.tape, hg.output, hg.size, fun q h1 _ => hlow q h1⟩).set (b := cb) (o := 0) _ (fun _ => Or.inr rfl)
 · exact World.cell?_setCell_same _ _ _ ((Zc (a := ⟨cb, 0, none⟩) (hlow cb p2)).trans h.box)
 rw [World.frozen?_setCell]
 exact (Zf (a := ⟨cb, j, none⟩) (hlow cb p2)).trans (h.fz j)
end
structure Tp.Fr (l : List Tp.T) (ta : Option Addr) (c bp : Nat) (e : Int) (w0 : World) (cb n : Nat) (om : Except Nat (List (Tk.FT 61 n) × Nat)) (f : Nat) (v : Value) (es : List Tk.F) (acc : List (Tk.FT 61 n)) (i : Nat) (W : World) : Prop where
 fs : Tp.Fs l ta c bp e w0 cb n v es acc i W
 is : Zct l e n f i acc = om
 fuel : l.length < f + i
 many : es.length + f = l.length + 1
def Zl1 (l : List Tp.T) (bp : Nat) (e : Int) (n : Nat) (w : World) (o : Except Nat (List (Tk.FT 61 n))) (r : Ending) (w' : World) : Prop :=
 match o with
 | .error j => r = .panicked (Zdp (Zaz l e j)) ∧ Tp.Tu (ZaA bp) w.heap.size w w'
 | .ok x => ∃ s : Tk.Sl, r = .returned (.agg #[.slice s.ad s.len s.cap]) ∧ Tp.Ow w.heap.size bp w' (fun W => Tk.RT W 61 n s x) ∧ Tp.Tu (ZaA bp) w.heap.size w w' ∧ s.len ≤ s.cap
theorem Zj4 {w : World} {base : Nat} {e : TypeId} {size n : Nat} {v : Value} {xs : List Value} {s : Tk.Sl} (h : w.ownsRow base e size v n xs) (hv : v = .slice s.ad s.len s.cap) : s.len ≤ s.cap := by
 rcases h.2 with ⟨h1, _⟩ | ⟨g, cap, cur, h1, _, _, h2, _⟩
 · rw [h1] at hv
   cases s
   cases hv
   exact Nat.le_refl _
 rw [h1] at hv
 cases s
 cases hv
 exact h2
theorem ZjJ {l : List Tp.T} {e : Int} {n i j : Nat} {x : List (ByteArray × Int) × List (Zap 61 n)} (h : Tp.body l e n i = .ok (x, j)) : i < j := by
 unfold Tp.body at h
 cases h1 : Zak l ⟨#[123]⟩ i with
 | error j1 => rw [h1] at h; cases h
 | ok i1 =>
  rw [h1] at h
  dsimp only at h
  have g1 := ZaJ h1
  cases h2 : Tp.vars l (l.length + 1) i1 [] with
  | error j1 => rw [h2] at h; cases h
  | ok p =>
   obtain ⟨vs, i2⟩ := p
   rw [h2] at h
   dsimp only at h
   have g2 := ZeH _ h2
   cases h3 : ZaV l (Tp.cmd l e n) (l.length + 1) i2 [] with
   | error j1 => rw [h3] at h; cases h
   | ok p =>
    obtain ⟨cs, i3⟩ := p
    rw [h3] at h
    dsimp only at h
    have g3 := ZeD (fun i x j h => Zdh n h) _ h3
    cases h
    omega
theorem ZkE {l : List Tp.T} {e : Int} {n i j : Nat} {x : Tk.FT 61 n} (h : Tp.func l e n i = .ok (x, j)) : i < j := by
 unfold Tp.func at h
 cases h1 : Zak l ⟨#[102, 117, 110, 99]⟩ i with
 | error j1 => rw [h1] at h; cases h
 | ok i1 =>
  rw [h1] at h
  dsimp only at h
  have g1 := ZaJ h1
  cases h2 : Tp.name l i1 with
  | error j1 => rw [h2] at h; cases h
  | ok p =>
   obtain ⟨nm, i2⟩ := p
   rw [h2] at h
   dsimp only at h
   have g2 := Zb4 h2
   cases h3 : Tp.list l (Tp.name l) i2 with
   | error j1 => rw [h3] at h; cases h
   | ok p =>
    obtain ⟨ps, i3⟩ := p
    rw [h3] at h
    dsimp only at h
    have g3 := ZgH (fun i x j h => by have := Zb4 h; omega) h3
    cases h4 : Tp.body l e n i3 with
    | error j1 => rw [h4] at h; cases h
    | ok p =>
     obtain ⟨⟨vs, cs⟩, i4⟩ := p
     rw [h4] at h
     dsimp only at h
     have g4 := ZjJ h4
     cases h5 : Zak l ⟨#[114, 101, 116, 117, 114, 110]⟩ i4 with
     | error j1 => rw [h5] at h; cases h
     | ok i5 =>
      rw [h5] at h
      dsimp only at h
      have g5 := ZaJ h5
      cases h6 : Tp.expr l e 61 0 i5 with
      | error j1 => rw [h6] at h; cases h
      | ok p =>
       obtain ⟨y, i6⟩ := p
       rw [h6] at h
       dsimp only at h
       have g6 := Zbg 61 h6
       cases h7 : Zak l ⟨#[59]⟩ i6 with
       | error j1 => rw [h7] at h; cases h
       | ok i7 =>
        rw [h7] at h
        dsimp only at h
        have g7 := ZaJ h7
        cases h8 : Zak l ⟨#[125]⟩ i7 with
        | error j1 => rw [h8] at h; cases h
        | ok i8 =>
         rw [h8] at h
         dsimp only at h
         have g8 := ZaJ h8
         cases h
         omega
section
variable (l : List Tp.T) (ta : Option Addr) (c bp : Nat) (e : Int)
theorem Zln (n : Nat) (hn : l.length ≤ n) (w : World) (h : Tp.J l ta c bp e w 0 0) :
  Calls Tryz.prog 65 #[.pointer (some ⟨bp, 0, none⟩)] w (Zl1 l bp e n w (Tp.tree l e n)) := by
 obtain ⟨o, ho⟩ : ∃ o, Tp.tree l e n = o := ⟨_, rfl⟩
 rw [ho]
 have hlt := h.lt
 have HEQ := Hd ho
 have hlf := h.fine.few
 obtain ⟨om, hom⟩ : ∃ om, Zct l e n (l.length + 1) 0 [] = om := ⟨_, rfl⟩
 have HOM := Hd hom
 obtain ⟨t0, hi0, hz0, hz1', hz2⟩ := Tp.info_of Zfw
 have HI := Hd hi0
 have HZ0 := Hd hz0
 have HZ1 := Hd hz1'
 have HZ2 := Hd hz2
 have hbA : Below w.heap.size w ((w.alloc (Obj.cells #[.slice none 0 0] 24)).alloc (Obj.cells #[.slice none 0 0] 24)) := (Zr.alloc Zl _).alloc (by simp) _
 have hs0 : ((w.alloc (Obj.cells #[.slice none 0 0] 24)).alloc (Obj.cells #[.slice none 0 0] 24)).heap.size = w.heap.size + 2 := by simp
 have HFR := Hd (show Tp.Fr l ta c bp e ((w.alloc (Obj.cells #[.slice none 0 0] 24)).alloc (Obj.cells #[.slice none 0 0] 24)) (w.heap.size + 1) n om (l.length + 1) (.slice none 0 0) [] [] 0 ((w.alloc (Obj.cells #[.slice none 0 0] 24)).alloc (Obj.cells #[.slice none 0 0] 24)) from
  ⟨⟨h.below hbA, Tp.Tu.refl _ _ _, by go_simp, fun j => by go_simp, Tp.Rw.nil _ _ _ _ _ _ _, ⟨by omega, by omega⟩⟩, hom, by omega, by simp⟩)
 have HX := Hd (show ((w.alloc (Obj.cells #[.slice none 0 0] 24)).alloc (Obj.cells #[.slice none 0 0] 24)).cell? ⟨w.heap.size, 0, none⟩ = some (.slice none 0 0) ∧ ∀ j, ((w.alloc (Obj.cells #[.slice none 0 0] 24)).alloc (Obj.cells #[.slice none 0 0] 24)).frozen? ⟨w.heap.size, j, none⟩ = false from ⟨by go_simp, fun j => by go_simp⟩)
 have HT0 := Hd hbA
 clear h ho hbA hi0 hz0 hz1' hz2 hom
 go_enter Tryz.func65, Tryz.ntmps65
 go_wp2_with fail
 generalize ((w.alloc (Obj.cells #[.slice none 0 0] 24)).alloc (Obj.cells #[.slice none 0 0] 24)) = w2 at *
 obtain ⟨cb, hcb⟩ : ∃ cb, w.heap.size + 1 = cb := ⟨_, rfl⟩
 rw [hcb] at HFR
 simp only [hcb]
 go_loopg [] (l.length + 1) (fun f wr => ∃ v es acc i, Tp.Fr l ta c bp e w2 cb n om f v es acc i wr)
 case atStart => exact ⟨_, _, _, _, uh HFR⟩
 case round =>
  clear HFR
  obtain ⟨v, es, acc, i, hm⟩ := hrel
  have hf := hm.fuel
  have hle := hm.fs.at_.le
  have hmn := hm.many
  obtain ⟨f, rfl⟩ : ∃ f, gk = f + 1 := ⟨gk - 1, by omega⟩
  obtain ⟨ga, cap, rfl, hcap⟩ := hm.fs.row.form
  have HM := Hd hm
  clear hm
  obtain ⟨y, hy⟩ : ∃ y, Zal l i ⟨#[102, 117, 110, 99]⟩ = y := ⟨_, rfl⟩
  have HY := Hd hy
  go_wp2_with fail
  refine (ZbJ l ta c bp e ⟨#[102, 117, 110, 99]⟩ i 0 wr (uh HM).fs.at_ y hy).mono ?_
  rintro r w4 ⟨rfl, hb4⟩
  have HS := Hd ((uh HM).fs.step ((uh HM).fs.at_.below hb4) (Tp.Tu.of_below hb4))
  clear hb4 hy
  cases y
  · obtain rfl : om = .ok (acc, i) := by rw [← (uh HM).is]; simp only [Zct, uh HY, Zb, if_false]
    go_wp2_with fail
    have HSd := Hd ((uh HS).step ((uh HS).at_.below Zr.drew) (Tp.Tu.of_below (Below.refl _ w4).drew))
    have hHeld : (fun V => V.cell? ⟨cb, 0, none⟩ = some (.slice ga es.length cap)) (w4).drew := (uh HSd).box
    have HQ := Hd (Zlm l ta c bp e n hn i w4.drew ((uh HS).at_.below Zr.drew))
    refine ZbA (fun j => Nat.beq j 7) (fun V => V.cell? ⟨cb, 0, none⟩ = some (.slice ga es.length cap)) (by kernel_rfl) hHeld (fun hHeld hcl => ?_)
    generalize (w4).drew = wd at *
    refine Rq.tk 0 (.pointer (some ⟨cb, 0, none⟩)) Rq.z (by kernel_rfl) (by kernel_rfl) (by kernel_rfl) (by kernel_rfl) (fun _ _ _ h => h) (by assumption) (by assumption) (by rfl) (fun w hSw => by (try dsimp only at hSw); go_simp) (fun hcl => ?_)
    (try simp only [Act.put, Zt, Zz, Zs])
    refine Rq.tk 1 (.slice ga es.length cap) (Rq.s Rq.z) (by kernel_rfl) (by kernel_rfl) (by kernel_rfl) (by kernel_rfl) (fun _ _ _ h => h) (by assumption) (by assumption) (by rfl) (fun w hSw => by (try dsimp only at hSw); go_simp) (fun hcl => ?_)
    (try simp only [Act.put, Zt, Zz, Zs])
    refine Rq.tk 2 (.pointer (some ⟨bp, 0, none⟩)) (Rq.s (Rq.s Rq.z)) (by kernel_rfl) (by kernel_rfl) (by kernel_rfl) (by kernel_rfl) (fun _ _ _ h => h) (by assumption) (by assumption) (by rfl) (fun w hSw => by (try dsimp only at hSw); go_simp) (fun hcl => ?_)
    (try simp only [Act.put, Zt, Zz, Zs])
    refine Rq.on 3 (Rq.s (Rq.s (Rq.s Rq.z))) (by kernel_rfl) (by assumption) (fun K hK => ?_)
    go_simp
    go_at_call 110
    refine (uh HQ).mono ?_
    intro r w5 h5
    cases hnn : Tp.main l e n i with
    | error j =>
     rw [hnn] at h5
     obtain ⟨rfl, ht⟩ := h5
     obtain rfl : o = .error j := by rw [← uh HEQ]; simp only [Tp.tree, uh HOM, hnn]
     have HT := Hd ((Tp.Tu.of_below (uh HT0)).trans (((uh HSd).tu.then ht (uh HSd).tu.size (fun _ _ h => Or.inl h)).mono (by omega) (D' := ZaA bp) (fun q hq h => by rcases h with h | h; exact h; omega)))
     clear ht hK
     go_simp
     exact ⟨rfl, rfl, uh HT⟩
    | ok p =>
     obtain ⟨x, j⟩ := p
     rw [hnn] at h5
     obtain ⟨⟨E, rfl, hro⟩, hj, ht⟩ := h5
     have HNN := Hd hnn
     have hrv := (uh HSd).row.row
     have hlv := (uh HSd).tu.size
     have hbp := (uh HSd).pos
     have hE1 : Tp.Ow w2.heap.size (Tp.blk bp (.slice ga es.length cap)) w5 (fun W => Tk.RF W 61 n E x) := hro.wide (by omega) (by omega) (by
      unfold Tp.blk
      cases hq : (Value.slice ga es.length cap).ownBlock with
      | none => left; show bp < _; omega
      | some q => left; exact (hrv.lt q hq).2)
     have hbN := (Below.refl w5.heap.size w5).alloc Zl (Obj.cells #[.int .i64 E.a, .string E.nm, .slice E.ps.ad E.ps.len E.ps.cap, .slice E.vs.ad E.vs.len E.vs.cap, .slice E.cs.ad E.cs.len E.cs.cap, .int .i64 E.re.k, .int .i64 E.re.a, .int .i64 E.re.n, .string E.re.nm, .slice E.re.args.ad E.re.args.len E.re.args.cap] 54)
     have HEO := Hd (hE1.go hbN.size (fun q _ _ hq => hbN.block q hq))
     have hL1 := (uh HSd).step hj ht
     have HL1 := Hd hL1
     have HL2 := Hd (hL1.step (hj.below hbN) (Tp.Tu.of_below hbN))
     have HBK := Hd (heap_alloc_new w5 (Obj.cells #[.int .i64 E.a, .string E.nm, .slice E.ps.ad E.ps.len E.ps.cap, .slice E.vs.ad E.vs.len E.vs.cap, .slice E.cs.ad E.cs.len E.cs.cap, .int .i64 E.re.k, .int .i64 E.re.a, .int .i64 E.re.n, .string E.re.nm, .slice E.re.args.ad E.re.args.len E.re.args.cap] 54))
     have hs2 : w2.heap.size ≤ (w5.alloc (Obj.cells #[.int .i64 E.a, .string E.nm, .slice E.ps.ad E.ps.len E.ps.cap, .slice E.vs.ad E.vs.len E.vs.cap, .slice E.cs.ad E.cs.len E.cs.cap, .int .i64 E.re.k, .int .i64 E.re.a, .int .i64 E.re.n, .string E.re.nm, .slice E.re.args.ad E.re.args.len E.re.args.cap] 54)).heap.size := (uh HL2).tu.size
     clear hj ht hbN hL1 hE1 hro hrv hlv hHeld hcl HSd HS hnn HQ
     unfold Tk.F.cells
     go_simp
     refine hK _ _ (fun _ => (uh HL1).box) (fun hcl => ?_)
     (try simp only [Act.put, Zt, Zz, Zs])
     clear hK K
     refine Rq.on 4 (Rq.s (Rq.s (Rq.s (Rq.s Rq.z)))) (by kernel_rfl) (by assumption) (fun K hK => ?_)
     go_simp
     refine hK _ _ (fun _ => (uh HL2).box) (fun hcl => ?_)
     (try simp only [Act.put, Zt, Zz, Zs])
     clear hK K
     generalize hwN : (w5.alloc (Obj.cells #[.int .i64 E.a, .string E.nm, .slice E.ps.ad E.ps.len E.ps.cap, .slice E.vs.ad E.vs.len E.vs.cap, .slice E.cs.ad E.cs.len E.cs.cap, .int .i64 E.re.k, .int .i64 E.re.a, .int .i64 E.re.n, .string E.re.nm, .slice E.re.args.ad E.re.args.len E.re.args.cap] 54)) = wN at *
     clear hwN
     refine Rq.on 5 (Rq.s (Rq.s (Rq.s (Rq.s (Rq.s Rq.z))))) (by kernel_rfl) (by assumption) (fun K hK => ?_)
     refine step_append_lies _ rfl (.tmp 14) (.tmp 17) 22 rfl w2.heap.size 54 t0 _ 10 160 Tryz.underlying22 (uh HI) (uh HZ0) (uh HZ1) (uh HZ2) rfl (by omega) (.slice ga es.length cap) es.length (es.flatMap (fun E : Tk.F => E.cells.toList)) rfl (uh HL2).row.row _ 1 1 [.int .i64 E.a, .string E.nm, .slice E.ps.ad E.ps.len E.ps.cap, .slice E.vs.ad E.vs.len E.vs.cap, .slice E.cs.ad E.cs.len E.cs.cap, .int .i64 E.re.k, .int .i64 E.re.a, .int .i64 E.re.n, .string E.re.nm, .slice E.re.args.ad E.re.args.len E.re.args.cap] rfl rfl (World.news_of_block (uh HBK)) (by simp [Value.oneCell']) (by omega) (by unfold maxLen; omega) (by omega) hs2 _ rfl ?_
     intro gA cA w6 hoA hgA hatA hltA
     have hA := (uh HL2).app (x := x) (E := E) (uh HEO) hgA hoA (hatA.imp id (fun e => by rw [e]; exact Nat.le_refl _))
     have hrow := (uh HL2).row.row
     have hbp2 := (uh HL2).pos
     have hz2 := (uh HL2).tu.size
     have hlow : ∀ q, q < w2.heap.size → w6.heap[q]? = wN.heap[q]? := fun q hq => hgA.block q (by omega) (fun e => by have := (hrow.lt q e.symm).1; omega)
     have z4 : w6.cell? ⟨cb, 0, none⟩ = some (.slice ga es.length cap) := (Zc (a := ⟨cb, 0, none⟩) (hlow cb hbp2.2)).trans (uh HL2).box
     have z5 : w6.frozen? ⟨cb, 0, none⟩ = false := (Zf (a := ⟨cb, 0, none⟩) (hlow cb hbp2.2)).trans ((uh HL2).fz 0)
     have HA := Hd hA
     clear hA hatA hltA hoA hgA hlow hrow hz2
     refine hK _ _ (fun _ => z4) (fun hcl => ?_)
     (try simp only [Act.put, Zt, Zz, Zs])
     clear hK K
     refine Rq.on 6 (Rq.s (Rq.s (Rq.s (Rq.s (Rq.s (Rq.s Rq.z)))))) (by kernel_rfl) (by assumption) (fun K hK => ?_)
     go_simp
     refine hK _ _ (fun _ => z4) (fun hcl => ?_)
     (try simp only [Act.put, Zt, Zz, Zs])
     clear hK K
     refine Rq.on 7 (Rq.s (Rq.s (Rq.s (Rq.s (Rq.s (Rq.s (Rq.s Rq.z))))))) (by kernel_rfl) (by assumption) (fun K hK => ?_)
     go_simp
     refine hK _ _ (fun e => absurd e (by decide)) (fun hcl => ?_)
     (try simp only [Act.put, Zt, Zz, Zs])
     refine Rq.done (by kernel_rfl) ?_ _
     clear hK K z4 z5 hcl
     generalize (w6.setCell ⟨cb, 0, none⟩ (.slice (some ⟨gA, 0, none⟩) (es.length + 1) cA)) = w7 at *
     obtain ⟨c0, c1, c2, c3, cf⟩ := (uh HA).at_.p
     have hjl := (uh HA).at_.le
     have hs7 := (uh HA).tu.size
     have hRb : w7.heap[w.heap.size]? = w2.heap[w.heap.size]? := (uh HA).tu.block _ (by omega) (by omega)
     have hRx : w7.cell? ⟨w.heap.size, 0, none⟩ = some (.slice none 0 0) := (Zc (a := ⟨w.heap.size, 0, none⟩) hRb).trans (uh HX).1
     have hRf : w7.frozen? ⟨w.heap.size, 0, none⟩ = false := (Zf (a := ⟨w.heap.size, 0, none⟩) hRb).trans ((uh HX).2 0)
     have HT7 := Hd ((Tp.Tu.of_below (uh HT0)).trans ((uh HA).tu.mono (by omega) (D' := ZaA bp) (fun q hq h => by rcases h with h | h; exact h; omega)))
     have hbx := (uh HA).box
     have hll := (uh HA).at_.fine.few
     have HG := Hd (fun (W : World) (hb : Below w7.heap.size w7 W) => ZcH l ta c bp e j 0 W ((uh HA).at_.below hb))
     by_cases hjn : j < l.length
     · have hq1 : ((j : Int) < (l.length : Int)) := by omega
       obtain rfl : o = .error j := by rw [← uh HEQ]; simp only [Tp.tree, uh HOM, uh HNN, if_pos hjn]
       go_upto_region 5 with fail
       go_quiet (fail)
       go_wp2_with fail
       refine ((uh HG) _ (below_drewN Zr _)).mono ?_
       rintro r w9 ⟨rfl, hb9⟩
       have hbd := below_drewN (Below.refl w7.heap.size w7) nq
       have HT9 := Hd (((uh HT7).below hbd (by omega)).below hb9 (by have := hbd.size; omega))
       clear hbd
       clear hb9
       go_wp2_with fail
       exact ⟨rfl, rfl, uh HT9⟩
     have hq1 : ¬ ((j : Int) < (l.length : Int)) := by omega
     obtain rfl : o = .ok (acc ++ [x]) := by rw [← uh HEQ]; simp only [Tp.tree, uh HOM, uh HNN, if_neg hjn]
     go_upto_region 5 with fail
     go_quiet (fail)
     have hbd := below_drewN (Below.refl w7.heap.size w7) nq
     obtain ⟨s, hv, hs⟩ := (uh HA).row.reads (by omega) (fun _ => rfl) Tk.F.lies_cl (by have h1 := (uh HA).row.len; rw [Za] at h1; simp at h1 ⊢; omega)
     have hcapS := Zj4 (uh HA).row.row hv
     have HAB := Hd ((uh HA).step ((uh HA).at_.below hbd) (Tp.Tu.of_below hbd))
     have HSS := Hd (hs.go hbd.size (fun q _ _ hq => hbd.block q hq))
     have hrx : (w7.drewN nq).cell? ⟨w.heap.size, 0, none⟩ = some (.slice none 0 0) := (Zc (a := ⟨w.heap.size, 0, none⟩) (hbd.block w.heap.size (by omega))).trans hRx
     have hrf : (w7.drewN nq).frozen? ⟨w.heap.size, 0, none⟩ = false := (Zf (a := ⟨w.heap.size, 0, none⟩) (hbd.block w.heap.size (by omega))).trans hRf
     have hbx2 := (uh HAB).box
     rw [hv] at hbx2
     have HT8 := Hd (((uh HT7).below hbd (by omega)).set (b := w.heap.size) (o := 0) (.slice s.ad s.len s.cap) (by omega))
     have hsd := hbd.size
     clear hbd hs hRx hRf hbx c0 c1 c2 c3 cf
     generalize w7.drewN nq = wq at *
     go_wp2_with fail
     have s0 : (wq.setCell ⟨w.heap.size, 0, none⟩ (.slice s.ad s.len s.cap)).cell? ⟨w.heap.size, 0, none⟩ = some (.slice s.ad s.len s.cap) := World.cell?_setCell_same _ _ _ hrx
     refine bodyPost_ret (v := .agg #[.slice s.ad s.len s.cap]) (by simp [results, Tryz.results65, go_sem, s0]) rfl ?_
     exact ⟨s, rfl, ((uh HSS).go (by simp [World.setCell]) (fun q h1 _ _ => Below.heap_setCell _ _ _ _ (show q ≠ w.heap.size by omega))).wide (B' := w.heap.size) (g' := bp) (by omega) (by omega) (Or.inl (by omega)), uh HT8, hcapS⟩
  go_wp2_with fail
  have HSd := Hd ((uh HS).step ((uh HS).at_.below Zr.drew) (Tp.Tu.of_below (Below.refl _ w4).drew))
  have hHeld : (fun V => V.cell? ⟨cb, 0, none⟩ = some (.slice ga es.length cap)) (w4).drew := (uh HSd).box
  have HQ := Hd (Zhr l ta c bp e n hn i w4.drew ((uh HS).at_.below Zr.drew))
  refine ZbA (fun j => Nat.beq j 7) (fun V => V.cell? ⟨cb, 0, none⟩ = some (.slice ga es.length cap)) (by kernel_rfl) hHeld (fun hHeld hcl => ?_)
  generalize (w4).drew = wd at *
  refine Rq.tk 0 (.pointer (some ⟨cb, 0, none⟩)) Rq.z (by kernel_rfl) (by kernel_rfl) (by kernel_rfl) (by kernel_rfl) (fun _ _ _ h => h) (by assumption) (by assumption) (by rfl) (fun w hSw => by (try dsimp only at hSw); go_simp) (fun hcl => ?_)
  (try simp only [Act.put, Zt, Zz, Zs])
  refine Rq.tk 1 (.slice ga es.length cap) (Rq.s Rq.z) (by kernel_rfl) (by kernel_rfl) (by kernel_rfl) (by kernel_rfl) (fun _ _ _ h => h) (by assumption) (by assumption) (by rfl) (fun w hSw => by (try dsimp only at hSw); go_simp) (fun hcl => ?_)
  (try simp only [Act.put, Zt, Zz, Zs])
  refine Rq.tk 2 (.pointer (some ⟨bp, 0, none⟩)) (Rq.s (Rq.s Rq.z)) (by kernel_rfl) (by kernel_rfl) (by kernel_rfl) (by kernel_rfl) (fun _ _ _ h => h) (by assumption) (by assumption) (by rfl) (fun w hSw => by (try dsimp only at hSw); go_simp) (fun hcl => ?_)
  (try simp only [Act.put, Zt, Zz, Zs])
  refine Rq.on 3 (Rq.s (Rq.s (Rq.s Rq.z))) (by kernel_rfl) (by assumption) (fun K hK => ?_)
  go_simp
  go_at_call 109
  refine (uh HQ).mono ?_
  intro r w5 h5
  cases hnn : Tp.func l e n i with
  | error j =>
   rw [hnn] at h5
   obtain ⟨rfl, ht⟩ := h5
   obtain rfl : om = .error j := by rw [← (uh HM).is]; simp only [Zct, uh HY, if_true, hnn]
   obtain rfl : o = .error j := by rw [← uh HEQ]; simp only [Tp.tree, uh HOM]
   have HT := Hd ((Tp.Tu.of_below (uh HT0)).trans (((uh HSd).tu.then ht (uh HSd).tu.size (fun _ _ h => Or.inl h)).mono (by omega) (D' := ZaA bp) (fun q hq h => by rcases h with h | h; exact h; omega)))
   clear ht hK
   go_simp
   exact ⟨rfl, rfl, uh HT⟩
  | ok p =>
   obtain ⟨x, j⟩ := p
   rw [hnn] at h5
   obtain ⟨⟨E, rfl, hro⟩, hj, ht⟩ := h5
   have hgo := ZkE hnn
   have HIS := Hd (show Zct l e n f j (acc ++ [x]) = om by rw [← (uh HM).is]; simp only [Zct, uh HY, if_true, hnn])
   have hrv := (uh HSd).row.row
   have hlv := (uh HSd).tu.size
   have hbp := (uh HSd).pos
   have hE1 : Tp.Ow w2.heap.size (Tp.blk bp (.slice ga es.length cap)) w5 (fun W => Tk.RF W 61 n E x) := hro.wide (by omega) (by omega) (by
    unfold Tp.blk
    cases hq : (Value.slice ga es.length cap).ownBlock with
    | none => left; show bp < _; omega
    | some q => left; exact (hrv.lt q hq).2)
   have hbN := (Below.refl w5.heap.size w5).alloc Zl (Obj.cells #[.int .i64 E.a, .string E.nm, .slice E.ps.ad E.ps.len E.ps.cap, .slice E.vs.ad E.vs.len E.vs.cap, .slice E.cs.ad E.cs.len E.cs.cap, .int .i64 E.re.k, .int .i64 E.re.a, .int .i64 E.re.n, .string E.re.nm, .slice E.re.args.ad E.re.args.len E.re.args.cap] 54)
   have HEO := Hd (hE1.go hbN.size (fun q _ _ hq => hbN.block q hq))
   have hL1 := (uh HSd).step hj ht
   have HL1 := Hd hL1
   have HL2 := Hd (hL1.step (hj.below hbN) (Tp.Tu.of_below hbN))
   have HBK := Hd (heap_alloc_new w5 (Obj.cells #[.int .i64 E.a, .string E.nm, .slice E.ps.ad E.ps.len E.ps.cap, .slice E.vs.ad E.vs.len E.vs.cap, .slice E.cs.ad E.cs.len E.cs.cap, .int .i64 E.re.k, .int .i64 E.re.a, .int .i64 E.re.n, .string E.re.nm, .slice E.re.args.ad E.re.args.len E.re.args.cap] 54))
   have hs2 : w2.heap.size ≤ (w5.alloc (Obj.cells #[.int .i64 E.a, .string E.nm, .slice E.ps.ad E.ps.len E.ps.cap, .slice E.vs.ad E.vs.len E.vs.cap, .slice E.cs.ad E.cs.len E.cs.cap, .int .i64 E.re.k, .int .i64 E.re.a, .int .i64 E.re.n, .string E.re.nm, .slice E.re.args.ad E.re.args.len E.re.args.cap] 54)).heap.size := (uh HL2).tu.size
   clear hj ht hbN hL1 hE1 hro hrv hlv hHeld hcl HSd HS hnn HQ
   unfold Tk.F.cells
   go_simp
   refine hK _ _ (fun _ => (uh HL1).box) (fun hcl => ?_)
   (try simp only [Act.put, Zt, Zz, Zs])
   clear hK K
   refine Rq.on 4 (Rq.s (Rq.s (Rq.s (Rq.s Rq.z)))) (by kernel_rfl) (by assumption) (fun K hK => ?_)
   go_simp
   refine hK _ _ (fun _ => (uh HL2).box) (fun hcl => ?_)
   (try simp only [Act.put, Zt, Zz, Zs])
   clear hK K
   generalize hwN : (w5.alloc (Obj.cells #[.int .i64 E.a, .string E.nm, .slice E.ps.ad E.ps.len E.ps.cap, .slice E.vs.ad E.vs.len E.vs.cap, .slice E.cs.ad E.cs.len E.cs.cap, .int .i64 E.re.k, .int .i64 E.re.a, .int .i64 E.re.n, .string E.re.nm, .slice E.re.args.ad E.re.args.len E.re.args.cap] 54)) = wN at *
   clear hwN
   refine Rq.on 5 (Rq.s (Rq.s (Rq.s (Rq.s (Rq.s Rq.z))))) (by kernel_rfl) (by assumption) (fun K hK => ?_)
   refine step_append_lies _ rfl (.tmp 7) (.tmp 10) 22 rfl w2.heap.size 54 t0 _ 10 160 Tryz.underlying22 (uh HI) (uh HZ0) (uh HZ1) (uh HZ2) rfl (by omega) (.slice ga es.length cap) es.length (es.flatMap (fun E : Tk.F => E.cells.toList)) rfl (uh HL2).row.row _ 1 1 [.int .i64 E.a, .string E.nm, .slice E.ps.ad E.ps.len E.ps.cap, .slice E.vs.ad E.vs.len E.vs.cap, .slice E.cs.ad E.cs.len E.cs.cap, .int .i64 E.re.k, .int .i64 E.re.a, .int .i64 E.re.n, .string E.re.nm, .slice E.re.args.ad E.re.args.len E.re.args.cap] rfl rfl (World.news_of_block (uh HBK)) (by simp [Value.oneCell']) (by omega) (by unfold maxLen; omega) (by omega) hs2 _ rfl ?_
   intro gA cA w6 hoA hgA hatA hltA
   have hA := (uh HL2).app (x := x) (E := E) (uh HEO) hgA hoA (hatA.imp id (fun e => by rw [e]; exact Nat.le_refl _))
   have hrow := (uh HL2).row.row
   have hbp2 := (uh HL2).pos
   have hz2 := (uh HL2).tu.size
   have hlow : ∀ q, q < w2.heap.size → w6.heap[q]? = wN.heap[q]? := fun q hq => hgA.block q (by omega) (fun e => by have := (hrow.lt q e.symm).1; omega)
   have z4 : w6.cell? ⟨cb, 0, none⟩ = some (.slice ga es.length cap) := (Zc (a := ⟨cb, 0, none⟩) (hlow cb hbp2.2)).trans (uh HL2).box
   have z5 : w6.frozen? ⟨cb, 0, none⟩ = false := (Zf (a := ⟨cb, 0, none⟩) (hlow cb hbp2.2)).trans ((uh HL2).fz 0)
   have HA := Hd hA
   clear hA hatA hltA hoA hgA hlow hrow hz2
   refine hK _ _ (fun _ => z4) (fun hcl => ?_)
   (try simp only [Act.put, Zt, Zz, Zs])
   clear hK K
   refine Rq.on 6 (Rq.s (Rq.s (Rq.s (Rq.s (Rq.s (Rq.s Rq.z)))))) (by kernel_rfl) (by assumption) (fun K hK => ?_)
   go_simp
   refine hK _ _ (fun _ => z4) (fun hcl => ?_)
   (try simp only [Act.put, Zt, Zz, Zs])
   clear hK K
   refine Rq.on 7 (Rq.s (Rq.s (Rq.s (Rq.s (Rq.s (Rq.s (Rq.s Rq.z))))))) (by kernel_rfl) (by assumption) (fun K hK => ?_)
   go_simp
   refine hK _ _ (fun e => absurd e (by decide)) (fun hcl => ?_)
   (try simp only [Act.put, Zt, Zz, Zs])
   refine Rq.done (by kernel_rfl) ?_ _
   clear hK K z4 z5 hcl
   generalize (w6.setCell ⟨cb, 0, none⟩ (.slice (some ⟨gA, 0, none⟩) (es.length + 1) cA)) = w7 at *
   go_wp2_with fail
   go_roundg f
   case measure => omega
   case rel => exact ⟨_, es ++ [E], acc ++ [x], j, uh HA, uh HIS, by omega, by rw [Za]; simp; omega⟩
end
structure Tp.Z1 (W : World) (b : Nat) : Prop where
 c0 : ∃ v, W.cell? ⟨b, 0, none⟩ = some v
 f0 : W.frozen? ⟨b, 0, none⟩ = false
theorem Tp.Z1.lt {W : World} {b : Nat} (h : Tp.Z1 W b) : b < W.heap.size := by
 obtain ⟨v, hv⟩ := h.c0
 exact World.block_lt_of_cell? W _ hv
theorem Tp.Z1.kept {W W' : World} {b : Nat} (h : Tp.Z1 W b) (hb : W'.heap[b]? = W.heap[b]?) : Tp.Z1 W' b :=
 ⟨by rw [Zc (a := ⟨b, 0, none⟩) hb]; exact h.c0, by rw [Zf (a := ⟨b, 0, none⟩) hb]; exact h.f0⟩
theorem ZkX {W : World} {b : Nat} (h0 : Tp.Z1 W b) (h1 : Tp.Z1 W (b + 1)) (h2 : Tp.Z1 W (b + 1 + 1)) (u0 u1 u2 : Value) :
  let V := ((W.setCell ⟨b, 0, none⟩ u0).setCell ⟨b + 1, 0, none⟩ u1).setCell ⟨b + 1 + 1, 0, none⟩ u2
  (V.cell? ⟨b, 0, none⟩ = some u0 ∧ V.cell? ⟨b + 1, 0, none⟩ = some u1 ∧ V.cell? ⟨b + 1 + 1, 0, none⟩ = some u2) ∧ V.heap.size = W.heap.size ∧ Below b W V ∧ ∀ q, b + 2 < q → V.heap[q]? = W.heap[q]? := by
 obtain ⟨a0, k0⟩ := h0.c0
 obtain ⟨a1, k1⟩ := h1.c0
 obtain ⟨a2, k2⟩ := h2.c0
 have n1 : ∀ (S : World) (v : Value) (q : Nat) (o : Nat), q ≠ b + 1 → (S.setCell ⟨b + 1, 0, none⟩ v).cell? ⟨q, o, none⟩ = S.cell? ⟨q, o, none⟩ := fun S v q o hq => Zc (a := ⟨q, o, none⟩) (Below.heap_setCell _ _ _ _ hq)
 have n2 : ∀ (S : World) (v : Value) (q : Nat) (o : Nat), q ≠ b + 1 + 1 → (S.setCell ⟨b + 1 + 1, 0, none⟩ v).cell? ⟨q, o, none⟩ = S.cell? ⟨q, o, none⟩ := fun S v q o hq => Zc (a := ⟨q, o, none⟩) (Below.heap_setCell _ _ _ _ hq)
 have n0 : ∀ (S : World) (v : Value) (q : Nat) (o : Nat), q ≠ b → (S.setCell ⟨b, 0, none⟩ v).cell? ⟨q, o, none⟩ = S.cell? ⟨q, o, none⟩ := fun S v q o hq => Zc (a := ⟨q, o, none⟩) (Below.heap_setCell _ _ _ _ hq)
 refine ⟨⟨?_, ?_, ?_⟩, by simp [World.setCell], ?_, fun q hq => ?_⟩
 · rw [n2 _ _ b 0 (by omega), n1 _ _ b 0 (by omega)]; exact World.cell?_setCell_same _ _ _ k0
 · rw [n2 _ _ (b + 1) 0 (by omega)]; exact World.cell?_setCell_same _ _ _ (u := a1) (by rw [n0 _ _ (b + 1) 0 (by omega)]; exact k1)
 · exact World.cell?_setCell_same _ _ _ (u := a2) (by rw [n1 _ _ (b + 1 + 1) 0 (by omega), n0 _ _ (b + 1 + 1) 0 (by omega)]; exact k2)
 · exact (((Below.refl b W).setCell (p := ⟨b, 0, none⟩) Zl u0).setCell (p := ⟨b + 1, 0, none⟩) (by show b ≤ b + 1; omega) u1).setCell (p := ⟨b + 1 + 1, 0, none⟩) (by show b ≤ b + 1 + 1; omega) u2
 exact ((Below.heap_setCell _ _ _ _ (show q ≠ b + 1 + 1 by omega)).trans (Below.heap_setCell _ _ _ _ (show q ≠ b + 1 by omega))).trans (Below.heap_setCell _ _ _ _ (show q ≠ b by omega))
theorem ZiE (a b c : Addr) (w : World) :
  CallsD Tryz.prog 64 #[.pointer (some a), .pointer (some b), .pointer (some c)] .returning w fun e u' w' => e = .returned (.tuple #[]) ∧ u' = .returning ∧ w' = w := by
 refine callsD_of_wpS Tryz.func64 rfl fun c₀ cs hu => ?_
 simp only [Tryz.ntmps64, List.size_toArray, Zo, List.length_nil, Nat.reduceAdd, Nat.reduceSub, Array.replicate_succ,
    Array.replicate_zero, List.push_toArray, List.append_toArray, List.nil_append, List.cons_append]
 apply wpS_seq
 refine ZjC ⟨#[.pointer (some a), .pointer (some b), .pointer (some c), .nilIface, undef, undef, .nilIface, undef, undef, undef, undef, undef, undef, undef, undef, undef, undef, undef, undef], []⟩ (by simp [recoverD, hu]) (by simp [go_sem]) ?_
 refine wpS_of_wp ?_
 go_wp2
 cases c₀
 simp_all [bodyPostS, results, Tryz.results64]
theorem ZgY (x : Int) (w : World) : (Instr.typeAssert (.iface 107 (.int .i64 x)) 20 107 true).run Tryz.prog w = .ok (.tuple #[.int .i64 x, .bool true]) w := by kernel_rfl
theorem Zir (N : Nat) (a : Int) (w : World) (h0 : Tp.Z1 w N) (h1 : Tp.Z1 w (N + 1)) (h2 : Tp.Z1 w (N + 1 + 1)) :
  CallsD Tryz.prog 64 #[.pointer (some ⟨N, 0, none⟩), .pointer (some ⟨N + 1, 0, none⟩), .pointer (some ⟨N + 1 + 1, 0, none⟩)] (.panicking (Zdp a)) w fun e u' w' =>
   e = .returned (.tuple #[]) ∧ u' = .panicking [{ v := .iface 107 (.int .i64 a), recovered := true }] ∧
   (w'.cell? ⟨N, 0, none⟩ = some (.slice none 0 0) ∧ w'.cell? ⟨N + 1, 0, none⟩ = some (.int .i64 a) ∧ w'.cell? ⟨N + 1 + 1, 0, none⟩ = some (.int .i64 1)) ∧ Below N w w' := by
 have HV := Hd (ZkX h0 h1 h2 (.slice none 0 0) (.int .i64 a) (.int .i64 1))
 obtain ⟨v2, m2⟩ := h0.c0
 have z2 := h0.f0
 obtain ⟨v3, m3⟩ := h1.c0
 obtain ⟨v4, m4⟩ := h2.c0
 have z3 := h1.f0
 have z4 := h2.f0
 have hta := ZgY
 clear h0 h1 h2
 refine callsD_of_wpS Tryz.func64 rfl fun c₀ cs hu => ?_
 simp only [Tryz.ntmps64, List.size_toArray, Zo, List.length_nil, Nat.reduceAdd, Nat.reduceSub, Array.replicate_succ,
    Array.replicate_zero, List.push_toArray, List.append_toArray, List.nil_append, List.cons_append]
 apply wpS_seq
 refine ZjD (v := .iface 107 (.int .i64 a)) (cs' := { c₀ with mode := .panicking [{ v := .iface 107 (.int .i64 a), recovered := true }] } :: cs)
  ⟨#[.pointer (some ⟨N, 0, none⟩), .pointer (some ⟨N + 1, 0, none⟩), .pointer (some ⟨N + 1 + 1, 0, none⟩), .iface 107 (.int .i64 a), undef, undef, .iface 107 (.int .i64 a), undef, undef, undef, undef, undef, undef, undef, undef, undef, undef, undef, undef], []⟩
  (by simp [recoverD, hu, Zdp]) (by simp [go_sem]) ?_
 refine wpS_of_wp ?_
 go_wp2_with fail
 obtain ⟨hc, hs, hb, _⟩ := uh HV
 exact ⟨rfl, _, rfl, _, by simp [results, Tryz.results64], rfl, rfl, hc, hb⟩
def Zmg (l : List Tp.T) (e : Int) (n : Nat) (w : World) (o : Except Nat (List (Tk.FT 61 n))) (r : Ending) (w' : World) : Prop :=
 match o with
 | .error j => r = .returned (.tuple #[.agg #[.slice none 0 0], .int .i64 (Zaz l e j), .int .i64 1]) ∧ Below w.heap.size w w'
 | .ok x => (∃ s : Tk.Sl, r = .returned (.tuple #[.agg #[.slice s.ad s.len s.cap], .int .i64 0, .int .i64 0]) ∧ Tp.Ow w.heap.size w.heap.size w' (fun W => Tk.RT W 61 n s x) ∧ s.len ≤ s.cap) ∧ Below w.heap.size w w'
theorem Zkj (l : List Tp.T) (ta : Option Addr) (c : Nat) (e : Int) (n : Nat) (hn : l.length ≤ n) (w : World) (hr : Tp.RT w ta l) (hta : ∀ b o, ta = some ⟨b, o, none⟩ → b < w.heap.size) (hf : Tp.Fine l) :
  Calls Tryz.prog 32 #[.slice ta l.length c, .int .i64 e] w (Zmg l e n w (Tp.tree l e n)) := by
 have hmf : ∀ (fn : Fn) (first cap : Array Value) (w : World), (Instr.makeFunc fn first cap).run Tryz.prog w = .ok (.func fn first cap) w := fun _ _ _ _ => rfl
 have HQ := Hd (fun (W : World) (h : Tp.J l ta c (w.heap.size + 1 + 1 + 1) e W 0 0) => Zln l ta c (w.heap.size + 1 + 1 + 1) e n hn W h)
 have HR := Hd (And.intro hr (And.intro hta hf))
 obtain ⟨o, ho⟩ : ∃ o, Tp.tree l e n = o := ⟨_, rfl⟩
 rw [ho]
 have HO := Hd ho
 clear hr hta ho hf
 go_enter_defers Tryz.func32, Tryz.ntmps32
 go_wp2_with fail
 have hbW := ((((Below.refl w.heap.size w).alloc Zl (Obj.cells #[.slice none 0 0] 24)).alloc (by simp) (Obj.cells #[.int .i64 0] 3)).alloc (by simp; omega) (Obj.cells #[.int .i64 0] 26)).alloc (by simp; omega) (Obj.cells #[.slice ta l.length c, .int .i64 0, .int .i64 e, .int .i64 0] 110)
 have hP : Tp.P ((((w.alloc (Obj.cells #[.slice none 0 0] 24)).alloc (Obj.cells #[.int .i64 0] 3)).alloc (Obj.cells #[.int .i64 0] 26)).alloc (Obj.cells #[.slice ta l.length c, .int .i64 0, .int .i64 e, .int .i64 0] 110)) (w.heap.size + 1 + 1 + 1) ta l.length c 0 e 0 := ⟨by go_simp, by go_simp, by go_simp, by go_simp, fun j => by go_simp⟩
 have hz : Tp.Z1 ((((w.alloc (Obj.cells #[.slice none 0 0] 24)).alloc (Obj.cells #[.int .i64 0] 3)).alloc (Obj.cells #[.int .i64 0] 26)).alloc (Obj.cells #[.slice ta l.length c, .int .i64 0, .int .i64 e, .int .i64 0] 110)) w.heap.size := ⟨⟨.slice none 0 0, by go_simp⟩, by go_simp⟩
 have ha1 : Tp.Z1 ((((w.alloc (Obj.cells #[.slice none 0 0] 24)).alloc (Obj.cells #[.int .i64 0] 3)).alloc (Obj.cells #[.int .i64 0] 26)).alloc (Obj.cells #[.slice ta l.length c, .int .i64 0, .int .i64 e, .int .i64 0] 110)) (w.heap.size + 1) := ⟨⟨.int .i64 0, by go_simp⟩, by go_simp⟩
 have ha2 : Tp.Z1 ((((w.alloc (Obj.cells #[.slice none 0 0] 24)).alloc (Obj.cells #[.int .i64 0] 3)).alloc (Obj.cells #[.int .i64 0] 26)).alloc (Obj.cells #[.slice ta l.length c, .int .i64 0, .int .i64 e, .int .i64 0] 110)) (w.heap.size + 1 + 1) := ⟨⟨.int .i64 0, by go_simp⟩, by go_simp⟩
 have hs0 : ((((w.alloc (Obj.cells #[.slice none 0 0] 24)).alloc (Obj.cells #[.int .i64 0] 3)).alloc (Obj.cells #[.int .i64 0] 26)).alloc (Obj.cells #[.slice ta l.length c, .int .i64 0, .int .i64 e, .int .i64 0] 110)).heap.size = w.heap.size + 4 := by simp
 have HBW := Hd hbW
 have HP0 := Hd hP
 have HZ0 := Hd (And.intro hz (And.intro ha1 ha2))
 clear hbW hP hz ha1 ha2
 generalize ((((w.alloc (Obj.cells #[.slice none 0 0] 24)).alloc (Obj.cells #[.int .i64 0] 3)).alloc (Obj.cells #[.int .i64 0] 26)).alloc (Obj.cells #[.slice ta l.length c, .int .i64 0, .int .i64 e, .int .i64 0] 110)) = WA at *
 have HJ0 := Hd (show Tp.J l ta c (w.heap.size + 1 + 1 + 1) e WA 0 0 from ⟨uh HP0, (uh HR).1.kept (uh HBW).size (fun b o h => (uh HBW).block b ((uh HR).2.1 b o h)), fun b o h => by have := (uh HR).2.1 b o h; omega, (uh HR).2.2, Nat.zero_le _⟩)
 refine ((uh HQ) WA (uh HJ0)).mono ?_
 intro r w1 hq
 cases hd : Tp.tree l e n with
 | error j =>
  rw [hd] at hq
  obtain ⟨rfl, ht⟩ := hq
  obtain rfl : o = .error j := by rw [← uh HO, hd]
  have hblk : ∀ q, q < w.heap.size + 3 → w1.heap[q]? = WA.heap[q]? := fun q hq => ht.block q (by omega) (by show ¬ q = w.heap.size + 1 + 1 + 1; omega)
  have HZ1 := Hd (And.intro ((uh HZ0).1.kept (hblk _ (by omega))) (And.intro ((uh HZ0).2.1.kept (hblk _ (by omega))) ((uh HZ0).2.2.kept (hblk _ (by omega)))))
  have HB1 := Hd (show Below w.heap.size w w1 from (uh HBW).trans ((ht.mono (n' := w.heap.size) (by omega) (fun _ _ h => h)).to_below (fun q hq hd => by have : q = w.heap.size + 1 + 1 + 1 := hd; omega)))
  clear ht hblk
  go_wp2_with fail
  refine leaves_cons (f := 64) (args := #[.pointer (some ⟨w.heap.size, 0, none⟩), .pointer (some ⟨w.heap.size + 1, 0, none⟩), .pointer (some ⟨w.heap.size + 1 + 1, 0, none⟩)]) (by simp) (by simp [go_sem]) ?_
  refine (Zir w.heap.size _ w1 (uh HZ1).1 (uh HZ1).2.1 (uh HZ1).2.2).mono ?_
  rintro e u' w2 ⟨rfl, rfl, ⟨d0, d1, d2⟩, hb2⟩
  simp [Leaves, settle, results, Tryz.results32, go_sem, d0, d1, d2]
  exact ⟨rfl, (uh HB1).trans hb2⟩
 | ok x =>
  rw [hd] at hq
  obtain ⟨s, rfl, hro, ht, hcapS⟩ := hq
  obtain rfl : o = .ok x := by rw [← uh HO, hd]
  have hblk : ∀ q, q < w.heap.size + 3 → w1.heap[q]? = WA.heap[q]? := fun q hq => ht.block q (by omega) (by show ¬ q = w.heap.size + 1 + 1 + 1; omega)
  have HZ1 := Hd (And.intro ((uh HZ0).1.kept (hblk _ (by omega))) (And.intro ((uh HZ0).2.1.kept (hblk _ (by omega))) ((uh HZ0).2.2.kept (hblk _ (by omega)))))
  have HB1 := Hd (show Below w.heap.size w w1 from (uh HBW).trans ((ht.mono (n' := w.heap.size) (by omega) (fun _ _ h => h)).to_below (fun q hq hd => by have : q = w.heap.size + 1 + 1 + 1 := hd; omega)))
  have HRO := Hd hro
  have hs1 := ht.size
  have HV := Hd (ZkX (uh HZ1).1 (uh HZ1).2.1 (uh HZ1).2.2 (.slice s.ad s.len s.cap) (.int .i64 0) (.int .i64 0))
  obtain ⟨v2, m2⟩ := (uh HZ1).1.c0
  obtain ⟨v3, m3⟩ := (uh HZ1).2.1.c0
  obtain ⟨v4, m4⟩ := (uh HZ1).2.2.c0
  have z2 := (uh HZ1).1.f0
  have z3 := (uh HZ1).2.1.f0
  have z4 := (uh HZ1).2.2.f0
  clear ht hblk hro
  go_wp2_with fail
  obtain ⟨⟨d0, d1, d2⟩, hsV, hbV, hkV⟩ := uh HV
  generalize (((w1.setCell ⟨w.heap.size, 0, none⟩ (.slice s.ad s.len s.cap)).setCell ⟨w.heap.size + 1, 0, none⟩ (.int .i64 0)).setCell ⟨w.heap.size + 1 + 1, 0, none⟩ (.int .i64 0)) = V at *
  refine leaves_cons (f := 64) (args := #[.pointer (some ⟨w.heap.size, 0, none⟩), .pointer (some ⟨w.heap.size + 1, 0, none⟩), .pointer (some ⟨w.heap.size + 1 + 1, 0, none⟩)]) (by simp) (by simp [go_sem]) ?_
  refine (ZiE _ _ _ _).mono ?_
  rintro e u' w3 ⟨rfl, rfl, hw3⟩
  obtain rfl : V = w3 := hw3.symm
  simp [Leaves, settle, results, Tryz.results32, go_sem, d0, d1, d2]
  exact ⟨⟨s, rfl, ((uh HRO).go (by omega) (fun q h1 _ _ => hkV q (by omega))).wide (by omega) (by omega) (Or.inl (by omega)), hcapS⟩, (uh HB1).trans hbV⟩
theorem Ze1 {w : World} {base : Nat} {e : TypeId} {size : Nat} {v : Value} {n : Nat} {xs : List Value} (h : w.ownsRow base e size v n xs) : ∃ ad cap, v = .slice ad n cap := by
 rcases h.2 with ⟨hv, hn⟩ | ⟨g, cap, cur, hv, _⟩
 · subst hn; exact ⟨none, 0, hv⟩
 exact ⟨_, cap, hv⟩
def ZaP (s : ByteArray) (l : List (Nat × Nat × Nat)) : List Tp.T := l.map fun t => ⟨(t.1 : Int), (t.2.1 : Int), s.extract t.2.1 (t.2.1 + t.2.2)⟩
theorem Zjz (s : ByteArray) (l : List (Nat × Nat × Nat)) : ∀ (i : Nat) (t : Nat × Nat × Nat), l[i]? = some t →
  (Tk.cells s l)[i * 3]? = some (.int .i64 (t.1 : Int)) ∧ (Tk.cells s l)[i * 3 + 1]? = some (.int .i64 (t.2.1 : Int)) ∧ (Tk.cells s l)[i * 3 + 2]? = some (.string (s.extract t.2.1 (t.2.1 + t.2.2))) := by
 induction l with
 | nil => intro i t h; simp at h
 | cons x r ih =>
  intro i t h
  cases i with
  | zero => simp at h; subst h; simp [Tk.cells]
  | succ i =>
   rw [List.getElem?_cons_succ] at h
   obtain ⟨h1, h2, h3⟩ := ih i t h
   have e : Tk.cells s (x :: r) = .int .i64 (x.1 : Int) :: .int .i64 (x.2.1 : Int) :: .string (s.extract x.2.1 (x.2.1 + x.2.2)) :: Tk.cells s r := rfl
   have e0 : (i + 1) * 3 = i * 3 + 1 + 1 + 1 := by omega
   rw [e, e0]
   exact ⟨h1, h2, h3⟩
theorem Tp.add_at (g j : Nat) : (⟨g, 0, none⟩ : Addr).add j = ⟨g, j, none⟩ := by unfold Addr.add; split <;> simp_all
theorem ZhB {w : World} {base : Nat} {ad : Option Addr} {n cap : Nat} {s : ByteArray} {l : List (Nat × Nat × Nat)} (h : w.ownsRow base 63 3 (.slice ad n cap) l.length (Tk.cells s l)) :
  Tp.RT w ad (ZaP s l) := by
 refine ⟨fun i t hi => ?_⟩
 unfold ZaP at hi
 rw [List.getElem?_map] at hi
 cases hx : l[i]? with
 | none => rw [hx] at hi; cases hi
 | some x =>
  rw [hx] at hi
  simp at hi
  subst hi
  have hn : 0 < l.length := by
   have := (List.getElem?_eq_some_iff.1 hx).1; omega
  obtain ⟨g, cap', hv, hg1, hg2⟩ := h.form hn
  have hc := h.cells (g := g) (by rw [hv]; rfl)
  obtain ⟨h1, h2, h3⟩ := Zjz s l i x hx
  cases hv
  refine ⟨g, 0, rfl, hg2, ?_, ?_, ?_⟩
  · have := hc _ _ h1; rw [Nat.zero_add]; rw [Tp.add_at] at this; exact this
  · have := hc _ _ h2; rw [Nat.zero_add]; rw [Tp.add_at] at this; exact this
  have := hc _ _ h3; rw [Nat.zero_add]; rw [Tp.add_at] at this; exact this
theorem Zc7 (t : ByteArray) (h : t.size ≤ 6000) : Zah t = Tk.scl (Tk.B t) 0 0 false [] := by
 unfold Zah
 rw [if_neg (by omega)]
theorem Zcp (s : ByteArray) (h : (Zah s).2.2 = 0) : s.size ≤ 6000 := by
 apply Classical.byContradiction; intro hh
 have : Zah s = ([], 0, 2) := by unfold Zah; rw [if_pos (by omega)]
 rw [this] at h; cases h
theorem ZiU (s : ByteArray) (h : (Zah s).2.2 = 0) : Tk.ordd s.size 0 (Zah s).1 := by
 have hs := Zcp s h
 rw [Zc7 s hs] at h ⊢
 obtain ⟨m, h1, h2⟩ := Tk.scl_ord (Tk.B s) 0 0 false [] (Nat.zero_le _) h
 rw [h1]
 simpa [Tk.B_length] using h2
theorem Ze4 (s : ByteArray) (a n : Nat) : Tk.B (s.extract a (a + n)) = ((Tk.B s).drop a).take n := by
 unfold Tk.B
 rw [Lib.extract_data, List.map_take, List.map_drop]
 congr 1
 omega
def ZlZ (l : List Tp.T) : Prop := ∀ x ∈ l, Tk.isTok x.k (Tk.B x.t) = true
theorem Tp.good (s : ByteArray) (h : (Zah s).2.2 = 0) : ZlZ (ZaP s (Zah s).1) := by
 have hs := Zcp s h
 rw [Zc7 s hs] at h ⊢
 obtain ⟨m, h1, h2⟩ := Tk.scl_toks (Tk.B s) 0 0 false [] h
 rw [h1, List.nil_append]
 intro x hx
 unfold ZaP at hx
 obtain ⟨t, ht, rfl⟩ := List.mem_map.1 hx
 obtain ⟨j, h3, h4⟩ := h2 t ht
 rw [Nat.zero_add] at h3
 show Tk.isTok (t.1 : Int) (Tk.B (s.extract t.2.1 (t.2.1 + t.2.2))) = true
 rw [Ze4, h3]
 exact h4
theorem ZdT (s : ByteArray) (h : (Zah s).2.2 = 0) : (ZaP s (Zah s).1).length ≤ 6000 := by
 have h1 := Tk.ordd_length s.size _ 0 (Nat.zero_le _) (ZiU s h)
 have h2 := Zcp s h
 unfold ZaP
 rw [List.length_map]
 omega
theorem ZgB (p : Int → Bool) : ∀ l : List Int, Tk.run p l = l.length → ∀ c ∈ l, p c = true
 | [], _, c, h => by cases h
 | a :: r, h, c, hc => by
  cases ha : p a
  · simp [Tk.run, ha] at h
  simp [Tk.run, ha] at h
  rcases List.mem_cons.1 hc with rfl | hc
  · exact ha
  exact ZgB p r h c hc
theorem Zit {l : List Int} (h : Tk.isTok 2 l = true) : (∀ c ∈ l, Tk.isD c = true) ∧ l.length ≤ 7 ∧ l ≠ [] := by
 obtain ⟨_, _, hb, hk, hn⟩ := (Tk.isTok_iff 2 l).1 h
 cases l with
 | nil => simp [Tk.bad] at hb
 | cons c r =>
  rw [Tk.bad_cons] at hb
  rw [Tk.tokK_cons] at hk
  rw [Tk.tokN_cons] at hn
  cases hl : Tk.isL c
  · cases hd : Tk.isD c
    · exfalso
      simp only [hl, hd, Zb, if_false] at hk
      split at hk
      · simp at hk
      split at hk <;> simp at hk
    simp only [hl, hd, Zb, if_false, if_true] at hb hn
    have hr : Tk.run Tk.isD r = r.length := by simpa using hn
    refine ⟨fun x hx => ?_, ?_, by simp⟩
    · rcases List.mem_cons.1 hx with rfl | hx
      · exact hd
      exact ZgB _ r hr x hx
    by_cases h7 : 7 < Tk.run Tk.isD r + 1
    · simp [h7] at hb
    rw [Zo]; omega
  simp [hl] at hk
theorem Zh7 : ∀ (l : List UInt8) (acc : Nat), (∀ b ∈ l, Tk.isD (b.toNat : Int) = true) → ∃ n, Lib.decFrom acc l = some n
 | [], acc, _ => ⟨acc, rfl⟩
 | b :: r, acc, h => by
  have hb : 48 ≤ b.toNat ∧ b.toNat ≤ 57 := by
   have := h b (List.mem_cons_self ..)
   simp [Tk.isD] at this
   omega
  have hd : Lib.digitVal b = some (b.toNat - 48) := by unfold Lib.digitVal; rw [if_pos hb]
  obtain ⟨n, hn⟩ := Zh7 r (acc * 10 + (b.toNat - 48)) fun x hx => h x (List.mem_cons_of_mem _ hx)
  exact ⟨n, by unfold Lib.decFrom; rw [hd]; exact hn⟩
theorem Zj8 {t : ByteArray} (h : Tk.isTok 2 (Tk.B t) = true) : ∃ n : Nat, Lib.decFrom 0 t.data.toList = some n ∧ Lib.atoi t.data.toList = some (n : Int) ∧ n < 100000000 ∧ t.size ≤ 7 ∧ 0 < t.size := by
 obtain ⟨h1, h2, h3⟩ := Zit h
 have hlen : t.size ≤ 7 := by rw [Tk.B_length] at h2; exact h2
 have hall : ∀ b ∈ t.data.toList, Tk.isD (b.toNat : Int) = true := fun b hb => h1 _ (List.mem_map_of_mem hb)
 obtain ⟨n, hn⟩ := Zh7 t.data.toList 0 hall
 have hlt := Lib.decFrom_lt _ 0 n hn
 have hl : t.data.toList.length ≤ 7 := by rw [← Lib.size_eq]; exact hlen
 have hpow := Nat.pow_le_pow_right (n := 10) (by decide) hl
 have e7 : (10 : Nat) ^ 7 = 10000000 := by decide
 have hpos : 0 < t.size := by
  have : (Tk.B t).length ≠ 0 := by intro hh; exact h3 (List.length_eq_zero_iff.1 hh)
  rw [Tk.B_length] at this
  omega
 refine ⟨n, hn, ?_, by omega, hlen, hpos⟩
 cases hL : t.data.toList with
 | nil =>
  rw [Lib.size_eq, hL] at hpos
  cases hpos
 | cons b r =>
  rw [hL] at hall hn
  have hb := hall b (List.mem_cons_self ..)
  have hb1 : 48 ≤ b.toNat ∧ b.toNat ≤ 57 := by simp [Tk.isD] at hb; omega
  have n45 : (b == 45) = false := by
   cases h : (b == 45)
   · rfl
   have : b = 45 := by simpa using h
   subst this
   exact absurd hb1.1 (by decide)
  have n43 : (b == 43) = false := by
   cases h : (b == 43)
   · rfl
   have : b = 43 := by simpa using h
   subst this
   exact absurd hb1.1 (by decide)
  unfold Lib.atoi
  simp only [n45, n43, Zb, if_false, Lib.decNat, List.isEmpty_cons, hn, Option.map_some]
theorem Tp.fine (s : ByteArray) (h : (Zah s).2.2 = 0) : Tp.Fine (ZaP s (Zah s).1) := by
 have hm := Zcp s h
 refine ⟨by have := ZdT s h; omega, fun i hi => ?_, fun i => ?_⟩
 · by_cases hl : i < (ZaP s (Zah s).1).length
   · have hx := Zg hl
     rw [Zci hx] at hi ⊢
     have hg := Tp.good s h _ (List.getElem_mem hl)
     rw [hi] at hg
     obtain ⟨n, _, h2, h3, h4, _⟩ := Zj8 hg
     exact ⟨n, h2, h3, by omega⟩
   rw [ZbV (by omega)] at hi
   cases hi
 by_cases hl : i < (ZaP s (Zah s).1).length
 · have hx := Zg hl
   rw [Zci hx]
   generalize (ZaP s (Zah s).1)[i] = x at *
   unfold ZaP at hx
   rw [List.getElem?_map] at hx
   cases hy : (Zah s).1[i]? with
   | none => rw [hy] at hx; cases hx
   | some y =>
    rw [hy] at hx
    simp at hx
    subst hx
    show (s.extract _ _).size ≤ maxLen
    rw [ByteArray.size_extract]
    unfold maxLen
    omega
 rw [ZbV (by omega)]
 show (0 : Nat) ≤ maxLen
 omega
theorem ZhU {w : World} {base : Nat} {e : TypeId} {size : Nat} {ad : Option Addr} {n m cap : Nat} {xs : List Value} (h : w.ownsRow base e size (.slice ad m cap) n xs) : ∀ b o, ad = some ⟨b, o, none⟩ → b < w.heap.size := by
 intro b o hb
 rcases h.2 with ⟨hv, hn⟩ | ⟨g, cap, cur, hv, hg, hh, r⟩
 · cases hv; cases hb
 cases hv
 cases hb
 exact (Array.getElem?_eq_some_iff.1 hh).1
def Tp.out (s : ByteArray) : Except (Int × Nat) (List (Tk.FT 61 6000)) :=
 if (Zah s).2.2 = 0 then
  match Tp.tree (ZaP s (Zah s).1) (s.size : Int) 6000 with
  | .error j => .error (Zaz (ZaP s (Zah s).1) (s.size : Int) j, 1)
  | .ok x => if Zay x = 0 then .ok x else .error (0, Zay x)
 else .error (((Zah s).2.1 : Int), (Zah s).2.2)
def ZiR (w : World) (o : Except (Int × Nat) (List (Tk.FT 61 6000))) (r : Ending) (w' : World) : Prop :=
 match o with
 | .error (a, y) => r = .returned (.tuple #[.agg #[.slice none 0 0], .int .i64 a, .int .i64 (y : Int)]) ∧ Below w.heap.size w w'
 | .ok x => (∃ s : Tk.Sl, r = .returned (.tuple #[.agg #[.slice s.ad s.len s.cap], .int .i64 0, .int .i64 0]) ∧ Tk.RT w' 61 6000 s x ∧ s.len ≤ s.cap) ∧ Below w.heap.size w w'
theorem ZjP (s : ByteArray) (w : World) (hs : s.size ≤ maxLen) (h0 : (Zah s).2.2 ≠ 0) :
  Calls Tryz.prog 13 #[.string s] w fun r w' => r = .returned (.tuple #[.agg #[.slice none 0 0], .int .i64 ((Zah s).2.1 : Int), .int .i64 ((Zah s).2.2 : Int)]) ∧ Below w.heap.size w w' := by
 have HS := Hd (fun (W : World) => show Calls Tryz.prog 14 #[.string s] W fun r w' => (∃ ad n cap, r = .returned (.tuple #[.slice ad n cap, .int .i64 ((Zah s).2.1 : Int), .int .i64 ((Zah s).2.2 : Int)])) ∧ Below W.heap.size W w' by
  refine (ZdC s W hs).mono ?_
  rintro r w' ⟨v, rfl, ho, hb⟩
  obtain ⟨ad, cap, rfl⟩ := Ze1 ho
  exact ⟨⟨ad, _, cap, rfl⟩, hb⟩)
 generalize (Zah s).2.1 = A at *
 generalize (Zah s).2.2 = Y at *
 have hy : ((Y : Int) != 0) = true := by simp; omega
 clear h0
 go_enter Tryz.func13, Tryz.ntmps13
 go_wp2_with fail
 have hbA := (Below.refl w.heap.size w).alloc Zl (Obj.cells #[.slice none 0 0] 24)
 have hzA : Tp.Z1 (w.alloc (Obj.cells #[.slice none 0 0] 24)) w.heap.size := ⟨⟨.slice none 0 0, by go_simp⟩, by go_simp⟩
 have HBA := Hd hbA
 have HZA := Hd hzA
 clear hbA hzA
 generalize (w.alloc (Obj.cells #[.slice none 0 0] 24)) = WA at *
 refine ((uh HS) _).mono ?_
 rintro r w1 ⟨⟨ad, n, cap, rfl⟩, hb1⟩
 have HZ1 := Hd ((uh HZA).kept (hb1.block _ (uh HZA).lt))
 have HB1 := Hd ((uh HBA).trans (hb1.mono (uh HBA).size))
 clear hb1
 obtain ⟨v0, m0⟩ := (uh HZ1).c0
 have z0 := (uh HZ1).f0
 go_wp2_with fail
 have s0 : (w1.setCell ⟨w.heap.size, 0, none⟩ (.slice none 0 0)).cell? ⟨w.heap.size, 0, none⟩ = some (.slice none 0 0) := World.cell?_setCell_same _ _ _ m0
 refine bodyPost_ret (v := .tuple #[.agg #[.slice none 0 0], .int .i64 (A : Int), .int .i64 (Y : Int)]) (by simp [results, Tryz.results13, go_sem, s0]) rfl ?_
 exact ⟨rfl, (uh HB1).setCell (p := ⟨w.heap.size, 0, none⟩) Zl _⟩
theorem ZiJ (s : ByteArray) (w : World) (hs : s.size ≤ maxLen) (h0 : (Zah s).2.2 = 0) (o : Except (Int × Nat) (List (Tk.FT 61 6000))) (ho : Tp.out s = o) :
  Calls Tryz.prog 13 #[.string s] w (ZiR w o) := by
 have hm : s.size ≤ 6000 := Zcp s h0
 have hO : o = (match Tp.tree (ZaP s (Zah s).1) (s.size : Int) 6000 with
  | .error j => .error (Zaz (ZaP s (Zah s).1) (s.size : Int) j, 1)
  | .ok x => if Zay x = 0 then .ok x else .error (0, Zay x)) := by
  rw [← ho]
  unfold Tp.out
  rw [if_pos h0]
 have HS := Hd (fun (W : World) => show Calls Tryz.prog 14 #[.string s] W fun r w' => (∃ ad cap, r = .returned (.tuple #[.slice ad (ZaP s (Zah s).1).length cap, .int .i64 ((Zah s).2.1 : Int), .int .i64 0]) ∧ Tp.RT w' ad (ZaP s (Zah s).1) ∧ ∀ b o, ad = some ⟨b, o, none⟩ → b < w'.heap.size) ∧ Below W.heap.size W w' by
  refine (ZdC s W hs).mono ?_
  rintro r w' ⟨v, rfl, ho, hb⟩
  obtain ⟨ad, cap, rfl⟩ := Ze1 ho
  refine ⟨⟨ad, cap, ?_, ZhB ho, ZhU ho⟩, hb⟩
  rw [h0, show (ZaP s (Zah s).1).length = (Zah s).1.length by unfold ZaP; rw [List.length_map]]
  rfl)
 have HP := Hd (fun (W : World) (ad : Option Addr) (cap : Nat) (h : Tp.RT W ad (ZaP s (Zah s).1)) (h2 : ∀ b o, ad = some ⟨b, o, none⟩ → b < W.heap.size) => Zkj (ZaP s (Zah s).1) ad cap (s.size : Int) 6000 (by have := ZdT s h0; omega) W h h2 (Tp.fine s h0))
 have HO := Hd hO
 clear hO ho h0
 generalize ZaP s (Zah s).1 = L at *
 generalize (Zah s).2.1 = A at *
 go_enter Tryz.func13, Tryz.ntmps13
 go_wp2_with fail
 have hbA := (Below.refl w.heap.size w).alloc Zl (Obj.cells #[.slice none 0 0] 24)
 have hzA : Tp.Z1 (w.alloc (Obj.cells #[.slice none 0 0] 24)) w.heap.size := ⟨⟨.slice none 0 0, by go_simp⟩, by go_simp⟩
 have HBA := Hd hbA
 have HZA := Hd hzA
 clear hbA hzA
 generalize (w.alloc (Obj.cells #[.slice none 0 0] 24)) = WA at *
 refine ((uh HS) _).mono ?_
 rintro r w1 ⟨⟨ad, cap, rfl, hrt, hlt⟩, hb1⟩
 have HZ1 := Hd ((uh HZA).kept (hb1.block _ (uh HZA).lt))
 have HB1 := Hd ((uh HBA).trans (hb1.mono (uh HBA).size))
 have HRT := Hd (And.intro hrt hlt)
 clear hb1 hrt hlt
 go_wp2_with fail
 refine ((uh HP) w1 ad cap (uh HRT).1 (uh HRT).2).mono ?_
 intro r w2 hq
 cases hd : Tp.tree L (s.size : Int) 6000 with
 | error j =>
  rw [hd] at hq
  obtain ⟨rfl, hb2⟩ := hq
  obtain rfl : o = .error (Zaz L (s.size : Int) j, 1) := by rw [uh HO, hd]
  have HZ2 := Hd ((uh HZ1).kept (hb2.block _ (uh HZ1).lt))
  have HB2 := Hd ((uh HB1).trans (hb2.mono (uh HB1).size))
  clear hb2
  obtain ⟨v0, m0⟩ := (uh HZ2).c0
  have z0 := (uh HZ2).f0
  have hltw := (uh HZ2).lt
  have HBF := Hd (((uh HB2).setCell (p := ⟨w.heap.size, 0, none⟩) Zl (.slice none 0 0)))
  have hzs : (w2.setCell ⟨w.heap.size, 0, none⟩ (.slice none 0 0)).heap.size = w2.heap.size := by simp [World.setCell]
  have hs0 : (w2.setCell ⟨w.heap.size, 0, none⟩ (.slice none 0 0)).cell? ⟨w.heap.size, 0, none⟩ = some (.slice none 0 0) := World.cell?_setCell_same _ _ _ m0
  have HS0 := Hd hs0
  clear hs0
  go_wp2_with fail
  have s0 := uh HS0
  generalize (w2.setCell ⟨w.heap.size, 0, none⟩ (.slice none 0 0)) = S at *
  have s3 : w.heap.size < S.heap.size := by omega
  refine bodyPost_ret (v := .tuple #[.agg #[.slice none 0 0], .int .i64 (Zaz L (s.size : Int) j), .int .i64 1]) (by simp [results, Tryz.results13, go_sem, s0, s3]) rfl ?_
  exact ⟨rfl, (uh HBF).alloc (by omega) _⟩
 | ok x =>
  rw [hd] at hq
  obtain ⟨⟨q, rfl, hrt, hcapQ⟩, hb2⟩ := hq
  have HO2 := Hd (show o = if Zay x = 0 then .ok x else .error (0, Zay x) by rw [uh HO, hd])
  have HZ2 := Hd ((uh HZ1).kept (hb2.block _ (uh HZ1).lt))
  have HB2 := Hd ((uh HB1).trans (hb2.mono (uh HB1).size))
  have hbC := (Below.refl w2.heap.size w2).alloc Zl (Obj.cells #[.slice q.ad q.len q.cap] 24)
  have hsC : (w2.alloc (Obj.cells #[.slice q.ad q.len q.cap] 24)).heap.size = w2.heap.size + 1 := by simp
  have HZC := Hd ((uh HZ2).kept (hbC.block _ (uh HZ2).lt))
  have HBC := Hd ((uh HB2).trans (hbC.mono (uh HB2).size))
  have HOW2 := Hd (hrt.go hbC.size (fun q _ _ hq => hbC.block q hq))
  have hw1 := (uh HZ1).lt
  have HCC := Hd (show (w2.alloc (Obj.cells #[.slice q.ad q.len q.cap] 24)).cell? ⟨w2.heap.size, 0, none⟩ = some (.slice q.ad q.len q.cap) by go_simp)
  have hltw := (uh HZ2).lt
  clear hb2 hbC hrt hd HO
  go_wp2_with fail
  generalize (w2.alloc (Obj.cells #[.slice q.ad q.len q.cap] 24)) = WC at *
  refine (ZcW q x WC (uh HOW2).now).mono ?_
  rintro r w3 ⟨rfl, hb3⟩
  have HZ3 := Hd ((uh HZC).kept (hb3.block _ (uh HZC).lt))
  have HB3 := Hd ((uh HBC).trans (hb3.mono (uh HBC).size))
  have HOW3 := Hd ((uh HOW2).go hb3.size (fun q _ _ hq => hb3.block q hq))
  have k0 : w3.cell? ⟨w2.heap.size, 0, none⟩ = some (.slice q.ad q.len q.cap) := (hb3.cell (p := ⟨w2.heap.size, 0, none⟩) (by show w2.heap.size < _; omega)).trans (uh HCC)
  have hs3 := hb3.size
  clear hb3
  obtain ⟨v0, m0⟩ := (uh HZ3).c0
  have z0 := (uh HZ3).f0
  have hne : w2.heap.size ≠ w.heap.size := by omega
  have hne2 : w.heap.size ≠ w2.heap.size := by omega
  generalize Zay x = y at *
  by_cases hy : y = 0
  · subst hy
    obtain rfl : o = .ok x := by rw [uh HO2]; rfl
    have hs0 : (w3.setCell ⟨w.heap.size, 0, none⟩ (.slice q.ad q.len q.cap)).cell? ⟨w.heap.size, 0, none⟩ = some (.slice q.ad q.len q.cap) := World.cell?_setCell_same _ _ _ m0
    have HS0 := Hd hs0
    have HBF := Hd ((uh HB3).setCell (p := ⟨w.heap.size, 0, none⟩) Zl (.slice q.ad q.len q.cap))
    clear hs0
    go_wp2_with fail
    have s0 := uh HS0
    refine bodyPost_ret (v := .tuple #[.agg #[.slice q.ad q.len q.cap], .int .i64 0, .int .i64 0]) (by simp [results, Tryz.results13, go_sem, s0]) rfl ?_
    exact ⟨⟨q, rfl, ((uh HOW3).go (by simp [World.setCell]) (fun q h1 _ _ => Below.heap_setCell _ _ _ _ (show q ≠ w.heap.size by omega))).now, hcapQ⟩, uh HBF⟩
  have hyb : (((y : Nat) : Int) != 0) = true := by simp; omega
  obtain rfl : o = .error (0, y) := by rw [uh HO2, if_neg hy]
  have hs0 : (w3.setCell ⟨w.heap.size, 0, none⟩ (.slice none 0 0)).cell? ⟨w.heap.size, 0, none⟩ = some (.slice none 0 0) := World.cell?_setCell_same _ _ _ m0
  have HS0 := Hd hs0
  have HBF := Hd ((uh HB3).setCell (p := ⟨w.heap.size, 0, none⟩) Zl (.slice none 0 0))
  clear hs0
  go_wp2_with fail
  have s0 := uh HS0
  refine bodyPost_ret (v := .tuple #[.agg #[.slice none 0 0], .int .i64 0, .int .i64 (y : Int)]) (by simp [results, Tryz.results13, go_sem, s0]) rfl ?_
  exact ⟨rfl, uh HBF⟩
theorem ZgC (s : ByteArray) (w : World) (hs : s.size ≤ maxLen) : Calls Tryz.prog 13 #[.string s] w (ZiR w (Tp.out s)) := by
 by_cases h0 : (Zah s).2.2 = 0
 · exact ZiJ s w hs h0 _ rfl
 unfold Tp.out
 rw [if_neg h0]
 exact ZjP s w hs h0
def ZaD : ByteArray := ⟨#[102, 117, 110, 99, 32, 102, 40, 97, 41, 32, 123, 10, 32, 32, 114, 101, 116, 117, 114, 110, 32, 40, 97, 32, 43, 32, 49, 41, 59, 10, 125, 10, 109, 97, 105, 110, 32, 123, 10, 32, 32, 118, 97, 114, 32, 120, 59, 10, 32, 32, 120, 32, 61, 32, 102, 40, 50, 41, 59, 10, 32, 32, 112, 114, 105, 110, 116, 32, 120, 59, 10, 125, 10]⟩
def Zg1 {m : Nat} : (n : Nat) → Zap m n → Int
 | 0, _ => 0
 | _ + 1, c => c.1.1
def Zf5 {m : Nat} : (n : Nat) → Zap m n → ByteArray
 | 0, _ => ⟨#[]⟩
 | _ + 1, c => c.1.2.2.2
def ZhT {m n : Nat} (x : List (Tk.FT m n)) : Bool := decide (x.length = 2) && match x[1]? with
 | none => false
 | some f => decide (f.cs.length = 2) && match f.cs[0]? with
  | none => false
  | some c => decide (Zg1 n c = 3) && (Zf5 n c).toList == [102]
def Zic : Bool := match Tp.out ZaD with
 | .error _ => false
 | .ok x => ZhT x && decide (Zay x = 0)
theorem ZiW : Zic = true := by decide +kernel
theorem Tk.RC.kind {W : World} {m : Nat} : ∀ (n : Nat) {C : Tk.C} {c : Zap m n}, Tk.RC W m n C c → C.k = Zg1 n c ∧ C.ot = Zf5 n c
 | 0, _, _, h => absurd h id
 | _ + 1, _, _, h => ⟨h.1.1.1, h.1.1.2.2.2⟩
theorem Tk.small_is : ∃ x f c, Tp.out ZaD = .ok x ∧ x.length = 2 ∧ x[1]? = some f ∧ f.cs.length = 2 ∧ f.cs[0]? = some c ∧ Zg1 6000 c = 3 ∧ ((Zf5 6000 c).toList == [102]) = true ∧ Zay x = 0 := by
 have h := ZiW
 unfold Zic at h
 cases ho : Tp.out ZaD with
 | error e => rw [ho] at h; cases h
 | ok x =>
  rw [ho] at h
  dsimp only at h
  rw [Bool.and_eq_true, decide_eq_true_eq] at h
  obtain ⟨h1, h2⟩ := h
  unfold ZhT at h1
  rw [Bool.and_eq_true, decide_eq_true_eq] at h1
  obtain ⟨h3, h4⟩ := h1
  cases hf : x[1]? with
  | none => rw [hf] at h4; cases h4
  | some f =>
   rw [hf] at h4
   dsimp only at h4
   rw [Bool.and_eq_true, decide_eq_true_eq] at h4
   obtain ⟨h5, h6⟩ := h4
   cases hc : f.cs[0]? with
   | none => rw [hc] at h6; cases h6
   | some c =>
    rw [hc] at h6
    dsimp only at h6
    rw [Bool.and_eq_true, decide_eq_true_eq] at h6
    exact ⟨x, f, c, rfl, h3, hf, h5, hc, h6.1, h6.2, h2⟩
theorem Zhe (w : World) : Calls Tryz.prog 9 #[] w fun r w' => r = .returned (.bool true) ∧ Below w.heap.size w w' := by
 obtain ⟨x, f, c, ho, hx2, hxf, hf2, hfc, hk, hot, hck⟩ := Tk.small_is
 have HP := Hd (show Calls Tryz.prog 13 #[.string ⟨#[102, 117, 110, 99, 32, 102, 40, 97, 41, 32, 123, 10, 32, 32, 114, 101, 116, 117, 114, 110, 32, 40, 97, 32, 43, 32, 49, 41, 59, 10, 125, 10, 109, 97, 105, 110, 32, 123, 10, 32, 32, 118, 97, 114, 32, 120, 59, 10, 32, 32, 120, 32, 61, 32, 102, 40, 50, 41, 59, 10, 32, 32, 112, 114, 105, 110, 116, 32, 120, 59, 10, 125, 10]⟩] w (ZiR w (.ok x)) from ho ▸ ZgC ZaD w (by decide))
 have HF := Hd (And.intro hx2 (And.intro hxf (And.intro hf2 (And.intro hfc (And.intro hk (And.intro hot hck))))))
 clear ho hx2 hxf hf2 hfc hk hot hck
 go_enter Tryz.func9, Tryz.ntmps9
 (try simp only [List.append_eq, List.cons_append, List.nil_append])
 go_wp2_with fail
 refine (uh HP).mono ?_
 rintro r w1 ⟨⟨q, rfl, hrt, _⟩, hb1⟩
 obtain ⟨hx2, hxf, hf2, hfc, hk, hot, hck⟩ := uh HF
 obtain ⟨b, o, E, had, hb, hlf, hrf⟩ := hrt.at_ 1 f hxf
 obtain ⟨b2, o2, C, had2, hb2, hlc, hrc⟩ := hrf.cs.at_ 0 c hfc
 obtain ⟨hk2, ho2⟩ := Tk.RC.kind 6000 hrc
 have hln : q.len = 2 := by rw [hrt.len]; exact hx2
 have hln2 : E.cs.len = 2 := by rw [hrf.cs.len]; exact hf2
 have hbN := (Below.refl w1.heap.size w1).alloc Zl (Obj.cells #[.slice q.ad q.len q.cap] 24)
 have e4 : (w1.alloc (Obj.cells #[.slice q.ad q.len q.cap] 24)).cell? ⟨b, o + 10 + 4, none⟩ = some (.slice E.cs.ad 2 E.cs.cap) := by
  rw [← hln2]
  exact (hbN.cell (p := ⟨b, o + 10 + 4, none⟩) hb).trans hlf.c4
 have e0 : (w1.alloc (Obj.cells #[.slice q.ad q.len q.cap] 24)).cell? ⟨b2, o2, none⟩ = some (.int .i64 3) := by
  rw [← hk, ← hk2]
  have h := hlc.c0
  rw [Nat.zero_mul, Nat.add_zero] at h
  exact (hbN.cell (p := ⟨b2, o2, none⟩) hb2).trans h
 have e3 : (w1.alloc (Obj.cells #[.slice q.ad q.len q.cap] 24)).cell? ⟨b2, o2 + 3, none⟩ = some (.string C.ot) := by
  have h := hlc.c3
  rw [Nat.zero_mul, Nat.add_zero] at h
  exact (hbN.cell (p := ⟨b2, o2 + 3, none⟩) hb2).trans h
 have hot2 : (C.ot.toList == [102]) = true := by rw [ho2]; exact hot
 have HC := Hd (ZcW q x _ (Tk.RT.later hrt hbN Zl))
 rw [hck] at HC
 have HB := Hd (hb1.trans (hbN.mono hb1.size))
 rw [had2] at e4
 rw [had, hln] at e4 e0 e3 HC HB
 clear hrt hlf hrf hlc hrc hbN hb1 HF hxf hfc hx2 hf2 hk hot hck hk2 ho2
 rw [had, hln]
 go_wp2_with fail
 refine (uh HC).mono ?_
 rintro r w2 ⟨rfl, hb3⟩
 have HB2 := Hd ((uh HB).trans (hb3.mono (uh HB).size))
 clear hb3
 go_wp2_with fail
 go_ret
 exact ⟨rfl, uh HB2⟩
end Go.Proofs.YtfccpddehpgfoaaGreatDoor
