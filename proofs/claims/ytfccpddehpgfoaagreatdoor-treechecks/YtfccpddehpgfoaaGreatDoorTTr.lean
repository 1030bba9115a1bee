/-
  The contract of tree's parser: tree. By the verifier.
-/
import Derived.Test.YtfccpddehpgfoaaGreatDoorTFn
import Derived.Deep.LoopGhost
import Derived.Deep.QuietTactic
import Derived.BigQuiet
set_option maxRecDepth 100000
set_option maxHeartbeats 3200000
namespace Go.Proofs.YtfccpddehpgfoaaGreatDoor
open Go.RowKit
set_option linter.unusedVariables false
theorem Tryz.infoTF : (Tryz.prog.info? 54).map (fun i => (i.zero, i.size, i.bytes)) = some (some (.agg #[.int .i64 0, .string ⟨#[]⟩, .slice none 0 0, .slice none 0 0, .slice none 0 0, .int .i64 0, .int .i64 0, .int .i64 0, .string ⟨#[]⟩, .slice none 0 0]), 10, 160) := by kernel_rfl
theorem Tryz.sizeTT : (Tryz.prog.info? 24).map (·.size) = some 1 := by kernel_rfl
structure Tp.Fs (l : List Tp.T) (ta : Option Addr) (c bp : Nat) (e : Int) (w0 : World) (cb n : Nat) (v : Value) (es : List Tk.F) (acc : List (Tk.FT 61 n)) (i : Nat) (W : World) : Prop where
 at_ : Tp.J l ta c bp e W i 0
 tu : Tp.Tu (fun q => q = bp ∨ q = cb) w0.heap.size w0 W
 box : W.cell? ⟨cb, 0, none⟩ = some v
 fz : ∀ j, W.frozen? ⟨cb, j, none⟩ = false
 row : Tp.Rw w0.heap.size bp W 54 10 (fun E : Tk.F => E.cells.toList) (fun W => Tk.RF W 61 n) v es acc
 pos : bp < cb ∧ cb < w0.heap.size
section
variable {l : List Tp.T} {ta : Option Addr} {c bp : Nat} {e : Int} {w0 W W1 : World} {cb n : Nat} {v : Value} {es : List Tk.F} {acc : List (Tk.FT 61 n)} {i j : Nat}
theorem Tp.Fs.step (h : Tp.Fs l ta c bp e w0 cb n v es acc i W) (hj : Tp.J l ta c bp e W1 j 0) (ht : Tp.Tu (Tp.D1 bp) W.heap.size W W1) : Tp.Fs l ta c bp e w0 cb n v es acc j W1 := by
 obtain ⟨p1, p2⟩ := h.pos
 have hz := h.tu.size
 have hb : W1.heap[cb]? = W.heap[cb]? := ht.block cb (by omega) (by show ¬ cb = bp; omega)
 exact ⟨hj, h.tu.then ht hz (fun q _ hq => Or.inl hq), (World.cell?_of_block (a := ⟨cb, 0, none⟩) hb).trans h.box, fun k => (World.frozen?_of_block (a := ⟨cb, k, none⟩) hb).trans (h.fz k),
  h.row.kept ht.size (by omega) (fun q h1 h2 => ht.block q h2 (by show ¬ q = bp; omega)), h.pos⟩
theorem Tp.Fs.app (h : Tp.Fs l ta c bp e w0 cb n v es acc i W) {E : Tk.F} {x : Tk.FT 61 n} {W6 : World} (hE : Tp.Ow w0.heap.size (Tp.blk bp v) W (fun W => Tk.RF W 61 n E x)) (hg : W.grownBy W6 v.ownBlock) {g cc : Nat}
  (ho : W6.ownsRow w0.heap.size 54 10 (.slice (some ⟨g, 0, none⟩) (es.length + 1) cc) (es.length + 1) (es.flatMap (fun E : Tk.F => E.cells.toList) ++ E.cells.toList)) (hat : v.ownBlock = some g ∨ W.heap.size ≤ g) :
  Tp.Fs l ta c bp e w0 cb n (.slice (some ⟨g, 0, none⟩) (es.length + 1) cc) (es ++ [E]) (acc ++ [x]) i (W6.setCell ⟨cb, 0, none⟩ (.slice (some ⟨g, 0, none⟩) (es.length + 1) cc)) := by
 obtain ⟨p1, p2⟩ := h.pos
 have hz := h.tu.size
 have hlow : ∀ q, q < w0.heap.size → W6.heap[q]? = W.heap[q]? := fun q hq => hg.block q (by omega) (fun e => by have := (h.row.row.lt q e.symm).1; omega)
 have hS : ∀ q, q ≠ cb → (W6.setCell ⟨cb, 0, none⟩ (.slice (some ⟨g, 0, none⟩) (es.length + 1) cc)).heap[q]? = W6.heap[q]? := fun q hq => Below.heap_setCell _ _ _ _ hq
 have hsz : (W6.setCell ⟨cb, 0, none⟩ (.slice (some ⟨g, 0, none⟩) (es.length + 1) cc)).heap.size = W6.heap.size := by simp [World.setCell]
 have hrow := h.row.app hE hg.size (by omega) (fun q _ h2 h3 => hg.block q h2 (fun e => h3 e.symm)) ho hat
 refine ⟨?_, ?_, ?_, fun j => ?_, hrow.kept (by omega) (by omega) (fun q h1 _ => hS q (by omega)), h.pos⟩
 · exact h.at_.kept (by have := hg.size; omega) (fun q hq => (hS q (by omega)).trans (hlow q (by omega)))
 · exact (h.tu.trans ⟨hg.os, hg.tape, hg.output, hg.size, fun q h1 _ => hlow q h1⟩).set (b := cb) (o := 0) _ (fun _ => Or.inr rfl)
 · exact World.cell?_setCell_same _ _ _ ((World.cell?_of_block (a := ⟨cb, 0, none⟩) (hlow cb p2)).trans h.box)
 · rw [World.frozen?_setCell]
   exact (World.frozen?_of_block (a := ⟨cb, j, none⟩) (hlow cb p2)).trans (h.fz j)
end
structure Tp.Fr (l : List Tp.T) (ta : Option Addr) (c bp : Nat) (e : Int) (w0 : World) (cb n : Nat) (om : Except Nat (List (Tk.FT 61 n) × Nat)) (f : Nat) (v : Value) (es : List Tk.F) (acc : List (Tk.FT 61 n)) (i : Nat) (W : World) : Prop where
 fs : Tp.Fs l ta c bp e w0 cb n v es acc i W
 is : Tp.funs l e n f i acc = om
 fuel : l.length < f + i
 many : es.length + f = l.length + 1
def Tp.OutT (l : List Tp.T) (bp : Nat) (e : Int) (n : Nat) (w : World) (o : Except Nat (List (Tk.FT 61 n))) (r : Ending) (w' : World) : Prop :=
 match o with
 | .error j => r = .panicked (Tp.gave (Tp.pl l e j)) ∧ Tp.Tu (Tp.D1 bp) w.heap.size w w'
 | .ok x => ∃ s : Tk.Sl, r = .returned (.agg #[.slice s.ad s.len s.cap]) ∧ Tp.Ow w.heap.size bp w' (fun W => Tk.RT W 61 n s x) ∧ Tp.Tu (Tp.D1 bp) w.heap.size w w'
theorem Tp.body_go {l : List Tp.T} {e : Int} {n i j : Nat} {x : List (ByteArray × Int) × List (Tk.CT 61 n)} (h : Tp.body l e n i = .ok (x, j)) : i < j := by
 unfold Tp.body at h
 cases h1 : Tp.want l ⟨#[123]⟩ i with
 | error j1 => rw [h1] at h; cases h
 | ok i1 =>
  rw [h1] at h
  dsimp only at h
  have g1 := Tp.want_ok h1
  cases h2 : Tp.vars l (l.length + 1) i1 [] with
  | error j1 => rw [h2] at h; cases h
  | ok p =>
   obtain ⟨vs, i2⟩ := p
   rw [h2] at h
   dsimp only at h
   have g2 := Tp.vars_go _ h2
   cases h3 : Tp.cmds l (Tp.cmd l e n) (l.length + 1) i2 [] with
   | error j1 => rw [h3] at h; cases h
   | ok p =>
    obtain ⟨cs, i3⟩ := p
    rw [h3] at h
    dsimp only at h
    have g3 := Tp.cmds_go (fun i x j h => Tp.cmd_go n h) _ h3
    cases h
    omega
theorem Tp.func_go {l : List Tp.T} {e : Int} {n i j : Nat} {x : Tk.FT 61 n} (h : Tp.func l e n i = .ok (x, j)) : i < j := by
 unfold Tp.func at h
 cases h1 : Tp.want l ⟨#[102, 117, 110, 99]⟩ i with
 | error j1 => rw [h1] at h; cases h
 | ok i1 =>
  rw [h1] at h
  dsimp only at h
  have g1 := Tp.want_ok h1
  cases h2 : Tp.name l i1 with
  | error j1 => rw [h2] at h; cases h
  | ok p =>
   obtain ⟨nm, i2⟩ := p
   rw [h2] at h
   dsimp only at h
   have g2 := Tp.name_ok h2
   cases h3 : Tp.list l (Tp.name l) i2 with
   | error j1 => rw [h3] at h; cases h
   | ok p =>
    obtain ⟨ps, i3⟩ := p
    rw [h3] at h
    dsimp only at h
    have g3 := Tp.list_go (fun i x j h => by have := Tp.name_ok h; omega) h3
    cases h4 : Tp.body l e n i3 with
    | error j1 => rw [h4] at h; cases h
    | ok p =>
     obtain ⟨⟨vs, cs⟩, i4⟩ := p
     rw [h4] at h
     dsimp only at h
     have g4 := Tp.body_go h4
     cases h5 : Tp.want l ⟨#[114, 101, 116, 117, 114, 110]⟩ i4 with
     | error j1 => rw [h5] at h; cases h
     | ok i5 =>
      rw [h5] at h
      dsimp only at h
      have g5 := Tp.want_ok h5
      cases h6 : Tp.expr l e 61 0 i5 with
      | error j1 => rw [h6] at h; cases h
      | ok p =>
       obtain ⟨y, i6⟩ := p
       rw [h6] at h
       dsimp only at h
       have g6 := Tp.expr_go 61 h6
       cases h7 : Tp.want l ⟨#[59]⟩ i6 with
       | error j1 => rw [h7] at h; cases h
       | ok i7 =>
        rw [h7] at h
        dsimp only at h
        have g7 := Tp.want_ok h7
        cases h8 : Tp.want l ⟨#[125]⟩ i7 with
        | error j1 => rw [h8] at h; cases h
        | ok i8 =>
         rw [h8] at h
         dsimp only at h
         have g8 := Tp.want_ok h8
         cases h
         omega
section
variable (l : List Tp.T) (ta : Option Addr) (c bp : Nat) (e : Int)
theorem ttree_any (n : Nat) (hn : l.length ≤ n) (w : World) (h : Tp.J l ta c bp e w 0 0) :
  Calls Tryz.prog 65 #[.pointer (some ⟨bp, 0, none⟩)] w (Tp.OutT l bp e n w (Tp.tree l e n)) := by
 obtain ⟨o, ho⟩ : ∃ o, Tp.tree l e n = o := ⟨_, rfl⟩
 rw [ho]
 have hlt := h.lt
 have HEQ := hide ho
 have hlf := h.fine.few
 obtain ⟨om, hom⟩ : ∃ om, Tp.funs l e n (l.length + 1) 0 [] = om := ⟨_, rfl⟩
 have HOM := hide hom
 obtain ⟨t0, hi0, hz0, hz1', hz2⟩ := Tp.info_of Tryz.infoTF
 have HI := hide hi0
 have HZ0 := hide hz0
 have HZ1 := hide hz1'
 have HZ2 := hide hz2
 have hbA : Below w.heap.size w ((w.alloc (Obj.cells #[.slice none 0 0] 24)).alloc (Obj.cells #[.slice none 0 0] 24)) := ((Below.refl _ _).alloc (Nat.le_refl _) _).alloc (by simp) _
 have hs0 : ((w.alloc (Obj.cells #[.slice none 0 0] 24)).alloc (Obj.cells #[.slice none 0 0] 24)).heap.size = w.heap.size + 2 := by simp
 have HFR := hide (show Tp.Fr l ta c bp e ((w.alloc (Obj.cells #[.slice none 0 0] 24)).alloc (Obj.cells #[.slice none 0 0] 24)) (w.heap.size + 1) n om (l.length + 1) (.slice none 0 0) [] [] 0 ((w.alloc (Obj.cells #[.slice none 0 0] 24)).alloc (Obj.cells #[.slice none 0 0] 24)) from
  ⟨⟨h.below hbA, Tp.Tu.refl _ _ _, by go_simp, fun j => by go_simp, Tp.Rw.nil _ _ _ _ _ _ _, ⟨by omega, by omega⟩⟩, hom, by omega, by simp⟩)
 have HX := hide (show ((w.alloc (Obj.cells #[.slice none 0 0] 24)).alloc (Obj.cells #[.slice none 0 0] 24)).cell? ⟨w.heap.size, 0, none⟩ = some (.slice none 0 0) ∧ ∀ j, ((w.alloc (Obj.cells #[.slice none 0 0] 24)).alloc (Obj.cells #[.slice none 0 0] 24)).frozen? ⟨w.heap.size, j, none⟩ = false from ⟨by go_simp, fun j => by go_simp⟩)
 have HT0 := hide hbA
 clear h ho hbA hi0 hz0 hz1' hz2 hom
 go_enter Tryz.func65, Tryz.ntmps65
 go_wp2_with fail
 generalize ((w.alloc (Obj.cells #[.slice none 0 0] 24)).alloc (Obj.cells #[.slice none 0 0] 24)) = w2 at *
 obtain ⟨cb, hcb⟩ : ∃ cb, w.heap.size + 1 = cb := ⟨_, rfl⟩
 rw [hcb] at HFR
 simp only [hcb]
 go_loopg [] (l.length + 1) (fun f wr => ∃ v es acc i, Tp.Fr l ta c bp e w2 cb n om f v es acc i wr)
 case atStart => exact ⟨_, _, _, _, unhide HFR⟩
 case round =>
  clear HFR
  obtain ⟨v, es, acc, i, hm⟩ := hrel
  have hf := hm.fuel
  have hle := hm.fs.at_.le
  have hmn := hm.many
  obtain ⟨f, rfl⟩ : ∃ f, gk = f + 1 := ⟨gk - 1, by omega⟩
  obtain ⟨ga, cap, rfl, hcap⟩ := hm.fs.row.form
  have HM := hide hm
  clear hm
  obtain ⟨y, hy⟩ : ∃ y, Tp.see l i ⟨#[102, 117, 110, 99]⟩ = y := ⟨_, rfl⟩
  have HY := hide hy
  go_wp2_with fail
  refine (tsees_any l ta c bp e ⟨#[102, 117, 110, 99]⟩ i 0 wr (unhide HM).fs.at_ y hy).mono ?_
  rintro r w4 ⟨rfl, hb4⟩
  have HS := hide ((unhide HM).fs.step ((unhide HM).fs.at_.below hb4) (Tp.Tu.of_below hb4))
  clear hb4 hy
  cases y
  · obtain rfl : om = .ok (acc, i) := by rw [← (unhide HM).is]; simp only [Tp.funs, unhide HY, Bool.false_eq_true, if_false]
    go_wp2_with fail
    have HSd := hide ((unhide HS).step ((unhide HS).at_.below (Below.refl _ _).drew) (Tp.Tu.of_below (Below.refl _ w4).drew))
    have hHeld : (fun V => V.cell? ⟨cb, 0, none⟩ = some (.slice ga es.length cap)) (w4).drew := (unhide HSd).box
    have HQ := hide (tmain_any l ta c bp e n hn i w4.drew ((unhide HS).at_.below (Below.refl _ _).drew))
    refine Rq.begin (fun j => Nat.beq j 7) (fun V => V.cell? ⟨cb, 0, none⟩ = some (.slice ga es.length cap)) (by kernel_rfl) hHeld (fun hHeld hcl => ?_)
    generalize (w4).drew = wd at *
    refine Rq.tk 0 (.pointer (some ⟨cb, 0, none⟩)) Rq.z (by kernel_rfl) (by kernel_rfl) (by kernel_rfl) (by kernel_rfl) (fun _ _ _ h => h) (by assumption) (by assumption) (by rfl) (fun w hSw => by (try dsimp only at hSw); go_simp) (fun hcl => ?_)
    (try simp only [Act.put, List.setIfInBounds_toArray, List.set_cons_zero, List.set_cons_succ])
    refine Rq.tk 1 (.slice ga es.length cap) (Rq.s Rq.z) (by kernel_rfl) (by kernel_rfl) (by kernel_rfl) (by kernel_rfl) (fun _ _ _ h => h) (by assumption) (by assumption) (by rfl) (fun w hSw => by (try dsimp only at hSw); go_simp) (fun hcl => ?_)
    (try simp only [Act.put, List.setIfInBounds_toArray, List.set_cons_zero, List.set_cons_succ])
    refine Rq.tk 2 (.pointer (some ⟨bp, 0, none⟩)) (Rq.s (Rq.s Rq.z)) (by kernel_rfl) (by kernel_rfl) (by kernel_rfl) (by kernel_rfl) (fun _ _ _ h => h) (by assumption) (by assumption) (by rfl) (fun w hSw => by (try dsimp only at hSw); go_simp) (fun hcl => ?_)
    (try simp only [Act.put, List.setIfInBounds_toArray, List.set_cons_zero, List.set_cons_succ])
    refine Rq.on 3 (Rq.s (Rq.s (Rq.s Rq.z))) (by kernel_rfl) (by assumption) (fun K hK => ?_)
    go_simp
    go_at_call 110
    refine (unhide HQ).mono ?_
    intro r w5 h5
    cases hnn : Tp.main l e n i with
    | error j =>
     rw [hnn] at h5
     obtain ⟨rfl, ht⟩ := h5
     obtain rfl : o = .error j := by rw [← unhide HEQ]; simp only [Tp.tree, unhide HOM, hnn]
     have HT := hide ((Tp.Tu.of_below (unhide HT0)).trans (((unhide HSd).tu.then ht (unhide HSd).tu.size (fun _ _ h => Or.inl h)).mono (by omega) (D' := Tp.D1 bp) (fun q hq h => by rcases h with h | h; exact h; omega)))
     clear ht hK
     go_simp
     exact ⟨rfl, rfl, unhide HT⟩
    | ok p =>
     obtain ⟨x, j⟩ := p
     rw [hnn] at h5
     obtain ⟨⟨E, rfl, hro⟩, hj, ht⟩ := h5
     have HNN := hide hnn
     have hrv := (unhide HSd).row.row
     have hlv := (unhide HSd).tu.size
     have hbp := (unhide HSd).pos
     have hE1 : Tp.Ow w2.heap.size (Tp.blk bp (.slice ga es.length cap)) w5 (fun W => Tk.RF W 61 n E x) := hro.wide (by omega) (by omega) (by
      unfold Tp.blk
      cases hq : (Value.slice ga es.length cap).ownBlock with
      | none => left; show bp < _; omega
      | some q => left; exact (hrv.lt q hq).2)
     have hbN := (Below.refl w5.heap.size w5).alloc (Nat.le_refl _) (Obj.cells #[.int .i64 E.a, .string E.nm, .slice E.ps.ad E.ps.len E.ps.cap, .slice E.vs.ad E.vs.len E.vs.cap, .slice E.cs.ad E.cs.len E.cs.cap, .int .i64 E.re.k, .int .i64 E.re.a, .int .i64 E.re.n, .string E.re.nm, .slice E.re.args.ad E.re.args.len E.re.args.cap] 54)
     have HEO := hide (hE1.go hbN.size (fun q _ _ hq => hbN.block q hq))
     have hL1 := (unhide HSd).step hj ht
     have HL1 := hide hL1
     have HL2 := hide (hL1.step (hj.below hbN) (Tp.Tu.of_below hbN))
     have HBK := hide (heap_alloc_new w5 (Obj.cells #[.int .i64 E.a, .string E.nm, .slice E.ps.ad E.ps.len E.ps.cap, .slice E.vs.ad E.vs.len E.vs.cap, .slice E.cs.ad E.cs.len E.cs.cap, .int .i64 E.re.k, .int .i64 E.re.a, .int .i64 E.re.n, .string E.re.nm, .slice E.re.args.ad E.re.args.len E.re.args.cap] 54))
     have hs2 : w2.heap.size ≤ (w5.alloc (Obj.cells #[.int .i64 E.a, .string E.nm, .slice E.ps.ad E.ps.len E.ps.cap, .slice E.vs.ad E.vs.len E.vs.cap, .slice E.cs.ad E.cs.len E.cs.cap, .int .i64 E.re.k, .int .i64 E.re.a, .int .i64 E.re.n, .string E.re.nm, .slice E.re.args.ad E.re.args.len E.re.args.cap] 54)).heap.size := (unhide HL2).tu.size
     clear hj ht hbN hL1 hE1 hro hrv hlv hHeld hcl HSd HS hnn HQ
     unfold Tk.F.cells
     go_simp
     refine hK _ _ (fun _ => (unhide HL1).box) (fun hcl => ?_)
     (try simp only [Act.put, List.setIfInBounds_toArray, List.set_cons_zero, List.set_cons_succ])
     clear hK K
     refine Rq.on 4 (Rq.s (Rq.s (Rq.s (Rq.s Rq.z)))) (by kernel_rfl) (by assumption) (fun K hK => ?_)
     go_simp
     refine hK _ _ (fun _ => (unhide HL2).box) (fun hcl => ?_)
     (try simp only [Act.put, List.setIfInBounds_toArray, List.set_cons_zero, List.set_cons_succ])
     clear hK K
     generalize hwN : (w5.alloc (Obj.cells #[.int .i64 E.a, .string E.nm, .slice E.ps.ad E.ps.len E.ps.cap, .slice E.vs.ad E.vs.len E.vs.cap, .slice E.cs.ad E.cs.len E.cs.cap, .int .i64 E.re.k, .int .i64 E.re.a, .int .i64 E.re.n, .string E.re.nm, .slice E.re.args.ad E.re.args.len E.re.args.cap] 54)) = wN at *
     clear hwN
     refine Rq.on 5 (Rq.s (Rq.s (Rq.s (Rq.s (Rq.s Rq.z))))) (by kernel_rfl) (by assumption) (fun K hK => ?_)
     refine step_append_lies _ rfl (.tmp 14) (.tmp 17) 22 rfl w2.heap.size 54 t0 _ 10 160 Tryz.underlying22 (unhide HI) (unhide HZ0) (unhide HZ1) (unhide HZ2) rfl (by omega) (.slice ga es.length cap) es.length (es.flatMap (fun E : Tk.F => E.cells.toList)) rfl (unhide HL2).row.row _ 1 1 [.int .i64 E.a, .string E.nm, .slice E.ps.ad E.ps.len E.ps.cap, .slice E.vs.ad E.vs.len E.vs.cap, .slice E.cs.ad E.cs.len E.cs.cap, .int .i64 E.re.k, .int .i64 E.re.a, .int .i64 E.re.n, .string E.re.nm, .slice E.re.args.ad E.re.args.len E.re.args.cap] rfl rfl (World.news_of_block (unhide HBK)) (by simp [Value.oneCell']) (by omega) (by unfold maxLen; omega) (by omega) hs2 _ rfl ?_
     intro gA cA w6 hoA hgA hatA hltA
     have hA := (unhide HL2).app (x := x) (E := E) (unhide HEO) hgA hoA (hatA.imp id (fun e => by rw [e]; exact Nat.le_refl _))
     have hrow := (unhide HL2).row.row
     have hbp2 := (unhide HL2).pos
     have hz2 := (unhide HL2).tu.size
     have hlow : ∀ q, q < w2.heap.size → w6.heap[q]? = wN.heap[q]? := fun q hq => hgA.block q (by omega) (fun e => by have := (hrow.lt q e.symm).1; omega)
     have z4 : w6.cell? ⟨cb, 0, none⟩ = some (.slice ga es.length cap) := (World.cell?_of_block (a := ⟨cb, 0, none⟩) (hlow cb hbp2.2)).trans (unhide HL2).box
     have z5 : w6.frozen? ⟨cb, 0, none⟩ = false := (World.frozen?_of_block (a := ⟨cb, 0, none⟩) (hlow cb hbp2.2)).trans ((unhide HL2).fz 0)
     have HA := hide hA
     clear hA hatA hltA hoA hgA hlow hrow hz2
     refine hK _ _ (fun _ => z4) (fun hcl => ?_)
     (try simp only [Act.put, List.setIfInBounds_toArray, List.set_cons_zero, List.set_cons_succ])
     clear hK K
     refine Rq.on 6 (Rq.s (Rq.s (Rq.s (Rq.s (Rq.s (Rq.s Rq.z)))))) (by kernel_rfl) (by assumption) (fun K hK => ?_)
     go_simp
     refine hK _ _ (fun _ => z4) (fun hcl => ?_)
     (try simp only [Act.put, List.setIfInBounds_toArray, List.set_cons_zero, List.set_cons_succ])
     clear hK K
     refine Rq.on 7 (Rq.s (Rq.s (Rq.s (Rq.s (Rq.s (Rq.s (Rq.s Rq.z))))))) (by kernel_rfl) (by assumption) (fun K hK => ?_)
     go_simp
     refine hK _ _ (fun e => absurd e (by decide)) (fun hcl => ?_)
     (try simp only [Act.put, List.setIfInBounds_toArray, List.set_cons_zero, List.set_cons_succ])
     refine Rq.done (by kernel_rfl) ?_ _
     clear hK K z4 z5 hcl
     generalize (w6.setCell ⟨cb, 0, none⟩ (.slice (some ⟨gA, 0, none⟩) (es.length + 1) cA)) = w7 at *
     obtain ⟨c0, c1, c2, c3, cf⟩ := (unhide HA).at_.p
     have hjl := (unhide HA).at_.le
     have hs7 := (unhide HA).tu.size
     have hRb : w7.heap[w.heap.size]? = w2.heap[w.heap.size]? := (unhide HA).tu.block _ (by omega) (by omega)
     have hRx : w7.cell? ⟨w.heap.size, 0, none⟩ = some (.slice none 0 0) := (World.cell?_of_block (a := ⟨w.heap.size, 0, none⟩) hRb).trans (unhide HX).1
     have hRf : w7.frozen? ⟨w.heap.size, 0, none⟩ = false := (World.frozen?_of_block (a := ⟨w.heap.size, 0, none⟩) hRb).trans ((unhide HX).2 0)
     have HT7 := hide ((Tp.Tu.of_below (unhide HT0)).trans ((unhide HA).tu.mono (by omega) (D' := Tp.D1 bp) (fun q hq h => by rcases h with h | h; exact h; omega)))
     have hbx := (unhide HA).box
     have hll := (unhide HA).at_.fine.few
     have HG := hide (fun (W : World) (hb : Below w7.heap.size w7 W) => tgive_any l ta c bp e j 0 W ((unhide HA).at_.below hb))
     by_cases hjn : j < l.length
     · have hq1 : ((j : Int) < (l.length : Int)) := by omega
       obtain rfl : o = .error j := by rw [← unhide HEQ]; simp only [Tp.tree, unhide HOM, unhide HNN, if_pos hjn]
       go_upto_region 5 with fail
       go_quiet (fail)
       go_wp2_with fail
       refine ((unhide HG) _ (below_drewN (Below.refl _ _) _)).mono ?_
       rintro r w9 ⟨rfl, hb9⟩
       have hbd := below_drewN (Below.refl w7.heap.size w7) nq
       have HT9 := hide (((unhide HT7).below hbd (by omega)).below hb9 (by have := hbd.size; omega))
       clear hbd
       clear hb9
       go_wp2_with fail
       exact ⟨rfl, rfl, unhide HT9⟩
     · have hq1 : ¬ ((j : Int) < (l.length : Int)) := by omega
       obtain rfl : o = .ok (acc ++ [x]) := by rw [← unhide HEQ]; simp only [Tp.tree, unhide HOM, unhide HNN, if_neg hjn]
       go_upto_region 5 with fail
       go_quiet (fail)
       have hbd := below_drewN (Below.refl w7.heap.size w7) nq
       obtain ⟨s, hv, hs⟩ := (unhide HA).row.reads (by omega) (fun _ => rfl) Tk.F.lies_cl (by have h1 := (unhide HA).row.len; rw [List.length_append] at h1; simp at h1 ⊢; omega)
       have HAB := hide ((unhide HA).step ((unhide HA).at_.below hbd) (Tp.Tu.of_below hbd))
       have HSS := hide (hs.go hbd.size (fun q _ _ hq => hbd.block q hq))
       have hrx : (w7.drewN nq).cell? ⟨w.heap.size, 0, none⟩ = some (.slice none 0 0) := (World.cell?_of_block (a := ⟨w.heap.size, 0, none⟩) (hbd.block w.heap.size (by omega))).trans hRx
       have hrf : (w7.drewN nq).frozen? ⟨w.heap.size, 0, none⟩ = false := (World.frozen?_of_block (a := ⟨w.heap.size, 0, none⟩) (hbd.block w.heap.size (by omega))).trans hRf
       have hbx2 := (unhide HAB).box
       rw [hv] at hbx2
       have HT8 := hide (((unhide HT7).below hbd (by omega)).set (b := w.heap.size) (o := 0) (.slice s.ad s.len s.cap) (by omega))
       have hsd := hbd.size
       clear hbd hs hRx hRf hbx c0 c1 c2 c3 cf
       generalize w7.drewN nq = wq at *
       go_wp2_with fail
       have s0 : (wq.setCell ⟨w.heap.size, 0, none⟩ (.slice s.ad s.len s.cap)).cell? ⟨w.heap.size, 0, none⟩ = some (.slice s.ad s.len s.cap) := World.cell?_setCell_same _ _ _ hrx
       refine bodyPost_ret (v := .agg #[.slice s.ad s.len s.cap]) (by simp [results, Tryz.results65, go_sem, s0]) rfl ?_
       exact ⟨s, rfl, ((unhide HSS).go (by simp [World.setCell]) (fun q h1 _ _ => Below.heap_setCell _ _ _ _ (show q ≠ w.heap.size by omega))).wide (B' := w.heap.size) (g' := bp) (by omega) (by omega) (Or.inl (by omega)), unhide HT8⟩
  · go_wp2_with fail
    have HSd := hide ((unhide HS).step ((unhide HS).at_.below (Below.refl _ _).drew) (Tp.Tu.of_below (Below.refl _ w4).drew))
    have hHeld : (fun V => V.cell? ⟨cb, 0, none⟩ = some (.slice ga es.length cap)) (w4).drew := (unhide HSd).box
    have HQ := hide (tfunction_any l ta c bp e n hn i w4.drew ((unhide HS).at_.below (Below.refl _ _).drew))
    refine Rq.begin (fun j => Nat.beq j 7) (fun V => V.cell? ⟨cb, 0, none⟩ = some (.slice ga es.length cap)) (by kernel_rfl) hHeld (fun hHeld hcl => ?_)
    generalize (w4).drew = wd at *
    refine Rq.tk 0 (.pointer (some ⟨cb, 0, none⟩)) Rq.z (by kernel_rfl) (by kernel_rfl) (by kernel_rfl) (by kernel_rfl) (fun _ _ _ h => h) (by assumption) (by assumption) (by rfl) (fun w hSw => by (try dsimp only at hSw); go_simp) (fun hcl => ?_)
    (try simp only [Act.put, List.setIfInBounds_toArray, List.set_cons_zero, List.set_cons_succ])
    refine Rq.tk 1 (.slice ga es.length cap) (Rq.s Rq.z) (by kernel_rfl) (by kernel_rfl) (by kernel_rfl) (by kernel_rfl) (fun _ _ _ h => h) (by assumption) (by assumption) (by rfl) (fun w hSw => by (try dsimp only at hSw); go_simp) (fun hcl => ?_)
    (try simp only [Act.put, List.setIfInBounds_toArray, List.set_cons_zero, List.set_cons_succ])
    refine Rq.tk 2 (.pointer (some ⟨bp, 0, none⟩)) (Rq.s (Rq.s Rq.z)) (by kernel_rfl) (by kernel_rfl) (by kernel_rfl) (by kernel_rfl) (fun _ _ _ h => h) (by assumption) (by assumption) (by rfl) (fun w hSw => by (try dsimp only at hSw); go_simp) (fun hcl => ?_)
    (try simp only [Act.put, List.setIfInBounds_toArray, List.set_cons_zero, List.set_cons_succ])
    refine Rq.on 3 (Rq.s (Rq.s (Rq.s Rq.z))) (by kernel_rfl) (by assumption) (fun K hK => ?_)
    go_simp
    go_at_call 109
    refine (unhide HQ).mono ?_
    intro r w5 h5
    cases hnn : Tp.func l e n i with
    | error j =>
     rw [hnn] at h5
     obtain ⟨rfl, ht⟩ := h5
     obtain rfl : om = .error j := by rw [← (unhide HM).is]; simp only [Tp.funs, unhide HY, if_true, hnn]
     obtain rfl : o = .error j := by rw [← unhide HEQ]; simp only [Tp.tree, unhide HOM]
     have HT := hide ((Tp.Tu.of_below (unhide HT0)).trans (((unhide HSd).tu.then ht (unhide HSd).tu.size (fun _ _ h => Or.inl h)).mono (by omega) (D' := Tp.D1 bp) (fun q hq h => by rcases h with h | h; exact h; omega)))
     clear ht hK
     go_simp
     exact ⟨rfl, rfl, unhide HT⟩
    | ok p =>
     obtain ⟨x, j⟩ := p
     rw [hnn] at h5
     obtain ⟨⟨E, rfl, hro⟩, hj, ht⟩ := h5
     have hgo := Tp.func_go hnn
     have HIS := hide (show Tp.funs l e n f j (acc ++ [x]) = om by rw [← (unhide HM).is]; simp only [Tp.funs, unhide HY, if_true, hnn])
     have hrv := (unhide HSd).row.row
     have hlv := (unhide HSd).tu.size
     have hbp := (unhide HSd).pos
     have hE1 : Tp.Ow w2.heap.size (Tp.blk bp (.slice ga es.length cap)) w5 (fun W => Tk.RF W 61 n E x) := hro.wide (by omega) (by omega) (by
      unfold Tp.blk
      cases hq : (Value.slice ga es.length cap).ownBlock with
      | none => left; show bp < _; omega
      | some q => left; exact (hrv.lt q hq).2)
     have hbN := (Below.refl w5.heap.size w5).alloc (Nat.le_refl _) (Obj.cells #[.int .i64 E.a, .string E.nm, .slice E.ps.ad E.ps.len E.ps.cap, .slice E.vs.ad E.vs.len E.vs.cap, .slice E.cs.ad E.cs.len E.cs.cap, .int .i64 E.re.k, .int .i64 E.re.a, .int .i64 E.re.n, .string E.re.nm, .slice E.re.args.ad E.re.args.len E.re.args.cap] 54)
     have HEO := hide (hE1.go hbN.size (fun q _ _ hq => hbN.block q hq))
     have hL1 := (unhide HSd).step hj ht
     have HL1 := hide hL1
     have HL2 := hide (hL1.step (hj.below hbN) (Tp.Tu.of_below hbN))
     have HBK := hide (heap_alloc_new w5 (Obj.cells #[.int .i64 E.a, .string E.nm, .slice E.ps.ad E.ps.len E.ps.cap, .slice E.vs.ad E.vs.len E.vs.cap, .slice E.cs.ad E.cs.len E.cs.cap, .int .i64 E.re.k, .int .i64 E.re.a, .int .i64 E.re.n, .string E.re.nm, .slice E.re.args.ad E.re.args.len E.re.args.cap] 54))
     have hs2 : w2.heap.size ≤ (w5.alloc (Obj.cells #[.int .i64 E.a, .string E.nm, .slice E.ps.ad E.ps.len E.ps.cap, .slice E.vs.ad E.vs.len E.vs.cap, .slice E.cs.ad E.cs.len E.cs.cap, .int .i64 E.re.k, .int .i64 E.re.a, .int .i64 E.re.n, .string E.re.nm, .slice E.re.args.ad E.re.args.len E.re.args.cap] 54)).heap.size := (unhide HL2).tu.size
     clear hj ht hbN hL1 hE1 hro hrv hlv hHeld hcl HSd HS hnn HQ
     unfold Tk.F.cells
     go_simp
     refine hK _ _ (fun _ => (unhide HL1).box) (fun hcl => ?_)
     (try simp only [Act.put, List.setIfInBounds_toArray, List.set_cons_zero, List.set_cons_succ])
     clear hK K
     refine Rq.on 4 (Rq.s (Rq.s (Rq.s (Rq.s Rq.z)))) (by kernel_rfl) (by assumption) (fun K hK => ?_)
     go_simp
     refine hK _ _ (fun _ => (unhide HL2).box) (fun hcl => ?_)
     (try simp only [Act.put, List.setIfInBounds_toArray, List.set_cons_zero, List.set_cons_succ])
     clear hK K
     generalize hwN : (w5.alloc (Obj.cells #[.int .i64 E.a, .string E.nm, .slice E.ps.ad E.ps.len E.ps.cap, .slice E.vs.ad E.vs.len E.vs.cap, .slice E.cs.ad E.cs.len E.cs.cap, .int .i64 E.re.k, .int .i64 E.re.a, .int .i64 E.re.n, .string E.re.nm, .slice E.re.args.ad E.re.args.len E.re.args.cap] 54)) = wN at *
     clear hwN
     refine Rq.on 5 (Rq.s (Rq.s (Rq.s (Rq.s (Rq.s Rq.z))))) (by kernel_rfl) (by assumption) (fun K hK => ?_)
     refine step_append_lies _ rfl (.tmp 7) (.tmp 10) 22 rfl w2.heap.size 54 t0 _ 10 160 Tryz.underlying22 (unhide HI) (unhide HZ0) (unhide HZ1) (unhide HZ2) rfl (by omega) (.slice ga es.length cap) es.length (es.flatMap (fun E : Tk.F => E.cells.toList)) rfl (unhide HL2).row.row _ 1 1 [.int .i64 E.a, .string E.nm, .slice E.ps.ad E.ps.len E.ps.cap, .slice E.vs.ad E.vs.len E.vs.cap, .slice E.cs.ad E.cs.len E.cs.cap, .int .i64 E.re.k, .int .i64 E.re.a, .int .i64 E.re.n, .string E.re.nm, .slice E.re.args.ad E.re.args.len E.re.args.cap] rfl rfl (World.news_of_block (unhide HBK)) (by simp [Value.oneCell']) (by omega) (by unfold maxLen; omega) (by omega) hs2 _ rfl ?_
     intro gA cA w6 hoA hgA hatA hltA
     have hA := (unhide HL2).app (x := x) (E := E) (unhide HEO) hgA hoA (hatA.imp id (fun e => by rw [e]; exact Nat.le_refl _))
     have hrow := (unhide HL2).row.row
     have hbp2 := (unhide HL2).pos
     have hz2 := (unhide HL2).tu.size
     have hlow : ∀ q, q < w2.heap.size → w6.heap[q]? = wN.heap[q]? := fun q hq => hgA.block q (by omega) (fun e => by have := (hrow.lt q e.symm).1; omega)
     have z4 : w6.cell? ⟨cb, 0, none⟩ = some (.slice ga es.length cap) := (World.cell?_of_block (a := ⟨cb, 0, none⟩) (hlow cb hbp2.2)).trans (unhide HL2).box
     have z5 : w6.frozen? ⟨cb, 0, none⟩ = false := (World.frozen?_of_block (a := ⟨cb, 0, none⟩) (hlow cb hbp2.2)).trans ((unhide HL2).fz 0)
     have HA := hide hA
     clear hA hatA hltA hoA hgA hlow hrow hz2
     refine hK _ _ (fun _ => z4) (fun hcl => ?_)
     (try simp only [Act.put, List.setIfInBounds_toArray, List.set_cons_zero, List.set_cons_succ])
     clear hK K
     refine Rq.on 6 (Rq.s (Rq.s (Rq.s (Rq.s (Rq.s (Rq.s Rq.z)))))) (by kernel_rfl) (by assumption) (fun K hK => ?_)
     go_simp
     refine hK _ _ (fun _ => z4) (fun hcl => ?_)
     (try simp only [Act.put, List.setIfInBounds_toArray, List.set_cons_zero, List.set_cons_succ])
     clear hK K
     refine Rq.on 7 (Rq.s (Rq.s (Rq.s (Rq.s (Rq.s (Rq.s (Rq.s Rq.z))))))) (by kernel_rfl) (by assumption) (fun K hK => ?_)
     go_simp
     refine hK _ _ (fun e => absurd e (by decide)) (fun hcl => ?_)
     (try simp only [Act.put, List.setIfInBounds_toArray, List.set_cons_zero, List.set_cons_succ])
     refine Rq.done (by kernel_rfl) ?_ _
     clear hK K z4 z5 hcl
     generalize (w6.setCell ⟨cb, 0, none⟩ (.slice (some ⟨gA, 0, none⟩) (es.length + 1) cA)) = w7 at *
     go_wp2_with fail
     go_roundg f
     case measure => omega
     case rel => exact ⟨_, es ++ [E], acc ++ [x], j, unhide HA, unhide HIS, by omega, by rw [List.length_append]; simp; omega⟩
end
end Go.Proofs.YtfccpddehpgfoaaGreatDoor
