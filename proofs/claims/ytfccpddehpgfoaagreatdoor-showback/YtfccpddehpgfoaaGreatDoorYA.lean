/- By the verifier. -/
import Derived.Test.YtfccpddehpgfoaaGreatDoorXD
set_option maxRecDepth 100000
set_option maxHeartbeats 800000
namespace Go.Proofs.YtfccpddehpgfoaaGreatDoor
open Go.RowKit
set_option linter.unusedVariables false
def Pr.set (num : Int → ByteArray) (k : Nat) {m : Nat} (nm : ByteArray) (x : Zat m) : List UInt8 := ZaW k [nm, ⟨#[32, 61, 32]⟩, Pr.text num m x, ⟨#[59]⟩]
def Pr.put (num : Int → ByteArray) (k : Nat) {m : Nat} (nm : ByteArray) (i x : Zat m) : List UInt8 := ZaW k [Pr.cell nm (Pr.text num m i), ⟨#[32, 61, 32]⟩, Pr.text num m x, ⟨#[59]⟩]
def Pr.read (k : Nat) (nm : ByteArray) : List UInt8 := ZaW k [nm, ⟨#[32, 61, 32, 114, 101, 97, 100, 59]⟩]
abbrev Sp.S1 (p : Nat) (q : Tk.C) (cs : Array Value) (V : World) : Prop := V.cell? ⟨p, 2, none⟩ = some (.string q.nm) ∧ V.cell? ⟨p, 9, none⟩ = some (.int .i64 q.ex.k) ∧ V.cell? ⟨p, 10, none⟩ = some (.int .i64 q.ex.a) ∧ V.cell? ⟨p, 11, none⟩ = some (.int .i64 q.ex.n) ∧ V.cell? ⟨p, 12, none⟩ = some (.string q.ex.nm) ∧ V.cell? ⟨p, 13, none⟩ = some (.slice q.ex.args.ad q.ex.args.len q.ex.args.cap) ∧ V.heap[p]? = some (.cells cs 56 (0, 0))
theorem Sp.S1.of {p : Nat} {q : Tk.C} {V : World} (h : V.heap[p]? = some (.cells q.cells 56 (0, 0))) : Sp.S1 p q q.cells V := ⟨Zad h 2 _ rfl, Zad h 9 _ rfl, Zad h 10 _ rfl, Zad h 11 _ rfl, Zad h 12 _ rfl, Zad h 13 _ rfl, h⟩
theorem Sp.S1.same {p : Nat} {q : Tk.C} {cs : Array Value} {V V' : World} (h : Sp.S1 p q cs V) (hh : V'.heap[p]? = V.heap[p]?) : Sp.S1 p q cs V' := by
 have hc : ∀ j, V'.cell? ⟨p, j, none⟩ = V.cell? ⟨p, j, none⟩ := fun j => Zc (a := ⟨p, j, none⟩) hh
 obtain ⟨a2, a9, a10, a11, a12, a13, hb⟩ := h
 exact ⟨(hc 2).trans a2, (hc 9).trans a9, (hc 10).trans a10, (hc 11).trans a11, (hc 12).trans a12, (hc 13).trans a13, hh.trans hb⟩
theorem Sp.S1.below {p : Nat} {q : Tk.C} {cs : Array Value} {V V' : World} (h : Sp.S1 p q cs V) (hb : Below V.heap.size V V') : Sp.S1 p q cs V' := h.same (hb.block p (World.block_lt_of_cell? V _ h.1))
theorem Sp.S1.go {p B d : Nat} {q : Tk.C} {cs : Array Value} {V V' : World} (h : Sp.S1 p q cs V) (hg : Sp.Go B d V V') (hp : p ≠ d) : Sp.S1 p q cs V' := by
 obtain ⟨a2, a9, a10, a11, a12, a13, hb⟩ := id h
 exact h.same ((hg.box hp hb (by decide)).trans hb.symm)
abbrev Sp.S2 (p : Nat) (q : Tk.C) (cs : Array Value) (V : World) : Prop := V.cell? ⟨p, 2, none⟩ = some (.string q.nm) ∧ V.cell? ⟨p, 4, none⟩ = some (.int .i64 q.ix.k) ∧ V.cell? ⟨p, 5, none⟩ = some (.int .i64 q.ix.a) ∧ V.cell? ⟨p, 6, none⟩ = some (.int .i64 q.ix.n) ∧ V.cell? ⟨p, 7, none⟩ = some (.string q.ix.nm) ∧ V.cell? ⟨p, 8, none⟩ = some (.slice q.ix.args.ad q.ix.args.len q.ix.args.cap) ∧ V.cell? ⟨p, 9, none⟩ = some (.int .i64 q.ex.k) ∧ V.cell? ⟨p, 10, none⟩ = some (.int .i64 q.ex.a) ∧ V.cell? ⟨p, 11, none⟩ = some (.int .i64 q.ex.n) ∧ V.cell? ⟨p, 12, none⟩ = some (.string q.ex.nm) ∧ V.cell? ⟨p, 13, none⟩ = some (.slice q.ex.args.ad q.ex.args.len q.ex.args.cap) ∧ V.heap[p]? = some (.cells cs 56 (0, 0))
theorem Sp.S2.of {p : Nat} {q : Tk.C} {V : World} (h : V.heap[p]? = some (.cells q.cells 56 (0, 0))) : Sp.S2 p q q.cells V := ⟨Zad h 2 _ rfl, Zad h 4 _ rfl, Zad h 5 _ rfl, Zad h 6 _ rfl, Zad h 7 _ rfl, Zad h 8 _ rfl, Zad h 9 _ rfl, Zad h 10 _ rfl, Zad h 11 _ rfl, Zad h 12 _ rfl, Zad h 13 _ rfl, h⟩
theorem Sp.S2.same {p : Nat} {q : Tk.C} {cs : Array Value} {V V' : World} (h : Sp.S2 p q cs V) (hh : V'.heap[p]? = V.heap[p]?) : Sp.S2 p q cs V' := by
 have hc : ∀ j, V'.cell? ⟨p, j, none⟩ = V.cell? ⟨p, j, none⟩ := fun j => Zc (a := ⟨p, j, none⟩) hh
 obtain ⟨a2, a4, a5, a6, a7, a8, a9, a10, a11, a12, a13, hb⟩ := h
 exact ⟨(hc 2).trans a2, (hc 4).trans a4, (hc 5).trans a5, (hc 6).trans a6, (hc 7).trans a7, (hc 8).trans a8, (hc 9).trans a9, (hc 10).trans a10, (hc 11).trans a11, (hc 12).trans a12, (hc 13).trans a13, hh.trans hb⟩
theorem Sp.S2.below {p : Nat} {q : Tk.C} {cs : Array Value} {V V' : World} (h : Sp.S2 p q cs V) (hb : Below V.heap.size V V') : Sp.S2 p q cs V' := h.same (hb.block p (World.block_lt_of_cell? V _ h.1))
theorem Sp.S2.go {p B d : Nat} {q : Tk.C} {cs : Array Value} {V V' : World} (h : Sp.S2 p q cs V) (hg : Sp.Go B d V V') (hp : p ≠ d) : Sp.S2 p q cs V' := by
 obtain ⟨a2, a4, a5, a6, a7, a8, a9, a10, a11, a12, a13, hb⟩ := id h
 exact h.same ((hg.box hp hb (by decide)).trans hb.symm)
section
variable {w0 : World} {num : Int → ByteArray} {NK : Int → Prop}
theorem Zji (I : Pr.It w0.heap.size w0 num NK) {m n : Nat} (q : Tk.C) (x : Zap m (n + 1)) (hq : Tk.RC w0 m (n + 1) q x) (hk : q.k = 1) (hok : Pr.ok NK m x.2.1.2.1 ∧ Zab m x.2.1.2.1 ≤ 15)
  (b : Nat) (v : Value) (bs : List UInt8) (k : Nat) (w : World) (h : Sp.P w0.heap.size w b v (Lib.byteCells bs) (k : Int)) (hk2 : k ≤ 1000) (hlen : bs.length + (Pr.set num k x.1.2.2.1 x.2.1.2.1).length ≤ 140737488355328) (hW : Below w0.heap.size w0 w) :
  Calls Tryz.prog 164 #[.pointer (some ⟨b, 0, none⟩), .agg q.cells] w fun r w' => r = .returned (.tuple #[]) ∧ Sp.Out w0.heap.size b (bs ++ Pr.set num k x.1.2.2.1 x.2.1.2.1) k w w' := by
 obtain ⟨⟨⟨-, -, hn1, hn2⟩, -⟩, ⟨hix, hex, -⟩, -⟩ := hq
 rw [← hn1] at hlen ⊢
 have hbA := (Below.refl w.heap.size w).alloc Zl (Obj.cells q.cells 56)
 have hsA : (w.alloc (Obj.cells q.cells 56)).heap.size = w.heap.size + 1 := by simp
 have hBX : (w.alloc (Obj.cells q.cells 56)).heap[w.heap.size]? = some (.cells q.cells 56 (0, 0)) := heap_alloc_new w _
 have hBw : w0.heap.size ≤ w.heap.size := hW.size
 have hWA := hW.trans (hbA.mono hBw)
 have hbl := h.lt
 have HP := Hd (h.below hbA)
 have HLN := Hd hlen
 have HBA := Hd hbA
 have hne : w.heap.size ≠ b := by omega
 have HQ := Hd (fun (W : World) (hb : Below w0.heap.size w0 W) => Zby I m q.ex x.2.1.2.1 W (hex.later hb Zl) hok.1 hok.2 hb)
 have c0 := Zad hBX 0 (.int .i64 1) (by rw [← hk]; rfl)
 have HX := Hd (Sp.S1.of hBX)
 clear hbA hix hex h hlen hk hBX hn1 hn2
 unfold Tk.E.val at HQ
 obtain ⟨cs, hcs⟩ : ∃ cs, cs = q.cells := ⟨_, rfl⟩
 have hcs2 : cs = #[.int .i64 q.k, .int .i64 q.a, .string q.nm, .string q.ot, .int .i64 q.ix.k, .int .i64 q.ix.a, .int .i64 q.ix.n, .string q.ix.nm, .slice q.ix.args.ad q.ix.args.len q.ix.args.cap, .int .i64 q.ex.k, .int .i64 q.ex.a, .int .i64 q.ex.n, .string q.ex.nm, .slice q.ex.args.ad q.ex.args.len q.ex.args.cap, .slice q.args.ad q.args.len q.args.cap, .slice q.th.ad q.th.len q.th.cap, .slice q.el.ad q.el.len q.el.cap] := hcs
 rw [← hcs] at HX hsA c0 hWA HP HBA ⊢
 clear hcs
 go_enter Tryz.func164, Tryz.ntmps164
 rw [hcs2]
 go_upto_region 1 with fail
 rw [← hcs2]
 clear hcs2
 generalize (w.alloc (Obj.cells cs 56)) = wa at *
 have HWA := Hd hWA
 clear hWA
 go_upto_region 3 with fail
 go_region_held3 (fun V => V.cell? ⟨w.heap.size, 2, none⟩ = some (.string q.nm) ∧ V.cell? ⟨w.heap.size, 9, none⟩ = some (.int .i64 q.ex.k) ∧ V.cell? ⟨w.heap.size, 10, none⟩ = some (.int .i64 q.ex.a) ∧ V.cell? ⟨w.heap.size, 11, none⟩ = some (.int .i64 q.ex.n) ∧ V.cell? ⟨w.heap.size, 12, none⟩ = some (.string q.ex.nm) ∧ V.cell? ⟨w.heap.size, 13, none⟩ = some (.slice q.ex.args.ad q.ex.args.len q.ex.args.cap) ∧ V.heap[w.heap.size]? = some (.cells cs 56 (0, 0)))
  (first
   | exact Sp.S1.below (uh HX) Zr.drew
   | exact Sp.S1.go (uh HX4) (Sp.Out.go (uh HO5)) hne
   | exact Sp.S1.below (by assumption) (Zr.alloc Zl _)
   | exact Sp.S1.below (by assumption) (uh HB4))
  (first
   | (go_at_call 128; refine ((uh HQ) _ ((uh HWA).trans (Zr.drew))).mono ?_; rintro r w4 ⟨rfl, hb4⟩; have hz4 := hb4.size; have HB4 := Hd hb4; have HX4 := Hd (Sp.S1.below (Sp.S1.below (uh HX) Zr.drew) hb4); have HBW4 := Hd ((Below.refl wa.heap.size wa).drew.trans hb4); have HP5 := Hd ((uh HP).below (uh HBW4)); clear hb4)
   | (go_at_call 123; refine (ZaY w0.heap.size b v bs k _ [q.nm, ⟨#[32, 61, 32]⟩, Pr.text num m x.2.1.2.1, ⟨#[59]⟩] _ 4 _ rfl rfl rfl (uh HP5) (by omega) (by simp) (uh HLN) ?_).mono ?_; (have : wa.drew.heap.size = wa.heap.size := rfl); omega; rintro r w5 ⟨rfl, ho5⟩; have HO5 := Hd ho5; clear ho5))
 all_goals
  go_wp2_with fail
  go_end0
  exact ⟨rfl, (uh HO5).pr, ((Sp.Go.of_below (uh HBA) hBw).then (uh HBW4) hBw).trans (uh HO5).go⟩
theorem Zjb (I : Pr.It w0.heap.size w0 num NK) {m n : Nat} (q : Tk.C) (x : Zap m (n + 1)) (hq : Tk.RC w0 m (n + 1) q x) (hk : q.k = 2) (hnm : q.nm.size ≤ 64) (hok : Pr.ok NK m x.2.1.2.1 ∧ Zab m x.2.1.2.1 ≤ 15) (hok2 : Pr.ok NK m x.2.1.1 ∧ Zab m x.2.1.1 ≤ 15)
  (b : Nat) (v : Value) (bs : List UInt8) (k : Nat) (w : World) (h : Sp.P w0.heap.size w b v (Lib.byteCells bs) (k : Int)) (hk2 : k ≤ 1000) (hlen : bs.length + (Pr.put num k x.1.2.2.1 x.2.1.1 x.2.1.2.1).length ≤ 140737488355328) (hW : Below w0.heap.size w0 w) :
  Calls Tryz.prog 164 #[.pointer (some ⟨b, 0, none⟩), .agg q.cells] w fun r w' => r = .returned (.tuple #[]) ∧ Sp.Out w0.heap.size b (bs ++ Pr.put num k x.1.2.2.1 x.2.1.1 x.2.1.2.1) k w w' := by
 obtain ⟨⟨⟨-, -, hn1, hn2⟩, -⟩, ⟨hix, hex, -⟩, -⟩ := hq
 rw [← hn1] at hlen ⊢
 have hbA := (Below.refl w.heap.size w).alloc Zl (Obj.cells q.cells 56)
 have hsA : (w.alloc (Obj.cells q.cells 56)).heap.size = w.heap.size + 1 := by simp
 have hBX : (w.alloc (Obj.cells q.cells 56)).heap[w.heap.size]? = some (.cells q.cells 56 (0, 0)) := heap_alloc_new w _
 have hBw : w0.heap.size ≤ w.heap.size := hW.size
 have hWA := hW.trans (hbA.mono hBw)
 have hbl := h.lt
 have HP := Hd (h.below hbA)
 have HLN := Hd hlen
 have HBA := Hd hbA
 have hne : w.heap.size ≠ b := by omega
 have HQ := Hd (fun (W : World) (hb : Below w0.heap.size w0 W) => Zby I m q.ex x.2.1.2.1 W (hex.later hb Zl) hok.1 hok.2 hb)
 have htz := Zb2 I.sz m x.2.1.1 hok2.1
 have hp2 := hok2.2
 have HQ2 := Hd (fun (W : World) (hb : Below w0.heap.size w0 W) => ZfS q.nm (Pr.text num m x.2.1.1) q.ix W hnm (by omega) (fun W2 hb2 => Zby I m q.ix x.2.1.1 W2 (hix.later (hb.trans (hb2.mono hb.size)) Zl) hok2.1 hok2.2 (hb.trans (hb2.mono hb.size))))
 have c0 := Zad hBX 0 (.int .i64 2) (by rw [← hk]; rfl)
 have HX := Hd (Sp.S2.of hBX)
 clear hbA hix hex h hlen hk hBX hn1 hn2 htz hp2 hnm
 unfold Tk.E.val at HQ HQ2
 obtain ⟨cs, hcs⟩ : ∃ cs, cs = q.cells := ⟨_, rfl⟩
 have hcs2 : cs = #[.int .i64 q.k, .int .i64 q.a, .string q.nm, .string q.ot, .int .i64 q.ix.k, .int .i64 q.ix.a, .int .i64 q.ix.n, .string q.ix.nm, .slice q.ix.args.ad q.ix.args.len q.ix.args.cap, .int .i64 q.ex.k, .int .i64 q.ex.a, .int .i64 q.ex.n, .string q.ex.nm, .slice q.ex.args.ad q.ex.args.len q.ex.args.cap, .slice q.args.ad q.args.len q.args.cap, .slice q.th.ad q.th.len q.th.cap, .slice q.el.ad q.el.len q.el.cap] := hcs
 rw [← hcs] at HX hsA c0 hWA HP HBA ⊢
 clear hcs
 go_enter Tryz.func164, Tryz.ntmps164
 rw [hcs2]
 go_upto_region 1 with fail
 rw [← hcs2]
 clear hcs2
 generalize (w.alloc (Obj.cells cs 56)) = wa at *
 have HWA := Hd hWA
 clear hWA
 go_upto_region 5 with fail
 go_region_held3 (fun V => V.cell? ⟨w.heap.size, 2, none⟩ = some (.string q.nm) ∧ V.cell? ⟨w.heap.size, 4, none⟩ = some (.int .i64 q.ix.k) ∧ V.cell? ⟨w.heap.size, 5, none⟩ = some (.int .i64 q.ix.a) ∧ V.cell? ⟨w.heap.size, 6, none⟩ = some (.int .i64 q.ix.n) ∧ V.cell? ⟨w.heap.size, 7, none⟩ = some (.string q.ix.nm) ∧ V.cell? ⟨w.heap.size, 8, none⟩ = some (.slice q.ix.args.ad q.ix.args.len q.ix.args.cap) ∧ V.cell? ⟨w.heap.size, 9, none⟩ = some (.int .i64 q.ex.k) ∧ V.cell? ⟨w.heap.size, 10, none⟩ = some (.int .i64 q.ex.a) ∧ V.cell? ⟨w.heap.size, 11, none⟩ = some (.int .i64 q.ex.n) ∧ V.cell? ⟨w.heap.size, 12, none⟩ = some (.string q.ex.nm) ∧ V.cell? ⟨w.heap.size, 13, none⟩ = some (.slice q.ex.args.ad q.ex.args.len q.ex.args.cap) ∧ V.heap[w.heap.size]? = some (.cells cs 56 (0, 0)))
  (first
   | exact Sp.S2.below (uh HX) Zr.drew
   | exact Sp.S2.go (uh HX4) (Sp.Out.go (uh HO5)) hne
   | exact Sp.S2.below (by assumption) (Zr.alloc Zl _)
   | exact Sp.S2.below (by assumption) (uh HB4)
   | exact Sp.S2.below (by assumption) (uh HB3))
  (first
   | (go_at_call 165; refine ((uh HQ2) _ ((uh HWA).trans (Zr.drew))).mono ?_; rintro r w3 ⟨rfl, hb3⟩; have hz3 := hb3.size; have HB3 := Hd hb3; have HX3 := Hd (Sp.S2.below (Sp.S2.below (uh HX) Zr.drew) hb3); have HBW3 := Hd ((Below.refl wa.heap.size wa).drew.trans hb3); clear hb3)
   | (go_at_call 128; refine ((uh HQ) _ ((uh HWA).trans ((uh HBW3).mono (uh HWA).size))).mono ?_; rintro r w4 ⟨rfl, hb4⟩; have hz4 := hb4.size; have HB4 := Hd hb4; have HX4 := Hd (Sp.S2.below (uh HX3) hb4); have HBW4 := Hd ((uh HBW3).trans (hb4.mono (uh HBW3).size)); have HP5 := Hd ((uh HP).below (uh HBW4)); clear hb4)
   | (go_at_call 123; refine (ZaY w0.heap.size b v bs k _ [Pr.cell q.nm (Pr.text num m x.2.1.1), ⟨#[32, 61, 32]⟩, Pr.text num m x.2.1.2.1, ⟨#[59]⟩] _ 4 _ rfl rfl rfl (uh HP5) (by omega) (by simp) (uh HLN) ?_).mono ?_; (have : wa.drew.heap.size = wa.heap.size := rfl); omega; rintro r w5 ⟨rfl, ho5⟩; have HO5 := Hd ho5; clear ho5))
 all_goals
  go_wp2_with fail
  go_end0
  exact ⟨rfl, (uh HO5).pr, ((Sp.Go.of_below (uh HBA) hBw).then (uh HBW4) hBw).trans (uh HO5).go⟩
theorem ZhP (I : Pr.It w0.heap.size w0 num NK) {m n : Nat} (q : Tk.C) (x : Zap m (n + 1)) (hq : Tk.RC w0 m (n + 1) q x) (hk : q.k = 4)
  (b : Nat) (v : Value) (bs : List UInt8) (k : Nat) (w : World) (h : Sp.P w0.heap.size w b v (Lib.byteCells bs) (k : Int)) (hk2 : k ≤ 1000) (hlen : bs.length + (Pr.read k x.1.2.2.1).length ≤ 140737488355328) (hW : Below w0.heap.size w0 w) :
  Calls Tryz.prog 164 #[.pointer (some ⟨b, 0, none⟩), .agg q.cells] w fun r w' => r = .returned (.tuple #[]) ∧ Sp.Out w0.heap.size b (bs ++ Pr.read k x.1.2.2.1) k w w' := by
 obtain ⟨⟨⟨-, -, hn1, hn2⟩, -⟩, ⟨hix, hex, -⟩, -⟩ := hq
 rw [← hn1] at hlen ⊢
 have hbA := (Below.refl w.heap.size w).alloc Zl (Obj.cells q.cells 56)
 have hsA : (w.alloc (Obj.cells q.cells 56)).heap.size = w.heap.size + 1 := by simp
 have hBX : (w.alloc (Obj.cells q.cells 56)).heap[w.heap.size]? = some (.cells q.cells 56 (0, 0)) := heap_alloc_new w _
 have hBw : w0.heap.size ≤ w.heap.size := hW.size
 have hWA := hW.trans (hbA.mono hBw)
 have hbl := h.lt
 have HP := Hd (h.below hbA)
 have HLN := Hd hlen
 have HBA := Hd hbA
 have hne : w.heap.size ≠ b := by omega
 have c0 := Zad hBX 0 (.int .i64 4) (by rw [← hk]; rfl)
 have HX := Hd (Sp.S1.of hBX)
 have c2 := (uh HX).1
 clear hbA hix hex h hlen hk hBX hn1 hn2
 obtain ⟨cs, hcs⟩ : ∃ cs, cs = q.cells := ⟨_, rfl⟩
 have hcs2 : cs = #[.int .i64 q.k, .int .i64 q.a, .string q.nm, .string q.ot, .int .i64 q.ix.k, .int .i64 q.ix.a, .int .i64 q.ix.n, .string q.ix.nm, .slice q.ix.args.ad q.ix.args.len q.ix.args.cap, .int .i64 q.ex.k, .int .i64 q.ex.a, .int .i64 q.ex.n, .string q.ex.nm, .slice q.ex.args.ad q.ex.args.len q.ex.args.cap, .slice q.args.ad q.args.len q.args.cap, .slice q.th.ad q.th.len q.th.cap, .slice q.el.ad q.el.len q.el.cap] := hcs
 rw [← hcs] at HX hsA c0 c2 hWA HP HBA ⊢
 clear hcs
 go_enter Tryz.func164, Tryz.ntmps164
 rw [hcs2]
 go_upto_region 1 with fail
 rw [← hcs2]
 clear hcs2
 generalize (w.alloc (Obj.cells cs 56)) = wa at *
 have HWA := Hd hWA
 clear hWA
 have HL := Hd (ZaY w0.heap.size b v bs k wa [q.nm, ⟨#[32, 61, 32, 114, 101, 97, 100, 59]⟩] (w.heap.size + 1) 2 #[.string q.nm, .string ⟨#[32, 61, 32, 114, 101, 97, 100, 59]⟩] hsA.symm rfl rfl (uh HP) (by omega) (by simp) (uh HLN) (by omega))
 go_upto_region 9 with fail
 go_wp2_with fail
 refine (uh HL).mono ?_
 rintro r w3 ⟨rfl, ho3⟩
 have HO3 := Hd ho3
 clear ho3
 go_wp2_with fail
 go_end0
 exact ⟨rfl, (uh HO3).pr, (Sp.Go.of_below (uh HBA) hBw).trans (uh HO3).go⟩
end
theorem ZgW (B b : Nat) (v : Value) (bs X : List UInt8) (k pb fb : Nat) (w : World) (h : Sp.P B w b v (Lib.byteCells bs) (k : Int)) (hk : k ≤ 1000)
  (HF : ∀ W, Sp.Go B b w W → Sp.P B W b v (Lib.byteCells bs) ((k + 2 : Nat) : Int) → Calls Tryz.prog 212 #[.pointer (some ⟨pb, 0, none⟩), .pointer (some ⟨fb, 0, none⟩)] W fun r w' => r = .returned (.tuple #[]) ∧ Sp.Out B b (bs ++ X) (k + 2) W w') :
  Calls Tryz.prog 124 #[.pointer (some ⟨b, 0, none⟩), .func (.func 212) #[] #[.pointer (some ⟨pb, 0, none⟩), .pointer (some ⟨fb, 0, none⟩)]] w fun r w' => r = .returned (.tuple #[]) ∧ Sp.Out B b (bs ++ X) k w w' := by
 have c2 := h.c2
 have f2 := h.fz 2
 have hG := (Sp.Go.refl B b w).set 2 (.int .i64 ((k : Int) + 2)) h.ge
 have HQ := Hd (HF _ hG (h.indent ((k : Int) + 2)))
 have HG := Hd hG
 have hge := h.ge
 have hk0 : (0 : Int) ≤ (k : Int) := by omega
 have hk1 : (k : Int) ≤ 1000 := by omega
 clear h HF hG
 go_enter Tryz.func124, Tryz.ntmps124
 go_wp2_with fail
 refine (uh HQ).mono ?_
 rintro r w2 ⟨rfl, ⟨v2, hp2⟩, hgo2⟩
 have d2 : w2.cell? ⟨b, 2, none⟩ = some (.int .i64 ((k : Int) + 2)) := hp2.c2
 have e2 := hp2.fz 2
 have HP2 := Hd (hp2.indent (k : Int))
 have HG2 := Hd (((uh HG).trans hgo2).set 2 (.int .i64 (k : Int)) hge)
 have he : (k : Int) + 2 - 2 = (k : Int) := by omega
 clear hp2 hgo2
 go_wp2_with fail
 go_end0
 exact ⟨rfl, ⟨v2, uh HP2⟩, uh HG2⟩
section
variable {w0 : World}
theorem Zdt {m n : Nat} (f : Zap m n → List UInt8) (s : Tk.Sl) (l : List (Zap m n)) (hs : Tk.RS w0 17 (Tk.LC w0) (Tk.RC w0 m n) s l) (b k : Nat) (hk : k ≤ 900) (hcmd : Sp.Cmds w0 b (k + 2) f l)
  (v : Value) (bs : List UInt8) (w : World) (h : Sp.P w0.heap.size w b v (Lib.byteCells bs) (k : Int)) (hlen : bs.length + (l.flatMap f).length ≤ 140737488355328) (hW : Below w0.heap.size w0 w) :
  Calls Tryz.prog 198 #[.pointer (some ⟨b, 0, none⟩), .slice s.ad s.len s.cap] w fun r w' => r = .returned (.tuple #[]) ∧ Sp.Out w0.heap.size b (bs ++ l.flatMap f) k w w' := by
 have hbl := h.lt
 have hBw := hW.size
 have hbA := ((Below.refl w.heap.size w).alloc Zl (Obj.cells #[.pointer (some ⟨b, 0, none⟩)] 123)).alloc (by simp) (Obj.cells #[.slice s.ad s.len s.cap] 49)
 have hsA : ((w.alloc (Obj.cells #[.pointer (some ⟨b, 0, none⟩)] 123)).alloc (Obj.cells #[.slice s.ad s.len s.cap] 49)).heap.size = w.heap.size + 2 := by simp
 have h1 : (w.alloc (Obj.cells #[.pointer (some ⟨b, 0, none⟩)] 123)).heap.size = w.heap.size + 1 := by simp
 have hx0 : ((w.alloc (Obj.cells #[.pointer (some ⟨b, 0, none⟩)] 123)).alloc (Obj.cells #[.slice s.ad s.len s.cap] 49)).heap[w.heap.size]? = some (.cells #[.pointer (some ⟨b, 0, none⟩)] 123 (0, 0)) :=
  (((Below.refl _ (w.alloc (Obj.cells #[.pointer (some ⟨b, 0, none⟩)] 123))).alloc Zl (Obj.cells #[.slice s.ad s.len s.cap] 49)).block w.heap.size (by omega)).trans (heap_alloc_new w _)
 have hx1 : ((w.alloc (Obj.cells #[.pointer (some ⟨b, 0, none⟩)] 123)).alloc (Obj.cells #[.slice s.ad s.len s.cap] 49)).heap[w.heap.size + 1]? = some (.cells #[.slice s.ad s.len s.cap] 49 (0, 0)) := by
  rw [← h1]
  exact heap_alloc_new _ _
 have HP := Hd (h.below hbA)
 have HBA := Hd hbA
 have hWA := hW.trans (hbA.mono hBw)
 clear hbA h h1
 go_enter Tryz.func198, Tryz.ntmps198
 go_upto_region 1 with fail
 generalize ((w.alloc (Obj.cells #[.pointer (some ⟨b, 0, none⟩)] 123)).alloc (Obj.cells #[.slice s.ad s.len s.cap] 49)) = wa at *
 have HF := Hd (ZgW w0.heap.size b v bs (l.flatMap f) k w.heap.size (w.heap.size + 1) wa (uh HP) (by omega) (fun W hg hp => by
  have hy0 := hg.box (by omega) hx0 (by decide)
  have hy1 := hg.box (by omega) hx1 (by decide)
  have q0 := Zad hy0 0 _ rfl
  have q1 := Zad hy1 0 _ rfl
  have HC := Hd (ZdZ f s l hs b (k + 2) hcmd v bs W hp hlen (hWA.trans hg.below))
  clear hy0 hy1 hp hg hx0 hx1 HP HBA
  go_enter Tryz.func212, Tryz.ntmps212
  go_wp2_with fail
  refine (uh HC).mono ?_
  rintro r w4 ⟨rfl, ho4⟩
  have HO4 := Hd ho4
  clear ho4
  go_wp2_with fail
  go_end0
  exact ⟨rfl, uh HO4⟩))
 have p0 := Zad hx0 0 _ rfl
 clear hx0 hx1
 go_wp2_with fail
 refine (uh HF).mono ?_
 rintro r w4 ⟨rfl, ho4⟩
 have HO4 := Hd ho4
 clear ho4
 go_wp2_with fail
 go_end0
 exact ⟨rfl, (uh HO4).pr, (Sp.Go.of_below (uh HBA) hBw).trans (uh HO4).go⟩
end
def Pr.els {m n : Nat} (k : Nat) (f : Zap m n → List UInt8) (el : List (Zap m n)) : List UInt8 := if el.length = 0 then [] else ZaW k [⟨#[125, 32, 101, 108, 115, 101, 32, 123]⟩] ++ el.flatMap f
def Zdn {m n : Nat} (num : Int → ByteArray) (k : Nat) (f : Zap m n → List UInt8) (ex : Zat m) (th el : List (Zap m n)) : List UInt8 := ZaW k [⟨#[105, 102, 32]⟩, Pr.text num m ex, ⟨#[32, 123]⟩] ++ th.flatMap f ++ Pr.els k f el ++ ZaW k [⟨#[125]⟩]
def ZcS {m n : Nat} (num : Int → ByteArray) (k : Nat) (f : Zap m n → List UInt8) (ex : Zat m) (th : List (Zap m n)) : List UInt8 := ZaW k [⟨#[119, 104, 105, 108, 101, 32]⟩, Pr.text num m ex, ⟨#[32, 123]⟩] ++ th.flatMap f ++ ZaW k [⟨#[125]⟩]
section
variable {w0 : World} {num : Int → ByteArray} {NK : Int → Prop}
theorem ZgQ (I : Pr.It w0.heap.size w0 num NK) {m n : Nat} (q : Tk.C) (x : Zap m (n + 1)) (hq : Tk.RC w0 m (n + 1) q x) (hk : q.k = 7) (hok : Pr.ok NK m x.2.1.2.1 ∧ Zab m x.2.1.2.1 ≤ 15) (f : Zap m n → List UInt8)
  (b : Nat) (v : Value) (bs : List UInt8) (k : Nat) (w : World) (h : Sp.P w0.heap.size w b v (Lib.byteCells bs) (k : Int)) (hk2 : k ≤ 900) (hcT : Sp.Cmds w0 b (k + 2) f x.2.2.1) (hlen : bs.length + (ZcS num k f x.2.1.2.1 x.2.2.1).length ≤ 140737488355328) (hW : Below w0.heap.size w0 w) :
  Calls Tryz.prog 164 #[.pointer (some ⟨b, 0, none⟩), .agg q.cells] w fun r w' => r = .returned (.tuple #[]) ∧ Sp.Out w0.heap.size b (bs ++ ZcS num k f x.2.1.2.1 x.2.2.1) k w w' := by
 obtain ⟨-, ⟨hix, hex, -⟩, hth, hel⟩ := hq
 have hbA := (Below.refl w.heap.size w).alloc Zl (Obj.cells q.cells 56)
 have hsA : (w.alloc (Obj.cells q.cells 56)).heap.size = w.heap.size + 1 := by simp
 have hBX : (w.alloc (Obj.cells q.cells 56)).heap[w.heap.size]? = some (.cells q.cells 56 (0, 0)) := heap_alloc_new w _
 have hBw : w0.heap.size ≤ w.heap.size := hW.size
 have hWA := hW.trans (hbA.mono hBw)
 have hbl := h.lt
 have HP := Hd (h.below hbA)
 have HLN := Hd hlen
 have HBA := Hd hbA
 have hne : w.heap.size ≠ b := by omega
 have HQ := Hd (Zby I m q.ex x.2.1.2.1 _ (hex.later hWA Zl) hok.1 hok.2 hWA)
 have c0 := Zad hBX 0 (.int .i64 7) (by rw [← hk]; rfl)
 have HX := Hd (Sp.S1.of hBX)
 obtain ⟨-, c9, c10, c11, c12, c13, hbx⟩ := uh HX
 have d15 : q.cells[15]? = some (.slice q.th.ad q.th.len q.th.cap) := rfl
 have d16 : q.cells[16]? = some (.slice q.el.ad q.el.len q.el.cap) := rfl
 clear hbA hix hex h hlen hk hBX HX
 unfold Tk.E.val at HQ
 obtain ⟨cs, hcs⟩ : ∃ cs, cs = q.cells := ⟨_, rfl⟩
 have hcs2 : cs = #[.int .i64 q.k, .int .i64 q.a, .string q.nm, .string q.ot, .int .i64 q.ix.k, .int .i64 q.ix.a, .int .i64 q.ix.n, .string q.ix.nm, .slice q.ix.args.ad q.ix.args.len q.ix.args.cap, .int .i64 q.ex.k, .int .i64 q.ex.a, .int .i64 q.ex.n, .string q.ex.nm, .slice q.ex.args.ad q.ex.args.len q.ex.args.cap, .slice q.args.ad q.args.len q.args.cap, .slice q.th.ad q.th.len q.th.cap, .slice q.el.ad q.el.len q.el.cap] := hcs
 rw [← hcs] at hsA c0 c9 c10 c11 c12 c13 hbx d15 d16 hWA HP HBA HQ ⊢
 clear hcs
 go_enter Tryz.func164, Tryz.ntmps164
 rw [hcs2]
 go_upto_region 1 with fail
 rw [← hcs2]
 clear hcs2
 generalize (w.alloc (Obj.cells cs 56)) = wa at *
 have HWA := Hd hWA
 clear hWA
 go_upto_region 20 with fail
 go_wp2_with fail
 refine (uh HQ).mono ?_
 rintro r w2 ⟨rfl, hb2⟩
 have hs2 := hb2.size
 have hl2 := uh HLN
 unfold ZcS at hl2
 simp only [Za] at hl2
 have HL := Hd (ZaY w0.heap.size b v bs k w2 [⟨#[119, 104, 105, 108, 101, 32]⟩, Pr.text num m x.2.1.2.1, ⟨#[32, 123]⟩] w2.heap.size 3 #[.string ⟨#[119, 104, 105, 108, 101, 32]⟩, .string (Pr.text num m x.2.1.2.1), .string ⟨#[32, 123]⟩] rfl rfl rfl ((uh HP).below hb2) (by omega) (by simp) (by omega) (by omega))
 have hx2 := (hb2.block w.heap.size (by omega)).trans hbx
 have HG2 := Hd (Sp.Go.of_below (b := b) ((uh HBA).trans (hb2.mono (by omega))) hBw)
 clear hb2 c0 c9 c10 c11 c12 c13 hbx
 go_wp2_with fail
 refine (uh HL).mono ?_
 rintro r w3 ⟨rfl, ⟨v3, hp3⟩, hgo3⟩
 have hx3 := hgo3.box hne hx2 (by decide)
 have c15 := Zad hx3 15 _ d15
 have hG3 := (uh HG2).trans hgo3
 have HT := Hd (Zdt f q.th x.2.2.1 hth b k (by omega) hcT v3 _ w3 hp3 (by rw [Za]; omega) (hW.trans hG3.below))
 have HG3 := Hd hG3
 clear hp3 hgo3 hx2 hG3
 go_wp2_with fail
 refine (uh HT).mono ?_
 rintro r w4 ⟨rfl, ⟨v4, hp4⟩, hgo4⟩
 have hx4 := hgo4.box hne hx3 (by decide)
 have hG4 := (uh HG3).trans hgo4
 have hB4 := hG4.below.size
 have HL4 := Hd (ZaY w0.heap.size b v4 _ k w4 [⟨#[125]⟩] w4.heap.size 1 #[.string ⟨#[125]⟩] rfl rfl rfl hp4 (by omega) (by simp) (by rw [Za, Za]; omega) (by omega))
 have HG4 := Hd hG4
 clear hp4 hgo4 hG4 c15
 go_wp2_with fail
 refine (uh HL4).mono ?_
 rintro r w5 ⟨rfl, ho5⟩
 have HO5 := Hd ho5
 clear ho5
 go_wp2_with fail
 go_end0
 refine ⟨rfl, ?_, (uh HG4).trans (uh HO5).go⟩
 have := (uh HO5).pr
 unfold ZcS
 rw [← List.append_assoc, ← List.append_assoc]
 exact this
theorem Zkq (I : Pr.It w0.heap.size w0 num NK) {m n : Nat} (q : Tk.C) (x : Zap m (n + 1)) (hq : Tk.RC w0 m (n + 1) q x) (hk : q.k = 6) (hok : Pr.ok NK m x.2.1.2.1 ∧ Zab m x.2.1.2.1 ≤ 15) (f : Zap m n → List UInt8)
  (b : Nat) (v : Value) (bs : List UInt8) (k : Nat) (w : World) (h : Sp.P w0.heap.size w b v (Lib.byteCells bs) (k : Int)) (hk2 : k ≤ 900) (hcT : Sp.Cmds w0 b (k + 2) f x.2.2.1) (hcE : Sp.Cmds w0 b (k + 2) f x.2.2.2) (hlen : bs.length + (Zdn num k f x.2.1.2.1 x.2.2.1 x.2.2.2).length ≤ 140737488355328) (hW : Below w0.heap.size w0 w) :
  Calls Tryz.prog 164 #[.pointer (some ⟨b, 0, none⟩), .agg q.cells] w fun r w' => r = .returned (.tuple #[]) ∧ Sp.Out w0.heap.size b (bs ++ Zdn num k f x.2.1.2.1 x.2.2.1 x.2.2.2) k w w' := by
 obtain ⟨-, ⟨hix, hex, -⟩, hth, hel⟩ := hq
 have hbA := (Below.refl w.heap.size w).alloc Zl (Obj.cells q.cells 56)
 have hsA : (w.alloc (Obj.cells q.cells 56)).heap.size = w.heap.size + 1 := by simp
 have hBX : (w.alloc (Obj.cells q.cells 56)).heap[w.heap.size]? = some (.cells q.cells 56 (0, 0)) := heap_alloc_new w _
 have hBw : w0.heap.size ≤ w.heap.size := hW.size
 have hWA := hW.trans (hbA.mono hBw)
 have hbl := h.lt
 have HP := Hd (h.below hbA)
 have HLN := Hd hlen
 have HBA := Hd hbA
 have hne : w.heap.size ≠ b := by omega
 have HQ := Hd (Zby I m q.ex x.2.1.2.1 _ (hex.later hWA Zl) hok.1 hok.2 hWA)
 have c0 := Zad hBX 0 (.int .i64 6) (by rw [← hk]; rfl)
 have HX := Hd (Sp.S1.of hBX)
 obtain ⟨-, c9, c10, c11, c12, c13, hbx⟩ := uh HX
 have d15 : q.cells[15]? = some (.slice q.th.ad q.th.len q.th.cap) := rfl
 have d16 : q.cells[16]? = some (.slice q.el.ad q.el.len q.el.cap) := rfl
 clear hbA hix hex h hlen hk hBX HX
 unfold Tk.E.val at HQ
 obtain ⟨cs, hcs⟩ : ∃ cs, cs = q.cells := ⟨_, rfl⟩
 have hcs2 : cs = #[.int .i64 q.k, .int .i64 q.a, .string q.nm, .string q.ot, .int .i64 q.ix.k, .int .i64 q.ix.a, .int .i64 q.ix.n, .string q.ix.nm, .slice q.ix.args.ad q.ix.args.len q.ix.args.cap, .int .i64 q.ex.k, .int .i64 q.ex.a, .int .i64 q.ex.n, .string q.ex.nm, .slice q.ex.args.ad q.ex.args.len q.ex.args.cap, .slice q.args.ad q.args.len q.args.cap, .slice q.th.ad q.th.len q.th.cap, .slice q.el.ad q.el.len q.el.cap] := hcs
 rw [← hcs] at hsA c0 c9 c10 c11 c12 c13 hbx d15 d16 hWA HP HBA HQ ⊢
 clear hcs
 go_enter Tryz.func164, Tryz.ntmps164
 rw [hcs2]
 go_upto_region 1 with fail
 rw [← hcs2]
 clear hcs2
 generalize (w.alloc (Obj.cells cs 56)) = wa at *
 have HWA := Hd hWA
 clear hWA
 go_upto_region 13 with fail
 go_wp2_with fail
 refine (uh HQ).mono ?_
 rintro r w2 ⟨rfl, hb2⟩
 have hs2 := hb2.size
 have hl2 := uh HLN
 unfold Zdn at hl2
 simp only [Za] at hl2
 have HL := Hd (ZaY w0.heap.size b v bs k w2 [⟨#[105, 102, 32]⟩, Pr.text num m x.2.1.2.1, ⟨#[32, 123]⟩] w2.heap.size 3 #[.string ⟨#[105, 102, 32]⟩, .string (Pr.text num m x.2.1.2.1), .string ⟨#[32, 123]⟩] rfl rfl rfl ((uh HP).below hb2) (by omega) (by simp) (by omega) (by omega))
 have hx2 := (hb2.block w.heap.size (by omega)).trans hbx
 have HG2 := Hd (Sp.Go.of_below (b := b) ((uh HBA).trans (hb2.mono (by omega))) hBw)
 clear hb2 c0 c9 c10 c11 c12 c13 hbx
 go_wp2_with fail
 refine (uh HL).mono ?_
 rintro r w3 ⟨rfl, ⟨v3, hp3⟩, hgo3⟩
 have hx3 := hgo3.box hne hx2 (by decide)
 have c15 := Zad hx3 15 _ d15
 have hG3 := (uh HG2).trans hgo3
 have HT := Hd (Zdt f q.th x.2.2.1 hth b k (by omega) hcT v3 _ w3 hp3 (by rw [Za]; omega) (hW.trans hG3.below))
 have HG3 := Hd hG3
 clear hp3 hgo3 hx2 hG3
 go_wp2_with fail
 refine (uh HT).mono ?_
 rintro r w4 ⟨rfl, ⟨v4, hp4⟩, hgo4⟩
 have hx4 := hgo4.box hne hx3 (by decide)
 have hG4 := (uh HG3).trans hgo4
 have hB4 := hG4.below.size
 have c16 := Zad hx4 16 _ d16
 have hll := hel.len
 by_cases h0 : x.2.2.2.length = 0
 · have he : Pr.els k f x.2.2.2 = [] := if_pos h0
   have hz0 : q.el.len = 0 := by omega
   rw [hz0] at c16
   have HL4 := Hd (ZaY w0.heap.size b v4 _ k w4 [⟨#[125]⟩] w4.heap.size 1 #[.string ⟨#[125]⟩] rfl rfl rfl hp4 (by omega) (by simp) (by rw [Za, Za]; omega) (by omega))
   have HE := Hd he
   have HG4 := Hd hG4
   clear hp4 hgo4 hG4 c15 he hll hz0 h0
   go_wp2_with fail
   refine (uh HL4).mono ?_
   rintro r w5 ⟨rfl, ho5⟩
   have HO5 := Hd ho5
   clear ho5
   go_wp2_with fail
   go_end0
   refine ⟨rfl, ?_, (uh HG4).trans (uh HO5).go⟩
   have := (uh HO5).pr
   unfold Zdn
   rw [uh HE, List.append_nil, ← List.append_assoc, ← List.append_assoc]
   exact this
 have he : Pr.els k f x.2.2.2 = ZaW k [⟨#[125, 32, 101, 108, 115, 101, 32, 123]⟩] ++ x.2.2.2.flatMap f := if_neg h0
 have hz0 : (0 : Int) < (q.el.len : Int) := by omega
 rw [he, Za] at hl2
 have HL4 := Hd (ZaY w0.heap.size b v4 _ k w4 [⟨#[125, 32, 101, 108, 115, 101, 32, 123]⟩] w4.heap.size 1 #[.string ⟨#[125, 32, 101, 108, 115, 101, 32, 123]⟩] rfl rfl rfl hp4 (by omega) (by simp) (by rw [Za, Za]; omega) (by omega))
 have HE := Hd he
 have HG4 := Hd hG4
 clear hp4 hgo4 hG4 c15 he hll h0
 go_wp2_with fail
 refine (uh HL4).mono ?_
 rintro r w5 ⟨rfl, ⟨v5, hp5⟩, hgo5⟩
 have hx5 := hgo5.box hne hx4 (by decide)
 have c165 := Zad hx5 16 _ d16
 have hG5 := (uh HG4).trans hgo5
 have HT5 := Hd (Zdt f q.el x.2.2.2 hel b k (by omega) hcE v5 _ w5 hp5 (by rw [Za, Za, Za]; omega) (hW.trans hG5.below))
 have HG5 := Hd hG5
 clear hp5 hgo5 hG5 c16
 go_wp2_with fail
 refine (uh HT5).mono ?_
 rintro r w6 ⟨rfl, ⟨v6, hp6⟩, hgo6⟩
 have hG6 := (uh HG5).trans hgo6
 have hB6 := hG6.below.size
 have HL6 := Hd (ZaY w0.heap.size b v6 _ k w6 [⟨#[125]⟩] w6.heap.size 1 #[.string ⟨#[125]⟩] rfl rfl rfl hp6 (by omega) (by simp) (by rw [Za, Za, Za, Za]; omega) (by omega))
 have HG6 := Hd hG6
 clear hp6 hgo6 hG6 c165
 go_wp2_with fail
 refine (uh HL6).mono ?_
 rintro r w7 ⟨rfl, ho7⟩
 have HO7 := Hd ho7
 clear ho7
 go_wp2_with fail
 go_end0
 refine ⟨rfl, ?_, (uh HG6).trans (uh HO7).go⟩
 have := (uh HO7).pr
 unfold Zdn
 rw [uh HE]
 simp only [List.append_assoc] at this ⊢
 exact this
end
def Pr.cmd (num : Int → ByteArray) {m : Nat} : (n : Nat) → Nat → Zap m n → List UInt8
 | 0, _, _ => []
 | n + 1, k, y => if y.1.1 = 1 then Pr.set num k y.1.2.2.1 y.2.1.2.1 else if y.1.1 = 2 then Pr.put num k y.1.2.2.1 y.2.1.1 y.2.1.2.1 else if y.1.1 = 3 then Pr.call num k y.1.2.2.1 y.1.2.2.2 y.2.1.2.2
  else if y.1.1 = 4 then Pr.read k y.1.2.2.1 else if y.1.1 = 5 then ZcT num k y.2.1.2.1 else if y.1.1 = 6 then Zdn num k (Pr.cmd num n (k + 2)) y.2.1.2.1 y.2.2.1 y.2.2.2 else ZcS num k (Pr.cmd num n (k + 2)) y.2.1.2.1 y.2.2.1
def Zb9 (NK : Int → Prop) {m : Nat} (x : Zat m) : Prop := Pr.ok NK m x ∧ Zab m x ≤ 15
def ZdJ (NK : Int → Prop) {m : Nat} : (n : Nat) → Nat → Zap m n → Prop
 | 0, _, _ => False
 | n + 1, d, y => (y.1.1 = 1 ∧ Zb9 NK y.2.1.2.1) ∨ (y.1.1 = 2 ∧ y.1.2.2.1.size ≤ 64 ∧ Zb9 NK y.2.1.2.1 ∧ Zb9 NK y.2.1.1) ∨ (y.1.1 = 3 ∧ (∀ a ∈ y.2.1.2.2, Zb9 NK a) ∧ y.2.1.2.2.length ≤ 1000) ∨ y.1.1 = 4 ∨ (y.1.1 = 5 ∧ Zb9 NK y.2.1.2.1)
  ∨ (y.1.1 = 6 ∧ Zb9 NK y.2.1.2.1 ∧ 0 < d ∧ (∀ a ∈ y.2.2.1, ZdJ NK n (d - 1) a) ∧ ∀ a ∈ y.2.2.2, ZdJ NK n (d - 1) a)
  ∨ (y.1.1 = 7 ∧ Zb9 NK y.2.1.2.1 ∧ 0 < d ∧ ∀ a ∈ y.2.2.1, ZdJ NK n (d - 1) a)
section
variable {w0 : World} {num : Int → ByteArray} {NK : Int → Prop}
theorem ZiF (I : Pr.It w0.heap.size w0 num NK) {m : Nat} (b : Nat) : ∀ (n d k : Nat) (x : Zap m n), ZdJ NK n d x → k + 2 * d ≤ 900 → ∀ (q : Tk.C) (v : Value) (bs : List UInt8) (W : World), Tk.RC w0 m n q x → Sp.P w0.heap.size W b v (Lib.byteCells bs) (k : Int) → bs.length + (Pr.cmd num n k x).length ≤ 140737488355328 → Below w0.heap.size w0 W → Calls Tryz.prog 164 #[.pointer (some ⟨b, 0, none⟩), .agg q.cells] W fun r w' => r = .returned (.tuple #[]) ∧ Sp.Out w0.heap.size b (bs ++ Pr.cmd num n k x) k W w' := by
 intro n
 induction n with
 | zero => intro d k x h; exact h.elim
 | succ n ih =>
  intro d k x h hk q v bs W hq hp hl hW
  have hqk : q.k = x.1.1 := hq.1.1.1
  have hqn : q.nm = x.1.2.2.1 := hq.1.1.2.2.1
  rcases h with ⟨e, h⟩ | ⟨e, hn, h, h2⟩ | ⟨e, h, h2⟩ | e | ⟨e, h⟩ | ⟨e, h, hd, h1, h2⟩ | ⟨e, h, hd, h1⟩
  · have hc : Pr.cmd num (n + 1) k x = Pr.set num k x.1.2.2.1 x.2.1.2.1 := by show (if _ then _ else _) = _; rw [if_pos e]
    rw [hc] at hl ⊢
    exact Zji I q x hq (hqk.trans e) h b v bs k W hp (by omega) hl hW
  · have hc : Pr.cmd num (n + 1) k x = Pr.put num k x.1.2.2.1 x.2.1.1 x.2.1.2.1 := by show (if _ then _ else _) = _; rw [if_neg (by omega), if_pos e]
    rw [hc] at hl ⊢
    exact Zjb I q x hq (hqk.trans e) (by rw [hqn]; exact hn) h h2 b v bs k W hp (by omega) hl hW
  · have hc : Pr.cmd num (n + 1) k x = Pr.call num k x.1.2.2.1 x.1.2.2.2 x.2.1.2.2 := by show (if _ then _ else _) = _; rw [if_neg (by omega), if_neg (by omega), if_pos e]
    rw [hc] at hl ⊢
    exact ZeZ I q x (hqk.trans e) hq h h2 b v bs k W hp (by omega) hl hW
  · have hc : Pr.cmd num (n + 1) k x = Pr.read k x.1.2.2.1 := by show (if _ then _ else _) = _; rw [if_neg (by omega), if_neg (by omega), if_neg (by omega), if_pos e]
    rw [hc] at hl ⊢
    exact ZhP I q x hq (hqk.trans e) b v bs k W hp (by omega) hl hW
  · have hc : Pr.cmd num (n + 1) k x = ZcT num k x.2.1.2.1 := by show (if _ then _ else _) = _; rw [if_neg (by omega), if_neg (by omega), if_neg (by omega), if_neg (by omega), if_pos e]
    rw [hc] at hl ⊢
    exact Zes I q x (hqk.trans e) hq h b v bs k W hp (by omega) hl hW
  · have hc : Pr.cmd num (n + 1) k x = Zdn num k (Pr.cmd num n (k + 2)) x.2.1.2.1 x.2.2.1 x.2.2.2 := by show (if _ then _ else _) = _; rw [if_neg (by omega), if_neg (by omega), if_neg (by omega), if_neg (by omega), if_neg (by omega), if_pos e]
    rw [hc] at hl ⊢
    exact Zkq I q x hq (hqk.trans e) h (Pr.cmd num n (k + 2)) b v bs k W hp (by omega) (fun y hy => ih (d - 1) (k + 2) y (h1 y hy) (by omega)) (fun y hy => ih (d - 1) (k + 2) y (h2 y hy) (by omega)) hl hW
  have hc : Pr.cmd num (n + 1) k x = ZcS num k (Pr.cmd num n (k + 2)) x.2.1.2.1 x.2.2.1 := by show (if _ then _ else _) = _; rw [if_neg (by omega), if_neg (by omega), if_neg (by omega), if_neg (by omega), if_neg (by omega), if_neg (by omega)]
  rw [hc] at hl ⊢
  exact ZgQ I q x hq (hqk.trans e) h (Pr.cmd num n (k + 2)) b v bs k W hp (by omega) (fun y hy => ih (d - 1) (k + 2) y (h1 y hy) (by omega)) hl hW
end
end Go.Proofs.YtfccpddehpgfoaaGreatDoor
