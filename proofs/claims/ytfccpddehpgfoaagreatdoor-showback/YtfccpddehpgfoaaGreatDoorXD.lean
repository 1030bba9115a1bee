/- By the verifier. -/
import Derived.Test.YtfccpddehpgfoaaGreatDoorXC
import Derived.Test.YtfccpddehpgfoaaGreatDoorXL
set_option maxRecDepth 100000
set_option maxHeartbeats 3200000
namespace Go.Proofs.YtfccpddehpgfoaaGreatDoor
open Go.RowKit
set_option linter.unusedVariables false
section
variable {w0 : World} {num : Int → ByteArray} {NK : Int → Prop}
theorem ZdZ {m n : Nat} (f : Zap m n → List UInt8) (s : Tk.Sl) (l : List (Zap m n)) (hs : Tk.RS w0 17 (Tk.LC w0) (Tk.RC w0 m n) s l) (b k : Nat)
  (hcmd : ∀ x ∈ l, ∀ (q : Tk.C) (v : Value) (bs : List UInt8) (W : World), Tk.RC w0 m n q x → Sp.P w0.heap.size W b v (Lib.byteCells bs) (k : Int) → bs.length + (f x).length ≤ 140737488355328 → Below w0.heap.size w0 W → Calls Tryz.prog 164 #[.pointer (some ⟨b, 0, none⟩), .agg q.cells] W fun r w' => r = .returned (.tuple #[]) ∧ Sp.Out w0.heap.size b (bs ++ f x) k W w')
  (v : Value) (bs : List UInt8) (w : World) (h : Sp.P w0.heap.size w b v (Lib.byteCells bs) (k : Int)) (hlen : bs.length + (l.flatMap f).length ≤ 140737488355328) (hW : Below w0.heap.size w0 w) :
  Calls Tryz.prog 127 #[.pointer (some ⟨b, 0, none⟩), .slice s.ad s.len s.cap] w fun r w' => r = .returned (.tuple #[]) ∧ Sp.Out w0.heap.size b (bs ++ l.flatMap f) k w w' := by
 have hsl := hs.len
 have hfew := hs.few
 have HS := Hd hs
 have HP := Hd h
 have HLN := Hd hlen
 have HC := Hd hcmd
 have hBw : w0.heap.size ≤ w.heap.size := hW.size
 rw [hsl]
 clear hs h hlen hsl hcmd
 go_enter Tryz.func127, Tryz.ntmps127
 go_wp2_with fail
 go_loopw [8] (fun iv wr => ∃ i : Nat, i ≤ l.length ∧ iv = .int .i64 i ∧ Sp.Out w0.heap.size b (bs ++ (l.take i).flatMap f) k w wr) (fun iv _ => l.length - (intOf iv).toNat)
 case atStart => exact ⟨0, Nat.zero_le _, rfl, ⟨v, by simpa using uh HP⟩, Sp.Go.refl _ _ _⟩
 case round =>
  obtain ⟨i, hi, rfl, ⟨v3, hp3⟩, hgo3⟩ := hrel
  have hz := hgo3.below.size
  by_cases hlt : i < l.length
  · have hy := Zg hlt
    obtain ⟨b0, o, q, had, hb, hlies, hrd⟩ := (uh HS).at_ i _ hy
    generalize l[i] = x at *
    have hbe := hW.trans hgo3.below
    have hcell : ∀ j v, q.cells[j]? = some v → wr.cell? ⟨b0, o + i * 17 + j, none⟩ = some v := (hlies.later hbe Zl hb).cells
    have hone := Tk.C.one q
    have hi0 : (0 : Int) ≤ (i : Int) := by omega
    have hi1 : (i : Int) < (l.length : Int) := by omega
    have hbN := (Below.refl wr.heap.size wr).alloc Zl (Obj.cells q.cells 56)
    have hsN : (wr.alloc (Obj.cells q.cells 56)).heap.size = wr.heap.size + 1 := by simp
    have hv : ∀ j v, q.cells[j]? = some v → (wr.alloc (Obj.cells q.cells 56)).cell? ⟨wr.heap.size, j, none⟩ = some v := fun j v h => (World.cell?_alloc_new wr q.cells 56 j).trans h
    have hft := Pr.flat_take f l i x hy
    have hle := Pr.flat_le f l (i + 1)
    rw [hft, Za] at hle
    have hlt1 := uh HLN
    have HQ := Hd ((uh HC) x (List.mem_of_getElem? hy) q v3 _ _ hrd (hp3.below hbN) (by rw [Za]; omega) (hbe.trans (hbN.mono (by omega))))
    have HFT := Hd hft
    have HG3 := Hd (hgo3.trans (Sp.Go.of_below (b := b) hbN (by omega)))
    have HCE := Hd hcell
    have HV := Hd hv
    rw [had]
    clear hp3 hgo3 hft hle hbe hbN hlt1 hlies hcell hv hrd
    go_upto_region 2 with fail
    refine ZfI (cs := q.cells) (z := (Tk.C.zero).cells) (b := b0) (o := o) (i := i) (p := 6) (q := 8) (tA := 10) (tL := 11) (tB := 5) rfl rfl rfl rfl rfl rfl rfl rfl rfl rfl rfl rfl rfl rfl hlt (by simp) (by simp) (by simp) (by decide) (by decide) Tryz.underlying49 ZaZ rfl rfl Tryz.underlying56 rfl (uh HCE) hone ?_
    (try simp only [Zz, Zs])
    generalize (wr.alloc (Obj.cells q.cells 56)) = w9 at *
    go_upto_region 3 with fail
    refine wp_region_lit ?_
    refine Zih (a := 0) (t := 12) rfl rfl rfl rfl ?_
    (try simp only [Zz, Zs])
    refine Zfu (a := 5) (t := 13) (b := wr.heap.size) (off := 0) (cs := q.cells) rfl rfl rfl rfl (fun j v h => by rw [Nat.zero_add]; exact (uh HV) j v h) Tryz.underlying56 rfl (zero_of_info ZaZ).2 ?_
    (try simp only [Zz, Zs])
    go_wp2_with fail
    refine (uh HQ).mono ?_
    rintro r w4 ⟨rfl, ho4⟩
    have HO4 := Hd ho4
    clear ho4
    go_wp2_with fail
    refine ⟨⟨i + 1, by omega, by go_num, ?_, (uh HG3).trans (uh HO4).go⟩, by simp [intOf]; omega⟩
    have h4 := (uh HO4).pr
    rw [uh HFT, ← List.append_assoc]
    exact h4
  have e : i = l.length := by omega
  subst e
  have HP3 := Hd hp3
  have HG3 := Hd hgo3
  clear hp3 hgo3
  go_wp2_with fail
  go_end0
  exact ⟨rfl, ⟨v3, by have := uh HP3; rwa [List.take_length] at this⟩, uh HG3⟩
end
section
variable {w0 : World} {num : Int → ByteArray} {NK : Int → Prop}
def Pr.call (num : Int → ByteArray) (k : Nat) {m : Nat} (nm ot : ByteArray) (l : List (Zat m)) : List UInt8 := ZaW k [nm, ⟨#[32, 61, 32]⟩, ot, ⟨#[40]⟩, Pr.commas (l.map (Pr.text num m)), ⟨#[41, 59]⟩]
def ZcT (num : Int → ByteArray) (k : Nat) {m : Nat} (x : Zat m) : List UInt8 := ZaW k [⟨#[112, 114, 105, 110, 116, 32]⟩, Pr.text num m x, ⟨#[59]⟩]
theorem Zad {p : Nat} {cs : Array Value} {T : TypeId} {V : World} (h : V.heap[p]? = some (.cells cs T (0, 0))) (j : Nat) (v : Value) (hj : cs[j]? = some v) : V.cell? ⟨p, j, none⟩ = some v := (cell_of_row V p j cs T (0, 0) h).trans hj
theorem Zes (I : Pr.It w0.heap.size w0 num NK) {m n : Nat} (q : Tk.C) (x : Zap m (n + 1)) (hk : q.k = 5) (hq : Tk.RC w0 m (n + 1) q x) (hok : Pr.ok NK m x.2.1.2.1 ∧ Zab m x.2.1.2.1 ≤ 15)
  (b : Nat) (v : Value) (bs : List UInt8) (k : Nat) (w : World) (h : Sp.P w0.heap.size w b v (Lib.byteCells bs) (k : Int)) (hk2 : k ≤ 1000) (hlen : bs.length + (ZcT num k x.2.1.2.1).length ≤ 140737488355328) (hW : Below w0.heap.size w0 w) :
  Calls Tryz.prog 164 #[.pointer (some ⟨b, 0, none⟩), .agg q.cells] w fun r w' => r = .returned (.tuple #[]) ∧ Sp.Out w0.heap.size b (bs ++ ZcT num k x.2.1.2.1) k w w' := by
 obtain ⟨-, ⟨hix, hex, hargs⟩, -⟩ := hq
 have hbA := (Below.refl w.heap.size w).alloc Zl (Obj.cells q.cells 56)
 have hsA : (w.alloc (Obj.cells q.cells 56)).heap.size = w.heap.size + 1 := by simp
 have hBX : (w.alloc (Obj.cells q.cells 56)).heap[w.heap.size]? = some (.cells q.cells 56 (0, 0)) := heap_alloc_new w _
 have hBw : w0.heap.size ≤ w.heap.size := hW.size
 have hWA := hW.trans (hbA.mono hBw)
 have HQ := Hd (Zby I m q.ex x.2.1.2.1 _ (hex.later hWA Zl) hok.1 hok.2 hWA)
 have HP := Hd (h.below hbA)
 have HLN := Hd hlen
 have HBA := Hd hbA
 have c0 := Zad hBX 0 (.int .i64 5) (by rw [← hk]; rfl)
 have c9 := Zad hBX 9 (.int .i64 q.ex.k) rfl
 have c10 := Zad hBX 10 (.int .i64 q.ex.a) rfl
 have c11 := Zad hBX 11 (.int .i64 q.ex.n) rfl
 have c12 := Zad hBX 12 (.string q.ex.nm) rfl
 have c13 := Zad hBX 13 (.slice q.ex.args.ad q.ex.args.len q.ex.args.cap) rfl
 clear hbA hix hex hargs h hlen hk
 unfold Tk.E.val at HQ
 unfold Tk.C.cells at *
 go_enter Tryz.func164, Tryz.ntmps164
 go_upto_region 1 with fail
 generalize (w.alloc (Obj.cells #[.int .i64 q.k, .int .i64 q.a, .string q.nm, .string q.ot, .int .i64 q.ix.k, .int .i64 q.ix.a, .int .i64 q.ix.n, .string q.ix.nm, .slice q.ix.args.ad q.ix.args.len q.ix.args.cap, .int .i64 q.ex.k, .int .i64 q.ex.a, .int .i64 q.ex.n, .string q.ex.nm, .slice q.ex.args.ad q.ex.args.len q.ex.args.cap, .slice q.args.ad q.args.len q.args.cap, .slice q.th.ad q.th.len q.th.cap, .slice q.el.ad q.el.len q.el.cap] 56)) = wa at *
 have HWA := Hd hWA
 have HBX := Hd hBX
 clear hWA hBX
 go_upto_region 11 with fail
 go_wp2_with fail
 refine (uh HQ).mono ?_
 rintro r w2 ⟨rfl, hb2⟩
 have hs2 := hb2.size
 have HL := Hd (ZaY w0.heap.size b v bs k w2 [⟨#[112, 114, 105, 110, 116, 32]⟩, Pr.text num m x.2.1.2.1, ⟨#[59]⟩] w2.heap.size 3 #[.string ⟨#[112, 114, 105, 110, 116, 32]⟩, .string (Pr.text num m x.2.1.2.1), .string ⟨#[59]⟩] rfl rfl rfl ((uh HP).below hb2) (by omega) (by simp) (uh HLN) (by omega))
 have HB2 := Hd ((uh HBA).trans (hb2.mono (by omega)))
 clear hb2
 go_wp2_with fail
 refine (uh HL).mono ?_
 rintro r w3 ⟨rfl, ho3⟩
 have HO3 := Hd ho3
 clear ho3
 go_wp2_with fail
 go_end0
 exact ⟨rfl, (uh HO3).pr, (Sp.Go.of_below (uh HB2) hBw).trans (uh HO3).go⟩
abbrev Sp.Bx3 (p i j k : Nat) (a b c : Value) (cs : Array Value) (T : TypeId) (V : World) : Prop := V.cell? ⟨p, i, none⟩ = some a ∧ V.cell? ⟨p, j, none⟩ = some b ∧ V.cell? ⟨p, k, none⟩ = some c ∧ V.heap[p]? = some (.cells cs T (0, 0))
theorem Sp.Bx3.of {p i j k : Nat} {a b c : Value} {cs : Array Value} {T : TypeId} {V : World} (h : V.heap[p]? = some (.cells cs T (0, 0))) (hi : cs[i]? = some a) (hj : cs[j]? = some b) (hk : cs[k]? = some c) : Sp.Bx3 p i j k a b c cs T V := ⟨Zad h _ _ hi, Zad h _ _ hj, Zad h _ _ hk, h⟩
theorem Sp.Bx3.same {p i j k : Nat} {a b c : Value} {cs : Array Value} {T : TypeId} {V V' : World} (h : Sp.Bx3 p i j k a b c cs T V) (hh : V'.heap[p]? = V.heap[p]?) : Sp.Bx3 p i j k a b c cs T V' := by
 have hc : ∀ j, V'.cell? ⟨p, j, none⟩ = V.cell? ⟨p, j, none⟩ := fun j => Zc (a := ⟨p, j, none⟩) hh
 exact ⟨(hc i).trans h.1, (hc j).trans h.2.1, (hc k).trans h.2.2.1, hh.trans h.2.2.2⟩
theorem Sp.Bx3.below {p i j k : Nat} {a b c : Value} {cs : Array Value} {T : TypeId} {V V' : World} (h : Sp.Bx3 p i j k a b c cs T V) (hb : Below V.heap.size V V') : Sp.Bx3 p i j k a b c cs T V' :=
 h.same (hb.block p (World.block_lt_of_cell? V _ h.1))
theorem Sp.Bx3.go {p i j k B d : Nat} {a b c : Value} {cs : Array Value} {T : TypeId} {V V' : World} (h : Sp.Bx3 p i j k a b c cs T V) (hg : Sp.Go B d V V') (hp : p ≠ d) (hT : T ≠ 5) : Sp.Bx3 p i j k a b c cs T V' := h.same ((hg.box hp h.2.2.2 hT).trans h.2.2.2.symm)
theorem ZeZ (I : Pr.It w0.heap.size w0 num NK) {m n : Nat} (q : Tk.C) (x : Zap m (n + 1)) (hk : q.k = 3) (hq : Tk.RC w0 m (n + 1) q x) (hok : ∀ y ∈ x.2.1.2.2, Pr.ok NK m y ∧ Zab m y ≤ 15) (hfew : x.2.1.2.2.length ≤ 1000)
  (b : Nat) (v : Value) (bs : List UInt8) (k : Nat) (w : World) (h : Sp.P w0.heap.size w b v (Lib.byteCells bs) (k : Int)) (hk2 : k ≤ 1000) (hlen : bs.length + (Pr.call num k x.1.2.2.1 x.1.2.2.2 x.2.1.2.2).length ≤ 140737488355328) (hW : Below w0.heap.size w0 w) :
  Calls Tryz.prog 164 #[.pointer (some ⟨b, 0, none⟩), .agg q.cells] w fun r w' => r = .returned (.tuple #[]) ∧ Sp.Out w0.heap.size b (bs ++ Pr.call num k x.1.2.2.1 x.1.2.2.2 x.2.1.2.2) k w w' := by
 obtain ⟨⟨⟨-, -, hn1, hn2⟩, -⟩, ⟨-, -, hargs⟩, -⟩ := hq
 rw [← hn1, ← hn2] at hlen ⊢
 have hbA := (Below.refl w.heap.size w).alloc Zl (Obj.cells q.cells 56)
 have hsA : (w.alloc (Obj.cells q.cells 56)).heap.size = w.heap.size + 1 := by simp
 have hBX : (w.alloc (Obj.cells q.cells 56)).heap[w.heap.size]? = some (.cells q.cells 56 (0, 0)) := heap_alloc_new w _
 have hBw : w0.heap.size ≤ w.heap.size := hW.size
 have hWA := hW.trans (hbA.mono hBw)
 have HQ := Hd (fun (W : World) (hb : Below w0.heap.size w0 W) => ZiO I q.args x.2.1.2.2 W (hargs.laterE hb Zl) hfew hok hb)
 have hbl := h.lt
 have HP := Hd (h.below hbA)
 have HLN := Hd hlen
 have HBA := Hd hbA
 have c0 := Zad hBX 0 (.int .i64 3) (by rw [← hk]; rfl)
 have HX := Hd (show Sp.Bx3 w.heap.size 2 3 14 (.string q.nm) (.string q.ot) (.slice q.args.ad q.args.len q.args.cap) q.cells 56 _ from Sp.Bx3.of hBX rfl rfl rfl)
 have hne : w.heap.size ≠ b := by omega
 clear hbA hargs h hlen hk hBX hn1 hn2
 obtain ⟨cs, hcs⟩ : ∃ cs, cs = q.cells := ⟨_, rfl⟩
 have hcs2 : cs = #[.int .i64 q.k, .int .i64 q.a, .string q.nm, .string q.ot, .int .i64 q.ix.k, .int .i64 q.ix.a, .int .i64 q.ix.n, .string q.ix.nm, .slice q.ix.args.ad q.ix.args.len q.ix.args.cap, .int .i64 q.ex.k, .int .i64 q.ex.a, .int .i64 q.ex.n, .string q.ex.nm, .slice q.ex.args.ad q.ex.args.len q.ex.args.cap, .slice q.args.ad q.args.len q.args.cap, .slice q.th.ad q.th.len q.th.cap, .slice q.el.ad q.el.len q.el.cap] := hcs
 rw [← hcs] at HX hsA c0 hWA HP HBA ⊢
 clear hcs
 go_enter Tryz.func164, Tryz.ntmps164
 rw [hcs2]
 go_upto_region 1 with fail
 rw [← hcs2]
 clear hcs2
 generalize (w.alloc (Obj.cells cs 56)) = wa at *
 have HWA := Hd hWA
 clear hWA
 go_upto_region 7 with fail
 go_region_held3 (fun V => V.cell? ⟨w.heap.size, 2, none⟩ = some (.string q.nm) ∧ V.cell? ⟨w.heap.size, 3, none⟩ = some (.string q.ot) ∧ V.cell? ⟨w.heap.size, 14, none⟩ = some (.slice q.args.ad q.args.len q.args.cap) ∧ V.heap[w.heap.size]? = some (.cells cs 56 (0, 0)))
  (first
   | exact Sp.Bx3.below (uh HX) Zr.drew
   | exact Sp.Bx3.go (uh HX4) (Sp.Out.go (uh HO5)) hne (by decide)
   | exact Sp.Bx3.below (by assumption) (Zr.alloc Zl _)
   | exact Sp.Bx3.below (by assumption) (uh HB4))
  (first
   | (go_at_call 197; refine ((uh HQ) _ ((uh HWA).trans (Zr.drew))).mono ?_; rintro r w4 ⟨rfl, hb4⟩; have hz4 := hb4.size; have HB4 := Hd hb4; have HX4 := Hd (Sp.Bx3.below (Sp.Bx3.below (uh HX) Zr.drew) hb4); have HBW4 := Hd ((Below.refl wa.heap.size wa).drew.trans hb4); have HP5 := Hd ((uh HP).below (uh HBW4)); clear hb4)
   | (go_at_call 123; refine (ZaY w0.heap.size b v bs k _ [q.nm, ⟨#[32, 61, 32]⟩, q.ot, ⟨#[40]⟩, Pr.commas (x.2.1.2.2.map (Pr.text num m)), ⟨#[41, 59]⟩] _ 6 _ rfl rfl rfl (uh HP5) (by omega) (by simp) (uh HLN) ?_).mono ?_; (have : wa.drew.heap.size = wa.heap.size := rfl); omega; rintro r w5 ⟨rfl, ho5⟩; have HO5 := Hd ho5; clear ho5))
 all_goals
  go_wp2_with fail
  go_end0
  exact ⟨rfl, (uh HO5).pr, ((Sp.Go.of_below (uh HBA) hBw).then (uh HBW4) hBw).trans (uh HO5).go⟩
end
abbrev Sp.Cmds (w0 : World) (b k : Nat) {m n : Nat} (f : Zap m n → List UInt8) (l : List (Zap m n)) : Prop :=
 ∀ x ∈ l, ∀ (q : Tk.C) (v : Value) (bs : List UInt8) (W : World), Tk.RC w0 m n q x → Sp.P w0.heap.size W b v (Lib.byteCells bs) (k : Int) → bs.length + (f x).length ≤ 140737488355328 → Below w0.heap.size w0 W → Calls Tryz.prog 164 #[.pointer (some ⟨b, 0, none⟩), .agg q.cells] W fun r w' => r = .returned (.tuple #[]) ∧ Sp.Out w0.heap.size b (bs ++ f x) k W w'
def ZcG {m n : Nat} (num : Int → ByteArray) (k : Nat) (f : Zap m n → List UInt8) (x : Tk.FT m n) : List UInt8 := Pr.vars num k x.vs ++ x.cs.flatMap f
def ZdF {m n : Nat} (num : Int → ByteArray) (k : Nat) (f : Zap m n → List UInt8) (x : Tk.FT m n) : List UInt8 := ZcG num k f x ++ ZaW k [⟨#[114, 101, 116, 117, 114, 110, 32]⟩, Pr.text num m x.re, ⟨#[59]⟩]
structure Sp.Two (pb fb b : Nat) (F : Tk.F) (V : World) : Prop where
 p : V.heap[pb]? = some (.cells #[.pointer (some ⟨b, 0, none⟩)] 123 (0, 0))
 f : V.heap[fb]? = some (.cells F.cells 54 (0, 0))
 np : pb ≠ b
 nf : fb ≠ b
theorem Sp.Two.go {pb fb b B : Nat} {F : Tk.F} {V V' : World} (h : Sp.Two pb fb b F V) (hg : Sp.Go B b V V') : Sp.Two pb fb b F V' := ⟨hg.box h.np h.p (by decide), hg.box h.nf h.f (by decide), h.np, h.nf⟩
section
variable {w0 : World} {num : Int → ByteArray} {NK : Int → Prop}
theorem Zha (B b : Nat) (v : Value) (bs X : List UInt8) (k pb fb : Nat) (w : World) (h : Sp.P B w b v (Lib.byteCells bs) (k : Int)) (hk : k ≤ 1000)
  (HF : ∀ W, Sp.Go B b w W → Sp.P B W b v (Lib.byteCells bs) ((k + 2 : Nat) : Int) → Calls Tryz.prog 125 #[.pointer (some ⟨pb, 0, none⟩), .pointer (some ⟨fb, 0, none⟩)] W fun r w' => r = .returned (.tuple #[]) ∧ Sp.Out B b (bs ++ X) (k + 2) W w') :
  Calls Tryz.prog 124 #[.pointer (some ⟨b, 0, none⟩), .func (.func 125) #[] #[.pointer (some ⟨pb, 0, none⟩), .pointer (some ⟨fb, 0, none⟩)]] w fun r w' => r = .returned (.tuple #[]) ∧ Sp.Out B b (bs ++ X) k w w' := by
 have c2 := h.c2
 have f2 := h.fz 2
 have hG := (Sp.Go.refl B b w).set 2 (.int .i64 ((k : Int) + 2)) h.ge
 have HQ := Hd (HF _ hG (h.indent ((k : Int) + 2)))
 have HG := Hd hG
 have hge := h.ge
 have hk0 : (0 : Int) ≤ (k : Int) := by omega
 have hk1 : (k : Int) ≤ 1000 := by omega
 clear h HF hG
 go_enter Tryz.func124, Tryz.ntmps124
 go_wp2_with fail
 refine (uh HQ).mono ?_
 rintro r w2 ⟨rfl, ⟨v2, hp2⟩, hgo2⟩
 have d2 : w2.cell? ⟨b, 2, none⟩ = some (.int .i64 ((k : Int) + 2)) := hp2.c2
 have e2 := hp2.fz 2
 have HP2 := Hd (hp2.indent (k : Int))
 have HG2 := Hd (((uh HG).trans hgo2).set 2 (.int .i64 (k : Int)) hge)
 have he : (k : Int) + 2 - 2 = (k : Int) := by omega
 clear hp2 hgo2
 go_wp2_with fail
 go_end0
 exact ⟨rfl, ⟨v2, uh HP2⟩, uh HG2⟩
theorem ZgU (B b : Nat) (v : Value) (bs X : List UInt8) (k pb fb : Nat) (w : World) (h : Sp.P B w b v (Lib.byteCells bs) (k : Int)) (hk : k ≤ 1000)
  (HF : ∀ W, Sp.Go B b w W → Sp.P B W b v (Lib.byteCells bs) ((k + 2 : Nat) : Int) → Calls Tryz.prog 129 #[.pointer (some ⟨pb, 0, none⟩), .pointer (some ⟨fb, 0, none⟩)] W fun r w' => r = .returned (.tuple #[]) ∧ Sp.Out B b (bs ++ X) (k + 2) W w') :
  Calls Tryz.prog 124 #[.pointer (some ⟨b, 0, none⟩), .func (.func 129) #[] #[.pointer (some ⟨pb, 0, none⟩), .pointer (some ⟨fb, 0, none⟩)]] w fun r w' => r = .returned (.tuple #[]) ∧ Sp.Out B b (bs ++ X) k w w' := by
 have c2 := h.c2
 have f2 := h.fz 2
 have hG := (Sp.Go.refl B b w).set 2 (.int .i64 ((k : Int) + 2)) h.ge
 have HQ := Hd (HF _ hG (h.indent ((k : Int) + 2)))
 have HG := Hd hG
 have hge := h.ge
 have hk0 : (0 : Int) ≤ (k : Int) := by omega
 have hk1 : (k : Int) ≤ 1000 := by omega
 clear h HF hG
 go_enter Tryz.func124, Tryz.ntmps124
 go_wp2_with fail
 refine (uh HQ).mono ?_
 rintro r w2 ⟨rfl, ⟨v2, hp2⟩, hgo2⟩
 have d2 : w2.cell? ⟨b, 2, none⟩ = some (.int .i64 ((k : Int) + 2)) := hp2.c2
 have e2 := hp2.fz 2
 have HP2 := Hd (hp2.indent (k : Int))
 have HG2 := Hd (((uh HG).trans hgo2).set 2 (.int .i64 (k : Int)) hge)
 have he : (k : Int) + 2 - 2 = (k : Int) := by omega
 clear hp2 hgo2
 go_wp2_with fail
 go_end0
 exact ⟨rfl, ⟨v2, uh HP2⟩, uh HG2⟩
abbrev Sp.Rs (pb fb b : Nat) (F : Tk.F) (V : World) : Prop := V.cell? ⟨pb, 0, none⟩ = some (.pointer (some ⟨b, 0, none⟩)) ∧ V.cell? ⟨fb, 5, none⟩ = some (.int .i64 F.re.k) ∧ V.cell? ⟨fb, 6, none⟩ = some (.int .i64 F.re.a) ∧ V.cell? ⟨fb, 7, none⟩ = some (.int .i64 F.re.n) ∧ V.cell? ⟨fb, 8, none⟩ = some (.string F.re.nm) ∧ V.cell? ⟨fb, 9, none⟩ = some (.slice F.re.args.ad F.re.args.len F.re.args.cap) ∧ Sp.Two pb fb b F V
theorem Sp.Rs.of {pb fb b : Nat} {F : Tk.F} {V : World} (h : Sp.Two pb fb b F V) : Sp.Rs pb fb b F V := ⟨Zad h.p 0 _ rfl, Zad h.f 5 _ rfl, Zad h.f 6 _ rfl, Zad h.f 7 _ rfl, Zad h.f 8 _ rfl, Zad h.f 9 _ rfl, h⟩
theorem Sp.Rs.below {pb fb b : Nat} {F : Tk.F} {V V' : World} (h : Sp.Rs pb fb b F V) (hb : Below V.heap.size V V') : Sp.Rs pb fb b F V' :=
 Sp.Rs.of ⟨(hb.block pb (World.block_lt_of_cell? V _ h.1)).trans h.2.2.2.2.2.2.p, (hb.block fb (World.block_lt_of_cell? V _ h.2.1)).trans h.2.2.2.2.2.2.f, h.2.2.2.2.2.2.np, h.2.2.2.2.2.2.nf⟩
theorem Sp.Rs.go {pb fb b B : Nat} {F : Tk.F} {V V' : World} (h : Sp.Rs pb fb b F V) (hg : Sp.Go B b V V') : Sp.Rs pb fb b F V' := Sp.Rs.of (h.2.2.2.2.2.2.go hg)
theorem ZlM (I : Pr.It w0.heap.size w0 num NK) {m n : Nat} (f : Zap m n → List UInt8) (F : Tk.F) (x : Tk.FT m n) (hF : Tk.RF w0 m n F x) (hvs : ∀ y ∈ x.vs, y.1.size ≤ 64 ∧ (y.2 = 0 ∨ NK y.2)) (hvl : x.vs.length ≤ 1000)
  (b k pb fb : Nat) (hk : k ≤ 1000) (hcmd : Sp.Cmds w0 b k f x.cs) (v : Value) (bs : List UInt8) (w : World) (h : Sp.P w0.heap.size w b v (Lib.byteCells bs) (k : Int)) (hT : Sp.Two pb fb b F w) (hlen : bs.length + (ZcG num k f x).length ≤ 140737488355328) (hW : Below w0.heap.size w0 w) :
  Calls Tryz.prog 129 #[.pointer (some ⟨pb, 0, none⟩), .pointer (some ⟨fb, 0, none⟩)] w fun r w' => r = .returned (.tuple #[]) ∧ Sp.Out w0.heap.size b (bs ++ ZcG num k f x) k w w' := by
 have hBw := hW.size
 have hlM : bs.length + (Pr.vars num k x.vs).length + (x.cs.flatMap f).length + 0 ≤ 140737488355328 := by
  unfold ZcG at hlen
  simp only [Za] at hlen
  omega
 have HQ := Hd (ZeM I F.vs x.vs hF.vs hvs hvl b v bs k w h hk (by omega) hW)
 have p0 := Zad hT.p 0 _ rfl
 have q3 := Zad hT.f 3 (.slice F.vs.ad F.vs.len F.vs.cap) rfl
 have HT := Hd hT
 have HLM := Hd hlM
 clear h hT hlen hvs
 go_enter Tryz.func129, Tryz.ntmps129
 go_wp2_with fail
 refine (uh HQ).mono ?_
 rintro r w2 ⟨rfl, ⟨v2, hp2⟩, hgo2⟩
 have hlM := uh HLM
 have HR := Hd (ZdZ f F.cs x.cs hF.cs b k hcmd v2 (bs ++ Pr.vars num k x.vs) w2 hp2 (by rw [Za]; omega) (hW.trans hgo2.below))
 have hT2 := (uh HT).go hgo2
 have p02 := Zad hT2.p 0 _ rfl
 have q4 := Zad hT2.f 4 (.slice F.cs.ad F.cs.len F.cs.cap) rfl
 have HT2 := Hd hT2
 have HG2 := Hd hgo2
 clear hp2 hgo2 hT2 p0 q3 hlM
 go_wp2_with fail
 refine (uh HR).mono ?_
 rintro r w3 ⟨rfl, ⟨v3, hp3⟩, hgo3⟩
 have HP3 := Hd hp3
 have HG3 := Hd ((uh HG2).trans hgo3)
 clear hp3 hgo3
 go_wp2_with fail
 go_end0
 refine ⟨rfl, ⟨v3, ?_⟩, uh HG3⟩
 have := uh HP3
 unfold ZcG
 rw [← List.append_assoc]
 exact this
theorem ZlK (I : Pr.It w0.heap.size w0 num NK) {m n : Nat} (f : Zap m n → List UInt8) (F : Tk.F) (x : Tk.FT m n) (hF : Tk.RF w0 m n F x) (hvs : ∀ y ∈ x.vs, y.1.size ≤ 64 ∧ (y.2 = 0 ∨ NK y.2)) (hvl : x.vs.length ≤ 1000) (hre : Pr.ok NK m x.re ∧ Zab m x.re ≤ 15)
  (b k pb fb : Nat) (hk : k ≤ 1000) (hcmd : Sp.Cmds w0 b k f x.cs) (v : Value) (bs : List UInt8) (w : World) (h : Sp.P w0.heap.size w b v (Lib.byteCells bs) (k : Int)) (hT : Sp.Two pb fb b F w) (hlen : bs.length + (ZdF num k f x).length ≤ 140737488355328) (hW : Below w0.heap.size w0 w) :
  Calls Tryz.prog 125 #[.pointer (some ⟨pb, 0, none⟩), .pointer (some ⟨fb, 0, none⟩)] w fun r w' => r = .returned (.tuple #[]) ∧ Sp.Out w0.heap.size b (bs ++ ZdF num k f x) k w w' := by
 have hBw := hW.size
 have hlM : bs.length + (Pr.vars num k x.vs).length + (x.cs.flatMap f).length + (ZaW k [⟨#[114, 101, 116, 117, 114, 110, 32]⟩, Pr.text num m x.re, ⟨#[59]⟩]).length ≤ 140737488355328 := by
  unfold ZdF ZcG at hlen
  simp only [Za] at hlen
  omega
 have HQ := Hd (ZeM I F.vs x.vs hF.vs hvs hvl b v bs k w h hk (by omega) hW)
 have p0 := Zad hT.p 0 _ rfl
 have q3 := Zad hT.f 3 (.slice F.vs.ad F.vs.len F.vs.cap) rfl
 have HT := Hd hT
 have HLM := Hd hlM
 clear h hT hlen hvs
 go_enter Tryz.func125, Tryz.ntmps125
 go_wp2_with fail
 refine (uh HQ).mono ?_
 rintro r w2 ⟨rfl, ⟨v2, hp2⟩, hgo2⟩
 have hlM := uh HLM
 have HR := Hd (ZdZ f F.cs x.cs hF.cs b k hcmd v2 (bs ++ Pr.vars num k x.vs) w2 hp2 (by rw [Za]; omega) (hW.trans hgo2.below))
 have hT2 := (uh HT).go hgo2
 have p02 := Zad hT2.p 0 _ rfl
 have q4 := Zad hT2.f 4 (.slice F.cs.ad F.cs.len F.cs.cap) rfl
 have HT2 := Hd hT2
 have HG2 := Hd hgo2
 clear hp2 hgo2 hT2 p0 q3 hlM
 go_wp2_with fail
 refine (uh HR).mono ?_
 rintro r w3 ⟨rfl, ⟨v3, hp3⟩, hgo3⟩
 have hT3 := (uh HT2).go hgo3
 have hG3 := (uh HG2).trans hgo3
 have hW3 := hW.trans hG3.below
 have hBw3 := hW3.size
 have HX := Hd (show Sp.Rs pb fb b F w3 from Sp.Rs.of hT3)
 have HE := Hd (fun (W : World) (hb : Below w0.heap.size w0 W) => Zby I m F.re x.re W (hF.re.later hb Zl) hre.1 hre.2 hb)
 have HP3 := Hd hp3
 have HG3 := Hd hG3
 have HW3 := Hd hW3
 clear hp3 hgo3 hT3 hG3 hW3 p02 q4
 unfold Tk.E.val at HE
 go_wp2_with fail
 go_region_held3 (fun V => V.cell? ⟨pb, 0, none⟩ = some (.pointer (some ⟨b, 0, none⟩)) ∧ V.cell? ⟨fb, 5, none⟩ = some (.int .i64 F.re.k) ∧ V.cell? ⟨fb, 6, none⟩ = some (.int .i64 F.re.a) ∧ V.cell? ⟨fb, 7, none⟩ = some (.int .i64 F.re.n) ∧ V.cell? ⟨fb, 8, none⟩ = some (.string F.re.nm) ∧ V.cell? ⟨fb, 9, none⟩ = some (.slice F.re.args.ad F.re.args.len F.re.args.cap) ∧ Sp.Two pb fb b F V)
  (first
   | exact Sp.Rs.below (uh HX) Zr.drew
   | exact Sp.Rs.go (uh HX4) (Sp.Out.go (uh HO5))
   | exact Sp.Rs.below (by assumption) (Zr.alloc Zl _)
   | exact Sp.Rs.below (by assumption) (uh HB4))
  (first
   | (go_at_call 128; refine ((uh HE) _ ((uh HW3).trans (Zr.drew))).mono ?_; rintro r w4 ⟨rfl, hb4⟩; have hz4 := hb4.size; have HB4 := Hd hb4; have HX4 := Hd (Sp.Rs.below (Sp.Rs.below (uh HX) Zr.drew) hb4); have HBW4 := Hd ((Below.refl w3.heap.size w3).drew.trans hb4); have HP5 := Hd ((uh HP3).below (uh HBW4)); clear hb4)
   | (go_at_call 123; refine (ZaY w0.heap.size b v3 _ k _ [⟨#[114, 101, 116, 117, 114, 110, 32]⟩, Pr.text num m x.re, ⟨#[59]⟩] _ 3 _ rfl rfl rfl (uh HP5) (by omega) (by simp) ?_ ?_).mono ?_; have := uh HLM; simp only [Za] at this ⊢; omega; (have : w3.drew.heap.size = w3.heap.size := rfl); omega; rintro r w5 ⟨rfl, ho5⟩; have HO5 := Hd ho5; clear ho5))
 all_goals
  go_wp2_with fail
  go_end0
  refine ⟨rfl, ?_, ((uh HG3).then (uh HBW4) hBw).trans (uh HO5).go⟩
  have := (uh HO5).pr
  unfold ZdF ZcG
  rw [← List.append_assoc, ← List.append_assoc]
  exact this
end
def Pr.func {m n : Nat} (num : Int → ByteArray) (k : Nat) (f : Zap m n → List UInt8) (x : Tk.FT m n) : List UInt8 := ZaW k [⟨#[102, 117, 110, 99, 32]⟩, x.nm, ⟨#[40]⟩, Pr.commas x.ps, ⟨#[41, 32, 123]⟩] ++ ZdF num (k + 2) f x ++ ZaW k [⟨#[125]⟩]
def Pr.main {m n : Nat} (num : Int → ByteArray) (k : Nat) (f : Zap m n → List UInt8) (x : Tk.FT m n) : List UInt8 := ZaW k [⟨#[109, 97, 105, 110, 32, 123]⟩] ++ ZcG num (k + 2) f x ++ ZaW k [⟨#[125]⟩]
section
variable {w0 : World} {num : Int → ByteArray} {NK : Int → Prop}
theorem Zdd (I : Pr.It w0.heap.size w0 num NK) {m n : Nat} (f : Zap m n → List UInt8) (F : Tk.F) (x : Tk.FT m n) (hF : Tk.RF w0 m n F x) (hvs : ∀ y ∈ x.vs, y.1.size ≤ 64 ∧ (y.2 = 0 ∨ NK y.2)) (hvl : x.vs.length ≤ 1000) (hre : Pr.ok NK m x.re ∧ Zab m x.re ≤ 15) (hps : x.ps.length ≤ 1000 ∧ ∀ s ∈ x.ps, s.size ≤ 64)
  (b k : Nat) (hk : k ≤ 100) (hcmd : Sp.Cmds w0 b (k + 2) f x.cs) (v : Value) (bs : List UInt8) (w : World) (h : Sp.P w0.heap.size w b v (Lib.byteCells bs) (k : Int)) (hlen : bs.length + (Pr.func num k f x).length ≤ 140737488355328) (hW : Below w0.heap.size w0 w) :
  Calls Tryz.prog 72 #[.pointer (some ⟨b, 0, none⟩), .agg F.cells] w fun r w' => r = .returned (.tuple #[]) ∧ Sp.Out w0.heap.size b (bs ++ Pr.func num k f x) k w w' := by
 have hBw := hW.size
 have hnm := hF.nm
 have hln : bs.length + (ZaW k [⟨#[102, 117, 110, 99, 32]⟩, F.nm, ⟨#[40]⟩, Pr.commas x.ps, ⟨#[41, 32, 123]⟩]).length + (ZdF num (k + 2) f x).length + (ZaW k [⟨#[125]⟩]).length ≤ 140737488355328 := by
  unfold Pr.func at hlen
  (try rw [← hnm] at hlen)
  simp only [Za] at hlen
  omega
 have HNM := Hd hnm
 have HLN := Hd hln
 clear hnm
 have hbl := h.lt
 have hbA := ((Below.refl w.heap.size w).alloc Zl (Obj.cells #[.pointer (some ⟨b, 0, none⟩)] 123)).alloc (by simp) (Obj.cells F.cells 54)
 have hsA : ((w.alloc (Obj.cells #[.pointer (some ⟨b, 0, none⟩)] 123)).alloc (Obj.cells F.cells 54)).heap.size = w.heap.size + 2 := by simp
 have hT : Sp.Two w.heap.size (w.heap.size + 1) b F ((w.alloc (Obj.cells #[.pointer (some ⟨b, 0, none⟩)] 123)).alloc (Obj.cells F.cells 54)) := by
  have h1 : (w.alloc (Obj.cells #[.pointer (some ⟨b, 0, none⟩)] 123)).heap.size = w.heap.size + 1 := by simp
  refine ⟨?_, ?_, by omega, by omega⟩
  · exact (((Below.refl _ (w.alloc (Obj.cells #[.pointer (some ⟨b, 0, none⟩)] 123))).alloc Zl (Obj.cells F.cells 54)).block w.heap.size (by omega)).trans (heap_alloc_new w _)
  rw [← h1]
  exact heap_alloc_new _ _
 have HP := Hd (h.below hbA)
 have HBA := Hd hbA
 have hWA := hW.trans (hbA.mono hBw)
 clear hbA h hlen
 unfold Tk.F.cells at hT
 unfold Tk.F.cells at hsA HP HBA hWA ⊢
 go_enter Tryz.func72, Tryz.ntmps72
 go_upto_region 1 with fail
 generalize ((w.alloc (Obj.cells #[.pointer (some ⟨b, 0, none⟩)] 123)).alloc (Obj.cells #[.int .i64 F.a, .string F.nm, .slice F.ps.ad F.ps.len F.ps.cap, .slice F.vs.ad F.vs.len F.vs.cap, .slice F.cs.ad F.cs.len F.cs.cap, .int .i64 F.re.k, .int .i64 F.re.a, .int .i64 F.re.n, .string F.re.nm, .slice F.re.args.ad F.re.args.len F.re.args.cap] 54)) = wa at *
 have hT : Sp.Two w.heap.size (w.heap.size + 1) b F wa := hT
 have p0 := Zad hT.p 0 _ rfl
 have q1 := Zad hT.f 1 (.string F.nm) rfl
 have q2 := Zad hT.f 2 (.slice F.ps.ad F.ps.len F.ps.cap) rfl
 have HT := Hd hT
 have HQ := Hd (Zi9 F.ps x.ps wa (hF.ps.laterS hWA Zl) hps.1 hps.2)
 have HWA := Hd hWA
 clear hT hWA
 go_wp2_with fail
 refine (uh HQ).mono ?_
 rintro r w2 ⟨rfl, hb2⟩
 have hs2 := hb2.size
 have p02 := (hb2.cell (p := ⟨w.heap.size, 0, none⟩) (by show w.heap.size < _; omega)).trans p0
 have q12 := (hb2.cell (p := ⟨w.heap.size + 1, 1, none⟩) (by show w.heap.size + 1 < _; omega)).trans q1
 have hT2 : Sp.Two w.heap.size (w.heap.size + 1) b F w2 := ⟨(hb2.block _ (by omega)).trans (uh HT).p, (hb2.block _ (by omega)).trans (uh HT).f, (uh HT).np, (uh HT).nf⟩
 have HP2 := Hd ((uh HP).below hb2)
 have HBA2 := Hd ((uh HBA).trans (hb2.mono (by omega)))
 have HT2 := Hd hT2
 clear hb2 hT2 p0 q1 q2
 have HL := Hd (ZaY w0.heap.size b v bs k w2 [⟨#[102, 117, 110, 99, 32]⟩, F.nm, ⟨#[40]⟩, Pr.commas x.ps, ⟨#[41, 32, 123]⟩] w2.heap.size 5 #[.string ⟨#[102, 117, 110, 99, 32]⟩, .string F.nm, .string ⟨#[40]⟩, .string (Pr.commas x.ps), .string ⟨#[41, 32, 123]⟩] rfl rfl rfl (uh HP2) (by omega) (by simp) (by omega) (by omega))
 go_wp2_with fail
 refine (uh HL).mono ?_
 rintro r w3 ⟨rfl, ⟨v3, hp3⟩, hgo3⟩
 have hT3 := (uh HT2).go hgo3
 have hG3 := (Sp.Go.of_below (b := b) (uh HBA2) hBw).trans hgo3
 have hW3 := hW.trans hG3.below
 have hs3 := hgo3.below.size
 have p03 := Zad hT3.p 0 _ rfl
 have HF := Hd (Zha w0.heap.size b v3 (bs ++ ZaW k [⟨#[102, 117, 110, 99, 32]⟩, F.nm, ⟨#[40]⟩, Pr.commas x.ps, ⟨#[41, 32, 123]⟩]) (ZdF num (k + 2) f x) k w.heap.size (w.heap.size + 1) w3 hp3 (by omega) (fun W hg hp => ZlK I f F x hF hvs hvl hre b (k + 2) w.heap.size (w.heap.size + 1) (by omega) hcmd v3 _ W hp (hT3.go hg) (by rw [Za]; omega) (hW3.trans hg.below)))
 have HT3 := Hd hT3
 have HG3 := Hd hG3
 have HW3 := Hd hW3
 clear hp3 hgo3 hT3 hG3 hW3
 go_wp2_with fail
 refine (uh HF).mono ?_
 rintro r w4 ⟨rfl, ⟨v4, hp4⟩, hgo4⟩
 have hT4 := (uh HT3).go hgo4
 have hs4 := hgo4.below.size
 have p04 := Zad hT4.p 0 _ rfl
 have HL4 := Hd (ZaY w0.heap.size b v4 (bs ++ ZaW k [⟨#[102, 117, 110, 99, 32]⟩, F.nm, ⟨#[40]⟩, Pr.commas x.ps, ⟨#[41, 32, 123]⟩] ++ ZdF num (k + 2) f x) k w4 [⟨#[125]⟩] w4.heap.size 1 #[.string ⟨#[125]⟩] rfl rfl rfl hp4 (by omega) (by simp) (by rw [Za, Za]; omega) (by omega))
 have HG4 := Hd ((uh HG3).trans hgo4)
 clear hp4 hgo4 hT4
 go_wp2_with fail
 refine (uh HL4).mono ?_
 rintro r w5 ⟨rfl, ho5⟩
 have HO5 := Hd ho5
 clear ho5
 go_wp2_with fail
 go_end0
 refine ⟨rfl, ?_, (uh HG4).trans (uh HO5).go⟩
 have := (uh HO5).pr
 unfold Pr.func
 rw [← uh HNM]
 rw [← List.append_assoc, ← List.append_assoc]
 exact this
end
section
variable {w0 : World} {num : Int → ByteArray} {NK : Int → Prop}
theorem ZeN (I : Pr.It w0.heap.size w0 num NK) {m n : Nat} (f : Zap m n → List UInt8) (F : Tk.F) (x : Tk.FT m n) (hF : Tk.RF w0 m n F x) (hvs : ∀ y ∈ x.vs, y.1.size ≤ 64 ∧ (y.2 = 0 ∨ NK y.2)) (hvl : x.vs.length ≤ 1000)
  (b k : Nat) (hk : k ≤ 100) (hcmd : Sp.Cmds w0 b (k + 2) f x.cs) (v : Value) (bs : List UInt8) (w : World) (h : Sp.P w0.heap.size w b v (Lib.byteCells bs) (k : Int)) (hlen : bs.length + (Pr.main num k f x).length ≤ 140737488355328) (hW : Below w0.heap.size w0 w) :
  Calls Tryz.prog 73 #[.pointer (some ⟨b, 0, none⟩), .agg F.cells] w fun r w' => r = .returned (.tuple #[]) ∧ Sp.Out w0.heap.size b (bs ++ Pr.main num k f x) k w w' := by
 have hBw := hW.size
 have hnm := hF.nm
 have hln : bs.length + (ZaW k [⟨#[109, 97, 105, 110, 32, 123]⟩]).length + (ZcG num (k + 2) f x).length + (ZaW k [⟨#[125]⟩]).length ≤ 140737488355328 := by
  unfold Pr.main at hlen
  (try rw [← hnm] at hlen)
  simp only [Za] at hlen
  omega
 have HNM := Hd hnm
 have HLN := Hd hln
 clear hnm
 have hbl := h.lt
 have hbA := ((Below.refl w.heap.size w).alloc Zl (Obj.cells #[.pointer (some ⟨b, 0, none⟩)] 123)).alloc (by simp) (Obj.cells F.cells 54)
 have hsA : ((w.alloc (Obj.cells #[.pointer (some ⟨b, 0, none⟩)] 123)).alloc (Obj.cells F.cells 54)).heap.size = w.heap.size + 2 := by simp
 have hT : Sp.Two w.heap.size (w.heap.size + 1) b F ((w.alloc (Obj.cells #[.pointer (some ⟨b, 0, none⟩)] 123)).alloc (Obj.cells F.cells 54)) := by
  have h1 : (w.alloc (Obj.cells #[.pointer (some ⟨b, 0, none⟩)] 123)).heap.size = w.heap.size + 1 := by simp
  refine ⟨?_, ?_, by omega, by omega⟩
  · exact (((Below.refl _ (w.alloc (Obj.cells #[.pointer (some ⟨b, 0, none⟩)] 123))).alloc Zl (Obj.cells F.cells 54)).block w.heap.size (by omega)).trans (heap_alloc_new w _)
  rw [← h1]
  exact heap_alloc_new _ _
 have HP := Hd (h.below hbA)
 have HBA := Hd hbA
 have hWA := hW.trans (hbA.mono hBw)
 clear hbA h hlen
 unfold Tk.F.cells at hT
 unfold Tk.F.cells at hsA HP HBA hWA ⊢
 go_enter Tryz.func73, Tryz.ntmps73
 go_upto_region 1 with fail
 generalize ((w.alloc (Obj.cells #[.pointer (some ⟨b, 0, none⟩)] 123)).alloc (Obj.cells #[.int .i64 F.a, .string F.nm, .slice F.ps.ad F.ps.len F.ps.cap, .slice F.vs.ad F.vs.len F.vs.cap, .slice F.cs.ad F.cs.len F.cs.cap, .int .i64 F.re.k, .int .i64 F.re.a, .int .i64 F.re.n, .string F.re.nm, .slice F.re.args.ad F.re.args.len F.re.args.cap] 54)) = wa at *
 have hT : Sp.Two w.heap.size (w.heap.size + 1) b F wa := hT
 have p0 := Zad hT.p 0 _ rfl
 have q1 := Zad hT.f 1 (.string F.nm) rfl
 have q2 := Zad hT.f 2 (.slice F.ps.ad F.ps.len F.ps.cap) rfl
 have HT := Hd hT
 clear hT
 have hs2 : wa.heap.size ≤ wa.heap.size := Nat.le_refl _
 have HP2 := HP
 have HBA2 := HBA
 have HT2 := HT
 clear q1 q2
 have HL := Hd (ZaY w0.heap.size b v bs k wa [⟨#[109, 97, 105, 110, 32, 123]⟩] (w.heap.size + 2) 1 #[.string ⟨#[109, 97, 105, 110, 32, 123]⟩] hsA.symm rfl rfl (uh HP2) (by omega) (by simp) (by omega) (by omega))
 go_wp2_with fail
 refine (uh HL).mono ?_
 rintro r w3 ⟨rfl, ⟨v3, hp3⟩, hgo3⟩
 have hT3 := (uh HT2).go hgo3
 have hG3 := (Sp.Go.of_below (b := b) (uh HBA2) hBw).trans hgo3
 have hW3 := hW.trans hG3.below
 have hs3 := hgo3.below.size
 have p03 := Zad hT3.p 0 _ rfl
 have HF := Hd (ZgU w0.heap.size b v3 (bs ++ ZaW k [⟨#[109, 97, 105, 110, 32, 123]⟩]) (ZcG num (k + 2) f x) k w.heap.size (w.heap.size + 1) w3 hp3 (by omega) (fun W hg hp => ZlM I f F x hF hvs hvl b (k + 2) w.heap.size (w.heap.size + 1) (by omega) hcmd v3 _ W hp (hT3.go hg) (by rw [Za]; omega) (hW3.trans hg.below)))
 have HT3 := Hd hT3
 have HG3 := Hd hG3
 have HW3 := Hd hW3
 clear hp3 hgo3 hT3 hG3 hW3
 go_wp2_with fail
 refine (uh HF).mono ?_
 rintro r w4 ⟨rfl, ⟨v4, hp4⟩, hgo4⟩
 have hT4 := (uh HT3).go hgo4
 have hs4 := hgo4.below.size
 have p04 := Zad hT4.p 0 _ rfl
 have HL4 := Hd (ZaY w0.heap.size b v4 (bs ++ ZaW k [⟨#[109, 97, 105, 110, 32, 123]⟩] ++ ZcG num (k + 2) f x) k w4 [⟨#[125]⟩] w4.heap.size 1 #[.string ⟨#[125]⟩] rfl rfl rfl hp4 (by omega) (by simp) (by rw [Za, Za]; omega) (by omega))
 have HG4 := Hd ((uh HG3).trans hgo4)
 clear hp4 hgo4 hT4
 go_wp2_with fail
 refine (uh HL4).mono ?_
 rintro r w5 ⟨rfl, ho5⟩
 have HO5 := Hd ho5
 clear ho5
 go_wp2_with fail
 go_end0
 refine ⟨rfl, ?_, (uh HG4).trans (uh HO5).go⟩
 have := (uh HO5).pr
 unfold Pr.main
 rw [← List.append_assoc, ← List.append_assoc]
 exact this
end
section
variable {w0 : World}
theorem ZfL {m n : Nat} (ff fm : Tk.FT m n → List UInt8) (s : Tk.Sl) (l : List (Tk.FT m n)) (z : Tk.FT m n) (hs : Tk.RT w0 m n s (l ++ [z])) (hcap : s.len ≤ s.cap) (b k : Nat)
  (hfun : ∀ x ∈ l, ∀ (q : Tk.F) (v : Value) (bs : List UInt8) (W : World), Tk.RF w0 m n q x → Sp.P w0.heap.size W b v (Lib.byteCells bs) (k : Int) → bs.length + (ff x).length ≤ 140737488355328 → Below w0.heap.size w0 W → Calls Tryz.prog 72 #[.pointer (some ⟨b, 0, none⟩), .agg q.cells] W fun r w' => r = .returned (.tuple #[]) ∧ Sp.Out w0.heap.size b (bs ++ ff x) k W w')
  (hmain : ∀ (q : Tk.F) (v : Value) (bs : List UInt8) (W : World), Tk.RF w0 m n q z → Sp.P w0.heap.size W b v (Lib.byteCells bs) (k : Int) → bs.length + (fm z).length ≤ 140737488355328 → Below w0.heap.size w0 W → Calls Tryz.prog 73 #[.pointer (some ⟨b, 0, none⟩), .agg q.cells] W fun r w' => r = .returned (.tuple #[]) ∧ Sp.Out w0.heap.size b (bs ++ fm z) k W w')
  (v : Value) (bs : List UInt8) (w : World) (h : Sp.P w0.heap.size w b v (Lib.byteCells bs) (k : Int)) (hlen : bs.length + (l.flatMap ff).length + (fm z).length ≤ 140737488355328) (hW : Below w0.heap.size w0 w) :
  Calls Tryz.prog 38 #[.pointer (some ⟨b, 0, none⟩), .agg #[.slice s.ad s.len s.cap]] w fun r w' => r = .returned (.tuple #[]) ∧ Sp.Out w0.heap.size b (bs ++ l.flatMap ff ++ fm z) k w w' := by
 have hsl := hs.len
 have hfew := hs.few
 have hbl := h.lt
 have hll : (l ++ [z]).length = l.length + 1 := by simp
 rw [hll] at hsl hfew
 rw [hsl] at hcap
 have hbA := (Below.refl w.heap.size w).alloc Zl (Obj.cells #[.slice s.ad ((l.length + 1 : Nat)) s.cap] 24)
 have hsA : (w.alloc (Obj.cells #[.slice s.ad ((l.length + 1 : Nat)) s.cap] 24)).heap.size = w.heap.size + 1 := by simp
 have hbx : (w.alloc (Obj.cells #[.slice s.ad ((l.length + 1 : Nat)) s.cap] 24)).heap[w.heap.size]? = some (.cells #[.slice s.ad ((l.length + 1 : Nat)) s.cap] 24 (0, 0)) := heap_alloc_new w _
 have HS := Hd hs
 have HP := Hd (h.below hbA)
 have HLN := Hd hlen
 have HC := Hd hfun
 have HM := Hd hmain
 have HBA := Hd hbA
 have hBw : w0.heap.size ≤ w.heap.size := hW.size
 rw [hsl]
 clear hs h hlen hsl hfun hmain hbA hll
 go_enter Tryz.func38, Tryz.ntmps38
 go_upto_region 1 with fail
 generalize (w.alloc (Obj.cells #[.slice s.ad (l.length + 1) s.cap] 24)) = wa at *
 have b0 := Zad hbx 0 _ rfl
 have HBX := Hd hbx
 clear hbx
 go_wp2_with fail
 go_loopw [16] (fun iv wr => ∃ i : Nat, i ≤ l.length ∧ iv = .int .i64 i ∧ Sp.Out w0.heap.size b (bs ++ (l.take i).flatMap ff) k wa wr) (fun iv _ => l.length - (intOf iv).toNat)
 case atStart => exact ⟨0, Nat.zero_le _, rfl, ⟨v, by simpa using uh HP⟩, Sp.Go.refl _ _ _⟩
 case round =>
  obtain ⟨i, hi, rfl, ⟨v3, hp3⟩, hgo3⟩ := hrel
  have hz := hgo3.below.size
  have hWA := hW.trans ((uh HBA).mono hBw)
  have hbe := hWA.trans hgo3.below
  by_cases hlt : i < l.length
  · have hy := Zg hlt
    have hy2 : (l ++ [z])[i]? = some l[i] := by rw [List.getElem?_append_left hlt]; exact hy
    obtain ⟨b0, o, q, had, hb, hlies, hrd⟩ := (uh HS).at_ i _ hy2
    generalize l[i] = x at *
    have hcell : ∀ j v, q.cells[j]? = some v → wr.cell? ⟨b0, o + i * 10 + j, none⟩ = some v := (hlies.later hbe Zl hb).cells
    have hone := Tk.F.one q
    have hi0 : (0 : Int) ≤ (i : Int) := by omega
    have hi1 : (i : Int) < (l.length : Int) := by omega
    have hbN := (Below.refl wr.heap.size wr).alloc Zl (Obj.cells q.cells 54)
    have hsN : (wr.alloc (Obj.cells q.cells 54)).heap.size = wr.heap.size + 1 := by simp
    have hv : ∀ j v, q.cells[j]? = some v → (wr.alloc (Obj.cells q.cells 54)).cell? ⟨wr.heap.size, j, none⟩ = some v := fun j v h => (World.cell?_alloc_new wr q.cells 54 j).trans h
    have hft := Pr.flat_take ff l i x hy
    have hle := Pr.flat_le ff l (i + 1)
    rw [hft, Za] at hle
    have hlt1 := uh HLN
    have HQ := Hd ((uh HC) x (List.mem_of_getElem? hy) q v3 _ _ hrd (hp3.below hbN) (by rw [Za]; omega) (hbe.trans (hbN.mono (by omega))))
    have HFT := Hd hft
    have HG3 := Hd (hgo3.trans (Sp.Go.of_below (b := b) hbN (by omega)))
    have HCE := Hd hcell
    have HV := Hd hv
    rw [had]
    clear hp3 hgo3 hft hle hbe hbN hlt1 hlies hcell hv hrd hy2 hWA
    go_upto_region 4 with fail
    refine ZfI (cs := q.cells) (z := (Tk.F.zero).cells) (b := b0) (o := o) (i := i) (p := 14) (q := 16) (tA := 18) (tL := 19) (tB := 6) rfl rfl rfl rfl rfl rfl rfl rfl rfl rfl rfl rfl rfl rfl hlt (by simp) (by simp) (by simp) (by decide) (by decide) Tryz.underlying22 Zbs rfl rfl Tryz.underlying54 rfl (uh HCE) hone ?_
    (try simp only [Zz, Zs])
    generalize (wr.alloc (Obj.cells q.cells 54)) = w9 at *
    go_upto_region 5 with fail
    refine wp_region_lit ?_
    refine Zih (a := 0) (t := 20) rfl rfl rfl rfl ?_
    (try simp only [Zz, Zs])
    refine Zfu (a := 6) (t := 21) (b := wr.heap.size) (off := 0) (cs := q.cells) rfl rfl rfl rfl (fun j v h => by rw [Nat.zero_add]; exact (uh HV) j v h) Tryz.underlying54 rfl (zero_of_info Zbs).2 ?_
    (try simp only [Zz, Zs])
    go_wp2_with fail
    refine (uh HQ).mono ?_
    rintro r w4 ⟨rfl, ho4⟩
    have HO4 := Hd ho4
    clear ho4
    go_wp2_with fail
    refine ⟨⟨i + 1, by omega, by go_num, ?_, (uh HG3).trans (uh HO4).go⟩, by simp [intOf]; omega⟩
    have h4 := (uh HO4).pr
    rw [uh HFT, ← List.append_assoc]
    exact h4
  have e : i = l.length := by omega
  subst e
  have hy2 : (l ++ [z])[l.length]? = some z := by simp
  obtain ⟨b0, o, q, had, hb, hlies, hrd⟩ := (uh HS).at_ l.length _ hy2
  have hcell : ∀ j v, q.cells[j]? = some v → wr.cell? ⟨b0, o + l.length * 10 + j, none⟩ = some v := (hlies.later hbe Zl hb).cells
  have hbx3 := hgo3.box (by omega) (uh HBX) (by decide)
  have x0 := Zad hbx3 0 _ rfl
  have hi1 : (l.length : Int) < (l.length : Int) + 1 := by omega
  have hlt : l.length < l.length + 1 := by omega
  have hlt1 := uh HLN
  rw [List.take_length] at hp3
  have HQ := Hd ((uh HM) q v3 _ _ hrd hp3 (by rw [Za]; omega) hbe)
  have HG3 := Hd ((Sp.Go.of_below (b := b) (uh HBA) hBw).trans hgo3)
  have HCE := Hd hcell
  rw [had] at x0
  have y0 : wr.cell? ⟨b0, o + l.length * 10, none⟩ = some (.int .i64 q.a) := hcell 0 _ rfl
  have y1 := hcell 1 (.string q.nm) rfl
  have y2 := hcell 2 (.slice q.ps.ad q.ps.len q.ps.cap) rfl
  have y3 := hcell 3 (.slice q.vs.ad q.vs.len q.vs.cap) rfl
  have y4 := hcell 4 (.slice q.cs.ad q.cs.len q.cs.cap) rfl
  have y5 := hcell 5 (.int .i64 q.re.k) rfl
  have y6 := hcell 6 (.int .i64 q.re.a) rfl
  have y7 := hcell 7 (.int .i64 q.re.n) rfl
  have y8 := hcell 8 (.string q.re.nm) rfl
  have y9 := hcell 9 (.slice q.re.args.ad q.re.args.len q.re.args.cap) rfl
  unfold Tk.F.cells at HQ
  clear hp3 hgo3 hbe hlt1 hlies hcell hrd hy2 hWA hbx3
  go_wp2_with fail
  refine (uh HQ).mono ?_
  rintro r w4 ⟨rfl, ho4⟩
  have HO4 := Hd ho4
  clear ho4
  go_wp2_with fail
  go_end0
  exact ⟨rfl, (uh HO4).pr, (uh HG3).trans (uh HO4).go⟩
end
end Go.Proofs.YtfccpddehpgfoaaGreatDoor
