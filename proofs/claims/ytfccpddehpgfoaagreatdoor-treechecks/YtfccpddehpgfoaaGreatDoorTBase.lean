/-
  Commands, functions and whole trees as they lie in memory, and as plain data; what Check says of them. By the verifier.
-/
import Derived.Test.YtfccpddehpgfoaaGreatDoorExprs
namespace Go.Proofs.YtfccpddehpgfoaaGreatDoor
open Go.RowKit
set_option linter.unusedVariables false
structure Tk.C where
 k : Int
 a : Int
 nm : ByteArray
 ot : ByteArray
 ix : Tk.E
 ex : Tk.E
 args : Tk.Sl
 th : Tk.Sl
 el : Tk.Sl
def Tk.C.cells (c : Tk.C) : Array Value := #[.int .i64 c.k, .int .i64 c.a, .string c.nm, .string c.ot, .int .i64 c.ix.k, .int .i64 c.ix.a, .int .i64 c.ix.n, .string c.ix.nm, .slice c.ix.args.ad c.ix.args.len c.ix.args.cap, .int .i64 c.ex.k, .int .i64 c.ex.a, .int .i64 c.ex.n, .string c.ex.nm, .slice c.ex.args.ad c.ex.args.len c.ex.args.cap, .slice c.args.ad c.args.len c.args.cap, .slice c.th.ad c.th.len c.th.cap, .slice c.el.ad c.el.len c.el.cap]
structure Tk.F where
 a : Int
 nm : ByteArray
 ps : Tk.Sl
 vs : Tk.Sl
 cs : Tk.Sl
 re : Tk.E
def Tk.F.cells (f : Tk.F) : Array Value := #[.int .i64 f.a, .string f.nm, .slice f.ps.ad f.ps.len f.ps.cap, .slice f.vs.ad f.vs.len f.vs.cap, .slice f.cs.ad f.cs.len f.cs.cap, .int .i64 f.re.k, .int .i64 f.re.a, .int .i64 f.re.n, .string f.re.nm, .slice f.re.args.ad f.re.args.len f.re.args.cap]
def Tk.CT (m : Nat) : Nat → Type
 | 0 => Empty
 | n + 1 => (Int × Int × ByteArray × ByteArray) × (Tk.ET m × Tk.ET m × List (Tk.ET m)) × (List (Tk.CT m n) × List (Tk.CT m n))
structure Tk.FT (m n : Nat) where
 a : Int
 nm : ByteArray
 ps : List ByteArray
 vs : List (ByteArray × Int)
 cs : List (Tk.CT m n)
 re : Tk.ET m
structure Tk.LC (w : World) (b o : Nat) (c : Tk.C) : Prop where
 c0 : w.cell? ⟨b, o, none⟩ = some (.int .i64 c.k)
 c1 : w.cell? ⟨b, o + 1, none⟩ = some (.int .i64 c.a)
 c2 : w.cell? ⟨b, o + 2, none⟩ = some (.string c.nm)
 c3 : w.cell? ⟨b, o + 3, none⟩ = some (.string c.ot)
 ix : Tk.ELies w b (o + 4) c.ix
 ex : Tk.ELies w b (o + 9) c.ex
 c14 : w.cell? ⟨b, o + 14, none⟩ = some (.slice c.args.ad c.args.len c.args.cap)
 c15 : w.cell? ⟨b, o + 15, none⟩ = some (.slice c.th.ad c.th.len c.th.cap)
 c16 : w.cell? ⟨b, o + 16, none⟩ = some (.slice c.el.ad c.el.len c.el.cap)
structure Tk.LF (w : World) (b o : Nat) (f : Tk.F) : Prop where
 c0 : w.cell? ⟨b, o, none⟩ = some (.int .i64 f.a)
 c1 : w.cell? ⟨b, o + 1, none⟩ = some (.string f.nm)
 c2 : w.cell? ⟨b, o + 2, none⟩ = some (.slice f.ps.ad f.ps.len f.ps.cap)
 c3 : w.cell? ⟨b, o + 3, none⟩ = some (.slice f.vs.ad f.vs.len f.vs.cap)
 c4 : w.cell? ⟨b, o + 4, none⟩ = some (.slice f.cs.ad f.cs.len f.cs.cap)
 re : Tk.ELies w b (o + 5) f.re
def Tk.LS (w : World) (b o : Nat) (s : ByteArray) : Prop := w.cell? ⟨b, o, none⟩ = some (.string s)
def Tk.LV (w : World) (b o : Nat) (v : ByteArray × Int) : Prop := w.cell? ⟨b, o, none⟩ = some (.string v.1) ∧ w.cell? ⟨b, o + 1, none⟩ = some (.int .i64 v.2)
def Tk.RSt (s y : ByteArray) : Prop := s = y ∧ s.size ≤ maxLen
def Tk.RV (v y : ByteArray × Int) : Prop := v = y ∧ v.1.size ≤ maxLen
def Tk.RC (w : World) (m : Nat) : (n : Nat) → Tk.C → Tk.CT m n → Prop
 | 0, _, _ => False
 | n + 1, c, x => ((c.k = x.1.1 ∧ c.a = x.1.2.1 ∧ c.nm = x.1.2.2.1 ∧ c.ot = x.1.2.2.2) ∧ c.nm.size ≤ maxLen ∧ c.ot.size ≤ maxLen) ∧
  (Tk.RE w m c.ix x.2.1.1 ∧ Tk.RE w m c.ex x.2.1.2.1 ∧ Tk.RS w 5 (Tk.ELies w) (Tk.RE w m) c.args x.2.1.2.2) ∧
  (Tk.RS w 17 (Tk.LC w) (Tk.RC w m n) c.th x.2.2.1 ∧ Tk.RS w 17 (Tk.LC w) (Tk.RC w m n) c.el x.2.2.2)
structure Tk.RF (w : World) (m n : Nat) (f : Tk.F) (x : Tk.FT m n) : Prop where
 a : f.a = x.a
 nm : f.nm = x.nm
 few : f.nm.size ≤ maxLen
 ps : Tk.RS w 1 (Tk.LS w) Tk.RSt f.ps x.ps
 vs : Tk.RS w 2 (Tk.LV w) Tk.RV f.vs x.vs
 cs : Tk.RS w 17 (Tk.LC w) (Tk.RC w m n) f.cs x.cs
 re : Tk.RE w m f.re x.re
abbrev Tk.RT (w : World) (m n : Nat) (s : Tk.Sl) (l : List (Tk.FT m n)) : Prop := Tk.RS w 10 (Tk.LF w) (Tk.RF w m n) s l
section
variable {w w' : World} {B : Nat}
theorem Tk.LC.later {b o : Nat} {c : Tk.C} (h : Tk.LC w b o c) (hb : Below B w w') (hB : w.heap.size ≤ B) (hlt : b < w.heap.size) : Tk.LC w' b o c := by
 have hc : ∀ j, w'.cell? ⟨b, j, none⟩ = w.cell? ⟨b, j, none⟩ := fun j => hb.cell (p := ⟨b, j, none⟩) (by show b < B; omega)
 exact ⟨by rw [hc]; exact h.c0, by rw [hc]; exact h.c1, by rw [hc]; exact h.c2, by rw [hc]; exact h.c3, h.ix.later hb hB hlt, h.ex.later hb hB hlt, by rw [hc]; exact h.c14, by rw [hc]; exact h.c15, by rw [hc]; exact h.c16⟩
theorem Tk.LF.later {b o : Nat} {f : Tk.F} (h : Tk.LF w b o f) (hb : Below B w w') (hB : w.heap.size ≤ B) (hlt : b < w.heap.size) : Tk.LF w' b o f := by
 have hc : ∀ j, w'.cell? ⟨b, j, none⟩ = w.cell? ⟨b, j, none⟩ := fun j => hb.cell (p := ⟨b, j, none⟩) (by show b < B; omega)
 exact ⟨by rw [hc]; exact h.c0, by rw [hc]; exact h.c1, by rw [hc]; exact h.c2, by rw [hc]; exact h.c3, by rw [hc]; exact h.c4, h.re.later hb hB hlt⟩
theorem Tk.RS.laterS {s : Tk.Sl} {l : List ByteArray} (h : Tk.RS w 1 (Tk.LS w) Tk.RSt s l) (hb : Below B w w') (hB : w.heap.size ≤ B) : Tk.RS w' 1 (Tk.LS w') Tk.RSt s l :=
 h.later hb.size (fun b o c hlt hl => (hb.cell (p := ⟨b, o, none⟩) (by show b < B; omega)).trans hl) (fun c y _ hr => hr)
theorem Tk.RS.laterV {s : Tk.Sl} {l : List (ByteArray × Int)} (h : Tk.RS w 2 (Tk.LV w) Tk.RV s l) (hb : Below B w w') (hB : w.heap.size ≤ B) : Tk.RS w' 2 (Tk.LV w') Tk.RV s l :=
 h.later hb.size (fun b o c hlt hl => ⟨(hb.cell (p := ⟨b, o, none⟩) (by show b < B; omega)).trans hl.1, (hb.cell (p := ⟨b, o + 1, none⟩) (by show b < B; omega)).trans hl.2⟩) (fun c y _ hr => hr)
theorem Tk.RC.later (hb : Below B w w') (hB : w.heap.size ≤ B) (m : Nat) : ∀ (n : Nat) {c : Tk.C} {x : Tk.CT m n}, Tk.RC w m n c x → Tk.RC w' m n c x
 | 0, _, _, h => h
 | n + 1, _, _, h => ⟨h.1, ⟨h.2.1.1.later hb hB, h.2.1.2.1.later hb hB, h.2.1.2.2.laterE hb hB⟩, h.2.2.1.later hb.size (fun b o c hlt hl => hl.later hb hB hlt) (fun c y _ hr => Tk.RC.later hb hB m n hr), h.2.2.2.later hb.size (fun b o c hlt hl => hl.later hb hB hlt) (fun c y _ hr => Tk.RC.later hb hB m n hr)⟩
theorem Tk.RS.laterC {m n : Nat} {s : Tk.Sl} {l : List (Tk.CT m n)} (h : Tk.RS w 17 (Tk.LC w) (Tk.RC w m n) s l) (hb : Below B w w') (hB : w.heap.size ≤ B) : Tk.RS w' 17 (Tk.LC w') (Tk.RC w' m n) s l :=
 h.later hb.size (fun b o c hlt hl => hl.later hb hB hlt) (fun c y _ hr => hr.later hb hB)
theorem Tk.RF.later {m n : Nat} {f : Tk.F} {x : Tk.FT m n} (h : Tk.RF w m n f x) (hb : Below B w w') (hB : w.heap.size ≤ B) : Tk.RF w' m n f x :=
 ⟨h.a, h.nm, h.few, h.ps.laterS hb hB, h.vs.laterV hb hB, h.cs.laterC hb hB, h.re.later hb hB⟩
theorem Tk.RT.later {m n : Nat} {s : Tk.Sl} {l : List (Tk.FT m n)} (h : Tk.RT w m n s l) (hb : Below B w w') (hB : w.heap.size ≤ B) : Tk.RT w' m n s l :=
 Tk.RS.later h hb.size (fun b o c hlt hl => hl.later hb hB hlt) (fun c y _ hr => hr.later hb hB)
end
def Tk.long {m n : Nat} (y : Tk.CT m (n + 1)) : Bool := decide (3 < y.2.1.2.2.length) || decide (15 < Tk.parts m y.2.1.1) || decide (15 < Tk.parts m y.2.1.2.1) || y.2.1.2.2.any fun e => decide (15 < Tk.parts m e)
def Tk.leftC {m : Nat} : (n : Nat) → (deep left : Int) → List (Tk.CT m n) → Int
 | 0, _, left, _ => left
 | n + 1, deep, left, l => l.foldl (fun a y => if a ≤ 0 ∨ 5 < deep ∨ Tk.long y = true then -1 else Tk.leftC n (deep + 1) (Tk.leftC n (deep + 1) (a - 1) y.2.2.1) y.2.2.2) left
def Tk.muchL {m n : Nat} : Int → List (Tk.FT m n) → Bool
 | _, [] => false
 | left, f :: r => decide (3 < f.ps.length) || decide (6 < f.vs.length) || decide (15 < Tk.parts m f.re) || decide (Tk.leftC n 1 left f.cs < 0) || Tk.muchL (Tk.leftC n 1 left f.cs) r
def Tk.much {m n : Nat} (l : List (Tk.FT m n)) : Bool := decide (6 < l.length) || Tk.muchL 40 l
def Tk.noE : (n : Nat) → Tk.ET n → Bool
 | 0, _ => false
 | _ + 1, x => decide (x.1.1 = 0) && decide (x.1.2.2.1 = 0) && x.1.2.2.2.toList.isEmpty && decide (x.2.length = 0)
def Tk.exprFit (m : Nat) (x : Tk.ET m) (named : Bool) : Bool := if named then Tk.exprB m x else Tk.noE m x
def Tk.flds (k : Int) : Option (Bool × Bool × Bool × Bool × Bool × Bool × Bool) :=
 if k = 1 then some (true, false, false, true, false, false, false)
 else if k = 2 then some (true, false, true, true, false, false, false)
 else if k = 3 then some (true, true, false, false, true, false, false)
 else if k = 4 then some (true, false, false, false, false, false, false)
 else if k = 5 then some (false, false, false, true, false, false, false)
 else if k = 6 then some (false, false, false, true, false, true, true)
 else if k = 7 then some (false, false, false, true, false, true, false)
 else none
def Tk.cmdB {m : Nat} : (n : Nat) → Tk.CT m n → Bool
 | 0, _ => false
 | n + 1, y => match Tk.flds y.1.1 with
  | none => false
  | some (f1, f2, f3, f4, f5, f6, f7) => Tk.fitsB y.1.2.2.1 f1 && Tk.fitsB y.1.2.2.2 f2 && Tk.exprFit m y.2.1.1 f3 && Tk.exprFit m y.2.1.2.1 f4 && (y.2.1.2.2.all (Tk.exprB m) && (f5 || decide (y.2.1.2.2.length = 0))) &&
   (y.2.2.1.all (Tk.cmdB n) && (f6 || decide (y.2.2.1.length = 0))) && (y.2.2.2.all (Tk.cmdB n) && (f7 || decide (y.2.2.2.length = 0)))
def Tk.varB (v : ByteArray × Int) : Bool := Tk.nameB v.1 && decide (0 ≤ v.2) && decide (v.2 ≤ 9999999)
def Tk.funB {m n : Nat} (f : Tk.FT m n) (isMain : Bool) : Bool := !(isMain && decide (0 < f.ps.length)) && f.ps.all Tk.nameB && f.vs.all Tk.varB && Tk.fitsB f.nm (!isMain) && f.cs.all (Tk.cmdB n) && Tk.exprFit m f.re (!isMain)
def Tk.wellL {m n : Nat} : List (Tk.FT m n) → Bool
 | [] => true
 | f :: r => Tk.funB f r.isEmpty && Tk.wellL r
def Tk.chkT {m n : Nat} (l : List (Tk.FT m n)) : Nat := if Tk.much l = true then 2 else if (Tk.wellL l && decide (0 < l.length)) = true then 0 else 1
end Go.Proofs.YtfccpddehpgfoaaGreatDoor
