/- By the verifier. -/
import Derived.Test.YtfccpddehpgfoaaGreatDoorXQ
import Derived.Lib.Atoi
import Derived.RegionTactic
import Derived.Deep.RegionWith
import Derived.Laws.OwnMore
set_option maxHeartbeats 1600000
namespace Go.Proofs.YtfccpddehpgfoaaGreatDoor
open Go.RowKit
set_option linter.unusedVariables false
structure Tp.T where
 k : Int
 a : Int
 t : ByteArray
def Tp.tk (l : List Tp.T) (i : Nat) : Tp.T := (l[i]?).getD ⟨0, 0, ⟨#[]⟩⟩
def Zaz (l : List Tp.T) (e : Int) (i : Nat) : Int := ((l[i]?).map fun t => t.a).getD e
theorem Zci {l : List Tp.T} {i : Nat} {x : Tp.T} (h : l[i]? = some x) : Tp.tk l i = x := by simp [Tp.tk, h]
theorem ZbV {l : List Tp.T} {i : Nat} (h : l.length ≤ i) : Tp.tk l i = ⟨0, 0, ⟨#[]⟩⟩ := by simp [Tp.tk, List.getElem?_eq_none h]
theorem ZgM {l : List Tp.T} {e : Int} {i : Nat} {x : Tp.T} (h : l[i]? = some x) : Zaz l e i = x.a := by simp [Zaz, h]
theorem Zgu {l : List Tp.T} {e : Int} {i : Nat} (h : l.length ≤ i) : Zaz l e i = e := by simp [Zaz, List.getElem?_eq_none h]
def Zal (l : List Tp.T) (i : Nat) (s : ByteArray) : Bool := (Tp.tk l i).t.toList == s.toList
def ZbM (l : List Tp.T) (i : Nat) : Bool := ((Tp.tk l i).k == 1) && !Tk.wordB (Tp.tk l i).t.toList
def Tp.val (t : ByteArray) : Int := (Lib.atoi t.data.toList).getD 0
def Zak (l : List Tp.T) (s : ByteArray) (i : Nat) : Except Nat Nat := if Zal l i s = true then .ok (i + 1) else .error i
def Tp.name (l : List Tp.T) (i : Nat) : Except Nat (ByteArray × Nat) := if ZbM l i = true then .ok ((Tp.tk l i).t, i + 1) else .error i
def Tp.number (l : List Tp.T) (i : Nat) : Except Nat (Int × Nat) := if (Tp.tk l i).k = 2 then .ok (Tp.val (Tp.tk l i).t, i + 1) else .error i
def ZbQ (l : List Tp.T) (i : Nat) : Except Nat (Int × Nat) := if Zal l i ⟨#[48]⟩ = true then .error i else Tp.number l i
def Zba (l : List Tp.T) (s : ByteArray) (b i : Nat) : Except Nat Nat := if b = 60 then .error i else Zak l s i
def Tp.opK (t : ByteArray) : Nat :=
 if (t.toList == [43]) = true then 4 else if (t.toList == [45]) = true then 5 else if (t.toList == [42]) = true then 6 else if (t.toList == [47]) = true then 7
 else if (t.toList == [37]) = true then 8 else if (t.toList == [60]) = true then 9 else if (t.toList == [61, 61]) = true then 10 else 0
def Tp.index (l : List Tp.T) {α : Type} (rec : Nat → Nat → Except Nat (α × Nat)) (b i : Nat) : Except Nat (α × Nat) :=
 match Zba l ⟨#[91]⟩ b i with
 | .error j => .error j
 | .ok i1 => match rec (b + 1) i1 with
  | .error j => .error j
  | .ok (x, j) => match Zak l ⟨#[93]⟩ j with
   | .error j' => .error j'
   | .ok j' => .ok (x, j')
def Zb5 (l : List Tp.T) {α : Type} (rec : Nat → Nat → Except Nat (α × Nat)) (b i : Nat) : Except Nat ((Nat × α × α) × Nat) :=
 match Zba l ⟨#[40]⟩ b i with
 | .error j => .error j
 | .ok i1 => match rec (b + 1) i1 with
  | .error j => .error j
  | .ok (x, j) => if Tp.opK (Tp.tk l j).t = 0 then .error j else match rec (b + 1) (j + 1) with
   | .error j' => .error j'
   | .ok (y, j') => match Zak l ⟨#[41]⟩ j' with
    | .error j'' => .error j''
    | .ok j'' => .ok ((Tp.opK (Tp.tk l j).t, x, y), j'')
def Zbb (l : List Tp.T) (e : Int) {d : Nat} (rec : Nat → Nat → Except Nat (Zat d × Nat)) (b i : Nat) : Except Nat (Zat (d + 1) × Nat) :=
 if Zal l i ⟨#[40]⟩ = true then
  (match Zb5 l rec b i with
  | .error j => .error j
  | .ok ((k, x, y), j) => .ok ((((k : Nat), Zaz l e i, 0, ⟨#[]⟩), [x, y]), j))
 else if Zal l i ⟨#[45]⟩ = true then
  (match ZbQ l (i + 1) with
  | .error j => .error j
  | .ok (n, j) => .ok (((1, Zaz l e i, -n, ⟨#[]⟩), []), j))
 else if ZbM l i = true then
  (if Zal l (i + 1) ⟨#[91]⟩ = true then
   (match Tp.index l rec b (i + 1) with
   | .error j => .error j
   | .ok (x, j) => .ok (((3, Zaz l e i, 0, (Tp.tk l i).t), [x]), j))
  else .ok (((2, Zaz l e i, 0, (Tp.tk l i).t), []), i + 1))
 else
  (match Tp.number l i with
  | .error j => .error j
  | .ok (n, j) => .ok (((1, Zaz l e i, n, ⟨#[]⟩), []), j))
def Tp.expr (l : List Tp.T) (e : Int) : (d : Nat) → Nat → Nat → Except Nat (Zat d × Nat)
 | 0, _, i => .error i
 | d + 1, b, i => Zbb l e (Tp.expr l e d) b i
def ZaO : Zat 61 := (((0 : Int), (0 : Int), (0 : Int), (⟨#[]⟩ : ByteArray)), ([] : List (Zat 60)))
def ZbC (l : List Tp.T) {α : Type} (thing : Nat → Except Nat (α × Nat)) : Nat → Nat → List α → Except Nat (List α × Nat)
 | 0, i, _ => .error i
 | f + 1, i, acc =>
  if Zal l i ⟨#[44]⟩ = true then
   (match thing (i + 1) with
   | .error j => .error j
   | .ok (x, j) => ZbC l thing f j (acc ++ [x]))
  else .ok (acc, i)
def Za8 (l : List Tp.T) {α : Type} (thing : Nat → Except Nat (α × Nat)) (i : Nat) : Except Nat (List α × Nat) :=
 if Zal l i ⟨#[41]⟩ = true then .ok ([], i) else
  (match thing i with
  | .error j => .error j
  | .ok (x, j) => ZbC l thing (l.length + 1) j [x])
def Tp.list (l : List Tp.T) {α : Type} (thing : Nat → Except Nat (α × Nat)) (i : Nat) : Except Nat (List α × Nat) :=
 match Zak l ⟨#[40]⟩ i with
 | .error j => .error j
 | .ok i1 =>
  match Za8 l thing i1 with
  | .error j => .error j
  | .ok (xs, j) => match Zak l ⟨#[41]⟩ j with
   | .error j' => .error j'
   | .ok j' => .ok (xs, j')
def Tp.vars (l : List Tp.T) : Nat → Nat → List (ByteArray × Int) → Except Nat (List (ByteArray × Int) × Nat)
 | 0, i, _ => .error i
 | f + 1, i, acc =>
  if Zal l i ⟨#[118, 97, 114]⟩ = true then
   (match Tp.name l (i + 1) with
   | .error j => .error j
   | .ok (x, j) => match Zak l ⟨#[59]⟩ j with
    | .error j' => .error j'
    | .ok j' => Tp.vars l f j' (acc ++ [(x, 0)]))
  else if Zal l i ⟨#[97, 114, 114]⟩ = true then
   (match Tp.name l (i + 1) with
   | .error j => .error j
   | .ok (x, j) => match ZbQ l j with
    | .error j' => .error j'
    | .ok (n, j') => match Zak l ⟨#[59]⟩ j' with
     | .error j'' => .error j''
     | .ok j'' => Tp.vars l f j'' (acc ++ [(x, n)]))
  else .ok (acc, i)
def Zcu (l : List Tp.T) (i : Nat) : Bool := ZbM l i || Zal l i ⟨#[112, 114, 105, 110, 116]⟩ || Zal l i ⟨#[105, 102]⟩ || Zal l i ⟨#[119, 104, 105, 108, 101]⟩
def ZaV (l : List Tp.T) {α : Type} (rec : Nat → Except Nat (α × Nat)) : Nat → Nat → List α → Except Nat (List α × Nat)
 | 0, i, _ => .error i
 | f + 1, i, acc =>
  if Zcu l i = true then
   (match rec i with
   | .error j => .error j
   | .ok (x, j) => ZaV l rec f j (acc ++ [x]))
  else .ok (acc, i)
def Tp.block (l : List Tp.T) {α : Type} (rec : Nat → Except Nat (α × Nat)) (i : Nat) : Except Nat (List α × Nat) :=
 match Zak l ⟨#[123]⟩ i with
 | .error j => .error j
 | .ok i1 => match ZaV l rec (l.length + 1) i1 [] with
  | .error j => .error j
  | .ok (xs, j) => match Zak l ⟨#[125]⟩ j with
   | .error j' => .error j'
   | .ok j' => .ok (xs, j')
def Zax (l : List Tp.T) (e : Int) {n : Nat} (i : Nat) : Except Nat (Zap 61 (n + 1) × Nat) :=
 match Tp.name l i with
 | .error j => .error j
 | .ok (nm, i1) =>
  if Zal l i1 ⟨#[91]⟩ = true then
   (match Tp.index l (Tp.expr l e 61) 0 i1 with
   | .error j => .error j
   | .ok (x, j) => match Zak l ⟨#[61]⟩ j with
    | .error j' => .error j'
    | .ok j' => match Tp.expr l e 61 0 j' with
     | .error j'' => .error j''
     | .ok (y, j'') => .ok (((2, Zaz l e i, nm, ⟨#[]⟩), (x, y, []), ([], [])), j''))
  else
   match Zak l ⟨#[61]⟩ i1 with
   | .error j => .error j
   | .ok i2 =>
    if Zal l i2 ⟨#[114, 101, 97, 100]⟩ = true then .ok (((4, Zaz l e i, nm, ⟨#[]⟩), (ZaO, ZaO, []), ([], [])), i2 + 1)
    else if (ZbM l i2 && Zal l (i2 + 1) ⟨#[40]⟩) = true then
     (match Tp.list l (Tp.expr l e 61 1) (i2 + 1) with
     | .error j => .error j
     | .ok (xs, j) => .ok (((3, Zaz l e i, nm, (Tp.tk l i2).t), (ZaO, ZaO, xs), ([], [])), j))
    else
     (match Tp.expr l e 61 0 i2 with
     | .error j => .error j
     | .ok (y, j) => .ok (((1, Zaz l e i, nm, ⟨#[]⟩), (ZaO, y, []), ([], [])), j))
def Za0 (l : List Tp.T) (e : Int) {n : Nat} (rec : Nat → Except Nat (Zap 61 n × Nat)) (i : Nat) : Except Nat (Zap 61 (n + 1) × Nat) :=
 if Zal l i ⟨#[112, 114, 105, 110, 116]⟩ = true then
  (match Tp.expr l e 61 0 (i + 1) with
  | .error j => .error j
  | .ok (x, j) => match Zak l ⟨#[59]⟩ j with
   | .error j' => .error j'
   | .ok j' => .ok (((5, Zaz l e i, ⟨#[]⟩, ⟨#[]⟩), (ZaO, x, []), ([], [])), j'))
 else if Zal l i ⟨#[105, 102]⟩ = true then
  (match Tp.expr l e 61 0 (i + 1) with
  | .error j => .error j
  | .ok (x, j) => match Tp.block l rec j with
   | .error j' => .error j'
   | .ok (th, j') =>
    if Zal l j' ⟨#[101, 108, 115, 101]⟩ = true then
     (match Tp.block l rec (j' + 1) with
     | .error j'' => .error j''
     | .ok (el, j'') => .ok (((6, Zaz l e i, ⟨#[]⟩, ⟨#[]⟩), (ZaO, x, []), (th, el)), j''))
    else .ok (((6, Zaz l e i, ⟨#[]⟩, ⟨#[]⟩), (ZaO, x, []), (th, [])), j'))
 else if Zal l i ⟨#[119, 104, 105, 108, 101]⟩ = true then
  (match Tp.expr l e 61 0 (i + 1) with
  | .error j => .error j
  | .ok (x, j) => match Tp.block l rec j with
   | .error j' => .error j'
   | .ok (th, j') => .ok (((7, Zaz l e i, ⟨#[]⟩, ⟨#[]⟩), (ZaO, x, []), (th, [])), j'))
 else
  (match Zax l e i with
  | .error j => .error j
  | .ok (c, j) => match Zak l ⟨#[59]⟩ j with
   | .error j' => .error j'
   | .ok j' => .ok (c, j'))
def Tp.cmd (l : List Tp.T) (e : Int) : (n : Nat) → Nat → Except Nat (Zap 61 n × Nat)
 | 0, i => .error i
 | n + 1, i => Za0 l e (Tp.cmd l e n) i
def Tp.body (l : List Tp.T) (e : Int) (n i : Nat) : Except Nat ((List (ByteArray × Int) × List (Zap 61 n)) × Nat) :=
 match Zak l ⟨#[123]⟩ i with
 | .error j => .error j
 | .ok i1 => match Tp.vars l (l.length + 1) i1 [] with
  | .error j => .error j
  | .ok (vs, i2) => match ZaV l (Tp.cmd l e n) (l.length + 1) i2 [] with
   | .error j => .error j
   | .ok (cs, i3) => .ok ((vs, cs), i3)
def Tp.func (l : List Tp.T) (e : Int) (n i : Nat) : Except Nat (Tk.FT 61 n × Nat) :=
 match Zak l ⟨#[102, 117, 110, 99]⟩ i with
 | .error j => .error j
 | .ok i1 => match Tp.name l i1 with
  | .error j => .error j
  | .ok (nm, i2) => match Tp.list l (Tp.name l) i2 with
   | .error j => .error j
   | .ok (ps, i3) => match Tp.body l e n i3 with
    | .error j => .error j
    | .ok ((vs, cs), i4) => match Zak l ⟨#[114, 101, 116, 117, 114, 110]⟩ i4 with
     | .error j => .error j
     | .ok i5 => match Tp.expr l e 61 0 i5 with
      | .error j => .error j
      | .ok (x, i6) => match Zak l ⟨#[59]⟩ i6 with
       | .error j => .error j
       | .ok i7 => match Zak l ⟨#[125]⟩ i7 with
        | .error j => .error j
        | .ok i8 => .ok (⟨Zaz l e i, nm, ps, vs, cs, x⟩, i8)
def Tp.main (l : List Tp.T) (e : Int) (n i : Nat) : Except Nat (Tk.FT 61 n × Nat) :=
 match Zak l ⟨#[109, 97, 105, 110]⟩ i with
 | .error j => .error j
 | .ok i1 => match Tp.body l e n i1 with
  | .error j => .error j
  | .ok ((vs, cs), i2) => match Zak l ⟨#[125]⟩ i2 with
   | .error j => .error j
   | .ok i3 => .ok (⟨Zaz l e i, ⟨#[]⟩, [], vs, cs, ZaO⟩, i3)
def Zct (l : List Tp.T) (e : Int) (n : Nat) : Nat → Nat → List (Tk.FT 61 n) → Except Nat (List (Tk.FT 61 n) × Nat)
 | 0, i, _ => .error i
 | f + 1, i, acc =>
  if Zal l i ⟨#[102, 117, 110, 99]⟩ = true then
   (match Tp.func l e n i with
   | .error j => .error j
   | .ok (x, j) => Zct l e n f j (acc ++ [x]))
  else .ok (acc, i)
def Tp.tree (l : List Tp.T) (e : Int) (n : Nat) : Except Nat (List (Tk.FT 61 n)) :=
 match Zct l e n (l.length + 1) 0 [] with
 | .error j => .error j
 | .ok (fs, j) => match Tp.main l e n j with
  | .error j' => .error j'
  | .ok (m, j') => if j' < l.length then .error j' else .ok (fs ++ [m])
structure Tp.Tu (D : Nat → Prop) (n : Nat) (W W' : World) : Prop where
 os : W'.os = W.os
 tape : W'.tape = W.tape
 output : W'.output = W.output
 size : W.heap.size ≤ W'.heap.size
 block : ∀ q, q < n → ¬ D q → W'.heap[q]? = W.heap[q]?
section
variable {D D' : Nat → Prop} {n n' : Nat} {W W1 W2 : World}
theorem Tp.Tu.refl (D : Nat → Prop) (n : Nat) (W : World) : Tp.Tu D n W W := ⟨rfl, rfl, rfl, Nat.le_refl _, fun _ _ _ => rfl⟩
theorem Tp.Tu.trans (h : Tp.Tu D n W W1) (h2 : Tp.Tu D n W1 W2) : Tp.Tu D n W W2 :=
 ⟨h2.os.trans h.os, h2.tape.trans h.tape, h2.output.trans h.output, Nat.le_trans h.size h2.size, fun q h1 h3 => (h2.block q h1 h3).trans (h.block q h1 h3)⟩
theorem Tp.Tu.mono (h : Tp.Tu D n W W1) (hn : n' ≤ n) (hD : ∀ q, q < n' → D q → D' q) : Tp.Tu D' n' W W1 :=
 ⟨h.os, h.tape, h.output, h.size, fun q h1 h3 => h.block q (by omega) (fun hd => h3 (hD q h1 hd))⟩
theorem Tp.Tu.then (h : Tp.Tu D n W W1) (h2 : Tp.Tu D' W1.heap.size W1 W2) (hn : n ≤ W1.heap.size) (hD : ∀ q, q < n → D' q → D q) : Tp.Tu D n W W2 := h.trans (h2.mono hn hD)
theorem Tp.Tu.of_below (h : Below n W W1) : Tp.Tu D n W W1 := ⟨h.os, h.tape, h.output, h.size, fun q h1 _ => h.block q h1⟩
theorem Tp.Tu.below (h : Tp.Tu D n W W1) (hb : Below n' W1 W2) (hn : n ≤ n') : Tp.Tu D n W W2 := h.trans (Tp.Tu.of_below (hb.mono hn))
theorem Tp.Tu.to_below (h : Tp.Tu D n W W1) (hD : ∀ q, q < n → ¬ D q) : Below n W W1 := ⟨h.os, h.tape, h.output, h.size, fun q h1 => h.block q h1 (hD q h1)⟩
theorem Tp.Tu.set {b o : Nat} (h : Tp.Tu D n W W1) (v : Value) (hb : b < n → D b) : Tp.Tu D n W (W1.setCell ⟨b, o, none⟩ v) :=
 ⟨h.os, h.tape, h.output, Nat.le_trans h.size (by simp [World.setCell]), fun q h1 h3 => (Below.heap_setCell _ _ _ _ (show q ≠ b from fun e => h3 (e ▸ hb (e ▸ h1)))).trans (h.block q h1 h3)⟩
theorem Tp.Tu.cell (h : Tp.Tu D n W W1) {q o : Nat} (h1 : q < n) (h2 : ¬ D q) : W1.cell? ⟨q, o, none⟩ = W.cell? ⟨q, o, none⟩ := Zc (a := ⟨q, o, none⟩) (h.block q h1 h2)
end
def Zdp (a : Int) : List PanicEntry := [{ v := .iface 107 (.int .i64 a), recovered := false }]
structure Tp.P (W : World) (bp : Nat) (ta : Option Addr) (n c i : Nat) (e : Int) (b : Nat) : Prop where
 c0 : W.cell? ⟨bp, 0, none⟩ = some (.slice ta n c)
 c1 : W.cell? ⟨bp, 1, none⟩ = some (.int .i64 (i : Nat))
 c2 : W.cell? ⟨bp, 2, none⟩ = some (.int .i64 e)
 c3 : W.cell? ⟨bp, 3, none⟩ = some (.int .i64 (b : Nat))
 fz : ∀ j, W.frozen? ⟨bp, j, none⟩ = false
section
variable {W W' : World} {bp : Nat} {ta : Option Addr} {n c i b : Nat} {e : Int}
theorem Tp.P.lt (h : Tp.P W bp ta n c i e b) : bp < W.heap.size := World.block_lt_of_cell? W _ h.c0
theorem Tp.P.kept (h : Tp.P W bp ta n c i e b) (hb : W'.heap[bp]? = W.heap[bp]?) : Tp.P W' bp ta n c i e b := by
 have hc : ∀ j, W'.cell? ⟨bp, j, none⟩ = W.cell? ⟨bp, j, none⟩ := fun j => Zc (a := ⟨bp, j, none⟩) hb
 exact ⟨(hc 0).trans h.c0, (hc 1).trans h.c1, (hc 2).trans h.c2, (hc 3).trans h.c3, fun j => (Zf (a := ⟨bp, j, none⟩) hb).trans (h.fz j)⟩
theorem Tp.set_ne {W : World} {b i j : Nat} {v : Value} (h : i ≠ j) : (W.setCell ⟨b, j, none⟩ v).cell? ⟨b, i, none⟩ = W.cell? ⟨b, i, none⟩ := World.cell?_setCell_other _ _ _ _ (by intro hh; exact h (congrArg Addr.off hh).symm)
theorem Tp.P.next (h : Tp.P W bp ta n c i e b) (j : Nat) {z : Int} (hz : z = (j : Nat)) : Tp.P (W.setCell ⟨bp, 1, none⟩ (.int .i64 z)) bp ta n c j e b :=
 ⟨(Tp.set_ne (by decide)).trans h.c0, hz ▸ World.cell?_setCell_same _ _ _ h.c1, (Tp.set_ne (by decide)).trans h.c2, (Tp.set_ne (by decide)).trans h.c3, fun j => by rw [World.frozen?_setCell]; exact h.fz j⟩
theorem Tp.P.brk (h : Tp.P W bp ta n c i e b) (j : Nat) {z : Int} (hz : z = (j : Nat)) : Tp.P (W.setCell ⟨bp, 3, none⟩ (.int .i64 z)) bp ta n c i e j :=
 ⟨(Tp.set_ne (by decide)).trans h.c0, (Tp.set_ne (by decide)).trans h.c1, (Tp.set_ne (by decide)).trans h.c2, hz ▸ World.cell?_setCell_same _ _ _ h.c3, fun j => by rw [World.frozen?_setCell]; exact h.fz j⟩
end
structure Tp.RT (W : World) (ad : Option Addr) (l : List Tp.T) : Prop where
 at_ : ∀ i x, l[i]? = some x → ∃ b o, ad = some ⟨b, o, none⟩ ∧ b < W.heap.size ∧ W.cell? ⟨b, o + i * 3, none⟩ = some (.int .i64 x.k) ∧ W.cell? ⟨b, o + i * 3 + 1, none⟩ = some (.int .i64 x.a) ∧ W.cell? ⟨b, o + i * 3 + 2, none⟩ = some (.string x.t)
theorem Tp.RT.kept {W W' : World} {ad : Option Addr} {l : List Tp.T} (h : Tp.RT W ad l) (hz : W.heap.size ≤ W'.heap.size) (hb : ∀ b o, ad = some ⟨b, o, none⟩ → W'.heap[b]? = W.heap[b]?) : Tp.RT W' ad l :=
 ⟨fun i x hi => by
  obtain ⟨b, o, h1, h2, h3, h4, h5⟩ := h.at_ i x hi
  have hc : ∀ j, W'.cell? ⟨b, j, none⟩ = W.cell? ⟨b, j, none⟩ := fun j => Zc (a := ⟨b, j, none⟩) (hb b o h1)
  exact ⟨b, o, h1, by omega, by rw [hc]; exact h3, by rw [hc]; exact h4, by rw [hc]; exact h5⟩⟩
structure Tp.Fine (l : List Tp.T) : Prop where
 few : l.length ≤ 10000
 num : ∀ i, (Tp.tk l i).k = 2 → ∃ n : Nat, Lib.atoi (Tp.tk l i).t.data.toList = some (n : Int) ∧ n < 100000000 ∧ (Tp.tk l i).t.size ≤ 18
 txt : ∀ i, (Tp.tk l i).t.size ≤ maxLen
structure Tp.J (l : List Tp.T) (ta : Option Addr) (c bp : Nat) (e : Int) (W : World) (i b : Nat) : Prop where
 p : Tp.P W bp ta l.length c i e b
 rt : Tp.RT W ta l
 tb : ∀ b o, ta = some ⟨b, o, none⟩ → b < bp
 fine : Tp.Fine l
 le : i ≤ l.length
section
variable {l : List Tp.T} {ta : Option Addr} {c bp : Nat} {e : Int} {W W' : World} {i b : Nat}
theorem Tp.J.lt (h : Tp.J l ta c bp e W i b) : bp < W.heap.size := h.p.lt
theorem Tp.J.kept (h : Tp.J l ta c bp e W i b) (hz : W.heap.size ≤ W'.heap.size) (hb : ∀ q, q ≤ bp → W'.heap[q]? = W.heap[q]?) : Tp.J l ta c bp e W' i b :=
 ⟨h.p.kept (hb bp Zl), h.rt.kept hz (fun q o hq => hb q (Nat.le_of_lt (h.tb q o hq))), h.tb, h.fine, h.le⟩
theorem Tp.J.below (h : Tp.J l ta c bp e W i b) (hb : Below W.heap.size W W') : Tp.J l ta c bp e W' i b := h.kept hb.size (fun q hq => hb.block q (by have := h.lt; omega))
theorem Tp.J.set {q o : Nat} (h : Tp.J l ta c bp e W i b) (v : Value) (hq : bp < q) : Tp.J l ta c bp e (W.setCell ⟨q, o, none⟩ v) i b :=
 h.kept (by simp [World.setCell]) (fun k hk => Below.heap_setCell _ _ _ _ (show k ≠ q by omega))
theorem Tp.J.next (h : Tp.J l ta c bp e W i b) (j : Nat) (hj : j ≤ l.length) {z : Int} (hz : z = (j : Nat)) : Tp.J l ta c bp e (W.setCell ⟨bp, 1, none⟩ (.int .i64 z)) j b :=
 ⟨h.p.next j hz, h.rt.kept (by simp [World.setCell]) (fun q o hq => Below.heap_setCell _ _ _ _ (show q ≠ bp by have := h.tb q o hq; omega)), h.tb, h.fine, hj⟩
theorem Tp.J.brk (h : Tp.J l ta c bp e W i b) (j : Nat) {z : Int} (hz : z = (j : Nat)) : Tp.J l ta c bp e (W.setCell ⟨bp, 3, none⟩ (.int .i64 z)) i j :=
 ⟨h.p.brk j hz, h.rt.kept (by simp [World.setCell]) (fun q o hq => Below.heap_setCell _ _ _ _ (show q ≠ bp by have := h.tb q o hq; omega)), h.tb, h.fine, h.le⟩
end
def ZaA (bp : Nat) : Nat → Prop := fun q => q = bp
def Tp.Out (l : List Tp.T) (ta : Option Addr) (c bp : Nat) (e : Int) (D : Nat → Prop) (w : World) (b : Nat) {α : Type} (good : α → Ending → World → Prop) (o : Except Nat (α × Nat)) (r : Ending) (w' : World) : Prop :=
 match o with
 | .error j => r = .panicked (Zdp (Zaz l e j)) ∧ Tp.Tu D w.heap.size w w'
 | .ok (x, j) => good x r w' ∧ Tp.J l ta c bp e w' j b ∧ Tp.Tu D w.heap.size w w'
def ZiB (l : List Tp.T) (ta : Option Addr) (c bp : Nat) (e : Int) (D : Nat → Prop) (w : World) (b : Nat) (o : Except Nat Nat) (r : Ending) (w' : World) : Prop :=
 match o with
 | .error j => r = .panicked (Zdp (Zaz l e j)) ∧ Tp.Tu D w.heap.size w w'
 | .ok j => r = .returned (.tuple #[]) ∧ Tp.J l ta c bp e w' j b ∧ Tp.Tu D w.heap.size w w'
def Tp.Ow (B g : Nat) (W : World) (P : World → Prop) : Prop := ∀ W', W.heap.size ≤ W'.heap.size → (∀ q, B ≤ q → q ≠ g → q < W.heap.size → W'.heap[q]? = W.heap[q]?) → P W'
section
variable {B B' g g' : Nat} {W W1 : World} {P : World → Prop}
theorem Tp.Ow.now (h : Tp.Ow B g W P) : P W := h W Zl (fun _ _ _ _ => rfl)
theorem Tp.Ow.go (h : Tp.Ow B g W P) (hz : W.heap.size ≤ W1.heap.size) (hk : ∀ q, B ≤ q → q ≠ g → q < W.heap.size → W1.heap[q]? = W.heap[q]?) : Tp.Ow B g W1 P :=
 fun W' h1 h2 => h W' (Nat.le_trans hz h1) (fun q a1 a2 a3 => (h2 q a1 a2 (Nat.lt_of_lt_of_le a3 hz)).trans (hk q a1 a2 a3))
theorem Tp.Ow.wide (h : Tp.Ow B g W P) (hB : B' ≤ B) (hg : g < B) (hg' : g' < B ∨ W.heap.size ≤ g') : Tp.Ow B' g' W P :=
 fun W' h1 h2 => h W' h1 (fun q a1 a2 a3 => h2 q (by omega) (by omega) a3)
theorem Tp.Ow.tu {D : Nat → Prop} {n : Nat} (h : Tp.Ow B g W P) (ht : Tp.Tu D n W W1) (hn : W.heap.size ≤ n) (hD : ∀ q, D q → q < B ∨ q = g) : Tp.Ow B g W1 P :=
 h.go ht.size (fun q a1 a2 a3 => ht.block q (by omega) (fun hd => by rcases hD q hd with h1 | h1 <;> omega))
end
def Tp.blk (d : Nat) (v : Value) : Nat := v.ownBlock.getD d
structure Tp.Rw {α β : Type} (B d : Nat) (W : World) (ty : TypeId) (wide : Nat) (cl : α → List Value) (R : World → α → β → Prop) (v : Value) (es : List α) (xs : List β) : Prop where
 row : W.ownsRow B ty wide v es.length (es.flatMap cl)
 len : es.length = xs.length
 own : ∀ (i : Nat) (E : α) (x : β), es[i]? = some E → xs[i]? = some x → Tp.Ow B (Tp.blk d v) W (fun W => R W E x)
section
variable {α β : Type} {B d : Nat} {W W1 : World} {ty : TypeId} {wide : Nat} {cl : α → List Value} {R : World → α → β → Prop} {v : Value} {es : List α} {xs : List β}
theorem Zet {W W' : World} {B : Nat} {e : TypeId} {size : Nat} {v : Value} {n : Nat} {xs : List Value} (h : W.ownsRow B e size v n xs) (hb : ∀ q, v.ownBlock = some q → W'.heap[q]? = W.heap[q]?) : W'.ownsRow B e size v n xs := by
 obtain ⟨h1, h2⟩ := h
 refine ⟨h1, ?_⟩
 rcases h2 with h2 | ⟨g, cap, cur, hv, hg, hh, r⟩
 · exact .inl h2
 exact .inr ⟨g, cap, cur, hv, hg, (hb g (by rw [hv]; rfl)).trans hh, r⟩
theorem Tp.Rw.nil (B d : Nat) (W : World) (ty : TypeId) (wide : Nat) (cl : α → List Value) (R : World → α → β → Prop) : Tp.Rw B d W ty wide cl R (.slice none 0 0) [] [] :=
 ⟨⟨by simp, .inl ⟨rfl, rfl⟩⟩, rfl, fun i E x h => by simp at h⟩
theorem Tp.Rw.form (h : Tp.Rw B d W ty wide cl R v es xs) : ∃ g c, v = .slice g es.length c ∧ es.length ≤ c := by
 rcases h.row.2 with ⟨h1, h2⟩ | ⟨g, cap, cur, hv, _, _, hc, _⟩
 · exact ⟨none, 0, by rw [h2]; exact h1, by omega⟩
 exact ⟨_, _, hv, hc⟩
theorem Tp.Rw.kept (h : Tp.Rw B d W ty wide cl R v es xs) (hz : W.heap.size ≤ W1.heap.size) (hd : d < B) (hk : ∀ q, B ≤ q → q < W.heap.size → W1.heap[q]? = W.heap[q]?) : Tp.Rw B d W1 ty wide cl R v es xs :=
 ⟨Zet h.row (fun q hq => hk q (h.row.lt q hq).1 (h.row.lt q hq).2), h.len, fun i E x h1 h2 => (h.own i E x h1 h2).go hz (fun q a1 _ a3 => hk q a1 a3)⟩
theorem Tp.Rw.app (h : Tp.Rw B d W ty wide cl R v es xs) {E : α} {x : β} (hE : Tp.Ow B (Tp.blk d v) W (fun W => R W E x)) (hz : W.heap.size ≤ W1.heap.size) (hd : d < B) (hk : ∀ q, B ≤ q → q < W.heap.size → v.ownBlock ≠ some q → W1.heap[q]? = W.heap[q]?)
  {g c : Nat} (ho : W1.ownsRow B ty wide (.slice (some ⟨g, 0, none⟩) (es.length + 1) c) (es.length + 1) (es.flatMap cl ++ cl E)) (hat : v.ownBlock = some g ∨ W.heap.size ≤ g) :
  Tp.Rw B d W1 ty wide cl R (.slice (some ⟨g, 0, none⟩) (es.length + 1) c) (es ++ [E]) (xs ++ [x]) := by
 have hb : ∀ q, q ≠ Tp.blk d v → v.ownBlock ≠ some q := fun q hq e => hq (by unfold Tp.blk; rw [e]; rfl)
 have hown : ∀ (F : α) (y : β), Tp.Ow B (Tp.blk d v) W (fun W => R W F y) → Tp.Ow B g W1 (fun W => R W F y) := fun F y hF W' h1 h2 => by
  refine hF W' (Nat.le_trans hz h1) (fun q a1 a2 a3 => ?_)
  refine (h2 q a1 ?_ (Nat.lt_of_lt_of_le a3 hz)).trans (hk q a1 a3 (hb q a2))
  intro e
  rcases hat with h3 | h3
  · exact hb q a2 (e ▸ h3)
  omega
 refine ⟨by rw [Za, List.flatMap_append]; simpa using ho, by rw [Za, Za, h.len]; rfl, fun i F y h1 h2 => ?_⟩
 show Tp.Ow B g W1 _
 by_cases hi : i < es.length
 · rw [List.getElem?_append_left hi] at h1
   rw [List.getElem?_append_left (by rw [← h.len]; exact hi)] at h2
   exact hown F y (h.own i F y h1 h2)
 rw [List.getElem?_append_right (by omega)] at h1
 rw [List.getElem?_append_right (by rw [← h.len]; omega), ← h.len] at h2
 have h0 : i - es.length = 0 := by
  have := (List.getElem?_eq_some_iff.1 h1).1
  simp at this
  omega
 rw [h0] at h1 h2
 cases h1
 cases h2
 exact hown E x hE
theorem ZjH {cl : α → List Value} {wide : Nat} (hc : ∀ E, (cl E).length = wide) : ∀ (es : List α) (i : Nat) (E : α) (j : Nat) (u : Value), es[i]? = some E → (cl E)[j]? = some u → (es.flatMap cl)[i * wide + j]? = some u
 | [], i, E, j, u, h, _ => by simp at h
 | e :: r, 0, E, j, u, h, hu => by
  simp at h
  subst h
  show (cl e ++ r.flatMap cl)[0 * wide + j]? = _
  rw [Nat.zero_mul, Nat.zero_add, List.getElem?_append_left (List.getElem?_eq_some_iff.1 hu).1]
  exact hu
 | e :: r, i + 1, E, j, u, h, hu => by
  show (cl e ++ r.flatMap cl)[(i + 1) * wide + j]? = _
  rw [List.getElem?_append_right (by rw [hc, Nat.succ_mul]; omega), hc, show (i + 1) * wide + j - wide = i * wide + j by rw [Nat.succ_mul]; omega]
  exact ZjH hc r i E j u (by simpa using h) hu
theorem Tp.Rw.reads (h : Tp.Rw B d W ty wide cl R v es xs) (hd : d < B) (hw : ∀ E, (cl E).length = wide) {lies : World → Nat → Nat → α → Prop}
  (hl : ∀ (W : World) (g o : Nat) (E : α), (∀ (j : Nat) (u : Value), (cl E)[j]? = some u → W.cell? ⟨g, o + j, none⟩ = some u) → lies W g o E) (hfew : xs.length ≤ 35184372088832) :
  ∃ s : Tk.Sl, v = .slice s.ad s.len s.cap ∧ Tp.Ow B d W (fun W => Tk.RS W wide (lies W) (R W) s xs) := by
 obtain ⟨ga, c, rfl, hc⟩ := h.form
 refine ⟨⟨ga, es.length, c⟩, rfl, fun W' h1 h2 => ⟨h.len, hfew, fun i y hy => ?_⟩⟩
 have hi : i < es.length := by rw [h.len]; exact (List.getElem?_eq_some_iff.1 hy).1
 obtain ⟨g, cap, hv, hg1, hg2⟩ := h.row.form (by omega)
 cases hv
 have hrow : W'.ownsRow B ty wide (.slice (some ⟨g, 0, none⟩) es.length c) es.length (es.flatMap cl) := Zet h.row (fun q hq => by cases hq; exact h2 g hg1 (by omega) hg2)
 have hE := Zg hi
 refine ⟨g, 0, es[i], rfl, Nat.lt_of_lt_of_le hg2 h1, ?_, h.own i _ y hE hy W' h1 (fun q a1 a2 a3 => h2 q a1 (by omega) a3)⟩
 refine hl W' g (0 + i * wide) es[i] (fun j u hu => ?_)
 have := hrow.cells (g := g) rfl (i * wide + j) u (ZjH hw es i es[i] j u hE hu)
 rw [Go.WideShapes.add_plain] at this
 rw [Nat.zero_add]
 simpa using this
end
def Tk.E.cl (E : Tk.E) : List Value := [.int .i64 E.k, .int .i64 E.a, .int .i64 E.n, .string E.nm, .slice E.args.ad E.args.len E.args.cap]
theorem Tk.E.lies_cl (W : World) (g o : Nat) (E : Tk.E) (h : ∀ (j : Nat) (u : Value), E.cl[j]? = some u → W.cell? ⟨g, o + j, none⟩ = some u) : Tk.ELies W g o E := ⟨h 0 _ rfl, h 1 _ rfl, h 2 _ rfl, h 3 _ rfl, h 4 _ rfl⟩
theorem Tk.C.lies_cl (W : World) (g o : Nat) (E : Tk.C) (h : ∀ (j : Nat) (u : Value), E.cells.toList[j]? = some u → W.cell? ⟨g, o + j, none⟩ = some u) : Tk.LC W g o E :=
 ⟨h 0 _ rfl, h 1 _ rfl, h 2 _ rfl, h 3 _ rfl, ⟨h 4 _ rfl, h 5 _ rfl, h 6 _ rfl, h 7 _ rfl, h 8 _ rfl⟩, ⟨h 9 _ rfl, h 10 _ rfl, h 11 _ rfl, h 12 _ rfl, h 13 _ rfl⟩, h 14 _ rfl, h 15 _ rfl, h 16 _ rfl⟩
theorem Tk.F.lies_cl (W : World) (g o : Nat) (E : Tk.F) (h : ∀ (j : Nat) (u : Value), E.cells.toList[j]? = some u → W.cell? ⟨g, o + j, none⟩ = some u) : Tk.LF W g o E :=
 ⟨h 0 _ rfl, h 1 _ rfl, h 2 _ rfl, h 3 _ rfl, h 4 _ rfl, ⟨h 5 _ rfl, h 6 _ rfl, h 7 _ rfl, h 8 _ rfl, h 9 _ rfl⟩⟩
theorem Tp.set3 {W : World} {b : Nat} {a0 a1 a2 : Value} (h0 : W.cell? ⟨b, 0, none⟩ = some a0) (h1 : W.cell? ⟨b, 1, none⟩ = some a1) (h2 : W.cell? ⟨b, 2, none⟩ = some a2) (u0 u1 u2 : Value) :
  (((W.setCell ⟨b, 0, none⟩ u0).setCell ⟨b, 1, none⟩ u1).setCell ⟨b, 2, none⟩ u2).cell? ⟨b, 0, none⟩ = some u0 ∧ (((W.setCell ⟨b, 0, none⟩ u0).setCell ⟨b, 1, none⟩ u1).setCell ⟨b, 2, none⟩ u2).cell? ⟨b, 1, none⟩ = some u1 ∧ (((W.setCell ⟨b, 0, none⟩ u0).setCell ⟨b, 1, none⟩ u1).setCell ⟨b, 2, none⟩ u2).cell? ⟨b, 2, none⟩ = some u2 := by
 refine ⟨?_, ?_, ?_⟩
 · rw [Tp.set_ne (by decide), Tp.set_ne (by decide)]
   exact World.cell?_setCell_same _ _ _ h0
 · rw [Tp.set_ne (by decide)]
   exact World.cell?_setCell_same _ _ _ (u := a1) (by rw [Tp.set_ne (by decide)]; exact h1)
 exact World.cell?_setCell_same _ _ _ (u := a2) (by rw [Tp.set_ne (by decide), Tp.set_ne (by decide)]; exact h2)
section
variable (l : List Tp.T) (ta : Option Addr) (c bp : Nat) (e : Int)
theorem ZfY (i b : Nat) (w : World) (h : Tp.J l ta c bp e w i b) :
  Calls Tryz.prog 149 #[.pointer (some ⟨bp, 0, none⟩)] w fun r w' => r = .returned (.int .i64 (Zaz l e i)) ∧ Below w.heap.size w w' := by
 have hf := h.fine.few
 have hlt := h.lt
 obtain ⟨c0, c1, c2, c3, fz⟩ := h.p
 by_cases hi : i < l.length
 · have hx := Zg hi
   rw [ZgM hx]
   obtain ⟨q, o, rfl, hq, d0, d1, d2⟩ := h.rt.at_ i _ hx
   have hi1 : (0 : Int) ≤ (i : Int) := by omega
   have hi2 : (i : Int) < (l.length : Int) := by omega
   clear h hx
   generalize l[i] = x at *
   go_enter Tryz.func149, Tryz.ntmps149
   go_wp2_with fail
   go_quiet (fail)
   go_wp2_with fail
   go_quiet (fail)
   go_wp2_with fail
   go_ret
   exact ⟨rfl, below_drewN (below_drewN Zr _) _⟩
 rw [Zgu (by omega)]
 have hi2 : ¬ (i : Int) < (l.length : Int) := by omega
 clear h
 go_enter Tryz.func149, Tryz.ntmps149
 go_wp2_with fail
 go_quiet (fail)
 go_wp2_with fail
 go_ret
 exact ⟨rfl, below_drewN Zr _⟩
theorem ZcH (i b : Nat) (w : World) (h : Tp.J l ta c bp e w i b) :
  Calls Tryz.prog 111 #[.pointer (some ⟨bp, 0, none⟩)] w fun r w' => r = .panicked (Zdp (Zaz l e i)) ∧ Below w.heap.size w w' := by
 have HA := Hd (ZfY l ta c bp e i b w h)
 clear h
 generalize Zaz l e i = a at *
 go_enter Tryz.func111, Tryz.ntmps111
 go_wp2_with fail
 refine (uh HA).mono ?_
 rintro r w1 ⟨rfl, hb1⟩
 have HB1 := Hd hb1
 clear hb1
 go_wp2_with fail
 exact ⟨rfl, rfl, uh HB1⟩
theorem ZcC (n : Nat) (hn : n ≤ 1) (i b : Nat) (w : World) (h : Tp.J l ta c bp e w i b) :
  Calls Tryz.prog 148 #[.pointer (some ⟨bp, 0, none⟩), .int .i64 (n : Nat)] w fun r w' => r = .returned (.agg #[.int .i64 (Tp.tk l (i + n)).k, .int .i64 (Tp.tk l (i + n)).a, .string (Tp.tk l (i + n)).t]) ∧ Below w.heap.size w w' := by
 have hf := h.fine.few
 have hi5 := h.le
 have hlt := h.lt
 obtain ⟨c0, c1, c2, c3, fz⟩ := h.p
 by_cases hi : i + n < l.length
 · have hx := Zg hi
   rw [Zci hx]
   obtain ⟨q, o, rfl, hq, d0, d1, d2⟩ := h.rt.at_ (i + n) _ hx
   have hk : (i : Int) + (n : Int) = ((i + n : Nat) : Int) := by omega
   have hi1 : (0 : Int) ≤ ((i + n : Nat) : Int) := by omega
   have hi2 : ((i + n : Nat) : Int) < (l.length : Int) := by omega
   have hk2 : i + n ≤ 20000 := by omega
   clear h hx
   generalize l[i + n] = x at *
   generalize i + n = k at *
   go_enter Tryz.func148, Tryz.ntmps148
   go_wp2_with fail
   go_quiet (fail)
   go_wp2_with fail
   obtain ⟨WD, hWD⟩ : ∃ WD, WD = (w.alloc (Obj.cells #[.int .i64 0, .int .i64 0, .string ⟨#[]⟩] 63)).drewN nq := ⟨_, rfl⟩
   have HBD := Hd (show Below w.heap.size w WD by rw [hWD]; exact below_drewN (Zr.alloc Zl _) _)
   have k0 : WD.cell? ⟨bp, 0, none⟩ = some (.slice (some ⟨q, o, none⟩) l.length c) := by rw [hWD]; go_simp
   have k1 : WD.cell? ⟨bp, 1, none⟩ = some (.int .i64 (i : Nat)) := by rw [hWD]; go_simp
   have e0 : WD.cell? ⟨q, o + k * 3, none⟩ = some (.int .i64 x.k) := by rw [hWD]; go_simp
   have e1 : WD.cell? ⟨q, o + k * 3 + 1, none⟩ = some (.int .i64 x.a) := by rw [hWD]; go_simp
   have e2 : WD.cell? ⟨q, o + k * 3 + 2, none⟩ = some (.string x.t) := by rw [hWD]; go_simp
   have m0 : WD.cell? ⟨w.heap.size, 0, none⟩ = some (.int .i64 0) := by rw [hWD]; go_simp
   have m1 : WD.cell? ⟨w.heap.size, 1, none⟩ = some (.int .i64 0) := by rw [hWD]; go_simp
   have m2 : WD.cell? ⟨w.heap.size, 2, none⟩ = some (.string ⟨#[]⟩) := by rw [hWD]; go_simp
   have z0 : WD.frozen? ⟨w.heap.size, 0, none⟩ = false := by rw [hWD]; go_simp
   have z1 : WD.frozen? ⟨w.heap.size, 1, none⟩ = false := by rw [hWD]; go_simp
   have z2 : WD.frozen? ⟨w.heap.size, 2, none⟩ = false := by rw [hWD]; go_simp
   rw [← hWD]
   clear hWD c0 c1 c2 c3 fz d0 d1 d2
   have HS := Hd (Tp.set3 m0 m1 m2 (.int .i64 x.k) (.int .i64 x.a) (.string x.t))
   go_region
   all_goals
    go_wp2_with fail
    obtain ⟨s0, s1, s2⟩ := uh HS
    refine bodyPost_ret (v := .agg #[.int .i64 x.k, .int .i64 x.a, .string x.t]) (by simp [results, Tryz.results148, go_sem, s0, s1, s2]) rfl ?_
    exact ⟨rfl, ((((uh HBD).setCell (p := ⟨w.heap.size, 0, none⟩) Zl _).setCell (p := ⟨w.heap.size, 1, none⟩) Zl _).setCell (p := ⟨w.heap.size, 2, none⟩) Zl _).drew⟩
 rw [ZbV (by omega)]
 have hi2 : ¬ (i : Int) + (n : Int) < (l.length : Int) := by omega
 clear h
 go_enter Tryz.func148, Tryz.ntmps148
 go_wp2_with fail
 go_quiet (fail)
 obtain ⟨WD, hWD⟩ : ∃ WD, WD = (w.alloc (Obj.cells #[.int .i64 0, .int .i64 0, .string ⟨#[]⟩] 63)).drewN nq := ⟨_, rfl⟩
 have HBD := Hd (show Below w.heap.size w WD by rw [hWD]; exact below_drewN (Zr.alloc Zl _) _)
 have m0 : WD.cell? ⟨w.heap.size, 0, none⟩ = some (.int .i64 0) := by rw [hWD]; go_simp
 have m1 : WD.cell? ⟨w.heap.size, 1, none⟩ = some (.int .i64 0) := by rw [hWD]; go_simp
 have m2 : WD.cell? ⟨w.heap.size, 2, none⟩ = some (.string ⟨#[]⟩) := by rw [hWD]; go_simp
 have z0 : WD.frozen? ⟨w.heap.size, 0, none⟩ = false := by rw [hWD]; go_simp
 have z1 : WD.frozen? ⟨w.heap.size, 1, none⟩ = false := by rw [hWD]; go_simp
 have z2 : WD.frozen? ⟨w.heap.size, 2, none⟩ = false := by rw [hWD]; go_simp
 rw [← hWD]
 clear hWD c0 c1 c2 c3 fz
 have HS := Hd (Tp.set3 m0 m1 m2 (.int .i64 0) (.int .i64 0) (.string ⟨#[]⟩))
 go_wp2_with fail
 obtain ⟨s0, s1, s2⟩ := uh HS
 refine bodyPost_ret (v := .agg #[.int .i64 0, .int .i64 0, .string ⟨#[]⟩]) (by simp [results, Tryz.results148, go_sem, s0, s1, s2]) rfl ?_
 exact ⟨rfl, (((uh HBD).setCell (p := ⟨w.heap.size, 0, none⟩) Zl _).setCell (p := ⟨w.heap.size, 1, none⟩) Zl _).setCell (p := ⟨w.heap.size, 2, none⟩) Zl _⟩
theorem ZiT {s : ByteArray} (h : s.toList = []) : s.size = 0 := by
 rw [ByteArray.toList_eq] at h
 have := congrArg List.length h
 simpa using this
theorem Zeq {l : List Tp.T} {i : Nat} {s : ByteArray} (hs : 0 < s.size) (h : Zal l i s = true) : i < l.length := by
 by_cases hi : i < l.length
 · exact hi
 unfold Zal at h
 rw [ZbV (by omega)] at h
 have h1 : (⟨#[]⟩ : ByteArray).toList = s.toList := by simpa using h
 have h2 : (⟨#[]⟩ : ByteArray).toList = [] := by rw [ByteArray.toList_eq]
 have := ZiT (h1.symm.trans h2)
 omega
theorem ZhI {l : List Tp.T} {i : Nat} (h : ZbM l i = true) : i < l.length := by
 by_cases hi : i < l.length
 · exact hi
 unfold ZbM at h
 rw [ZbV (by omega)] at h
 simp at h
theorem ZkP {l : List Tp.T} {i : Nat} (h : (Tp.tk l i).k = 2) : i < l.length := by
 by_cases hi : i < l.length
 · exact hi
 rw [ZbV (by omega)] at h
 simp at h
theorem ZbJ (s : ByteArray) (i b : Nat) (w : World) (h : Tp.J l ta c bp e w i b) (y : Bool) (hy : Zal l i s = y) :
  Calls Tryz.prog 108 #[.pointer (some ⟨bp, 0, none⟩), .string s] w fun r w' => r = .returned (.bool y) ∧ Below w.heap.size w w' := by
 have HA := Hd (ZcC l ta c bp e 0 (by omega) i b w h)
 unfold Zal at hy
 rw [Nat.add_zero] at HA
 clear h
 generalize Tp.tk l i = x at *
 have hfd : ∀ W : World, (Instr.field 63 (.agg #[.int .i64 x.k, .int .i64 x.a, .string x.t]) 2).run Tryz.prog W = .ok (.string x.t) W := fun _ => by kernel_rfl
 go_enter Tryz.func108, Tryz.ntmps108
 go_wp2_with fail
 refine (uh HA).mono ?_
 rintro r w1 ⟨rfl, hb1⟩
 have HB1 := Hd hb1
 clear hb1
 go_wp2_with fail
 go_ret
 exact ⟨rfl, uh HB1⟩
theorem ZdB (i b : Nat) (w : World) (h : Tp.J l ta c bp e w i b) (y : Bool) (hy : ZbM l i = y) :
  Calls Tryz.prog 183 #[.pointer (some ⟨bp, 0, none⟩)] w fun r w' => r = .returned (.bool y) ∧ Below w.heap.size w w' := by
 have HA := Hd (ZcC l ta c bp e 0 (by omega) i b w h)
 unfold ZbM at hy
 rw [Nat.add_zero] at HA
 clear h
 generalize Tp.tk l i = x at *
 cases hk : x.k == 1
 · obtain rfl : y = false := by rw [← hy, hk]; rfl
   clear hy
   go_enter Tryz.func183, Tryz.ntmps183
   go_wp2_with fail
   refine (uh HA).mono ?_
   rintro r w1 ⟨rfl, hb1⟩
   have HB1 := Hd hb1
   clear hb1
   go_wp2_with fail
   go_ret
   exact ⟨rfl, (uh HB1).alloc (uh HB1).size _⟩
 have HW := Hd (Zgm x.t)
 have HY := Hd (show (!Tk.wordB x.t.toList) = y by rw [← hy, hk]; rfl)
 clear hy
 generalize Tk.wordB x.t.toList = v at *
 go_enter Tryz.func183, Tryz.ntmps183
 go_wp2_with fail
 refine (uh HA).mono ?_
 rintro r w1 ⟨rfl, hb1⟩
 have HB1 := Hd hb1
 clear hb1
 go_wp2_with fail
 refine ((uh HW) _).mono ?_
 rintro r w2 ⟨rfl, rfl⟩
 go_wp2_with fail
 go_ret
 exact ⟨Zaj (uh HY), (uh HB1).alloc (uh HB1).size _⟩
theorem Zik (i b : Nat) (w : World) (h : Tp.J l ta c bp e w i b) (hi : i < l.length) :
  Calls Tryz.prog 184 #[.pointer (some ⟨bp, 0, none⟩)] w fun r w' => r = .returned (.string (Tp.tk l i).t) ∧ Tp.J l ta c bp e w' (i + 1) b ∧ Tp.Tu (ZaA bp) w.heap.size w w' := by
 have HA := Hd (ZcC l ta c bp e 0 (by omega) i b w h)
 rw [Nat.add_zero] at HA
 have HJ := Hd h
 have hlt := h.lt
 have hf := h.fine.few
 clear h
 generalize Tp.tk l i = x at *
 go_enter Tryz.func184, Tryz.ntmps184
 go_wp2_with fail
 refine (uh HA).mono ?_
 rintro r w1 ⟨rfl, hb1⟩
 have hbA := hb1.alloc hb1.size (Obj.cells #[.int .i64 x.k, .int .i64 x.a, .string x.t] 63)
 have hJ2 := (uh HJ).below hbA
 have hz1 := hb1.size
 obtain ⟨c0, c1, c2, c3, fz⟩ := hJ2.p
 have HN := Hd (hJ2.next (i + 1) (by omega) (z := (i : Int) + 1) (by omega))
 have HT := Hd ((Tp.Tu.of_below (D := ZaA bp) hbA).set (b := bp) (o := 1) (.int .i64 ((i : Int) + 1)) (fun _ => rfl))
 have hne : bp ≠ w1.heap.size := by omega
 clear hb1 hbA hJ2
 go_wp2_with fail
 go_ret
 exact ⟨rfl, uh HN, uh HT⟩
theorem Zbi (s : ByteArray) (hs : 0 < s.size) (i b : Nat) (w : World) (h : Tp.J l ta c bp e w i b) (y : Bool) (hy : Zal l i s = y) :
  Calls Tryz.prog 182 #[.pointer (some ⟨bp, 0, none⟩), .string s] w fun r w' => r = .returned (.bool y) ∧ Tp.J l ta c bp e w' (if y = true then i + 1 else i) b ∧ Tp.Tu (ZaA bp) w.heap.size w w' := by
 have HS := Hd (ZbJ l ta c bp e s i b w h y hy)
 have HJ := Hd h
 have hlt := h.lt
 have hil : y = true → i < l.length := fun h1 => Zeq hs (hy.trans h1)
 clear h hy
 cases y
 · go_enter Tryz.func182, Tryz.ntmps182
   go_wp2_with fail
   refine (uh HS).mono ?_
   rintro r w1 ⟨rfl, hb1⟩
   have HB1 := Hd hb1
   clear hb1 hil
   go_wp2_with fail
   go_ret
   exact ⟨rfl, by simpa using (uh HJ).below (uh HB1), Tp.Tu.of_below (uh HB1)⟩
 have hi := hil rfl
 have hf := (uh HJ).fine.few
 clear hil
 go_enter Tryz.func182, Tryz.ntmps182
 go_wp2_with fail
 refine (uh HS).mono ?_
 rintro r w1 ⟨rfl, hb1⟩
 have hJ2 := (uh HJ).below hb1
 obtain ⟨c0, c1, c2, c3, fz⟩ := hJ2.p
 have HN := Hd (hJ2.next (i + 1) (by omega) (z := (i : Int) + 1) (by omega))
 have HT := Hd ((Tp.Tu.of_below (D := ZaA bp) hb1).set (b := bp) (o := 1) (.int .i64 ((i : Int) + 1)) (fun _ => rfl))
 clear hb1 hJ2
 go_wp2_with fail
 go_ret
 exact ⟨rfl, by simpa using uh HN, uh HT⟩
theorem ZaX (s : ByteArray) (hs : 0 < s.size) (i b : Nat) (w : World) (h : Tp.J l ta c bp e w i b) :
  Calls Tryz.prog 150 #[.pointer (some ⟨bp, 0, none⟩), .string s] w (ZiB l ta c bp e (ZaA bp) w b (Zak l s i)) := by
 obtain ⟨y, hy⟩ : ∃ y, Zal l i s = y := ⟨_, rfl⟩
 have HS := Hd (Zbi l ta c bp e s hs i b w h y hy)
 have HG := Hd (fun (W : World) (h1 : Tp.J l ta c bp e W i b) => ZcH l ta c bp e i b W h1)
 unfold Zak
 rw [hy]
 clear h hy
 cases y
 · go_enter Tryz.func150, Tryz.ntmps150
   go_wp2_with fail
   refine (uh HS).mono ?_
   rintro r w1 ⟨rfl, hj1, ht1⟩
   have HT1 := Hd ht1
   have HG1 := Hd ((uh HG) w1 (by simpa using hj1))
   clear hj1 ht1
   go_wp2_with fail
   refine (uh HG1).mono ?_
   rintro r w2 ⟨rfl, hb2⟩
   have HT2 := Hd ((uh HT1).below hb2 (uh HT1).size)
   clear hb2
   go_wp2_with fail
   exact ⟨rfl, rfl, uh HT2⟩
 go_enter Tryz.func150, Tryz.ntmps150
 go_wp2_with fail
 refine (uh HS).mono ?_
 rintro r w1 ⟨rfl, hj1, ht1⟩
 have HT1 := Hd (And.intro hj1 ht1)
 clear hj1 ht1
 go_wp2_with fail
 go_end0
 exact ⟨rfl, by simpa using (uh HT1).1, (uh HT1).2⟩
end
end Go.Proofs.YtfccpddehpgfoaaGreatDoor
