/-
  Programs as they lie in memory, and as plain data; what is wrong with one. By the verifier.
-/
import Derived.Test.YtpfogjplnodacaaGreatCBase
namespace Go.Proofs.YtpfogjplnodacaaGreat
open Go.RowKit
set_option linter.unusedVariables false
structure Pg.Sl where
 ad : Option Addr
 len : Nat
 cap : Nat
structure Pg.E where
 k : Int
 n : Int
 args : Pg.Sl
def Pg.E.val (e : Pg.E) : Value := .agg #[.int .i64 e.k, .int .i64 e.n, .slice e.args.ad e.args.len e.args.cap]
structure Pg.C where
 k : Int
 v : Int
 f : Int
 ix : Pg.E
 ex : Pg.E
 args : Pg.Sl
 thn : Pg.Sl
 els : Pg.Sl
def Pg.C.val (c : Pg.C) : Value := .agg #[.int .i64 c.k, .int .i64 c.v, .int .i64 c.f, .int .i64 c.ix.k, .int .i64 c.ix.n, .slice c.ix.args.ad c.ix.args.len c.ix.args.cap, .int .i64 c.ex.k, .int .i64 c.ex.n, .slice c.ex.args.ad c.ex.args.len c.ex.args.cap, .slice c.args.ad c.args.len c.args.cap, .slice c.thn.ad c.thn.len c.thn.cap, .slice c.els.ad c.els.len c.els.cap]
structure Pg.F where
 params : Int
 sizes : Pg.Sl
 cmds : Pg.Sl
 res : Pg.E
def Pg.F.val (f : Pg.F) : Value := .agg #[.int .i64 f.params, .slice f.sizes.ad f.sizes.len f.sizes.cap, .slice f.cmds.ad f.cmds.len f.cmds.cap, .int .i64 f.res.k, .int .i64 f.res.n, .slice f.res.args.ad f.res.args.len f.res.args.cap]
def Pg.XT : Nat → Type
 | 0 => Empty
 | n + 1 => (Int × Int) × List (Pg.XT n)
def Pg.CT (m : Nat) : Nat → Type
 | 0 => Empty
 | n + 1 => (Int × Int × Int) × (Pg.XT m × Pg.XT m × List (Pg.XT m)) × (List (Pg.CT m n) × List (Pg.CT m n))
structure Pg.FT (m n : Nat) where
 params : Int
 sizes : List Int
 cmds : List (Pg.CT m n)
 res : Pg.XT m
structure Pg.LE (w : World) (b o : Nat) (c : Pg.E) : Prop where
 c0 : w.cell? ⟨b, o, none⟩ = some (.int .i64 c.k)
 c1 : w.cell? ⟨b, o + 1, none⟩ = some (.int .i64 c.n)
 c2 : w.cell? ⟨b, o + 2, none⟩ = some (.slice c.args.ad c.args.len c.args.cap)
structure Pg.LC (w : World) (b o : Nat) (c : Pg.C) : Prop where
 c0 : w.cell? ⟨b, o, none⟩ = some (.int .i64 c.k)
 c1 : w.cell? ⟨b, o + 1, none⟩ = some (.int .i64 c.v)
 c2 : w.cell? ⟨b, o + 2, none⟩ = some (.int .i64 c.f)
 c3 : w.cell? ⟨b, o + 3, none⟩ = some (.int .i64 c.ix.k)
 c4 : w.cell? ⟨b, o + 4, none⟩ = some (.int .i64 c.ix.n)
 c5 : w.cell? ⟨b, o + 5, none⟩ = some (.slice c.ix.args.ad c.ix.args.len c.ix.args.cap)
 c6 : w.cell? ⟨b, o + 6, none⟩ = some (.int .i64 c.ex.k)
 c7 : w.cell? ⟨b, o + 7, none⟩ = some (.int .i64 c.ex.n)
 c8 : w.cell? ⟨b, o + 8, none⟩ = some (.slice c.ex.args.ad c.ex.args.len c.ex.args.cap)
 c9 : w.cell? ⟨b, o + 9, none⟩ = some (.slice c.args.ad c.args.len c.args.cap)
 c10 : w.cell? ⟨b, o + 10, none⟩ = some (.slice c.thn.ad c.thn.len c.thn.cap)
 c11 : w.cell? ⟨b, o + 11, none⟩ = some (.slice c.els.ad c.els.len c.els.cap)
structure Pg.LF (w : World) (b o : Nat) (c : Pg.F) : Prop where
 c0 : w.cell? ⟨b, o, none⟩ = some (.int .i64 c.params)
 c1 : w.cell? ⟨b, o + 1, none⟩ = some (.slice c.sizes.ad c.sizes.len c.sizes.cap)
 c2 : w.cell? ⟨b, o + 2, none⟩ = some (.slice c.cmds.ad c.cmds.len c.cmds.cap)
 c3 : w.cell? ⟨b, o + 3, none⟩ = some (.int .i64 c.res.k)
 c4 : w.cell? ⟨b, o + 4, none⟩ = some (.int .i64 c.res.n)
 c5 : w.cell? ⟨b, o + 5, none⟩ = some (.slice c.res.args.ad c.res.args.len c.res.args.cap)
structure Pg.RS {α β : Type} (w : World) (wide : Nat) (lies : Nat → Nat → α → Prop) (reads : α → β → Prop) (s : Pg.Sl) (l : List β) : Prop where
 len : s.len = l.length
 cap : s.len ≤ s.cap
 few : l.length ≤ 35184372088832
 at_ : ∀ i y, l[i]? = some y → ∃ (b o : Nat) (c : α), s.ad = some ⟨b, o, none⟩ ∧ b < w.heap.size ∧ lies b (o + i * wide) c ∧ reads c y
def Pg.RX (w : World) : (n : Nat) → Pg.E → Pg.XT n → Prop
 | 0, _, _ => False
 | n + 1, e, x => (e.k = x.1.1 ∧ e.n = x.1.2) ∧ Pg.RS w 3 (Pg.LE w) (Pg.RX w n) e.args x.2
def Pg.RC (w : World) (m : Nat) : (n : Nat) → Pg.C → Pg.CT m n → Prop
 | 0, _, _ => False
 | n + 1, c, x => (c.k = x.1.1 ∧ c.v = x.1.2.1 ∧ c.f = x.1.2.2) ∧ (Pg.RX w m c.ix x.2.1.1 ∧ Pg.RX w m c.ex x.2.1.2.1 ∧ Pg.RS w 3 (Pg.LE w) (Pg.RX w m) c.args x.2.1.2.2) ∧ (Pg.RS w 12 (Pg.LC w) (Pg.RC w m n) c.thn x.2.2.1 ∧ Pg.RS w 12 (Pg.LC w) (Pg.RC w m n) c.els x.2.2.2)
structure Pg.RN (w : World) (s : Pg.Sl) (l : List Int) : Prop where
 len : s.len = l.length
 cap : s.len ≤ s.cap
 few : l.length ≤ 35184372088832
 at_ : ∀ i z, l[i]? = some z → ∃ b o, s.ad = some ⟨b, o, none⟩ ∧ b < w.heap.size ∧ w.cell? ⟨b, o + i, none⟩ = some (.int .i64 z)
structure Pg.RF (w : World) (m n : Nat) (f : Pg.F) (x : Pg.FT m n) : Prop where
 params : f.params = x.params
 sizes : Pg.RN w f.sizes x.sizes
 cmds : Pg.RS w 12 (Pg.LC w) (Pg.RC w m n) f.cmds x.cmds
 res : Pg.RX w m f.res x.res
abbrev Pg.RP (w : World) (m n : Nat) (s : Pg.Sl) (p : List (Pg.FT m n)) : Prop := Pg.RS w 6 (Pg.LF w) (Pg.RF w m n) s p
section
variable {w w' : World} {B : Nat}
theorem Pg.LE.later {b o : Nat} {c : Pg.E} (h : Pg.LE w b o c) (hb : Below B w w') (hB : w.heap.size ≤ B) (hlt : b < w.heap.size) : Pg.LE w' b o c := by
 have hc : ∀ j, w'.cell? ⟨b, j, none⟩ = w.cell? ⟨b, j, none⟩ := fun j => hb.cell (p := ⟨b, j, none⟩) (by show b < B; omega)
 exact ⟨by rw [hc]; exact h.c0, by rw [hc]; exact h.c1, by rw [hc]; exact h.c2⟩
theorem Pg.LC.later {b o : Nat} {c : Pg.C} (h : Pg.LC w b o c) (hb : Below B w w') (hB : w.heap.size ≤ B) (hlt : b < w.heap.size) : Pg.LC w' b o c := by
 have hc : ∀ j, w'.cell? ⟨b, j, none⟩ = w.cell? ⟨b, j, none⟩ := fun j => hb.cell (p := ⟨b, j, none⟩) (by show b < B; omega)
 exact ⟨by rw [hc]; exact h.c0, by rw [hc]; exact h.c1, by rw [hc]; exact h.c2, by rw [hc]; exact h.c3, by rw [hc]; exact h.c4, by rw [hc]; exact h.c5, by rw [hc]; exact h.c6, by rw [hc]; exact h.c7, by rw [hc]; exact h.c8, by rw [hc]; exact h.c9, by rw [hc]; exact h.c10, by rw [hc]; exact h.c11⟩
theorem Pg.LF.later {b o : Nat} {c : Pg.F} (h : Pg.LF w b o c) (hb : Below B w w') (hB : w.heap.size ≤ B) (hlt : b < w.heap.size) : Pg.LF w' b o c := by
 have hc : ∀ j, w'.cell? ⟨b, j, none⟩ = w.cell? ⟨b, j, none⟩ := fun j => hb.cell (p := ⟨b, j, none⟩) (by show b < B; omega)
 exact ⟨by rw [hc]; exact h.c0, by rw [hc]; exact h.c1, by rw [hc]; exact h.c2, by rw [hc]; exact h.c3, by rw [hc]; exact h.c4, by rw [hc]; exact h.c5⟩
theorem Pg.RS.mono {α β : Type} {wide : Nat} {lies lies' : Nat → Nat → α → Prop} {reads reads' : α → β → Prop} {s : Pg.Sl} {l : List β} (h : Pg.RS w wide lies reads s l)
  (hz : w.heap.size ≤ w'.heap.size) (hl : ∀ b o c, b < w.heap.size → lies b o c → lies' b o c) (hr : ∀ c y, y ∈ l → reads c y → reads' c y) : Pg.RS w' wide lies' reads' s l :=
 ⟨h.len, h.cap, h.few, fun i y hy => by
  obtain ⟨b, o, c, h1, h2, h3, h4⟩ := h.at_ i y hy
  exact ⟨b, o, c, h1, by omega, hl _ _ _ h2 h3, hr _ _ (List.mem_of_getElem? hy) h4⟩⟩
theorem Pg.RX.later (hb : Below B w w') (hB : w.heap.size ≤ B) : ∀ (n : Nat) {e : Pg.E} {x : Pg.XT n}, Pg.RX w n e x → Pg.RX w' n e x
 | 0, _, _, h => h
 | n + 1, _, _, h => ⟨h.1, h.2.mono hb.size (fun b o c hlt hl => hl.later hb hB hlt) (fun c y _ hr => Pg.RX.later hb hB n hr)⟩
theorem Pg.RS.laterX {n : Nat} {s : Pg.Sl} {l : List (Pg.XT n)} (h : Pg.RS w 3 (Pg.LE w) (Pg.RX w n) s l) (hb : Below B w w') (hB : w.heap.size ≤ B) : Pg.RS w' 3 (Pg.LE w') (Pg.RX w' n) s l :=
 h.mono hb.size (fun b o c hlt hl => hl.later hb hB hlt) (fun c y _ hr => hr.later hb hB)
theorem Pg.RC.later (hb : Below B w w') (hB : w.heap.size ≤ B) (m : Nat) : ∀ (n : Nat) {c : Pg.C} {x : Pg.CT m n}, Pg.RC w m n c x → Pg.RC w' m n c x
 | 0, _, _, h => h
 | n + 1, _, _, h => ⟨h.1, ⟨h.2.1.1.later hb hB, h.2.1.2.1.later hb hB, h.2.1.2.2.laterX hb hB⟩, h.2.2.1.mono hb.size (fun b o c hlt hl => hl.later hb hB hlt) (fun c y _ hr => Pg.RC.later hb hB m n hr), h.2.2.2.mono hb.size (fun b o c hlt hl => hl.later hb hB hlt) (fun c y _ hr => Pg.RC.later hb hB m n hr)⟩
theorem Pg.RS.laterC {m n : Nat} {s : Pg.Sl} {l : List (Pg.CT m n)} (h : Pg.RS w 12 (Pg.LC w) (Pg.RC w m n) s l) (hb : Below B w w') (hB : w.heap.size ≤ B) : Pg.RS w' 12 (Pg.LC w') (Pg.RC w' m n) s l :=
 h.mono hb.size (fun b o c hlt hl => hl.later hb hB hlt) (fun c y _ hr => hr.later hb hB)
theorem Pg.RN.later {s : Pg.Sl} {l : List Int} (h : Pg.RN w s l) (hb : Below B w w') (hB : w.heap.size ≤ B) : Pg.RN w' s l :=
 ⟨h.len, h.cap, h.few, fun i z hz => by
  obtain ⟨b, o, h1, h2, h3⟩ := h.at_ i z hz
  exact ⟨b, o, h1, by have := hb.size; omega, (hb.cell (p := ⟨b, o + i, none⟩) (by show b < B; omega)).trans h3⟩⟩
theorem Pg.RF.later {m n : Nat} {f : Pg.F} {x : Pg.FT m n} (h : Pg.RF w m n f x) (hb : Below B w w') (hB : w.heap.size ≤ B) : Pg.RF w' m n f x :=
 ⟨h.params, h.sizes.later hb hB, h.cmds.laterC hb hB, h.res.later hb hB⟩
theorem Pg.RP.later {m n : Nat} {s : Pg.Sl} {p : List (Pg.FT m n)} (h : Pg.RP w m n s p) (hb : Below B w w') (hB : w.heap.size ≤ B) : Pg.RP w' m n s p :=
 Pg.RS.mono h hb.size (fun b o c hlt hl => hl.later hb hB hlt) (fun c y _ hr => hr.later hb hB)
end
def Pg.parts : (n : Nat) → Pg.XT n → Nat
 | 0, _ => 0
 | n + 1, x => 1 + (x.2.map (Pg.parts n)).sum
def Pg.cnt {m : Nat} : (n : Nat) → Pg.CT m n → Nat
 | 0, _ => 0
 | n + 1, x => 1 + (x.2.2.1.map (Pg.cnt n)).sum + (x.2.2.2.map (Pg.cnt n)).sum
def Pg.dep {m : Nat} : (n : Nat) → Pg.CT m n → Nat
 | 0, _ => 0
 | n + 1, x => 1 + max ((x.2.2.1.map (Pg.dep n)).foldr max 0) ((x.2.2.2.map (Pg.dep n)).foldr max 0)
def Pg.cnts {m n : Nat} (l : List (Pg.CT m n)) : Nat := (l.map (Pg.cnt n)).sum
def Pg.deps {m n : Nat} (l : List (Pg.CT m n)) : Nat := (l.map (Pg.dep n)).foldr max 0
def Pg.sumTo {α : Type} (f : α → Nat) (l : List α) (k : Nat) : Nat := ((l.take k).map f).sum
theorem Pg.sumTo_succ {α : Type} (f : α → Nat) (l : List α) (k : Nat) (y : α) (h : l[k]? = some y) : Pg.sumTo f l (k + 1) = Pg.sumTo f l k + f y := by
 unfold Pg.sumTo
 have hlt : k < l.length := (List.getElem?_eq_some_iff.1 h).1
 have hy : l[k] = y := (List.getElem?_eq_some_iff.1 h).2
 rw [List.take_succ_eq_append_getElem hlt, hy]
 simp
theorem Pg.sumTo_all {α : Type} (f : α → Nat) (l : List α) : Pg.sumTo f l l.length = (l.map f).sum := by simp [Pg.sumTo]
theorem Pg.sumTo_le {α : Type} (f : α → Nat) (l : List α) (k : Nat) (h : k ≤ l.length) : Pg.sumTo f l k ≤ (l.map f).sum := by
 have : ∀ d, ∀ k, k + d = l.length → Pg.sumTo f l k ≤ (l.map f).sum := by
  intro d
  induction d with
  | zero => intro k hk; rw [show k = l.length from by omega, Pg.sumTo_all]; exact Nat.le_refl _
  | succ d ih =>
   intro k hk
   have hlt : k < l.length := by omega
   have h1 := Pg.sumTo_succ f l k l[k] (List.getElem?_eq_getElem hlt)
   have h2 := ih (k + 1) (by omega)
   omega
 exact this (l.length - k) k (by omega)
def Pg.first : List Nat → Nat
 | [] => 0
 | a :: r => if a = 0 then Pg.first r else a
theorem Pg.first_drop {α : Type} (f : α → Nat) (l : List α) (k : Nat) (y : α) (h : l[k]? = some y) : Pg.first ((l.drop k).map f) = if f y = 0 then Pg.first ((l.drop (k + 1)).map f) else f y := by
 obtain ⟨hk, hx⟩ := List.getElem?_eq_some_iff.1 h
 rw [List.drop_eq_getElem_cons hk, hx]
 rfl
theorem Pg.first_zero : ∀ {l : List Nat}, Pg.first l = 0 → ∀ a ∈ l, a = 0
 | [], _, a, h => by cases h
 | b :: r, h0, a, h => by
  unfold Pg.first at h0
  split at h0
  · rename_i hb
    cases h with
    | head => exact hb
    | tail _ h => exact Pg.first_zero h0 a h
  · rename_i hb; exact absurd h0 hb
def Pg.orW (a b : Nat) : Nat := if a = 0 then b else a
def Pg.at? (sz : List Int) (n : Int) : Option Int := if 0 ≤ n then sz[n.toNat]? else none
def Pg.argsN (k : Int) : Nat := if k = 1 ∨ k = 2 then 0 else if k = 3 then 1 else 2
def Pg.wx0 (sz : List Int) (k n : Int) : Nat :=
 if k = 1 then (if -9999999 ≤ n ∧ n ≤ 9999999 then 0 else 3)
 else if k = 2 ∨ k = 3 then (match Pg.at? sz n with | none => 5 | some s => if (s ≠ 0 ↔ k = 3) then 0 else 7)
 else if n = 0 then 0 else 3
theorem Pg.wx0_num {sz : List Int} {k n : Int} (h : k = 1) : Pg.wx0 sz k n = if -9999999 ≤ n ∧ n ≤ 9999999 then 0 else 3 := by unfold Pg.wx0; rw [if_pos h]
theorem Pg.wx0_none {sz : List Int} {k n : Int} (h : k = 2 ∨ k = 3) (hz : Pg.at? sz n = none) : Pg.wx0 sz k n = 5 := by unfold Pg.wx0; rw [if_neg (by omega), if_pos h, hz]
theorem Pg.wx0_some {sz : List Int} {k n v : Int} (h : k = 2 ∨ k = 3) (hz : Pg.at? sz n = some v) : Pg.wx0 sz k n = if (v ≠ 0 ↔ k = 3) then 0 else 7 := by unfold Pg.wx0; rw [if_neg (by omega), if_pos h, hz]
theorem Pg.wx0_op {sz : List Int} {k n : Int} (h : k ≠ 1) (h2 : ¬ (k = 2 ∨ k = 3)) : Pg.wx0 sz k n = if n = 0 then 0 else 3 := by unfold Pg.wx0; rw [if_neg h, if_neg h2]
def Pg.wx1 (sz : List Int) (k n : Int) (l : Nat) : Nat := if 1 ≤ k ∧ k ≤ 10 then (if l = Pg.argsN k then Pg.wx0 sz k n else 1) else 7
def Pg.wx (sz : List Int) : (n : Nat) → Pg.XT n → Nat
 | 0, _ => 0
 | n + 1, x => Pg.orW (Pg.wx1 sz x.1.1 x.1.2 x.2.length) (Pg.first (x.2.map (Pg.wx sz n)))
def Pg.chkX (sz : List Int) (n : Nat) (x : Pg.XT n) : Nat := if 15 < Pg.parts n x then 2 else Pg.wx sz n x
def Pg.isX : (n : Nat) → Pg.XT n → Bool
 | 0, _ => false
 | _ + 1, x => decide (x.1.1 ≠ 0 ∨ x.1.2 ≠ 0 ∨ 0 < x.2.length)
end Go.Proofs.YtpfogjplnodacaaGreat
