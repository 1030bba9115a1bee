/-
  Queries as they lie in memory, and as plain data; how many parts they have, what is wrong with one. By the verifier.
-/
import Derived.Test.YtfhlnelgnnkeoaaGreatDoorIBase
namespace Go.Proofs.YtfhlnelgnnkeoaaGreatDoor
open Go.RowKit
set_option linter.unusedVariables false

/-- A slice's header. -/
structure Qk.Sl where
  ad : Option Addr
  len : Nat
  cap : Nat
/-- A query's cells. -/
structure Qk.E where
  k : Int
  n : Int
  args : Qk.Sl
def Qk.E.val (e : Qk.E) : Value := .agg #[.int .i64 e.k, .int .i64 e.n, .slice e.args.ad e.args.len e.args.cap]
def Qk.E.obj (e : Qk.E) : Obj := .cells #[.int .i64 e.k, .int .i64 e.n, .slice e.args.ad e.args.len e.args.cap] 24

/-- A query as plain data, of depth at most n: its kind and its number; its parts. -/
def Qk.AT : Nat → Type
  | 0 => Empty
  | n + 1 => (Int × Int) × List (Qk.AT n)

/-- Its cells lie there. -/
structure Qk.Lies (w : World) (b o : Nat) (c : Qk.E) : Prop where
  c0 : w.cell? ⟨b, o, none⟩ = some (.int .i64 c.k)
  c1 : w.cell? ⟨b, o + 1, none⟩ = some (.int .i64 c.n)
  c2 : w.cell? ⟨b, o + 2, none⟩ = some (.slice c.args.ad c.args.len c.args.cap)

/-- A slice of queries reads as a list. -/
structure Qk.RS {β : Type} (w : World) (reads : Qk.E → β → Prop) (s : Qk.Sl) (l : List β) : Prop where
  len : s.len = l.length
  few : l.length ≤ 9223372036854775807
  at_ : ∀ i y, l[i]? = some y → ∃ (b o : Nat) (c : Qk.E), s.ad = some ⟨b, o, none⟩ ∧ b < w.heap.size ∧ Qk.Lies w b (o + i * 3) c ∧ reads c y

/-- A query reads as plain data. -/
def Qk.RA (w : World) : (n : Nat) → Qk.E → Qk.AT n → Prop
  | 0, _, _ => False
  | n + 1, e, x => (e.k = x.1.1 ∧ e.n = x.1.2) ∧ Qk.RS w (Qk.RA w n) e.args x.2

theorem Qk.Lies.later {w w' : World} {B b o : Nat} {c : Qk.E} (h : Qk.Lies w b o c) (hb : Below B w w') (hB : w.heap.size ≤ B) (hlt : b < w.heap.size) : Qk.Lies w' b o c := by
  have hc : ∀ j, w'.cell? ⟨b, j, none⟩ = w.cell? ⟨b, j, none⟩ := fun j => hb.cell (p := ⟨b, j, none⟩) (by show b < B; omega)
  exact ⟨by rw [hc]; exact h.c0, by rw [hc]; exact h.c1, by rw [hc]; exact h.c2⟩
theorem Qk.RS.later {β : Type} {w w' : World} {B : Nat} {reads reads' : Qk.E → β → Prop} {s : Qk.Sl} {l : List β} (h : Qk.RS w reads s l) (hb : Below B w w') (hB : w.heap.size ≤ B)
    (hr : ∀ c y, y ∈ l → reads c y → reads' c y) : Qk.RS w' reads' s l :=
  ⟨h.len, h.few, fun i y hy => by
    obtain ⟨b, o, c, h1, h2, h3, h4⟩ := h.at_ i y hy
    exact ⟨b, o, c, h1, by have := hb.size; omega, h3.later hb hB h2, hr _ _ (List.mem_of_getElem? hy) h4⟩⟩
theorem Qk.RA.later {w w' : World} {B : Nat} (hb : Below B w w') (hB : w.heap.size ≤ B) : ∀ (n : Nat) {e : Qk.E} {x : Qk.AT n}, Qk.RA w n e x → Qk.RA w' n e x
  | 0, _, _, h => h
  | n + 1, _, _, h => ⟨h.1, h.2.later hb hB (fun c y _ hr => Qk.RA.later hb hB n hr)⟩
theorem Qk.RA.alloc {w : World} {n : Nat} {e : Qk.E} {x : Qk.AT n} (h : Qk.RA w n e x) (o : Obj) : Qk.RA (w.alloc o) n e x := h.later ((Below.refl _ _).alloc (Nat.le_refl _) o) (Nat.le_refl _)

/-! ### What there is, counted -/
def Qk.parts : (n : Nat) → Qk.AT n → Nat
  | 0, _ => 0
  | n + 1, x => 1 + (x.2.map (Qk.parts n)).sum
/-- Of so many, how many are left behind so many; below 0: too few. -/
def Qk.leftP (l : Int) (p : Nat) : Int := if (p : Int) ≤ l then l - p else -1
/-- So many, but no more than one above enough. -/
def Qk.capP (enough : Int) (p : Nat) : Int := if (p : Int) ≤ enough then p else enough + 1
def Qk.sumTo {α : Type} (f : α → Nat) (l : List α) (k : Nat) : Nat := ((l.take k).map f).sum
theorem Qk.sumTo_succ {α : Type} (f : α → Nat) (l : List α) (k : Nat) (y : α) (h : l[k]? = some y) : Qk.sumTo f l (k + 1) = Qk.sumTo f l k + f y := by
  unfold Qk.sumTo
  have hlt : k < l.length := (List.getElem?_eq_some_iff.1 h).1
  have hy : l[k] = y := (List.getElem?_eq_some_iff.1 h).2
  rw [List.take_succ_eq_append_getElem hlt, hy]
  simp
theorem Qk.sumTo_all {α : Type} (f : α → Nat) (l : List α) : Qk.sumTo f l l.length = (l.map f).sum := by simp [Qk.sumTo]
theorem Qk.sumTo_le {α : Type} (f : α → Nat) (l : List α) (k : Nat) (h : k ≤ l.length) : Qk.sumTo f l k ≤ (l.map f).sum := by
  have : ∀ d, ∀ k, k + d = l.length → Qk.sumTo f l k ≤ (l.map f).sum := by
    intro d
    induction d with
    | zero => intro k hk; rw [show k = l.length from by omega, Qk.sumTo_all]; exact Nat.le_refl _
    | succ d ih =>
      intro k hk
      have hlt : k < l.length := by omega
      have h1 := Qk.sumTo_succ f l k l[k] (List.getElem?_eq_getElem hlt)
      have h2 := ih (k + 1) (by omega)
      omega
  exact this (l.length - k) k (by omega)

/-! ### What is wrong with one -/
def Qk.isK (k : Int) : Bool := decide (1 ≤ k ∧ k ≤ 14)
def Qk.argsN (k : Int) : Nat := if k ≤ 6 then 0 else if k = 8 ∨ k = 9 ∨ k = 13 then 2 else 1
def Qk.least (k : Int) : Int := if k = 1 ∨ k = 2 ∨ k = 3 then -1 else if k = 5 ∨ k = 6 then -9999999 else 0
def Qk.most (k : Int) : Int := if k = 1 ∨ k = 2 ∨ k = 3 ∨ k = 5 ∨ k = 6 then 9999999 else if k = 14 then 4000 else 0
def Qk.within (k n : Int) : Bool := decide (Qk.least k ≤ n ∧ n ≤ Qk.most k)
def Qk.firstW : List Nat → Nat
  | [] => 0
  | a :: r => if a = 0 then Qk.firstW r else a
def Qk.wrong : (n : Nat) → Qk.AT n → Nat
  | 0, _ => 0
  | n + 1, x => if Qk.isK x.1.1 then (if x.2.length = Qk.argsN x.1.1 then (if Qk.within x.1.1 x.1.2 then Qk.firstW (x.2.map (Qk.wrong n)) else 3) else 1) else 7
def Qk.chk (n : Nat) (x : Qk.AT n) : Nat := if 15 < Qk.parts n x then 2 else Qk.wrong n x

theorem Qk.firstW_drop {α : Type} (f : α → Nat) (l : List α) (k : Nat) (y : α) (h : l[k]? = some y) : Qk.firstW ((l.drop k).map f) = if f y = 0 then Qk.firstW ((l.drop (k + 1)).map f) else f y := by
  obtain ⟨hk, hx⟩ := List.getElem?_eq_some_iff.1 h
  rw [List.drop_eq_getElem_cons hk, hx]
  rfl
theorem Qk.firstW_zero : ∀ {l : List Nat}, Qk.firstW l = 0 → ∀ a ∈ l, a = 0
  | [], _, a, h => by cases h
  | b :: r, h0, a, h => by
    unfold Qk.firstW at h0
    split at h0
    · rename_i hb
      cases h with
      | head => exact hb
      | tail _ h => exact Qk.firstW_zero h0 a h
    · rename_i hb; exact absurd h0 hb

theorem Qk.wrong_ok {n : Nat} {x : Qk.AT (n + 1)} (h : Qk.wrong (n + 1) x = 0) : Qk.isK x.1.1 = true ∧ x.2.length = Qk.argsN x.1.1 ∧ Qk.within x.1.1 x.1.2 = true ∧ ∀ y ∈ x.2, Qk.wrong n y = 0 := by
  unfold Qk.wrong at h
  split at h
  · rename_i h1
    split at h
    · rename_i h2
      split at h
      · rename_i h3
        exact ⟨h1, h2, h3, fun y hy => Qk.firstW_zero h _ (List.mem_map_of_mem hy)⟩
      · cases h
    · cases h
  · cases h
theorem Qk.chk_ok {n : Nat} {x : Qk.AT n} (h : Qk.chk n x = 0) : Qk.parts n x ≤ 15 ∧ Qk.wrong n x = 0 := by
  unfold Qk.chk at h
  split at h
  · cases h
  · exact ⟨by omega, h⟩
end Go.Proofs.YtfhlnelgnnkeoaaGreatDoor
