/-
  Several texts in one: QR3, QR4, QR5. By the verifier.
-/
import Derived.Test.YtfhlnelgnnkeoaaGreatDoorQRa
namespace Go.Proofs.YtfhlnelgnnkeoaaGreatDoor
open Go.RowKit
set_option linter.unusedVariables false

/-- The kind of a word that stands first; of one that stands between. -/
def Qp.find (ks : List Nat) (t : ByteArray) : Option Nat := ks.find? fun k => t.toList == (Qk.word ((k : Nat) : Int)).toList
def Qp.ones : List Nat := [1, 2, 3, 4, 5, 6, 7, 10, 11, 12, 14]
def Qp.twos : List Nat := [8, 9, 13]
theorem Qp.ba_ext {a b : ByteArray} (h : (a.toList == b.toList) = true) : a = b := by
  rw [ByteArray.toList_eq, ByteArray.toList_eq] at h
  have h1 : a.data.toList = b.data.toList := by simpa using h
  cases a; cases b
  congr 1
  exact Array.toList_inj.1 h1
theorem Qp.find_some {ks : List Nat} {t : ByteArray} {k : Nat} (h : Qp.find ks t = some k) : t = Qk.word ((k : Nat) : Int) ∧ k ∈ ks :=
  ⟨Qp.ba_ext (List.find?_some (p := fun k : Nat => t.toList == (Qk.word ((k : Nat) : Int)).toList) h), List.mem_of_find?_eq_some h⟩
theorem Qp.find_in (ks : List Nat) (t : ByteArray) : Qp.inW (ks.map fun k => Qk.word ((k : Nat) : Int)) t = (Qp.find ks t).isSome := by
  unfold Qp.inW Qp.find
  rw [List.any_map]
  induction ks with
  | nil => rfl
  | cons a r ih =>
    rw [List.any_cons, List.find?_cons]
    cases h : (t.toList == (Qk.word ((a : Nat) : Int)).toList)
    · simp only [Function.comp, h, Bool.false_or]
      exact ih
    · simp only [Function.comp, h, Bool.true_or]
      rfl
theorem Qp.find_ones (t : ByteArray) : Qp.inW Qp.words t = (Qp.find Qp.ones t).isSome := Qp.find_in Qp.ones t
def Qp.words2 : List ByteArray := [⟨#[97, 110, 100]⟩, ⟨#[111, 114]⟩, ⟨#[115, 105, 110, 99, 101]⟩]
theorem Qp.find_twos (t : ByteArray) : Qp.inW Qp.words2 t = (Qp.find Qp.twos t).isSome := Qp.find_in Qp.twos t

/-- Two queries in brackets. -/
def Qp.pairF (l : List Qp.T) {d : Nat} (rec : Nat → Except Nat (Qk.AT d × Nat)) (i : Nat) : Except Nat (Qk.AT (d + 1) × Nat) :=
  match rec (i + 1) with
  | .error j => .error j
  | .ok (x, j) =>
    match Qp.find Qp.twos (Qp.tk l j).t with
    | none => .error j
    | some k =>
      match rec (j + 1) with
      | .error j' => .error j'
      | .ok (y, j') => if Qp.inW [⟨#[41]⟩] (Qp.tk l j').t = true then .ok (((((k : Nat) : Int), 0), [x, y]), j' + 1) else .error j'
/-- A query that begins with a word. -/
def Qp.wordF (l : List Qp.T) {d : Nat} (rec : Nat → Except Nat (Qk.AT d × Nat)) (i : Nat) : Except Nat (Qk.AT (d + 1) × Nat) :=
  match Qp.find Qp.ones (Qp.tk l i).t with
  | none => .error i
  | some k =>
    match (if 0 < Qk.most ((k : Nat) : Int) then Qp.num l (Qk.least ((k : Nat) : Int)) (i + 1) else .ok (0, i + 1)) with
    | .error j => .error j
    | .ok (m, j) =>
      if Qk.argsN ((k : Nat) : Int) = 1 then
        (match rec j with
        | .error j' => .error j'
        | .ok (x, j') => .ok (((((k : Nat) : Int), m), [x]), j'))
      else .ok (((((k : Nat) : Int), m), []), j)
/-- The query that stands there, in so many others that d may stand in it. -/
def Qp.q (l : List Qp.T) : (d : Nat) → Nat → Except Nat (Qk.AT d × Nat)
  | 0, i => .error i
  | d + 1, i =>
    if Qp.inW [⟨#[40]⟩] (Qp.tk l i).t = true then (if d = 0 then .error i else Qp.pairF l (Qp.q l d) i)
    else Qp.wordF l (Qp.q l d) i

/-- The blocks from B on are as they were. -/
structure Qp.Ab (B : Nat) (W W' : World) : Prop where
  size : W.heap.size ≤ W'.heap.size
  block : ∀ q, B ≤ q → q < W.heap.size → W'.heap[q]? = W.heap[q]?
theorem Qp.Ab.refl (B : Nat) (W : World) : Qp.Ab B W W := ⟨Nat.le_refl _, fun _ _ _ => rfl⟩
theorem Qp.Ab.trans {B : Nat} {W W1 W2 : World} (h : Qp.Ab B W W1) (h2 : Qp.Ab B W1 W2) : Qp.Ab B W W2 :=
  ⟨Nat.le_trans h.size h2.size, fun q h1 h3 => (h2.block q h1 (by have := h.size; omega)).trans (h.block q h1 h3)⟩
theorem Qp.Ab.of_below {B : Nat} {W W1 : World} (h : Below W.heap.size W W1) : Qp.Ab B W W1 := ⟨h.size, fun q _ h2 => h.block q h2⟩
theorem Qp.Ab.of_but {B bp : Nat} {W W1 : World} (h : Qk.But1 bp W.heap.size W W1) (hB : bp < B) : Qp.Ab B W W1 := ⟨h.size, fun q h1 h2 => h.block q h2 (by omega)⟩
theorem Qp.Ab.set {B b o : Nat} (W : World) (v : Value) (hB : b < B) : Qp.Ab B W (W.setCell ⟨b, o, none⟩ v) := ⟨by simp [World.setCell], fun q h1 h2 => Below.heap_setCell _ _ _ _ (by show q ≠ b; omega)⟩
/-- A query lies there, all of it from B on. -/
def Qp.RO (B : Nat) (W : World) (n : Nat) (e : Qk.E) (x : Qk.AT n) : Prop := ∀ W', Qp.Ab B W W' → Qk.RA W' n e x
theorem Qp.RO.ra {B : Nat} {W : World} {n : Nat} {e : Qk.E} {x : Qk.AT n} (h : Qp.RO B W n e x) : Qk.RA W n e x := h W (Qp.Ab.refl _ _)
theorem Qp.RO.ab {B : Nat} {W W1 : World} {n : Nat} {e : Qk.E} {x : Qk.AT n} (h : Qp.RO B W n e x) (ha : Qp.Ab B W W1) : Qp.RO B W1 n e x := fun W' h' => h W' (ha.trans h')
theorem Qp.RO.mono {B B' : Nat} {W : World} {n : Nat} {e : Qk.E} {x : Qk.AT n} (h : Qp.RO B W n e x) (hB : B' ≤ B) : Qp.RO B' W n e x := fun W' h' => h W' ⟨h'.size, fun q h1 h2 => h'.block q (by omega) h2⟩
theorem Qk.Lies.kept {W W' : World} {g o : Nat} {c : Qk.E} (h : Qk.Lies W g o c) (hb : W'.heap[g]? = W.heap[g]?) : Qk.Lies W' g o c := by
  have hc : ∀ j, W'.cell? ⟨g, j, none⟩ = W.cell? ⟨g, j, none⟩ := fun j => World.cell?_of_block (a := ⟨g, j, none⟩) hb
  exact ⟨by rw [hc]; exact h.c0, by rw [hc]; exact h.c1, by rw [hc]; exact h.c2⟩
theorem Qk.Lies.lt {W : World} {g o : Nat} {c : Qk.E} (h : Qk.Lies W g o c) : g < W.heap.size := World.block_lt_of_cell? W _ h.c0
theorem Qk.Lies.but {W W' : World} {g o bp : Nat} {c : Qk.E} (h : Qk.Lies W g o c) (hb : Qk.But1 bp W.heap.size W W') (hne : g ≠ bp) : Qk.Lies W' g o c := h.kept (hb.block g h.lt hne)
theorem Qk.Lies.bel {W W' : World} {g o : Nat} {c : Qk.E} (h : Qk.Lies W g o c) (hb : Below W.heap.size W W') : Qk.Lies W' g o c := h.kept (hb.block g h.lt)
theorem Qp.RO.leaf (B : Nat) (W : World) (n : Nat) (k m : Int) (a : Option Addr) (c : Nat) : Qp.RO B W (n + 1) ⟨k, m, ⟨a, 0, c⟩⟩ ((k, m), []) :=
  fun W' _ => ⟨⟨rfl, rfl⟩, rfl, Nat.zero_le _, fun i y hy => absurd hy (by show ([] : List (Qk.AT n))[i]? ≠ _; simp)⟩
theorem Qp.RO.one {B : Nat} {W : World} {n g : Nat} {k m : Int} {e : Qk.E} {x : Qk.AT n} (hL : Qk.Lies W g 0 e) (hg : B ≤ g) (h : Qp.RO B W n e x) : Qp.RO B W (n + 1) ⟨k, m, ⟨some ⟨g, 0, none⟩, 1, 1⟩⟩ ((k, m), [x]) := by
  intro W' ha
  refine ⟨⟨rfl, rfl⟩, rfl, (by decide : (1 : Nat) ≤ 9223372036854775807), fun i y hy => ?_⟩
  match i, hy with
  | 0, hy =>
    cases hy
    exact ⟨g, 0, e, rfl, Nat.lt_of_lt_of_le hL.lt ha.size, hL.kept (ha.block g hg hL.lt), h W' ha⟩
  | i + 1, hy => exact absurd hy (by show ([] : List (Qk.AT n))[i]? ≠ _; simp)
theorem Qp.RO.two {B : Nat} {W : World} {n g : Nat} {k m : Int} {e d : Qk.E} {x y : Qk.AT n} (hL : Qk.Lies W g 0 e) (hL2 : Qk.Lies W g 3 d) (hg : B ≤ g) (h : Qp.RO B W n e x) (h2 : Qp.RO B W n d y) : Qp.RO B W (n + 1) ⟨k, m, ⟨some ⟨g, 0, none⟩, 2, 2⟩⟩ ((k, m), [x, y]) := by
  intro W' ha
  refine ⟨⟨rfl, rfl⟩, rfl, (by decide : (2 : Nat) ≤ 9223372036854775807), fun i z hz => ?_⟩
  match i, hz with
  | 0, hz =>
    cases hz
    exact ⟨g, 0, e, rfl, Nat.lt_of_lt_of_le hL.lt ha.size, hL.kept (ha.block g hg hL.lt), h W' ha⟩
  | 1, hz =>
    cases hz
    exact ⟨g, 0, d, rfl, Nat.lt_of_lt_of_le hL.lt ha.size, hL2.kept (ha.block g hg hL.lt), h2 W' ha⟩
  | i + 2, hz => exact absurd hz (by show ([] : List (Qk.AT n))[i]? ≠ _; simp)

/-- What a method that reads a query leaves. -/
def Qp.OutQ (bp : Nat) (ta : Option Addr) (l : List Qp.T) (c : Nat) (e : Int) (w : World) {d : Nat} (o : Except Nat (Qk.AT d × Nat)) (r : Ending) (w' : World) : Prop :=
  match o with
  | .error j => r = .panicked (Qp.gave (Qp.pl l e j)) ∧ Qk.But1 bp w.heap.size w w'
  | .ok (x, j) => (∃ E : Qk.E, r = .returned (.agg #[.int .i64 E.k, .int .i64 E.n, .slice E.args.ad E.args.len E.args.cap]) ∧ Qp.RO w.heap.size w' d E x) ∧ Qp.P w' bp ta l.length c (j : Nat) e ∧ Qk.But1 bp w.heap.size w w'
theorem Qp.three_rk {W : World} : Dk.RK (W.alloc (Obj.cells #[.string ⟨#[97, 110, 100]⟩, .string ⟨#[111, 114]⟩, .string ⟨#[115, 105, 110, 99, 101]⟩] 9)) (some ⟨W.heap.size, 0, none⟩) Qp.words2 :=
  ⟨fun i t hi => by
    match i, hi with
    | 0, hi => cases hi; exact ⟨W.heap.size, 0, rfl, by simp, by go_simp, by decide⟩
    | 1, hi => cases hi; exact ⟨W.heap.size, 0, rfl, by simp, by go_simp, by decide⟩
    | 2, hi => cases hi; exact ⟨W.heap.size, 0, rfl, by simp, by go_simp, by decide⟩
    | _ + 3, hi => simp [Qp.words2] at hi⟩
def Qp.wordsObj : Obj := Obj.cells #[.string ⟨#[115, 116, 101, 112]⟩, .string ⟨#[119, 114, 105, 116, 101]⟩, .string ⟨#[99, 97, 108, 108]⟩, .string ⟨#[112, 114, 105, 110, 116]⟩, .string ⟨#[108, 101, 115, 115]⟩, .string ⟨#[115, 97, 109, 101]⟩, .string ⟨#[110, 111, 116]⟩, .string ⟨#[112, 114, 101, 118]⟩, .string ⟨#[111, 110, 99, 101]⟩, .string ⟨#[97, 108, 108]⟩, .string ⟨#[115, 111, 111, 110]⟩] 9
theorem Qp.words_rk {W : World} : Dk.RK (W.alloc Qp.wordsObj) (some ⟨W.heap.size, 0, none⟩) Qp.words :=
  ⟨fun i t hi => by
    unfold Qp.wordsObj
    match i, hi with
    | 0, hi => cases hi; exact ⟨W.heap.size, 0, rfl, by simp, by go_simp, by decide⟩
    | 1, hi => cases hi; exact ⟨W.heap.size, 0, rfl, by simp, by go_simp, by decide⟩
    | 2, hi => cases hi; exact ⟨W.heap.size, 0, rfl, by simp, by go_simp, by decide⟩
    | 3, hi => cases hi; exact ⟨W.heap.size, 0, rfl, by simp, by go_simp, by decide⟩
    | 4, hi => cases hi; exact ⟨W.heap.size, 0, rfl, by simp, by go_simp, by decide⟩
    | 5, hi => cases hi; exact ⟨W.heap.size, 0, rfl, by simp, by go_simp, by decide⟩
    | 6, hi => cases hi; exact ⟨W.heap.size, 0, rfl, by simp, by go_simp, by decide⟩
    | 7, hi => cases hi; exact ⟨W.heap.size, 0, rfl, by simp, by go_simp, by decide⟩
    | 8, hi => cases hi; exact ⟨W.heap.size, 0, rfl, by simp, by go_simp, by decide⟩
    | 9, hi => cases hi; exact ⟨W.heap.size, 0, rfl, by simp, by go_simp, by decide⟩
    | 10, hi => cases hi; exact ⟨W.heap.size, 0, rfl, by simp, by go_simp, by decide⟩
    | _ + 11, hi => simp [Qp.words] at hi⟩
end Go.Proofs.YtfhlnelgnnkeoaaGreatDoor
namespace Go.Proofs.YtfhlnelgnnkeoaaGreatDoor
open Go.RowKit
set_option linter.unusedVariables false

theorem Qp.open0 : Qp.inW [⟨#[40]⟩] ⟨#[]⟩ = false := by simp only [Qp.inW, ByteArray.toList_eq]; decide
theorem Qp.close0 : Qp.inW [⟨#[41]⟩] ⟨#[]⟩ = false := by simp only [Qp.inW, ByteArray.toList_eq]; decide
theorem Qp.words0 : Qp.inW Qp.words ⟨#[]⟩ = false := by simp only [Qp.inW, ByteArray.toList_eq]; decide
theorem Qp.words20 : Qp.inW Qp.words2 ⟨#[]⟩ = false := by simp only [Qp.inW, ByteArray.toList_eq]; decide

/-- Three cells of a box written: what then stands, and what stays. -/
theorem Qp.ret3 {W : World} {b : Nat} (h : Qp.Z3 W b) (u0 u1 u2 : Value) :
    let S := ((W.setCell ⟨b, 0, none⟩ u0).setCell ⟨b, 1, none⟩ u1).setCell ⟨b, 2, none⟩ u2
    (S.cell? ⟨b, 0, none⟩ = some u0 ∧ S.cell? ⟨b, 1, none⟩ = some u1 ∧ S.cell? ⟨b, 2, none⟩ = some u2) ∧ S.heap.size = W.heap.size ∧ Below b W S ∧ (∀ B, b < B → Qp.Ab B W S) ∧ ∀ q, q ≠ b → S.heap[q]? = W.heap[q]? := by
  obtain ⟨a0, h0⟩ := h.c0
  obtain ⟨a1, h1⟩ := h.c1
  obtain ⟨a2, h2⟩ := h.c2
  have hk : ∀ q, q ≠ b → (((W.setCell ⟨b, 0, none⟩ u0).setCell ⟨b, 1, none⟩ u1).setCell ⟨b, 2, none⟩ u2).heap[q]? = W.heap[q]? := fun q hq => ((Below.heap_setCell _ _ _ _ hq).trans (Below.heap_setCell _ _ _ _ hq)).trans (Below.heap_setCell _ _ _ _ hq)
  have hs : (((W.setCell ⟨b, 0, none⟩ u0).setCell ⟨b, 1, none⟩ u1).setCell ⟨b, 2, none⟩ u2).heap.size = W.heap.size := by simp [World.setCell]
  refine ⟨Qp.set3 h0 h1 h2 u0 u1 u2, hs, ?_, fun B hB => ⟨by rw [hs]; omega, fun q h1 _ => hk q (by omega)⟩, hk⟩
  exact (((Below.refl b W).setCell (p := ⟨b, 0, none⟩) (Nat.le_refl _) u0).setCell (p := ⟨b, 1, none⟩) (Nat.le_refl _) u1).setCell (p := ⟨b, 2, none⟩) (Nat.le_refl _) u2

/-- take, of one word that is laid for it. -/
theorem take1_yes (l : List Qp.T) (s : ByteArray) (ta : Option Addr) (c bp i : Nat) (e : Int) (W : World) (hp : Qp.P W bp ta l.length c (i : Nat) e) (hr : Qp.RT W ta l) (hf : l.length ≤ 10000) (hs : s.size ≤ maxLen) (h0 : Qp.inW [s] ⟨#[]⟩ = false) (hin : Qp.inW [s] (Qp.tk l i).t = true) :
    Calls Tryz.prog 60 #[.pointer (some ⟨bp, 0, none⟩), .slice (some ⟨W.heap.size, 0, none⟩) 1 1] (W.alloc (Obj.cells #[.string s] 9)) fun r w' => (∃ t, r = .returned (.string t)) ∧ Qp.P w' bp ta l.length c ((i + 1 : Nat) : Int) e ∧ Qk.But1 bp W.heap.size W w' := by
  have hbA := (Below.refl W.heap.size W).alloc (Nat.le_refl _) (Obj.cells #[.string s] 9)
  exact (take_yes l [s] (some ⟨W.heap.size, 0, none⟩) ta c bp i 1 e _ (hp.below hbA) (hr.below hbA) (Qp.one_rk s hs) (show 1 ≤ 100 by decide) hf h0 hin).mono fun r w' ⟨k1, k2, k3⟩ => ⟨⟨_, k1⟩, k2, ((Qk.But1.refl bp W.heap.size W).below hbA).trans k3 hbA.size⟩
theorem take1_no (l : List Qp.T) (s : ByteArray) (ta : Option Addr) (c bp i : Nat) (e : Int) (W : World) (hp : Qp.P W bp ta l.length c (i : Nat) e) (hr : Qp.RT W ta l) (hf : l.length ≤ 10000) (hs : s.size ≤ maxLen) (hin : Qp.inW [s] (Qp.tk l i).t = false) :
    Calls Tryz.prog 60 #[.pointer (some ⟨bp, 0, none⟩), .slice (some ⟨W.heap.size, 0, none⟩) 1 1] (W.alloc (Obj.cells #[.string s] 9)) fun r w' => r = .panicked (Qp.gave (Qp.pl l e i)) ∧ Qk.But1 bp W.heap.size W w' := by
  have hbA := (Below.refl W.heap.size W).alloc (Nat.le_refl _) (Obj.cells #[.string s] 9)
  exact (take_no l [s] (some ⟨W.heap.size, 0, none⟩) ta c bp i 1 e _ (hp.below hbA) (hr.below hbA) (Qp.one_rk s hs) (show 1 ≤ 100 by decide) hf hin).mono fun r w' ⟨k1, k2⟩ => ⟨k1, (Qk.But1.refl bp W.heap.size W).below (below_two k2)⟩
theorem take3_yes (l : List Qp.T) (ta : Option Addr) (c bp i : Nat) (e : Int) (W : World) (hp : Qp.P W bp ta l.length c (i : Nat) e) (hr : Qp.RT W ta l) (hf : l.length ≤ 10000) (k : Nat) (hk : Qp.find Qp.twos (Qp.tk l i).t = some k) :
    Calls Tryz.prog 60 #[.pointer (some ⟨bp, 0, none⟩), .slice (some ⟨W.heap.size, 0, none⟩) 3 3] (W.alloc (Obj.cells #[.string ⟨#[97, 110, 100]⟩, .string ⟨#[111, 114]⟩, .string ⟨#[115, 105, 110, 99, 101]⟩] 9)) fun r w' => r = .returned (.string (Qk.word ((k : Nat) : Int))) ∧ Qp.P w' bp ta l.length c ((i + 1 : Nat) : Int) e ∧ Qk.But1 bp W.heap.size W w' := by
  have hbA := (Below.refl W.heap.size W).alloc (Nat.le_refl _) (Obj.cells #[.string ⟨#[97, 110, 100]⟩, .string ⟨#[111, 114]⟩, .string ⟨#[115, 105, 110, 99, 101]⟩] 9)
  have hin : Qp.inW Qp.words2 (Qp.tk l i).t = true := by rw [Qp.find_twos, hk]; rfl
  have := take_yes l Qp.words2 (some ⟨W.heap.size, 0, none⟩) ta c bp i 3 e _ (hp.below hbA) (hr.below hbA) Qp.three_rk (show 3 ≤ 100 by decide) hf Qp.words20 hin
  rw [(Qp.find_some hk).1] at this
  exact this.mono fun r w' ⟨k1, k2, k3⟩ => ⟨k1, k2, ((Qk.But1.refl bp W.heap.size W).below hbA).trans k3 hbA.size⟩
theorem take3_no (l : List Qp.T) (ta : Option Addr) (c bp i : Nat) (e : Int) (W : World) (hp : Qp.P W bp ta l.length c (i : Nat) e) (hr : Qp.RT W ta l) (hf : l.length ≤ 10000) (hk : Qp.find Qp.twos (Qp.tk l i).t = none) :
    Calls Tryz.prog 60 #[.pointer (some ⟨bp, 0, none⟩), .slice (some ⟨W.heap.size, 0, none⟩) 3 3] (W.alloc (Obj.cells #[.string ⟨#[97, 110, 100]⟩, .string ⟨#[111, 114]⟩, .string ⟨#[115, 105, 110, 99, 101]⟩] 9)) fun r w' => r = .panicked (Qp.gave (Qp.pl l e i)) ∧ Qk.But1 bp W.heap.size W w' := by
  have hbA := (Below.refl W.heap.size W).alloc (Nat.le_refl _) (Obj.cells #[.string ⟨#[97, 110, 100]⟩, .string ⟨#[111, 114]⟩, .string ⟨#[115, 105, 110, 99, 101]⟩] 9)
  have hin : Qp.inW Qp.words2 (Qp.tk l i).t = false := by rw [Qp.find_twos, hk]; rfl
  exact (take_no l Qp.words2 (some ⟨W.heap.size, 0, none⟩) ta c bp i 3 e _ (hp.below hbA) (hr.below hbA) Qp.three_rk (show 3 ≤ 100 by decide) hf hin).mono fun r w' ⟨k1, k2⟩ => ⟨k1, (Qk.But1.refl bp W.heap.size W).below (below_two k2)⟩

set_option maxRecDepth 100000 in
set_option maxHeartbeats 3200000 in
theorem pair_any (l : List Qp.T) (ta : Option Addr) (c bp i a d : Nat) (e : Int) (w : World) (hp : Qp.P w bp ta l.length c (i : Nat) e) (hr : Qp.RT w ta l) (hne : ∀ b o, ta = some ⟨b, o, none⟩ → b ≠ bp) (hf : l.length ≤ 10000) (ha : a ≤ 60) (hin : Qp.inW [⟨#[40]⟩] (Qp.tk l i).t = true)
    (rec : Nat → Except Nat (Qk.AT d × Nat))
    (HQ : ∀ (k : Nat) (W : World), Qp.P W bp ta l.length c (k : Nat) e → Qp.RT W ta l → Calls Tryz.prog 44 #[.pointer (some ⟨bp, 0, none⟩), .int .i64 ((a : Int) + 1)] W (Qp.OutQ bp ta l c e W (rec k))) :
    Calls Tryz.prog 58 #[.pointer (some ⟨bp, 0, none⟩), .int .i64 (a : Nat)] w (Qp.OutQ bp ta l c e w (Qp.pairF l rec i)) := by
  have H1 := hide (fun (W : World) (h1 : Qp.P W bp ta l.length c (i : Nat) e) (h2 : Qp.RT W ta l) => take1_yes l ⟨#[40]⟩ ta c bp i e W h1 h2 hf (by unfold maxLen; decide) Qp.open0 hin)
  have HR := hide (fun (W : World) (hb : Qk.But1 bp w.heap.size w W) => hr.but hne hb)
  have HQH := hide HQ
  have HP := hide hp
  have hblt := hp.lt
  obtain ⟨o, ho⟩ : ∃ o, Qp.pairF l rec i = o := ⟨_, rfl⟩
  rw [ho]
  have HO := hide ho
  have HK := hide (fun (k : Nat) (h1 : 1 ≤ k) (h2 : k ≤ 14) (W : World) => show Calls Tryz.prog 59 #[.string (Qk.word ((k : Nat) : Int))] W fun r w' => r = .returned (.tuple #[.int .i64 (k : Nat), .agg #[.string (Qk.word ((k : Nat) : Int)), .int .i64 (Qk.argsI ((k : Nat) : Int)), .int .i64 (Qk.least ((k : Nat) : Int)), .int .i64 (Qk.most ((k : Nat) : Int))]]) ∧ Below W.heap.size W w' from kindOf_ok k h1 h2 W)
  clear HQ hp hr hin ho
  go_enter Tryz.func58, Tryz.ntmps58
  go_wp2_with fail
  have hbA := (Below.refl w.heap.size w).alloc (Nat.le_refl _) (Obj.cells #[.int .i64 0, .int .i64 0, .slice none 0 0] 24)
  have hsA : (w.alloc (Obj.cells #[.int .i64 0, .int .i64 0, .slice none 0 0] 24)).heap.size = w.heap.size + 1 := by simp
  have hzA : Qp.Z3 (w.alloc (Obj.cells #[.int .i64 0, .int .i64 0, .slice none 0 0] 24)) w.heap.size := ⟨⟨.int .i64 0, by go_simp⟩, ⟨.int .i64 0, by go_simp⟩, ⟨.slice none 0 0, by go_simp⟩, fun i => by go_simp⟩
  have HBA := hide hbA
  have HZA := hide hzA
  clear hbA hzA
  generalize (w.alloc (Obj.cells #[.int .i64 0, .int .i64 0, .slice none 0 0] 24)) = WA at *
  have HBUA := hide ((Qk.But1.refl bp w.heap.size w).below (unhide HBA))
  have hc1 := (unhide H1) WA ((unhide HP).below (unhide HBA)) ((unhide HR) _ (unhide HBUA))
  rw [hsA] at hc1
  refine hc1.mono ?_
  clear hc1
  rintro r w1 ⟨⟨t1, rfl⟩, hp1, hb1⟩
  have HP1 := hide hp1
  rw [← hsA] at hb1
  have HZ1 := hide ((unhide HZA).but hb1 (by omega))
  have HBU1 := hide ((unhide HBUA).trans hb1 (unhide HBUA).size)
  have hz1 := (unhide HZ1).lt
  clear hp1 hb1
  go_wp2_with fail
  refine ((unhide HQH) (i + 1) w1 (unhide HP1) ((unhide HR) _ (unhide HBU1))).mono ?_
  intro r w2 hq
  cases hd : rec (i + 1) with
  | error j =>
    rw [hd] at hq
    obtain ⟨rfl, hb2⟩ := hq
    have HBU2 := hide ((unhide HBU1).trans hb2 (unhide HBU1).size)
    obtain rfl : o = .error j := by rw [← unhide HO]; unfold Qp.pairF; rw [hd]
    clear hb2
    go_wp2_with fail
    exact ⟨rfl, rfl, unhide HBU2⟩
  | ok p =>
    obtain ⟨x, j⟩ := p
    rw [hd] at hq
    obtain ⟨⟨E1, rfl, hro1⟩, hp2, hb2⟩ := hq
    have HZ2 := hide ((unhide HZ1).but hb2 (by omega))
    have HBU2 := hide ((unhide HBU1).trans hb2 (unhide HBU1).size)
    have HP2 := hide hp2
    have HRO2 := hide (hro1.mono (show w.heap.size + 1 ≤ w1.heap.size by omega))
    have hz2 := (unhide HZ2).lt
    have hs12 := hb2.size
    clear hb2 hp2 hro1
    go_wp2_with fail
    have hbB := (Below.refl w2.heap.size w2).alloc (Nat.le_refl _) (Obj.cells #[.int .i64 E1.k, .int .i64 E1.n, .slice E1.args.ad E1.args.len E1.args.cap] 24)
    have hsB : (w2.alloc (Obj.cells #[.int .i64 E1.k, .int .i64 E1.n, .slice E1.args.ad E1.args.len E1.args.cap] 24)).heap.size = w2.heap.size + 1 := by simp
    have HLB := hide (show Qk.Lies (w2.alloc (Obj.cells #[.int .i64 E1.k, .int .i64 E1.n, .slice E1.args.ad E1.args.len E1.args.cap] 24)) w2.heap.size 0 E1 from ⟨by go_simp, by go_simp, by go_simp⟩)
    have HZB := hide ((unhide HZ2).later hbB)
    have HBUB := hide ((unhide HBU2).below (hbB.mono (unhide HBU2).size))
    have HPB := hide ((unhide HP2).below hbB)
    have HROB := hide ((unhide HRO2).ab (Qp.Ab.of_below hbB))
    clear hbB
    generalize (w2.alloc (Obj.cells #[.int .i64 E1.k, .int .i64 E1.n, .slice E1.args.ad E1.args.len E1.args.cap] 24)) = WB at *
    cases hk : Qp.find Qp.twos (Qp.tk l j).t with
    | none =>
      have hc3 := take3_no l ta c bp j e WB (unhide HPB) ((unhide HR) _ (unhide HBUB)) hf hk
      rw [hsB] at hc3
      refine hc3.mono ?_
      clear hc3
      rintro r w3 ⟨rfl, hb3⟩
      rw [← hsB] at hb3
      have HBU3 := hide ((unhide HBUB).trans hb3 (unhide HBUB).size)
      obtain rfl : o = .error j := by rw [← unhide HO]; unfold Qp.pairF; rw [hd]; show (match Qp.find Qp.twos (Qp.tk l j).t with | none => _ | some k => _) = _; rw [hk]
      clear hb3
      go_wp2_with fail
      exact ⟨rfl, rfl, unhide HBU3⟩
    | some k =>
      obtain ⟨hk1, hk2⟩ : 1 ≤ k ∧ k ≤ 14 := by
        have := (Qp.find_some hk).2
        simp [Qp.twos] at this
        omega
      have hc3 := take3_yes l ta c bp j e WB (unhide HPB) ((unhide HR) _ (unhide HBUB)) hf k hk
      rw [hsB] at hc3
      refine hc3.mono ?_
      clear hc3
      rintro r w3 ⟨rfl, hp3, hb3⟩
      rw [← hsB] at hb3
      have HP3 := hide hp3
      have HBU3 := hide ((unhide HBUB).trans hb3 (unhide HBUB).size)
      have HZ3 := hide ((unhide HZB).but hb3 (by omega))
      have HL3 := hide ((unhide HLB).but hb3 (by omega))
      have HRO3 := hide ((unhide HROB).ab (Qp.Ab.of_but hb3 (by omega)))
      have hs23 := hb3.size
      clear hb3 hp3
      go_wp2_with fail
      refine ((unhide HK) k hk1 hk2 _).mono ?_
      rintro r w4 ⟨rfl, hb4⟩
      have HP4 := hide ((unhide HP3).below hb4)
      have HBU4 := hide ((unhide HBU3).below (hb4.mono (unhide HBU3).size))
      have HZ4 := hide ((unhide HZ3).later hb4)
      have HL4 := hide ((unhide HL3).bel hb4)
      have HRO4 := hide ((unhide HRO3).ab (Qp.Ab.of_below hb4))
      have hs34 := hb4.size
      clear hb4
      go_wp2_with fail
      have hbC := (Below.refl w4.heap.size w4).alloc (Nat.le_refl _) (Obj.cells #[.string (Qk.word ((k : Nat) : Int)), .int .i64 (Qk.argsI ((k : Nat) : Int)), .int .i64 (Qk.least ((k : Nat) : Int)), .int .i64 (Qk.most ((k : Nat) : Int))] 63)
      have hsC : (w4.alloc (Obj.cells #[.string (Qk.word ((k : Nat) : Int)), .int .i64 (Qk.argsI ((k : Nat) : Int)), .int .i64 (Qk.least ((k : Nat) : Int)), .int .i64 (Qk.most ((k : Nat) : Int))] 63)).heap.size = w4.heap.size + 1 := by simp
      have HPC := hide ((unhide HP4).below hbC)
      have HBUC := hide ((unhide HBU4).below (hbC.mono (unhide HBU4).size))
      have HZC := hide ((unhide HZ4).later hbC)
      have HLC := hide ((unhide HL4).bel hbC)
      have HROC := hide ((unhide HRO4).ab (Qp.Ab.of_below hbC))
      clear hbC
      generalize (w4.alloc (Obj.cells #[.string (Qk.word ((k : Nat) : Int)), .int .i64 (Qk.argsI ((k : Nat) : Int)), .int .i64 (Qk.least ((k : Nat) : Int)), .int .i64 (Qk.most ((k : Nat) : Int))] 63)) = WC at *
      refine ((unhide HQH) (j + 1) WC (unhide HPC) ((unhide HR) _ (unhide HBUC))).mono ?_
      intro r w5 hq5
      cases hd5 : rec (j + 1) with
      | error j' =>
        rw [hd5] at hq5
        obtain ⟨rfl, hb5⟩ := hq5
        have HBU5 := hide ((unhide HBUC).trans hb5 (unhide HBUC).size)
        obtain rfl : o = .error j' := by rw [← unhide HO]; unfold Qp.pairF; rw [hd]; show (match Qp.find Qp.twos (Qp.tk l j).t with | none => _ | some k => _) = _; rw [hk]; show (match rec (j + 1) with | .error j' => _ | .ok (y, j') => _) = _; rw [hd5]
        clear hb5
        go_wp2_with fail
        exact ⟨rfl, rfl, unhide HBU5⟩
      | ok p5 =>
        obtain ⟨y, j'⟩ := p5
        rw [hd5] at hq5
        obtain ⟨⟨E2, rfl, hro5⟩, hp5, hb5⟩ := hq5
        have HZ5 := hide ((unhide HZC).but hb5 (by omega))
        have HL5 := hide ((unhide HLC).but hb5 (by omega))
        have HRO5 := hide (And.intro ((unhide HROC).ab (Qp.Ab.of_but hb5 (by omega))) (hro5.mono (show w.heap.size + 1 ≤ WC.heap.size by omega)))
        have HBU5 := hide ((unhide HBUC).trans hb5 (unhide HBUC).size)
        have HP5 := hide hp5
        have hs45 := hb5.size
        clear hb5 hp5 hro5
        go_wp2_with fail
        have hbD := (Below.refl w5.heap.size w5).alloc (Nat.le_refl _) (Obj.cells #[.int .i64 E2.k, .int .i64 E2.n, .slice E2.args.ad E2.args.len E2.args.cap] 24)
        have hsD : (w5.alloc (Obj.cells #[.int .i64 E2.k, .int .i64 E2.n, .slice E2.args.ad E2.args.len E2.args.cap] 24)).heap.size = w5.heap.size + 1 := by simp
        have HL2D := hide (show Qk.Lies (w5.alloc (Obj.cells #[.int .i64 E2.k, .int .i64 E2.n, .slice E2.args.ad E2.args.len E2.args.cap] 24)) w5.heap.size 0 E2 from ⟨by go_simp, by go_simp, by go_simp⟩)
        have HZD := hide ((unhide HZ5).later hbD)
        have HLD := hide ((unhide HL5).bel hbD)
        have HROD := hide (And.intro ((unhide HRO5).1.ab (Qp.Ab.of_below hbD)) ((unhide HRO5).2.ab (Qp.Ab.of_below hbD)))
        have HBUD := hide ((unhide HBU5).below (hbD.mono (unhide HBU5).size))
        have HPD := hide ((unhide HP5).below hbD)
        clear hbD
        generalize (w5.alloc (Obj.cells #[.int .i64 E2.k, .int .i64 E2.n, .slice E2.args.ad E2.args.len E2.args.cap] 24)) = WD at *
        cases hcl : Qp.inW [⟨#[41]⟩] (Qp.tk l j').t with
        | false =>
          have hc6 := take1_no l ⟨#[41]⟩ ta c bp j' e WD (unhide HPD) ((unhide HR) _ (unhide HBUD)) hf (by unfold maxLen; decide) hcl
          rw [hsD] at hc6
          refine hc6.mono ?_
          clear hc6
          rintro r w6 ⟨rfl, hb6⟩
          rw [← hsD] at hb6
          have HBU6 := hide ((unhide HBUD).trans hb6 (unhide HBUD).size)
          obtain rfl : o = .error j' := by rw [← unhide HO]; unfold Qp.pairF; rw [hd]; show (match Qp.find Qp.twos (Qp.tk l j).t with | none => _ | some k => _) = _; rw [hk]; show (match rec (j + 1) with | .error j' => _ | .ok (y, j') => _) = _; rw [hd5]; show (if Qp.inW [⟨#[41]⟩] (Qp.tk l j').t = true then _ else _) = _; rw [hcl]; rfl
          clear hb6
          go_wp2_with fail
          exact ⟨rfl, rfl, unhide HBU6⟩
        | true =>
          have hc6 := take1_yes l ⟨#[41]⟩ ta c bp j' e WD (unhide HPD) ((unhide HR) _ (unhide HBUD)) hf (by unfold maxLen; decide) Qp.close0 hcl
          rw [hsD] at hc6
          refine hc6.mono ?_
          clear hc6
          rintro r w6 ⟨⟨t6, rfl⟩, hp6, hb6⟩
          rw [← hsD] at hb6
          have HBU6 := hide ((unhide HBUD).trans hb6 (unhide HBUD).size)
          have HP6 := hide hp6
          have HZ6 := hide ((unhide HZD).but hb6 (by omega))
          have HL6 := hide ((unhide HLD).but hb6 (by omega))
          have HM6 := hide ((unhide HL2D).but hb6 (by omega))
          have HRO6 := hide (And.intro ((unhide HROD).1.ab (Qp.Ab.of_but hb6 (by omega))) ((unhide HROD).2.ab (Qp.Ab.of_but hb6 (by omega))))
          obtain rfl : o = .ok (((((k : Nat) : Int), 0), [x, y]), j' + 1) := by rw [← unhide HO]; unfold Qp.pairF; rw [hd]; show (match Qp.find Qp.twos (Qp.tk l j).t with | none => _ | some k => _) = _; rw [hk]; show (match rec (j + 1) with | .error j' => _ | .ok (y, j') => _) = _; rw [hd5]; show (if Qp.inW [⟨#[41]⟩] (Qp.tk l j').t = true then _ else _) = _; rw [hcl]; rfl
          have hs56 := hb6.size
          clear hb6 hp6
          obtain ⟨p0, p1, p2⟩ := unhide HL6
          obtain ⟨q0, q1, q2⟩ := unhide HM6
          obtain ⟨v0, m0⟩ := (unhide HZ6).c0
          obtain ⟨v1, m1⟩ := (unhide HZ6).c1
          obtain ⟨v2, m2⟩ := (unhide HZ6).c2
          have z0 := (unhide HZ6).f 0
          have z1 := (unhide HZ6).f 1
          have z2 := (unhide HZ6).f 2
          have hz6 := (unhide HZ6).lt
          have HS := hide (Qp.ret3 (unhide HZ6) (.int .i64 ((k : Nat) : Int)) (.int .i64 0) (.slice (some ⟨w6.heap.size, 0, none⟩) 2 2))
          go_wp2_with fail
          obtain ⟨⟨s0, s1, s2⟩, hsS, hbS, haS, hkS⟩ := unhide HS
          generalize (((w6.setCell ⟨w.heap.size, 0, none⟩ (.int .i64 ((k : Nat) : Int))).setCell ⟨w.heap.size, 1, none⟩ (.int .i64 0)).setCell ⟨w.heap.size, 2, none⟩ (.slice (some ⟨w6.heap.size, 0, none⟩) 2 2)) = S at *
          rw [← hsS] at s2 ⊢
          have hbV := (Below.refl S.heap.size S).alloc (Nat.le_refl _) (Obj.cells #[.int .i64 E1.k, .int .i64 E1.n, .slice E1.args.ad E1.args.len E1.args.cap, .int .i64 E2.k, .int .i64 E2.n, .slice E2.args.ad E2.args.len E2.args.cap] 24)
          have s3 : w.heap.size < S.heap.size := by omega
          refine bodyPost_ret (v := .agg #[.int .i64 ((k : Nat) : Int), .int .i64 0, .slice (some ⟨S.heap.size, 0, none⟩) 2 2]) (by simp [results, Tryz.results58, go_sem, s0, s1, s2, s3]) rfl ?_
          have hL1 : Qk.Lies (S.alloc (Obj.cells #[.int .i64 E1.k, .int .i64 E1.n, .slice E1.args.ad E1.args.len E1.args.cap, .int .i64 E2.k, .int .i64 E2.n, .slice E2.args.ad E2.args.len E2.args.cap] 24)) S.heap.size 0 E1 := ⟨by go_simp, by go_simp, by go_simp⟩
          have hL2 : Qk.Lies (S.alloc (Obj.cells #[.int .i64 E1.k, .int .i64 E1.n, .slice E1.args.ad E1.args.len E1.args.cap, .int .i64 E2.k, .int .i64 E2.n, .slice E2.args.ad E2.args.len E2.args.cap] 24)) S.heap.size 3 E2 := ⟨by go_simp, by go_simp, by go_simp⟩
          have hr1 := ((unhide HRO6).1.ab (haS _ (by omega))).ab (Qp.Ab.of_below hbV)
          have hr2 := ((unhide HRO6).2.ab (haS _ (by omega))).ab (Qp.Ab.of_below hbV)
          refine ⟨⟨⟨_, 0, ⟨some ⟨S.heap.size, 0, none⟩, 2, 2⟩⟩, rfl, (Qp.RO.two hL1 hL2 (by omega) hr1 hr2).mono (by omega)⟩, ?_, ?_⟩
          · exact ((unhide HP6).kept (hkS bp (by omega))).below hbV
          · exact ((unhide HBU6).below hbS).below (hbV.mono (by omega))
end Go.Proofs.YtfhlnelgnnkeoaaGreatDoor
namespace Go.Proofs.YtfhlnelgnnkeoaaGreatDoor
open Go.RowKit
set_option linter.unusedVariables false

theorem sees1_any (l : List Qp.T) (s : ByteArray) (ta : Option Addr) (c bp i : Nat) (e : Int) (W : World) (hp : Qp.P W bp ta l.length c (i : Nat) e) (hr : Qp.RT W ta l) (hf : l.length ≤ 10000) (hs : s.size ≤ maxLen) (x : Bool) (hx : Qp.inW [s] (Qp.tk l i).t = x) :
    Calls Tryz.prog 57 #[.pointer (some ⟨bp, 0, none⟩), .slice (some ⟨W.heap.size, 0, none⟩) 1 1] (W.alloc (Obj.cells #[.string s] 9)) fun r w' => r = .returned (.bool x) ∧ Below W.heap.size W w' := by
  have hbA := (Below.refl W.heap.size W).alloc (Nat.le_refl _) (Obj.cells #[.string s] 9)
  have := sees_any l [s] (some ⟨W.heap.size, 0, none⟩) ta c bp i 1 e _ (hp.below hbA) (hr.below hbA) (Qp.one_rk s hs) (show 1 ≤ 100 by decide) hf
  rw [hx] at this
  exact this.mono fun r w' ⟨k1, k2⟩ => ⟨k1, below_two k2⟩
theorem take11_yes (l : List Qp.T) (ta : Option Addr) (c bp i : Nat) (e : Int) (W : World) (hp : Qp.P W bp ta l.length c (i : Nat) e) (hr : Qp.RT W ta l) (hf : l.length ≤ 10000) (k : Nat) (hk : Qp.find Qp.ones (Qp.tk l i).t = some k) :
    Calls Tryz.prog 60 #[.pointer (some ⟨bp, 0, none⟩), .slice (some ⟨W.heap.size, 0, none⟩) 11 11] (W.alloc Qp.wordsObj) fun r w' => r = .returned (.string (Qk.word ((k : Nat) : Int))) ∧ Qp.P w' bp ta l.length c ((i + 1 : Nat) : Int) e ∧ Qk.But1 bp W.heap.size W w' := by
  have hbA := (Below.refl W.heap.size W).alloc (Nat.le_refl _) Qp.wordsObj
  have hin : Qp.inW Qp.words (Qp.tk l i).t = true := by rw [Qp.find_ones, hk]; rfl
  have := take_yes l Qp.words (some ⟨W.heap.size, 0, none⟩) ta c bp i 11 e _ (hp.below hbA) (hr.below hbA) Qp.words_rk (show 11 ≤ 100 by decide) hf Qp.words0 hin
  rw [(Qp.find_some hk).1] at this
  exact this.mono fun r w' ⟨k1, k2, k3⟩ => ⟨k1, k2, ((Qk.But1.refl bp W.heap.size W).below hbA).trans k3 hbA.size⟩
theorem take11_no (l : List Qp.T) (ta : Option Addr) (c bp i : Nat) (e : Int) (W : World) (hp : Qp.P W bp ta l.length c (i : Nat) e) (hr : Qp.RT W ta l) (hf : l.length ≤ 10000) (hk : Qp.find Qp.ones (Qp.tk l i).t = none) :
    Calls Tryz.prog 60 #[.pointer (some ⟨bp, 0, none⟩), .slice (some ⟨W.heap.size, 0, none⟩) 11 11] (W.alloc Qp.wordsObj) fun r w' => r = .panicked (Qp.gave (Qp.pl l e i)) ∧ Qk.But1 bp W.heap.size W w' := by
  have hbA := (Below.refl W.heap.size W).alloc (Nat.le_refl _) Qp.wordsObj
  have hin : Qp.inW Qp.words (Qp.tk l i).t = false := by rw [Qp.find_ones, hk]; rfl
  exact (take_no l Qp.words (some ⟨W.heap.size, 0, none⟩) ta c bp i 11 e _ (hp.below hbA) (hr.below hbA) Qp.words_rk (show 11 ≤ 100 by decide) hf hin).mono fun r w' ⟨k1, k2⟩ => ⟨k1, (Qk.But1.refl bp W.heap.size W).below (below_two k2)⟩
theorem Qp.lies_new (S : World) (E : Qk.E) : Qk.Lies (S.alloc (Obj.cells #[.int .i64 E.k, .int .i64 E.n, .slice E.args.ad E.args.len E.args.cap] 24)) S.heap.size 0 E := ⟨by go_simp, by go_simp, by go_simp⟩
theorem Qp.Z3.set {W : World} {b : Nat} (h : Qp.Z3 W b) (o : Nat) (v : Value) : Qp.Z3 (W.setCell ⟨b, o, none⟩ v) b := by
  have hc : ∀ j, (∃ u, W.cell? ⟨b, j, none⟩ = some u) → ∃ u, (W.setCell ⟨b, o, none⟩ v).cell? ⟨b, j, none⟩ = some u := fun j ⟨u, hu⟩ => by
    by_cases hj : j = o
    · subst hj; exact ⟨v, World.cell?_setCell_same _ _ _ hu⟩
    · exact ⟨u, (World.cell?_setCell_other _ _ _ _ (by intro hh; have := congrArg Addr.off hh; simp at this; omega)).trans hu⟩
  exact ⟨hc 0 h.c0, hc 1 h.c1, hc 2 h.c2, fun i => by rw [World.frozen?_setCell]; exact h.f i⟩
theorem Qk.Lies.set1 {W : World} {g : Nat} {k n : Int} {s : Qk.Sl} (h : Qk.Lies W g 0 ⟨k, n, s⟩) (m : Int) : Qk.Lies (W.setCell ⟨g, 1, none⟩ (.int .i64 m)) g 0 ⟨k, m, s⟩ :=
  ⟨(World.cell?_setCell_other _ _ _ _ (by intro hh; have := congrArg Addr.off hh; simp at this)).trans h.c0, World.cell?_setCell_same _ _ _ h.c1, (World.cell?_setCell_other _ _ _ _ (by intro hh; have := congrArg Addr.off hh; simp at this)).trans h.c2⟩
theorem Qk.Lies.set2 {W : World} {g : Nat} {k n : Int} {s : Qk.Sl} (h : Qk.Lies W g 0 ⟨k, n, s⟩) (a : Option Addr) (x y : Nat) : Qk.Lies (W.setCell ⟨g, 2, none⟩ (.slice a x y)) g 0 ⟨k, n, ⟨a, x, y⟩⟩ :=
  ⟨(World.cell?_setCell_other _ _ _ _ (by intro hh; have := congrArg Addr.off hh; simp at this)).trans h.c0, (World.cell?_setCell_other _ _ _ _ (by intro hh; have := congrArg Addr.off hh; simp at this)).trans h.c1, World.cell?_setCell_same _ _ _ h.c2⟩
theorem Qp.set_below {W : World} {b o : Nat} (v : Value) {B : Nat} (hB : B ≤ b) : Below B W (W.setCell ⟨b, o, none⟩ v) := (Below.refl B W).setCell (p := ⟨b, o, none⟩) hB v

set_option maxRecDepth 100000 in
set_option maxHeartbeats 800000 in
theorem query_deep (l : List Qp.T) (ta : Option Addr) (c bp i : Nat) (e : Int) (w : World) (hp : Qp.P w bp ta l.length c (i : Nat) e) (hr : Qp.RT w ta l) (hf : l.length ≤ 10000) :
    Calls Tryz.prog 44 #[.pointer (some ⟨bp, 0, none⟩), .int .i64 61] w fun r w' => r = .panicked (Qp.gave (Qp.pl l e i)) ∧ Qk.But1 bp w.heap.size w w' := by
  have hbA := (Below.refl w.heap.size w).alloc (Nat.le_refl _) (Obj.cells #[.int .i64 0, .int .i64 0, .slice none 0 0] 24)
  have HG := hide (giveUp_yes l ta c bp i e _ (hp.below hbA) (hr.below hbA) hf)
  clear hp hr
  go_enter Tryz.func44, Tryz.ntmps44
  go_wp2_with fail
  refine (unhide HG).mono ?_
  rintro r w1 ⟨rfl, hb1⟩
  have HB1 := hide ((Qk.But1.refl bp w.heap.size w).below (below_two hb1))
  clear hb1 hbA
  go_wp2_with fail
  exact ⟨rfl, rfl, unhide HB1⟩

set_option maxRecDepth 100000 in
set_option maxHeartbeats 1600000 in
theorem query_open (l : List Qp.T) (ta : Option Addr) (c bp i a d : Nat) (e : Int) (w : World) (hp : Qp.P w bp ta l.length c (i : Nat) e) (hr : Qp.RT w ta l) (hne : ∀ b o, ta = some ⟨b, o, none⟩ → b ≠ bp) (hf : l.length ≤ 10000) (ha : a < 60) (hin : Qp.inW [⟨#[40]⟩] (Qp.tk l i).t = true)
    (rec : Nat → Except Nat (Qk.AT d × Nat))
    (HQ : ∀ (k : Nat) (W : World), Qp.P W bp ta l.length c (k : Nat) e → Qp.RT W ta l → Calls Tryz.prog 44 #[.pointer (some ⟨bp, 0, none⟩), .int .i64 ((a : Int) + 1)] W (Qp.OutQ bp ta l c e W (rec k))) :
    Calls Tryz.prog 44 #[.pointer (some ⟨bp, 0, none⟩), .int .i64 (a : Nat)] w (Qp.OutQ bp ta l c e w (Qp.pairF l rec i)) := by
  have HS := hide (fun (W : World) (h1 : Qp.P W bp ta l.length c (i : Nat) e) (h2 : Qp.RT W ta l) => sees1_any l ⟨#[40]⟩ ta c bp i e W h1 h2 hf (by unfold maxLen; decide) true hin)
  have HPR := hide (fun (W : World) (h1 : Qp.P W bp ta l.length c (i : Nat) e) (h2 : Qp.RT W ta l) => pair_any l ta c bp i a d e W h1 h2 hne hf (by omega) hin rec HQ)
  have HR := hide (fun (W : World) (hb : Qk.But1 bp w.heap.size w W) => hr.but hne hb)
  have HP := hide hp
  have hblt := hp.lt
  have hq : ¬ (60 : Int) < (a : Int) := by omega
  have hq2 : ((a : Int) == 60) = false := by simp; omega
  clear HQ hp hr hin
  generalize Qp.pairF l rec i = o at *
  go_enter Tryz.func44, Tryz.ntmps44
  go_wp2_with fail
  have hbA := (Below.refl w.heap.size w).alloc (Nat.le_refl _) (Obj.cells #[.int .i64 0, .int .i64 0, .slice none 0 0] 24)
  have hsA : (w.alloc (Obj.cells #[.int .i64 0, .int .i64 0, .slice none 0 0] 24)).heap.size = w.heap.size + 1 := by simp
  have hzA : Qp.Z3 (w.alloc (Obj.cells #[.int .i64 0, .int .i64 0, .slice none 0 0] 24)) w.heap.size := ⟨⟨.int .i64 0, by go_simp⟩, ⟨.int .i64 0, by go_simp⟩, ⟨.slice none 0 0, by go_simp⟩, fun i => by go_simp⟩
  have HBA := hide hbA
  have HZA := hide hzA
  clear hbA hzA
  generalize (w.alloc (Obj.cells #[.int .i64 0, .int .i64 0, .slice none 0 0] 24)) = WA at *
  have HBUA := hide ((Qk.But1.refl bp w.heap.size w).below (unhide HBA))
  refine (giveUp_no _ _).mono ?_
  rintro r w1 ⟨rfl, hw1⟩
  obtain rfl : WA = w1 := hw1.symm
  go_wp2_with fail
  have hc2 := (unhide HS) WA ((unhide HP).below (unhide HBA)) ((unhide HR) _ (unhide HBUA))
  rw [hsA] at hc2
  refine hc2.mono ?_
  clear hc2
  rintro r w2 ⟨rfl, hb2⟩
  rw [← hsA] at hb2
  have HP2 := hide (((unhide HP).below (unhide HBA)).below hb2)
  have HZ2 := hide ((unhide HZA).later hb2)
  have HBU2 := hide ((unhide HBUA).below (hb2.mono (unhide HBUA).size))
  have hs2 := hb2.size
  clear hb2
  go_wp2_with fail
  refine (giveUp_no _ _).mono ?_
  rintro r w3 ⟨rfl, hw3⟩
  obtain rfl : w2 = w3 := hw3.symm
  go_wp2_with fail
  refine ((unhide HPR) w2 (unhide HP2) ((unhide HR) _ (unhide HBU2))).mono ?_
  intro r w4 hq4
  cases o with
  | error j =>
    obtain ⟨rfl, hb4⟩ := hq4
    have HBU4 := hide ((unhide HBU2).trans hb4 (unhide HBU2).size)
    clear hb4
    go_wp2_with fail
    exact ⟨rfl, rfl, unhide HBU4⟩
  | ok p =>
    obtain ⟨x, j⟩ := p
    obtain ⟨⟨E, rfl, hro⟩, hp4, hb4⟩ := hq4
    have HZ4 := hide ((unhide HZ2).but hb4 (by omega))
    have HBU4 := hide ((unhide HBU2).trans hb4 (unhide HBU2).size)
    have HP4 := hide hp4
    have HRO4 := hide (hro.mono (show w.heap.size + 1 ≤ w2.heap.size by omega))
    clear hb4 hp4 hro
    have HS4 := hide (Qp.ret3 (unhide HZ4) (.int .i64 E.k) (.int .i64 E.n) (.slice E.args.ad E.args.len E.args.cap))
    obtain ⟨v0, m0⟩ := (unhide HZ4).c0
    obtain ⟨v1, m1⟩ := (unhide HZ4).c1
    obtain ⟨v2, m2⟩ := (unhide HZ4).c2
    have z0 := (unhide HZ4).f 0
    have z1 := (unhide HZ4).f 1
    have z2 := (unhide HZ4).f 2
    go_wp2_with fail
    obtain ⟨⟨s0, s1, s2⟩, hsS, hbS, haS, hkS⟩ := unhide HS4
    refine bodyPost_ret (v := .agg #[.int .i64 E.k, .int .i64 E.n, .slice E.args.ad E.args.len E.args.cap]) (by simp [results, Tryz.results44, go_sem, s0, s1, s2]) rfl ?_
    refine ⟨⟨E, rfl, ((unhide HRO4).ab (haS _ (by omega))).mono (by omega)⟩, ?_, ?_⟩
    · exact (unhide HP4).kept (hkS bp (by omega))
    · exact (unhide HBU4).below hbS

set_option maxRecDepth 100000 in
set_option maxHeartbeats 1600000 in
theorem query_last (l : List Qp.T) (ta : Option Addr) (c bp i : Nat) (e : Int) (w : World) (hp : Qp.P w bp ta l.length c (i : Nat) e) (hr : Qp.RT w ta l) (hne : ∀ b o, ta = some ⟨b, o, none⟩ → b ≠ bp) (hf : l.length ≤ 10000) (hin : Qp.inW [⟨#[40]⟩] (Qp.tk l i).t = true) :
    Calls Tryz.prog 44 #[.pointer (some ⟨bp, 0, none⟩), .int .i64 60] w fun r w' => r = .panicked (Qp.gave (Qp.pl l e i)) ∧ Qk.But1 bp w.heap.size w w' := by
  have HS := hide (fun (W : World) (h1 : Qp.P W bp ta l.length c (i : Nat) e) (h2 : Qp.RT W ta l) => sees1_any l ⟨#[40]⟩ ta c bp i e W h1 h2 hf (by unfold maxLen; decide) true hin)
  have HR := hide (fun (W : World) (hb : Qk.But1 bp w.heap.size w W) => hr.but hne hb)
  have HG := hide (fun (W : World) (h1 : Qp.P W bp ta l.length c (i : Nat) e) (h2 : Qp.RT W ta l) => giveUp_yes l ta c bp i e W h1 h2 hf)
  have HP := hide hp
  have hblt := hp.lt
  clear hp hr hin
  go_enter Tryz.func44, Tryz.ntmps44
  go_wp2_with fail
  have hbA := (Below.refl w.heap.size w).alloc (Nat.le_refl _) (Obj.cells #[.int .i64 0, .int .i64 0, .slice none 0 0] 24)
  have hsA : (w.alloc (Obj.cells #[.int .i64 0, .int .i64 0, .slice none 0 0] 24)).heap.size = w.heap.size + 1 := by simp
  have hzA : Qp.Z3 (w.alloc (Obj.cells #[.int .i64 0, .int .i64 0, .slice none 0 0] 24)) w.heap.size := ⟨⟨.int .i64 0, by go_simp⟩, ⟨.int .i64 0, by go_simp⟩, ⟨.slice none 0 0, by go_simp⟩, fun i => by go_simp⟩
  have HBA := hide hbA
  have HZA := hide hzA
  clear hbA hzA
  generalize (w.alloc (Obj.cells #[.int .i64 0, .int .i64 0, .slice none 0 0] 24)) = WA at *
  have HBUA := hide ((Qk.But1.refl bp w.heap.size w).below (unhide HBA))
  refine (giveUp_no _ _).mono ?_
  rintro r w1 ⟨rfl, hw1⟩
  obtain rfl : WA = w1 := hw1.symm
  go_wp2_with fail
  have hc2 := (unhide HS) WA ((unhide HP).below (unhide HBA)) ((unhide HR) _ (unhide HBUA))
  rw [hsA] at hc2
  refine hc2.mono ?_
  clear hc2
  rintro r w2 ⟨rfl, hb2⟩
  rw [← hsA] at hb2
  have HP2 := hide (((unhide HP).below (unhide HBA)).below hb2)
  have HZ2 := hide ((unhide HZA).later hb2)
  have HBU2 := hide ((unhide HBUA).below (hb2.mono (unhide HBUA).size))
  have hs2 := hb2.size
  clear hb2
  go_wp2_with fail
  refine ((unhide HG) w2 (unhide HP2) ((unhide HR) _ (unhide HBU2))).mono ?_
  rintro r w3 ⟨rfl, hb3⟩
  have HBU3 := hide ((unhide HBU2).below (hb3.mono (unhide HBU2).size))
  clear hb3
  go_wp2_with fail
  exact ⟨rfl, rfl, unhide HBU3⟩

set_option maxRecDepth 100000 in
set_option maxHeartbeats 3200000 in
theorem query_word (l : List Qp.T) (ta : Option Addr) (c bp i a d : Nat) (e : Int) (w : World) (hp : Qp.P w bp ta l.length c (i : Nat) e) (hr : Qp.RT w ta l) (hne : ∀ b o, ta = some ⟨b, o, none⟩ → b ≠ bp) (hf : l.length ≤ 10000) (hN : Qp.Num l) (ha : a ≤ 60) (hin : Qp.inW [⟨#[40]⟩] (Qp.tk l i).t = false)
    (rec : Nat → Except Nat (Qk.AT d × Nat))
    (HQ : ∀ (k : Nat) (W : World), Qp.P W bp ta l.length c (k : Nat) e → Qp.RT W ta l → Calls Tryz.prog 44 #[.pointer (some ⟨bp, 0, none⟩), .int .i64 ((a : Int) + 1)] W (Qp.OutQ bp ta l c e W (rec k))) :
    Calls Tryz.prog 44 #[.pointer (some ⟨bp, 0, none⟩), .int .i64 (a : Nat)] w (Qp.OutQ bp ta l c e w (Qp.wordF l rec i)) := by
  have HS := hide (fun (W : World) (h1 : Qp.P W bp ta l.length c (i : Nat) e) (h2 : Qp.RT W ta l) => sees1_any l ⟨#[40]⟩ ta c bp i e W h1 h2 hf (by unfold maxLen; decide) false hin)
  have HR := hide (fun (W : World) (hb : Qk.But1 bp w.heap.size w W) => hr.but hne hb)
  have HK := hide (fun (k : Nat) (h1 : 1 ≤ k) (h2 : k ≤ 14) (W : World) => show Calls Tryz.prog 59 #[.string (Qk.word ((k : Nat) : Int))] W fun r w' => r = .returned (.tuple #[.int .i64 (k : Nat), .agg #[.string (Qk.word ((k : Nat) : Int)), .int .i64 (Qk.argsI ((k : Nat) : Int)), .int .i64 (Qk.least ((k : Nat) : Int)), .int .i64 (Qk.most ((k : Nat) : Int))]]) ∧ Below W.heap.size W w' from kindOf_ok k h1 h2 W)
  have HH := hide (fun (k : Nat) (B : Bool) (hB : decide (0 < Qk.most ((k : Nat) : Int)) = B) (W : World) => show Calls Tryz.prog 39 #[.agg #[.string (Qk.word ((k : Nat) : Int)), .int .i64 (Qk.argsI ((k : Nat) : Int)), .int .i64 (Qk.least ((k : Nat) : Int)), .int .i64 (Qk.most ((k : Nat) : Int))]] W fun r w' => r = .returned (.bool B) ∧ Below W.heap.size W w' by
    have := hasNumber_any (Qk.word ((k : Nat) : Int)) (Qk.argsI ((k : Nat) : Int)) (Qk.least ((k : Nat) : Int)) (Qk.most ((k : Nat) : Int)) W
    rw [hB] at this
    exact this)
  have HM := hide (fun (k : Nat) (W : World) (h1 : Qp.P W bp ta l.length c ((i + 1 : Nat) : Int) e) (h2 : Qp.RT W ta l) => number_any l ta c bp (i + 1) e (Qk.word ((k : Nat) : Int)) (Qk.argsI ((k : Nat) : Int)) (Qk.least ((k : Nat) : Int)) (Qk.most ((k : Nat) : Int)) W h1 h2 hne hf hN)
  have HQH := hide HQ
  have HP := hide hp
  have hblt := hp.lt
  have hq : ¬ (60 : Int) < (a : Int) := by omega
  obtain ⟨o, ho⟩ : ∃ o, Qp.wordF l rec i = o := ⟨_, rfl⟩
  rw [ho]
  have HO := hide ho
  clear HQ hp hr hin hN ho
  go_enter Tryz.func44, Tryz.ntmps44
  go_wp2_with fail
  have hbA := (Below.refl w.heap.size w).alloc (Nat.le_refl _) (Obj.cells #[.int .i64 0, .int .i64 0, .slice none 0 0] 24)
  have hsA : (w.alloc (Obj.cells #[.int .i64 0, .int .i64 0, .slice none 0 0] 24)).heap.size = w.heap.size + 1 := by simp
  have hzA : Qp.Z3 (w.alloc (Obj.cells #[.int .i64 0, .int .i64 0, .slice none 0 0] 24)) w.heap.size := ⟨⟨.int .i64 0, by go_simp⟩, ⟨.int .i64 0, by go_simp⟩, ⟨.slice none 0 0, by go_simp⟩, fun i => by go_simp⟩
  have HBA := hide hbA
  have HZA := hide hzA
  clear hbA hzA
  generalize (w.alloc (Obj.cells #[.int .i64 0, .int .i64 0, .slice none 0 0] 24)) = WA at *
  have HBUA := hide ((Qk.But1.refl bp w.heap.size w).below (unhide HBA))
  refine (giveUp_no _ _).mono ?_
  rintro r w1 ⟨rfl, hw1⟩
  obtain rfl : WA = w1 := hw1.symm
  go_wp2_with fail
  have hc2 := (unhide HS) WA ((unhide HP).below (unhide HBA)) ((unhide HR) _ (unhide HBUA))
  rw [hsA] at hc2
  refine hc2.mono ?_
  clear hc2
  rintro r w2 ⟨rfl, hb2⟩
  rw [← hsA] at hb2
  have HP2 := hide (((unhide HP).below (unhide HBA)).below hb2)
  have HZ2 := hide ((unhide HZA).later hb2)
  have HBU2 := hide ((unhide HBUA).below (hb2.mono (unhide HBUA).size))
  have hs2 := hb2.size
  clear hb2
  go_wp2_with fail
  have hwo : Obj.cells #[.string ⟨#[115, 116, 101, 112]⟩, .string ⟨#[119, 114, 105, 116, 101]⟩, .string ⟨#[99, 97, 108, 108]⟩, .string ⟨#[112, 114, 105, 110, 116]⟩, .string ⟨#[108, 101, 115, 115]⟩, .string ⟨#[115, 97, 109, 101]⟩, .string ⟨#[110, 111, 116]⟩, .string ⟨#[112, 114, 101, 118]⟩, .string ⟨#[111, 110, 99, 101]⟩, .string ⟨#[97, 108, 108]⟩, .string ⟨#[115, 111, 111, 110]⟩] 9 = Qp.wordsObj := rfl
  rw [hwo]
  clear hwo
  cases hk : Qp.find Qp.ones (Qp.tk l i).t with
  | none =>
    refine (take11_no l ta c bp i e w2 (unhide HP2) ((unhide HR) _ (unhide HBU2)) hf hk).mono ?_
    rintro r w3 ⟨rfl, hb3⟩
    have HBU3 := hide ((unhide HBU2).trans hb3 (unhide HBU2).size)
    obtain rfl : o = .error i := by rw [← unhide HO]; unfold Qp.wordF; rw [hk]
    clear hb3
    go_wp2_with fail
    exact ⟨rfl, rfl, unhide HBU3⟩
  | some k =>
    have hmem := (Qp.find_some hk).2
    obtain ⟨hk1, hk2⟩ : 1 ≤ k ∧ k ≤ 14 := by
      simp [Qp.ones] at hmem
      omega
    have hO2 : o = (match (if 0 < Qk.most ((k : Nat) : Int) then Qp.num l (Qk.least ((k : Nat) : Int)) (i + 1) else .ok (0, i + 1)) with
      | .error j => .error j
      | .ok (m, j) =>
        if Qk.argsN ((k : Nat) : Int) = 1 then
          (match rec j with
          | .error j' => .error j'
          | .ok (x, j') => .ok (((((k : Nat) : Int), m), [x]), j'))
        else .ok (((((k : Nat) : Int), m), []), j)) := by rw [← unhide HO]; unfold Qp.wordF; rw [hk]; try rfl
    have HO2 := hide hO2
    have HAI := hide (show Qk.argsI ((k : Nat) : Int) = ((Qk.argsN ((k : Nat) : Int) : Nat) : Int) by unfold Qk.argsI; rw [Qk.isK_nat k hk1 hk2]; rfl)
    clear hmem HO hO2
    refine (take11_yes l ta c bp i e w2 (unhide HP2) ((unhide HR) _ (unhide HBU2)) hf k hk).mono ?_
    rintro r w3 ⟨rfl, hp3, hb3⟩
    have HP3 := hide hp3
    have HZ3 := hide ((unhide HZ2).but hb3 (by omega))
    have HBU3 := hide ((unhide HBU2).trans hb3 (unhide HBU2).size)
    have hs3 := hb3.size
    clear hp3 hb3 hk
    go_wp2_with fail
    refine ((unhide HK) k hk1 hk2 _).mono ?_
    rintro r w4 ⟨rfl, hb4⟩
    have HP4 := hide ((unhide HP3).below hb4)
    have HBU4 := hide ((unhide HBU3).below (hb4.mono (unhide HBU3).size))
    have HZ4 := hide ((unhide HZ3).later hb4)
    have hs4 := hb4.size
    clear hb4
    go_wp2_with fail
    have hbC := ((Below.refl w4.heap.size w4).alloc (Nat.le_refl _) (Obj.cells #[.string (Qk.word ((k : Nat) : Int)), .int .i64 (Qk.argsI ((k : Nat) : Int)), .int .i64 (Qk.least ((k : Nat) : Int)), .int .i64 (Qk.most ((k : Nat) : Int))] 63)).alloc (by simp) (Obj.cells #[.int .i64 ((k : Nat) : Int), .int .i64 0, .slice none 0 0] 24)
    have hsC : ((w4.alloc (Obj.cells #[.string (Qk.word ((k : Nat) : Int)), .int .i64 (Qk.argsI ((k : Nat) : Int)), .int .i64 (Qk.least ((k : Nat) : Int)), .int .i64 (Qk.most ((k : Nat) : Int))] 63)).alloc (Obj.cells #[.int .i64 ((k : Nat) : Int), .int .i64 0, .slice none 0 0] 24)).heap.size = w4.heap.size + 2 := by simp
    have HUC := hide (show Qp.Ru ((w4.alloc (Obj.cells #[.string (Qk.word ((k : Nat) : Int)), .int .i64 (Qk.argsI ((k : Nat) : Int)), .int .i64 (Qk.least ((k : Nat) : Int)), .int .i64 (Qk.most ((k : Nat) : Int))] 63)).alloc (Obj.cells #[.int .i64 ((k : Nat) : Int), .int .i64 0, .slice none 0 0] 24)) w4.heap.size (Qk.word ((k : Nat) : Int)) (Qk.argsI ((k : Nat) : Int)) (Qk.least ((k : Nat) : Int)) (Qk.most ((k : Nat) : Int)) from ⟨by go_simp, by go_simp, by go_simp, by go_simp⟩)
    have HLC := hide (show Qk.Lies ((w4.alloc (Obj.cells #[.string (Qk.word ((k : Nat) : Int)), .int .i64 (Qk.argsI ((k : Nat) : Int)), .int .i64 (Qk.least ((k : Nat) : Int)), .int .i64 (Qk.most ((k : Nat) : Int))] 63)).alloc (Obj.cells #[.int .i64 ((k : Nat) : Int), .int .i64 0, .slice none 0 0] 24)) (w4.heap.size + 1) 0 ⟨((k : Nat) : Int), 0, ⟨none, 0, 0⟩⟩ from ⟨by go_simp, by go_simp, by go_simp⟩)
    have HYC := hide (show Qp.Z3 ((w4.alloc (Obj.cells #[.string (Qk.word ((k : Nat) : Int)), .int .i64 (Qk.argsI ((k : Nat) : Int)), .int .i64 (Qk.least ((k : Nat) : Int)), .int .i64 (Qk.most ((k : Nat) : Int))] 63)).alloc (Obj.cells #[.int .i64 ((k : Nat) : Int), .int .i64 0, .slice none 0 0] 24)) (w4.heap.size + 1) from ⟨⟨.int .i64 ((k : Nat) : Int), by go_simp⟩, ⟨.int .i64 0, by go_simp⟩, ⟨.slice none 0 0, by go_simp⟩, fun i => by go_simp⟩)
    have HPC := hide ((unhide HP4).below hbC)
    have HBUC := hide ((unhide HBU4).below (hbC.mono (unhide HBU4).size))
    have HZC := hide ((unhide HZ4).later hbC)
    clear hbC
    generalize ((w4.alloc (Obj.cells #[.string (Qk.word ((k : Nat) : Int)), .int .i64 (Qk.argsI ((k : Nat) : Int)), .int .i64 (Qk.least ((k : Nat) : Int)), .int .i64 (Qk.most ((k : Nat) : Int))] 63)).alloc (Obj.cells #[.int .i64 ((k : Nat) : Int), .int .i64 0, .slice none 0 0] 24)) = WC at *
    obtain ⟨B, hB⟩ : ∃ B, decide (0 < Qk.most ((k : Nat) : Int)) = B := ⟨_, rfl⟩
    refine ((unhide HH) k B hB _).mono ?_
    rintro r w5 ⟨rfl, hb5⟩
    have HU5 := hide ((unhide HUC).later hb5)
    have HL5 := hide ((unhide HLC).bel hb5)
    have HY5 := hide ((unhide HYC).later hb5)
    have HP5 := hide ((unhide HPC).below hb5)
    have HBU5 := hide ((unhide HBUC).below (hb5.mono (unhide HBUC).size))
    have HZ5 := hide ((unhide HZC).later hb5)
    have hs5 := hb5.size
    clear hb5
    cases B
    · have hB1 : ¬ 0 < Qk.most ((k : Nat) : Int) := of_decide_eq_false hB
      have HO3 := hide (show o = (if Qk.argsN ((k : Nat) : Int) = 1 then (match rec (i + 1) with | .error j' => .error j' | .ok (x, j') => .ok (((((k : Nat) : Int), 0), [x]), j')) else .ok (((((k : Nat) : Int), 0), []), i + 1)) by rw [unhide HO2, if_neg hB1])
      clear HO2 hB hB1
      obtain ⟨u0, u1, u2, u3⟩ := unhide HU5
      by_cases hA : Qk.argsN ((k : Nat) : Int) = 1
      · have hA1 : Qk.argsI ((k : Nat) : Int) = 1 := by rw [unhide HAI, hA]; rfl
        have HO4 := hide (show o = (match rec (i + 1) with | .error j' => .error j' | .ok (x, j') => .ok (((((k : Nat) : Int), 0), [x]), j')) by rw [unhide HO3, if_pos hA])
        rw [hA1] at u1
        clear HO3 hA hA1
        go_wp2_with fail
        clear u0 u1 u2 u3
        refine ((unhide HQH) (i + 1) _ (unhide HP5) ((unhide HR) _ (unhide HBU5))).mono ?_
        intro r w8 hq8
        cases hd8 : rec (i + 1) with
        | error j' =>
          rw [hd8] at hq8
          obtain ⟨rfl, hb8⟩ := hq8
          have HBU8 := hide ((unhide HBU5).trans hb8 (unhide HBU5).size)
          obtain rfl : o = .error j' := by rw [unhide HO4, hd8]
          clear hb8
          go_wp2_with fail
          exact ⟨rfl, rfl, unhide HBU8⟩
        | ok p8 =>
          obtain ⟨x, j'⟩ := p8
          rw [hd8] at hq8
          obtain ⟨⟨E, rfl, hro⟩, hp8, hb8⟩ := hq8
          obtain rfl : o = .ok (((((k : Nat) : Int), 0), [x]), j') := by rw [unhide HO4, hd8]
          have HL8 := hide ((unhide HL5).but hb8 (by omega))
          have HY8 := hide ((unhide HY5).but hb8 (by omega))
          have HZ8 := hide ((unhide HZ5).but hb8 (by omega))
          have HBU8 := hide ((unhide HBU5).trans hb8 (unhide HBU5).size)
          have HP8 := hide hp8
          have HRO8 := hide (hro.mono (show w4.heap.size + 2 ≤ w5.heap.size by omega))
          have hs8 := hb8.size
          clear hp8 hb8 hro
          obtain ⟨y0, y1, y2⟩ := unhide HL8
          have yf := (unhide HY8).f 2
          have hy8 := (unhide HY8).lt
          obtain ⟨v0, m0⟩ := (unhide HZ8).c0
          obtain ⟨v1, m1⟩ := (unhide HZ8).c1
          obtain ⟨v2, m2⟩ := (unhide HZ8).c2
          have z0 := (unhide HZ8).f 0
          have z1 := (unhide HZ8).f 1
          have z2 := (unhide HZ8).f 2
          have hneA : w.heap.size ≠ w4.heap.size + 1 := by omega
          have hneB : w4.heap.size + 1 ≠ w.heap.size := by omega
          have hltw := (unhide HZ8).lt
          have hk9 : ∀ q, q ≠ w4.heap.size + 1 → (w8.setCell ⟨w4.heap.size + 1, 2, none⟩ (.slice (some ⟨w8.heap.size, 0, none⟩) 1 1)).heap[q]? = w8.heap[q]? := fun q hq => Below.heap_setCell _ _ _ _ hq
          have HS9 := hide (show (w8.setCell ⟨w4.heap.size + 1, 2, none⟩ (.slice (some ⟨w8.heap.size, 0, none⟩) 1 1)).heap.size = w8.heap.size by simp [World.setCell])
          have HZ9 := hide ((unhide HZ8).kept (hk9 w.heap.size hneA))
          have HP9 := hide ((unhide HP8).kept (hk9 bp (by omega)))
          have HBU9 := hide ((unhide HBU8).below (Qp.set_below (W := w8) (b := w4.heap.size + 1) (o := 2) (.slice (some ⟨w8.heap.size, 0, none⟩) 1 1) (show w.heap.size ≤ w4.heap.size + 1 by omega)))
          have HRO9 := hide ((unhide HRO8).ab (Qp.Ab.set (o := 2) w8 (.slice (some ⟨w8.heap.size, 0, none⟩) 1 1) (show w4.heap.size + 1 < w4.heap.size + 2 by omega)))
          have HSR := hide (Qp.ret3 (unhide HZ9) (.int .i64 ((k : Nat) : Int)) (.int .i64 0) (.slice (some ⟨w8.heap.size, 0, none⟩) 1 1))
          clear hk9
          go_wp2_with fail
          generalize (w8.setCell ⟨w4.heap.size + 1, 2, none⟩ (.slice (some ⟨w8.heap.size, 0, none⟩) 1 1)) = w9 at *
          obtain ⟨⟨s0, s1, s2⟩, hsS, hbS, haS, hkS⟩ := unhide HSR
          generalize (((w9.setCell ⟨w.heap.size, 0, none⟩ (.int .i64 ((k : Nat) : Int))).setCell ⟨w.heap.size, 1, none⟩ (.int .i64 0)).setCell ⟨w.heap.size, 2, none⟩ (.slice (some ⟨w8.heap.size, 0, none⟩) 1 1)) = S at *
          have hs9 := unhide HS9
          have hsS8 : w8.heap.size = S.heap.size := by omega
          rw [hsS8] at s2 ⊢
          have hbV := (Below.refl S.heap.size S).alloc (Nat.le_refl _) (Obj.cells #[.int .i64 E.k, .int .i64 E.n, .slice E.args.ad E.args.len E.args.cap] 24)
          have s3 : w.heap.size < S.heap.size := by omega
          refine bodyPost_ret (v := .agg #[.int .i64 ((k : Nat) : Int), .int .i64 0, .slice (some ⟨S.heap.size, 0, none⟩) 1 1]) (by simp [results, Tryz.results44, go_sem, s0, s1, s2, s3]) rfl ?_
          have hL1 : Qk.Lies (S.alloc (Obj.cells #[.int .i64 E.k, .int .i64 E.n, .slice E.args.ad E.args.len E.args.cap] 24)) S.heap.size 0 E := Qp.lies_new S E
          have hr1 := ((unhide HRO9).ab (haS _ (by omega))).ab (Qp.Ab.of_below hbV)
          refine ⟨⟨⟨_, _, ⟨some ⟨S.heap.size, 0, none⟩, 1, 1⟩⟩, rfl, (Qp.RO.one hL1 (by omega) hr1).mono (by omega)⟩, ?_, ?_⟩
          · exact ((unhide HP9).kept (hkS bp (by omega))).below hbV
          · exact ((unhide HBU9).below hbS).below (hbV.mono (by omega))
      · have hA1 : (Qk.argsI ((k : Nat) : Int) == 1) = false := by rw [unhide HAI]; simp; omega
        obtain rfl : o = .ok (((((k : Nat) : Int), 0), []), i + 1) := by rw [unhide HO3, if_neg hA]
        clear HO3 hA
        obtain ⟨y0, y1, y2⟩ := unhide HL5
        obtain ⟨v0, m0⟩ := (unhide HZ5).c0
        obtain ⟨v1, m1⟩ := (unhide HZ5).c1
        obtain ⟨v2, m2⟩ := (unhide HZ5).c2
        have z0 := (unhide HZ5).f 0
        have z1 := (unhide HZ5).f 1
        have z2 := (unhide HZ5).f 2
        have HSW := hide (Qp.ret3 (unhide HZ5) (.int .i64 ((k : Nat) : Int)) (.int .i64 0) (.slice none 0 0))
        go_wp2_with fail
        obtain ⟨⟨s0, s1, s2⟩, hsS, hbS, haS, hkS⟩ := unhide HSW
        refine bodyPost_ret (v := .agg #[.int .i64 ((k : Nat) : Int), .int .i64 0, .slice none 0 0]) (by simp [results, Tryz.results44, go_sem, s0, s1, s2]) rfl ?_
        refine ⟨⟨⟨_, _, ⟨none, 0, 0⟩⟩, rfl, Qp.RO.leaf _ _ _ _ _ _ _⟩, ?_, ?_⟩
        · exact (unhide HP5).kept (hkS bp (by omega))
        · exact (unhide HBU5).below hbS
    · have hB1 : 0 < Qk.most ((k : Nat) : Int) := of_decide_eq_true hB
      obtain ⟨u0, u1, u2, u3⟩ := unhide HU5
      go_wp2_with fail
      refine ((unhide HM) k _ (unhide HP5) ((unhide HR) _ (unhide HBU5))).mono ?_
      intro r w6 hq6
      cases hd6 : Qp.num l (Qk.least ((k : Nat) : Int)) (i + 1) with
      | error j =>
        rw [hd6] at hq6
        obtain ⟨rfl, hb6⟩ := hq6
        have HBU6 := hide ((unhide HBU5).trans hb6 (unhide HBU5).size)
        obtain rfl : o = .error j := by rw [unhide HO2, if_pos hB1, hd6]
        clear hb6 u0 u1 u2 u3
        go_wp2_with fail
        exact ⟨rfl, rfl, unhide HBU6⟩
      | ok p =>
        obtain ⟨m, j⟩ := p
        rw [hd6] at hq6
        obtain ⟨rfl, hp6, hb6⟩ := hq6
        have HO3 := hide (show o = (if Qk.argsN ((k : Nat) : Int) = 1 then (match rec j with | .error j' => .error j' | .ok (x, j') => .ok (((((k : Nat) : Int), m), [x]), j')) else .ok (((((k : Nat) : Int), m), []), j)) by rw [unhide HO2, if_pos hB1, hd6])
        have HU6 := hide ((unhide HU5).but hb6 (by omega))
        have HL6 := hide ((unhide HL5).but hb6 (by omega))
        have HY6 := hide ((unhide HY5).but hb6 (by omega))
        have HZ6 := hide ((unhide HZ5).but hb6 (by omega))
        have HBU6 := hide ((unhide HBU5).trans hb6 (unhide HBU5).size)
        have HP6 := hide hp6
        have hs6 := hb6.size
        clear HO2 hB hB1 hp6 hb6 hd6 u0 u1 u2 u3
        obtain ⟨y0, y1, y2⟩ := unhide HL6
        have yf := (unhide HY6).f 1
        have hy6 := (unhide HY6).lt
        obtain ⟨u0, u1, u2, u3⟩ := unhide HU6
        have hbV := Qp.set_below (W := w6) (b := w4.heap.size + 1) (o := 1) (.int .i64 m) (Nat.le_refl _)
        have hkV : ∀ q, q ≠ w4.heap.size + 1 → (w6.setCell ⟨w4.heap.size + 1, 1, none⟩ (.int .i64 m)).heap[q]? = w6.heap[q]? := fun q hq => Below.heap_setCell _ _ _ _ hq
        have hsV : (w6.setCell ⟨w4.heap.size + 1, 1, none⟩ (.int .i64 m)).heap.size = w6.heap.size := by simp [World.setCell]
        have HU7 := hide (show Qp.Ru (w6.setCell ⟨w4.heap.size + 1, 1, none⟩ (.int .i64 m)) w4.heap.size (Qk.word ((k : Nat) : Int)) (Qk.argsI ((k : Nat) : Int)) (Qk.least ((k : Nat) : Int)) (Qk.most ((k : Nat) : Int)) from ⟨(World.cell?_of_block (a := ⟨w4.heap.size, 0, none⟩) (hkV w4.heap.size (by omega))).trans u0, (World.cell?_of_block (a := ⟨w4.heap.size, 1, none⟩) (hkV w4.heap.size (by omega))).trans u1, (World.cell?_of_block (a := ⟨w4.heap.size, 2, none⟩) (hkV w4.heap.size (by omega))).trans u2, (World.cell?_of_block (a := ⟨w4.heap.size, 3, none⟩) (hkV w4.heap.size (by omega))).trans u3⟩)
        have HL7 := hide ((unhide HL6).set1 m)
        have HY7 := hide ((unhide HY6).set 1 (.int .i64 m))
        have HZ7 := hide ((unhide HZ6).kept (hkV w.heap.size (by omega)))
        have HBU7 := hide ((unhide HBU6).below (hbV.mono (show w.heap.size ≤ w4.heap.size + 1 by omega)))
        have HP7 := hide ((unhide HP6).kept (hkV bp (by omega)))
        clear hbV hkV
        have hneA : w.heap.size ≠ w4.heap.size + 1 := by omega
        have hneB : w4.heap.size + 1 ≠ w.heap.size := by omega
        by_cases hA : Qk.argsN ((k : Nat) : Int) = 1
        · have hA1 : Qk.argsI ((k : Nat) : Int) = 1 := by rw [unhide HAI, hA]; rfl
          have HO4 := hide (show o = (match rec (j) with | .error j' => .error j' | .ok (x, j') => .ok (((((k : Nat) : Int), m), [x]), j')) by rw [unhide HO3, if_pos hA])
          rw [hA1] at u1
          clear HO3 hA hA1
          go_wp2_with fail
          clear u0 u1 u2 u3 y0 y1 y2 yf hneA hneB
          generalize (w6.setCell ⟨w4.heap.size + 1, 1, none⟩ (.int .i64 m)) = w7 at *
          refine ((unhide HQH) (j) _ (unhide HP7) ((unhide HR) _ (unhide HBU7))).mono ?_
          intro r w8 hq8
          cases hd8 : rec (j) with
          | error j' =>
            rw [hd8] at hq8
            obtain ⟨rfl, hb8⟩ := hq8
            have HBU8 := hide ((unhide HBU7).trans hb8 (unhide HBU7).size)
            obtain rfl : o = .error j' := by rw [unhide HO4, hd8]
            clear hb8
            go_wp2_with fail
            exact ⟨rfl, rfl, unhide HBU8⟩
          | ok p8 =>
            obtain ⟨x, j'⟩ := p8
            rw [hd8] at hq8
            obtain ⟨⟨E, rfl, hro⟩, hp8, hb8⟩ := hq8
            obtain rfl : o = .ok (((((k : Nat) : Int), m), [x]), j') := by rw [unhide HO4, hd8]
            have HL8 := hide ((unhide HL7).but hb8 (by omega))
            have HY8 := hide ((unhide HY7).but hb8 (by omega))
            have HZ8 := hide ((unhide HZ7).but hb8 (by omega))
            have HBU8 := hide ((unhide HBU7).trans hb8 (unhide HBU7).size)
            have HP8 := hide hp8
            have HRO8 := hide (hro.mono (show w4.heap.size + 2 ≤ w7.heap.size by omega))
            have hs8 := hb8.size
            clear hp8 hb8 hro
            obtain ⟨y0, y1, y2⟩ := unhide HL8
            have yf := (unhide HY8).f 2
            have hy8 := (unhide HY8).lt
            obtain ⟨v0, m0⟩ := (unhide HZ8).c0
            obtain ⟨v1, m1⟩ := (unhide HZ8).c1
            obtain ⟨v2, m2⟩ := (unhide HZ8).c2
            have z0 := (unhide HZ8).f 0
            have z1 := (unhide HZ8).f 1
            have z2 := (unhide HZ8).f 2
            have hneA : w.heap.size ≠ w4.heap.size + 1 := by omega
            have hneB : w4.heap.size + 1 ≠ w.heap.size := by omega
            have hltw := (unhide HZ8).lt
            have hk9 : ∀ q, q ≠ w4.heap.size + 1 → (w8.setCell ⟨w4.heap.size + 1, 2, none⟩ (.slice (some ⟨w8.heap.size, 0, none⟩) 1 1)).heap[q]? = w8.heap[q]? := fun q hq => Below.heap_setCell _ _ _ _ hq
            have HS9 := hide (show (w8.setCell ⟨w4.heap.size + 1, 2, none⟩ (.slice (some ⟨w8.heap.size, 0, none⟩) 1 1)).heap.size = w8.heap.size by simp [World.setCell])
            have HZ9 := hide ((unhide HZ8).kept (hk9 w.heap.size hneA))
            have HP9 := hide ((unhide HP8).kept (hk9 bp (by omega)))
            have HBU9 := hide ((unhide HBU8).below (Qp.set_below (W := w8) (b := w4.heap.size + 1) (o := 2) (.slice (some ⟨w8.heap.size, 0, none⟩) 1 1) (show w.heap.size ≤ w4.heap.size + 1 by omega)))
            have HRO9 := hide ((unhide HRO8).ab (Qp.Ab.set (o := 2) w8 (.slice (some ⟨w8.heap.size, 0, none⟩) 1 1) (show w4.heap.size + 1 < w4.heap.size + 2 by omega)))
            have HSR := hide (Qp.ret3 (unhide HZ9) (.int .i64 ((k : Nat) : Int)) (.int .i64 m) (.slice (some ⟨w8.heap.size, 0, none⟩) 1 1))
            clear hk9
            go_wp2_with fail
            generalize (w8.setCell ⟨w4.heap.size + 1, 2, none⟩ (.slice (some ⟨w8.heap.size, 0, none⟩) 1 1)) = w9 at *
            obtain ⟨⟨s0, s1, s2⟩, hsS, hbS, haS, hkS⟩ := unhide HSR
            generalize (((w9.setCell ⟨w.heap.size, 0, none⟩ (.int .i64 ((k : Nat) : Int))).setCell ⟨w.heap.size, 1, none⟩ (.int .i64 m)).setCell ⟨w.heap.size, 2, none⟩ (.slice (some ⟨w8.heap.size, 0, none⟩) 1 1)) = S at *
            have hs9 := unhide HS9
            have hsS8 : w8.heap.size = S.heap.size := by omega
            rw [hsS8] at s2 ⊢
            have hbV := (Below.refl S.heap.size S).alloc (Nat.le_refl _) (Obj.cells #[.int .i64 E.k, .int .i64 E.n, .slice E.args.ad E.args.len E.args.cap] 24)
            have s3 : w.heap.size < S.heap.size := by omega
            refine bodyPost_ret (v := .agg #[.int .i64 ((k : Nat) : Int), .int .i64 m, .slice (some ⟨S.heap.size, 0, none⟩) 1 1]) (by simp [results, Tryz.results44, go_sem, s0, s1, s2, s3]) rfl ?_
            have hL1 : Qk.Lies (S.alloc (Obj.cells #[.int .i64 E.k, .int .i64 E.n, .slice E.args.ad E.args.len E.args.cap] 24)) S.heap.size 0 E := Qp.lies_new S E
            have hr1 := ((unhide HRO9).ab (haS _ (by omega))).ab (Qp.Ab.of_below hbV)
            refine ⟨⟨⟨_, _, ⟨some ⟨S.heap.size, 0, none⟩, 1, 1⟩⟩, rfl, (Qp.RO.one hL1 (by omega) hr1).mono (by omega)⟩, ?_, ?_⟩
            · exact ((unhide HP9).kept (hkS bp (by omega))).below hbV
            · exact ((unhide HBU9).below hbS).below (hbV.mono (by omega))
        · have hA1 : (Qk.argsI ((k : Nat) : Int) == 1) = false := by rw [unhide HAI]; simp; omega
          obtain rfl : o = .ok (((((k : Nat) : Int), m), []), j) := by rw [unhide HO3, if_neg hA]
          clear HO3 hA
          obtain ⟨y0, y1, y2⟩ := unhide HL6
          obtain ⟨v0, m0⟩ := (unhide HZ6).c0
          obtain ⟨v1, m1⟩ := (unhide HZ6).c1
          obtain ⟨v2, m2⟩ := (unhide HZ6).c2
          have z0 := (unhide HZ6).f 0
          have z1 := (unhide HZ6).f 1
          have z2 := (unhide HZ6).f 2
          have HSW := hide (Qp.ret3 (unhide HZ7) (.int .i64 ((k : Nat) : Int)) (.int .i64 m) (.slice none 0 0))
          go_wp2_with fail
          generalize (w6.setCell ⟨w4.heap.size + 1, 1, none⟩ (.int .i64 m)) = w7 at *
          obtain ⟨⟨s0, s1, s2⟩, hsS, hbS, haS, hkS⟩ := unhide HSW
          refine bodyPost_ret (v := .agg #[.int .i64 ((k : Nat) : Int), .int .i64 m, .slice none 0 0]) (by simp [results, Tryz.results44, go_sem, s0, s1, s2]) rfl ?_
          refine ⟨⟨⟨_, _, ⟨none, 0, 0⟩⟩, rfl, Qp.RO.leaf _ _ _ _ _ _ _⟩, ?_, ?_⟩
          · exact (unhide HP7).kept (hkS bp (by omega))
          · exact (unhide HBU7).below hbS

theorem query_any (l : List Qp.T) (ta : Option Addr) (c bp : Nat) (e : Int) (hne : ∀ b o, ta = some ⟨b, o, none⟩ → b ≠ bp) (hf : l.length ≤ 10000) (hN : Qp.Num l) : ∀ (d : Nat), d ≤ 61 → ∀ (i : Nat) (w : World), Qp.P w bp ta l.length c (i : Nat) e → Qp.RT w ta l →
    Calls Tryz.prog 44 #[.pointer (some ⟨bp, 0, none⟩), .int .i64 ((61 - d : Nat) : Int)] w (Qp.OutQ bp ta l c e w (Qp.q l d i)) := by
  intro d
  induction d with
  | zero => intro _ i w hp hr; exact query_deep l ta c bp i e w hp hr hf
  | succ d ih =>
    intro hd i w hp hr
    obtain ⟨a, ha⟩ : ∃ a, 61 - (d + 1) = a := ⟨_, rfl⟩
    rw [ha]
    have HQ : ∀ (k : Nat) (W : World), Qp.P W bp ta l.length c (k : Nat) e → Qp.RT W ta l → Calls Tryz.prog 44 #[.pointer (some ⟨bp, 0, none⟩), .int .i64 ((a : Int) + 1)] W (Qp.OutQ bp ta l c e W (Qp.q l d k)) := fun k W h1 h2 => by
      have := ih (by omega) k W h1 h2
      have e1 : ((61 - d : Nat) : Int) = (a : Int) + 1 := by omega
      rw [e1] at this
      exact this
    unfold Qp.q
    cases hin : Qp.inW [⟨#[40]⟩] (Qp.tk l i).t
    · exact query_word l ta c bp i a d e w hp hr hne hf hN (by omega) hin (Qp.q l d) HQ
    · by_cases h0 : d = 0
      · subst h0
        obtain rfl : a = 60 := by omega
        exact query_last l ta c bp i e w hp hr hne hf hin
      · simp only [if_true, h0, if_false]
        exact query_open l ta c bp i a d e w hp hr hne hf (by omega) hin (Qp.q l d) HQ
end Go.Proofs.YtfhlnelgnnkeoaaGreatDoor
