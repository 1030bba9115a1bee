/-
  DiskTells: boxes that are stored, and the document's own calls with their lists' lengths. By the verifier.
-/
import Derived.Test.YtlbcmgphibeeiaaDGen
namespace Go.Proofs.Ytlbcmgphibeeiaa
open Go.RowKit
set_option linter.unusedVariables false

/-- A world in which a box of two cells was stored. -/
abbrev Dk.put (W : World) (b : Nat) (u v : Value) : World := (W.setCell ⟨b, 0, none⟩ u).setCell ⟨b, 1, none⟩ v

theorem Dk.put_cell {W : World} {b : Nat} {u v : Value} {a : Addr} (h : a ≠ ⟨b, 0, none⟩) (h2 : a ≠ ⟨b, 1, none⟩) : (Dk.put W b u v).cell? a = W.cell? a := by
  rw [World.cell?_setCell_other _ _ _ _ (fun hh => h2 hh.symm), World.cell?_setCell_other _ _ _ _ (fun hh => h hh.symm)]

section
variable {W P : World} {b b' B : Nat} {u v A0 A1 : Value}
theorem Dk.D6.kept (h : Dk.D6 b W) {a : Addr} {x : Value} (hx : W.cell? a = some x) (hne : x ≠ .slice none 0 0) : (Dk.put W b u v).cell? a = some x := by
  rw [Dk.put_cell (fun hh => hne (by rw [hh, h.c0] at hx; exact (Option.some.inj hx).symm)) (fun hh => hne (by rw [hh, h.c1] at hx; exact (Option.some.inj hx).symm))]
  exact hx
theorem Dk.RK.put {ad : Option Addr} {l : List ByteArray} (r : Dk.RK W ad l) (h : Dk.D6 b W) (u v : Value) : Dk.RK (Dk.put W b u v) ad l := by
  refine ⟨fun i s hi => ?_⟩
  obtain ⟨g, o, h1, h2, h3, h4⟩ := r.at_ i s hi
  exact ⟨g, o, h1, by simpa using h2, h.kept h3 (by intro hh; cases hh), h4⟩
theorem Dk.RW.put {ad : Option Addr} {l : List (Int × ByteArray)} (r : Dk.RW W ad l) (h : Dk.D6 b W) (u v : Value) : Dk.RW (Dk.put W b u v) ad l := by
  refine ⟨fun i s hi => ?_⟩
  obtain ⟨g, o, h1, h2, h3, h4, h5⟩ := r.at_ i s hi
  exact ⟨g, o, h1, by simpa using h2, h.kept h3 (by intro hh; cases hh), h.kept h4 (by intro hh; cases hh), h5⟩
theorem Dk.Bx.put (h : Dk.Bx b' A0 A1 W) (hb : b' ≠ b) (u v : Value) : Dk.Bx b' A0 A1 (Dk.put W b u v) :=
  ⟨by rw [Dk.put_cell (by intro hh; exact hb (congrArg Addr.block hh)) (by intro hh; exact hb (congrArg Addr.block hh))]; exact h.c0, by rw [Dk.put_cell (by intro hh; exact hb (congrArg Addr.block hh)) (by intro hh; exact hb (congrArg Addr.block hh))]; exact h.c1⟩
theorem Dk.D6.put (h : Dk.D6 b' W) (hb : b' ≠ b) (u v : Value) : Dk.D6 b' (Dk.put W b u v) :=
  ⟨((⟨h.c0, h.c1⟩ : Dk.Bx b' _ _ W).put hb u v).c0, ((⟨h.c0, h.c1⟩ : Dk.Bx b' _ _ W).put hb u v).c1, by simpa using h.f0, by simpa using h.f1⟩
theorem Dk.D6.stored (h : Dk.D6 b W) (u v : Value) : Dk.Bx b u v (Dk.put W b u v) := by
  constructor
  · rw [World.cell?_setCell_other _ _ _ _ (by intro hh; have := congrArg Addr.off hh; simp at this)]
    exact World.cell?_setCell_same _ _ _ h.c0
  · exact World.cell?_setCell_same _ _ _ (u := .slice none 0 0) (by rw [World.cell?_setCell_other _ _ _ _ (by intro hh; have := congrArg Addr.off hh; simp at this)]; exact h.c1)
theorem Dk.D6.laid (W : World) (t : TypeId) : Dk.D6 W.heap.size (W.alloc (.cells #[.slice none 0 0, .slice none 0 0] t)) := ⟨by go_simp, by go_simp, by go_simp, by go_simp⟩
theorem Dk.below_put (h : Below B P W) (hb : B ≤ b) (u v : Value) : Below B P (Dk.put W b u v) := (h.setCell (by exact hb) _).setCell (by exact hb) _
end

theorem NewDisk_gen (n : Int) (w : World) (h : Dk.cnt n = true) :
    Calls Try.prog 10 #[.int .i64 n] w fun e w' => ∃ g c, e = .returned (.agg #[.slice (some ⟨g, 0, none⟩) (Dk.newL n).length c, .slice none 0 0]) ∧ Dk.RK w' (some ⟨g, 0, none⟩) (Dk.newL n) ∧ Below w.heap.size w w' := by
  unfold Dk.newL
  rw [if_pos h]
  simp only [Dk.cnt, decide_eq_true_eq] at h
  rw [List.length_replicate]
  exact NewDisk_any n w (by omega) (by omega)

theorem CrashOf_all2 (ka : Option Addr) (ks : List ByteArray) (kc : Nat) (wa : Option Addr) (ws : List (Int × ByteArray)) (wc : Nat) (w : World) (hk : Dk.RK w ka ks) (hw : Dk.RW w wa ws) (hok : Dk.chk ks ws = 0) :
    Calls Try.prog 14 #[.agg #[.slice ka ks.length kc, .slice wa ws.length wc], .slice none 0 0, .bool true] w fun e w' => ∃ g c, e = .returned (.agg #[.slice (some ⟨g, 0, none⟩) (Dk.flL (fun _ => true) ks ws).length c, .slice none 0 0]) ∧ Dk.RK w' (some ⟨g, 0, none⟩) (Dk.flL (fun _ => true) ks ws) ∧ Below w.heap.size w w' := by
  unfold Dk.flL
  rw [if_pos hok, Dk.keptTo_length]
  exact CrashOf_all ka ks kc wa ws wc [] none 0 w hk hw ⟨fun i s h => by simp at h⟩ hok

theorem CrashOf_some2 (ka : Option Addr) (ks : List ByteArray) (kc : Nat) (wa : Option Addr) (ws : List (Int × ByteArray)) (wc : Nat) (l : List Bool) (ad : Option Addr) (cap : Nat) (w : World) (hk : Dk.RK w ka ks) (hw : Dk.RW w wa ws) (hl : Dk.RB w ad l) (hok : Dk.chk ks ws = 0) :
    Calls Try.prog 14 #[.agg #[.slice ka ks.length kc, .slice wa ws.length wc], .slice ad l.length cap, .bool false] w fun e w' => ∃ g c, e = .returned (.agg #[.slice (some ⟨g, 0, none⟩) (Dk.flL (fun i => (l[i]?).getD false) ks ws).length c, .slice none 0 0]) ∧ Dk.RK w' (some ⟨g, 0, none⟩) (Dk.flL (fun i => (l[i]?).getD false) ks ws) ∧ Below w.heap.size w w' := by
  unfold Dk.flL
  rw [if_pos hok, Dk.keptTo_length]
  exact CrashOf_some ka ks kc wa ws wc l ad cap w hk hw hl hok

theorem diskIs_err2 (m : Int) (n : Nat) (hm : m = (n : Int)) (hn : n ≠ 0) (kb : Option Addr) (p kd : Nat) (wb : Option Addr) (q wd : Nat) (w : World) :
    Calls Try.prog 17 #[.agg #[.slice none 0 0, .slice none 0 0], .int .i64 m, .int .i64 m, .agg #[.slice kb p kd, .slice wb q wd]] w fun e w' => e = .returned (.bool true) ∧ Below w.heap.size w w' := by
  subst hm
  exact diskIs_err n kb p kd wb q wd w hn

theorem Dk.RK.drew {w : World} {ad : Option Addr} {l : List ByteArray} (h : Dk.RK w ad l) : Dk.RK w.drew ad l := ⟨h.at_⟩
theorem Dk.RW.drew {w : World} {ad : Option Addr} {l : List (Int × ByteArray)} (h : Dk.RW w ad l) : Dk.RW w.drew ad l := ⟨h.at_⟩
theorem Dk.Bx.drew {w : World} {b : Nat} {A0 A1 : Value} (h : Dk.Bx b A0 A1 w) : Dk.Bx b A0 A1 w.drew := ⟨h.c0, h.c1⟩
theorem Dk.D6.drew {w : World} {b : Nat} (h : Dk.D6 b w) : Dk.D6 b w.drew := ⟨h.c0, h.c1, h.f0, h.f1⟩

/-- The disk's box within the region of two crashes. -/
abbrev Dk.S5 (P : World) (b : Nat) (A0 A1 : Value) (W : World) : Prop := W.cell? ⟨b, 0, none⟩ = some A0 ∧ W.cell? ⟨b, 1, none⟩ = some A1 ∧ Below P.heap.size P W
section
variable {P W W' : World} {b b' : Nat} {A0 A1 : Value}
theorem Dk.S5.bel (h : Dk.S5 P b A0 A1 W) : Below P.heap.size P W := h.2.2
theorem Dk.S5.drew (h : Dk.S5 P b A0 A1 W) : Dk.S5 P b A0 A1 W.drew := ⟨h.1, h.2.1, h.2.2.drew⟩
theorem Dk.S5.below (h : Dk.S5 P b A0 A1 W) (hb : Below W.heap.size W W') : Dk.S5 P b A0 A1 W' := by
  obtain ⟨h1, h2, h3⟩ := h
  have k : ∀ {a : Addr} {v : Value}, W.cell? a = some v → W'.cell? a = some v := fun h => by rw [hb.cell (World.block_lt_of_cell? W _ h)]; exact h
  exact ⟨k h1, k h2, h3.trans (hb.mono h3.size)⟩
theorem Dk.S5.put (h : Dk.S5 P b A0 A1 W) (hb : b < P.heap.size) (hp : P.heap.size ≤ b') (u v : Value) : Dk.S5 P b A0 A1 (Dk.put W b' u v) :=
  have x := Dk.Bx.put ⟨h.1, h.2.1⟩ (show b ≠ b' by omega) u v
  ⟨x.c0, x.c1, Dk.below_put h.2.2 hp u v⟩
end

/-- What is written by the document's own function. -/
theorem Dk.wr_cases (ks : List ByteArray) (ws : List (Int × ByteArray)) (n : Int) (s : ByteArray) (h : Dk.wrE ks ws n s ≠ 0) : Dk.wrK ks ws n s = [] ∧ Dk.wrW ks ws n s = [] := by
  unfold Dk.wrK Dk.wrW
  rw [if_neg h, if_neg h]
  exact ⟨rfl, rfl⟩
end Go.Proofs.Ytlbcmgphibeeiaa
