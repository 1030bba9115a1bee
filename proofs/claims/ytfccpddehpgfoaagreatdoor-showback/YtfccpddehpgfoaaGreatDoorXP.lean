/- By the verifier. -/
import Derived.Test.YtfccpddehpgfoaaGreatDoorProg
import Derived.WalkKit
import Derived.WalkSpells
import Derived.WalkLawsBesides
import Derived.Deep.QuietTactic
import Derived.BigQuiet
set_option maxHeartbeats 800000
namespace Go.Proofs.YtfccpddehpgfoaaGreatDoor
open Go.RowKit
set_option linter.unusedVariables false
theorem Hd {p : Prop} (h : p) : Hid p := h
theorem uh {p : Prop} (h : Hid p) : p := h
theorem Zr {B : Nat} {w : World} : Below B w w := Below.refl B w
theorem Zl {n : Nat} : n ≤ n := Nat.le_refl n
theorem Zz {α : Type} {a b : α} {l : List α} : (a :: l).set 0 b = b :: l := rfl
theorem Zs {α : Type} {a b : α} {n : Nat} {l : List α} : (a :: l).set (n + 1) b = a :: l.set n b := rfl
theorem Zt {α : Type} {l : List α} {i : Nat} {a : α} : l.toArray.setIfInBounds i a = (l.set i a).toArray := List.setIfInBounds_toArray _ _ _
theorem Zc {w w' : World} {a : Addr} (h : w'.heap[a.block]? = w.heap[a.block]?) : w'.cell? a = w.cell? a := World.cell?_of_block h
theorem Zf {w w' : World} {a : Addr} (h : w'.heap[a.block]? = w.heap[a.block]?) : w'.frozen? a = w.frozen? a := World.frozen?_of_block h
theorem Zb : (false = true) = False := Bool.false_eq_true
theorem Zg {α : Type} {l : List α} {i : Nat} (h : i < l.length) : l[i]? = some l[i] := List.getElem?_eq_getElem h
theorem Za {α : Type} {l k : List α} : (l ++ k).length = l.length + k.length := List.length_append
theorem Zo {α : Type} {a : α} {l : List α} : (a :: l).length = l.length + 1 := List.length_cons
theorem Zbk {w w1 : World} {o : Obj} (hb : Below (w.alloc o).heap.size (w.alloc o) w1) : Below w.heap.size w w1 :=
 ((Below.refl w.heap.size w).alloc Zl o).trans (hb.mono (by simp))
theorem Zky {W w1 : World} (hb : Below W.heap.size W w1) : (∀ b o, b < W.heap.size → w1.cell? ⟨b, o, none⟩ = W.cell? ⟨b, o, none⟩) ∧ (∀ b o, b < W.heap.size → w1.frozen? ⟨b, o, none⟩ = W.frozen? ⟨b, o, none⟩) :=
 ⟨fun b o h => hb.cell (p := ⟨b, o, none⟩) h, fun b o h => hb.frozen (p := ⟨b, o, none⟩) h⟩
theorem Za2 {k : IntKind} {a b : Int} (h : a = b) : Ending.returned (.int k a) = .returned (.int k b) := by rw [h]
theorem Zaj {a b : Bool} (h : a = b) : Ending.returned (.bool a) = .returned (.bool b) := by rw [h]
end Go.Proofs.YtfccpddehpgfoaaGreatDoor
namespace Go.Proofs.YtfccpddehpgfoaaGreatDoor.Tk
set_option linter.unusedVariables false
def B (s : ByteArray) : List Int := s.data.toList.map fun c => (c.toNat : Int)
theorem B_length (s : ByteArray) : (B s).length = s.size := by
 unfold B; rw [List.length_map]; rfl
theorem B_drop (s : ByteArray) (k : Nat) (h : k < s.size) : (B s).drop k = (s[k].toNat : Int) :: (B s).drop (k + 1) := by
 have h1 : k < (B s).length := by rw [B_length]; exact h
 rw [List.drop_eq_getElem_cons h1]
 congr 1
 simp [B]
 rfl
theorem B_drop_end (s : ByteArray) (k : Nat) (h : s.size ≤ k) : (B s).drop k = [] :=
 List.drop_eq_nil_of_le (by rw [B_length]; exact h)
def isL (c : Int) : Bool := decide (97 ≤ c ∧ c ≤ 122)
def isD (c : Int) : Bool := decide (48 ≤ c ∧ c ≤ 57)
def isLD (c : Int) : Bool := isL c || isD c
def notNl (c : Int) : Bool := !(c == 10)
def run (p : Int → Bool) : List Int → Nat
 | [] => 0
 | c :: r => if p c then run p r + 1 else 0
theorem run_le (p : Int → Bool) (l : List Int) : run p l ≤ l.length := by
 induction l with
 | nil => simp [run]
 | cons c r ih => simp only [run]; split <;> simp <;> omega
def gap : Bool → List Int → Nat
 | _, [] => 0
 | true, c :: r => if c == 10 then gap false r + 1 else gap true r + 1
 | false, c :: r => if c == 32 || c == 9 || c == 10 then gap false r + 1 else if c == 35 then gap true r + 1 else 0
theorem gap_le (b : Bool) (l : List Int) : gap b l ≤ l.length := by
 induction l generalizing b with
 | nil => cases b <;> simp [gap]
 | cons c r ih =>
  have h1 := ih true
  have h2 := ih false
  cases b <;> simp only [gap] <;> repeat (first | split | (simp; done) | (simp; omega))
theorem gap_true (l : List Int) : gap true l = run notNl l + gap false (l.drop (run notNl l)) := by
 induction l with
 | nil => simp [gap, run]
 | cons c r ih =>
  by_cases h : c = 10
  · subst h
    simp [gap, run, notNl]
  simp [gap, run, notNl, h]
  omega
def signs : List Int := [123, 125, 40, 41, 91, 93, 59, 44, 61, 43, 45, 42, 47, 37, 60]
def isSign (c : Int) : Bool := signs.contains c
def tokK : List Int → Nat
 | [] => 0
 | c :: r => if isL c then 1 else if isD c then 2 else if c == 61 && r.head? == some 61 then 3 else if isSign c then 3 else 0
def tokN : List Int → Nat
 | [] => 0
 | c :: r => if isL c then run isLD r + 1 else if isD c then run isD r + 1 else if c == 61 && r.head? == some 61 then 2 else if isSign c then 1 else 0
def bad : List Int → Nat
 | [] => 1
 | c :: r => if isL c then (if 12 < run isLD r + 1 then 2 else 0) else if isD c then (if 7 < run isD r + 1 then 2 else if c == 48 && decide (1 < run isD r + 1) then 1 else 0)
  else if c == 61 && r.head? == some 61 then 0 else if isSign c then 0 else 1
end Go.Proofs.YtfccpddehpgfoaaGreatDoor.Tk
namespace Go.Proofs.YtfccpddehpgfoaaGreatDoor
open Go.RowKit
set_option linter.unusedVariables false
theorem Zbf (c : Int) (w : World) :
  Calls Tryz.prog 114 #[.int .u8 c] w fun e w' => e = .returned (.bool (Tk.isL c)) ∧ w' = w := by
 by_cases h : 97 ≤ c ∧ c ≤ 122
 · obtain ⟨h1, h2⟩ := h
   have hh : Tk.isL c = true := by simp [Tk.isL, h1, h2]
   rw [hh]; clear hh
   go_enter Tryz.func114, Tryz.ntmps114
   go_wp2
   go_ret
   exact ⟨rfl, rfl⟩
 have hh : Tk.isL c = false := by simp [Tk.isL]; omega
 rw [hh]; clear hh
 by_cases h1 : 97 ≤ c
 · have h2 : ¬ c ≤ 122 := by omega
   clear h
   go_enter Tryz.func114, Tryz.ntmps114
   go_wp2
   go_ret
   exact ⟨rfl, rfl⟩
 clear h
 go_enter Tryz.func114, Tryz.ntmps114
 go_wp2
 go_ret
 exact ⟨rfl, rfl⟩
theorem ZbG (c : Int) (w : World) :
  Calls Tryz.prog 116 #[.int .u8 c] w fun e w' => e = .returned (.bool (Tk.isD c)) ∧ w' = w := by
 by_cases h : 48 ≤ c ∧ c ≤ 57
 · obtain ⟨h1, h2⟩ := h
   have hh : Tk.isD c = true := by simp [Tk.isD, h1, h2]
   rw [hh]; clear hh
   go_enter Tryz.func116, Tryz.ntmps116
   go_wp2
   go_ret
   exact ⟨rfl, rfl⟩
 have hh : Tk.isD c = false := by simp [Tk.isD]; omega
 rw [hh]; clear hh
 by_cases h1 : 48 ≤ c
 · have h2 : ¬ c ≤ 57 := by omega
   clear h
   go_enter Tryz.func116, Tryz.ntmps116
   go_wp2
   go_ret
   exact ⟨rfl, rfl⟩
 clear h
 go_enter Tryz.func116, Tryz.ntmps116
 go_wp2
 go_ret
 exact ⟨rfl, rfl⟩
theorem Zlk (c : Int) (w : World) :
  Calls Tryz.prog 113 #[.int .u8 c] w fun e w' => e = .returned (.bool (Tk.notNl c)) ∧ w' = w := by
 go_enter Tryz.func113, Tryz.ntmps113
 go_wp2
 go_ret
 exact ⟨rfl, rfl⟩
theorem ZlJ (c : Int) (w : World) :
  Calls Tryz.prog 157 #[.int .u8 c] w fun e w' => e = .returned (.bool (Tk.isLD c)) ∧ w' = w := by
 cases h : Tk.isL c
 · have hh : Tk.isLD c = Tk.isD c := by simp [Tk.isLD, h]
   rw [hh]; clear hh
   have H : Hid (Tk.isL c = false) := h
   clear h
   go_enter Tryz.func157, Tryz.ntmps157
   go_wp2_with fail
   refine (Zbf _ _).mono ?_
   rintro e w' ⟨rfl, rfl⟩
   rw [H.out]
   go_wp2_with fail
   refine (ZbG _ _).mono ?_
   rintro e w' ⟨rfl, rfl⟩
   go_wp2_with fail
   go_ret
   exact ⟨rfl, rfl⟩
 have hh : Tk.isLD c = true := by simp [Tk.isLD, h]
 rw [hh]; clear hh
 have H : Hid (Tk.isL c = true) := h
 clear h
 go_enter Tryz.func157, Tryz.ntmps157
 go_wp2_with fail
 refine (Zbf _ _).mono ?_
 rintro e w' ⟨rfl, rfl⟩
 rw [H.out]
 go_wp2_with fail
 go_ret
 exact ⟨rfl, rfl⟩
theorem Zbr (p : Int → Bool) (s : ByteArray) (k : Nat) (h : k < s.size) :
  Tk.run p ((Tk.B s).drop k) = if p (s[k].toNat : Int) then Tk.run p ((Tk.B s).drop (k + 1)) + 1 else 0 := by
 rw [Tk.B_drop s k h]; rfl
theorem ZbX (p : Int → Bool) (s : ByteArray) (k : Nat) (h : k ≤ s.size) : k + Tk.run p ((Tk.B s).drop k) ≤ s.size := by
 have := Tk.run_le p ((Tk.B s).drop k)
 rw [List.length_drop, Tk.B_length] at this
 omega
theorem Zlc (s : ByteArray) (i : Nat) (w : World) (hs : s.size ≤ maxLen) (hi : i ≤ s.size) :
  Calls Tryz.prog 112 #[.string s, .int .i64 i, .func (.func 113) #[] #[]] w fun e w' => e = .returned (.int .i64 ((i + Tk.run Tk.notNl ((Tk.B s).drop i) : Nat) : Int)) ∧ w' = w := by
 unfold maxLen at hs
 go_enter Tryz.func112, Tryz.ntmps112
 go_wp2_with fail
 go_loop [1] (fun v => ∃ k : Nat, k ≤ s.size ∧ v = .int .i64 k ∧ k + Tk.run Tk.notNl ((Tk.B s).drop k) = i + Tk.run Tk.notNl ((Tk.B s).drop i)) (fun v => s.size - (intOf v).toNat)
 case atStart => exact ⟨i, hi, rfl, rfl⟩
 case round =>
  obtain ⟨k, hk, rfl, hrun⟩ := hrel
  have HR : Hid (k + Tk.run Tk.notNl ((Tk.B s).drop k) = i + Tk.run Tk.notNl ((Tk.B s).drop i)) := hrun
  clear hrun
  by_cases hlt : k < s.size
  · have hst : Hid (Tk.run Tk.notNl ((Tk.B s).drop k) = if Tk.notNl (s[k].toNat : Int) then Tk.run Tk.notNl ((Tk.B s).drop (k + 1)) + 1 else 0) := Zbr Tk.notNl s k hlt
    go_wp2_with fail
    refine (Zlk _ _).mono ?_
    rintro e w' ⟨rfl, rfl⟩
    cases hp : Tk.notNl (s[k].toNat : Int)
    · have h1 : Hid (k = i + Tk.run Tk.notNl ((Tk.B s).drop i)) := by
       have a := hst.out; have b := HR.out; rw [hp] at a; simp at a; show _ = _; omega
      clear hst HR hp
      go_wp2_with fail
      go_ret
      exact ⟨Za2 (by have := h1.out; omega), rfl⟩
    have h1 : Hid (k + 1 + Tk.run Tk.notNl ((Tk.B s).drop (k + 1)) = i + Tk.run Tk.notNl ((Tk.B s).drop i)) := by
     have a := hst.out; have b := HR.out; rw [hp] at a; simp at a; show _ = _; omega
    clear hst HR hp
    go_wp2_with fail
    go_round
    case rel => exact ⟨k + 1, by omega, by go_num, h1.out⟩
    case measure => simp [intOf]; omega
  have h0 : Hid (k = i + Tk.run Tk.notNl ((Tk.B s).drop i)) := by
   have b := HR.out
   rw [Tk.B_drop_end s k (by omega)] at b
   exact b
  clear HR
  go_wp2_with fail
  go_ret
  exact ⟨Za2 (by have := h0.out; omega), rfl⟩
theorem ZcO (s : ByteArray) (i : Nat) (w : World) (hs : s.size ≤ maxLen) (hi : i ≤ s.size) :
  Calls Tryz.prog 112 #[.string s, .int .i64 i, .func (.func 116) #[] #[]] w fun e w' => e = .returned (.int .i64 ((i + Tk.run Tk.isD ((Tk.B s).drop i) : Nat) : Int)) ∧ w' = w := by
 unfold maxLen at hs
 go_enter Tryz.func112, Tryz.ntmps112
 go_wp2_with fail
 go_loop [1] (fun v => ∃ k : Nat, k ≤ s.size ∧ v = .int .i64 k ∧ k + Tk.run Tk.isD ((Tk.B s).drop k) = i + Tk.run Tk.isD ((Tk.B s).drop i)) (fun v => s.size - (intOf v).toNat)
 case atStart => exact ⟨i, hi, rfl, rfl⟩
 case round =>
  obtain ⟨k, hk, rfl, hrun⟩ := hrel
  have HR : Hid (k + Tk.run Tk.isD ((Tk.B s).drop k) = i + Tk.run Tk.isD ((Tk.B s).drop i)) := hrun
  clear hrun
  by_cases hlt : k < s.size
  · have hst : Hid (Tk.run Tk.isD ((Tk.B s).drop k) = if Tk.isD (s[k].toNat : Int) then Tk.run Tk.isD ((Tk.B s).drop (k + 1)) + 1 else 0) := Zbr Tk.isD s k hlt
    go_wp2_with fail
    refine (ZbG _ _).mono ?_
    rintro e w' ⟨rfl, rfl⟩
    cases hp : Tk.isD (s[k].toNat : Int)
    · have h1 : Hid (k = i + Tk.run Tk.isD ((Tk.B s).drop i)) := by
       have a := hst.out; have b := HR.out; rw [hp] at a; simp at a; show _ = _; omega
      clear hst HR hp
      go_wp2_with fail
      go_ret
      exact ⟨Za2 (by have := h1.out; omega), rfl⟩
    have h1 : Hid (k + 1 + Tk.run Tk.isD ((Tk.B s).drop (k + 1)) = i + Tk.run Tk.isD ((Tk.B s).drop i)) := by
     have a := hst.out; have b := HR.out; rw [hp] at a; simp at a; show _ = _; omega
    clear hst HR hp
    go_wp2_with fail
    go_round
    case rel => exact ⟨k + 1, by omega, by go_num, h1.out⟩
    case measure => simp [intOf]; omega
  have h0 : Hid (k = i + Tk.run Tk.isD ((Tk.B s).drop i)) := by
   have b := HR.out
   rw [Tk.B_drop_end s k (by omega)] at b
   exact b
  clear HR
  go_wp2_with fail
  go_ret
  exact ⟨Za2 (by have := h0.out; omega), rfl⟩
theorem Zfy (s : ByteArray) (i : Nat) (w : World) (hs : s.size ≤ maxLen) (hi : i ≤ s.size) :
  Calls Tryz.prog 112 #[.string s, .int .i64 i, .func (.func 157) #[] #[]] w fun e w' => e = .returned (.int .i64 ((i + Tk.run Tk.isLD ((Tk.B s).drop i) : Nat) : Int)) ∧ w' = w := by
 unfold maxLen at hs
 go_enter Tryz.func112, Tryz.ntmps112
 go_wp2_with fail
 go_loop [1] (fun v => ∃ k : Nat, k ≤ s.size ∧ v = .int .i64 k ∧ k + Tk.run Tk.isLD ((Tk.B s).drop k) = i + Tk.run Tk.isLD ((Tk.B s).drop i)) (fun v => s.size - (intOf v).toNat)
 case atStart => exact ⟨i, hi, rfl, rfl⟩
 case round =>
  obtain ⟨k, hk, rfl, hrun⟩ := hrel
  have HR : Hid (k + Tk.run Tk.isLD ((Tk.B s).drop k) = i + Tk.run Tk.isLD ((Tk.B s).drop i)) := hrun
  clear hrun
  by_cases hlt : k < s.size
  · have hst : Hid (Tk.run Tk.isLD ((Tk.B s).drop k) = if Tk.isLD (s[k].toNat : Int) then Tk.run Tk.isLD ((Tk.B s).drop (k + 1)) + 1 else 0) := Zbr Tk.isLD s k hlt
    go_wp2_with fail
    refine (ZlJ _ _).mono ?_
    rintro e w' ⟨rfl, rfl⟩
    cases hp : Tk.isLD (s[k].toNat : Int)
    · have h1 : Hid (k = i + Tk.run Tk.isLD ((Tk.B s).drop i)) := by
       have a := hst.out; have b := HR.out; rw [hp] at a; simp at a; show _ = _; omega
      clear hst HR hp
      go_wp2_with fail
      go_ret
      exact ⟨Za2 (by have := h1.out; omega), rfl⟩
    have h1 : Hid (k + 1 + Tk.run Tk.isLD ((Tk.B s).drop (k + 1)) = i + Tk.run Tk.isLD ((Tk.B s).drop i)) := by
     have a := hst.out; have b := HR.out; rw [hp] at a; simp at a; show _ = _; omega
    clear hst HR hp
    go_wp2_with fail
    go_round
    case rel => exact ⟨k + 1, by omega, by go_num, h1.out⟩
    case measure => simp [intOf]; omega
  have h0 : Hid (k = i + Tk.run Tk.isLD ((Tk.B s).drop i)) := by
   have b := HR.out
   rw [Tk.B_drop_end s k (by omega)] at b
   exact b
  clear HR
  go_wp2_with fail
  go_ret
  exact ⟨Za2 (by have := h0.out; omega), rfl⟩
theorem Zdf (s : ByteArray) (k : Nat) (h : k < s.size) (hc : ((s[k].toNat : Int) == 32 || (s[k].toNat : Int) == 9 || (s[k].toNat : Int) == 10) = true) :
  Tk.gap false ((Tk.B s).drop k) = Tk.gap false ((Tk.B s).drop (k + 1)) + 1 := by
 rw [Tk.B_drop s k h]; simp only [Tk.gap, hc, if_true]
theorem Zjs (s : ByteArray) (k : Nat) (h : k < s.size) (h32 : ((s[k].toNat : Int) == 32) = false) (h9 : ((s[k].toNat : Int) == 9) = false) (h10 : ((s[k].toNat : Int) == 10) = false)
  (h35 : ((s[k].toNat : Int) == 35) = false) : Tk.gap false ((Tk.B s).drop k) = 0 := by
 rw [Tk.B_drop s k h]; simp only [Tk.gap, h32, h9, h10, h35]; rfl
theorem Zjw (s : ByteArray) (k : Nat) (h : k < s.size) (h35 : ((s[k].toNat : Int) == 35) = true) :
  Tk.gap false ((Tk.B s).drop k) = Tk.run Tk.notNl ((Tk.B s).drop k) + Tk.gap false ((Tk.B s).drop (k + Tk.run Tk.notNl ((Tk.B s).drop k))) ∧ 0 < Tk.run Tk.notNl ((Tk.B s).drop k) := by
 have e : (s[k].toNat : Int) = 35 := by simpa using h35
 have hr : Tk.run Tk.notNl ((Tk.B s).drop k) = Tk.run Tk.notNl ((Tk.B s).drop (k + 1)) + 1 := by
  rw [Zbr _ s k h, e]; rfl
 have hg : Tk.gap false ((Tk.B s).drop k) = Tk.gap true ((Tk.B s).drop (k + 1)) + 1 := by
  rw [Tk.B_drop s k h, e]; rfl
 have ht := Tk.gap_true ((Tk.B s).drop (k + 1))
 rw [List.drop_drop] at ht
 refine ⟨?_, by omega⟩
 rw [hg, ht, hr, show k + (Tk.run Tk.notNl ((Tk.B s).drop (k + 1)) + 1) = k + 1 + Tk.run Tk.notNl ((Tk.B s).drop (k + 1)) from by omega]
 omega
theorem ZeJ (s : ByteArray) (k : Nat) (h : k ≤ s.size) : k + Tk.gap false ((Tk.B s).drop k) ≤ s.size := by
 have := Tk.gap_le false ((Tk.B s).drop k)
 rw [List.length_drop, Tk.B_length] at this
 omega
theorem Zef (s : ByteArray) (i : Nat) (w : World) (hs : s.size ≤ maxLen) (hi : i ≤ s.size) :
  Calls Tryz.prog 67 #[.string s, .int .i64 i] w fun e w' => e = .returned (.int .i64 ((i + Tk.gap false ((Tk.B s).drop i) : Nat) : Int)) ∧ w' = w := by
 have hs' := hs
 unfold maxLen at hs'
 have HS : Hid (s.size ≤ maxLen) := hs
 clear hs
 go_enter Tryz.func67, Tryz.ntmps67
 go_wp2_with fail
 go_loop [1] (fun v => ∃ k : Nat, k ≤ s.size ∧ v = .int .i64 k ∧ k + Tk.gap false ((Tk.B s).drop k) = i + Tk.gap false ((Tk.B s).drop i)) (fun v => s.size - (intOf v).toNat)
 case atStart => exact ⟨i, hi, rfl, rfl⟩
 case round =>
  obtain ⟨k, hk, rfl, hrun⟩ := hrel
  have HR : Hid (k + Tk.gap false ((Tk.B s).drop k) = i + Tk.gap false ((Tk.B s).drop i)) := hrun
  clear hrun
  by_cases hlt : k < s.size
  · cases h32 : ((s[k].toNat : Int) == 32)
    · cases h9 : ((s[k].toNat : Int) == 9)
      · cases h10 : ((s[k].toNat : Int) == 10)
        · cases h35 : ((s[k].toNat : Int) == 35)
          · have h1 : Hid (k = i + Tk.gap false ((Tk.B s).drop i)) := by
             have a := Zjs s k hlt h32 h9 h10 h35; have b := HR.out; show _ = _; omega
            clear HR
            go_wp2_with fail
            go_ret
            exact ⟨Za2 (by have := h1.out; omega), rfl⟩
          have h1 := Zjw s k hlt h35
          have h2 := ZbX Tk.notNl s k hk
          have h3 : 0 < Tk.run Tk.notNl ((Tk.B s).drop k) := h1.2
          have H1 := Hd h1.1
          clear h1
          go_wp2_with fail
          refine (Zlc s k _ HS.out hk).mono ?_
          rintro e w' ⟨rfl, rfl⟩
          generalize hm : Tk.run Tk.notNl ((Tk.B s).drop k) = m at *
          have HM := Hd hm
          clear hm
          go_wp2_with fail
          go_round
          case rel => exact ⟨k + m, h2, by go_num, by have a := HR.out; have b := uh H1; omega⟩
          case measure => simp [intOf]; omega
        all_goals skip
        have h1 : Hid (k + 1 + Tk.gap false ((Tk.B s).drop (k + 1)) = i + Tk.gap false ((Tk.B s).drop i)) := by
         have a := Zdf s k hlt (by simp [h10]); have b := HR.out; show _ = _; omega
        clear HR
        go_wp2_with fail
        go_round
        case rel => exact ⟨k + 1, by omega, by go_num, h1.out⟩
        case measure => simp [intOf]; omega
      have h1 : Hid (k + 1 + Tk.gap false ((Tk.B s).drop (k + 1)) = i + Tk.gap false ((Tk.B s).drop i)) := by
       have a := Zdf s k hlt (by simp [h9]); have b := HR.out; show _ = _; omega
      clear HR
      go_wp2_with fail
      go_round
      case rel => exact ⟨k + 1, by omega, by go_num, h1.out⟩
      case measure => simp [intOf]; omega
    have h1 : Hid (k + 1 + Tk.gap false ((Tk.B s).drop (k + 1)) = i + Tk.gap false ((Tk.B s).drop i)) := by
     have a := Zdf s k hlt (by simp [h32]); have b := HR.out; show _ = _; omega
    clear HR
    go_wp2_with fail
    go_round
    case rel => exact ⟨k + 1, by omega, by go_num, h1.out⟩
    case measure => simp [intOf]; omega
  have h0 : Hid (k = i + Tk.gap false ((Tk.B s).drop i)) := by
   have b := HR.out
   rw [Tk.B_drop_end s k (by omega)] at b
   exact b
  clear HR
  go_wp2_with fail
  go_ret
  exact ⟨Za2 (by have := h0.out; omega), rfl⟩
def ZbO (at_ : Nat) (why : Int) : List PanicEntry := [{ v := .iface 113 (.agg #[.int .i64 (at_ : Int), .int .i64 why]), recovered := false }]
def Zbc (k : Int) (at_ n : Nat) (s : ByteArray) : Value := .agg #[.int .i64 k, .int .i64 (at_ : Int), .string (s.extract at_ (at_ + n))]
theorem Zlg (s : ByteArray) (i n : Nat) (w : World) (hs : s.size ≤ maxLen) (hi : i ≤ s.size) (hn : Tk.run Tk.isLD ((Tk.B s).drop i) = n) (h12 : n ≤ 12) :
  Calls Tryz.prog 115 #[.string s, .int .i64 i] w fun e w' => e = .returned (Zbc 1 i n s) ∧ Below w.heap.size w w' := by
 have hb := ZbX Tk.isLD s i hi
 rw [hn] at hb
 have hs' := hs
 unfold maxLen at hs'
 have HS := Hd hs
 have HN := Hd hn
 clear hs hn
 go_enter Tryz.func115, Tryz.ntmps115
 go_wp2_with fail
 refine (Zfy s i _ (uh HS) hi).mono ?_
 rintro e w' ⟨rfl, rfl⟩
 rw [uh HN]
 go_wp2_with fail
 exact bodyPost_ret (v := Zbc 1 i n s) (by simp [results, Tryz.results115, go_sem, Zbc]) rfl ⟨rfl, Zr.alloc Zl _⟩
theorem Zju (s : ByteArray) (i n : Nat) (w : World) (hs : s.size ≤ maxLen) (hi : i ≤ s.size) (hn : Tk.run Tk.isLD ((Tk.B s).drop i) = n) (h12 : 12 < n) :
  Calls Tryz.prog 115 #[.string s, .int .i64 i] w fun e w' => e = .panicked (ZbO i 2) ∧ Below w.heap.size w w' := by
 have hb := ZbX Tk.isLD s i hi
 rw [hn] at hb
 have hs' := hs
 unfold maxLen at hs'
 have HS := Hd hs
 have HN := Hd hn
 clear hs hn
 go_enter Tryz.func115, Tryz.ntmps115
 go_wp2_with fail
 refine (Zfy s i _ (uh HS) hi).mono ?_
 rintro e w' ⟨rfl, rfl⟩
 rw [uh HN]
 go_wp2_with fail
 exact ⟨rfl, rfl, Zr.alloc Zl _⟩
theorem Zi1 (s : ByteArray) (i n : Nat) (w : World) (hs : s.size ≤ maxLen) (hi : i < s.size) (hn : Tk.run Tk.isD ((Tk.B s).drop i) = n) (h7 : n ≤ 7)
  (hz : ((s[i].toNat : Int) == 48) = false ∨ n ≤ 1) :
  Calls Tryz.prog 117 #[.string s, .int .i64 i] w fun e w' => e = .returned (Zbc 2 i n s) ∧ Below w.heap.size w w' := by
 have hb := ZbX Tk.isD s i (by omega)
 rw [hn] at hb
 have hs' := hs
 unfold maxLen at hs'
 have HS := Hd hs
 have HN := Hd hn
 clear hs hn
 cases h48 : ((s[i].toNat : Int) == 48)
 · clear hz
   go_enter Tryz.func117, Tryz.ntmps117
   go_wp2_with fail
   refine (ZcO s i _ (uh HS) (by omega)).mono ?_
   rintro e w' ⟨rfl, rfl⟩
   rw [uh HN]
   go_wp2_with fail
   exact bodyPost_ret (v := Zbc 2 i n s) (by simp [results, Tryz.results117, go_sem, Zbc]) rfl ⟨rfl, Zr.alloc Zl _⟩
 have hn1 : n ≤ 1 := by rcases hz with hz | hz; (rw [h48] at hz; cases hz); exact hz
 clear hz
 go_enter Tryz.func117, Tryz.ntmps117
 go_wp2_with fail
 refine (ZcO s i _ (uh HS) (by omega)).mono ?_
 rintro e w' ⟨rfl, rfl⟩
 rw [uh HN]
 go_wp2_with fail
 exact bodyPost_ret (v := Zbc 2 i n s) (by simp [results, Tryz.results117, go_sem, Zbc]) rfl ⟨rfl, Zr.alloc Zl _⟩
theorem Zhk (s : ByteArray) (i n : Nat) (w : World) (hs : s.size ≤ maxLen) (hi : i < s.size) (hn : Tk.run Tk.isD ((Tk.B s).drop i) = n) (h7 : 7 < n) :
  Calls Tryz.prog 117 #[.string s, .int .i64 i] w fun e w' => e = .panicked (ZbO i 2) ∧ Below w.heap.size w w' := by
 have hb := ZbX Tk.isD s i (by omega)
 rw [hn] at hb
 have hs' := hs
 unfold maxLen at hs'
 have HS := Hd hs
 have HN := Hd hn
 clear hs hn
 go_enter Tryz.func117, Tryz.ntmps117
 go_wp2_with fail
 refine (ZcO s i _ (uh HS) (by omega)).mono ?_
 rintro e w' ⟨rfl, rfl⟩
 rw [uh HN]
 go_wp2_with fail
 exact ⟨rfl, rfl, Zr.alloc Zl _⟩
theorem Zfp (s : ByteArray) (i n : Nat) (w : World) (hs : s.size ≤ maxLen) (hi : i < s.size) (hn : Tk.run Tk.isD ((Tk.B s).drop i) = n) (h7 : n ≤ 7)
  (h48 : ((s[i].toNat : Int) == 48) = true) (h1 : 1 < n) :
  Calls Tryz.prog 117 #[.string s, .int .i64 i] w fun e w' => e = .panicked (ZbO i 1) ∧ Below w.heap.size w w' := by
 have hb := ZbX Tk.isD s i (by omega)
 rw [hn] at hb
 have hs' := hs
 unfold maxLen at hs'
 have HS := Hd hs
 have HN := Hd hn
 clear hs hn
 go_enter Tryz.func117, Tryz.ntmps117
 go_wp2_with fail
 refine (ZcO s i _ (uh HS) (by omega)).mono ?_
 rintro e w' ⟨rfl, rfl⟩
 rw [uh HN]
 go_wp2_with fail
 exact ⟨rfl, rfl, Zr.alloc Zl _⟩
def ZcL (n a b : Int) : Bool := decide (a ≤ n ∧ n ≤ b)
theorem Zbz (n a b : Int) (w : World) :
  Calls Tryz.prog 30 #[.int .i64 n, .int .i64 a, .int .i64 b] w fun e w' => e = .returned (.bool (ZcL n a b)) ∧ w' = w := by
 by_cases h1 : a ≤ n
 · by_cases h2 : n ≤ b
   · have hh : ZcL n a b = true := by simp [ZcL, h1, h2]
     rw [hh]; clear hh
     go_enter Tryz.func30, Tryz.ntmps30
     go_wp2
     go_ret
     exact ⟨rfl, rfl⟩
   have hh : ZcL n a b = false := by simp [ZcL]; omega
   rw [hh]; clear hh
   go_enter Tryz.func30, Tryz.ntmps30
   go_wp2
   go_ret
   exact ⟨rfl, rfl⟩
 have hh : ZcL n a b = false := by simp [ZcL]; omega
 rw [hh]; clear hh
 go_enter Tryz.func30, Tryz.ntmps30
 go_wp2
 go_ret
 exact ⟨rfl, rfl⟩
theorem Zbl (c : Int) (w : World) (h0 : 0 ≤ c) (h1 : c ≤ 255) :
  Calls Tryz.prog 147 #[.int .u8 c] w fun e w' => e = .returned (.bool (Tk.isL c)) ∧ w' = w := by
 go_enter Tryz.func147, Tryz.ntmps147
 go_wp2_with fail
 refine (Zbz _ _ _ _).mono ?_
 rintro e w' ⟨rfl, rfl⟩
 go_wp2_with fail
 go_ret
 exact ⟨rfl, rfl⟩
theorem Zbe (c : Int) (w : World) (h0 : 0 ≤ c) (h1 : c ≤ 255) :
  Calls Tryz.prog 132 #[.int .u8 c] w fun e w' => e = .returned (.bool (Tk.isD c)) ∧ w' = w := by
 go_enter Tryz.func132, Tryz.ntmps132
 go_wp2_with fail
 refine (Zbz _ _ _ _).mono ?_
 rintro e w' ⟨rfl, rfl⟩
 go_wp2_with fail
 go_ret
 exact ⟨rfl, rfl⟩
end Go.Proofs.YtfccpddehpgfoaaGreatDoor
