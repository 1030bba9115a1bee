/-
  The contracts of tree's list, by its closure. By the verifier.
-/
import Derived.Test.YtfccpddehpgfoaaGreatDoorUG
import Derived.Deep.LoopGhost
set_option maxRecDepth 100000
set_option maxHeartbeats 3200000
namespace Go.Proofs.YtfccpddehpgfoaaGreatDoor
open Go.RowKit
set_option linter.unusedVariables false
def Tp.OutI {α β : Type} (l : List Tp.T) (ta : Option Addr) (c bp : Nat) (e : Int) (fb pb xa : Nat) (xv : Value) (k : Nat) (ty : TypeId) (wide : Nat) (cl : α → List Value) (R : World → α → β → Prop) (b : Nat) (W0 : World) (o : Except Nat (List β × Nat)) (r : Ending) (w' : World) : Prop :=
 match o with
 | .error j => r = .panicked (Tp.gave (Tp.pl l e j)) ∧ Tp.Tu (fun q => q = bp ∨ q = fb) W0.heap.size W0 w'
 | .ok (xs, j) => r = .returned (.tuple #[]) ∧ ∃ v es, Tp.Ls l ta c bp e fb pb xa xv k ty wide cl R b W0 v es xs j w'
structure Tp.Mo {α β : Type} (l : List Tp.T) (ta : Option Addr) (c bp : Nat) (e : Int) (fb pb xa : Nat) (xv : Value) (k : Nat) (ty : TypeId) (wide : Nat) (cl : α → List Value) (R : World → α → β → Prop) (W0 : World) (thing : Nat → Except Nat (β × Nat)) (om : Except Nat (List β × Nat)) (f : Nat) (v : Value) (es : List α) (acc : List β) (i : Nat) (W : World) : Prop where
 ls : Tp.Ls l ta c bp e fb pb xa xv k ty wide cl R 1 W0 v es acc i W
 is : Tp.more l thing f i acc = om
 fuel : l.length < f + i
 many : es.length + f = l.length + 2
theorem tlist1_any {α β : Type} (l : List Tp.T) (ta : Option Addr) (c bp : Nat) (e : Int) (fb pb xa : Nat) (xv : Value) (k : Nat) (ty : TypeId) (wide : Nat) (cl : α → List Value) (R : World → α → β → Prop) (thing : Nat → Except Nat (β × Nat)) (fa i0 : Nat) (w : World)
  (HGo : ∀ i x j, thing i = .ok (x, j) → i < j)
  (HTh : ∀ (v : Value) (es : List α) (acc : List β) (i : Nat) (W : World), es.length ≤ 10002 → Tp.Ls l ta c bp e fb pb xa xv k ty wide cl R 1 w v es acc i W → Calls Tryz.prog 153 #[.pointer (some ⟨fa, 0, none⟩), .pointer (some ⟨pb, 0, none⟩)] W (Tp.OutL l ta c bp e fb pb xa xv k ty wide cl R 1 w es acc (thing i)))
  (h : Tp.Ls l ta c bp e fb pb xa xv k ty wide cl R 0 w (.slice none 0 0) [] [] i0 w) :
  Calls Tryz.prog 152 #[.pointer (some ⟨bp, 0, none⟩), .func (.func 153) #[] #[.pointer (some ⟨fa, 0, none⟩), .pointer (some ⟨pb, 0, none⟩)]] w (Tp.OutI l ta c bp e fb pb xa xv k ty wide cl R 0 w (Tp.list l thing i0)) := by
 obtain ⟨o, ho⟩ : ∃ o, Tp.list l thing i0 = o := ⟨_, rfl⟩
 rw [ho]
 have HEQ := hide ho
 have HG := hide HGo
 have HT := hide HTh
 have HL0 := hide h
 have hll := h.at_.fine.few
 have HO := hide (topen_any l ta c bp e ⟨#[40]⟩ (by decide) i0 0 (by omega) w h.at_)
 have hop : Tp.opens l ⟨#[40]⟩ 0 i0 = Tp.want l ⟨#[40]⟩ i0 := by unfold Tp.opens; rw [if_neg (by omega)]
 rw [hop] at HO
 clear h ho HGo HTh hop
 go_enter Tryz.func152, Tryz.ntmps152
 go_wp2_with fail
 refine (unhide HO).mono ?_
 intro r w1 h1
 cases hn : Tp.want l ⟨#[40]⟩ i0 with
 | error j =>
  rw [hn] at h1
  obtain ⟨rfl, ht⟩ := h1
  have HT1 := hide (ht.mono (D' := fun q => q = bp ∨ q = fb) (Nat.le_refl _) (fun _ _ h => Or.inl h))
  obtain rfl : o = .error j := by rw [← unhide HEQ]; simp only [Tp.list, hn]
  clear ht
  go_wp2_with fail
  exact ⟨rfl, rfl, unhide HT1⟩
 | ok i =>
  rw [hn] at h1
  obtain ⟨rfl, hj, ht⟩ := h1
  have HE1 := hide hn
  have HL1 := hide ((unhide HL0).step hj ht)
  clear hj ht hn HO HL0
  obtain ⟨y, hy⟩ : ∃ y, Tp.see l i ⟨#[41]⟩ = y := ⟨_, rfl⟩
  have HY := hide hy
  go_wp2_with fail
  refine (tsees_any l ta c bp e ⟨#[41]⟩ i 1 w1 (unhide HL1).at_ y hy).mono ?_
  rintro r w2 ⟨rfl, hb2⟩
  have HL2 := hide ((unhide HL1).step ((unhide HL1).at_.below hb2) (Tp.Tu.of_below hb2))
  clear hb2 HL1 hy
  cases y
  · have HT2 := hide ((unhide HT) _ _ _ _ _ (by simp) (unhide HL2))
    go_wp2_with fail
    refine (unhide HT2).mono ?_
    intro r w3 h3
    cases hn : thing i with
    | error j =>
     rw [hn] at h3
     obtain ⟨rfl, ht⟩ := h3
     have HT3 := hide ht
     obtain rfl : o = .error j := by rw [← unhide HEQ]; simp only [Tp.list, Tp.items, unhide HE1, unhide HY, Bool.false_eq_true, if_false, hn]
     clear ht
     go_wp2_with fail
     exact ⟨rfl, rfl, unhide HT3⟩
    | ok p =>
     obtain ⟨x, j⟩ := p
     rw [hn] at h3
     obtain ⟨rfl, v3, E3, hL3⟩ := h3
     obtain ⟨om, hom⟩ : ∃ om, Tp.more l thing (l.length + 1) j [x] = om := ⟨_, rfl⟩
     have hIT : Tp.items l thing i = om := by unfold Tp.items; rw [unhide HY, hn]; exact hom
     have HIT := hide hIT
     have HM0 := hide (show Tp.Mo l ta c bp e fb pb xa xv k ty wide cl R w thing om (l.length + 1) v3 ([] ++ [E3]) ([] ++ [x]) j w3 from ⟨hL3, hom, by omega, by simp; omega⟩)
     clear hL3 hom hIT hn HL2 HT2
     go_wp2_with fail
     go_loopg [] (l.length + 1) (fun f wr => ∃ v es acc i, Tp.Mo l ta c bp e fb pb xa xv k ty wide cl R w thing om f v es acc i wr)
     case atStart => exact ⟨_, _, _, _, unhide HM0⟩
     case round =>
      clear HM0 HY
      obtain ⟨v, es, acc, i, hm⟩ := hrel
      have hf := hm.fuel
      have hle := hm.ls.at_.le
      obtain ⟨f, rfl⟩ : ∃ f, gk = f + 1 := ⟨gk - 1, by omega⟩
      have HM := hide hm
      clear hm
      obtain ⟨y, hy⟩ : ∃ y, Tp.see l i ⟨#[44]⟩ = y := ⟨_, rfl⟩
      have HY := hide hy
      go_wp2_with fail
      refine (ttakeIf_any l ta c bp e ⟨#[44]⟩ (by decide) i 1 wr (unhide HM).ls.at_ y hy).mono ?_
      rintro r w4 ⟨rfl, hj4, ht4⟩
      have HL4 := hide ((unhide HM).ls.step hj4 ht4)
      clear hj4 ht4 hy
      cases y
      · replace HL4 := hide (show Tp.Ls l ta c bp e fb pb xa xv k ty wide cl R 1 w v es acc i w4 by simpa using unhide HL4)
        obtain rfl : om = .ok (acc, i) := by rw [← (unhide HM).is]; simp only [Tp.more, unhide HY, Bool.false_eq_true, if_false]
        have hL := unhide HL4
        have HC := hide (tclose_any l ta c bp e ⟨#[41]⟩ (by decide) i 0 (by omega) w4 hL.at_)
        clear hL
        go_wp2_with fail
        refine (unhide HC).mono ?_
        intro r w9 h9
        cases hn : Tp.want l ⟨#[41]⟩ i with
        | error j =>
         rw [hn] at h9
         obtain ⟨rfl, ht⟩ := h9
         have HT := hide ((unhide HL4).tu.then ht (unhide HL4).tu.size (fun _ _ h => Or.inl h))
         obtain rfl : o = .error j := by rw [← unhide HEQ]; simp only [Tp.list, unhide HE1, unhide HIT, hn]
         clear ht
         go_wp2_with fail
         exact ⟨rfl, rfl, unhide HT⟩
        | ok j =>
         rw [hn] at h9
         obtain ⟨rfl, hj, ht⟩ := h9
         obtain rfl : o = .ok (acc, j) := by rw [← unhide HEQ]; simp only [Tp.list, unhide HE1, unhide HIT, hn]
         have HL9 := hide ((unhide HL4).step hj ht)
         clear hj ht
         go_wp2_with fail
         go_end0
         exact ⟨rfl, _, _, unhide HL9⟩
      · replace HL4 := hide (show Tp.Ls l ta c bp e fb pb xa xv k ty wide cl R 1 w v es acc (i + 1) w4 by simpa using unhide HL4)
        have hmany := (unhide HM).many
        have HT4 := hide ((unhide HT) _ _ _ _ _ (by omega) (unhide HL4))
        go_wp2_with fail
        refine (unhide HT4).mono ?_
        intro r w5 h5
        cases hn : thing (i + 1) with
        | error j =>
         rw [hn] at h5
         obtain ⟨rfl, ht⟩ := h5
         have HT5 := hide ht
         obtain rfl : om = .error j := by rw [← (unhide HM).is]; simp only [Tp.more, unhide HY, if_true, hn]
         obtain rfl : o = .error j := by rw [← unhide HEQ]; simp only [Tp.list, unhide HE1, unhide HIT]
         clear ht
         go_wp2_with fail
         exact ⟨rfl, rfl, unhide HT5⟩
        | ok p =>
         obtain ⟨x, j⟩ := p
         rw [hn] at h5
         obtain ⟨rfl, v5, E5, hL5⟩ := h5
         have hgo := (unhide HG) _ _ _ hn
         have HM5 := hide (show Tp.Mo l ta c bp e fb pb xa xv k ty wide cl R w thing om f v5 (es ++ [E5]) (acc ++ [x]) j w5 from ⟨hL5, by rw [← (unhide HM).is]; simp only [Tp.more, unhide HY, if_true, hn], by omega, by rw [List.length_append]; simp; omega⟩)
         clear hL5 hn HT4 HL4
         go_wp2_with fail
         go_roundg f
         case measure => omega
         case rel => exact ⟨_, _, _, _, unhide HM5⟩
  · obtain ⟨acc, hacc⟩ : ∃ acc : List β, acc = [] := ⟨_, rfl⟩
    have HIT := hide (show Tp.items l thing i = .ok (acc, i) by unfold Tp.items; rw [unhide HY, hacc]; rfl)
    rw [← hacc] at HL2
    clear hacc
    have hL := unhide HL2
    have HC := hide (tclose_any l ta c bp e ⟨#[41]⟩ (by decide) i 0 (by omega) w2 hL.at_)
    clear hL
    go_wp2_with fail
    refine (unhide HC).mono ?_
    intro r w9 h9
    cases hn : Tp.want l ⟨#[41]⟩ i with
    | error j =>
     rw [hn] at h9
     obtain ⟨rfl, ht⟩ := h9
     have HT := hide ((unhide HL2).tu.then ht (unhide HL2).tu.size (fun _ _ h => Or.inl h))
     obtain rfl : o = .error j := by rw [← unhide HEQ]; simp only [Tp.list, unhide HE1, unhide HIT, hn]
     clear ht
     go_wp2_with fail
     exact ⟨rfl, rfl, unhide HT⟩
    | ok j =>
     rw [hn] at h9
     obtain ⟨rfl, hj, ht⟩ := h9
     obtain rfl : o = .ok (acc, j) := by rw [← unhide HEQ]; simp only [Tp.list, unhide HE1, unhide HIT, hn]
     have HL9 := hide ((unhide HL2).step hj ht)
     clear hj ht
     go_wp2_with fail
     go_end0
     exact ⟨rfl, _, _, unhide HL9⟩
theorem tlist2_any {α β : Type} (l : List Tp.T) (ta : Option Addr) (c bp : Nat) (e : Int) (fb pb xa : Nat) (xv : Value) (k : Nat) (ty : TypeId) (wide : Nat) (cl : α → List Value) (R : World → α → β → Prop) (thing : Nat → Except Nat (β × Nat)) (fa i0 : Nat) (w : World)
  (HGo : ∀ i x j, thing i = .ok (x, j) → i < j)
  (HTh : ∀ (v : Value) (es : List α) (acc : List β) (i : Nat) (W : World), es.length ≤ 10002 → Tp.Ls l ta c bp e fb pb xa xv k ty wide cl R 1 w v es acc i W → Calls Tryz.prog 213 #[.pointer (some ⟨fa, 0, none⟩), .pointer (some ⟨pb, 0, none⟩)] W (Tp.OutL l ta c bp e fb pb xa xv k ty wide cl R 1 w es acc (thing i)))
  (h : Tp.Ls l ta c bp e fb pb xa xv k ty wide cl R 0 w (.slice none 0 0) [] [] i0 w) :
  Calls Tryz.prog 152 #[.pointer (some ⟨bp, 0, none⟩), .func (.func 213) #[] #[.pointer (some ⟨fa, 0, none⟩), .pointer (some ⟨pb, 0, none⟩)]] w (Tp.OutI l ta c bp e fb pb xa xv k ty wide cl R 0 w (Tp.list l thing i0)) := by
 obtain ⟨o, ho⟩ : ∃ o, Tp.list l thing i0 = o := ⟨_, rfl⟩
 rw [ho]
 have HEQ := hide ho
 have HG := hide HGo
 have HT := hide HTh
 have HL0 := hide h
 have hll := h.at_.fine.few
 have HO := hide (topen_any l ta c bp e ⟨#[40]⟩ (by decide) i0 0 (by omega) w h.at_)
 have hop : Tp.opens l ⟨#[40]⟩ 0 i0 = Tp.want l ⟨#[40]⟩ i0 := by unfold Tp.opens; rw [if_neg (by omega)]
 rw [hop] at HO
 clear h ho HGo HTh hop
 go_enter Tryz.func152, Tryz.ntmps152
 go_wp2_with fail
 refine (unhide HO).mono ?_
 intro r w1 h1
 cases hn : Tp.want l ⟨#[40]⟩ i0 with
 | error j =>
  rw [hn] at h1
  obtain ⟨rfl, ht⟩ := h1
  have HT1 := hide (ht.mono (D' := fun q => q = bp ∨ q = fb) (Nat.le_refl _) (fun _ _ h => Or.inl h))
  obtain rfl : o = .error j := by rw [← unhide HEQ]; simp only [Tp.list, hn]
  clear ht
  go_wp2_with fail
  exact ⟨rfl, rfl, unhide HT1⟩
 | ok i =>
  rw [hn] at h1
  obtain ⟨rfl, hj, ht⟩ := h1
  have HE1 := hide hn
  have HL1 := hide ((unhide HL0).step hj ht)
  clear hj ht hn HO HL0
  obtain ⟨y, hy⟩ : ∃ y, Tp.see l i ⟨#[41]⟩ = y := ⟨_, rfl⟩
  have HY := hide hy
  go_wp2_with fail
  refine (tsees_any l ta c bp e ⟨#[41]⟩ i 1 w1 (unhide HL1).at_ y hy).mono ?_
  rintro r w2 ⟨rfl, hb2⟩
  have HL2 := hide ((unhide HL1).step ((unhide HL1).at_.below hb2) (Tp.Tu.of_below hb2))
  clear hb2 HL1 hy
  cases y
  · have HT2 := hide ((unhide HT) _ _ _ _ _ (by simp) (unhide HL2))
    go_wp2_with fail
    refine (unhide HT2).mono ?_
    intro r w3 h3
    cases hn : thing i with
    | error j =>
     rw [hn] at h3
     obtain ⟨rfl, ht⟩ := h3
     have HT3 := hide ht
     obtain rfl : o = .error j := by rw [← unhide HEQ]; simp only [Tp.list, Tp.items, unhide HE1, unhide HY, Bool.false_eq_true, if_false, hn]
     clear ht
     go_wp2_with fail
     exact ⟨rfl, rfl, unhide HT3⟩
    | ok p =>
     obtain ⟨x, j⟩ := p
     rw [hn] at h3
     obtain ⟨rfl, v3, E3, hL3⟩ := h3
     obtain ⟨om, hom⟩ : ∃ om, Tp.more l thing (l.length + 1) j [x] = om := ⟨_, rfl⟩
     have hIT : Tp.items l thing i = om := by unfold Tp.items; rw [unhide HY, hn]; exact hom
     have HIT := hide hIT
     have HM0 := hide (show Tp.Mo l ta c bp e fb pb xa xv k ty wide cl R w thing om (l.length + 1) v3 ([] ++ [E3]) ([] ++ [x]) j w3 from ⟨hL3, hom, by omega, by simp; omega⟩)
     clear hL3 hom hIT hn HL2 HT2
     go_wp2_with fail
     go_loopg [] (l.length + 1) (fun f wr => ∃ v es acc i, Tp.Mo l ta c bp e fb pb xa xv k ty wide cl R w thing om f v es acc i wr)
     case atStart => exact ⟨_, _, _, _, unhide HM0⟩
     case round =>
      clear HM0 HY
      obtain ⟨v, es, acc, i, hm⟩ := hrel
      have hf := hm.fuel
      have hle := hm.ls.at_.le
      obtain ⟨f, rfl⟩ : ∃ f, gk = f + 1 := ⟨gk - 1, by omega⟩
      have HM := hide hm
      clear hm
      obtain ⟨y, hy⟩ : ∃ y, Tp.see l i ⟨#[44]⟩ = y := ⟨_, rfl⟩
      have HY := hide hy
      go_wp2_with fail
      refine (ttakeIf_any l ta c bp e ⟨#[44]⟩ (by decide) i 1 wr (unhide HM).ls.at_ y hy).mono ?_
      rintro r w4 ⟨rfl, hj4, ht4⟩
      have HL4 := hide ((unhide HM).ls.step hj4 ht4)
      clear hj4 ht4 hy
      cases y
      · replace HL4 := hide (show Tp.Ls l ta c bp e fb pb xa xv k ty wide cl R 1 w v es acc i w4 by simpa using unhide HL4)
        obtain rfl : om = .ok (acc, i) := by rw [← (unhide HM).is]; simp only [Tp.more, unhide HY, Bool.false_eq_true, if_false]
        have hL := unhide HL4
        have HC := hide (tclose_any l ta c bp e ⟨#[41]⟩ (by decide) i 0 (by omega) w4 hL.at_)
        clear hL
        go_wp2_with fail
        refine (unhide HC).mono ?_
        intro r w9 h9
        cases hn : Tp.want l ⟨#[41]⟩ i with
        | error j =>
         rw [hn] at h9
         obtain ⟨rfl, ht⟩ := h9
         have HT := hide ((unhide HL4).tu.then ht (unhide HL4).tu.size (fun _ _ h => Or.inl h))
         obtain rfl : o = .error j := by rw [← unhide HEQ]; simp only [Tp.list, unhide HE1, unhide HIT, hn]
         clear ht
         go_wp2_with fail
         exact ⟨rfl, rfl, unhide HT⟩
        | ok j =>
         rw [hn] at h9
         obtain ⟨rfl, hj, ht⟩ := h9
         obtain rfl : o = .ok (acc, j) := by rw [← unhide HEQ]; simp only [Tp.list, unhide HE1, unhide HIT, hn]
         have HL9 := hide ((unhide HL4).step hj ht)
         clear hj ht
         go_wp2_with fail
         go_end0
         exact ⟨rfl, _, _, unhide HL9⟩
      · replace HL4 := hide (show Tp.Ls l ta c bp e fb pb xa xv k ty wide cl R 1 w v es acc (i + 1) w4 by simpa using unhide HL4)
        have hmany := (unhide HM).many
        have HT4 := hide ((unhide HT) _ _ _ _ _ (by omega) (unhide HL4))
        go_wp2_with fail
        refine (unhide HT4).mono ?_
        intro r w5 h5
        cases hn : thing (i + 1) with
        | error j =>
         rw [hn] at h5
         obtain ⟨rfl, ht⟩ := h5
         have HT5 := hide ht
         obtain rfl : om = .error j := by rw [← (unhide HM).is]; simp only [Tp.more, unhide HY, if_true, hn]
         obtain rfl : o = .error j := by rw [← unhide HEQ]; simp only [Tp.list, unhide HE1, unhide HIT]
         clear ht
         go_wp2_with fail
         exact ⟨rfl, rfl, unhide HT5⟩
        | ok p =>
         obtain ⟨x, j⟩ := p
         rw [hn] at h5
         obtain ⟨rfl, v5, E5, hL5⟩ := h5
         have hgo := (unhide HG) _ _ _ hn
         have HM5 := hide (show Tp.Mo l ta c bp e fb pb xa xv k ty wide cl R w thing om f v5 (es ++ [E5]) (acc ++ [x]) j w5 from ⟨hL5, by rw [← (unhide HM).is]; simp only [Tp.more, unhide HY, if_true, hn], by omega, by rw [List.length_append]; simp; omega⟩)
         clear hL5 hn HT4 HL4
         go_wp2_with fail
         go_roundg f
         case measure => omega
         case rel => exact ⟨_, _, _, _, unhide HM5⟩
  · obtain ⟨acc, hacc⟩ : ∃ acc : List β, acc = [] := ⟨_, rfl⟩
    have HIT := hide (show Tp.items l thing i = .ok (acc, i) by unfold Tp.items; rw [unhide HY, hacc]; rfl)
    rw [← hacc] at HL2
    clear hacc
    have hL := unhide HL2
    have HC := hide (tclose_any l ta c bp e ⟨#[41]⟩ (by decide) i 0 (by omega) w2 hL.at_)
    clear hL
    go_wp2_with fail
    refine (unhide HC).mono ?_
    intro r w9 h9
    cases hn : Tp.want l ⟨#[41]⟩ i with
    | error j =>
     rw [hn] at h9
     obtain ⟨rfl, ht⟩ := h9
     have HT := hide ((unhide HL2).tu.then ht (unhide HL2).tu.size (fun _ _ h => Or.inl h))
     obtain rfl : o = .error j := by rw [← unhide HEQ]; simp only [Tp.list, unhide HE1, unhide HIT, hn]
     clear ht
     go_wp2_with fail
     exact ⟨rfl, rfl, unhide HT⟩
    | ok j =>
     rw [hn] at h9
     obtain ⟨rfl, hj, ht⟩ := h9
     obtain rfl : o = .ok (acc, j) := by rw [← unhide HEQ]; simp only [Tp.list, unhide HE1, unhide HIT, hn]
     have HL9 := hide ((unhide HL2).step hj ht)
     clear hj ht
     go_wp2_with fail
     go_end0
     exact ⟨rfl, _, _, unhide HL9⟩
end Go.Proofs.YtfccpddehpgfoaaGreatDoor
