/-
  Events that are looked up, told time by time: isFound of package query. By the verifier.
-/
import Derived.Test.YtfhlnelgnnkeoaaGreatDoorQTell
namespace Go.Proofs.YtfhlnelgnnkeoaaGreatDoor
open Go.RowKit
set_option linter.unusedVariables false

def Qk.has (one : Int) (zs : List Int) : Bool := decide (one ∈ zs)
theorem Qk.has_iff {zs : List Int} (h : Ix.Up zs) {one : Int} : Qk.has one zs = true ↔ zs[Ix.cnt one zs]? = some one := by
  simp only [Qk.has, decide_eq_true_eq]
  refine ⟨fun hm => ?_, fun hx => List.mem_of_getElem? hx⟩
  obtain ⟨i, hi⟩ := List.getElem?_of_mem hm
  have h1 := h.lowAt one hi
  rcases Nat.lt_trichotomy i (Ix.cnt one zs) with hlt | he | hgt
  · have := h1.1 hlt; omega
  · rw [← he]; exact hi
  · have hl := (List.getElem?_eq_some_iff.1 hi).1
    have hx : zs[Ix.cnt one zs]? = some zs[Ix.cnt one zs] := List.getElem?_eq_getElem (by omega)
    have h2 := h.at_lt hgt hx hi
    have := (h.lowAt one hx).2 h2
    omega
theorem Qk.has_fits (kind n : Int) (l : List Ev) (t : Nat) (ht : t < l.length) : Qk.has (t : Int) (Ix.T kind n l l.length) = Qk.fitsAt kind n l t := by
  unfold Qk.has Qk.fitsAt Ix.T
  rw [Bool.eq_iff_iff, decide_eq_true_eq, List.mem_map]
  constructor
  · rintro ⟨u, hu, he⟩
    obtain rfl : u = t := by omega
    exact (List.mem_filter.1 hu).2
  · intro h
    exact ⟨t, List.mem_filter.2 ⟨List.mem_range.2 ht, h⟩, rfl⟩
theorem Qk.found_whole (kind n : Int) (l : List Ev) : Ix.found kind n 0 (l.length : Int) l = Ix.T kind n l l.length := by
  unfold Ix.found
  refine List.filter_eq_self.2 fun x hx => ?_
  have := Ix.T_mem hx
  simp [Ix.rng, this]

set_option maxRecDepth 100000 in
set_option maxHeartbeats 1600000 in
theorem BinarySearch_found (zs : List Int) (ad : Option Addr) (cap : Nat) (one : Int) (w : World) (hr : Ix.RI w ad zs) (hu : Ix.Up zs) (hl : zs.length ≤ 4000) :
    Calls Tryz.prog 92 #[.slice ad zs.length cap, .int .i64 one] w fun e w' => e = .returned (.tuple #[.int .i64 (Ix.cnt one zs : Nat), .bool (Qk.has one zs)]) ∧ w' = w := by
  have HR := hide hr
  have HU := hide hu
  clear hr hu
  go_enter Tryz.func92, Tryz.ntmps92
  go_wp2_with fail
  go_loop [7, 8] (fun iv jv => ∃ i j : Nat, i ≤ j ∧ j ≤ zs.length ∧ iv = .int .i64 i ∧ jv = .int .i64 j ∧ (∀ k x, k < i → zs[k]? = some x → x < one) ∧ (∀ k x, j ≤ k → zs[k]? = some x → one ≤ x)) (fun iv jv => (intOf jv).toNat - (intOf iv).toNat)
  case atStart => exact ⟨0, zs.length, by omega, by omega, rfl, rfl, fun k x hk => by omega, fun k x hk hx => by have := (List.getElem?_eq_some_iff.1 hx).1; omega⟩
  case round =>
    obtain ⟨i, j, hij, hj, rfl, rfl, hlo, hhi⟩ := hrel
    have HLO := hide hlo
    have HHI := hide hhi
    clear hlo hhi
    by_cases hlt : i < j
    · obtain ⟨m, hm, hm1, hm2⟩ := Ix.half i j hlt (by omega)
      have HM := hide hm
      clear hm
      obtain ⟨t, ht⟩ : ∃ t, zs[m]? = some t := ⟨zs[m], List.getElem?_eq_getElem (by omega)⟩
      obtain ⟨b, o, rfl, hb, c0⟩ := (unhide HR).at_ m t ht
      have HT := hide ht
      clear ht
      have hmi : ((i : Int) + (j : Int)) / 2 = (m : Int) := by have := unhide HM; omega
      have h1 : (i : Int) < (j : Int) := by omega
      have h2 : (m : Int) < (zs.length : Int) := by omega
      have h3 : (0 : Int) ≤ (m : Int) := by omega
      go_wp2_with fail
      refine (Less_any _ _ _).mono ?_
      rintro e w' ⟨rfl, rfl⟩
      cases hc : Ix.low one t
      · have HC := hide (show one ≤ t by simpa [Ix.low] using hc)
        clear hc
        go_wp2_with fail
        go_round
        case rel =>
          refine ⟨i, m, by omega, by omega, rfl, by go_num, unhide HLO, ?_⟩
          intro k x hk hx
          rcases Nat.lt_or_ge m k with h | h
          · have := (unhide HU).at_lt h (unhide HT) hx
            have := unhide HC
            omega
          · obtain rfl : k = m := by omega
            rw [unhide HT] at hx
            cases hx
            exact unhide HC
        case measure => simp [intOf]; omega
      · have HC := hide (show t < one by simpa [Ix.low] using hc)
        clear hc
        go_wp2_with fail
        go_round
        case rel =>
          refine ⟨m + 1, j, by omega, by omega, by go_num, rfl, ?_, unhide HHI⟩
          intro k x hk hx
          rcases Nat.lt_or_ge k m with h | h
          · have := (unhide HU).at_lt h hx (unhide HT)
            have := unhide HC
            omega
          · obtain rfl : k = m := by omega
            rw [unhide HT] at hx
            cases hx
            exact unhide HC
        case measure => simp [intOf]; omega
    · obtain rfl : i = j := by omega
      have HE := hide ((unhide HU).cnt_is one hj (unhide HLO) (unhide HHI))
      clear hij
      have h1 : ¬ (i : Int) < (i : Int) := by omega
      by_cases hz : i < zs.length
      · obtain ⟨t, ht⟩ : ∃ t, zs[i]? = some t := ⟨zs[i], List.getElem?_eq_getElem (by omega)⟩
        obtain ⟨b, o, rfl, hb, c0⟩ := (unhide HR).at_ i t ht
        have h2 : (i : Int) < (zs.length : Int) := by omega
        by_cases h3 : t = one
        · have h3' : (t == one) = true := by simpa using h3
          have HH := hide (show Qk.has one zs = true by rw [Qk.has_iff (unhide HU), ← unhide HE, ht, h3])
          clear h3 ht
          go_wp2_with (first | (go_at_call 107; refine (sisNaN_any _ _).mono ?_; rintro e w' ⟨rfl, rfl⟩))
          go_ret2
          exact ⟨by rw [← unhide HE, unhide HH]; rfl, rfl⟩
        · have h3' : (t == one) = false := by simpa using h3
          have HH := hide (show Qk.has one zs = false by rw [← Bool.not_eq_true, Qk.has_iff (unhide HU), ← unhide HE, ht]; simpa using h3)
          clear h3 ht
          go_wp2_with (first | (go_at_call 107; refine (sisNaN_any _ _).mono ?_; rintro e w' ⟨rfl, rfl⟩))
          go_ret2
          exact ⟨by rw [← unhide HE, unhide HH]; rfl, rfl⟩
      · have h2 : ¬ (i : Int) < (zs.length : Int) := by omega
        have HH := hide (show Qk.has one zs = false by rw [← Bool.not_eq_true, Qk.has_iff (unhide HU), ← unhide HE, List.getElem?_eq_none (by omega)]; simp)
        go_wp2_with fail
        go_ret2
        exact ⟨by rw [← unhide HE, unhide HH]; rfl, rfl⟩


set_option maxHeartbeats 400000 in
theorem tl_found (kind n : Int) (l : List Ev) (a : Option Addr) (c bt lo : Nat) (W0 : World) (hc : W0.cell? ⟨bt, 0, none⟩ = some (.slice a (Ix.T kind n l l.length).length c)) (hr : Ix.RI W0 a (Ix.T kind n l l.length)) (hf : l.length ≤ 4000) :
    Qk.Tl 91 #[.pointer (some ⟨bt, 0, none⟩)] l.length lo W0.heap.size (fun t => Qk.fitsAt kind n l t) (fun _ W => Below W0.heap.size W0 W) := by
  refine ⟨Tryz.call91, fun t W W' h hb => h.trans hb, fun t W ht hI hh => ?_⟩
  have p1 := (Qk.still hI (World.block_lt_of_cell? W0 _ hc)).trans hc
  have HS := hide (BinarySearch_found (Ix.T kind n l l.length) a c (t : Int) W (hr.later hI (Nat.le_refl _)) (Ix.T_up kind n l l.length) (by have := Ix.T_length kind n l l.length; omega))
  have HM := hide (Qk.has_fits kind n l t ht)
  have HI := hide hI
  clear hc hr hI
  show Calls Tryz.prog 91 #[.int .i64 (t : Nat), .pointer (some ⟨bt, 0, none⟩)] W fun e W' => e = .returned (.bool (Qk.fitsAt kind n l t)) ∧ _
  generalize Ix.T kind n l l.length = zs at *
  generalize Qk.fitsAt kind n l t = M at *
  go_enter Tryz.func91, Tryz.ntmps91
  go_wp2_with fail
  refine (unhide HS).mono ?_
  rintro e w' ⟨rfl, rfl⟩
  go_wp2_with fail
  go_ret
  exact ⟨ret_bool (unhide HM), unhide HI, Qk.Only.of_below (Below.refl _ _)⟩

set_option maxHeartbeats 400000 in
theorem isFound_any (l : List Ev) (ad : Option Addr) (cap : Nat) (kind n : Int) (w : World) (hr : Cl.RE w ad l) (hw : ∀ e ∈ l, e.wf) (hn : Ix.wf n) (h0 : Ix.chk l.length kind = 0) :
    Calls Tryz.prog 64 #[.slice ad l.length cap, .int .i64 kind, .int .i64 n] w fun e w' => ∃ b, e = .returned (.func (.func 91) #[] #[.pointer (some ⟨b, 0, none⟩)]) ∧ Qk.Tl 91 #[.pointer (some ⟨b, 0, none⟩)] l.length w.heap.size w'.heap.size (fun t => Qk.fitsAt kind n l t) (fun _ W => Below w'.heap.size w' W) ∧ Below w.heap.size w w' := by
  have hl := Ix.chk_ok h0
  have HF := hide (show Calls Tryz.prog 90 #[.slice ad l.length cap, .int .i64 kind, .int .i64 n, .int .i64 0, .int .i64 (l.length : Nat)] w fun e w' => ∃ a c, e = .returned (.tuple #[.slice a (Ix.T kind n l l.length).length c, .int .i64 0]) ∧ Ix.RI w' a (Ix.T kind n l l.length) ∧ Below w.heap.size w w' by
    have := Find_ok l ad cap kind n 0 (l.length : Int) w hr hw hn h0
    rw [Qk.found_whole] at this
    exact this)
  have HT := hide (fun a c bt lo W0 h1 h2 => tl_found kind n l a c bt lo W0 h1 h2 hl)
  clear hr hw hn h0
  generalize Ix.T kind n l l.length = zs at *
  go_enter Tryz.func64, Tryz.ntmps64
  go_wp2_with fail
  refine (unhide HF).mono ?_
  rintro e w1 ⟨a, c, rfl, hri, hb⟩
  have HRI := hide hri
  have HB := hide hb
  clear hri hb
  go_wp2_with fail
  go_ret
  have hb2 := (Below.refl w1.heap.size w1).alloc (Nat.le_refl _) (Obj.cells #[.slice a zs.length c] 109)
  exact ⟨w1.heap.size, rfl, (unhide HT) a c w1.heap.size w.heap.size _ (by simp) ((unhide HRI).later hb2 (Nat.le_refl _)), (unhide HB).alloc (unhide HB).size _⟩
end Go.Proofs.YtfhlnelgnnkeoaaGreatDoor
