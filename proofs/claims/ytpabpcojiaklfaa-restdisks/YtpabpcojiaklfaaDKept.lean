/-
  Contracts of kept of package disk, with both of its function literals. By the verifier.
-/
import Derived.Test.YtpabpcojiaklfaaDClone
namespace Go.Proofs.Ytpabpcojiaklfaa
open Go.RowKit
set_option linter.unusedVariables false

/-- A row of sectors of a call's own. -/
structure Dk.Own (w : World) (base g : Nat) (l : List ByteArray) : Prop where
  base_le : base ≤ g
  lt : g < w.heap.size
  at_ : ∀ i s, l[i]? = some s → w.cell? ⟨g, i, none⟩ = some (.string s)
  fr : ∀ i, w.frozen? ⟨g, i, none⟩ = false

theorem Dk.Own.of {w : World} {base g n cap : Nat} {l : List ByteArray} (h : w.ownsRow base 9 1 (.slice (some ⟨g, 0, none⟩) n cap) n (l.map Value.string)) : Dk.Own w base g l := by
  obtain ⟨h1, h2⟩ := h.lt g rfl
  refine ⟨h1, h2, fun i s hi => ?_, fun i => h.frozenAt i⟩
  have := h.cells (g := g) rfl i (.string s) (by rw [List.getElem?_map, hi]; rfl)
  rw [Dk.add_at, Nat.zero_add] at this
  exact this

theorem Dk.cap_le {w : World} {base g n cap size : Nat} {e : TypeId} {xs : List Value} (h : w.ownsRow base e size (.slice (some ⟨g, 0, none⟩) n cap) n xs) : n ≤ cap := by
  rcases h.2 with ⟨hv, _⟩ | ⟨q, c, cur, hv, _, _, hle, _⟩
  · cases hv
  · cases hv; exact hle

theorem Dk.Own.set {w : World} {base g : Nat} {l : List ByteArray} (h : Dk.Own w base g l) (i : Nat) (s : ByteArray) : Dk.Own (w.setCell ⟨g, i, none⟩ (.string s)) base g (l.set i s) := by
  refine ⟨h.base_le, by rw [World.size_setCell]; exact h.lt, fun j t hj => ?_, fun j => by rw [World.frozen?_setCell]; exact h.fr j⟩
  by_cases e : i = j
  · subst e
    have hl : i < l.length := by have := (List.getElem?_eq_some_iff.1 hj).1; rw [List.length_set] at this; exact this
    rw [List.getElem?_set_self hl] at hj
    cases hj
    exact World.cell?_setCell_same _ _ _ (h.at_ i l[i] (List.getElem?_eq_getElem hl))
  · rw [List.getElem?_set_ne e] at hj
    rw [World.cell?_setCell_other _ _ _ _ (by intro hh; cases hh; exact e rfl)]
    exact h.at_ j t hj

theorem Dk.Own.later {w w' : World} {base g : Nat} {l : List ByteArray} (h : Dk.Own w base g l) (hb : Below w.heap.size w w') : Dk.Own w' base g l := by
  have hg := h.lt
  refine ⟨h.base_le, by have := hb.size; omega, fun i s hi => ?_, fun i => ?_⟩
  · rw [hb.cell (p := ⟨g, i, none⟩) hg]; exact h.at_ i s hi
  · rw [hb.frozen (p := ⟨g, i, none⟩) hg]; exact h.fr i

theorem Dk.Own.reads {w : World} {base g : Nat} {l : List ByteArray} (h : Dk.Own w base g l) (hs : ∀ s ∈ l, s.size ≤ maxLen) : Dk.RK w (some ⟨g, 0, none⟩) l :=
  ⟨fun i s hi => ⟨g, 0, rfl, h.lt, by rw [Nat.zero_add]; exact h.at_ i s hi, hs s (List.mem_of_getElem? hi)⟩⟩

set_option maxHeartbeats 400000 in
theorem crashKeep_any (i : Nat) (b : Nat) (l : List Bool) (ad : Option Addr) (cap : Nat) (w : World) (hc : w.cell? ⟨b, 0, none⟩ = some (.slice ad l.length cap)) (hr : Dk.RB w ad l) :
    Calls Try.prog 45 #[.int .i64 i, .pointer (some ⟨b, 0, none⟩)] w fun e w' => e = .returned (.bool ((l[i]?).getD false)) ∧ w' = w := by
  have HR := hide hr
  clear hr
  by_cases h : (i : Int) < (l.length : Int)
  · obtain ⟨t, ht⟩ : ∃ t, l[i]? = some t := ⟨l[i], List.getElem?_eq_getElem (by omega)⟩
    obtain ⟨bb, o, rfl, hb, c0⟩ := (unhide HR).at_ i t ht
    have h0 : (0 : Int) ≤ (i : Int) := by omega
    rw [ht]
    have HT := hide ht
    clear ht
    go_enter Try.func45, Try.ntmps45
    go_wp2_with fail
    go_ret
    exact ⟨rfl, rfl⟩
  · have ht : l[i]? = none := List.getElem?_eq_none (by omega)
    rw [ht]
    clear ht
    go_enter Try.func45, Try.ntmps45
    go_wp2_with fail
    go_ret
    exact ⟨rfl, rfl⟩

set_option maxHeartbeats 800000 in
theorem kept_all (ka : Option Addr) (ks : List ByteArray) (kc : Nat) (wa : Option Addr) (ws : List (Int × ByteArray)) (wc : Nat) (w : World) (hk : Dk.RK w ka ks) (hw : Dk.RW w wa ws) (hok : Dk.chk ks ws = 0) :
    Calls Try.prog 44 #[.agg #[.slice ka ks.length kc, .slice wa ws.length wc], .func (.func 55) #[] #[]] w fun e w' => ∃ g cap', e = .returned (.slice (some ⟨g, 0, none⟩) ks.length cap') ∧ Dk.Own w' w.heap.size g (Dk.keptTo (fun _ => true) ks ws ws.length) ∧ Below w.heap.size w w' ∧ ks.length ≤ cap' := by
  obtain ⟨h1, h2, h3, h4, h5⟩ := Dk.chk_ok hok
  have HW5 := hide (Dk.chkWs_mem _ _ h5)
  have HK := hide hk
  have HW := hide hw
  skip
  have hwl : (ws.length : Int) ≤ 600 := by omega
  clear hk hw hok h3 h5
  go_enter Try.func44, Try.ntmps44
  go_wp2_with fail
  refine (cloneK_any ks ka kc _ ((unhide HK).later ((Below.refl w.heap.size w).alloc (Nat.le_refl _) _) (Nat.le_refl _)) h2 (by omega)).mono ?_
  rintro e w1 ⟨g, cap', rfl, ho, hb⟩
  have hzz := hb.size
  simp at hzz
  have hcc : ∀ j, w1.cell? ⟨w.heap.size, j, none⟩ = (w.alloc (.cells #[.slice ka ks.length kc, .slice wa ws.length wc] 29)).cell? ⟨w.heap.size, j, none⟩ := fun j => hb.cell (p := ⟨w.heap.size, j, none⟩) (by simp)
  have e0 : w1.cell? ⟨w.heap.size, 0, none⟩ = some (.slice ka ks.length kc) := (hcc 0).trans (by simp)
  have e1 : w1.cell? ⟨w.heap.size, 1, none⟩ = some (.slice wa ws.length wc) := (hcc 1).trans (by simp)
  clear hcc
  have HO := hide (Dk.Own.of ho)
  have hkc := Dk.cap_le ho
  have hgl : w.heap.size + 1 ≤ g := by have := (unhide HO).base_le; simp at this; exact this
  have HB := hide (below_two hb)
  clear ho hb
  go_wp2_with fail
  go_loopw [14] (fun v wr => ∃ k : Nat, k ≤ ws.length ∧ v = .int .i64 k ∧ Below w.heap.size w wr ∧ w1.heap.size ≤ wr.heap.size ∧ Dk.Own wr w.heap.size g (Dk.keptTo (fun _ => true) ks ws k)) (fun v _ => ws.length - (intOf v).toNat)
  case atStart => exact ⟨0, by omega, rfl, unhide HB, Nat.le_refl _, ⟨by omega, (unhide HO).lt, (unhide HO).at_, (unhide HO).fr⟩⟩
  case round =>
    obtain ⟨k, hk, rfl, hbe, hz, how⟩ := hrel
    have HBE := hide hbe
    have HOW := hide how
    clear hbe how
    by_cases hlt : k < ws.length
    · obtain ⟨x, hx⟩ : ∃ x, ws[k]? = some x := ⟨ws[k], List.getElem?_eq_getElem hlt⟩
      obtain ⟨b, o, rfl, hb, d0, d1, hts⟩ := ((unhide HW).later (unhide HBE) (Nat.le_refl _)).at_ k x hx
      obtain ⟨hx0, hx1, hx2⟩ := (unhide HW5) x (List.mem_of_getElem? hx)
      have HST := hide (Dk.keptTo_step (fun _ => true) ks ws k x hx)
      have hlen := Dk.keptTo_length (fun _ => true) ks ws k
      obtain ⟨y, hy⟩ : ∃ y, (Dk.keptTo (fun _ => true) ks ws k)[x.1.toNat]? = some y := ⟨_, List.getElem?_eq_getElem (by omega)⟩
      have hcy := (unhide HOW).at_ _ _ hy
      have hfy := (unhide HOW).fr x.1.toNat
      have hgw := (unhide HOW).lt
      clear hx hts hy hlen
      have hk1 : (0 : Int) ≤ (k : Int) := by omega
      have hk2 : (k : Int) < (ws.length : Int) := by omega
      have hne : b ≠ wr.heap.size := by omega
      go_wp2_with fail
      refine (flushAll_any _ _).mono ?_
      rintro e w2 ⟨rfl, rfl⟩
      have hst := unhide HST
      rw [if_pos (by trivial)] at hst
      go_wp2_with fail
      refine ⟨⟨k + 1, by omega, by go_num, ?_, by simp; omega, ?_⟩, by simp [intOf]; omega⟩
      · exact (((unhide HBE).setCell (p := ⟨g, x.1.toNat, none⟩) (by show _ ≤ g; omega) _).alloc (by simp; omega) _)
      · rw [hst]
        exact ((unhide HOW).set _ _).later ((Below.refl _ _).alloc (Nat.le_refl _) _)
    · have hkl : k = ws.length := by omega
      subst hkl
      go_wp2_with fail
      go_ret
      exact ⟨g, cap', rfl, unhide HOW, unhide HBE, hkc⟩

set_option maxHeartbeats 800000 in
theorem kept_some (ka : Option Addr) (ks : List ByteArray) (kc : Nat) (wa : Option Addr) (ws : List (Int × ByteArray)) (wc : Nat) (l : List Bool) (ad : Option Addr) (cap bk : Nat) (w : World) (hk : Dk.RK w ka ks) (hw : Dk.RW w wa ws) (hok : Dk.chk ks ws = 0) (hl : Dk.RB w ad l) (hbk : bk < w.heap.size) (hcb : w.cell? ⟨bk, 0, none⟩ = some (.slice ad l.length cap)) :
    Calls Try.prog 44 #[.agg #[.slice ka ks.length kc, .slice wa ws.length wc], .func (.func 45) #[] #[.pointer (some ⟨bk, 0, none⟩)]] w fun e w' => ∃ g cap', e = .returned (.slice (some ⟨g, 0, none⟩) ks.length cap') ∧ Dk.Own w' w.heap.size g (Dk.keptTo (fun i => (l[i]?).getD false) ks ws ws.length) ∧ Below w.heap.size w w' ∧ ks.length ≤ cap' := by
  obtain ⟨h1, h2, h3, h4, h5⟩ := Dk.chk_ok hok
  have HW5 := hide (Dk.chkWs_mem _ _ h5)
  have HK := hide hk
  have HW := hide hw
  have HL := hide hl
  have HCB := hide hcb
  clear hl hcb
  have hwl : (ws.length : Int) ≤ 600 := by omega
  clear hk hw hok h3 h5
  go_enter Try.func44, Try.ntmps44
  go_wp2_with fail
  refine (cloneK_any ks ka kc _ ((unhide HK).later ((Below.refl w.heap.size w).alloc (Nat.le_refl _) _) (Nat.le_refl _)) h2 (by omega)).mono ?_
  rintro e w1 ⟨g, cap', rfl, ho, hb⟩
  have hzz := hb.size
  simp at hzz
  have hcc : ∀ j, w1.cell? ⟨w.heap.size, j, none⟩ = (w.alloc (.cells #[.slice ka ks.length kc, .slice wa ws.length wc] 29)).cell? ⟨w.heap.size, j, none⟩ := fun j => hb.cell (p := ⟨w.heap.size, j, none⟩) (by simp)
  have e0 : w1.cell? ⟨w.heap.size, 0, none⟩ = some (.slice ka ks.length kc) := (hcc 0).trans (by simp)
  have e1 : w1.cell? ⟨w.heap.size, 1, none⟩ = some (.slice wa ws.length wc) := (hcc 1).trans (by simp)
  clear hcc
  have HO := hide (Dk.Own.of ho)
  have hkc := Dk.cap_le ho
  have hgl : w.heap.size + 1 ≤ g := by have := (unhide HO).base_le; simp at this; exact this
  have HB := hide (below_two hb)
  clear ho hb
  go_wp2_with fail
  go_loopw [14] (fun v wr => ∃ k : Nat, k ≤ ws.length ∧ v = .int .i64 k ∧ Below w.heap.size w wr ∧ w1.heap.size ≤ wr.heap.size ∧ Dk.Own wr w.heap.size g (Dk.keptTo (fun i => (l[i]?).getD false) ks ws k) ∧ wr.cell? ⟨bk, 0, none⟩ = some (.slice ad l.length cap)) (fun v _ => ws.length - (intOf v).toNat)
  case atStart => exact ⟨0, by omega, rfl, unhide HB, Nat.le_refl _, ⟨by omega, (unhide HO).lt, (unhide HO).at_, (unhide HO).fr⟩, ((unhide HB).cell (p := ⟨bk, 0, none⟩) hbk).trans (unhide HCB)⟩
  case round =>
    obtain ⟨k, hk, rfl, hbe, hz, how, cbk⟩ := hrel
    have HBE := hide hbe
    have HOW := hide how
    clear hbe how
    by_cases hlt : k < ws.length
    · obtain ⟨x, hx⟩ : ∃ x, ws[k]? = some x := ⟨ws[k], List.getElem?_eq_getElem hlt⟩
      obtain ⟨b, o, rfl, hb, d0, d1, hts⟩ := ((unhide HW).later (unhide HBE) (Nat.le_refl _)).at_ k x hx
      obtain ⟨hx0, hx1, hx2⟩ := (unhide HW5) x (List.mem_of_getElem? hx)
      have HST := hide (Dk.keptTo_step (fun i => (l[i]?).getD false) ks ws k x hx)
      have hlen := Dk.keptTo_length (fun i => (l[i]?).getD false) ks ws k
      obtain ⟨y, hy⟩ : ∃ y, (Dk.keptTo (fun i => (l[i]?).getD false) ks ws k)[x.1.toNat]? = some y := ⟨_, List.getElem?_eq_getElem (by omega)⟩
      have hcy := (unhide HOW).at_ _ _ hy
      have hfy := (unhide HOW).fr x.1.toNat
      have hgw := (unhide HOW).lt
      clear hx hts hy hlen
      have hk1 : (0 : Int) ≤ (k : Int) := by omega
      have hk2 : (k : Int) < (ws.length : Int) := by omega
      have hne : b ≠ wr.heap.size := by omega
      go_wp2_with fail
      refine (crashKeep_any k bk l ad cap _ (Dk.cell_alloc cbk) ((unhide HL).later ((unhide HBE).alloc (by omega) _) (Nat.le_refl _))).mono ?_
      rintro e w2 ⟨rfl, rfl⟩
      cases hp : (l[k]?).getD false
      · have hst := unhide HST
        rw [if_neg (by rw [hp]; decide)] at hst
        go_wp2_with fail
        refine ⟨⟨k + 1, by omega, by go_num, ?_, by simp; omega, ?_, ?_⟩, by simp [intOf]; omega⟩
        · exact (unhide HBE).alloc (by omega) _
        · rw [hst]
          exact (unhide HOW).later ((Below.refl _ _).alloc (Nat.le_refl _) _)
        · exact Dk.cell_alloc cbk
      · have hst := unhide HST
        rw [if_pos hp] at hst
        go_wp2_with fail
        refine ⟨⟨k + 1, by omega, by go_num, ?_, by simp; omega, ?_, ?_⟩, by simp [intOf]; omega⟩
        · exact (((unhide HBE).setCell (p := ⟨g, x.1.toNat, none⟩) (by show _ ≤ g; omega) _).alloc (by simp; omega) _)
        · rw [hst]
          exact ((unhide HOW).set _ _).later ((Below.refl _ _).alloc (Nat.le_refl _) _)
        · refine Dk.cell_alloc ?_
          rw [World.cell?_setCell_other _ _ _ _ (by intro hh; have := congrArg Addr.block hh; simp at this; omega)]
          exact cbk
    · have hkl : k = ws.length := by omega
      subst hkl
      go_wp2_with fail
      go_ret
      exact ⟨g, cap', rfl, unhide HOW, unhide HBE, hkc⟩
end Go.Proofs.Ytpabpcojiaklfaa
