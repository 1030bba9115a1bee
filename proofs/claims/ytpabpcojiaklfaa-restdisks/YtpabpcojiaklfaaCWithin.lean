/-
  Contracts of AreWithin of package fields and of the document's own AreSmall. By the verifier.
-/
import Derived.Test.YtpabpcojiaklfaaCLeaf
import Derived.Test.YtpabpcojiaklfaaDLeaf
import Derived.Deep.RegionHeld3
import Derived.Laws.EntriesVeiled
namespace Go.Proofs.Ytpabpcojiaklfaa
open Go.RowKit
set_option linter.unusedVariables false

set_option maxHeartbeats 400000 in
theorem beyond_any (n : Int) (w : World) :
    Calls Try.prog 67 #[.int .i64 n] w fun e w' => e = .returned (.bool (!Cl.isN n)) ∧ w' = w := by
  by_cases h1 : n < -2147483648
  · have hh : Cl.isN n = false := by simp [Cl.isN]; omega
    rw [hh]; clear hh
    go_enter Try.func67, Try.ntmps67
    go_wp2
    go_ret
    exact ⟨rfl, rfl⟩
  · by_cases h2 : n > 2147483647
    · have hh : Cl.isN n = false := by simp [Cl.isN]; omega
      rw [hh]; clear hh
      go_enter Try.func67, Try.ntmps67
      go_wp2
      go_ret
      exact ⟨rfl, rfl⟩
    · have hh : Cl.isN n = true := by simp [Cl.isN]; omega
      rw [hh]; clear hh
      go_enter Try.func67, Try.ntmps67
      go_wp2
      go_ret
      exact ⟨rfl, rfl⟩

/-- Numbers that lie one behind the other. -/
structure Cl.RI (w : World) (b o : Nat) (l : List Int) : Prop where
  at_ : ∀ i x, l[i]? = some x → w.cell? ⟨b, o + i, none⟩ = some (.int .i64 x)

set_option maxHeartbeats 400000 in
theorem indexInt_any (l : List Int) (b o cap : Nat) (w : World) (hr : Cl.RI w b o l) (hl : l.length ≤ 600) :
    Calls Try.prog 87 #[.slice (some ⟨b, o, none⟩) l.length cap, .func (.func 67) #[] #[]] w fun e w' => (∃ r : Int, e = .returned (.int .i64 r) ∧ decide (0 ≤ r) = !(l.all Cl.isN)) ∧ w' = w := by
  have HR := hide hr
  clear hr
  go_enter Try.func87, Try.ntmps87
  go_wp2_with fail
  go_loop [8] (fun v => ∃ k : Nat, k ≤ l.length ∧ v = .int .i64 k ∧ (∀ j s, j < k → l[j]? = some s → Cl.isN s = true)) (fun v => l.length - (intOf v).toNat)
  case atStart => exact ⟨0, by omega, rfl, fun j s h => by omega⟩
  case round =>
    obtain ⟨k, hk, rfl, hall⟩ := hrel
    have HA := hide hall
    clear hall
    by_cases hlt : k < l.length
    · obtain ⟨t, ht⟩ : ∃ t, l[k]? = some t := ⟨l[k], List.getElem?_eq_getElem hlt⟩
      have c0 := (unhide HR).at_ k t ht
      have HT := hide ht
      clear ht
      have hk1 : (0 : Int) ≤ (k : Int) := by omega
      have hk2 : (k : Int) < (l.length : Int) := by omega
      go_wp2_with fail
      refine (beyond_any _ _).mono ?_
      rintro e w' ⟨rfl, rfl⟩
      cases h3 : Cl.isN t
      · have hq : l.all Cl.isN = false := by rw [List.all_eq_false]; exact ⟨t, List.mem_of_getElem? (unhide HT), by rw [h3]; decide⟩
        have HQ := hide hq
        clear hq h3
        go_wp2_with fail
        go_ret
        exact ⟨⟨_, rfl, by rw [unhide HQ]; simp⟩, rfl⟩
      · have H3 := hide h3
        clear h3
        go_wp2_with fail
        go_round
        case rel =>
          refine ⟨k + 1, by omega, by go_num, ?_⟩
          intro j s hj hs
          by_cases e2 : j = k
          · subst e2
            have := unhide HT
            rw [this] at hs
            cases hs
            exact unhide H3
          · exact (unhide HA) j s (by omega) hs
        case measure => simp [intOf]; omega
    · have hq : l.all Cl.isN = true := by
        rw [List.all_eq_true]
        intro t ht
        obtain ⟨j, hj⟩ := List.getElem?_of_mem ht
        exact (unhide HA) j t (by have := (List.getElem?_eq_some_iff.1 hj).1; omega) hj
      have HQ := hide hq
      clear hq
      go_wp2_with fail
      go_ret
      exact ⟨⟨_, rfl, by rw [unhide HQ]; rfl⟩, rfl⟩

set_option maxHeartbeats 400000 in
theorem containsInt_any (l : List Int) (b o cap : Nat) (w : World) (hr : Cl.RI w b o l) (hl : l.length ≤ 600) :
    Calls Try.prog 70 #[.slice (some ⟨b, o, none⟩) l.length cap, .func (.func 67) #[] #[]] w fun e w' => e = .returned (.bool (!(l.all Cl.isN))) ∧ w' = w := by
  have HR := hide hr
  clear hr
  go_enter Try.func70, Try.ntmps70
  go_wp2_with fail
  refine (indexInt_any l b o cap _ (unhide HR) hl).mono ?_
  rintro e w' ⟨⟨r, rfl, hd⟩, rfl⟩
  have HD := hide hd
  clear hd
  go_wp2_with fail
  all_goals
    go_ret
    refine ⟨?_, rfl⟩
    rw [← unhide HD]
    try rfl
  all_goals simp_all

theorem Ev.all_nums (e : Ev) : e.nums.all Cl.isN = e.ok := by simp [Ev.nums, Ev.ok, Bool.and_assoc]

set_option maxHeartbeats 400000 in
theorem within2_any (e : Ev) (bp : Nat) (w : World) (hc : w.cell? ⟨bp, 0, none⟩ = some (.func (.func 67) #[] #[])) :
    Calls Try.prog 69 #[e.agg, .pointer (some ⟨bp, 0, none⟩)] w fun r w' => r = .returned (.bool (!e.ok)) ∧ Below w.heap.size w w' := by
  have HC := hide hc
  have hlt := World.block_lt_of_cell? w _ hc
  clear hc
  show Calls Try.prog 69 #[.agg #[.int .i64 e.n0, .int .i64 e.n1, .int .i64 e.n2, .int .i64 e.n3, .int .i64 e.n4, .int .i64 e.n5], .pointer (some ⟨bp, 0, none⟩)] w _
  go_enter Try.func69, Try.ntmps69
  go_wp2_with fail
  refine (Of_any e _).mono ?_
  rintro r w1 ⟨rfl, hb⟩
  have HB := hide (below_two hb)
  have c0 := ((unhide HB).cell (p := ⟨bp, 0, none⟩) hlt).trans (unhide HC)
  have c1 := Dk.cell_alloc (o := Obj.cells #[.int .i64 e.n0, .int .i64 e.n1, .int .i64 e.n2, .int .i64 e.n3, .int .i64 e.n4, .int .i64 e.n5] 79) c0
  clear hb
  unfold Ev.agg
  go_wp2_with fail
  have HRI := hide (show Cl.RI (w1.alloc (Obj.cells #[.int .i64 e.n0, .int .i64 e.n1, .int .i64 e.n2, .int .i64 e.n3, .int .i64 e.n4, .int .i64 e.n5] 79)) w1.heap.size 0 e.nums from ⟨fun i x hi => by
    match i, hi with
    | 0, hi => cases hi; go_simp
    | 1, hi => cases hi; go_simp
    | 2, hi => cases hi; go_simp
    | 3, hi => cases hi; go_simp
    | 4, hi => cases hi; go_simp
    | 5, hi => cases hi; go_simp
    | _ + 6, hi => simp [Ev.nums] at hi⟩)
  generalize hWA : w1.alloc (Obj.cells #[.int .i64 e.n0, .int .i64 e.n1, .int .i64 e.n2, .int .i64 e.n3, .int .i64 e.n4, .int .i64 e.n5] 79) = WA at *
  have HBA := hide (show Below w.heap.size w WA from hWA ▸ (unhide HB).alloc (unhide HB).size _)
  have HSS := hide (show WA.cell? ⟨bp, 0, none⟩ = some (.func (.func 67) #[] #[]) ∧ Below WA.heap.size WA WA from ⟨c1, Below.refl _ _⟩)
  clear hWA c1
  go_region_held3 (fun W => W.cell? ⟨bp, 0, none⟩ = some (.func (.func 67) #[] #[]) ∧ Below WA.heap.size WA W)
    (first
      | exact ⟨(unhide HSS).1, (unhide HSS).2.drew⟩
      | assumption)
    (first
      | (go_at_call 70; refine (containsInt_any e.nums w1.heap.size 0 6 _ ?_ (by simp [Ev.nums])).mono ?_; exact ⟨(unhide HRI).at_⟩; rintro e w' ⟨rfl, rfl⟩))
  all_goals
    go_wp2_with fail
    go_ret
    exact ⟨by rw [Ev.all_nums]; rfl, (unhide HBA).drew⟩

set_option maxHeartbeats 400000 in
theorem indexEv_any (l : List Ev) (ad : Option Addr) (cap bp : Nat) (w : World) (hr : Cl.RE w ad l) (hl : l.length ≤ 4000) (hc : w.cell? ⟨bp, 0, none⟩ = some (.func (.func 67) #[] #[])) :
    Calls Try.prog 86 #[.slice ad l.length cap, .func (.func 69) #[] #[.pointer (some ⟨bp, 0, none⟩)]] w fun e w' => (∃ r : Int, e = .returned (.int .i64 r) ∧ decide (0 ≤ r) = !(l.all Ev.ok)) ∧ Below w.heap.size w w' := by
  have HR := hide hr
  have HC := hide hc
  have hbp := World.block_lt_of_cell? w _ hc
  clear hr hc
  go_enter Try.func86, Try.ntmps86
  go_wp2_with fail
  go_loopw [8] (fun v wr => ∃ k : Nat, k ≤ l.length ∧ v = .int .i64 k ∧ (∀ j s, j < k → l[j]? = some s → Ev.ok s = true) ∧ Below w.heap.size w wr) (fun v _ => l.length - (intOf v).toNat)
  case atStart => exact ⟨0, by omega, rfl, fun j s h => by omega, Below.refl _ _⟩
  case round =>
    obtain ⟨k, hk, rfl, hall, hbe⟩ := hrel
    have HA := hide hall
    have HBE := hide hbe
    have hz := hbe.size
    clear hall hbe
    by_cases hlt : k < l.length
    · obtain ⟨t, ht⟩ : ∃ t, l[k]? = some t := ⟨l[k], List.getElem?_eq_getElem hlt⟩
      obtain ⟨b, o, rfl, hb, c0, c1, c2, c3, c4, c5⟩ := ((unhide HR).later (unhide HBE) (Nat.le_refl _)).at_ k t ht
      have HT := hide ht
      clear ht
      have hk1 : (0 : Int) ≤ (k : Int) := by omega
      have hk2 : (k : Int) < (l.length : Int) := by omega
      go_wp2_with fail
      refine (within2_any t bp _ (((unhide HBE).cell (p := ⟨bp, 0, none⟩) hbp).trans (unhide HC))).mono ?_
      rintro e w' ⟨rfl, hbw⟩
      have HBW := hide ((unhide HBE).trans (hbw.mono hz))
      clear hbw
      cases h3 : Ev.ok t
      · have hq : l.all Ev.ok = false := by rw [List.all_eq_false]; exact ⟨t, List.mem_of_getElem? (unhide HT), by rw [h3]; decide⟩
        have HQ := hide hq
        clear hq h3
        go_wp2_with fail
        go_ret
        exact ⟨⟨_, rfl, by rw [unhide HQ]; simp⟩, unhide HBW⟩
      · have H3 := hide h3
        clear h3
        go_wp2_with fail
        refine ⟨⟨k + 1, by omega, by go_num, ?_, unhide HBW⟩, by simp [intOf]; omega⟩
        intro j s hj hs
        by_cases e2 : j = k
        · subst e2
          have := unhide HT
          rw [this] at hs
          cases hs
          exact unhide H3
        · exact (unhide HA) j s (by omega) hs
    · have hq : l.all Ev.ok = true := by
        rw [List.all_eq_true]
        intro t ht
        obtain ⟨j, hj⟩ := List.getElem?_of_mem ht
        exact (unhide HA) j t (by have := (List.getElem?_eq_some_iff.1 hj).1; omega) hj
      have HQ := hide hq
      clear hq
      go_wp2_with fail
      go_ret
      exact ⟨⟨_, rfl, by rw [unhide HQ]; rfl⟩, unhide HBE⟩

set_option maxHeartbeats 400000 in
theorem containsEv_any (l : List Ev) (ad : Option Addr) (cap bp : Nat) (w : World) (hr : Cl.RE w ad l) (hl : l.length ≤ 4000) (hc : w.cell? ⟨bp, 0, none⟩ = some (.func (.func 67) #[] #[])) :
    Calls Try.prog 68 #[.slice ad l.length cap, .func (.func 69) #[] #[.pointer (some ⟨bp, 0, none⟩)]] w fun e w' => e = .returned (.bool (!(l.all Ev.ok))) ∧ Below w.heap.size w w' := by
  have HR := hide hr
  have HC := hide hc
  clear hr hc
  go_enter Try.func68, Try.ntmps68
  go_wp2_with fail
  refine (indexEv_any l ad cap bp _ (unhide HR) hl (unhide HC)).mono ?_
  rintro e w' ⟨⟨r, rfl, hd⟩, hb⟩
  have HD := hide hd
  have HB := hide hb
  clear hd hb
  go_wp2_with fail
  all_goals
    go_ret
    refine ⟨?_, unhide HB⟩
    rw [← unhide HD]
    try rfl
  all_goals simp_all

set_option maxHeartbeats 400000 in
theorem AreWithin_any (l : List Ev) (ad : Option Addr) (cap : Nat) (w : World) (hr : Cl.RE w ad l) (hl : l.length ≤ 4000) :
    Calls Try.prog 39 #[.slice ad l.length cap] w fun e w' => e = .returned (.bool (l.all Ev.ok)) ∧ Below w.heap.size w w' := by
  have HR := hide hr
  clear hr
  go_enter Try.func39, Try.ntmps39
  go_wp2_with fail
  have hb0 := (Below.refl w.heap.size w).alloc (Nat.le_refl _) (Obj.cells #[.func (.func 67) #[] #[]] 71)
  refine (containsEv_any l ad cap w.heap.size _ ((unhide HR).later hb0 (Nat.le_refl _)) hl (by go_simp)).mono ?_
  rintro e w' ⟨rfl, hb⟩
  have HB := hide (hb0.trans (hb.mono hb0.size))
  clear hb hb0
  go_wp2_with fail
  go_ret
  exact ⟨by simp, unhide HB⟩
end Go.Proofs.Ytpabpcojiaklfaa
