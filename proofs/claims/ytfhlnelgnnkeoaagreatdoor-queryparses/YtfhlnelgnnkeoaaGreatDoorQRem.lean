/-
  The closures of package query that remember: once, all, since, soon. By the verifier.
-/
import Derived.Test.YtfhlnelgnnkeoaaGreatDoorQTell
import Derived.Deep.LoopGhost
namespace Go.Proofs.YtfhlnelgnnkeoaaGreatDoor
open Go.RowKit
set_option linter.unusedVariables false

/-- What a closure that remembers leans on: all but one block is as it was; that one holds v. -/
structure Qk.Rem (bx hi : Nat) (W0 W : World) (v : Value) : Prop where
  but : Qk.But1 bx hi W0 W
  cell : W.cell? ⟨bx, 0, none⟩ = some v
  frozen : W.frozen? ⟨bx, 0, none⟩ = false
theorem Qk.Rem.below {bx hi : Nat} {W0 W W' : World} {v : Value} (h : Qk.Rem bx hi W0 W v) (hx : bx < hi) (hb : Below hi W W') : Qk.Rem bx hi W0 W' v :=
  ⟨h.but.below hb, (hb.cell (p := ⟨bx, 0, none⟩) hx).trans h.cell, (hb.frozen (p := ⟨bx, 0, none⟩) hx).trans h.frozen⟩
theorem Qk.Rem.set {bx hi : Nat} {W0 W : World} {v : Value} (h : Qk.Rem bx hi W0 W v) (u : Value) : Qk.Rem bx hi W0 (W.setCell ⟨bx, 0, none⟩ u) u :=
  ⟨h.but.set _, World.cell?_setCell_same _ _ _ h.cell, by rw [World.frozen?_setCell]; exact h.frozen⟩

set_option maxHeartbeats 400000 in
theorem tl_once (s0 : List Bool) (bh ba g0 c0 len lo : Nat) (W0 : World) (ha : W0.cell? ⟨ba, 0, none⟩ = some (.slice (some ⟨g0, 0, none⟩) len c0)) (r0 : Qk.Row W0 g0 s0) (e0 : s0.length = len) (hlo : lo ≤ bh) (hbh : bh < W0.heap.size) (n1 : ba ≠ bh) (n2 : g0 ≠ bh) (hf : len ≤ 4000) :
    Qk.Tl 93 #[.pointer (some ⟨bh, 0, none⟩), .pointer (some ⟨ba, 0, none⟩)] len lo W0.heap.size (fun t => Qk.onceTo s0 (t + 1)) (fun t W => Qk.Rem bh W0.heap.size W0 W (.bool (Qk.onceTo s0 t))) := by
  refine ⟨Tryz.call93, fun t W W' h hb => h.below hbh hb, fun t W ht hI hh => ?_⟩
  have p1 := (hI.but.cell (o := 0) (World.block_lt_of_cell? W0 _ ha) n1).trans ha
  have p2 := (r0.kept (hI.but.block g0 r0.lt n2)).cell (Qk.at_get (b := s0) (i := t) (by omega))
  have p3 := hI.cell
  have p4 := hI.frozen
  have HI := hide hI
  have hk1 : (0 : Int) ≤ (t : Int) := by omega
  have hk2 : (t : Int) < (len : Int) := by omega
  clear ha r0 e0 hI
  show Calls Tryz.prog 93 #[.int .i64 (t : Nat), .pointer (some ⟨bh, 0, none⟩), .pointer (some ⟨ba, 0, none⟩)] W fun e W' => e = .returned (.bool (Qk.onceTo s0 t || Qk.at_ s0 t)) ∧ Qk.Rem bh W0.heap.size W0 W' (.bool (Qk.onceTo s0 t || Qk.at_ s0 t)) ∧ _
  generalize Qk.at_ s0 t = x at *
  generalize Qk.onceTo s0 t = y at *
  cases y
  · go_enter Tryz.func93, Tryz.ntmps93
    go_wp2_with fail
    go_ret
    refine ⟨rfl, (unhide HI).set _, Qk.Only.set W hlo hbh _⟩
  · go_enter Tryz.func93, Tryz.ntmps93
    go_wp2_with fail
    go_ret
    refine ⟨rfl, (unhide HI).set _, Qk.Only.set W hlo hbh _⟩

set_option maxHeartbeats 400000 in
theorem tl_all (s0 : List Bool) (bh ba g0 c0 len lo : Nat) (W0 : World) (ha : W0.cell? ⟨ba, 0, none⟩ = some (.slice (some ⟨g0, 0, none⟩) len c0)) (r0 : Qk.Row W0 g0 s0) (e0 : s0.length = len) (hlo : lo ≤ bh) (hbh : bh < W0.heap.size) (n1 : ba ≠ bh) (n2 : g0 ≠ bh) (hf : len ≤ 4000) :
    Qk.Tl 94 #[.pointer (some ⟨bh, 0, none⟩), .pointer (some ⟨ba, 0, none⟩)] len lo W0.heap.size (fun t => Qk.allTo s0 (t + 1)) (fun t W => Qk.Rem bh W0.heap.size W0 W (.bool (Qk.allTo s0 t))) := by
  refine ⟨Tryz.call94, fun t W W' h hb => h.below hbh hb, fun t W ht hI hh => ?_⟩
  have p1 := (hI.but.cell (o := 0) (World.block_lt_of_cell? W0 _ ha) n1).trans ha
  have p2 := (r0.kept (hI.but.block g0 r0.lt n2)).cell (Qk.at_get (b := s0) (i := t) (by omega))
  have p3 := hI.cell
  have p4 := hI.frozen
  have HI := hide hI
  have hk1 : (0 : Int) ≤ (t : Int) := by omega
  have hk2 : (t : Int) < (len : Int) := by omega
  clear ha r0 e0 hI
  show Calls Tryz.prog 94 #[.int .i64 (t : Nat), .pointer (some ⟨bh, 0, none⟩), .pointer (some ⟨ba, 0, none⟩)] W fun e W' => e = .returned (.bool (Qk.allTo s0 t && Qk.at_ s0 t)) ∧ Qk.Rem bh W0.heap.size W0 W' (.bool (Qk.allTo s0 t && Qk.at_ s0 t)) ∧ _
  generalize Qk.at_ s0 t = x at *
  generalize Qk.allTo s0 t = y at *
  cases y
  · go_enter Tryz.func94, Tryz.ntmps94
    go_wp2_with fail
    go_ret
    refine ⟨rfl, (unhide HI).set _, Qk.Only.set W hlo hbh _⟩
  · go_enter Tryz.func94, Tryz.ntmps94
    go_wp2_with fail
    go_ret
    refine ⟨rfl, (unhide HI).set _, Qk.Only.set W hlo hbh _⟩

set_option maxHeartbeats 400000 in
theorem tl_since (s0 s1 : List Bool) (bh ba bb g0 c0 g1 c1 len lo : Nat) (W0 : World) (ha : W0.cell? ⟨ba, 0, none⟩ = some (.slice (some ⟨g0, 0, none⟩) len c0)) (r0 : Qk.Row W0 g0 s0) (e0 : s0.length = len) (hb : W0.cell? ⟨bb, 0, none⟩ = some (.slice (some ⟨g1, 0, none⟩) len c1)) (r1 : Qk.Row W0 g1 s1) (e1 : s1.length = len) (hlo : lo ≤ bh) (hbh : bh < W0.heap.size) (n1 : ba ≠ bh) (n2 : g0 ≠ bh) (n3 : bb ≠ bh) (n4 : g1 ≠ bh) (hf : len ≤ 4000) :
    Qk.Tl 95 #[.pointer (some ⟨bb, 0, none⟩), .pointer (some ⟨bh, 0, none⟩), .pointer (some ⟨ba, 0, none⟩)] len lo W0.heap.size (fun t => Qk.sinceTo s0 s1 (t + 1)) (fun t W => Qk.Rem bh W0.heap.size W0 W (.bool (Qk.sinceTo s0 s1 t))) := by
  refine ⟨Tryz.call95, fun t W W' h hb => h.below hbh hb, fun t W ht hI hh => ?_⟩
  have p1 := (hI.but.cell (o := 0) (World.block_lt_of_cell? W0 _ ha) n1).trans ha
  have p2 := (r0.kept (hI.but.block g0 r0.lt n2)).cell (Qk.at_get (b := s0) (i := t) (by omega))
  have q1 := (hI.but.cell (o := 0) (World.block_lt_of_cell? W0 _ hb) n3).trans hb
  have q2 := (r1.kept (hI.but.block g1 r1.lt n4)).cell (Qk.at_get (b := s1) (i := t) (by omega))
  have p3 := hI.cell
  have p4 := hI.frozen
  have HI := hide hI
  have hk1 : (0 : Int) ≤ (t : Int) := by omega
  have hk2 : (t : Int) < (len : Int) := by omega
  clear ha r0 e0 hb r1 e1 hI
  show Calls Tryz.prog 95 #[.int .i64 (t : Nat), .pointer (some ⟨bb, 0, none⟩), .pointer (some ⟨bh, 0, none⟩), .pointer (some ⟨ba, 0, none⟩)] W fun e W' => e = .returned (.bool (Qk.at_ s1 t || (Qk.sinceTo s0 s1 t && Qk.at_ s0 t))) ∧ Qk.Rem bh W0.heap.size W0 W' (.bool (Qk.at_ s1 t || (Qk.sinceTo s0 s1 t && Qk.at_ s0 t))) ∧ _
  generalize Qk.at_ s0 t = x at *
  generalize Qk.at_ s1 t = z at *
  generalize Qk.sinceTo s0 s1 t = y at *
  cases z <;> cases y
  · go_enter Tryz.func95, Tryz.ntmps95
    go_wp2_with fail
    go_ret
    exact ⟨rfl, (unhide HI).set _, Qk.Only.set W hlo hbh _⟩
  · go_enter Tryz.func95, Tryz.ntmps95
    go_wp2_with fail
    go_ret
    exact ⟨rfl, (unhide HI).set _, Qk.Only.set W hlo hbh _⟩
  · go_enter Tryz.func95, Tryz.ntmps95
    go_wp2_with fail
    go_ret
    exact ⟨rfl, (unhide HI).set _, Qk.Only.set W hlo hbh _⟩
  · go_enter Tryz.func95, Tryz.ntmps95
    go_wp2_with fail
    go_ret
    exact ⟨rfl, (unhide HI).set _, Qk.Only.set W hlo hbh _⟩

set_option maxRecDepth 100000 in
set_option maxHeartbeats 1600000 in
theorem tl_soon (s0 : List Bool) (n : Int) (bh ba bn g0 c0 len lo : Nat) (W0 : World) (ha : W0.cell? ⟨ba, 0, none⟩ = some (.slice (some ⟨g0, 0, none⟩) len c0)) (r0 : Qk.Row W0 g0 s0) (e0 : s0.length = len) (hn : W0.cell? ⟨bn, 0, none⟩ = some (.int .i64 n)) (hlo : lo ≤ bh) (hbh : bh < W0.heap.size) (n1 : ba ≠ bh) (n2 : g0 ≠ bh) (n3 : bn ≠ bh) (hf : len ≤ 4000) :
    Qk.Tl 96 #[.pointer (some ⟨bh, 0, none⟩), .pointer (some ⟨ba, 0, none⟩), .pointer (some ⟨bn, 0, none⟩)] len lo W0.heap.size (fun t => Qk.soonAt s0 n t) (fun t W => ∃ v : Nat, v ≤ len ∧ (∀ u, t ≤ u → u < v → Qk.at_ s0 u = false) ∧ Qk.Rem bh W0.heap.size W0 W (.int .i64 (v : Nat))) := by
  refine ⟨Tryz.call96, fun t W W' ⟨v, h1, h2, h⟩ hb => ⟨v, h1, h2, h.below hbh hb⟩, fun t W ht ⟨v, hv, hfalse, hI⟩ hh => ?_⟩
  have HA := hide (fun (W' : World) (x : Value) (h : Qk.Rem bh W0.heap.size W0 W' x) => (h.but.cell (o := 0) (World.block_lt_of_cell? W0 _ ha) n1).trans ha)
  have HN := hide (fun (W' : World) (x : Value) (h : Qk.Rem bh W0.heap.size W0 W' x) => (h.but.cell (o := 0) (World.block_lt_of_cell? W0 _ hn) n3).trans hn)
  have HR := hide (fun (W' : World) (x : Value) (h : Qk.Rem bh W0.heap.size W0 W' x) (i : Nat) (hi : i < len) => (r0.kept (h.but.block g0 r0.lt n2)).cell (Qk.at_get (b := s0) (i := i) (by omega)))
  have p1 := (unhide HA) _ _ hI
  have p3 := hI.cell
  have p4 := hI.frozen
  have HI := hide hI
  have HF := hide hfalse
  have HE := hide e0
  clear ha r0 e0 hn hI hfalse
  have HX := hide (show ∀ m : Nat, t ≤ m → m ≤ len → (∀ u, t ≤ u → u < m → Qk.at_ s0 u = false) → (m = len ∨ Qk.at_ s0 m = true) → Qk.soonAt s0 n t = (decide (m < len) && decide ((m : Int) - (t : Int) ≤ n)) from fun m h1 h2 h3 h4 => by
    have e := unhide HE
    unfold Qk.soonAt
    rw [Qk.nx_is h1 (by omega) h3 (by rw [e]; exact h4), e])
  show Calls Tryz.prog 96 #[.int .i64 (t : Nat), .pointer (some ⟨bh, 0, none⟩), .pointer (some ⟨ba, 0, none⟩), .pointer (some ⟨bn, 0, none⟩)] W _
  generalize Qk.soonAt s0 n t = SA at *
  by_cases hvt : (v : Int) < (t : Int)
  · have HF2 := hide (show ∀ u, t ≤ u → u < t → Qk.at_ s0 u = false from fun u h1 h2 => by omega)
    have HS := hide ((unhide HI).set (.int .i64 (t : Nat)))
    have HO := hide (Qk.Only.set (lo := lo) (o := 0) W hlo hbh (.int .i64 (t : Nat)))
    go_enter Tryz.func96, Tryz.ntmps96
    go_wp2_with fail
    go_loopg [20] (len - t) (fun k _ wr => ∃ m : Nat, k = len - m ∧ t ≤ m ∧ m ≤ len ∧ (∀ u, t ≤ u → u < m → Qk.at_ s0 u = false) ∧ Qk.Rem bh W0.heap.size W0 wr (.int .i64 (m : Nat)) ∧ Qk.Only lo W0.heap.size W wr)
    case atStart => exact ⟨t, rfl, by omega, by omega, unhide HF2, unhide HS, unhide HO⟩
    case round =>
      obtain ⟨m, rfl, h1, h2, h3, hrm, hon⟩ := hrel
      have q1 := (unhide HA) _ _ hrm
      have q2 := (unhide HN) _ _ hrm
      have q3 := hrm.cell
      have q4 := hrm.frozen
      have HRM := hide hrm
      have HON := hide hon
      have H3 := hide h3
      clear hrm hon h3 p1 p3 p4 hvt
      have hk1 : (0 : Int) ≤ (m : Int) := by omega
      by_cases hlt : m < len
      · have q5 := (unhide HR) _ _ (unhide HRM) m hlt
        have hk2 : (m : Int) < (len : Int) := by omega
        cases hx : Qk.at_ s0 m
        · rw [hx] at q5
          have H4 := hide (show ∀ u, t ≤ u → u < m + 1 → Qk.at_ s0 u = false from fun u a b => by
            rcases Nat.lt_or_ge u m with h | h
            · exact (unhide H3) u a h
            · rw [show u = m by omega]; exact hx)
          clear hx
          go_wp2_with fail
          go_roundg (len - (m + 1))
          case measure => omega
          case rel => exact ⟨m + 1, rfl, by omega, by omega, unhide H4, by have := (unhide HRM).set (.int .i64 ((m + 1 : Nat) : Int)); simpa using this, (unhide HON).trans (Qk.Only.set _ hlo hbh _)⟩
        · rw [hx] at q5
          have HZ := hide ((unhide HX) m h1 h2 (unhide H3) (Or.inr hx))
          have H4 := hide (show ∀ u, t + 1 ≤ u → u < m → Qk.at_ s0 u = false from fun u a b => (unhide H3) u (by omega) b)
          clear hx
          go_wp2_with fail
          go_ret
          exact ⟨ret_bool (by rw [unhide HZ]; simp [hlt]), ⟨m, by omega, unhide H4, unhide HRM⟩, unhide HON⟩
      · have hml : m = len := by omega
        have HZ := hide ((unhide HX) m h1 h2 (unhide H3) (Or.inl hml))
        have H4 := hide (show ∀ u, t + 1 ≤ u → u < m → Qk.at_ s0 u = false from fun u a b => (unhide H3) u (by omega) b)
        have hk2 : ¬ (m : Int) < (len : Int) := by omega
        clear hml
        go_wp2_with fail
        go_ret
        exact ⟨ret_bool (by rw [unhide HZ]; simp [hlt]), ⟨m, by omega, unhide H4, unhide HRM⟩, unhide HON⟩
  · have hm1 : t ≤ v := by omega
    have HF2 := hide (show ∀ u, t ≤ u → u < v → Qk.at_ s0 u = false from unhide HF)
    have HS := hide ((unhide HI).set (.int .i64 (v : Nat)))
    have HO := hide (Qk.Only.set (lo := lo) (o := 0) W hlo hbh (.int .i64 (v : Nat)))
    go_enter Tryz.func96, Tryz.ntmps96
    go_wp2_with fail
    go_loopg [20] (len - v) (fun k _ wr => ∃ m : Nat, k = len - m ∧ t ≤ m ∧ m ≤ len ∧ (∀ u, t ≤ u → u < m → Qk.at_ s0 u = false) ∧ Qk.Rem bh W0.heap.size W0 wr (.int .i64 (m : Nat)) ∧ Qk.Only lo W0.heap.size W wr)
    case atStart => exact ⟨v, rfl, by omega, by omega, unhide HF2, unhide HS, unhide HO⟩
    case round =>
      obtain ⟨m, rfl, h1, h2, h3, hrm, hon⟩ := hrel
      have q1 := (unhide HA) _ _ hrm
      have q2 := (unhide HN) _ _ hrm
      have q3 := hrm.cell
      have q4 := hrm.frozen
      have HRM := hide hrm
      have HON := hide hon
      have H3 := hide h3
      clear hrm hon h3 p1 p3 p4 hvt
      have hk1 : (0 : Int) ≤ (m : Int) := by omega
      by_cases hlt : m < len
      · have q5 := (unhide HR) _ _ (unhide HRM) m hlt
        have hk2 : (m : Int) < (len : Int) := by omega
        cases hx : Qk.at_ s0 m
        · rw [hx] at q5
          have H4 := hide (show ∀ u, t ≤ u → u < m + 1 → Qk.at_ s0 u = false from fun u a b => by
            rcases Nat.lt_or_ge u m with h | h
            · exact (unhide H3) u a h
            · rw [show u = m by omega]; exact hx)
          clear hx
          go_wp2_with fail
          go_roundg (len - (m + 1))
          case measure => omega
          case rel => exact ⟨m + 1, rfl, by omega, by omega, unhide H4, by have := (unhide HRM).set (.int .i64 ((m + 1 : Nat) : Int)); simpa using this, (unhide HON).trans (Qk.Only.set _ hlo hbh _)⟩
        · rw [hx] at q5
          have HZ := hide ((unhide HX) m h1 h2 (unhide H3) (Or.inr hx))
          have H4 := hide (show ∀ u, t + 1 ≤ u → u < m → Qk.at_ s0 u = false from fun u a b => (unhide H3) u (by omega) b)
          clear hx
          go_wp2_with fail
          go_ret
          exact ⟨ret_bool (by rw [unhide HZ]; simp [hlt]), ⟨m, by omega, unhide H4, unhide HRM⟩, unhide HON⟩
      · have hml : m = len := by omega
        have HZ := hide ((unhide HX) m h1 h2 (unhide H3) (Or.inl hml))
        have H4 := hide (show ∀ u, t + 1 ≤ u → u < m → Qk.at_ s0 u = false from fun u a b => (unhide H3) u (by omega) b)
        have hk2 : ¬ (m : Int) < (len : Int) := by omega
        clear hml
        go_wp2_with fail
        go_ret
        exact ⟨ret_bool (by rw [unhide HZ]; simp [hlt]), ⟨m, by omega, unhide H4, unhide HRM⟩, unhide HON⟩
end Go.Proofs.YtfhlnelgnnkeoaaGreatDoor
