/-
  Several texts in one: ROpen, RSpoil, RCalls, RDisked. By the verifier.
-/
import Derived.Test.YtpabpcojiaklfaaLOpen
import Derived.Test.YtpabpcojiaklfaaRWr
import Derived.Test.YtpabpcojiaklfaaLOpensLem
import Derived.Deep.RegionLawGrows
import Derived.Deep.DeepCutAuto
namespace Go.Proofs.Ytpabpcojiaklfaa
open Go.RowKit
set_option linter.unusedVariables false

theorem Lg.lies.wr {B : Nat} {W : World} {a : Option Addr} {l : List Ev} (h : Lg.lies B W a l) : Rs.Wr 6 0 B W a l.length := by
  have hre := h.re
  rcases h with rfl | ⟨g, cur, ⟨rfl, hB⟩, h2, h3⟩
  · exact Rs.Wr.nil _ _ _ _ _
  · refine ⟨fun i hi => ⟨g, 0, rfl, hB, (Array.getElem?_eq_some_iff.1 h2).1, ?_, ?_⟩⟩
    · obtain ⟨_, _, he, _, c0, _⟩ := hre.at_ i l[i] (List.getElem?_eq_getElem hi)
      cases he
      exact ⟨_, c0, rfl⟩
    · simp [World.frozen?, h2]
/-- Each of the batches may be written, and lies from block B on. -/
theorem Lg.BB.wr {W : World} {B : Nat} {v : Value} {ls : List (List Ev)} (h : Lg.BB W B v ls) : ∃ svs : List Value, W.ownsRow B 34 1 v ls.length svs ∧ ∀ (j : Nat) (l : List Ev), ls[j]? = some l → ∃ a k, svs[j]? = some (.slice a l.length k) ∧ Cl.RE W a l ∧ Rs.Wr 6 0 B W a l.length := by
  obtain ⟨svs, h1, h2⟩ := h.rows
  refine ⟨svs, h1, fun j l hj => ?_⟩
  obtain ⟨a, k, h3, h4⟩ := h2 j l hj
  exact ⟨a, k, h3, h4.re, h4.wr⟩
end Go.Proofs.Ytpabpcojiaklfaa
namespace Go.Proofs.Ytpabpcojiaklfaa
open Go.RowKit
set_option linter.unusedVariables false

set_option maxRecDepth 100000 in
set_option maxHeartbeats 800000 in
theorem spoilEvents_any (B n cap : Nat) (ad : Option Addr) (w : World) (h : Rs.Wr 6 0 B w ad n) (hn : n ≤ 35184372088832) :
    Calls Try.prog 29 #[.slice ad n cap] w fun r w' => r = .returned (.tuple #[]) ∧ Below B w w' ∧ Rs.Fr w w' := by
  have HW := hide h
  clear h
  go_enter Try.func29, Try.ntmps29
  go_wp2_with fail
  go_loopw [2] (fun v wr => ∃ k : Nat, k ≤ n ∧ v = .int .i64 ((k : Nat) : Int) ∧ Rs.Wr 6 0 B wr ad n ∧ Below B w wr ∧ Rs.Fr w wr) (fun v _ => n - (intOf v).toNat)
  case atStart => exact ⟨0, Nat.zero_le _, rfl, unhide HW, Below.refl _ _, Rs.Fr.refl _⟩
  case round =>
    obtain ⟨k, hk, rfl, hW, hB, hF⟩ := hrel
    have HWR := hide hW
    have HBR := hide hB
    have HFR := hide hF
    clear hW hB hF
    by_cases hlt : k < n
    · obtain ⟨b, o, rfl, hb1, hb2, ⟨u, c0, hu⟩, f0⟩ := (unhide HWR).at_ k hlt
      rw [Nat.add_zero] at c0 f0
      have HFS := hide ((unhide HFR).set (v := .int .i64 (-7)) c0 hu rfl)
      clear hu
      have hk1 : (0 : Int) ≤ (k : Int) := by omega
      have hk2 : (k : Int) < (n : Int) := by omega
      go_wp2_with fail
      go_round
      case rel => exact ⟨k + 1, by omega, by go_num, (unhide HWR).set _ _ _ rfl, (unhide HBR).setCell (p := ⟨b, o + k * 6, none⟩) hb1 _, unhide HFS⟩
      case measure => simp [intOf]; omega
    · have hk2 : ¬ (k : Int) < (n : Int) := by omega
      go_wp2_with fail
      go_end0
      exact ⟨rfl, unhide HBR, unhide HFR⟩

set_option maxRecDepth 100000 in
set_option maxHeartbeats 800000 in
theorem spoilDisk_any (B n m kc wc : Nat) (ka wa : Option Addr) (w : World) (h : Rs.Wr 1 0 B w ka n) (h2 : Rs.Wr 2 1 B w wa m) (hB : B ≤ w.heap.size) (hn : n ≤ 35184372088832) (hm : m ≤ 35184372088832) :
    Calls Try.prog 28 #[.agg #[.slice ka n kc, .slice wa m wc]] w fun r w' => r = .returned (.tuple #[]) ∧ Below B w w' ∧ Rs.Fr w w' := by
  have hbA := (Below.refl w.heap.size w).alloc (Nat.le_refl _) (Obj.cells #[.slice ka n kc, .slice wa m wc] 29)
  have HW := hide (And.intro (h.below hbA (Nat.le_refl _)) (h2.below hbA (Nat.le_refl _)))
  have HBA := hide (hbA.mono hB)
  have HFA := hide (Rs.Fr.below hbA (Nat.le_refl _))
  have hold : ∀ b o, ka = some ⟨b, o, none⟩ → 0 < n → b < w.heap.size := fun b o hk h0 => by
    obtain ⟨b', o', h1, _, h3, _⟩ := h.at_ 0 h0
    rw [hk] at h1
    cases h1
    exact h3
  have hold2 : ∀ b o, wa = some ⟨b, o, none⟩ → 0 < m → b < w.heap.size := fun b o hk h0 => by
    obtain ⟨b', o', h1, _, h3, _⟩ := h2.at_ 0 h0
    rw [hk] at h1
    cases h1
    exact h3
  have HO := hide (And.intro hold hold2)
  clear h h2 hbA hold hold2
  go_enter Try.func28, Try.ntmps28
  go_wp2_with fail
  have q0 : (w.alloc (Obj.cells #[.slice ka n kc, .slice wa m wc] 29)).cell? ⟨w.heap.size, 0, none⟩ = some (.slice ka n kc) := by go_simp
  have q1 : (w.alloc (Obj.cells #[.slice ka n kc, .slice wa m wc] 29)).cell? ⟨w.heap.size, 1, none⟩ = some (.slice wa m wc) := by go_simp
  have HQ := hide (And.intro q0 q1)
  clear q0 q1
  generalize (w.alloc (Obj.cells #[.slice ka n kc, .slice wa m wc] 29)) = W0 at *
  go_loopw [2] (fun v wr => ∃ k : Nat, k ≤ n ∧ v = .int .i64 ((k : Nat) : Int) ∧ Rs.Wr 1 0 B wr ka n ∧ Rs.Wr 2 1 B wr wa m ∧ Below B w wr ∧ wr.cell? ⟨w.heap.size, 0, none⟩ = some (.slice ka n kc) ∧ wr.cell? ⟨w.heap.size, 1, none⟩ = some (.slice wa m wc) ∧ Rs.Fr w wr) (fun v _ => n - (intOf v).toNat)
  case atStart => exact ⟨0, Nat.zero_le _, rfl, (unhide HW).1, (unhide HW).2, unhide HBA, (unhide HQ).1, (unhide HQ).2, unhide HFA⟩
  case round =>
    obtain ⟨k, hk, rfl, hW, hW2, hB2, q0, q1, hF⟩ := hrel
    have HFR := hide hF
    clear hF
    have HWR := hide (And.intro hW hW2)
    have HBR := hide hB2
    clear hW hW2 hB2
    by_cases hlt : k < n
    · obtain ⟨b, o, hka, hb1, hb2, ⟨u, c0, hu⟩, f0⟩ := (unhide HWR).1.at_ k hlt
      have hbo := (unhide HO).1 b o hka (by omega)
      subst hka
      rw [Nat.add_zero, Nat.mul_one] at c0 f0
      have HFS := hide ((unhide HFR).set (v := .string ⟨#[63]⟩) c0 hu rfl)
      clear hu
      have hk1 : (0 : Int) ≤ (k : Int) := by omega
      have hk2 : (k : Int) < (n : Int) := by omega
      have hne : w.heap.size ≠ b := by omega
      have d0 : (wr.setCell ⟨b, o + k, none⟩ (.string ⟨#[63]⟩)).cell? ⟨w.heap.size, 0, none⟩ = some (.slice (some ⟨b, o, none⟩) n kc) := (World.cell?_of_block (a := ⟨w.heap.size, 0, none⟩) (Below.heap_setCell _ _ _ _ hne)).trans q0
      have d1 : (wr.setCell ⟨b, o + k, none⟩ (.string ⟨#[63]⟩)).cell? ⟨w.heap.size, 1, none⟩ = some (.slice wa m wc) := (World.cell?_of_block (a := ⟨w.heap.size, 1, none⟩) (Below.heap_setCell _ _ _ _ hne)).trans q1
      have HD := hide (And.intro d0 d1)
      clear d0 d1
      go_wp2_with fail
      go_round
      case rel => exact ⟨k + 1, by omega, by go_num, (unhide HWR).1.set _ _ _ rfl, (unhide HWR).2.set _ _ _ rfl, (unhide HBR).setCell (p := ⟨b, o + k, none⟩) hb1 _, (unhide HD).1, (unhide HD).2, unhide HFS⟩
      case measure => simp [intOf]; omega
    · have hk2 : ¬ (k : Int) < (n : Int) := by omega
      go_wp2_with fail
      obtain ⟨W1, hW1⟩ : ∃ W1, W1 = wr := ⟨_, rfl⟩
      subst hW1
      have HQ1 := hide (And.intro q0 q1)
      clear q0 q1
      go_loopw [3] (fun v wr => ∃ k : Nat, k ≤ m ∧ v = .int .i64 ((k : Nat) : Int) ∧ Rs.Wr 2 1 B wr wa m ∧ Below B w wr ∧ wr.cell? ⟨w.heap.size, 1, none⟩ = some (.slice wa m wc) ∧ Rs.Fr w wr) (fun v _ => m - (intOf v).toNat)
      case atStart => exact ⟨0, Nat.zero_le _, rfl, (unhide HWR).2, unhide HBR, (unhide HQ1).2, unhide HFR⟩
      case round =>
        obtain ⟨k', hk', rfl, hW', hB', q1', hF'⟩ := hrel
        have HFR' := hide hF'
        clear hF'
        have HWR' := hide hW'
        have HBR' := hide hB'
        clear hW' hB'
        by_cases hlt' : k' < m
        · obtain ⟨b, o, hka, hb1, hb2, ⟨u, c0, hu⟩, f0⟩ := (unhide HWR').at_ k' hlt'
          have HFS := hide ((unhide HFR').set (v := .string ⟨#[63]⟩) c0 hu rfl)
          clear hu
          have hbo := (unhide HO).2 b o hka (by omega)
          subst hka
          have hk1' : (0 : Int) ≤ (k' : Int) := by omega
          have hk2' : (k' : Int) < (m : Int) := by omega
          have hne : w.heap.size ≠ b := by omega
          have HD := hide (show (wr.setCell ⟨b, o + k' * 2 + 1, none⟩ (.string ⟨#[63]⟩)).cell? ⟨w.heap.size, 1, none⟩ = some (.slice (some ⟨b, o, none⟩) m wc) from (World.cell?_of_block (a := ⟨w.heap.size, 1, none⟩) (Below.heap_setCell _ _ _ _ hne)).trans q1')
          go_wp2_with fail
          go_round
          case rel => exact ⟨k' + 1, by omega, by go_num, (unhide HWR').set _ _ _ rfl, (unhide HBR').setCell (p := ⟨b, o + k' * 2 + 1, none⟩) hb1 _, unhide HD, unhide HFS⟩
          case measure => simp [intOf]; omega
        · have hk2' : ¬ (k' : Int) < (m : Int) := by omega
          go_wp2_with fail
          go_end0
          exact ⟨rfl, unhide HBR', unhide HFR'⟩
end Go.Proofs.Ytpabpcojiaklfaa
namespace Go.Proofs.Ytpabpcojiaklfaa
open Go.RowKit
set_option linter.unusedVariables false

theorem Rs.Wr.ofK {B g : Nat} {W : World} {ks : List ByteArray} (h : Dk.RK W (some ⟨g, 0, none⟩) ks) (hf : ∀ j, W.frozen? ⟨g, j, none⟩ = false) (hB : B ≤ g) : Rs.Wr 1 0 B W (some ⟨g, 0, none⟩) ks.length :=
  ⟨fun i hi => by
    obtain ⟨b, o, h1, h2, h3, _⟩ := h.at_ i ks[i] (List.getElem?_eq_getElem hi)
    cases h1
    exact ⟨g, 0, rfl, hB, h2, ⟨_, by rw [Nat.add_zero, Nat.mul_one]; exact h3, rfl⟩, hf _⟩⟩
theorem Rs.Wr.ofW {B g : Nat} {W : World} {ws : List (Int × ByteArray)} (h : Dk.RW W (some ⟨g, 0, none⟩) ws) (hf : ∀ j, W.frozen? ⟨g, j, none⟩ = false) (hB : B ≤ g) : Rs.Wr 2 1 B W (some ⟨g, 0, none⟩) ws.length :=
  ⟨fun i hi => by
    obtain ⟨b, o, h1, h2, _, h4, _⟩ := h.at_ i ws[i] (List.getElem?_eq_getElem hi)
    cases h1
    exact ⟨g, 0, rfl, hB, h2, ⟨_, h4, rfl⟩, hf _⟩⟩
theorem Rs.DW.ofEl {B bn bw : Nat} {W : World} {v A0 A1 : Value} {ks : List ByteArray} {ws : List (Int × ByteArray)} (h : Lg.El W bn bw v A0 A1 ks ws) (hB : B ≤ bw) (h1 : ks.length ≤ 1000) (h2 : ws.length ≤ 1000) : Rs.DW B W A0 A1 := by
  obtain ⟨g, c, b, e, e1, e2, h3, h4, h5, ⟨h6, h7, h8, h9, hf⟩, h10⟩ := h.lies
  refine ⟨_, _, _, _, _, _, e1, e2, Rs.Wr.ofK h3 hf (by omega), ?_, h1, h2⟩
  rcases h10 with rfl | ⟨g', rfl, m1, m2, m3, m4, m5⟩
  · cases ws with
    | nil => exact Rs.Wr.nil _ _ _ _ _
    | cons x r => obtain ⟨_, _, he, _⟩ := h4.at_ 0 x rfl; cases he
  · exact Rs.Wr.ofW h4 m5 (by omega)
theorem Rs.WW.ofWy {B g n c bn bw : Nat} {W : World} {v : Value} {cs : List Value} {ds : List (List ByteArray × List (Int × ByteArray))} (ho : W.ownsRow B 29 2 (.slice (some ⟨g, 0, none⟩) n c) n cs) (hy : Lg.Wy W bn bw v cs ds) (hn : n = ds.length) (hB : B ≤ bw) (hl : ∀ d ∈ ds, d.1.length ≤ 1000 ∧ d.2.length ≤ 1000) : Rs.WW B W (some ⟨g, 0, none⟩) n :=
  ⟨fun j hj => by
    have hd := List.getElem?_eq_getElem (show j < ds.length by omega)
    obtain ⟨A0, A1, h1, h2, h3⟩ := hy.at_ j _ hd
    have c0 := ho.cells (g := g) rfl _ _ h1
    have c1 := ho.cells (g := g) rfl _ _ h2
    rw [Dk.add_at] at c0 c1
    obtain ⟨l1, l2⟩ := hl _ (List.getElem_mem (show j < ds.length by omega))
    exact ⟨g, 0, A0, A1, rfl, World.block_lt_of_cell? W _ c0, c0, by rw [Nat.add_assoc]; exact c1, Rs.DW.ofEl h3 hB l1 l2⟩⟩

theorem Lg.app_ok {ks : List ByteArray} {ws : List (Int × ByteArray)} {l : List Ev} {x : List (List Ev) × List ByteArray} (h : Lg.app ks ws l = .ok x) : Lg.Good l := by
  unfold Lg.app at h
  split at h
  · split at h
    · cases h
    · rename_i h1
      split at h
      · rename_i h2; exact ⟨h2, by omega⟩
      · cases h
  · cases h
theorem Lg.app_err {ks : List ByteArray} {ws : List (Int × ByteArray)} {l : List Ev} {m : Nat} (h : Lg.app ks ws l = .error m) : m ≠ 0 := by
  unfold Lg.app at h
  split at h
  · split at h
    · cases h; omega
    · split at h
      · split at h
        · cases h; omega
        · split at h
          · cases h; omega
          · cases h
      · cases h; omega
  · rename_i h1; cases h; exact h1

/-- A log's disk. -/
structure Rs.Lo (n : Nat) (there : List (List Ev)) (free : List ByteArray) : Prop where
  good : ∀ l ∈ there, Lg.Good l
  len : there.length ≤ 100
  free32 : ∀ s ∈ free, s.size = 32
  img : Lg.used there + free.length = n
  n4 : 4 ≤ n
  n6 : n ≤ 600

/-- What Append answers on a log's disk. -/
structure Rs.Ap (B : Nat) (w' : World) (n : Nat) (there : List (List Ev)) (free : List ByteArray) (l : List Ev) (A0 A1 : Value) (wa : Option Addr) (wn : Nat) (m : Nat) : Prop where
  dw : Rs.DW B w' A0 A1
  ww : Rs.WW B w' wa wn
  wn : wn ≤ 1000
  sl : (∃ a k c, A0 = .slice a k c) ∧ (∃ a k c, A1 = .slice a k c)
  ok : m = 0 → Lg.Good l ∧ l.length + 1 ≤ free.length ∧ A1 = .slice none 0 0 ∧ ∃ g0 c0, A0 = .slice (some ⟨g0, 0, none⟩) n c0 ∧ n ≤ c0 ∧ B ≤ g0 ∧ Dk.RK w' (some ⟨g0, 0, none⟩) (Lg.img (there ++ [l]) (free.drop (Lg.laid l).length))

theorem Rs.append_any {n : Nat} {there : List (List Ev)} {free : List ByteArray} (h : Rs.Lo n there free) (l : List Ev) (la : Option Addr) (lc g c : Nat) (hc : n ≤ c) (wb : Option Addr) (wc : Nat) (W : World) (hk : Dk.RK W (some ⟨g, 0, none⟩) (Lg.img there free)) (hr : Cl.RE W la l) :
    Calls Try.prog 13 #[.agg #[.slice (some ⟨g, 0, none⟩) n c, .slice wb 0 wc], .slice la l.length lc] W fun e w' => ∃ A0 A1 wa wn wc' m, e = .returned (.tuple #[.agg #[A0, A1], .slice wa wn wc', .int .i64 ((m : Nat) : Int)]) ∧ Rs.Ap W.heap.size w' n there free l A0 A1 wa wn m ∧ Below W.heap.size W w' := by
  have hlen := Lg.img_len there free
  rw [h.img] at hlen
  have h4 := h.n4
  have h6 := h.n6
  have hn : there.length ≤ 1000 := by have := h.len; omega
  have := Append_any (some ⟨g, 0, none⟩) (Lg.img there free) c wb [] wc l la lc W hk (Dk.RW.nil _ _) (by rw [hlen]; exact hc) hr
  rw [hlen] at this
  refine this.mono ?_
  rintro e w' ⟨hv, hb⟩
  cases hap : Lg.app (Lg.img there free) [] l with
  | error m =>
    rw [hap] at hv
    exact ⟨.slice none 0 0, .slice none 0 0, none, 0, 0, m, hv, ⟨Rs.DW.nil _ _, ⟨fun j hj => absurd hj (Nat.not_lt_zero _)⟩, by omega, ⟨⟨_, _, _, rfl⟩, _, _, _, rfl⟩, fun h0 => absurd h0 (Lg.app_err hap)⟩, hb⟩
  | ok x =>
    have hg := Lg.app_ok hap
    have hap2 := Lg.app_img there free l h.good hn hg (Lg.img_chk h.free32 h.img h6)
    rw [hap] at hv hap2
    split at hap2
    · cases hap2
    rename_i hroom
    cases hap2
    obtain ⟨g0, c0, gw, cw, cs, bn, bw, he, h1, h2, ⟨h3, h3b, h3l, h3f⟩, hrow, hwy⟩ := hv
    have hu : n - free.length = Lg.used there := by have := h.img; omega
    have hll := Lg.laid_len l
    have hgl := hg.len
    simp only [hlen, hu] at h1 h2 hwy he
    have hwl := Lg.way_len (Lg.img there free) (Lg.used there) (Lg.laid l) (Lg.hd (there.length + 1))
    rw [hll] at hrow he hwl
    have hlk : (Lg.ks2 (Lg.img there free) (Lg.used there) (Lg.laid l) (Lg.hd (there.length + 1))).length = n := by rw [← hlen]; exact (Dk.keptTo_length _ _ _ _).trans (Dk.keptTo_length _ _ _ _)
    have hwr := Rs.Wr.ofK h1 h3f h3
    rw [hlk] at hwr
    refine ⟨.slice (some ⟨g0, 0, none⟩) n c0, .slice none 0 0, some ⟨gw, 0, none⟩, l.length + 1 + 3, cw, 0, he, ⟨⟨_, _, _, _, _, _, rfl, rfl, hwr, Rs.Wr.nil _ _ _ _ _, by omega, by omega⟩, Rs.WW.ofWy hrow hwy (by rw [hwl]) h3b (fun d hd => ?_), by omega, ⟨⟨_, _, _, rfl⟩, _, _, _, rfl⟩, fun _ => ⟨hg, by omega, rfl, g0, c0, rfl, h2, h3, ?_⟩⟩, hb⟩
    · obtain ⟨j, hj⟩ := List.getElem?_of_mem hd
      obtain ⟨k1, k2⟩ := Lg.way_ok (by rw [hlen]; omega) (by rw [hlen]; exact h6) (Lg.img32 h.free32) (Lg.laid_32 l) (Lg.hd_size _) (by rw [hlen, hll]; have := h.img; omega) j d hj
      obtain ⟨_, k3, _, k4, _⟩ := Dk.chk_ok k1
      exact ⟨by omega, by omega⟩
    · rw [← Lg.ks2_img there l free (by rw [hll]; omega)]
      exact h1

theorem Rs.crash_any {n : Nat} {there : List (List Ev)} {free : List ByteArray} (h : Rs.Lo n there free) (g c : Nat) (wb : Option Addr) (wc : Nat) (ps : List Bool) (pa : Option Addr) (pc : Nat) (W : World) (hk : Dk.RK W (some ⟨g, 0, none⟩) (Lg.img there free)) (hp : Dk.RB W pa ps) :
    Calls Try.prog 15 #[.agg #[.slice (some ⟨g, 0, none⟩) n c, .slice wb 0 wc], .slice pa ps.length pc] W fun e w' => ∃ g' c', e = .returned (.tuple #[.agg #[.slice (some ⟨g', 0, none⟩) n c', .slice none 0 0], .int .i64 0]) ∧ Rs.DW W.heap.size w' (.slice (some ⟨g', 0, none⟩) n c') (.slice none 0 0) ∧ Below W.heap.size W w' := by
  have hlen := Lg.img_len there free
  rw [h.img] at hlen
  have h6 := h.n6
  have := Crash_wr (some ⟨g, 0, none⟩) (Lg.img there free) c wb [] wc ps pa pc W hk (Dk.RW.nil _ _) hp (Lg.img_chk h.free32 h.img h6)
  rw [hlen] at this
  refine this.mono ?_
  rintro e w' ⟨g', c', he, hr, hb, hg, hc, ho⟩
  have hwr := Rs.Wr.ofK hr ho.fr hg
  rw [Dk.keptTo_length, hlen] at hwr
  exact ⟨g', c', he, ⟨_, _, _, _, _, _, rfl, rfl, hwr, Rs.Wr.nil _ _ _ _ _, by omega, by omega⟩, hb⟩
theorem Rs.flush_any {n : Nat} {there : List (List Ev)} {free : List ByteArray} (h : Rs.Lo n there free) (g c : Nat) (wb : Option Addr) (wc : Nat) (W : World) (hk : Dk.RK W (some ⟨g, 0, none⟩) (Lg.img there free)) :
    Calls Try.prog 26 #[.agg #[.slice (some ⟨g, 0, none⟩) n c, .slice wb 0 wc]] W fun e w' => ∃ g' c', e = .returned (.tuple #[.agg #[.slice (some ⟨g', 0, none⟩) n c', .slice none 0 0], .int .i64 0]) ∧ Rs.DW W.heap.size w' (.slice (some ⟨g', 0, none⟩) n c') (.slice none 0 0) ∧ Below W.heap.size W w' := by
  have hlen := Lg.img_len there free
  rw [h.img] at hlen
  have h6 := h.n6
  have := Flush_wr (some ⟨g, 0, none⟩) (Lg.img there free) c wb [] wc W hk (Dk.RW.nil _ _) (Lg.img_chk h.free32 h.img h6)
  rw [hlen] at this
  refine this.mono ?_
  rintro e w' ⟨g', c', he, hr, hb, hg, hc, ho⟩
  have hwr := Rs.Wr.ofK hr ho.fr hg
  rw [Dk.keptTo_length, hlen] at hwr
  exact ⟨g', c', he, ⟨_, _, _, _, _, _, rfl, rfl, hwr, Rs.Wr.nil _ _ _ _ _, by omega, by omega⟩, hb⟩
/-- Batches that are read, and may be written. -/
structure Rs.OE (B : Nat) (W : World) (ad : Option Addr) (ls : List (List Ev)) : Prop where
  at_ : ∀ j l, ls[j]? = some l → ∃ b o a c, ad = some ⟨b, o, none⟩ ∧ b < W.heap.size ∧ W.cell? ⟨b, o + j, none⟩ = some (.slice a l.length c) ∧ Cl.RE W a l ∧ Rs.Wr 6 0 B W a l.length
theorem Rs.OE.below {B C : Nat} {W W' : World} {ad : Option Addr} {ls : List (List Ev)} (h : Rs.OE B W ad ls) (hb : Below C W W') (hC : W.heap.size ≤ C) : Rs.OE B W' ad ls :=
  ⟨fun j l hj => by
    obtain ⟨b, o, a, c, h1, h2, h3, h4, h5⟩ := h.at_ j l hj
    exact ⟨b, o, a, c, h1, by have := hb.size; omega, (hb.cell (p := ⟨b, o + j, none⟩) (by show b < C; omega)).trans h3, h4.later hb hC, h5.below hb hC⟩⟩
theorem Rs.OE.oo {B : Nat} {W : World} {ad : Option Addr} {ls : List (List Ev)} (h : Rs.OE B W ad ls) (hg : ∀ l ∈ ls, Lg.Good l) : Rs.OO B W ad ls.length :=
  ⟨fun j hj => by
    obtain ⟨b, o, a, c, h1, h2, h3, h4, h5⟩ := h.at_ j ls[j] (List.getElem?_eq_getElem hj)
    exact ⟨b, o, a, _, c, h1, h2, h3, h5, by have := (hg _ (List.getElem_mem hj)).len; omega⟩⟩
theorem Rs.open_any {n : Nat} {there : List (List Ev)} {free : List ByteArray} (h : Rs.Lo n there free) (g c : Nat) (hc : n ≤ c) (wb : Option Addr) (wc : Nat) (W : World) (hk : Dk.RK W (some ⟨g, 0, none⟩) (Lg.img there free)) :
    Calls Try.prog 16 #[.agg #[.slice (some ⟨g, 0, none⟩) n c, .slice wb 0 wc]] W fun e w' => ∃ a c', e = .returned (.tuple #[.slice a there.length c', .int .i64 0]) ∧ Rs.OE W.heap.size w' a there ∧ Below W.heap.size W w' := by
  have hlen := Lg.img_len there free
  rw [h.img] at hlen
  have h6 := h.n6
  have hn : there.length ≤ 1000 := by have := h.len; omega
  have := Open_any (some ⟨g, 0, none⟩) (Lg.img there free) c wb [] wc W hk (Dk.RW.nil _ _) (by rw [hlen]; exact hc)
  rw [show Lg.opened (Lg.img there free) [] = .ok there by unfold Lg.opened; rw [if_pos (Lg.img_chk h.free32 h.img h6), Lg.batchesOf_img there free h.good hn], hlen] at this
  refine this.mono ?_
  rintro e w' ⟨⟨v, he, ⟨a, c', rfl⟩, hbb⟩, hb⟩
  refine ⟨a, c', he, ⟨fun j l hj => ?_⟩, hb⟩
  obtain ⟨svs, h1, h2⟩ := hbb.wr
  obtain ⟨a', k, h3, h4, h5⟩ := h2 j l hj
  have hil := (List.getElem?_eq_some_iff.1 hj).1
  obtain ⟨g', cap, hv, _, _⟩ := h1.form (by omega)
  cases hv
  have hcc := h1.cells (g := g') rfl j _ h3
  rw [Dk.add_at, Nat.zero_add] at hcc
  exact ⟨g', 0, a', k, rfl, World.block_lt_of_cell? w' _ hcc, by rw [Nat.zero_add]; exact hcc, h4, h5⟩

/-- What Encode answers is a text that Decode takes. -/
theorem Rs.enc_str (l : List Ev) : ∃ bs, (Cl.encR l).1 = Cl.str bs ∧ bs.length ≤ maxLen ∧ ∀ b ∈ bs, b < 256 := by
  unfold Cl.encR
  split
  · exact ⟨[], rfl, by simp, by simp⟩
  · rename_i h4
    split
    · rename_i hok
      exact ⟨_, rfl, by have := Cl.encTo_len l (by omega) (List.all_eq_true.1 hok) 6 (by omega); unfold maxLen; omega, Cl.encTo_byte _ 6⟩
    · exact ⟨[], rfl, by simp, by simp⟩
theorem Rs.decR_len (bs : List Nat) (hb : ∀ b ∈ bs, b < 256) : (Cl.decR bs).1.length ≤ 4000 := by
  by_cases hd0 : (Cl.decR bs).2 = 0
  · exact (Cl.enc_dec bs hb hd0).1
  · rw [Cl.decR_err bs hd0]; simp

/-! ### Appends -/
theorem Cl.evC_inv : ∀ (l : List Ev) (j : Nat) (u : Value), (Cl.evC l)[j]? = some u → ∃ x, l[j / 6]? = some x ∧ x.cells[j % 6]? = some u
  | [], j, u, h => by simp [Cl.evC] at h
  | e :: r, j, u, h => by
    have h' : (e.cells ++ Cl.evC r)[j]? = some u := h
    by_cases hj : j < 6
    · rw [List.getElem?_append_left (by exact hj)] at h'
      exact ⟨e, by rw [Nat.div_eq_of_lt hj]; rfl, by rw [Nat.mod_eq_of_lt hj]; exact h'⟩
    · rw [List.getElem?_append_right (by show 6 ≤ j; omega)] at h'
      obtain ⟨x, h1, h2⟩ := Cl.evC_inv r (j - 6) u h'
      exact ⟨x, by rw [show j / 6 = (j - 6) / 6 + 1 by omega]; simpa using h1, by rw [show j % 6 = (j - 6) % 6 by omega]; exact h2⟩
theorem Cl.RE.news {w : World} {a : Addr} {l : List Ev} (h : Cl.RE w (some a) l) : ∀ j u, (Cl.evC l)[j]? = some u → w.cell? (a.add j) = some u := by
  intro j u hu
  obtain ⟨x, h1, h2⟩ := Cl.evC_inv l j u hu
  obtain ⟨b, o, he, _, c0, c1, c2, c3, c4, c5⟩ := h.at_ _ x h1
  cases he
  rw [Dk.add_at]
  have hj : j = j / 6 * 6 + j % 6 := by omega
  have hm : j % 6 < 6 := Nat.mod_lt _ (by omega)
  generalize j % 6 = r at *
  generalize j / 6 = q at *
  subst hj
  match r, hm with
  | 0, _ => cases h2; exact c0
  | 1, _ => cases h2; rw [← Nat.add_assoc]; exact c1
  | 2, _ => cases h2; rw [← Nat.add_assoc]; exact c2
  | 3, _ => cases h2; rw [← Nat.add_assoc]; exact c3
  | 4, _ => cases h2; rw [← Nat.add_assoc]; exact c4
  | 5, _ => cases h2; rw [← Nat.add_assoc]; exact c5
theorem Cl.one_e (l : List Ev) : ∀ u ∈ Cl.evC l, u.oneCell' = true := by
  intro u hu
  obtain ⟨e, _, he⟩ := List.mem_flatMap.1 hu
  simp [Ev.cells] at he
  rcases he with rfl | rfl | rfl | rfl | rfl | rfl <;> rfl
theorem Cl.evC_app (l m : List Ev) : Cl.evC (l ++ m) = Cl.evC l ++ Cl.evC m := by unfold Cl.evC; simp

theorem Rs.run_nil (w : World) (ty t e : TypeId) (i0 : TypeInfo) (ht : Try.prog.underlying t = some (.slice e)) (hi : Try.prog.info? e = some i0) (g n cap c : Nat) (hn : n ≤ cap) : (Builtin.append_ #[t, t] ty #[.slice (some ⟨g, 0, none⟩) n cap, .slice none 0 c]).run Try.prog w = .ok (.slice (some ⟨g, 0, none⟩) n cap) w := by
  have := run_append_room_src (P := Try.prog) w t t ty e i0 ht hi g 0 n cap (.slice none 0 c) 0 [] (Src.ofNil w ht c) (by omega) (by simp) (by simp)
  simpa [World.setCells] using this
theorem Rs.run_evs (ty : TypeId) (w : World) (base : Nat) (v : Value) (xs : List Ev) (ho : w.ownsRow base 70 6 v xs.length (Cl.evC xs)) (ad : Option Addr) (c : Nat) (ys : List Ev) (hr : Cl.RE w ad ys) (hs : (xs.length + ys.length) * 48 ≤ 140737488351232) (hbase : base ≤ w.heap.size) :
    ∃ v' w', (Builtin.append_ #[34, 34] ty #[v, .slice ad ys.length c]).run Try.prog w = .ok v' w' ∧ w'.ownsRow base 70 6 v' (xs.length + ys.length) (Cl.evC (xs ++ ys)) ∧ w.grownBy w' v.ownBlock := by
  obtain ⟨i0, hi, hz0, hz1, hz2⟩ := info_of Try.infoE
  cases ad with
  | none =>
    have hy0 : ys = [] := by
      cases ys with
      | nil => rfl
      | cons y r => obtain ⟨b, o, h, _⟩ := hr.at_ 0 y rfl; cases h
    subst hy0
    refine ⟨v, w, ?_, by simpa using ho, ⟨rfl, rfl, rfl, Nat.le_refl _, fun _ _ _ => rfl⟩⟩
    rcases ho.2 with ⟨rfl, _⟩ | ⟨g, cap, cur, rfl, _, hg, hn, _⟩
    · simp [Builtin.append_, run_underlying Try.underlying34, sizeOf, typeInfo, hi, Builtin.lenOf, Builtin.firstCells]
    · exact Rs.run_nil w ty _ _ i0 Try.underlying34 hi g _ cap c hn
  | some a =>
    obtain ⟨v', w', h1, h2, h3, _⟩ := run_append_own_at (P := Try.prog) w base 34 ty 70 i0 _ 6 48 Try.underlying34 hi hz0 hz1 hz2 rfl (by decide) v xs.length (Cl.evC xs) ho a ys.length c (Cl.evC ys) (Cl.evC_length ys) hr.news (Cl.one_e ys) (by unfold maxLen; omega) (by omega) hbase
    exact ⟨v', w', h1, by rw [Cl.evC_app]; exact h2, h3⟩
/-- A row of events of one's own, as it is read. -/
theorem Rs.re_own {W : World} {B : Nat} {a : Option Addr} {n c : Nat} {l : List Ev} (h : W.ownsRow B 70 6 (.slice a n c) n (Cl.evC l)) (hn : n = l.length) : Cl.RE W a l := by
  subst hn
  by_cases h0 : l.length = 0
  · have : l = [] := List.eq_nil_of_length_eq_zero h0
    subst this
    exact Cl.RE.nil _ _
  · obtain ⟨g, cap', hv, _, _⟩ := h.form (by omega)
    cases hv
    exact Cl.RE.of h
/-- A row has the form of a slice. -/
theorem Rs.form {W : World} {B : Nat} {e : TypeId} {size : Nat} {v : Value} {n : Nat} {xs : List Value} (h : W.ownsRow B e size v n xs) : ∃ a c, v = .slice a n c := by
  obtain ⟨h1, h2⟩ := h
  rcases h2 with ⟨hv, hx⟩ | ⟨g, cap, cur, hv, _⟩
  · exact ⟨none, 0, by first | (obtain ⟨rfl, _⟩ := hx; exact hv) | (rw [hv]; simp_all)⟩
  · exact ⟨_, _, hv⟩
theorem Rs.step_run {P : Program} {w w' : World} {ops : Array Oper} {o : Oper} {a : Act} {K : Act → World → Prop} {Q : Exit → Act → World → Prop} {E : Prop} (hg : o.guard = none) (s x : Operand) (t : TypeId)
    (ho : o.op = .call { callee := .builtin .append, args := #[s, x], argTypes := #[t, t] }) (v u v' : Value) (hs : a.eval s = v) (hx : a.eval x = u) (hr : (Builtin.append_ #[t, t] o.type #[v, u]).run P w = .ok v' w')
    (h : K (a.put o.dst v') w') : if Region.wanted o (yielded ops a.tmps) = true then Oper.wp P o a w K Q else E := by
  have hw : Region.wanted o (yielded ops a.tmps) = true := by simp [Region.wanted, hg]
  rw [if_pos hw]
  unfold Oper.wp
  simp [execOp, ho, resolve, invoke, builtin, hs, hx, hr, Result.andThen]
  exact h
end Go.Proofs.Ytpabpcojiaklfaa
namespace Go.Proofs.Ytpabpcojiaklfaa
open Go.RowKit
set_option linter.unusedVariables false

set_option maxRecDepth 100000 in
set_option maxHeartbeats 800000 in
theorem disked_err (n : Int) (ba : Option Addr) (bl bc : Nat) (w : World) (h : n < 4 ∨ 600 < n) :
    Calls Try.prog 25 #[.int .i64 n, .slice ba bl bc] w fun e w' => e = .returned (.tuple #[.agg #[.slice none 0 0, .slice none 0 0], .slice none 0 0, .bool false]) ∧ Below w.heap.size w w' := by
  have HF := hide (fun W => Format_err n W h)
  clear h
  go_enter Try.func25, Try.ntmps25
  go_wp2_with fail
  have hd := Dk.D6.made w 29
  refine ((unhide HF) _).mono ?_
  rintro e w1 ⟨rfl, hb1⟩
  have hd1 := (hd.below hb1).alloc (Obj.cells #[.slice none 0 0, .slice none 0 0] 29)
  have x0 := hd1.c0
  have x1 := hd1.c1
  have x2 := hd1.f0
  have x3 := hd1.f1
  have hz := hb1.size
  simp at hz
  have HB1 := hide ((below_two hb1).alloc (by omega) (Obj.cells #[.slice none 0 0, .slice none 0 0] 29))
  clear hb1 hd hd1
  go_wp2_with fail
  exact bodyPost_ret (v := .tuple #[.agg #[.slice none 0 0, .slice none 0 0], .slice none 0 0, .bool false]) (by simp [results, Try.results25, go_sem, x0, x1]) rfl ⟨rfl, ((unhide HB1).setCell (by simp; try omega) _).setCell (by simp; try omega) _⟩

/-- What stands at the beginning of a round. -/
structure Rs.Dd (w : World) (n b4 b7 k fl : Nat) (there : List (List Ev)) (free : List ByteArray) (g c : Nat) (av : Value) (wr : World) : Prop where
  len : there.length ≤ k
  good : ∀ l ∈ there, Lg.Good l
  free32 : ∀ s ∈ free, s.size = 32
  img : Lg.used there + free.length = n
  row : wr.ownsRow (b7 + 1) 70 6 av fl (Cl.evC there.flatten)
  fle : fl = there.flatten.length
  var : Lg.Vr b7 (.slice (some ⟨g, 0, none⟩) n c) (.slice none 0 0) wr
  res : Dk.D6 b4 wr
  rk : Dk.RK wr (some ⟨g, 0, none⟩) (Lg.img there free)
  cap : n ≤ c
  glt : b4 < g
  b4le : w.heap.size ≤ b4
  b7lt : b4 < b7
  blt : b7 < wr.heap.size
  bel : Below w.heap.size w wr
theorem Rs.Dd.lo {w : World} {n b4 b7 k fl : Nat} {there : List (List Ev)} {free : List ByteArray} {g c : Nat} {av : Value} {wr : World} (h : Rs.Dd w n b4 b7 k fl there free g c av wr) (hk : k ≤ 20) (h4 : 4 ≤ n) (h6 : n ≤ 600) : Rs.Lo n there free := ⟨h.good, by have := h.len; omega, h.free32, h.img, h4, h6⟩
theorem Rs.flat_len : ∀ (there : List (List Ev)), (∀ l ∈ there, Lg.Good l) → there.flatten.length ≤ 60 * there.length
  | [], _ => by simp
  | l :: r, h => by
    have h1 := (h l List.mem_cons_self).len
    have h2 := Rs.flat_len r (fun x hx => h x (List.mem_cons_of_mem _ hx))
    simp at h2 ⊢
    omega
theorem Rs.Dd.next {w : World} {n b4 b7 k fl : Nat} {there : List (List Ev)} {free : List ByteArray} {g c : Nat} {av : Value} {wr W : World} (h : Rs.Dd w n b4 b7 k fl there free g c av wr) (hb : Below wr.heap.size wr W) : Rs.Dd w n b4 b7 (k + 1) fl there free g c av W :=
  ⟨Nat.le_succ_of_le h.len, h.good, h.free32, h.img, Cl.ow_below h.row hb, h.fle, h.var.below hb, h.res.below hb, h.rk.later hb (Nat.le_refl _), h.cap, h.glt, h.b4le, h.b7lt, by have := hb.size; have := h.blt; omega, h.bel.trans (hb.mono h.bel.size)⟩

/-- The disk's variable, a batch's cell, and the world behind another. -/
abbrev Rs.S3 (b bb o : Nat) (A0 A1 B0 : Value) (w4 W : World) : Prop := W.cell? ⟨b, 0, none⟩ = some A0 ∧ W.cell? ⟨b, 1, none⟩ = some A1 ∧ W.cell? ⟨bb, o, none⟩ = some B0 ∧ Below w4.heap.size w4 W
theorem Rs.S3.below {b bb o : Nat} {A0 A1 B0 : Value} {w4 W W' : World} (h : Rs.S3 b bb o A0 A1 B0 w4 W) (hb : Below W.heap.size W W') : Rs.S3 b bb o A0 A1 B0 w4 W' := by
  obtain ⟨h1, h2, h2', h3⟩ := h
  refine ⟨?_, ?_, ?_, h3.trans (hb.mono h3.size)⟩
  · rw [hb.cell (World.block_lt_of_cell? W _ h1)]; exact h1
  · rw [hb.cell (World.block_lt_of_cell? W _ h2)]; exact h2
  · rw [hb.cell (World.block_lt_of_cell? W _ h2')]; exact h2'
theorem Rs.S3.drew {b bb o : Nat} {A0 A1 B0 : Value} {w4 W : World} (h : Rs.S3 b bb o A0 A1 B0 w4 W) : Rs.S3 b bb o A0 A1 B0 w4 W.drew := ⟨h.1, h.2.1, h.2.2.1, h.2.2.2.drew⟩
theorem Rs.S3.alloc {b bb o : Nat} {A0 A1 B0 : Value} {w4 W : World} (h : Rs.S3 b bb o A0 A1 B0 w4 W) (x : Obj) : Rs.S3 b bb o A0 A1 B0 w4 (W.alloc x) := h.below ((Below.refl _ _).alloc (Nat.le_refl _) x)
theorem Rs.S3.stored {b bb o b' : Nat} {A0 A1 B0 : Value} {w4 W : World} (h : Rs.S3 b bb o A0 A1 B0 w4 W) (h1 : b < w4.heap.size) (h2 : bb < w4.heap.size) (h3 : w4.heap.size ≤ b') (u v : Value) : Rs.S3 b bb o A0 A1 B0 w4 ((W.setCell ⟨b', 0, none⟩ u).setCell ⟨b', 1, none⟩ v) := by
  have n : ∀ (q i j : Nat), q < w4.heap.size → (⟨b', i, none⟩ : Addr) ≠ ⟨q, j, none⟩ := fun q i j hq hh => by have := congrArg Addr.block hh; simp at this; omega
  refine ⟨?_, ?_, ?_, (h.2.2.2.setCell (by exact h3) _).setCell (by exact h3) _⟩
  · rw [World.cell?_setCell_other _ _ _ _ (n _ _ _ h1), World.cell?_setCell_other _ _ _ _ (n _ _ _ h1)]; exact h.1
  · rw [World.cell?_setCell_other _ _ _ _ (n _ _ _ h1), World.cell?_setCell_other _ _ _ _ (n _ _ _ h1)]; exact h.2.1
  · rw [World.cell?_setCell_other _ _ _ _ (n _ _ _ h2), World.cell?_setCell_other _ _ _ _ (n _ _ _ h2)]; exact h.2.2.1
theorem Rs.S3.bel {b bb o : Nat} {A0 A1 B0 : Value} {w4 W : World} (h : Rs.S3 b bb o A0 A1 B0 w4 W) : Below w4.heap.size w4 W := h.2.2.2

/-- What Append leaves where it answers OK. -/
structure Rs.Okd (B : Nat) (W : World) (n : Nat) (there : List (List Ev)) (free : List ByteArray) (l : List Ev) (A0 A1 : Value) : Prop where
  good : Lg.Good l
  room : l.length + 1 ≤ free.length
  wr : A1 = .slice none 0 0
  kept : ∃ g0 c0, A0 = .slice (some ⟨g0, 0, none⟩) n c0 ∧ n ≤ c0 ∧ B ≤ g0 ∧ Dk.RK W (some ⟨g0, 0, none⟩) (Lg.img (there ++ [l]) (free.drop (Lg.laid l).length))
theorem Rs.Okd.of {B B' : Nat} {W W' : World} {n : Nat} {there : List (List Ev)} {free : List ByteArray} {l : List Ev} {A0 A1 : Value} {wa : Option Addr} {wn m : Nat} (h : Rs.Ap B W n there free l A0 A1 wa wn m) (hm : m = 0) (hB : B' ≤ B) (hb : Below W.heap.size W W') : Rs.Okd B' W' n there free l A0 A1 := by
  obtain ⟨h1, h2, h3, g0, c0, h4, h5, h6, h7⟩ := h.ok hm
  exact ⟨h1, h2, h3, g0, c0, h4, h5, by omega, h7.later hb (Nat.le_refl _)⟩
theorem Rs.Okd.set {B : Nat} {W : World} {n : Nat} {there : List (List Ev)} {free : List ByteArray} {l : List Ev} {A0 A1 : Value} (h : Rs.Okd (B + 1) W n there free l A0 A1) (u v : Value) : Rs.Okd B ((W.setCell ⟨B, 0, none⟩ u).setCell ⟨B, 1, none⟩ v) n there free l A0 A1 := by
  obtain ⟨h1, h2, h3, g0, c0, h4, h5, h6, h7⟩ := h
  exact ⟨h1, h2, h3, g0, c0, h4, h5, by omega, h7.set2 (fun q o e => by cases e; omega) _ _⟩
/-- The state behind Append. -/
structure Rs.Cut (wr W : World) (n : Nat) (there : List (List Ev)) (free : List ByteArray) (l : List Ev) (xv ev : Value) : Prop where
  lies : ∃ b11 a0 k0 c0 a1 k1 c1 m, xv = .pointer (some ⟨b11, 0, none⟩) ∧ ev = .int .i64 ((m : Nat) : Int) ∧ Dk.Bx b11 (.slice a0 k0 c0) (.slice a1 k1 c1) W ∧ (m = 0 → Rs.Okd wr.heap.size W n there free l (.slice a0 k0 c0) (.slice a1 k1 c1))
  bel : Below wr.heap.size wr W
theorem Rs.Dd.turn {w : World} {n b4 b7 k fl : Nat} {there : List (List Ev)} {free : List ByteArray} {g c : Nat} {av : Value} {wr W : World} (h : Rs.Dd w n b4 b7 k fl there free g c av wr) (hb : Below wr.heap.size wr W) {l : List Ev} {g0 c0 : Nat} (hg : Lg.Good l) (hroom : l.length + 1 ≤ free.length) (hc0 : n ≤ c0) (hgw : wr.heap.size ≤ g0) (hrk : Dk.RK W (some ⟨g0, 0, none⟩) (Lg.img (there ++ [l]) (free.drop (Lg.laid l).length))) {v' : Value} {W' : World}
    (hrow : W'.ownsRow (b7 + 1) 70 6 v' (fl + l.length) (Cl.evC (there.flatten ++ l))) (hgr : ((W.setCell ⟨b7, 0, none⟩ (.slice (some ⟨g0, 0, none⟩) n c0)).setCell ⟨b7, 1, none⟩ (.slice none 0 0)).grownBy W' av.ownBlock) :
    Rs.Dd w n b4 b7 (k + 1) (fl + l.length) (there ++ [l]) (free.drop (Lg.laid l).length) g0 c0 v' W' := by
  have hbw := h.bel.trans (hb.mono h.bel.size)
  have h4 := h.b4le
  have h7 := h.b7lt
  have hrow0 := h.row.lt
  have hn : ∀ q, av.ownBlock = some q → b7 + 1 ≤ q := fun q hq => (hrow0 q hq).1
  have hblt := h.blt
  have hz := hb.size
  have hg0 : b7 < g0 := by omega
  have v := ((h.var.below hb).stored (.slice (some ⟨g0, 0, none⟩) n c0) (.slice none 0 0))
  have d := (h.res.below hb)
  have hne : ∀ i j : Nat, (⟨b7, i, none⟩ : Addr) ≠ ⟨b4, j, none⟩ := fun i j hh => by have := congrArg Addr.block hh; simp at this; omega
  have hrk2 := hrk.set2 (b := b7) (fun q o e => by cases e; omega) (.slice (some ⟨g0, 0, none⟩) n c0) (.slice none 0 0)
  have hb2 : Below w.heap.size w ((W.setCell ⟨b7, 0, none⟩ (.slice (some ⟨g0, 0, none⟩) n c0)).setCell ⟨b7, 1, none⟩ (.slice none 0 0)) := (hbw.setCell (by show w.heap.size ≤ b7; omega) _).setCell (by show w.heap.size ≤ b7; omega) _
  have hsz : ((W.setCell ⟨b7, 0, none⟩ (.slice (some ⟨g0, 0, none⟩) n c0)).setCell ⟨b7, 1, none⟩ (.slice none 0 0)).heap.size = W.heap.size := by simp
  have cf : ∀ q, q ≤ b7 → some q ≠ av.ownBlock := fun q hq e => by have := hn q e.symm; omega
  have hgs := hgr.size
  have hl := hg.len
  refine ⟨by have := h.len; simp; omega, fun x hx => ?_, fun s hs => h.free32 s (List.mem_of_mem_drop hs), ?_, ?_, by rw [h.fle]; simp, ?_, ?_, ?_, hc0, by omega, h4, h7, by omega, hb2.grown hgr (by rw [hsz]; exact hbw.size) (fun q hq => by have := hn q hq; omega)⟩
  · rcases List.mem_append.1 hx with hx | hx
    · exact h.good x hx
    · simp at hx; subst hx; exact hg
  · rw [Lg.used_snoc, List.length_drop, Lg.laid_len]
    have := h.img
    omega
  · rw [List.flatten_append]
    simpa using hrow
  · exact ⟨(hgr.cell_far ⟨b7, 0, none⟩ (by rw [hsz]; show b7 < _; omega) (cf _ (Nat.le_refl _))).trans v.c0, (hgr.cell_far ⟨b7, 1, none⟩ (by rw [hsz]; show b7 < _; omega) (cf _ (Nat.le_refl _))).trans v.c1, (hgr.frozen_far ⟨b7, 0, none⟩ (by rw [hsz]; show b7 < _; omega) (cf _ (Nat.le_refl _))).trans v.f0, (hgr.frozen_far ⟨b7, 1, none⟩ (by rw [hsz]; show b7 < _; omega) (cf _ (Nat.le_refl _))).trans v.f1⟩
  · have e : ∀ i, W'.cell? ⟨b4, i, none⟩ = W.cell? ⟨b4, i, none⟩ := fun i => (hgr.cell_far ⟨b4, i, none⟩ (by rw [hsz]; show b4 < _; omega) (cf _ (by show b4 ≤ b7; omega))).trans (by rw [World.cell?_setCell_other _ _ _ _ (hne _ _), World.cell?_setCell_other _ _ _ _ (hne _ _)])
    have f : ∀ i, W'.frozen? ⟨b4, i, none⟩ = W.frozen? ⟨b4, i, none⟩ := fun i => (hgr.frozen_far ⟨b4, i, none⟩ (by rw [hsz]; show b4 < _; omega) (cf _ (by show b4 ≤ b7; omega))).trans (by rw [World.frozen?_setCell, World.frozen?_setCell])
    exact ⟨(e 0).trans d.c0, (e 1).trans d.c1, (f 0).trans d.f0, (f 1).trans d.f1⟩
  · refine ⟨fun i s hi => ?_⟩
    obtain ⟨b, o, k1, k2, k3, k4⟩ := hrk2.at_ i s hi
    cases k1
    refine ⟨g0, 0, rfl, by omega, ?_, k4⟩
    by_cases hq : some g0 = av.ownBlock
    · have := (hrow0 g0 hq.symm).2
      omega
    · exact (hgr.cell_far ⟨g0, 0 + i, none⟩ k2 hq).trans k3

theorem Rs.re_set {W : World} {la : Option Addr} {l : List Ev} (h : Cl.RE W la l) (b : Nat) (u v : Value) (hne : l ≠ [] → ∀ g o, la = some ⟨g, o, none⟩ → b ≠ g) : Cl.RE ((W.setCell ⟨b, 0, none⟩ u).setCell ⟨b, 1, none⟩ v) la l :=
  ⟨fun i x hi => by
    obtain ⟨g, o, h1, h2, h3⟩ := h.at_ i x hi
    have hb := hne (fun e => by subst e; simp at hi) g o h1
    have e : ∀ j, ((W.setCell ⟨b, 0, none⟩ u).setCell ⟨b, 1, none⟩ v).cell? ⟨g, j, none⟩ = W.cell? ⟨g, j, none⟩ := fun j => by
      have n : ∀ i : Nat, (⟨b, i, none⟩ : Addr) ≠ ⟨g, j, none⟩ := fun i hh => hb (congrArg Addr.block hh)
      rw [World.cell?_setCell_other _ _ _ _ (n _), World.cell?_setCell_other _ _ _ _ (n _)]
    refine ⟨g, o, h1, by simpa using h2, ?_⟩
    simp only [e]
    exact h3⟩
/-- What is there at the end. -/
structure Rs.Got (n : Nat) (there : List (List Ev)) (free : List ByteArray) (g c : Nat) (aa : Option Addr) (fl : Nat) (W : World) : Prop where
  lo : Rs.Lo n there free
  cap : n ≤ c
  fle : fl = there.flatten.length
  fl : fl ≤ 1200
  rk : Dk.RK W (some ⟨g, 0, none⟩) (Lg.img there free)
  re : Cl.RE W aa there.flatten
theorem Rs.Got.later {n : Nat} {there : List (List Ev)} {free : List ByteArray} {g c : Nat} {aa : Option Addr} {fl : Nat} {W W' : World} (h : Rs.Got n there free g c aa fl W) (hb : Below W.heap.size W W') : Rs.Got n there free g c aa fl W' :=
  ⟨h.lo, h.cap, h.fle, h.fl, h.rk.later hb (Nat.le_refl _), h.re.later hb (Nat.le_refl _)⟩
theorem Rs.Dd.done {w : World} {n b4 b7 k fl : Nat} {there : List (List Ev)} {free : List ByteArray} {g c ac : Nat} {aa : Option Addr} {wr : World} (h : Rs.Dd w n b4 b7 k fl there free g c (.slice aa fl ac) wr) (hk : k ≤ 20) (h4 : 4 ≤ n) (h6 : n ≤ 600) : Rs.Got n there free g c aa fl ((wr.setCell ⟨b4, 0, none⟩ (.slice (some ⟨g, 0, none⟩) n c)).setCell ⟨b4, 1, none⟩ (.slice none 0 0)) ∧ Below w.heap.size w ((wr.setCell ⟨b4, 0, none⟩ (.slice (some ⟨g, 0, none⟩) n c)).setCell ⟨b4, 1, none⟩ (.slice none 0 0)) := by
  have h1 := h.fle
  have h2 := Rs.flat_len there h.good
  have h3 := h.len
  have hb4 := h.b4le
  have hb7 := h.b7lt
  refine ⟨⟨h.lo hk h4 h6, h.cap, h1, by omega, ?_, Rs.re_set (Rs.re_own h.row h1) b4 _ _ (fun _ q o e => ?_)⟩, (h.bel.setCell (by exact hb4) _).setCell (by exact hb4) _⟩
  · refine ⟨fun i s hi => ?_⟩
    obtain ⟨b, o, k1, k2, k3, k4⟩ := h.rk.at_ i s hi
    cases k1
    have hg := h.glt
    have n : ∀ i j : Nat, (⟨b4, i, none⟩ : Addr) ≠ ⟨g, j, none⟩ := fun i j hh => by have := congrArg Addr.block hh; simp at this; omega
    exact ⟨g, 0, rfl, by simpa using k2, by rw [World.cell?_setCell_other _ _ _ _ (n _ _), World.cell?_setCell_other _ _ _ _ (n _ _)]; exact k3, k4⟩
  · have := (h.row.lt q (by cases e; rfl)).1
    omega

set_option maxRecDepth 100000 in
set_option maxHeartbeats 1600000 in
theorem disked_ok (n : Nat) (bs : List (List Ev)) (ba : Option Addr) (bc : Nat) (w : World) (h4 : 4 ≤ n) (h6 : n ≤ 600) (hb : Lg.RL w ba bs) (hbl : bs.length ≤ 35184372088832) :
    Calls Try.prog 25 #[.int .i64 n, .slice ba bs.length bc] w fun e w' => ∃ (there : List (List Ev)) (free : List ByteArray) (g c : Nat) (a : Option Addr) (k m : Nat), e = .returned (.tuple #[.agg #[.slice (some ⟨g, 0, none⟩) n c, .slice none 0 0], .slice a m k, .bool true]) ∧ Rs.Got n there free g c a m w' ∧ Below w.heap.size w w' := by
  have HB := hide hb
  clear hb
  go_enter Try.func25, Try.ntmps25
  go_wp2_with fail
  have hd := Dk.D6.made w 29
  refine (Format_ok n _ h4 h6).mono ?_
  rintro e w1 ⟨g, c, rfl, hr1, hb1, hg1, hc1⟩
  have hz := hb1.size
  simp at hz
  have hB1 := below_two hb1
  have HDD := hide (show Rs.Dd w n w.heap.size w1.heap.size 0 0 [] (List.replicate (n - 1) (Dk.zeros 32)) g c (.slice none 0 0) (w1.alloc (Obj.cells #[.slice (some ⟨g, 0, none⟩) n c, .slice none 0 0] 29)) from
    ⟨Nat.le_refl _, by simp, fun s hs => by rw [List.eq_of_mem_replicate hs]; exact Dk.zeros_size 32, by unfold Lg.used; simp; omega, World.ownsRow_nil _ _ _ _, rfl, Lg.Vr.made _ _ _ _, (hd.below hb1).alloc _, by rw [← Lg.fmt_img]; exact hr1.alloc _, hc1, by simp at hg1; omega, Nat.le_refl _, by omega, by simp, hB1.alloc (by omega) _⟩)
  clear hd hr1 hb1 hB1
  go_wp2_with fail
  generalize hgb : w1.heap.size = b7 at *
  generalize w1.alloc (Obj.cells #[.slice (some ⟨g, 0, none⟩) n c, .slice none 0 0] 29) = W0 at *
  go_loopw [9, 10] (fun av v wr => ∃ (k fl : Nat) (there : List (List Ev)) (free : List ByteArray) (g c : Nat), k ≤ bs.length ∧ k ≤ 20 ∧ v = .int .i64 k ∧ Rs.Dd w n w.heap.size b7 k fl there free g c av wr) (fun _ v _ => bs.length - (intOf v).toNat)
  case atStart => exact ⟨0, 0, [], _, g, c, Nat.zero_le _, by omega, rfl, unhide HDD⟩
  case round =>
    clear HDD hgb
    obtain ⟨k, fl, there, free, g', c', hk, hk2, rfl, hdd⟩ := hrel
    have HDR := hide hdd
    obtain ⟨aa, ac, rfl⟩ := Rs.form hdd.row
    have hbl7 := hdd.blt
    have hb47 := hdd.b7lt
    clear hdd
    by_cases hlt : k < bs.length
    · by_cases hlt2 : k < 20
      · obtain ⟨l, hl⟩ : ∃ t, bs[k]? = some t := ⟨bs[k], List.getElem?_eq_getElem hlt⟩
        obtain ⟨bb, bo, la, lc, rfl, hbb, c0, hre⟩ := (unhide HB).at_ k l hl
        have hbw := (unhide HDR).bel.size
        have d0 := ((unhide HDR).bel.cell (p := ⟨bb, bo + k, none⟩) hbb).trans c0
        have HRE := hide (hre.later (unhide HDR).bel (Nat.le_refl _))
        have HLA := hide (show l ≠ [] → ∀ g o, la = some ⟨g, o, none⟩ → b7 ≠ g from fun hl0 g o e => by
          cases l with
          | nil => exact absurd rfl hl0
          | cons x t =>
            obtain ⟨_, _, he, hlt3, _⟩ := hre.at_ 0 x rfl
            rw [e] at he
            cases he
            omega)
        have v0 := (unhide HDR).var.c0
        have v1 := (unhide HDR).var.c1
        have HS := hide (show Rs.S3 b7 bb (bo + k) (.slice (some ⟨g', 0, none⟩) n c') (.slice none 0 0) (.slice la l.length lc) wr wr from ⟨v0, v1, d0, Below.refl _ _⟩)
        have HAP := hide (fun (W : World) (hW : Below wr.heap.size wr W) => Rs.append_any ((unhide HDR).lo hk2 h4 h6) l la lc g' c' (unhide HDR).cap none 0 W ((unhide HDR).rk.later hW (Nat.le_refl _)) ((unhide HRE).later hW (Nat.le_refl _)))
        clear hl c0 hre
        have hk1 : (0 : Int) ≤ (k : Int) := by omega
        have hk3 : (k : Int) < (bs.length : Int) := by omega
        have hk4 : (k : Int) < 20 := by omega
        go_wp2_with fail
        clear v0 v1 d0
        go_cut [11, 13] (fun xv ev W => Rs.Cut wr W n there free l xv ev)
        case first =>
          go_region_held3 (fun W => W.cell? ⟨b7, 0, none⟩ = some (.slice (some ⟨g', 0, none⟩) n c') ∧ W.cell? ⟨b7, 1, none⟩ = some (.slice none 0 0) ∧ W.cell? ⟨bb, bo + k, none⟩ = some (.slice la l.length lc) ∧ Below wr.heap.size wr W)
            (first
              | assumption
              | exact Rs.S3.below (by assumption) (unhide HB5)
              | exact Rs.S3.alloc (unhide HS5) _
              | exact Rs.S3.stored (unhide HS5) hbl7 (by omega) (Nat.le_refl _) _ _
              | exact Rs.S3.alloc (by assumption) _
              | exact Rs.S3.drew (unhide HS))
            (first
              | (go_at_call 13; refine ((unhide HAP) _ ?_).mono ?_; exact Rs.S3.bel (by assumption); rintro e w5 ⟨A0, A1, wa, wn, wc', m, rfl, hap, hb5⟩; obtain ⟨⟨a0, k0, c0, rfl⟩, a1, k1, c1, rfl⟩ := hap.sl; have HB5 := hide hb5; have HA5 := hide hap; have HS5 := hide (Rs.S3.below (b := b7) (bb := bb) (o := bo + k) (w4 := wr) (by assumption) hb5); (first | (have hd5 : Dk.D6 wr.heap.size w5 := (Dk.D6.made wr.drew 29).below hb5; have x0 := hd5.c0; have x1 := hd5.c1; have x2 := hd5.f0; have x3 := hd5.f1; have HD5 := hide hd5; clear hd5) | skip); clear hb5 hap))
          all_goals
            go_wp2_with fail
            go_meet
            case rel =>
              first
                | exact ⟨⟨_, a0, k0, c0, a1, k1, c1, m, rfl, rfl, Dk.Bx.made _ _ _ _, fun hm => Rs.Okd.of (unhide HA5) hm (by simp) ((Below.refl _ _).alloc (Nat.le_refl _) _)⟩, (unhide HS5).bel.alloc (unhide HS5).bel.size _⟩
                | exact ⟨⟨_, a0, k0, c0, a1, k1, c1, m, rfl, rfl, Dk.Bx.stored (unhide HD5) _ _, fun hm => Rs.Okd.set (Rs.Okd.of (unhide HA5) hm (by simp) (Below.refl _ _)) _ _⟩, ((unhide HS5).bel.setCell (Nat.le_refl _) _).setCell (Nat.le_refl _) _⟩
        case rest =>
          rename World => wc
          obtain ⟨⟨b11, a0, k0, c0, a1, k1, c1, m, rfl, rfl, hbx, hok⟩, hbc⟩ := hcut
          have hzc := hbc.size
          have HBC := hide hbc
          have HVC := hide ((unhide HDR).var.below hbc)
          have d0 := (hbc.cell (p := ⟨bb, bo + k, none⟩) (by show bb < _; omega)).trans (unhide HS).2.2.1
          have x0 := hbx.c0
          have x1 := hbx.c1
          have v0 := (unhide HVC).c0
          have v1 := (unhide HVC).c1
          have v2 := (unhide HVC).f0
          have v3 := (unhide HVC).f1
          have hne : b7 ≠ bb := by omega
          have hne2 : bb ≠ b7 := by omega
          by_cases hm : m = 0
          · obtain ⟨hgood, hroom, hwr, g0, cc0, ha0, hcc, hgg, hrk⟩ := hok hm
            cases hwr
            injection ha0 with e1 e2 e3
            obtain rfl := e1
            obtain rfl := e2.symm
            obtain rfl := e3.symm
            subst hm
            have hl6 := hgood.len
            have HGD := hide hgood
            have HRK := hide hrk
            have hfl : fl ≤ 1200 := by
              have h1 := (unhide HDR).fle
              have h2 := Rs.flat_len there (unhide HDR).good
              have h3 := (unhide HDR).len
              omega
            have HRS := hide (Cl.ow_below (unhide HDR).row hbc)
            obtain ⟨v', W', hrun, hrow, hgr⟩ := Rs.run_evs 34 ((wc.setCell ⟨b7, 0, none⟩ (.slice (some ⟨g0, 0, none⟩) n cc0)).setCell ⟨b7, 1, none⟩ (.slice none 0 0)) (b7 + 1) (.slice aa fl ac) there.flatten (by
              rw [← (unhide HDR).fle]
              exact ownsRow_setCell_below (ownsRow_setCell_below (unhide HRS) (by show b7 < _; omega) _) (by show b7 < _; omega) _) la lc l (Rs.re_set ((unhide HRE).later hbc (Nat.le_refl _)) b7 _ _ (unhide HLA)) (by rw [← (unhide HDR).fle]; omega) (by simp; omega)
            rw [← (unhide HDR).fle] at hrow
            obtain ⟨av', ac', rfl⟩ := Rs.form hrow
            have HRUN := hide hrun
            have HROW := hide hrow
            have HGR := hide hgr
            clear hrun hrow hgr hbx hok hbc hgood hrk
            go_wp2_with (at_builtin; refine Lg.wp_append_run rfl _ _ 34 rfl _ _ _ rfl rfl (unhide HRUN) ?_)
            exact ⟨⟨k + 1, fl + l.length, there ++ [l], _, g0, cc0, by omega, by omega, by go_num, (unhide HDR).turn (unhide HBC) (unhide HGD) hroom hcc hgg (unhide HRK) (unhide HROW) (unhide HGR)⟩, by simp [intOf]; omega⟩
          · have g0 : ((m : Int) == 0) = false := by simpa using hm
            clear hbx hok hbc
            go_wp2_with fail
            exact ⟨⟨k + 1, fl, there, free, g', c', by omega, by omega, by go_num, (unhide HDR).next (unhide HBC)⟩, by simp [intOf]; omega⟩
      · have hk3 : ¬ (k : Int) < 20 := by omega
        have hk2' : (k : Int) < (bs.length : Int) := by omega
        have x0 := (unhide HDR).var.c0
        have x1 := (unhide HDR).var.c1
        have y0 := (unhide HDR).res.c0
        have y1 := (unhide HDR).res.c1
        have y2 := (unhide HDR).res.f0
        have y3 := (unhide HDR).res.f1
        have hfin := Rs.Dd.done (unhide HDR) hk2 h4 h6
        have HFI := hide hfin
        clear hfin
        go_wp2_with fail
        exact bodyPost_ret (v := .tuple #[.agg #[.slice (some ⟨g', 0, none⟩) n c', .slice none 0 0], .slice aa fl ac, .bool true]) (by simp [results, Try.results25, go_sem, y0, y1]) rfl ⟨there, free, g', c', aa, ac, fl, rfl, (unhide HFI).1, (unhide HFI).2⟩
    · have hk2' : ¬ (k : Int) < (bs.length : Int) := by omega
      have x0 := (unhide HDR).var.c0
      have x1 := (unhide HDR).var.c1
      have y0 := (unhide HDR).res.c0
      have y1 := (unhide HDR).res.c1
      have y2 := (unhide HDR).res.f0
      have y3 := (unhide HDR).res.f1
      have hfin := Rs.Dd.done (unhide HDR) hk2 h4 h6
      have HFI := hide hfin
      clear hfin
      go_wp2_with fail
      exact bodyPost_ret (v := .tuple #[.agg #[.slice (some ⟨g', 0, none⟩) n c', .slice none 0 0], .slice aa fl ac, .bool true]) (by simp [results, Try.results25, go_sem, y0, y1]) rfl ⟨there, free, g', c', aa, ac, fl, rfl, (unhide HFI).1, (unhide HFI).2⟩
end Go.Proofs.Ytpabpcojiaklfaa
