/-
  The iterator over spans of package when. By the verifier.
-/
import Derived.RangeFuncNested
import Derived.RangeFuncBound
import Derived.RangeFuncCalls
import Derived.RangeFuncLeaves
import Derived.Shelf.Abstract
import Derived.Shelf.RegionOpen
import Derived.OwnWalkIn
import Derived.TacticsInMore
import Derived.LoopNIn
import Derived.LoopIn
import Derived.Maps.AppendAt
import Derived.Test.YtkonaaldbeecoaaWBase
namespace Go.Proofs.Ytkonaaldbeecoaa
open Go.RowKit Go.Shelf
attribute [local go_sem] Oper.semAt_some
set_option linter.unusedVariables false

theorem Qk.But1.trans {bx hi : Nat} {W W1 W2 : World} (h : Qk.But1 bx hi W W1) (k : Qk.But1 bx hi W1 W2) : Qk.But1 bx hi W W2 :=
  ⟨k.os.trans h.os, k.tape.trans h.tape, k.output.trans h.output, Nat.le_trans h.size k.size, fun q h1 h2 => (k.block q h1 h2).trans (h.block q h1 h2)⟩

/-- A span: it has a time, and ends within bounds. -/
abbrev Wn.P := { p : Nat × Nat // p.1 < p.2 ∧ p.2 ≤ 4000 }
def Wn.enc (x : Wn.P) : Array Value := #[.int .i64 (x.1.1 : Nat), .int .i64 (x.1.2 : Nat)]

/-- Spans that have ended stay. -/
theorem Wn.R_stays {b : List Bool} {t : Nat} (h0 : t = 0 ∨ Qk.at_ b (t - 1) = false) : ∀ (d : Nat), ∃ rest, Wn.R b (t + d) = Wn.R b t ++ rest ∧ (0 < d → Qk.at_ b (t + d - 1) = true → rest ≠ [])
  | 0 => ⟨[], by simp, fun h => by omega⟩
  | d + 1 => by
    obtain ⟨rest, h1, h2⟩ := Wn.R_stays h0 d
    cases h : Qk.at_ b (t + d)
    · refine ⟨rest, ?_, fun _ h3 => ?_⟩
      · rw [← Nat.add_assoc, Wn.R_no h]; exact h1
      · rw [show t + (d + 1) - 1 = t + d by omega, h] at h3
        cases h3
    · by_cases hc : t + d = 0 ∨ Qk.at_ b (t + d - 1) = false
      · exact ⟨rest ++ [(t + d, t + d + 1)], by rw [← Nat.add_assoc, Wn.R_begin h hc, h1, List.append_assoc], fun _ _ => by simp⟩
      · have h3 : 0 < t + d := by omega
        have h4 : Qk.at_ b (t + d - 1) = true := by
          cases h5 : Qk.at_ b (t + d - 1)
          · exact absurd (Or.inr h5) hc
          · rfl
        have hd : 0 < d := by
          rcases Nat.eq_zero_or_pos d with hd | hd
          · subst hd
            rcases h0 with h0 | h0
            · omega
            · rw [Nat.add_zero, h0] at h4; cases h4
          · exact hd
        have hne := h2 hd h4
        obtain ⟨r, p, hr⟩ : ∃ r p, rest = r ++ [p] := ⟨rest.dropLast, rest.getLast hne, (List.dropLast_concat_getLast hne).symm⟩
        refine ⟨r ++ [(p.1, t + d + 1)], ?_, fun _ _ => by simp⟩
        rw [← Nat.add_assoc, Wn.R_on h h3 h4, h1, hr, ← List.append_assoc, Wn.setLast_snoc, List.append_assoc]

set_option maxRecDepth 100000 in
set_option maxHeartbeats 2000000 in
theorem spans1_in (n : Nat) (hn : 1 ≤ n) (l Bs n₀ p g cap : Nat) (b : List Bool) (J Jx : List Wn.P → World → Prop)
    (hY : ∀ pre x W, J pre W → pre.length < 4001 → YieldAt Fence.wide (n - 1) Try.prog l (Wn.enc x) W fun e W' =>
      (e = .returned (.bool true) ∧ J (pre ++ [x]) W' ∧ Qk.But1 p n₀ W W') ∨ (e = .returned (.bool false) ∧ Jx (pre ++ [x]) W'))
    (W : World) (hBs : W.cell? ⟨Bs, 0, none⟩ = some (.slice (some ⟨g, 0, none⟩) b.length cap)) (hrow : Qk.Row W g b) (hb : b.length ≤ 4000) (b1 : Bs < n₀) (b2 : Bs ≠ p) (b3 : g < n₀) (b4 : g ≠ p) (h0 : J [] W) :
    CallsIn Fence.wide n Try.prog 22 #[.func (.yield l) #[] #[], .pointer (some ⟨Bs, 0, none⟩)] W fun e W' => (∃ v, e = .returned v) ∧
      ((∃ ys : List Wn.P, ys.map Subtype.val = Wn.R b b.length ∧ J ys W') ∨ (∃ pre : List Wn.P, (∃ rest, Wn.R b b.length = pre.map Subtype.val ++ rest) ∧ Jx pre W')) := by
  refine callsIn_of_wp Try.func22 rfl trivial ?_ rfl
  simp only [Try.ntmps22, List.size_toArray, List.length_cons, List.length_nil, Nat.reduceAdd, Nat.reduceSub, Array.replicate_succ, Array.replicate_zero, List.push_toArray, List.append_toArray, List.nil_append, List.cons_append]
  gi_wp2
  gi_loopw [3] (fun tv wr => ∃ (t : Nat) (pre : List Wn.P), t ≤ b.length + 1 ∧ tv = .int .i64 t ∧ (t ≤ b.length → t = 0 ∨ Qk.at_ b (t - 1) = false) ∧ pre.map Subtype.val = Wn.R b (min t b.length) ∧ J pre wr ∧ Qk.But1 p n₀ W wr)
    (fun tv _ => b.length + 1 - (intOf tv).toNat)
  case atStart => exact ⟨0, [], by omega, rfl, fun _ => Or.inl rfl, by simp [Wn.R], h0, Qk.But1.refl _ _ _⟩
  case round =>
    obtain ⟨t, pre, ht, rfl, hcl, hpre, hJ, hbut⟩ := hrel
    have c1 := (hbut.cell (o := 0) b1 b2).trans hBs
    by_cases hlt : t < b.length
    · have hmin : min t b.length = t := by omega
      rw [hmin] at hpre
      have hcl2 := hcl (by omega)
      have hplen : pre.length < 4001 := by
        have e1 : pre.length = (Wn.R b t).length := by rw [← hpre, List.length_map]
        have e2 := Wn.R_length b t
        omega
      have HP := hide hpre
      have HCL := hide hcl2
      have HBUT := hide hbut
      have HY := hide hY
      have HJ := hide hJ
      have HROW := hide hrow
      have hk0 : (0 : Int) ≤ (t : Int) := by omega
      have hk1 : (t : Int) < (b.length : Int) := by omega
      clear hpre hcl hcl2 hmin hbut hBs hY hJ hrow h0
      gi_wp2
      obtain ⟨wo, hwo⟩ : ∃ wo, wo = wr := ⟨wr, rfl⟩
      subst hwo
      gi_loopw [3] (fun uv wq => ∃ u : Nat, t ≤ u ∧ u ≤ b.length ∧ uv = .int .i64 u ∧ (∀ v, t ≤ v → v < u → Qk.at_ b v = true) ∧ wq = wo) (fun uv _ => b.length - (intOf uv).toNat)
      case atStart => exact ⟨t, Nat.le_refl _, by omega, rfl, fun v h1 h2 => by omega, rfl⟩
      case round =>
        obtain ⟨u, hu1, hu2, rfl, hall, hwq⟩ := hrel
        subst hwq
        have HALL := hide hall
        clear hall
        have hu0 : (0 : Int) ≤ (u : Int) := by omega
        by_cases hul : u < b.length
        · have hk2 : (u : Int) < (b.length : Int) := by omega
          have c2 := ((unhide HROW).kept ((unhide HBUT).block g b3 b4)).cell (Qk.at_get (b := b) (i := u) hul)
          cases hx : Qk.at_ b u
          · rw [hx] at c2
            have HX := hide hx
            clear hx
            by_cases hut : u = t
            · subst hut
              have hk3 : ¬ (u : Int) > (u : Int) := by omega
              gi_wp2
              refine ⟨fun _ h => (by cases h), ?_⟩
              gi_wp2
              go_roundw
              case rel => exact ⟨u + 1, pre, by omega, by go_num, fun _ => Or.inr (by rw [Nat.add_sub_cancel]; exact unhide HX), by rw [show min (u + 1) b.length = u + 1 by omega, Wn.R_no (unhide HX)]; exact unhide HP, unhide HJ, unhide HBUT⟩
              case measure => simp [intOf]; omega
            · have hk3 : (u : Int) > (t : Int) := by omega
              obtain ⟨d, hd⟩ : ∃ d, u = t + d + 1 := ⟨u - t - 1, by omega⟩
              obtain ⟨x, hxe⟩ : ∃ x : Wn.P, x.1 = (t, u) := ⟨⟨(t, u), by simp; omega, by simp; omega⟩, rfl⟩
              have HRU := hide (show Wn.R b u = Wn.R b t ++ [(t, u)] by
                have := Wn.R_run (unhide HCL) d (fun v h1 h2 => (unhide HALL) v h1 (by omega))
                rw [← hd] at this
                exact this)
              have HPX := hide (show (pre ++ [x]).map Subtype.val = Wn.R b (u + 1) by rw [Wn.R_no (unhide HX), unhide HRU, List.map_append, unhide HP]; simp [hxe])
              have HPRE := hide (show ∃ rest, Wn.R b b.length = (pre ++ [x]).map Subtype.val ++ rest by
                obtain ⟨rest, h1, _⟩ := Wn.R_stays (b := b) (t := u + 1) (Or.inr (by rw [Nat.add_sub_cancel]; exact unhide HX)) (b.length - (u + 1))
                refine ⟨rest, ?_⟩
                rw [unhide HPX, ← h1, show u + 1 + (b.length - (u + 1)) = b.length by omega])
              obtain ⟨fn, tmps, assign, body, hy, hR⟩ := (unhide HY) pre x wr (unhide HJ) hplen
              simp only [Wn.enc, hxe] at hy
              clear hd hxe
              gi_wp2
              refine hR.mono ?_
              rintro e W3 (⟨rfl, hJ3, hb3⟩ | ⟨rfl, hJx3⟩)
              · have HJ3 := hide hJ3
                have HB3 := hide (show Qk.But1 p n₀ W W3 from (unhide HBUT).trans hb3)
                clear hJ3 hb3
                gi_wp2
                go_roundw
                case rel => exact ⟨u + 1, pre ++ [x], by omega, by go_num, fun _ => Or.inr (by rw [Nat.add_sub_cancel]; exact unhide HX), by rw [show min (u + 1) b.length = u + 1 by omega]; exact unhide HPX, unhide HJ3, unhide HB3⟩
                case measure => simp [intOf]; omega
              · have HJ3 := hide hJx3
                clear hJx3
                gi_wp2
                refine bodyPost_ret (results_none rfl _ _ _) rfl ?_
                exact ⟨⟨_, rfl⟩, .inr ⟨pre ++ [x], unhide HPRE, unhide HJ3⟩⟩
          · rw [hx] at c2
            have HALL2 := hide (show ∀ v, t ≤ v → v < u + 1 → Qk.at_ b v = true from fun v h1 h2 => by
              rcases Nat.lt_or_ge v u with h | h
              · exact (unhide HALL) v h1 h
              · rw [show v = u by omega]; exact hx)
            clear hx
            gi_wp2
            go_roundw
            case rel => exact ⟨u + 1, by omega, by omega, by go_num, unhide HALL2, by first | trivial | rfl⟩
            case measure => simp [intOf]; omega
        · have hue : u = b.length := by omega
          have hk2 : ¬ (u : Int) < (b.length : Int) := by omega
          have hk3 : (u : Int) > (t : Int) := by omega
          obtain ⟨d, hd⟩ : ∃ d, u = t + d + 1 := ⟨u - t - 1, by omega⟩
          obtain ⟨x, hxe⟩ : ∃ x : Wn.P, x.1 = (t, u) := ⟨⟨(t, u), by simp; omega, by simp; omega⟩, rfl⟩
          have HPX := hide (show (pre ++ [x]).map Subtype.val = Wn.R b b.length by
            have := Wn.R_run (unhide HCL) d (fun v h1 h2 => (unhide HALL) v h1 (by omega))
            rw [← hd] at this
            rw [← hue, this, List.map_append, unhide HP]
            simp [hxe])
          obtain ⟨fn, tmps, assign, body, hy, hR⟩ := (unhide HY) pre x wr (unhide HJ) hplen
          simp only [Wn.enc, hxe] at hy
          have HUE := hide hue
          clear hd hxe hue
          gi_wp2
          refine hR.mono ?_
          rintro e W3 (⟨rfl, hJ3, hb3⟩ | ⟨rfl, hJx3⟩)
          · have HJ3 := hide hJ3
            have HB3 := hide (show Qk.But1 p n₀ W W3 from (unhide HBUT).trans hb3)
            clear hJ3 hb3
            gi_wp2
            go_roundw
            case rel => exact ⟨u + 1, pre ++ [x], by omega, by go_num, fun h => by have := unhide HUE; omega, by rw [show min (u + 1) b.length = b.length by have := unhide HUE; omega]; exact unhide HPX, unhide HJ3, unhide HB3⟩
            case measure => simp [intOf]; have := unhide HUE; omega
          · have HJ3 := hide hJx3
            clear hJx3
            gi_wp2
            refine bodyPost_ret (results_none rfl _ _ _) rfl ?_
            exact ⟨⟨_, rfl⟩, .inr ⟨pre ++ [x], ⟨[], by rw [unhide HPX, List.append_nil]⟩, unhide HJ3⟩⟩
    · have htl : min t b.length = b.length := by omega
      rw [htl] at hpre
      have HP := hide hpre
      clear hpre htl
      gi_wp2
      go_end0
      exact ⟨⟨_, rfl⟩, .inl ⟨pre, unhide HP, hJ⟩⟩

set_option maxHeartbeats 400000 in
theorem spansOf_any (a : Option Addr) (len cap : Nat) (w : World) :
    Calls Try.prog 14 #[.slice a len cap] w fun e w' => e = .returned (.func (.func 22) #[] #[.pointer (some ⟨w.heap.size, 0, none⟩)]) ∧ w' = w.alloc (.cells #[.slice a len cap] 36) := by
  go_enter Try.func14, Try.ntmps14
  go_wp2_with fail
  go_ret
  exact ⟨rfl, rfl⟩

theorem spans_stops (n : Nat) (hn : 1 ≤ n) (Bs n₀ p g cap : Nat) (b : List Bool) (w : World) (hn₀ : n₀ ≤ w.heap.size) (hBs : w.cell? ⟨Bs, 0, none⟩ = some (.slice (some ⟨g, 0, none⟩) b.length cap)) (hrow : Qk.Row w g b) (hb : b.length ≤ 4000) (b1 : Bs < n₀) (b2 : Bs ≠ p) (b3 : g < n₀) (b4 : g ≠ p) :
    SeqStopsK Fence.wide n Try.prog 22 #[.pointer (some ⟨Bs, 0, none⟩)] Wn.enc (Qk.But1 p n₀) (fun ys => ys.map Subtype.val = Wn.R b b.length) (fun pre => ∃ rest, Wn.R b b.length = pre.map Subtype.val ++ rest) 4001 w := fun l J Jx W hW _ _ hY h0 =>
  spans1_in n hn l Bs n₀ p g cap b J Jx hY W ((hW.cell (p := ⟨Bs, 0, none⟩) (by show Bs < _; omega)).trans hBs) (hrow.kept (hW.block g hrow.lt)) hb b1 b2 b3 b4 h0
theorem Wn.but_t {p n₀ : Nat} {A B C : World} (h : Qk.But1 p n₀ A B) (k : Qk.But1 p n₀ B C) : Qk.But1 p n₀ A C := h.trans k
theorem Wn.but_b {p n₀ : Nat} {w : World} (hn : n₀ ≤ w.heap.size) (W : World) (l : Nat) (o o' : Obj) (hl : w.heap.size ≤ l) (h : W.heap[l]? = some o) (h1 : o.isCells = false) (h2 : o.isWalk = false) : Qk.But1 p n₀ W (W.putObj l o') := by
  have := belowK_b hn W l o o' hl h h1 h2
  exact ⟨this.os, this.tape, this.output, this.size, fun q h1 _ => this.block q h1⟩
end Go.Proofs.Ytkonaaldbeecoaa
