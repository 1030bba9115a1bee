/-
  The contract of marksOf of package query. By the verifier.
-/
import Derived.Test.YtfhlnelgnnkeoaaGreatDoorQTellerOf
import Derived.Test.YtfhlnelgnnkeoaaGreatDoorQCheck
namespace Go.Proofs.YtfhlnelgnnkeoaaGreatDoor
open Go.RowKit
set_option linter.unusedVariables false

theorem Tryz.infoBs : (Tryz.prog.info? 38).map (fun i => (i.zero, i.size, i.bytes)) = some (some (.slice none 0 0), 1, 24) := by kernel_rfl
theorem Tryz.infoB : (Tryz.prog.info? 4).map (fun i => (i.zero, i.size, i.bytes)) = some (some (.bool false), 1, 1) := by kernel_rfl

/-- A row that is being written: the first k are told. -/
structure Qk.Mk (W : World) (g len : Nat) (M : Nat → Bool) (k : Nat) : Prop where
  blk : ∃ cs : Array Value, W.heap[g]? = some (.cells cs 4 (0, 0)) ∧ ∀ i, i < len → cs[i]? = some (Value.bool (if i < k then M i else false))
theorem Qk.Mk.kept {W W' : World} {g len k : Nat} {M : Nat → Bool} (h : Qk.Mk W g len M k) (hb : W'.heap[g]? = W.heap[g]?) : Qk.Mk W' g len M k := by
  obtain ⟨cs, h1, h2⟩ := h.blk
  exact ⟨cs, hb.trans h1, h2⟩
theorem Qk.Mk.lt {W : World} {g len k : Nat} {M : Nat → Bool} (h : Qk.Mk W g len M k) : g < W.heap.size := by
  obtain ⟨cs, h1, h2⟩ := h.blk
  exact (Array.getElem?_eq_some_iff.1 h1).1
theorem Qk.Mk.cell {W : World} {g len k : Nat} {M : Nat → Bool} (h : Qk.Mk W g len M k) {i : Nat} (hi : i < len) : W.cell? ⟨g, i, none⟩ = some (.bool (if i < k then M i else false)) := by
  obtain ⟨cs, h1, h2⟩ := h.blk
  simp [World.cell?, h1, h2 i hi]
theorem Qk.Mk.frozen {W : World} {g len k : Nat} {M : Nat → Bool} (h : Qk.Mk W g len M k) (i : Nat) : W.frozen? ⟨g, i, none⟩ = false := by
  obtain ⟨cs, h1, h2⟩ := h.blk
  simp [World.frozen?, h1]
theorem Qk.Mk.step {W : World} {g len k : Nat} {M : Nat → Bool} (h : Qk.Mk W g len M k) : Qk.Mk (W.setCell ⟨g, k, none⟩ (.bool (M k))) g len M (k + 1) := by
  obtain ⟨cs, h1, h2⟩ := h.blk
  have hlt := h.lt
  refine ⟨cs.setIfInBounds k (.bool (M k)), ?_, fun i hi => ?_⟩
  · simp only [World.setCell, Array.getElem?_modify, if_true, h1]
    rfl
  · have hi2 := h2 i hi
    obtain ⟨hi3, hi4⟩ := Array.getElem?_eq_some_iff.1 hi2
    by_cases hik : i = k
    · subst hik
      simp [hi3]
    · rw [Array.getElem?_setIfInBounds_ne (by omega), hi2]
      by_cases h3 : i < k
      · rw [if_pos h3, if_pos (by omega)]
      · rw [if_neg h3, if_neg (by omega)]
theorem Qk.Mk.done {W : World} {g len : Nat} {M : Nat → Bool} (h : Qk.Mk W g len M len) : Qk.Row W g ((List.range len).map M) := by
  obtain ⟨cs, h1, h2⟩ := h.blk
  refine ⟨cs, h1, fun i b hi => ?_⟩
  have hlt : i < len := by have := (List.getElem?_eq_some_iff.1 hi).1; simpa using this
  rw [List.getElem?_map, List.getElem?_range hlt] at hi
  cases hi
  rw [h2 i hlt, if_pos hlt]
theorem Qk.made (n : Nat) (M : Nat → Bool) (w : World) (hn : n ≤ 4000) :
    ∃ W, (Instr.makeSlice 38 (.int .i64 (n : Nat)) (.int .i64 (n : Nat))).run Tryz.prog w = .ok (.slice (some ⟨w.heap.size, 0, none⟩) n n) W ∧ Qk.Mk W w.heap.size n M 0 ∧ Below w.heap.size w W := by
  obtain ⟨i0, hi, hz0, hz1, hz2⟩ := info_parts Tryz.infoB
  have hr := run_make (P := Tryz.prog) w 38 4 i0 _ Tryz.underlying38 hi hz0 .i64 .i64 (n : Int) (n : Int) (by omega) (Int.le_refl _) (by rw [hz2]; omega) (by omega)
  simp only [Int.toNat_natCast] at hr
  refine ⟨_, hr, ⟨_, heap_alloc_new w _, fun i hi => ?_⟩, (Below.refl _ _).alloc (Nat.le_refl _) _⟩
  rw [hz1]
  simp [madeCells, Value.cells, hi, Nat.mod_one]

/-- A row of slices is no row of yes and no. -/
theorem Qk.row_ne {w : World} {base : Nat} {v : Value} {n : Nat} {xs : List Value} (h : w.ownsRow base 38 1 v n xs) {g : Nat} {s : List Bool} (hg : Qk.Row w g s) : some g ≠ v.ownBlock := by
  obtain ⟨cs, h1, _⟩ := hg
  intro hv
  rcases h.2 with ⟨rfl, _⟩ | ⟨g', cap, cur, rfl, _, hg', _⟩
  · simp [Value.ownBlock] at hv
  · simp [Value.ownBlock] at hv
    subst hv
    rw [h1] at hg'
    cases hg'

/-- The first slices of a row are rows of what is told. -/
def Qk.Subs (W : World) (cs : List Value) (s : List (List Bool)) (len : Nat) : Prop := cs.length = s.length ∧ ∀ (j : Nat) (x : List Bool), s[j]? = some x → ∃ g c : Nat, cs[j]? = some (Value.slice (some ⟨g, 0, none⟩) len c) ∧ Qk.Row W g x ∧ x.length = len
theorem Qk.Subs.below {W W' : World} {cs : List Value} {s : List (List Bool)} {len : Nat} (h : Qk.Subs W cs s len) (hb : Below W.heap.size W W') : Qk.Subs W' cs s len :=
  ⟨h.1, fun j x hj => by
    obtain ⟨g, c, h1, h2, h3⟩ := h.2 j x hj
    exact ⟨g, c, h1, h2.kept (hb.block g h2.lt), h3⟩⟩
theorem Qk.Subs.snoc {W W' : World} {cs : List Value} {s : List (List Bool)} {len base : Nat} {v : Value} {n : Nat} {xs : List Value} (h : Qk.Subs W cs s len) (ho : W.ownsRow base 38 1 v n xs) (hg : W.grownBy W' v.ownBlock) {g c : Nat} {x : List Bool} (hr : Qk.Row W g x) (hl : x.length = len) : Qk.Subs W' (cs ++ [.slice (some ⟨g, 0, none⟩) len c]) (s ++ [x]) len := by
  have hk : ∀ g x, Qk.Row W g x → Qk.Row W' g x := fun g x hr => hr.kept (hg.block g hr.lt (Qk.row_ne ho hr))
  refine ⟨by simp [h.1], fun j y hj => ?_⟩
  by_cases hlt : j < s.length
  · rw [List.getElem?_append_left hlt] at hj
    obtain ⟨g', c', h1, h2, h3⟩ := h.2 j y hj
    exact ⟨g', c', by rw [List.getElem?_append_left (by rw [h.1]; exact hlt)]; exact h1, hk _ _ h2, h3⟩
  · rw [List.getElem?_append_right (by omega)] at hj
    have hj0 : j - s.length = 0 := by have := (List.getElem?_eq_some_iff.1 hj).1; simp at this; omega
    rw [hj0] at hj
    cases hj
    exact ⟨g, c, by rw [List.getElem?_append_right (by rw [h.1]; omega), h.1, hj0]; rfl, hk _ _ hr, hl⟩
theorem Qk.Subs.rg {W : World} {base : Nat} {v : Value} {n : Nat} {cs : List Value} {s : List (List Bool)} {len : Nat} (h : Qk.Subs W cs s len) (ho : W.ownsRow base 38 1 v n cs) : Qk.RG W v s len := by
  have hn : cs.length = n := by have := ho.1; omega
  have hs := h.1
  rcases ho.2 with ⟨rfl, h0⟩ | ⟨g, cap, cur, rfl, hB, hg, hnc, hcap, _⟩
  · have : s.length = 0 := by omega
    refine ⟨⟨none, 0, by rw [this]⟩, fun i x hi => ?_⟩
    have := (List.getElem?_eq_some_iff.1 hi).1
    omega
  · obtain rfl : n = s.length := by omega
    refine ⟨⟨_, _, rfl⟩, fun i x hi => ?_⟩
    obtain ⟨g', c', h1, h2, h3⟩ := h.2 i x hi
    have hlt := (List.getElem?_eq_some_iff.1 hi).1
    refine ⟨g, cap, g', c', rfl, ?_, h2, h3⟩
    rw [ho.cellAt i (by omega)]
    exact h1

set_option maxRecDepth 100000 in
set_option maxHeartbeats 3200000 in
theorem marksOf_any : ∀ (n : Nat) (e : Qk.E) (x : Qk.AT n) (l : List Ev) (ad : Option Addr) (cap : Nat) (w : World), Qk.RA w n e x → Qk.wrong n x = 0 → Cl.RE w ad l → (∀ e ∈ l, e.wf) → l.length ≤ 4000 →
    Calls Tryz.prog 36 #[e.val, .slice ad l.length cap] w fun r w' => ∃ g, r = .returned (.slice (some ⟨g, 0, none⟩) l.length l.length) ∧ w.heap.size ≤ g ∧ Qk.Row w' g (Qk.marks n x l) ∧ (Qk.marks n x l).length = l.length ∧ Below w.heap.size w w' := by
  intro n
  induction n with
  | zero => intro e x l ad cap w h; exact absurd h id
  | succ n ih =>
    intro e x l ad cap w hre h0 hr hw hf
    obtain ⟨⟨hk, hn⟩, hs⟩ := hre
    obtain ⟨g1, g2, g3, g4⟩ := Qk.wrong_ok h0
    have hlen := hs.len
    have hlen2 : e.args.len = Qk.argsN e.k := by rw [hlen, g2, hk]
    have hfew : e.args.len ≤ 2 := by rw [hlen2]; unfold Qk.argsN; split <;> (try split) <;> omega
    have HS := hide hs
    have HLN := hide hlen
    have IH := hide ih
    have HR := hide hr
    have HW := hide hw
    have H4 := hide g4
    have HML := hide (Qk.marks_length n x l)
    have HMX := hide (show Qk.marks (n + 1) x l = (List.range l.length).map (Qk.ev e.k e.n l (Qk.sub (x.2.map fun y => Qk.marks n y l) 0) (Qk.sub (x.2.map fun y => Qk.marks n y l) 1)) by rw [hk, hn]; rfl)
    have HTO := hide (fun (v : Value) (W : World) (h1 : Cl.RE W ad l) (h2 : Qk.RG W v (x.2.map fun y => Qk.marks n y l) l.length) => tellerOf_any e.k e.n l ad e.args.ad cap e.args.len e.args.cap v (x.2.map fun y => Qk.marks n y l) W h1 hw (by rw [hk]; exact g1) (by rw [hk, hn]; exact g3) h2 (by rw [List.length_map, ← hlen, hlen2]) hf)
    obtain ⟨i0, hi, hz0, hz1, hz2⟩ := info_parts Tryz.infoBs
    have HI := hide hi
    have HZ0 := hide hz0
    have HZ1 := hide hz1
    have HZ2 := hide hz2
    have HMAKE := hide (fun W => Qk.made l.length (Qk.ev e.k e.n l (Qk.sub (x.2.map fun y => Qk.marks n y l) 0) (Qk.sub (x.2.map fun y => Qk.marks n y l) 1)) W hf)
    generalize Qk.marks (n + 1) x l = MX at *
    generalize Qk.ev e.k e.n l (Qk.sub (x.2.map fun y => Qk.marks n y l) 0) (Qk.sub (x.2.map fun y => Qk.marks n y l) 1) = M at *
    clear hs hk hn hlen hlen2 ih g1 g2 g3 g4 h0 hr hw hi hz0 hz1 hz2
    unfold Qk.E.val
    go_enter Tryz.func36, Tryz.ntmps36
    go_wp2_with fail
    obtain ⟨W1, hW1⟩ : ∃ W1, W1 = w.alloc (.cells #[.int .i64 e.k, .int .i64 e.n, .slice e.args.ad e.args.len e.args.cap] 24) := ⟨_, rfl⟩
    have hs1 : W1.heap.size = w.heap.size + 1 := by rw [hW1]; simp
    have HB1 := hide (show Below w.heap.size w W1 by rw [hW1]; exact (Below.refl _ _).alloc (Nat.le_refl _) _)
    have HC1 := hide (show W1.cell? ⟨w.heap.size, 0, none⟩ = some (.int .i64 e.k) ∧ W1.cell? ⟨w.heap.size, 1, none⟩ = some (.int .i64 e.n) ∧ W1.cell? ⟨w.heap.size, 2, none⟩ = some (.slice e.args.ad e.args.len e.args.cap) by rw [hW1]; exact ⟨by simp, by simp, by simp⟩)
    rw [← hW1]
    clear hW1
    go_loopw [5, 14] (fun v iv wr => ∃ (i : Nat) (cs : List Value), i ≤ e.args.len ∧ iv = .int .i64 i ∧ wr.ownsRow W1.heap.size 38 1 v i cs ∧ Qk.Subs wr cs ((x.2.take i).map fun y => Qk.marks n y l) l.length ∧ Below W1.heap.size W1 wr) (fun _ iv _ => e.args.len - (intOf iv).toNat)
    case atStart => exact ⟨0, [], Nat.zero_le _, rfl, World.ownsRow_nil _ _ _ _, ⟨rfl, fun j x h => by simp at h⟩, Below.refl _ _⟩
    case round =>
      obtain ⟨i, cs, hi, rfl, how, hsub, hbe⟩ := hrel
      have hz := hbe.size
      have HOW := hide how
      have HSUB := hide hsub
      have HBE := hide hbe
      have HBW := hide ((unhide HB1).trans (hbe.mono (by omega)))
      clear how hsub hbe
      by_cases hlt : i < e.args.len
      · have hlt2 : i < x.2.length := by have := unhide HLN; omega
        have hy := List.getElem?_eq_getElem hlt2
        obtain ⟨b, o, c, had, hb, hlies, hrd⟩ := (unhide HS).at_ i _ hy
        have HTK := hide (show (x.2.take (i + 1)).map (fun y => Qk.marks n y l) = (x.2.take i).map (fun y => Qk.marks n y l) ++ [Qk.marks n x.2[i] l] by rw [List.take_succ_eq_append_getElem hlt2, List.map_append]; rfl)
        have HY0 := hide ((unhide H4) _ (List.mem_of_getElem? hy))
        generalize x.2[i] = y at *
        have hll := hlies.later (unhide HBW) (Nat.le_refl _) hb
        obtain ⟨p0, p1, p2⟩ := hll
        have HRD := hide (hrd.later (unhide HBW) (Nat.le_refl _))
        clear hlies hrd hy
        have hi0 : (0 : Int) ≤ (i : Int) := by omega
        have hi1 : (i : Int) < (e.args.len : Int) := by omega
        rw [had]
        go_wp2_with fail
        have hal := (Below.refl wr.heap.size wr).alloc (Nat.le_refl _) (.cells #[.int .i64 c.k, .int .i64 c.n, .slice c.args.ad c.args.len c.args.cap] 24)
        refine ((unhide IH) c y l ad cap _ ((unhide HRD).alloc _) (unhide HY0) (((unhide HR).later (unhide HBW) (Nat.le_refl _)).later hal (Nat.le_refl _)) (unhide HW) hf).mono ?_
        rintro r w2 ⟨g, rfl, hgn, hrow, hrl, hb2⟩
        have hb3 := hal.trans (hb2.mono (by simp))
        have hz2 := hb3.size
        have HB2 := hide hb3
        have HROW := hide hrow
        have HRL := hide hrl
        have HO2 := hide (Ix.ow_below (unhide HOW) hb3)
        have HS2 := hide ((unhide HSUB).below hb3)
        have HBE2 := hide ((unhide HBE).trans (hb3.mono hz))
        clear hrow hrl hb2 hb3 hal p0 p1 p2
        have tok1 : True := trivial
        go_wp2_with (at_builtin; have _t := tok1; clear tok1 _t; refine wpList_append_own_at _ rfl _ _ 60 rfl W1.heap.size 38 i0 (.slice none 0 0) 1 24 Tryz.underlying60 (unhide HI) (unhide HZ0) (unhide HZ1) (unhide HZ2) rfl (by decide) _ _ _ rfl ((unhide HO2).alloc _) ⟨w2.heap.size, 0, none⟩ 1 1 [.slice (some ⟨g, 0, none⟩) l.length l.length] rfl rfl (cell_one_new _ _ _) (by simp [Value.oneCell']) (by unfold maxLen; omega) (by omega) (by simp; omega) ?_; intro v' w3 hown' hgrow hnil hloc; have HOWN' := hide hown'; have HG := hide ((World.grownBy_alloc w2 _ _).trans hgrow); clear hown' hgrow hnil hloc)
        have HLT := hide (unhide HO2).lt
        refine ⟨⟨i + 1, cs ++ [.slice (some ⟨g, 0, none⟩) l.length l.length], by omega, by go_num, unhide HOWN', ?_, (unhide HBE2).grown (unhide HG) (by omega) (fun q hq => ((unhide HLT) q hq).1)⟩, by simp [intOf]; omega⟩
        rw [unhide HTK]
        exact (unhide HS2).snoc (unhide HO2) (unhide HG) (unhide HROW) (unhide HRL)
      · have hie : i = e.args.len := by omega
        have HRG := hide (show Qk.RG wr u5 (x.2.map fun y => Qk.marks n y l) l.length by
          have := (unhide HSUB).rg (unhide HOW)
          rw [List.take_of_length_le (by have := unhide HLN; omega)] at this
          exact this)
        obtain ⟨q0, q1, q2⟩ := unhide HC1
        have q0' := ((unhide HBE).cell (p := ⟨w.heap.size, 0, none⟩) (by show w.heap.size < _; omega)).trans q0
        have q1' := ((unhide HBE).cell (p := ⟨w.heap.size, 1, none⟩) (by show w.heap.size < _; omega)).trans q1
        have q2' := ((unhide HBE).cell (p := ⟨w.heap.size, 2, none⟩) (by show w.heap.size < _; omega)).trans q2
        clear q0 q1 q2 hie
        go_wp2_with fail
        refine ((unhide HTO) _ _ ((unhide HR).later (unhide HBW) (Nat.le_refl _)) (unhide HRG)).mono ?_
        rintro r w2 ⟨⟨fid, lb, Inv, rfl, htl, hi0⟩, hb2⟩
        have HTL := hide htl
        have HI0 := hide hi0
        have HBW2 := hide ((unhide HBW).trans (hb2.mono (unhide HBW).size))
        have hz2 := hb2.size
        clear htl hi0 hb2 q0' q1' q2'
        obtain ⟨w3, hrun, hmk, hb3⟩ := (unhide HMAKE) w2
        have HMK := hide hmk
        have HI3 := hide ((unhide HTL).keep 0 _ _ (unhide HI0) hb3)
        have HBW3 := hide ((unhide HBW2).trans (hb3.mono (unhide HBW2).size))
        have hz3 := hb3.size
        have hsz3 := hmk.lt
        clear hmk hb3
        go_wp2_with fail
        obtain ⟨wo, hwo⟩ : ∃ wo, wo = wr := ⟨wr, rfl⟩
        subst hwo
        go_loopw [34] (fun iv wq => ∃ t : Nat, t ≤ l.length ∧ iv = .int .i64 t ∧ Inv t wq ∧ Qk.Mk wq w2.heap.size l.length M t ∧ Below w.heap.size w wq ∧ w2.heap.size ≤ wq.heap.size) (fun iv _ => l.length - (intOf iv).toNat)
        case atStart => exact ⟨0, Nat.zero_le _, rfl, unhide HI3, unhide HMK, unhide HBW3, hz3⟩
        case round =>
          obtain ⟨t, ht, rfl, hinv, hmk, hbw, hz4⟩ := hrel
          have HINV := hide hinv
          have HMK4 := hide hmk
          have HBW4 := hide hbw
          clear hinv hmk hbw hrun
          by_cases hlt : t < l.length
          · have hen := (unhide HTL).enter
            have HCALL := hide ((unhide HTL).call t wr hlt (unhide HINV) hz4)
            have ht0 : (0 : Int) ≤ (t : Int) := by omega
            have ht1 : (t : Int) < (l.length : Int) := by omega
            go_wp2_with fail
            refine (unhide HCALL).mono ?_
            rintro r w5 ⟨rfl, hinv5, honly⟩
            have hmk5 := (unhide HMK4).kept (honly.block _ (unhide HMK4).lt (Or.inr (Nat.le_refl _)))
            have c5 := hmk5.cell hlt
            have f5 := hmk5.frozen t
            have HMK5 := hide hmk5.step
            have HINV5 := hide ((unhide HTL).keep (t + 1) _ _ hinv5 ((Below.refl w2.heap.size w5).setCell (p := ⟨w2.heap.size, t, none⟩) (Nat.le_refl _) (.bool (M t))))
            have HBW5 := hide (((unhide HBW4).trans ((honly.below (by omega)).mono (unhide HBW).size)).setCell (p := ⟨w2.heap.size, t, none⟩) (show w.heap.size ≤ w2.heap.size from (unhide HBW2).size) (.bool (M t)))
            have hz5 := honly.size
            clear hinv5 honly hmk5 hen
            go_wp2_with fail
            exact ⟨⟨t + 1, by omega, by go_num, unhide HINV5, unhide HMK5, unhide HBW5, by simp; omega⟩, by simp [intOf]; omega⟩
          · have htl : t = l.length := by omega
            have HROW := hide (show Qk.Row wr w2.heap.size MX by
              have := unhide HMK4
              rw [htl] at this
              rw [unhide HMX]
              exact this.done)
            clear htl
            go_wp2_with fail
            go_ret
            exact ⟨w2.heap.size, rfl, (unhide HBW2).size, unhide HROW, unhide HML, unhide HBW4⟩
end Go.Proofs.YtfhlnelgnnkeoaaGreatDoor
