/-
  The contract of the document's own DecodeOf. By the verifier.
-/
import Derived.Test.YtpekejebimkleaaCNatAt
import Derived.Test.YtpekejebimkleaaCDec
import Derived.Test.YtpekejebimkleaaCMath
import Derived.Test.YtpekejebimkleaaCArg
import Derived.Deep.RegionHeld3
namespace Go.Proofs.Ytpekejebimkleaa
open Go.RowKit
set_option linter.unusedVariables false

theorem Try.infoI : (Try.prog.info? 3).map (fun i => (i.zero, i.size, i.bytes)) = some (some (.int .i64 0), 1, 8) := by kernel_rfl
theorem Try.infoR : (Try.prog.info? 23).map (fun i => (i.zero, i.size, i.bytes)) = some (some (.slice none 0 0), 1, 24) := by kernel_rfl

/-- A row of numbers that lies in a block of its own. -/
def Cl.lies (W : World) (a : Option Addr) (y : List Int) : Prop :=
  y = [] ∨ ∃ (g : Nat) (cur : Array Value), a = some ⟨g, 0, none⟩ ∧ W.heap[g]? = some (.cells cur 3 (0, 0)) ∧ ∀ (i : Nat) (x : Int), y[i]? = some x → cur[i]? = some (Value.int .i64 x)
theorem Cl.lies.below {W W' : World} {a : Option Addr} {y : List Int} (h : Cl.lies W a y) (hb : Below W.heap.size W W') : Cl.lies W' a y := by
  rcases h with h | ⟨g, cur, h1, h2, h3⟩
  · exact Or.inl h
  · exact Or.inr ⟨g, cur, h1, (hb.block g (Array.getElem?_eq_some_iff.1 h2).1).trans h2, h3⟩
theorem Cl.sb_grown {W W' : World} {k : Nat} {o : Obj} {v : Value} (hg : W.grownBy W' v.ownBlock) (h : W.heap[k]? = some o) (hne : v.ownBlock ≠ some k) : W'.heap[k]? = some o :=
  (hg.block k (Array.getElem?_eq_some_iff.1 h).1 (fun hh => hne hh.symm)).trans h
theorem Cl.lies.grown {W W' : World} {B : Nat} {v : Value} {m : Nat} {svs : List Value} {a : Option Addr} {y : List Int} (h : Cl.lies W a y) (how : W.ownsRow B 23 1 v m svs) (hg : W.grownBy W' v.ownBlock) : Cl.lies W' a y := by
  rcases h with h | ⟨g, cur, h1, h2, h3⟩
  · exact Or.inl h
  · refine Or.inr ⟨g, cur, h1, Cl.sb_grown hg h2 ?_, h3⟩
    intro hq
    rcases how.2 with ⟨hv, _⟩ | ⟨q, cap, cur', hv, _, hh, _⟩
    · rw [hv] at hq; cases hq
    · rw [hv] at hq
      cases hq
      rw [h2] at hh
      injection hh with hh
      injection hh with _ h4 _
      exact absurd h4 (by decide)
theorem Cl.lies.cell {W : World} {a : Option Addr} {y : List Int} (h : Cl.lies W a y) {i : Nat} {x : Int} (hi : y[i]? = some x) : ∃ g, a = some ⟨g, 0, none⟩ ∧ W.cell? ⟨g, i, none⟩ = some (.int .i64 x) := by
  rcases h with h | ⟨g, cur, h1, h2, h3⟩
  · rw [h] at hi; simp at hi
  · refine ⟨g, h1, ?_⟩
    dsimp only [World.cell?]
    rw [h2]
    exact h3 i x hi
theorem Cl.lies.of {W : World} {B k cap : Nat} {ad : Option Addr} {ys : List Int} (h : W.ownsRow B 3 1 (.slice ad k cap) k (ys.map (Value.int .i64))) : Cl.lies W ad ys := by
  have hlen : ys.length = k := by have := h.1; simpa using this
  rcases h.2 with ⟨hv, h0⟩ | ⟨g, cap', cur, hv, _, hh, _, _, _, ht⟩
  · exact Or.inl (List.eq_nil_of_length_eq_zero (by omega))
  · cases hv
    refine Or.inr ⟨g, cur, rfl, hh, fun i x hi => ?_⟩
    have hlt := (List.getElem?_eq_some_iff.1 hi).1
    have : (cur.toList.take (k * 1))[i]? = some (.int .i64 x) := by rw [ht, List.getElem?_map, hi]; rfl
    rw [List.getElem?_take, if_pos (by omega)] at this
    simpa using this

theorem Cl.RE.ofs {W : World} {B k cap : Nat} {a : Option Addr} {l : List Ev} (hl : l.length = k) (h : W.ownsRow B 70 6 (.slice a k cap) k (Cl.evC l)) : Cl.RE W a l := by
  subst hl
  by_cases h0 : l.length = 0
  · rw [List.eq_nil_of_length_eq_zero h0]
    exact Cl.RE.nil _ _
  · obtain ⟨g, cap', hv, _, _⟩ := h.form (by omega)
    cases hv
    exact Cl.RE.of h

/-- Rows of numbers, one a column. -/
structure Cl.RR (W : World) (B : Nat) (v : Value) (n : Nat) (cols : List (List Int)) : Prop where
  rows : ∃ svs : List Value, W.ownsRow B 23 1 v cols.length svs ∧ ∀ (j : Nat) (y : List Int), cols[j]? = some y → ∃ a k, svs[j]? = some (.slice a n k) ∧ Cl.lies W a y
theorem Cl.RR.below {W W' : World} {B n : Nat} {v : Value} {cols : List (List Int)} (h : Cl.RR W B v n cols) (hb : Below W.heap.size W W') : Cl.RR W' B v n cols := by
  obtain ⟨svs, h1, h2⟩ := h.rows
  refine ⟨svs, Cl.ow_below h1 hb, fun j y hj => ?_⟩
  obtain ⟨a, k, h3, h4⟩ := h2 j y hj
  exact ⟨a, k, h3, h4.below hb⟩
theorem Cl.RR.nil (W : World) (B n : Nat) : Cl.RR W B (.slice none 0 0) n [] := ⟨[], World.ownsRow_nil _ _ _ _, fun j y h => by simp at h⟩
theorem Cl.RR.snoc {W W' : World} {B n : Nat} {v v' : Value} {cols : List (List Int)} {svs : List Value} {a : Option Addr} {k : Nat} {y : List Int} (how : W.ownsRow B 23 1 v cols.length svs)
    (hrows : ∀ (j : Nat) (y : List Int), cols[j]? = some y → ∃ a k, svs[j]? = some (.slice a n k) ∧ Cl.lies W a y) (hnew : Cl.lies W a y) (hg : W.grownBy W' v.ownBlock) (ho : W'.ownsRow B 23 1 v' (cols.length + 1) (svs ++ [.slice a n k])) : Cl.RR W' B v' n (cols ++ [y]) := by
  have hl : svs.length = cols.length := by have := how.1; omega
  refine ⟨svs ++ [.slice a n k], by rw [List.length_append]; exact ho, fun j z hj => ?_⟩
  by_cases hjc : j < cols.length
  · rw [List.getElem?_append_left hjc] at hj
    obtain ⟨a', k', h3, h4⟩ := hrows j z hj
    exact ⟨a', k', by rw [List.getElem?_append_left (by omega)]; exact h3, h4.grown how hg⟩
  · rw [List.getElem?_append_right (by omega)] at hj
    have hj0 : j - cols.length = 0 := by
      have := (List.getElem?_eq_some_iff.1 hj).1
      simp at this
      omega
    rw [hj0] at hj
    simp at hj
    subst hj
    refine ⟨a, k, ?_, hnew.grown how hg⟩
    rw [List.getElem?_append_right (by omega), show j - svs.length = 0 by omega]
    rfl

set_option maxRecDepth 100000 in
set_option maxHeartbeats 6400000 in
theorem DecodeOf_any (bs : List Nat) (w : World) (hl : bs.length ≤ 140737488351232) (hb : ∀ b ∈ bs, b < 256) :
    Calls Try.prog 21 #[.string (Cl.str bs)] w fun e w' => ∃ a c, e = .returned (.tuple #[.slice a (Cl.decR bs).1.length c, .int .i64 ((Cl.decR bs).2 : Nat)]) ∧ Cl.RE w' a (Cl.decR bs).1 ∧ Below w.heap.size w w' := by
  have HB := hide hb
  have hsz := Cl.str_size bs
  clear hb
  go_enter Try.func21, Try.ntmps21
  go_wp2_with fail
  refine (NaturalAt_any bs 0 _ hl (by omega) (unhide HB)).mono ?_
  rintro e w1 ⟨hna, hb1⟩
  have HB1 := hide hb1
  have hz1 := hb1.size
  clear hb1
  unfold Cl.natAt at hna
  rw [List.drop_zero] at hna
  cases hn : Cl.natG 6 true bs with
  | none =>
    rw [hn] at hna
    obtain ⟨p, q, rfl⟩ := hna
    have hR : Cl.decR bs = ([], 1) := by unfold Cl.decR; rw [hn]
    have HRR := hide hR
    clear hR hn
    go_wp2_with fail
    refine bodyPost_ret (v := .tuple #[.slice none 0 0, .int .i64 1]) (by simp [results, Try.results21, go_sem]) rfl ?_
    rw [unhide HRR]
    exact ⟨none, 0, rfl, Cl.RE.nil _ _, unhide HB1⟩
  | some x =>
    rw [hn] at hna
    obtain ⟨n, r⟩ := x
    obtain ⟨u, rfl, hru, hul⟩ := hna
    obtain ⟨hn1, hn2, hn3⟩ := Cl.natG_lt 6 true bs (n, r) (unhide HB) hn
    have e6 : (128 : Nat) ^ 6 = 4398046511104 := by decide
    rw [e6] at hn1
    rw [Nat.zero_add] at hru hul ⊢
    have hru' : r = bs.drop u := hru
    subst hru'
    have hnn : n < 4398046511104 := hn1
    by_cases h4 : 4000 < n
    · have hR : Cl.decR bs = ([], 2) := by unfold Cl.decR; rw [hn]; show (if 4000 < n then _ else _) = _; rw [if_pos h4]
      have HRR := hide hR
      have h4i : (4000 : Int) < (n : Int) := by omega
      clear hR hn hn1 hn2 hn3 e6 hru
      go_wp2_with fail
      refine bodyPost_ret (v := .tuple #[.slice none 0 0, .int .i64 2]) (by simp [results, Try.results21, go_sem]) rfl ?_
      rw [unhide HRR]
      exact ⟨none, 0, rfl, Cl.RE.nil _ _, unhide HB1⟩
    · have h4i : ¬ (4000 : Int) < (n : Int) := by omega
      have HN := hide hn
      clear hn hn1 hn2 hn3 e6 hru
      go_wp2_with fail
      go_loopw [5, 7, 8] (fun pv sv v wr => ∃ (c : Nat) (cols : List (List Int)) (p : Nat) (ra : Option Addr) (rc : Nat), c ≤ 6 ∧ cols.length = c ∧ v = .int .i64 (c : Nat) ∧ pv = .int .i64 (p : Nat) ∧ sv = .slice ra c rc ∧ p ≤ bs.length ∧ Cl.decCols n c (bs.drop u) = some (cols, bs.drop p) ∧ Cl.RR wr w.heap.size (.slice ra c rc) n cols ∧ Below w.heap.size w wr) (fun _ _ v _ => 6 - (intOf v).toNat)
      case atStart => exact ⟨0, [], u, none, 0, by omega, rfl, rfl, rfl, rfl, by omega, rfl, Cl.RR.nil _ _ _, unhide HB1⟩
      case round =>
        obtain ⟨c, cols, p, ra, rc, hc, hcl, rfl, rfl, rfl, hpl, hdc, hrr, hbe⟩ := hrel
        have HDC := hide hdc
        have HRR1 := hide hrr
        have HBE := hide hbe
        have hz := hbe.size
        clear hdc hrr hbe
        by_cases hlt : c < 6
        · have hc2 : (c : Int) < 6 := by omega
          obtain ⟨wo, hwo⟩ : ∃ wo, wo = wr := ⟨wr, rfl⟩
          subst hwo
          obtain ⟨i0, hi0, hz0, hz1', hz2⟩ := info_of Try.infoI
          have HI := hide hi0
          have HZ0 := hide hz0
          have HZ1 := hide hz1'
          have HZ2 := hide hz2
          clear hi0 hz0 hz1' hz2
          go_wp2_with fail
          go_loopw [5, 9, 10, 11] (fun pv wv rv v wr => ∃ (k p2 : Nat) (ys : List Int) (a : Option Addr) (cp : Nat), k ≤ n ∧ v = .int .i64 (k : Nat) ∧ pv = .int .i64 (p2 : Nat) ∧ p2 ≤ bs.length ∧ wv = .int .i64 (Cl.lastD 0 ys) ∧ rv = .slice a k cp ∧ Cl.decC k 0 (bs.drop p) = some (ys, bs.drop p2) ∧ wr.ownsRow wo.heap.size 3 1 (.slice a k cp) k (ys.map (Value.int .i64)) ∧ (-(k * 2199023255552 : Int) ≤ Cl.lastD 0 ys ∧ Cl.lastD 0 ys ≤ k * 2199023255552) ∧ Below wo.heap.size wo wr) (fun _ _ _ v _ => n - (intOf v).toNat)
          case atStart => exact ⟨0, p, [], none, 0, by omega, rfl, rfl, hpl, rfl, rfl, rfl, World.ownsRow_nil _ _ _ _, ⟨by show _ ≤ (0 : Int); omega, by show (0 : Int) ≤ _; omega⟩, Below.refl _ _⟩
          case round =>
            obtain ⟨k, p2, ys, a, cp, hk, rfl, rfl, hp2, rfl, rfl, hdk, how, hlb, hbe2⟩ := hrel
            have HDK := hide hdk
            have HOW := hide how
            have HBE2 := hide hbe2
            have hzz := hbe2.size
            clear hdk how hbe2
            by_cases hkn : k < n
            · have hk2 : (k : Int) < (n : Int) := by omega
              go_wp2_with fail
              refine (NaturalAt_any bs p2 _ hl hp2 (unhide HB)).mono ?_
              rintro e w3 ⟨hna, hb3⟩
              have HB3 := hide ((unhide HBE2).trans (hb3.mono hzz))
              have HOW3 := hide (Cl.ow_below (unhide HOW) hb3)
              clear hb3
              unfold Cl.natAt at hna
              cases hx : Cl.natG 6 true (bs.drop p2) with
              | none =>
                rw [hx] at hna
                obtain ⟨q1, q2, rfl⟩ := hna
                have HRR := hide (Cl.dec_fail (unhide HN) h4 (unhide HDC) hlt (unhide HDK) hkn hx)
                clear hx
                go_wp2_with fail
                refine bodyPost_ret (v := .tuple #[.slice none 0 0, .int .i64 1]) (by simp [results, Try.results21, go_sem]) rfl ?_
                rw [unhide HRR]
                exact ⟨none, 0, rfl, Cl.RE.nil _ _, (unhide HBE).trans ((unhide HB3).mono hz)⟩
              | some x =>
                rw [hx] at hna
                obtain ⟨y, r3⟩ := x
                obtain ⟨u2, rfl, hr3, hu2⟩ := hna
                have hr3' : r3 = bs.drop (p2 + u2) := hr3
                subst hr3'
                obtain ⟨hy1, _, _⟩ := Cl.natG_lt 6 true (bs.drop p2) (y, _) (fun b hh => (unhide HB) b (List.mem_of_mem_drop hh)) hx
                have e6 : (128 : Nat) ^ 6 = 4398046511104 := by decide
                rw [e6] at hy1
                have hyy : y < 4398046511104 := hy1
                have hzb := Cl.zag_bound hyy
                have HDK3 := hide (show Cl.decC (k + 1) 0 (bs.drop p) = some (ys ++ [Cl.lastD 0 ys + Cl.zag y], bs.drop (p2 + u2)) by rw [Cl.decC_snoc, unhide HDK]; show Option.map _ (Cl.natG 6 true (bs.drop p2)) = _; rw [hx]; rfl)
                have HLS := hide (Cl.lastD_snoc (Cl.lastD 0 ys + Cl.zag y) ys 0)
                have HZG := hide (show Cl.zag y = if y % 2 = 1 then -(((y + 1) / 2 : Nat) : Int) else ((y / 2 : Nat) : Int) from rfl)
                clear hx hy1 e6 hr3
                generalize hL : Cl.lastD 0 ys = L at *
                generalize hZ : Cl.zag y = Z at *
                go_upto_if 48 with fail
                go_cut [9] (fun v wx => v = .int .i64 (L + Z) ∧ wx = w3)
                case first =>
                  by_cases hodd : y % 2 = 1
                  · have g1 : ((y : Int) % 2 == 1) = true := by rw [beq_iff_eq]; omega
                    have hzz2 := unhide HZG
                    rw [if_pos hodd] at hzz2
                    go_wp2_with fail
                    go_meet
                    case rel => exact ⟨congrArg (Value.int .i64) (by omega), rfl⟩
                  · have g1 : ((y : Int) % 2 == 1) = false := by rw [beq_eq_false_iff_ne]; omega
                    have hzz2 := unhide HZG
                    rw [if_neg hodd] at hzz2
                    go_wp2_with fail
                    go_meet
                    case rel => exact ⟨congrArg (Value.int .i64) (by omega), rfl⟩
                case rest =>
                  obtain ⟨rfl, rfl⟩ := hcut
                  have HOA := hide ((unhide HOW3).alloc (.cells #[.int .i64 (L + Z)] 3))
                  have HBK := hide (heap_alloc_new wc (.cells #[.int .i64 (L + Z)] 3))
                  have HLT := hide (show ∀ q, (Value.slice a k cp).ownBlock = some q → wo.heap.size ≤ q ∧ q < wc.heap.size from (unhide HOW3).lt)
                  have hz3 := (unhide HB3).size
                  go_wp2_with (at_builtin; refine wpList_append_lies _ (by rfl) _ _ _ (by rfl) wo.heap.size 3 i0 _ 1 8 Try.underlying23 (unhide HI) (unhide HZ0) (unhide HZ1) (unhide HZ2) rfl (by omega) (.slice a k cp) k (ys.map (Value.int .i64)) (by rfl) (unhide HOA) ⟨wc.heap.size, 0, none⟩ 1 1 [.int .i64 (L + Z)] (by rfl) (by rfl) (World.news_of_block (unhide HBK)) (by simp [Value.oneCell']) (by omega) (by unfold maxLen; omega) (by omega) (by simp; omega) (wc.heap.size + 1) (by simp) ?_; intro g2 cap2 w4 hown3 hgrow3 hat3 hlt3; have HO3 := hide hown3; have HG3 := hide hgrow3; clear hown3 hgrow3 hat3)
                  refine ⟨⟨k + 1, p2 + u2, ys ++ [L + Z], some ⟨g2, 0, none⟩, cap2, by omega, by go_num, rfl, hu2, by rw [unhide HLS], rfl, unhide HDK3, ?_, ?_, ?_⟩, by simp [intOf]; omega⟩
                  · rw [List.map_append]
                    exact unhide HO3
                  · rw [unhide HLS]
                    constructor <;> omega
                  · exact ((unhide HB3).alloc (by omega) _).grown (unhide HG3) (by simp; omega) (fun q hq => ((unhide HLT) q hq).1)
            · have hk2 : ¬ (k : Int) < (n : Int) := by omega
              have hkn2 : k = n := by omega
              subst hkn2
              obtain ⟨j0, hj0, hy0, hy1, hy2⟩ := info_of Try.infoR
              have HJ := hide hj0
              have HY0 := hide hy0
              have HY1 := hide hy1
              have HY2 := hide hy2
              obtain ⟨svs, hown, hrows⟩ := ((unhide HRR1).below (unhide HBE2)).rows
              rw [hcl] at hown
              have hba := (Below.refl wr.heap.size wr).alloc (Nat.le_refl _) (.cells #[.slice a k cp] 23)
              have HRA := hide (hown.alloc (.cells #[.slice a k cp] 23))
              have HROW := hide (show ∀ (j : Nat) (y : List Int), cols[j]? = some y → ∃ a' k', svs[j]? = some (.slice a' k k') ∧ Cl.lies (wr.alloc (.cells #[.slice a k cp] 23)) a' y from fun j y hj => by
                obtain ⟨a', k', q1, q2⟩ := hrows j y hj
                exact ⟨a', k', q1, q2.below hba⟩)
              have HNEW := hide ((Cl.lies.of (unhide HOW)).below hba)
              have HBK := hide (heap_alloc_new wr (.cells #[.slice a k cp] 23))
              have HLT := hide (show ∀ q, (Value.slice ra c rc).ownBlock = some q → w.heap.size ≤ q ∧ q < wr.heap.size from hown.lt)
              have HBW := hide ((unhide HBE).trans ((unhide HBE2).mono hz))
              have hzw := (unhide HBW).size
              clear hj0 hy0 hy1 hy2 hown hrows hba
              go_wp2_with (at_builtin; refine wpList_append_lies _ (by rfl) _ _ _ (by rfl) w.heap.size 23 j0 _ 1 24 Try.underlying89 (unhide HJ) (unhide HY0) (unhide HY1) (unhide HY2) rfl (by omega) (.slice ra c rc) c svs (by rfl) (unhide HRA) ⟨wr.heap.size, 0, none⟩ 1 1 [.slice a k cp] (by rfl) (by rfl) (World.news_of_block (unhide HBK)) (by simp [Value.oneCell']) (by omega) (by unfold maxLen; omega) (by omega) (by simp; omega) (wr.heap.size + 1) (by simp) ?_; intro g2 cap2 w4 hown3 hgrow3 hat3 hlt3; have HO3 := hide hown3; have HG3 := hide hgrow3; clear hown3 hgrow3 hat3)
              refine ⟨⟨c + 1, cols ++ [ys], p2, some ⟨g2, 0, none⟩, cap2, by omega, by simp [hcl], by go_num, rfl, rfl, hp2, ?_, ?_, ?_⟩, by simp [intOf]; omega⟩
              · show (Cl.decCols k c (bs.drop u)).bind _ = _
                rw [unhide HDC]
                show Option.map _ (Cl.decC k 0 (bs.drop p)) = _
                rw [unhide HDK]
                rfl
              · have hra := unhide HRA
                have ho3 := unhide HO3
                rw [← hcl] at hra ho3
                have hg3 := unhide HG3
                rw [← hcl] at hg3
                have := Cl.RR.snoc hra (unhide HROW) (unhide HNEW) hg3 ho3
                rw [hcl] at this
                exact this
              · exact ((unhide HBW).alloc (by omega) _).grown (unhide HG3) (by simp; omega) (fun q hq => ((unhide HLT) q hq).1)
        · have hc2 : ¬ (c : Int) < 6 := by omega
          have hc6 : c = 6 := by omega
          subst hc6
          obtain ⟨y0, y1, y2, y3, y4, y5, rfl⟩ := Cl.six_of hcl
          obtain ⟨_, _, hyl, _⟩ := Cl.decCols_inv n 6 (bs.drop u) _ (fun b hh => (unhide HB) b (List.mem_of_mem_drop hh)) (unhide HDC)
          have hyl0 : y0.length = n := hyl y0 (by simp)
          have hyl1 : y1.length = n := hyl y1 (by simp)
          have hyl2 : y2.length = n := hyl y2 (by simp)
          have hyl3 : y3.length = n := hyl y3 (by simp)
          have hyl4 : y4.length = n := hyl y4 (by simp)
          have hyl5 : y5.length = n := hyl y5 (by simp)
          obtain ⟨svs, hown, hrows⟩ := (unhide HRR1).rows
          obtain ⟨q, rc', hv, _, _⟩ := hown.form (by simp)
          cases hv
          obtain ⟨a0, k0, hs0, hl0⟩ := hrows 0 y0 rfl
          have HC0 := hide (show wr.cell? ⟨q, 0, none⟩ = some (.slice a0 n k0) by have := hown.cells (g := q) rfl 0 _ hs0; rw [Dk.add_at] at this; simpa using this)
          have HL0 := hide hl0
          obtain ⟨a1, k1, hs1, hl1⟩ := hrows 1 y1 rfl
          have HC1 := hide (show wr.cell? ⟨q, 1, none⟩ = some (.slice a1 n k1) by have := hown.cells (g := q) rfl 1 _ hs1; rw [Dk.add_at] at this; simpa using this)
          have HL1 := hide hl1
          obtain ⟨a2, k2, hs2, hl2⟩ := hrows 2 y2 rfl
          have HC2 := hide (show wr.cell? ⟨q, 2, none⟩ = some (.slice a2 n k2) by have := hown.cells (g := q) rfl 2 _ hs2; rw [Dk.add_at] at this; simpa using this)
          have HL2 := hide hl2
          obtain ⟨a3, k3, hs3, hl3⟩ := hrows 3 y3 rfl
          have HC3 := hide (show wr.cell? ⟨q, 3, none⟩ = some (.slice a3 n k3) by have := hown.cells (g := q) rfl 3 _ hs3; rw [Dk.add_at] at this; simpa using this)
          have HL3 := hide hl3
          obtain ⟨a4, k4, hs4, hl4⟩ := hrows 4 y4 rfl
          have HC4 := hide (show wr.cell? ⟨q, 4, none⟩ = some (.slice a4 n k4) by have := hown.cells (g := q) rfl 4 _ hs4; rw [Dk.add_at] at this; simpa using this)
          have HL4 := hide hl4
          obtain ⟨a5, k5, hs5, hl5⟩ := hrows 5 y5 rfl
          have HC5 := hide (show wr.cell? ⟨q, 5, none⟩ = some (.slice a5 n k5) by have := hown.cells (g := q) rfl 5 _ hs5; rw [Dk.add_at] at this; simpa using this)
          have HL5 := hide hl5
          have HEND := hide (Cl.dec_end (unhide HN) h4 (unhide HDC))
          have HEL := hide (show (Cl.evs n [y0, y1, y2, y3, y4, y5]).length = n by unfold Cl.evs; simp)
          obtain ⟨i0, hi0, hz0, hz1', hz2⟩ := info_of Try.infoE
          have HI := hide hi0
          have HZ0 := hide hz0
          have HZ1 := hide hz1'
          have HZ2 := hide hz2
          clear hi0 hz0 hz1' hz2 hown hrows hyl hs0 hs1 hs2 hs3 hs4 hs5 hl0 hl1 hl2 hl3 hl4 hl5
          obtain ⟨w5, hw5⟩ : ∃ w5, w5 = wr := ⟨wr, rfl⟩
          subst hw5
          go_wp2_with fail
          go_loopw [15, 16] (fun sv v wr => ∃ (k : Nat) (a : Option Addr) (cp : Nat), k ≤ n ∧ v = .int .i64 (k : Nat) ∧ sv = .slice a k cp ∧ wr.ownsRow w5.heap.size 70 6 (.slice a k cp) k (Cl.evC ((Cl.evs n [y0, y1, y2, y3, y4, y5]).take k)) ∧ Below w5.heap.size w5 wr) (fun _ v _ => n - (intOf v).toNat)
          case atStart => exact ⟨0, none, 0, by omega, rfl, rfl, World.ownsRow_nil _ _ _ _, Below.refl _ _⟩
          case round =>
            obtain ⟨k, a, cp, hk, rfl, rfl, how, hbe5⟩ := hrel
            have HOW := hide (show wr.drew.ownsRow w5.heap.size 70 6 (.slice a k cp) k (Cl.evC ((Cl.evs n [y0, y1, y2, y3, y4, y5]).take k)) from how)
            have HB5 := hide hbe5
            have hz5 := hbe5.size
            clear hbe5
            by_cases hkn : k < n
            · have hk1 : (0 : Int) ≤ (k : Int) := by omega
              have hk2 : (k : Int) < (n : Int) := by omega
              obtain ⟨x0, hx0⟩ : ∃ x, y0[k]? = some x := ⟨_, List.getElem?_eq_getElem (by rw [hyl0]; exact hkn)⟩
              obtain ⟨g0, rfl, hv0⟩ := (unhide HL0).cell hx0
              obtain ⟨x1, hx1⟩ : ∃ x, y1[k]? = some x := ⟨_, List.getElem?_eq_getElem (by rw [hyl1]; exact hkn)⟩
              obtain ⟨g1, rfl, hv1⟩ := (unhide HL1).cell hx1
              obtain ⟨x2, hx2⟩ : ∃ x, y2[k]? = some x := ⟨_, List.getElem?_eq_getElem (by rw [hyl2]; exact hkn)⟩
              obtain ⟨g2, rfl, hv2⟩ := (unhide HL2).cell hx2
              obtain ⟨x3, hx3⟩ : ∃ x, y3[k]? = some x := ⟨_, List.getElem?_eq_getElem (by rw [hyl3]; exact hkn)⟩
              obtain ⟨g3, rfl, hv3⟩ := (unhide HL3).cell hx3
              obtain ⟨x4, hx4⟩ : ∃ x, y4[k]? = some x := ⟨_, List.getElem?_eq_getElem (by rw [hyl4]; exact hkn)⟩
              obtain ⟨g4, rfl, hv4⟩ := (unhide HL4).cell hx4
              obtain ⟨x5, hx5⟩ : ∃ x, y5[k]? = some x := ⟨_, List.getElem?_eq_getElem (by rw [hyl5]; exact hkn)⟩
              obtain ⟨g5, rfl, hv5⟩ := (unhide HL5).cell hx5
              have HEK := hide (show (Cl.evs n [y0, y1, y2, y3, y4, y5])[k]? = some ⟨x0, x1, x2, x3, x4, x5⟩ by unfold Cl.evs; rw [List.getElem?_map, List.getElem?_range hkn]; simp [hx0, hx1, hx2, hx3, hx4, hx5])
              have HM := hide (show ∀ W : World, Below w5.heap.size w5 W → (Below w5.heap.size w5 W ∧ W.cell? ⟨q, 0, none⟩ = some (.slice (some ⟨g0, 0, none⟩) n k0) ∧ W.cell? ⟨q, 1, none⟩ = some (.slice (some ⟨g1, 0, none⟩) n k1) ∧ W.cell? ⟨q, 2, none⟩ = some (.slice (some ⟨g2, 0, none⟩) n k2) ∧ W.cell? ⟨q, 3, none⟩ = some (.slice (some ⟨g3, 0, none⟩) n k3) ∧ W.cell? ⟨q, 4, none⟩ = some (.slice (some ⟨g4, 0, none⟩) n k4) ∧ W.cell? ⟨q, 5, none⟩ = some (.slice (some ⟨g5, 0, none⟩) n k5) ∧ W.cell? ⟨g0, k, none⟩ = some (.int .i64 x0) ∧ W.cell? ⟨g1, k, none⟩ = some (.int .i64 x1) ∧ W.cell? ⟨g2, k, none⟩ = some (.int .i64 x2) ∧ W.cell? ⟨g3, k, none⟩ = some (.int .i64 x3) ∧ W.cell? ⟨g4, k, none⟩ = some (.int .i64 x4) ∧ W.cell? ⟨g5, k, none⟩ = some (.int .i64 x5)) from fun W hb => ⟨hb, (hb.cell (p := ⟨q, 0, none⟩) (World.block_lt_of_cell? w5 _ (unhide HC0))).trans (unhide HC0), (hb.cell (p := ⟨q, 1, none⟩) (World.block_lt_of_cell? w5 _ (unhide HC1))).trans (unhide HC1), (hb.cell (p := ⟨q, 2, none⟩) (World.block_lt_of_cell? w5 _ (unhide HC2))).trans (unhide HC2), (hb.cell (p := ⟨q, 3, none⟩) (World.block_lt_of_cell? w5 _ (unhide HC3))).trans (unhide HC3), (hb.cell (p := ⟨q, 4, none⟩) (World.block_lt_of_cell? w5 _ (unhide HC4))).trans (unhide HC4), (hb.cell (p := ⟨q, 5, none⟩) (World.block_lt_of_cell? w5 _ (unhide HC5))).trans (unhide HC5), (hb.cell (p := ⟨g0, k, none⟩) (World.block_lt_of_cell? w5 _ hv0)).trans hv0, (hb.cell (p := ⟨g1, k, none⟩) (World.block_lt_of_cell? w5 _ hv1)).trans hv1, (hb.cell (p := ⟨g2, k, none⟩) (World.block_lt_of_cell? w5 _ hv2)).trans hv2, (hb.cell (p := ⟨g3, k, none⟩) (World.block_lt_of_cell? w5 _ hv3)).trans hv3, (hb.cell (p := ⟨g4, k, none⟩) (World.block_lt_of_cell? w5 _ hv4)).trans hv4, (hb.cell (p := ⟨g5, k, none⟩) (World.block_lt_of_cell? w5 _ hv5)).trans hv5⟩)
              have HLT := hide (show ∀ q, (Value.slice a k cp).ownBlock = some q → w5.heap.size ≤ q from fun q hq => (how.lt q hq).1)
              clear hx0 hx1 hx2 hx3 hx4 hx5 hv0 hv1 hv2 hv3 hv4 hv5 how
              go_wp2_with fail
              go_region_held3 (fun W => Below w5.heap.size w5 W ∧ W.cell? ⟨q, 0, none⟩ = some (.slice (some ⟨g0, 0, none⟩) n k0) ∧ W.cell? ⟨q, 1, none⟩ = some (.slice (some ⟨g1, 0, none⟩) n k1) ∧ W.cell? ⟨q, 2, none⟩ = some (.slice (some ⟨g2, 0, none⟩) n k2) ∧ W.cell? ⟨q, 3, none⟩ = some (.slice (some ⟨g3, 0, none⟩) n k3) ∧ W.cell? ⟨q, 4, none⟩ = some (.slice (some ⟨g4, 0, none⟩) n k4) ∧ W.cell? ⟨q, 5, none⟩ = some (.slice (some ⟨g5, 0, none⟩) n k5) ∧ W.cell? ⟨g0, k, none⟩ = some (.int .i64 x0) ∧ W.cell? ⟨g1, k, none⟩ = some (.int .i64 x1) ∧ W.cell? ⟨g2, k, none⟩ = some (.int .i64 x2) ∧ W.cell? ⟨g3, k, none⟩ = some (.int .i64 x3) ∧ W.cell? ⟨g4, k, none⟩ = some (.int .i64 x4) ∧ W.cell? ⟨g5, k, none⟩ = some (.int .i64 x5))
                (first
                  | exact (unhide HM) _ ((unhide HB5).drew)
                  | exact (unhide HM) _ (Below.grown (And.left (by assumption)) (unhide HGA) (Below.size (And.left (by assumption))) (unhide HLT))
                  | exact (unhide HM) _ (Below.alloc (And.left (by assumption)) (Below.size (And.left (by assumption))) _))
                (first
                  | (refine step_append_lies _ rfl (.tmp 71) (.tmp 109) 34 rfl w5.heap.size 70 i0 _ 6 48 Try.underlying34 (unhide HI) (unhide HZ0) (unhide HZ1) (unhide HZ2) rfl (by omega) (.slice a k cp) k (Cl.evC ((Cl.evs n [y0, y1, y2, y3, y4, y5]).take k)) rfl ((unhide HOW).alloc _) _ 1 1 [.int .i64 x0, .int .i64 x1, .int .i64 x2, .int .i64 x3, .int .i64 x4, .int .i64 x5] rfl rfl (World.news_of_block (heap_alloc_new _ _)) (by simp [Value.oneCell']) (by omega) (by unfold maxLen; omega) (by omega) (by simp; omega) _ rfl ?_; intro gA cA w6 hoA hgA hatA hltA; have HGA := hide hgA; have HOA := hide hoA; clear hatA hltA hoA hgA))
              all_goals
                go_wp2_with fail
                refine ⟨⟨k + 1, some ⟨gA, 0, none⟩, cA, by omega, by go_num, rfl, ?_, And.left (a := Below w5.heap.size w5 w6) (by assumption)⟩, by simp [intOf]; omega⟩
                rw [List.take_add_one, unhide HEK]
                show World.ownsRow _ _ _ _ _ _ (Cl.evC ((Cl.evs n [y0, y1, y2, y3, y4, y5]).take k ++ [⟨x0, x1, x2, x3, x4, x5⟩]))
                rw [Cl.evC_snoc]
                exact unhide HOA
            · have hk2 : ¬ (k : Int) < (n : Int) := by omega
              have hkn2 : k = n := by omega
              subst hkn2
              have hel := unhide HEL
              have hre : Cl.RE wr a (Cl.evs k [y0, y1, y2, y3, y4, y5]) := Cl.RE.ofs hel (by rw [List.take_of_length_le (by rw [hel]; exact Nat.le_refl _)] at how; exact how)
              have HRE := hide hre
              have HBW := hide ((unhide HBE).trans ((unhide HB5).mono hz))
              have has := AreSmall_any (Cl.evs k [y0, y1, y2, y3, y4, y5]) a cp wr hre (by omega)
              rw [hel] at has
              have HAS := hide has
              clear hre has how
              by_cases hpp : p < bs.length
              · have hpi : (p : Int) < (bs.length : Int) := by omega
                have hR : Cl.decR bs = ([], 1) := by
                  rw [unhide HEND, if_neg]
                  intro hh
                  have h1 := congrArg List.length hh.1
                  rw [List.length_drop] at h1
                  simp at h1
                  omega
                have HRR := hide hR
                clear hR
                go_wp2_with fail
                refine bodyPost_ret (v := .tuple #[.slice none 0 0, .int .i64 1]) (by simp [results, Try.results21, go_sem]) rfl ?_
                rw [unhide HRR]
                first
                  | exact ⟨none, 0, rfl, Cl.RE.nil _ _, unhide HBW⟩
                  | exact ⟨none, ⟨0, rfl⟩, Cl.RE.nil _ _, unhide HBW⟩
              · have hpi : ¬ (p : Int) < (bs.length : Int) := by omega
                have hp0 : bs.drop p = [] := List.drop_eq_nil_of_le (by omega)
                have HP0 := hide hp0
                clear hp0
                go_wp2_with fail
                refine (unhide HAS).mono ?_
                rintro e w7 ⟨rfl, hb7⟩
                have HB7 := hide ((unhide HBW).trans (hb7.mono (unhide HBW).size))
                have HRE7 := hide ((unhide HRE).later hb7 (Nat.le_refl _))
                clear hb7
                cases hok : (Cl.evs k [y0, y1, y2, y3, y4, y5]).all Ev.ok
                · have hR : Cl.decR bs = ([], 1) := by rw [unhide HEND, if_neg (by rw [hok]; simp)]
                  have HRR := hide hR
                  clear hR hok
                  go_wp2_with fail
                  refine bodyPost_ret (v := .tuple #[.slice none 0 0, .int .i64 1]) (by simp [results, Try.results21, go_sem]) rfl ?_
                  rw [unhide HRR]
                  first
                    | exact ⟨none, 0, rfl, Cl.RE.nil _ _, unhide HB7⟩
                    | exact ⟨none, ⟨0, rfl⟩, Cl.RE.nil _ _, unhide HB7⟩
                · have hR : Cl.decR bs = (Cl.evs k [y0, y1, y2, y3, y4, y5], 0) := by rw [unhide HEND, if_pos ⟨unhide HP0, hok⟩]
                  have HRR := hide hR
                  clear hR hok
                  go_wp2_with fail
                  refine bodyPost_ret (v := .tuple #[.slice a k cp, .int .i64 0]) (by simp [results, Try.results21, go_sem]) rfl ?_
                  rw [unhide HRR]
                  first
                    | exact ⟨a, cp, by rw [unhide HEL]; rfl, unhide HRE7, unhide HB7⟩
                    | exact ⟨a, ⟨cp, by rw [unhide HEL]; rfl⟩, unhide HRE7, unhide HB7⟩
end Go.Proofs.Ytpekejebimkleaa
