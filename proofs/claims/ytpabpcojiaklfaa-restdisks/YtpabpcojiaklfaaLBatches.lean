/-
  The contract of log's batchesOf. By the verifier.
-/
import Derived.Test.YtpabpcojiaklfaaLBatch
namespace Go.Proofs.Ytpabpcojiaklfaa
open Go.RowKit
set_option linter.unusedVariables false

theorem Try.infoBs : (Try.prog.info? 34).map (fun i => (i.zero, i.size, i.bytes)) = some (some (.slice none 0 0), 1, 24) := by kernel_rfl

/-- So many batches, and the sectors behind them. -/
def Lg.batches (ks : List ByteArray) : Nat → Option (List (List Ev) × List ByteArray)
  | 0 => some ([], ks)
  | k + 1 => (Lg.batches ks k).bind fun x => (Lg.batchAt x.2).map fun l => (x.1 ++ [l], x.2.drop (1 + l.length))
theorem Lg.batches_none (ks : List ByteArray) (k : Nat) (h : Lg.batches ks k = none) : ∀ d, Lg.batches ks (k + d) = none
  | 0 => h
  | d + 1 => by
    show (Lg.batches ks (k + d)).bind _ = none
    rw [Lg.batches_none ks k h d]
    rfl
/-- The batches of a disk, and the sectors behind them. -/
def Lg.batchesOf : List ByteArray → Option (List (List Ev) × List ByteArray)
  | [] => none
  | s :: r => match Lg.nm Lg.headM s with
    | none => none
    | some e => Lg.batches r e.n0.toNat

theorem Lg.lies.grown {W W' : World} {B C : Nat} {v : Value} {m : Nat} {svs : List Value} {a : Option Addr} {l : List Ev} (h : Lg.lies C W a l) (how : W.ownsRow B 34 1 v m svs) (hg : W.grownBy W' v.ownBlock) : Lg.lies C W' a l := by
  rcases h with h | ⟨g, cur, h1, h2, h3⟩
  · exact Or.inl h
  · refine Or.inr ⟨g, cur, h1, (hg.block g (Array.getElem?_eq_some_iff.1 h2).1 ?_).trans h2, h3⟩
    intro hq
    rcases how.2 with ⟨hv, _⟩ | ⟨q, cap, cur', hv, _, hh, _⟩
    · rw [hv] at hq; cases hq
    · rw [hv] at hq
      cases hq
      rw [h2] at hh
      injection hh with hh
      injection hh with _ h4 _
      exact absurd h4 (by decide)

/-- Batches that lie. -/
structure Lg.BB (W : World) (B : Nat) (v : Value) (ls : List (List Ev)) : Prop where
  rows : ∃ svs : List Value, W.ownsRow B 34 1 v ls.length svs ∧ ∀ (j : Nat) (l : List Ev), ls[j]? = some l → ∃ a k, svs[j]? = some (.slice a l.length k) ∧ Lg.lies B W a l
theorem Lg.BB.below {W W' : World} {B : Nat} {v : Value} {ls : List (List Ev)} (h : Lg.BB W B v ls) (hb : Below W.heap.size W W') : Lg.BB W' B v ls := by
  obtain ⟨svs, h1, h2⟩ := h.rows
  refine ⟨svs, Cl.ow_below h1 hb, fun j y hj => ?_⟩
  obtain ⟨a, k, h3, h4⟩ := h2 j y hj
  exact ⟨a, k, h3, h4.below hb⟩
theorem Lg.BB.down {W : World} {B B' : Nat} {v : Value} {ls : List (List Ev)} (h : Lg.BB W B v ls) (hB : B' ≤ B) : Lg.BB W B' v ls := by
  obtain ⟨svs, h1, h2⟩ := h.rows
  refine ⟨svs, ⟨h1.1, ?_⟩, fun j y hj => by
    obtain ⟨a, k, h3, h4⟩ := h2 j y hj
    exact ⟨a, k, h3, h4.down hB⟩⟩
  rcases h1.2 with h | ⟨g, cap, cur, e1, e2, e3⟩
  · exact Or.inl h
  · exact Or.inr ⟨g, cap, cur, e1, by omega, e3⟩
theorem Lg.BB.nil (W : World) (B : Nat) : Lg.BB W B (.slice none 0 0) [] := ⟨[], World.ownsRow_nil _ _ _ _, fun j y h => by simp at h⟩
theorem Lg.BB.snoc {W W' : World} {B : Nat} {v v' : Value} {ls : List (List Ev)} {svs : List Value} {a : Option Addr} {k : Nat} {l : List Ev} (how : W.ownsRow B 34 1 v ls.length svs)
    (hrows : ∀ (j : Nat) (y : List Ev), ls[j]? = some y → ∃ a k, svs[j]? = some (.slice a y.length k) ∧ Lg.lies B W a y) (hnew : Lg.lies B W a l) (hg : W.grownBy W' v.ownBlock) (ho : W'.ownsRow B 34 1 v' (ls.length + 1) (svs ++ [.slice a l.length k])) : Lg.BB W' B v' (ls ++ [l]) := by
  have hl : svs.length = ls.length := by have := how.1; omega
  refine ⟨svs ++ [.slice a l.length k], by rw [List.length_append]; exact ho, fun j z hj => ?_⟩
  by_cases hjc : j < ls.length
  · rw [List.getElem?_append_left hjc] at hj
    obtain ⟨a', k', h3, h4⟩ := hrows j z hj
    exact ⟨a', k', by rw [List.getElem?_append_left (by omega)]; exact h3, h4.grown how hg⟩
  · rw [List.getElem?_append_right (by omega)] at hj
    have hj0 : j - ls.length = 0 := by
      have := (List.getElem?_eq_some_iff.1 hj).1
      simp at this
      omega
    rw [hj0] at hj
    simp at hj
    subst hj
    refine ⟨a, k, ?_, hnew.grown how hg⟩
    rw [List.getElem?_append_right (by omega), show j - svs.length = 0 by omega]
    rfl

/-- What batchesOf answers. -/
def Lg.batchesV (B : Nat) (w' : World) (e : Ending) : Option (List (List Ev) × List ByteArray) → Prop
  | some x => ∃ v a c, e = .returned (.tuple #[v, .slice a x.2.length c, .bool true]) ∧ (∃ a' c', v = .slice a' x.1.length c') ∧ Lg.BB w' B v x.1 ∧ x.2.length ≤ c
  | none => e = .returned (.tuple #[.slice none 0 0, .slice none 0 0, .bool false])

theorem Lg.batchAt_len : ∀ (ks : List ByteArray) (l : List Ev), Lg.batchAt ks = some l → l.length + 1 ≤ ks.length
  | [], l, h => by cases h
  | s :: r, l, h => by
    have h' : (match Lg.nm Lg.batchM s with | none => none | some e => if e.n0 < 0 ∨ (r.length : Int) < e.n0 then none else Lg.evOf (r.take e.n0.toNat)) = some l := h
    split at h'
    · cases h'
    · split at h'
      · cases h'
      · have := Lg.evOf_len _ _ h'
        rw [List.length_take] at this
        simp
        omega

/-- How many they are. -/
theorem Lg.batches_len (ks : List ByteArray) : ∀ (k : Nat) (x : List (List Ev) × List ByteArray), Lg.batches ks k = some x → x.1.length = k ∧ x.2.length + k ≤ ks.length ∧ ∀ t ∈ x.2, t ∈ ks
  | 0, x, h => by cases h; exact ⟨rfl, by simp, fun t ht => ht⟩
  | k + 1, x, h => by
    have h' : (Lg.batches ks k).bind (fun x => (Lg.batchAt x.2).map fun l => (x.1 ++ [l], x.2.drop (1 + l.length))) = some x := h
    cases h1 : Lg.batches ks k with
    | none => rw [h1] at h'; cases h'
    | some y =>
      rw [h1] at h'
      obtain ⟨e1, e2, e3⟩ := Lg.batches_len ks k y h1
      have h2 : (Lg.batchAt y.2).map (fun l => (y.1 ++ [l], y.2.drop (1 + l.length))) = some x := h'
      cases h3 : Lg.batchAt y.2 with
      | none => rw [h3] at h2; cases h2
      | some l =>
        rw [h3] at h2
        cases h2
        have h4 := Lg.batchAt_len _ _ h3
        refine ⟨by simp [e1], ?_, fun t ht => e3 t (List.mem_of_mem_drop ht)⟩
        simp only [List.length_drop]
        omega

set_option maxRecDepth 100000 in
set_option maxHeartbeats 3200000 in
theorem batchesOf_any (s : ByteArray) (r : List ByteArray) (ad : Option Addr) (cap : Nat) (w : World) (hr : Dk.RK w ad (s :: r)) (hl : r.length + 1 ≤ 600) (hcap : r.length + 1 ≤ cap) (h32 : ∀ t ∈ s :: r, t.size = 32) :
    Calls Try.prog 40 #[.slice ad (r.length + 1) cap] w fun e w' => Lg.batchesV w.heap.size w' e (Lg.batchesOf (s :: r)) ∧ Below w.heap.size w w' := by
  have HR := hide hr
  have H32 := hide h32
  have hs := h32 s List.mem_cons_self
  obtain ⟨b, o, rfl, hb, c0, _⟩ := hr.at_ 0 s rfl
  rw [Nat.add_zero] at c0
  clear hr h32
  go_enter Try.func40, Try.ntmps40
  go_wp2_with fail
  rw [← Lg.headM_str]
  refine (numbers_any Lg.headM s _ (by decide) rfl hs).mono ?_
  rintro e w1 ⟨rfl, hb1⟩
  have HB1 := hide hb1
  have hz1 := hb1.size
  clear hb1 c0
  cases hn : Lg.nm Lg.headM s with
  | none =>
    have HBA := hide (show Lg.batchesOf (s :: r) = none by show (match Lg.nm Lg.headM s with | none => _ | some e => _) = _; rw [hn])
    clear hn
    simp only [Option.getD, Option.isSome, Lg.zero]
    unfold Ev.agg
    go_wp2_with fail
    exact bodyPost_ret (v := .tuple #[.slice none 0 0, .slice none 0 0, .bool false]) (by simp [results, Try.results40, go_sem]) rfl ⟨by rw [unhide HBA]; rfl, (unhide HB1).alloc hz1 _⟩
  | some x =>
    have HBA := hide (show Lg.batchesOf (s :: r) = Lg.batches r x.n0.toNat by show (match Lg.nm Lg.headM s with | none => _ | some e => _) = _; rw [hn])
    clear hn
    simp only [Option.getD, Option.isSome]
    unfold Ev.agg
    have HRR := hide (show Dk.RK w (some ⟨b, o + 1, none⟩) r from ⟨fun i t hi => by
      obtain ⟨b2, o2, e2, h1, hc2, h2⟩ := (unhide HR).at_ (i + 1) t (by simpa using hi)
      cases e2
      exact ⟨b, o + 1, rfl, h1, by rw [show o + 1 + i = o + (i + 1) by omega]; exact hc2, h2⟩⟩)
    have HR32 := hide (show ∀ t ∈ r, t.size = 32 from fun t ht => (unhide H32) t (List.mem_cons_of_mem _ ht))
    have HBW := hide ((unhide HB1).alloc hz1 (Obj.cells #[.int .i64 x.n0, .int .i64 x.n1, .int .i64 x.n2, .int .i64 x.n3, .int .i64 x.n4, .int .i64 x.n5] 79))
    clear HR H32 HB1
    go_upto_region 5 with fail
    go_cut [0, 8] (fun kv rv wx => ∃ (a' : Option Addr) (c' : Nat), kv = .slice (some ⟨b, o, none⟩) (r.length + 1) cap ∧ rv = .slice a' r.length c' ∧ Dk.RK w a' r ∧ r.length ≤ c' ∧ wx = w1.alloc (Obj.cells #[.int .i64 x.n0, .int .i64 x.n1, .int .i64 x.n2, .int .i64 x.n3, .int .i64 x.n4, .int .i64 x.n5] 79))
    case first =>
      by_cases hc1 : cap = 1
      · have hr0 : r.length = 0 := by omega
        have hr1 : r = [] := List.eq_nil_of_length_eq_zero hr0
        have HR0 := hide hr1
        have HC1 := hide hc1
        clear hr1
        go_wp2_with fail
        go_meet
        case rel => exact ⟨_, _, by rw [unhide HC1], by rw [hr0], by rw [unhide HR0]; exact ⟨fun i t hi => by simp at hi⟩, by omega, rfl⟩
      · have HC1 := hide hc1
        go_wp2_with fail
        go_meet
        case rel => exact ⟨_, _, rfl, rfl, unhide HRR, by have := unhide HC1; omega, rfl⟩
    case rest =>
      obtain ⟨a', c', rfl, rfl, hra, hrc, rfl⟩ := hcut
      have HRA := hide hra
      obtain ⟨i0, hi0, hz0, hz1', hz2⟩ := info_of Try.infoBs
      have HI := hide hi0
      have HZ0 := hide hz0
      have HZ1 := hide hz1'
      have HZ2 := hide hz2
      clear hra hi0 hz0 hz1' hz2 HRR
      go_wp2_with fail
      go_loopw [7, 8, 24] (fun bv rv v wr => ∃ (k : Nat) (a : Option Addr) (c : Nat) (ls : List (List Ev)) (av : Option Addr) (cv : Nat) (rs : List ByteArray), k ≤ x.n0.toNat ∧ v = .int .i64 (k : Nat) ∧ bv = .slice av k cv ∧ rv = .slice a rs.length c ∧ Lg.batches r k = some (ls, rs) ∧ rs.length ≤ c ∧ Dk.RK w a rs ∧ Lg.BB wr w.heap.size (.slice av k cv) ls ∧ Below w.heap.size w wr) (fun _ _ v _ => x.n0.toNat - (intOf v).toNat)
      case atStart => exact ⟨0, a', c', [], none, 0, r, by omega, rfl, rfl, rfl, rfl, hrc, unhide HRA, Lg.BB.nil _ _, unhide HBW⟩
      case round =>
        obtain ⟨k, a, c, ls, av, cv, rs, hk, rfl, rfl, rfl, hev, hkc, hra, hbb, hbe⟩ := hrel
        obtain ⟨e1, e2, e3⟩ := Lg.batches_len _ _ _ hev
        dsimp only at e1 e2 e3
        have HE3 := hide e3
        have HEV := hide hev
        have HBB := hide hbb
        have HRS := hide hra
        have HBE2 := hide hbe
        have hz2 := hbe.size
        clear hev hbb hbe e3 hra
        by_cases hkn : (k : Int) < x.n0
        · have HSN := hide (show Lg.batches r (k + 1) = (Lg.batchAt rs).map fun l => (ls ++ [l], rs.drop (1 + l.length)) by
            show (Lg.batches r k).bind _ = _
            rw [unhide HEV]
            rfl)
          go_wp2_with fail
          refine (batchAt_any rs a c _ ((unhide HRS).later (unhide HBE2) (Nat.le_refl _)) (by omega) hkc (fun t ht => (unhide HR32) t ((unhide HE3) t ht))).mono ?_
          rintro e w3 ⟨hv3, hb3⟩
          have HB3 := hide ((unhide HBE2).trans (hb3.mono hz2))
          have HBB3 := hide ((unhide HBB).below hb3)
          have hz3 := (unhide HB3).size
          clear hb3
          cases hx : Lg.batchAt rs with
          | none =>
            have HNO := hide (show Lg.batchesOf (s :: r) = none by
              have h1 := unhide HSN
              rw [hx] at h1
              have e := Lg.batches_none r (k + 1) h1 (x.n0.toNat - (k + 1))
              rw [show k + 1 + (x.n0.toNat - (k + 1)) = x.n0.toNat by omega] at e
              rw [unhide HBA, e])
            rw [hx] at hv3
            clear hx
            have hv3' : e = .returned (.tuple #[.slice none 0 0, .bool false]) := hv3
            subst hv3'
            clear hv3
            go_wp2_with fail
            exact bodyPost_ret (v := .tuple #[.slice none 0 0, .slice none 0 0, .bool false]) (by simp [results, Try.results40, go_sem]) rfl ⟨by rw [unhide HNO]; rfl, unhide HB3⟩
          | some l =>
            have HSY := hide (show Lg.batches r (k + 1) = some (ls ++ [l], rs.drop (1 + l.length)) by rw [unhide HSN, hx]; rfl)
            have hll := Lg.batchAt_len _ _ hx
            rw [hx] at hv3
            clear hx
            obtain ⟨a4, c4, rfl, hl4, hc4⟩ := hv3
            have HL4 := hide (hl4.down (by omega))
            clear hl4
            obtain ⟨svs, how, hrows⟩ := (unhide HBB3).rows
            rw [e1] at how
            have HOW := hide how
            have HROWS := hide hrows
            have HOA := hide (how.alloc (Obj.cells #[.slice a4 l.length c4] 34))
            have HBK := hide (heap_alloc_new w3 (Obj.cells #[.slice a4 l.length c4] 34))
            have HLT := hide (show ∀ q, (Value.slice av k cv).ownBlock = some q → w.heap.size ≤ q ∧ q < w3.heap.size from how.lt)
            clear how hrows
            obtain ⟨t0, ht0⟩ : ∃ t0, rs[0]? = some t0 := ⟨rs[0]'(by omega), List.getElem?_eq_getElem (by omega)⟩
            obtain ⟨b5, o5, rfl, hb5, _, _⟩ := (unhide HRS).at_ 0 t0 ht0
            clear ht0
            go_wp2_with (at_builtin; refine wpList_append_lies _ (by rfl) _ _ _ (by rfl) w.heap.size 34 i0 _ 1 24 Try.underlying22 (unhide HI) (unhide HZ0) (unhide HZ1) (unhide HZ2) rfl (by omega) (.slice av k cv) k svs (by rfl) (unhide HOA) ⟨w3.heap.size, 0, none⟩ 1 1 [.slice a4 l.length c4] (by rfl) (by rfl) (World.news_of_block (unhide HBK)) (by simp [Value.oneCell']) (by omega) (by unfold maxLen; omega) (by omega) (by simp; omega) (w3.heap.size + 1) (by simp) ?_; intro g2 cap2 w5 hown3 hgrow3 hat3 hlt3; have HO5 := hide hown3; have HG5 := hide hgrow3; clear hown3 hgrow3 hat3)
            refine ⟨⟨k + 1, if c = 1 + l.length then some ⟨b5, o5, none⟩ else some ⟨b5, o5 + (1 + l.length), none⟩, c - (1 + l.length), ls ++ [l], some ⟨g2, 0, none⟩, cap2, rs.drop (1 + l.length), by omega, by go_num, rfl, by rw [List.length_drop], unhide HSY, by rw [List.length_drop]; omega, ?_, ?_, ?_⟩, by simp [intOf]; omega⟩
            · refine ⟨fun i t hi => ?_⟩
              rw [List.getElem?_drop] at hi
              obtain ⟨b6, o6, e6, h1, hc6, h2⟩ := (unhide HRS).at_ _ t hi
              cases e6
              have := (List.getElem?_eq_some_iff.1 hi).1
              rw [if_neg (by omega)]
              exact ⟨b5, _, rfl, h1, by rw [show o5 + (1 + l.length) + i = o5 + (1 + l.length + i) by omega]; exact hc6, h2⟩
            · refine Lg.BB.snoc (W := w3.alloc (Obj.cells #[.slice a4 l.length c4] 34)) (v := .slice av k cv) (svs := svs) (a := a4) (k := c4) (by rw [e1]; exact unhide HOA) (fun j y hj => ?_) ((unhide HL4).below ((Below.refl w3.heap.size w3).alloc (Nat.le_refl _) _)) (unhide HG5) (by rw [e1]; exact unhide HO5)
              obtain ⟨a7, k7, h7, h8⟩ := (unhide HROWS) j y hj
              exact ⟨a7, k7, h7, h8.below ((Below.refl w3.heap.size w3).alloc (Nat.le_refl _) _)⟩
            · exact ((unhide HB3).alloc hz3 _).grown (unhide HG5) (by simp; omega) (fun q hq => ((unhide HLT) q hq).1)
        · have hk1 : k = x.n0.toNat := by omega
          have HEQ := hide (show Lg.batchesOf (s :: r) = some (ls, rs) by rw [unhide HBA, ← hk1, unhide HEV])
          clear hk1
          go_wp2_with fail
          refine bodyPost_ret (v := .tuple #[.slice av k cv, .slice a rs.length c, .bool true]) (by simp [results, Try.results40, go_sem]) rfl ⟨?_, unhide HBE2⟩
          rw [unhide HEQ]
          exact ⟨_, a, c, rfl, ⟨av, cv, by rw [e1]⟩, unhide HBB, hkc⟩
end Go.Proofs.Ytpabpcojiaklfaa
