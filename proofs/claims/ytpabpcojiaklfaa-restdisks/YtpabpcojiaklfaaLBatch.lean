/-
  The contract of log's batchAt. By the verifier.
-/
import Derived.Test.YtpabpcojiaklfaaLNums
import Derived.Deep.DeepCutAuto
namespace Go.Proofs.Ytpabpcojiaklfaa
open Go.RowKit
set_option linter.unusedVariables false

/-- The numbers of a sector that has a mark. -/
def Lg.nm (m : List Nat) (s : ByteArray) : Option Ev := if (Cl.bts s).take 8 = m then some (Lg.nums (Cl.bts s)) else none
/-- The events of sectors. -/
def Lg.evOf : List ByteArray → Option (List Ev)
  | [] => some []
  | s :: r => (Lg.nm Lg.eventM s).bind fun e => (Lg.evOf r).map (e :: ·)
theorem Lg.evOf_snoc (s : ByteArray) : ∀ a : List ByteArray, Lg.evOf (a ++ [s]) = (Lg.evOf a).bind fun l => (Lg.nm Lg.eventM s).map fun e => l ++ [e]
  | [] => by
    show (Lg.nm Lg.eventM s).bind (fun e => (Lg.evOf []).map (e :: ·)) = _
    cases Lg.nm Lg.eventM s <;> rfl
  | x :: r => by
    show (Lg.nm Lg.eventM x).bind (fun e => (Lg.evOf (r ++ [s])).map (e :: ·)) = ((Lg.nm Lg.eventM x).bind fun e => (Lg.evOf r).map (e :: ·)).bind _
    rw [Lg.evOf_snoc s r]
    cases Lg.nm Lg.eventM x with
    | none => rfl
    | some e =>
      cases Lg.evOf r with
      | none => rfl
      | some l =>
        show ((Lg.nm Lg.eventM s).map fun e => l ++ [e]).map _ = _
        cases Lg.nm Lg.eventM s <;> rfl
theorem Lg.evOf_len : ∀ (a : List ByteArray) (l : List Ev), Lg.evOf a = some l → l.length = a.length
  | [], l, h => by cases h; rfl
  | x :: r, l, h => by
    have h' : (Lg.nm Lg.eventM x).bind (fun e => (Lg.evOf r).map (e :: ·)) = some l := h
    cases h1 : Lg.nm Lg.eventM x with
    | none => rw [h1] at h'; cases h'
    | some e =>
      rw [h1] at h'
      cases h2 : Lg.evOf r with
      | none => rw [h2] at h'; cases h'
      | some k =>
        rw [h2] at h'
        cases h'
        simp [Lg.evOf_len r k h2]
theorem Lg.evOf_none (a b : List ByteArray) (h : Lg.evOf a = none) : Lg.evOf (a ++ b) = none := by
  induction a with
  | nil => cases h
  | cons x r ih =>
    have h' : (Lg.nm Lg.eventM x).bind (fun e => (Lg.evOf r).map (e :: ·)) = none := h
    show (Lg.nm Lg.eventM x).bind (fun e => (Lg.evOf (r ++ b)).map (e :: ·)) = none
    cases h1 : Lg.nm Lg.eventM x with
    | none => rfl
    | some e =>
      rw [h1] at h'
      cases h2 : Lg.evOf r with
      | none => rw [ih h2]; rfl
      | some k => rw [h2] at h'; cases h'
/-- A batch that sectors begin with. -/
def Lg.batchAt : List ByteArray → Option (List Ev)
  | [] => none
  | s :: r => match Lg.nm Lg.batchM s with
    | none => none
    | some e => if e.n0 < 0 ∨ (r.length : Int) < e.n0 then none else Lg.evOf (r.take e.n0.toNat)

/-- numbers, whatever the sector. -/
theorem numbers_any (m : List Nat) (s : ByteArray) (w : World) (hm : ∀ b ∈ m, b < 256) (hml : m.length = 8) (hs : s.size = 32) :
    Calls Try.prog 71 #[.string (Cl.str m), .string s] w fun r w' => r = .returned (.tuple #[((Lg.nm m s).getD Lg.zero).agg, .bool (Lg.nm m s).isSome]) ∧ Below w.heap.size w w' := by
  have h := Cl.str_bts s
  by_cases hq : (Cl.bts s).take 8 = m
  · have hn : Lg.nm m s = some (Lg.nums (Cl.bts s)) := by unfold Lg.nm; rw [if_pos hq]
    rw [hn]
    have := numbers_yes m (Cl.bts s) w hm hml (by rw [Cl.bts_len, hs]) (Cl.bts_byte s) hq
    rw [h] at this
    exact this
  · have hn : Lg.nm m s = none := by unfold Lg.nm; rw [if_neg hq]
    rw [hn]
    have := numbers_no m (Cl.bts s) w hm hml (by rw [Cl.bts_len, hs]) (Cl.bts_byte s) hq
    rw [h] at this
    exact this

/-- Events that lie in a block of their own. -/
def Lg.lies (B : Nat) (W : World) (a : Option Addr) (l : List Ev) : Prop :=
  l = [] ∨ ∃ (g : Nat) (cur : Array Value), (a = some ⟨g, 0, none⟩ ∧ B ≤ g) ∧ W.heap[g]? = some (.cells cur 70 (0, 0)) ∧ ∀ (j : Nat) (v : Value), (Cl.evC l)[j]? = some v → cur[j]? = some v
theorem Lg.lies.below {B : Nat} {W W' : World} {a : Option Addr} {l : List Ev} (h : Lg.lies B W a l) (hb : Below W.heap.size W W') : Lg.lies B W' a l := by
  rcases h with h | ⟨g, cur, h1, h2, h3⟩
  · exact Or.inl h
  · exact Or.inr ⟨g, cur, h1, (hb.block g (Array.getElem?_eq_some_iff.1 h2).1).trans h2, h3⟩
theorem Lg.lies.of {W : World} {B k cap : Nat} {a : Option Addr} {l : List Ev} (hl : l.length = k) (h : W.ownsRow B 70 6 (.slice a k cap) k (Cl.evC l)) : Lg.lies B W a l := by
  rcases h.2 with ⟨hv, h0⟩ | ⟨g, cap', cur, hv, hbg, hh, _, _, _, ht⟩
  · exact Or.inl (List.eq_nil_of_length_eq_zero (by omega))
  · cases hv
    refine Or.inr ⟨g, cur, ⟨rfl, hbg⟩, hh, fun j v hj => ?_⟩
    have hlt := (List.getElem?_eq_some_iff.1 hj).1
    rw [Cl.evC_length] at hlt
    have : (cur.toList.take (k * 6))[j]? = some v := by rw [ht]; exact hj
    rw [List.getElem?_take, if_pos (by omega)] at this
    simpa using this
theorem Lg.lies.down {B B' : Nat} {W : World} {a : Option Addr} {l : List Ev} (h : Lg.lies B W a l) (hB : B' ≤ B) : Lg.lies B' W a l := by
  rcases h with h | ⟨g, cur, ⟨h1, h0⟩, h2, h3⟩
  · exact Or.inl h
  · exact Or.inr ⟨g, cur, ⟨h1, by omega⟩, h2, h3⟩
theorem Lg.lies.re {B : Nat} {W : World} {a : Option Addr} {l : List Ev} (h : Lg.lies B W a l) : Cl.RE W a l := by
  rcases h with rfl | ⟨g, cur, ⟨rfl, _⟩, h2, h3⟩
  · exact Cl.RE.nil _ _
  · refine ⟨fun i x hi => ?_⟩
    have c : ∀ j v, x.cells[j]? = some v → W.cell? ⟨g, 0 + i * 6 + j, none⟩ = some v := fun j v hv => by
      rw [Nat.zero_add]
      dsimp only [World.cell?]
      rw [h2]
      exact h3 _ _ (Cl.evC_at l i x j v hi hv)
    have c0 := c 0 _ rfl
    exact ⟨g, 0, rfl, World.block_lt_of_cell? W _ c0, by simpa using c0, c 1 _ rfl, c 2 _ rfl, c 3 _ rfl, c 4 _ rfl, c 5 _ rfl⟩

/-- What batchAt answers. -/
def Lg.batchV (B : Nat) (w' : World) (e : Ending) : Option (List Ev) → Prop
  | some l => ∃ a c, e = .returned (.tuple #[.slice a l.length c, .bool true]) ∧ Lg.lies B w' a l ∧ l.length ≤ c
  | none => e = .returned (.tuple #[.slice none 0 0, .bool false])

set_option maxRecDepth 100000 in
set_option maxHeartbeats 3200000 in
theorem batchAt_any (ks : List ByteArray) (ad : Option Addr) (cap : Nat) (w : World) (hr : Dk.RK w ad ks) (hl : ks.length ≤ 600) (hcap : ks.length ≤ cap) (h32 : ∀ s ∈ ks, s.size = 32) :
    Calls Try.prog 72 #[.slice ad ks.length cap] w fun e w' => Lg.batchV w.heap.size w' e (Lg.batchAt ks) ∧ Below w.heap.size w w' := by
  have HR := hide hr
  have H32 := hide h32
  clear hr h32
  cases ks with
  | nil =>
    go_enter Try.func72, Try.ntmps72
    go_wp2_with fail
    refine bodyPost_ret (v := .tuple #[.slice none 0 0, .bool false]) (by simp [results, Try.results72, go_sem]) rfl ⟨rfl, Below.refl _ _⟩
  | cons s r =>
    obtain ⟨b, o, rfl, hb, c0, _⟩ := (unhide HR).at_ 0 s rfl
    rw [Nat.add_zero] at c0
    have hs := (unhide H32) s List.mem_cons_self
    have gl : (((s :: r).length : Int) == 0) = false := by rw [beq_eq_false_iff_ne]; simp only [List.length_cons]; omega
    have hl1 : (0 : Int) < ((s :: r).length : Int) := by simp only [List.length_cons]; omega
    have hlr : (s :: r).length = r.length + 1 := by simp
    generalize hKL : (s :: r).length = KL at *
    go_enter Try.func72, Try.ntmps72
    go_wp2_with fail
    rw [← Lg.batchM_str]
    refine (numbers_any Lg.batchM s _ (by decide) rfl hs).mono ?_
    rintro e w1 ⟨rfl, hb1⟩
    have HB1 := hide hb1
    have hz1 := hb1.size
    clear hb1
    cases hn : Lg.nm Lg.batchM s with
    | none =>
      have HBA := hide (show Lg.batchAt (s :: r) = none by show (match Lg.nm Lg.batchM s with | none => _ | some e => _) = _; rw [hn])
      clear hn
      simp only [Option.getD, Option.isSome, Lg.zero]
      unfold Ev.agg
      go_wp2_with fail
      exact bodyPost_ret (v := .tuple #[.slice none 0 0, .bool false]) (by simp [results, Try.results72, go_sem]) rfl ⟨by rw [unhide HBA]; rfl, (unhide HB1).alloc hz1 _⟩
    | some x =>
      have HBA := hide (show Lg.batchAt (s :: r) = if x.n0 < 0 ∨ (r.length : Int) < x.n0 then none else Lg.evOf (r.take x.n0.toNat) by show (match Lg.nm Lg.batchM s with | none => _ | some e => _) = _; rw [hn])
      clear hn
      simp only [Option.getD, Option.isSome]
      unfold Ev.agg
      by_cases h0 : x.n0 < 0
      · have HBN := hide (show Lg.batchAt (s :: r) = none by rw [unhide HBA, if_pos (Or.inl h0)])
        go_wp2_with fail
        exact bodyPost_ret (v := .tuple #[.slice none 0 0, .bool false]) (by simp [results, Try.results72, go_sem]) rfl ⟨by rw [unhide HBN]; rfl, (unhide HB1).alloc hz1 _⟩
      by_cases h1 : (r.length : Int) < x.n0
      · have HBN := hide (show Lg.batchAt (s :: r) = none by rw [unhide HBA, if_pos (Or.inr h1)])
        go_wp2_with fail
        exact bodyPost_ret (v := .tuple #[.slice none 0 0, .bool false]) (by simp [results, Try.results72, go_sem]) rfl ⟨by rw [unhide HBN]; rfl, (unhide HB1).alloc hz1 _⟩
      obtain ⟨n, hn⟩ := Int.eq_ofNat_of_zero_le (show 0 ≤ x.n0 by omega)
      have HBE := hide (show Lg.batchAt (s :: r) = Lg.evOf (r.take n) by rw [unhide HBA, if_neg (by omega), hn]; rfl)
      clear HBA
      have hni : (0 : Int) ≤ x.n0 := by omega
      have hnr : n ≤ r.length := by omega
      have HRR := hide (show ∀ i t, r[i]? = some t → w.cell? ⟨b, o + 1 + i, none⟩ = some (.string t) ∧ t.size = 32 from fun i t hi => by
        obtain ⟨b2, o2, e2, _, hc2, _⟩ := (unhide HR).at_ (i + 1) t (by simpa using hi)
        cases e2
        exact ⟨by rw [show o + 1 + i = o + (i + 1) by omega]; exact hc2, (unhide H32) t (List.mem_cons_of_mem _ (List.mem_of_getElem? hi))⟩)
      have HBW := hide ((unhide HB1).alloc hz1 (Obj.cells #[.int .i64 x.n0, .int .i64 x.n1, .int .i64 x.n2, .int .i64 x.n3, .int .i64 x.n4, .int .i64 x.n5] 79))
      clear HR H32 c0 HB1
      go_upto_region 7 with fail
      go_cut [0, 40, 41, 42] (fun kv sv lv iv wx => ∃ (a' : Option Addr) (c' : Nat), kv = .slice (some ⟨b, o, none⟩) (r.length + 1) cap ∧ sv = .slice a' n c' ∧ lv = .int .i64 (n : Nat) ∧ iv = .int .i64 0 ∧ (∀ (i : Nat) (t : ByteArray), i < n → r[i]? = some t → ∃ b' o', a' = some ⟨b', o', none⟩ ∧ b' < w.heap.size ∧ w.cell? ⟨b', o' + i, none⟩ = some (.string t) ∧ t.size = 32) ∧ wx = w1.alloc (Obj.cells #[.int .i64 x.n0, .int .i64 x.n1, .int .i64 x.n2, .int .i64 x.n3, .int .i64 x.n4, .int .i64 x.n5] 79))
      case first =>
        by_cases hc1 : cap = 1
        · have hn0 : n = 0 := by omega
          have HC1 := hide hc1
          go_wp2_with fail
          go_meet
          case rel => exact ⟨_, _, by rw [unhide HC1], by rw [hn0], by rw [hn0]; rfl, rfl, fun i t hi => by omega, by rw [hn, hn0]; rfl⟩
        · have HC1 := hide hc1
          go_wp2_with fail
          go_meet
          case rel => exact ⟨_, _, rfl, rfl, rfl, rfl, fun i t hi hit => ⟨b, o + 1, rfl, hb, ((unhide HRR) i t hit).1, ((unhide HRR) i t hit).2⟩, by rw [hn]⟩
      case rest =>
        obtain ⟨a', c', rfl, rfl, rfl, rfl, hcs, rfl⟩ := hcut
        have HCS := hide hcs
        obtain ⟨i0, hi0, hz0, hz1', hz2⟩ := info_of Try.infoE
        have HI := hide hi0
        have HZ0 := hide hz0
        have HZ1 := hide hz1'
        have HZ2 := hide hz2
        clear hcs hi0 hz0 hz1' hz2 HRR
        go_wp2_with fail
        go_loopw [6, 42] (fun sv v wr => ∃ (k : Nat) (a : Option Addr) (c : Nat) (l : List Ev), k ≤ n ∧ v = .int .i64 (k : Nat) ∧ sv = .slice a k c ∧ Lg.evOf (r.take k) = some l ∧ k ≤ c ∧ wr.ownsRow w.heap.size 70 6 (.slice a k c) k (Cl.evC l) ∧ Below w.heap.size w wr) (fun _ v _ => n - (intOf v).toNat)
        case atStart => exact ⟨0, none, 0, [], by omega, rfl, rfl, rfl, by omega, World.ownsRow_nil _ _ _ _, by first | exact unhide HBW | (rw [← hn]; exact unhide HBW)⟩
        case round =>
          obtain ⟨k, a, c, l, hk, rfl, rfl, hev, hkc, how, hbe⟩ := hrel
          have HEV := hide hev
          have HOW := hide how
          have HBE2 := hide hbe
          have hz2 := hbe.size
          clear hev how hbe
          by_cases hkn : k < n
          · obtain ⟨t, ht⟩ : ∃ t, r[k]? = some t := ⟨r[k]'(by omega), List.getElem?_eq_getElem (by omega)⟩
            obtain ⟨b', o', rfl, hb', hc', ht32⟩ := (unhide HCS) k t hkn ht
            have c0 := ((unhide HBE2).cell (p := ⟨b', o' + k, none⟩) hb').trans hc'
            have hk1 : (0 : Int) ≤ (k : Int) := by omega
            have hk2 : (k : Int) < (n : Int) := by omega
            have HSN := hide (show Lg.evOf (r.take (k + 1)) = (Lg.nm Lg.eventM t).map fun e => l ++ [e] by rw [List.take_add_one, ht]; show Lg.evOf (r.take k ++ [t]) = _; rw [Lg.evOf_snoc, unhide HEV]; rfl)
            clear ht hc'
            go_wp2_with fail
            rw [← Lg.eventM_str]
            refine (numbers_any Lg.eventM t _ (by decide) rfl ht32).mono ?_
            rintro e w3 ⟨rfl, hb3⟩
            have HB3 := hide ((unhide HBE2).trans (hb3.mono hz2))
            have HO3 := hide (Cl.ow_below (unhide HOW) hb3)
            have hz3 := (unhide HB3).size
            clear hb3 c0
            cases hx : Lg.nm Lg.eventM t with
            | none =>
              have HNO := hide (show Lg.batchAt (s :: r) = none by
                have h1 := unhide HSN
                rw [hx] at h1
                have e := List.take_append_drop (k + 1) (r.take n)
                rw [List.take_take, Nat.min_eq_left (by omega)] at e
                rw [unhide HBE, ← e]
                exact Lg.evOf_none _ _ h1)
              clear hx
              simp only [Option.getD, Option.isSome, Lg.zero]
              unfold Ev.agg
              go_wp2_with fail
              exact bodyPost_ret (v := .tuple #[.slice none 0 0, .bool false]) (by simp [results, Try.results72, go_sem]) rfl ⟨by rw [unhide HNO]; rfl, (unhide HB3).alloc hz3 _⟩
            | some y =>
              have HSY := hide (show Lg.evOf (r.take (k + 1)) = some (l ++ [y]) by rw [unhide HSN, hx]; rfl)
              clear hx
              simp only [Option.getD, Option.isSome]
              unfold Ev.agg
              go_wp2_with fail
              refine (Event_any y _).mono ?_
              rintro e w4 ⟨rfl, hb4⟩
              have HB4 := hide ((unhide HB3).trans ((below_two hb4).mono hz3))
              have hz4 := (unhide HB4).size
              have HO4 := hide (Cl.ow_below (unhide HO3) (below_two hb4))
              have HOA := hide ((unhide HO4).alloc (Obj.cells #[.int .i64 y.n0, .int .i64 y.n1, .int .i64 y.n2, .int .i64 y.n3, .int .i64 y.n4, .int .i64 y.n5] 70))
              have HBK := hide (heap_alloc_new w4 (Obj.cells #[.int .i64 y.n0, .int .i64 y.n1, .int .i64 y.n2, .int .i64 y.n3, .int .i64 y.n4, .int .i64 y.n5] 70))
              have HLT := hide (show ∀ q, (Value.slice a k c).ownBlock = some q → w.heap.size ≤ q ∧ q < w4.heap.size from (unhide HO4).lt)
              clear hb4
              unfold Ev.agg
              go_wp2_with (at_builtin; refine wpList_append_lies _ (by rfl) _ _ _ (by rfl) w.heap.size 70 i0 _ 6 48 Try.underlying34 (unhide HI) (unhide HZ0) (unhide HZ1) (unhide HZ2) rfl (by omega) (.slice a k c) k (Cl.evC l) (by rfl) (unhide HOA) ⟨w4.heap.size, 0, none⟩ 1 1 y.cells (by rfl) (by rfl) (World.news_of_block (unhide HBK)) (by simp [Ev.cells, Value.oneCell']) (by omega) (by unfold maxLen; omega) (by omega) (by simp; omega) (w4.heap.size + 1) (by simp) ?_; intro g2 cap2 w5 hown3 hgrow3 hat3 hlt3; have HO5 := hide hown3; have HG5 := hide hgrow3; clear hown3 hgrow3 hat3)
              have hkc2 : k + 1 ≤ cap2 := by
                obtain ⟨g9, cap9, hv9, _, _⟩ := (unhide HO5).form (by omega)
                rcases (unhide HO5).2 with ⟨hv, _⟩ | ⟨q9, c9, cur9, hv, _, _, hle, _⟩
                · cases hv
                · cases hv; exact hle
              refine ⟨⟨k + 1, some ⟨g2, 0, none⟩, cap2, l ++ [y], by omega, by go_num, rfl, unhide HSY, hkc2, ?_, ?_⟩, by simp [intOf]; omega⟩
              · rw [Cl.evC_snoc]
                exact unhide HO5
              · exact ((unhide HB4).alloc (by omega) _).grown (unhide HG5) (by simp; omega) (fun q hq => ((unhide HLT) q hq).1)
          · have hk2 : ¬ (k : Int) < (n : Int) := by omega
            have hkn2 : k = n := by omega
            subst hkn2
            have hll : l.length = k := by
              have := Lg.evOf_len _ _ (unhide HEV)
              rw [List.length_take] at this
              omega
            have HRE := hide (Lg.lies.of hll (unhide HOW))
            go_wp2_with fail
            refine bodyPost_ret (v := .tuple #[.slice a k c, .bool true]) (by simp [results, Try.results72, go_sem]) rfl ⟨?_, unhide HBE2⟩
            rw [unhide HBE, unhide HEV]
            exact ⟨a, c, by rw [hll], unhide HRE, by omega⟩
end Go.Proofs.Ytpabpcojiaklfaa
