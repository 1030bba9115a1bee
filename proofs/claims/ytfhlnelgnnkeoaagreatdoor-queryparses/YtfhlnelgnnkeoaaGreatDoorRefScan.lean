/-
  The contract of ScanOf of the document's answer. By the verifier.
-/
import Derived.Test.YtfhlnelgnnkeoaaGreatDoorRefTok
import Derived.Test.YtfhlnelgnnkeoaaGreatDoorScan
namespace Go.Proofs.YtfhlnelgnnkeoaaGreatDoor
open Go.RowKit
set_option linter.unusedVariables false

theorem Tk.extract_first (s : ByteArray) (i n : Nat) (hi : i < s.size) (h : 0 < (s.extract i (i + n)).size) : (s.extract i (i + n))[0] = s[i] := by
  rw [ByteArray.getElem_extract]; simp

/-- Kinds and errors of what begins at a place. -/
theorem Tk.bad_kinds (c : Int) (r : List Int) :
    (Tk.tokK (c :: r) = 0 ∧ Tk.bad (c :: r) = 1) ∨
    (Tk.tokK (c :: r) = 1 ∧ 12 < Tk.tokN (c :: r) ∧ Tk.bad (c :: r) = 2) ∨ (Tk.tokK (c :: r) = 1 ∧ Tk.tokN (c :: r) ≤ 12 ∧ Tk.bad (c :: r) = 0) ∨
    (Tk.tokK (c :: r) = 2 ∧ 7 < Tk.tokN (c :: r) ∧ Tk.bad (c :: r) = 2) ∨ (Tk.tokK (c :: r) = 2 ∧ Tk.tokN (c :: r) ≤ 7 ∧ 1 < Tk.tokN (c :: r) ∧ (c == 48) = true ∧ Tk.bad (c :: r) = 1) ∨
    (Tk.tokK (c :: r) = 2 ∧ Tk.tokN (c :: r) ≤ 7 ∧ 1 < Tk.tokN (c :: r) ∧ (c == 48) = false ∧ Tk.bad (c :: r) = 0) ∨ (Tk.tokK (c :: r) = 2 ∧ Tk.tokN (c :: r) ≤ 1 ∧ Tk.bad (c :: r) = 0) ∨
    (Tk.tokK (c :: r) = 3 ∧ Tk.bad (c :: r) = 0) := by
  have hK := Tk.tokK_cons c r
  have hN := Tk.tokN_cons c r
  have hB := Tk.bad_cons c r
  cases h1 : Tk.isL c
  · rw [h1] at hK hN hB
    cases h2 : Tk.isD c
    · rw [h2] at hK hN hB
      cases h3 : (c == 61 && r.head? == some 61)
      · rw [h3] at hK hN hB
        cases h4 : Tk.isSign c
        · rw [h4] at hK hN hB
          exact Or.inl ⟨hK, hB⟩
        · rw [h4] at hK hN hB
          exact Or.inr (Or.inr (Or.inr (Or.inr (Or.inr (Or.inr (Or.inr ⟨hK, hB⟩))))))
      · rw [h3] at hK hN hB
        exact Or.inr (Or.inr (Or.inr (Or.inr (Or.inr (Or.inr (Or.inr ⟨hK, hB⟩))))))
    · rw [h2] at hK hN hB
      have hN' : Tk.tokN (c :: r) = Tk.run Tk.isD r + 1 := hN
      have hB' : Tk.bad (c :: r) = if 7 < Tk.run Tk.isD r + 1 then 2 else if c == 48 && decide (1 < Tk.run Tk.isD r + 1) then 1 else 0 := hB
      by_cases h7 : 7 < Tk.run Tk.isD r + 1
      · rw [if_pos h7] at hB'; exact Or.inr (Or.inr (Or.inr (Or.inl ⟨hK, by omega, hB'⟩)))
      · rw [if_neg h7] at hB'
        by_cases hn : 1 < Tk.run Tk.isD r + 1
        · rw [decide_eq_true hn] at hB'
          cases h48 : (c == 48)
          · rw [h48] at hB'; exact Or.inr (Or.inr (Or.inr (Or.inr (Or.inr (Or.inl ⟨hK, by omega, by omega, rfl, hB'⟩)))))
          · rw [h48] at hB'; exact Or.inr (Or.inr (Or.inr (Or.inr (Or.inl ⟨hK, by omega, by omega, rfl, hB'⟩))))
        · rw [decide_eq_false hn, Bool.and_false] at hB'
          exact Or.inr (Or.inr (Or.inr (Or.inr (Or.inr (Or.inr (Or.inl ⟨hK, by omega, hB'⟩))))))
  · rw [h1] at hK hN hB
    have hN' : Tk.tokN (c :: r) = Tk.run Tk.isLD r + 1 := hN
    have hB' : Tk.bad (c :: r) = if 12 < Tk.run Tk.isLD r + 1 then 2 else 0 := hB
    by_cases h12 : 12 < Tk.run Tk.isLD r + 1
    · rw [if_pos h12] at hB'; exact Or.inr (Or.inl ⟨hK, by omega, hB'⟩)
    · rw [if_neg h12] at hB'; exact Or.inr (Or.inr (Or.inl ⟨hK, by omega, hB'⟩))

theorem ret_three {a a' : Value} {b b' c c' : Int} (h1 : a = a') (h2 : b = b') (h3 : c = c') : Ending.returned (.tuple #[a, .int .i64 b, .int .i64 c]) = .returned (.tuple #[a', .int .i64 b', .int .i64 c']) := by rw [h1, h2, h3]

set_option maxRecDepth 100000 in
set_option maxHeartbeats 3200000 in
theorem ScanOf_any (s : ByteArray) (w : World) (hs : s.size ≤ maxLen) :
    Calls Tryz.prog 33 #[.string s] w fun e w' => ∃ v, e = .returned (.tuple #[v, .int .i64 ((Tk.scanR s).2.1 : Int), .int .i64 ((Tk.scanR s).2.2 : Int)]) ∧ w'.ownsRow w.heap.size 80 3 v (Tk.scanR s).1.length (Tk.cells s (Tk.scanR s).1) ∧ Below w.heap.size w w' := by
  have HML := hide hs
  unfold maxLen at hs
  by_cases h : 6000 < s.size
  · have hR : Tk.scanR s = ([], 0, 2) := by simp [Tk.scanR, h]
    rw [hR]
    clear hR
    go_enter Tryz.func33, Tryz.ntmps33
    go_wp2_with fail
    go_ret3
    exact ⟨_, rfl, World.ownsRow_nil _ _ _ _, Below.refl _ _⟩
  · have hR : Tk.scl (Tk.B s) 0 0 false [] = Tk.scanR s := by simp [Tk.scanR, h]
    generalize Tk.scanR s = R at *
    have HR := hide hR
    have h6 : s.size ≤ 6000 := by omega
    clear hR hs h
    go_enter Tryz.func33, Tryz.ntmps33
    go_wp2_with fail
    go_loopw [5, 6, 7] (fun ov nv iv wr => ∃ (k : Nat) (acc : List (Nat × Nat × Nat)) (ad : Option Addr) (cap : Nat) (note : Bool), k ≤ s.size ∧ iv = .int .i64 k ∧ nv = .bool note ∧ ov = .slice ad acc.length cap ∧ acc.length ≤ k ∧
      Tk.scl ((Tk.B s).drop k) k 0 note acc = R ∧ wr.ownsRow w.heap.size 80 3 (.slice ad acc.length cap) acc.length (Tk.cells s acc) ∧ Below w.heap.size w wr) (fun _ _ iv _ => s.size - (intOf iv).toNat)
    case atStart => exact ⟨0, [], none, 0, false, Nat.zero_le _, rfl, rfl, rfl, by simp, unhide HR, World.ownsRow_nil _ _ _ _, Below.refl _ _⟩
    case round =>
      obtain ⟨k, acc, ad, cap, note, hk, rfl, rfl, rfl, hacc, hscl, hown, hbe⟩ := hrel
      have HSC := hide hscl
      have HO := hide hown
      have HB := hide hbe
      have hz := hbe.size
      clear hscl hown hbe HR
      by_cases hlt : k < s.size
      · have hd := hide (Tk.B_drop s k hlt)
        have hk0 : (0 : Int) ≤ (k : Int) := by omega
        have hk1 : (k : Int) < (s.size : Int) := by omega
        cases note
        · cases h35 : ((s[k].toNat : Int) == 35)
          · cases hbl : ((s[k].toNat : Int) == 32 || (s[k].toNat : Int) == 9 || (s[k].toNat : Int) == 10)
            · have hf : Tk.free (s[k].toNat : Int) = true := by unfold Tk.free; rw [hbl, h35]; rfl
              rw [Bool.or_eq_false_iff, Bool.or_eq_false_iff] at hbl
              obtain ⟨⟨h32, h9⟩, h10⟩ := hbl
              have hkd := Tk.bad_kinds (s[k].toNat : Int) ((Tk.B s).drop (k + 1))
              have hle := Tk.tokN_le ((Tk.B s).drop k)
              rw [List.length_drop, Tk.B_length] at hle
              have hsb := Tk.scl_bad (s[k].toNat : Int) ((Tk.B s).drop (k + 1)) k acc hf
              have hso := Tk.scl_tok (s[k].toNat : Int) ((Tk.B s).drop (k + 1)) k acc hf
              have hpos := Tk.tokN_pos (s[k].toNat : Int) ((Tk.B s).drop (k + 1))
              rw [← unhide hd] at hkd hsb hso hpos
              rw [unhide HSC, List.drop_drop] at hso
              rw [unhide HSC] at hsb
              have HF : Hid (∀ n h, (s.extract k (k + n))[0]'h = s[k]) := fun n h => Tk.extract_first s k n hlt h
              go_wp2_with fail
              refine (refTok_any s k _ (unhide HML) hlt).mono ?_
              rintro e w1 ⟨rfl, rfl⟩
              generalize Tk.tokK ((Tk.B s).drop k) = K at *
              generalize Tk.tokN ((Tk.B s).drop k) = n at *
              generalize Tk.bad ((Tk.B s).drop k) = bd at *
              have HSB := hide hsb
              have HSO := hide hso
              have HPO := hide hpos
              clear hsb hso hpos HSC hf
              rcases hkd with ⟨rfl, rfl⟩ | ⟨rfl, g1, rfl⟩ | ⟨rfl, g1, rfl⟩ | ⟨rfl, g1, rfl⟩ | ⟨rfl, g1, g2, g3, rfl⟩ | ⟨rfl, g1, g2, g3, rfl⟩ | ⟨rfl, g1, rfl⟩ | ⟨rfl, rfl⟩
              · have hR := (unhide HSB) (by decide)
                subst hR
                go_wp2_with fail
                go_ret3
                exact ⟨_, rfl, World.ownsRow_nil _ _ _ _, unhide HB⟩
              · have hR := (unhide HSB) (by decide)
                subst hR
                go_wp2_with fail
                go_ret3
                exact ⟨_, rfl, World.ownsRow_nil _ _ _ _, unhide HB⟩
              · have hpo := (unhide HPO) rfl
                have hR := (unhide HSO) rfl
                have HRR := hide hR
                have hn1 : k + n ≤ s.size := by omega
                have hex := Tk.extract_size s k n hn1
                clear hR
                obtain ⟨i0, hi0, hz0, hz1, hz2⟩ := info_parts Tryz.info34
                have HOW := hide ((unhide HO).alloc (.cells #[.int .i64 (1 : Int), .int .i64 (k : Int), .string (s.extract k (k + n))] 80))
                have HBK := hide (heap_alloc_new w1 (.cells #[.int .i64 (1 : Int), .int .i64 (k : Int), .string (s.extract k (k + n))] 80))
                have HI0 := hide hi0
                clear hi0
                go_wp2_with (at_builtin; refine wpList_append_lies _ (by rfl) _ _ _ (by rfl) w.heap.size 80 i0 _ 3 32 Tryz.underlying52 (unhide HI0) hz0 hz1 hz2 rfl (by omega) (.slice ad acc.length cap) acc.length (Tk.cells s acc) (by rfl) (unhide HOW) ⟨w1.heap.size, 0, none⟩ 1 1 [.int .i64 (1 : Int), .int .i64 (k : Int), .string (s.extract k (k + n))] (by rfl) (by rfl) (World.news_of_block (unhide HBK)) (by simp [Value.oneCell']) (by omega) (by unfold maxLen; omega) (by omega) (by simp; omega) (w1.heap.size + 1) (by simp) ?_; intro g cap' w2 hown1 hgrow hat hlt1; have HO1 := hide hown1; have HG1 := hide hgrow; clear hown1 hgrow hat)
                have hl1 : (acc ++ [(1, k, n)]).length = acc.length + 1 := by simp
                have b3 := ((unhide HB).alloc (by omega) _).grown (unhide HG1) (by simp; omega) (fun q hq => ((unhide HO).lt q hq).1)
                refine ⟨⟨k + n, acc ++ [(1, k, n)], some ⟨g, 0, none⟩, cap', false, hn1, by go_num, rfl, by rw [hl1], by rw [hl1]; omega, (unhide HRR).symm, ?_, b3⟩, by simp [intOf]; omega⟩
                rw [hl1, Tk.cells_snoc]
                exact unhide HO1
              · have hR := (unhide HSB) (by decide)
                subst hR
                go_wp2_with fail
                go_ret3
                exact ⟨_, rfl, World.ownsRow_nil _ _ _ _, unhide HB⟩
              · have hR := (unhide HSB) (by decide)
                subst hR
                have hn1 : k + n ≤ s.size := by omega
                have hex := Tk.extract_size s k n hn1
                have hq : ∀ h, ((((s.extract k (k + n))[0]'h).toNat : Int) == 48) = true := fun h => by rw [(unhide HF) n h]; exact g3
                go_wp2_with fail
                go_ret3
                exact ⟨_, rfl, World.ownsRow_nil _ _ _ _, unhide HB⟩
              · have hpo := (unhide HPO) rfl
                have hR := (unhide HSO) rfl
                have HRR := hide hR
                have hn1 : k + n ≤ s.size := by omega
                have hex := Tk.extract_size s k n hn1
                clear hR
                have hq : ∀ h, ((((s.extract k (k + n))[0]'h).toNat : Int) == 48) = false := fun h => by rw [(unhide HF) n h]; exact g3
                obtain ⟨i0, hi0, hz0, hz1, hz2⟩ := info_parts Tryz.info34
                have HOW := hide ((unhide HO).alloc (.cells #[.int .i64 (2 : Int), .int .i64 (k : Int), .string (s.extract k (k + n))] 80))
                have HBK := hide (heap_alloc_new w1 (.cells #[.int .i64 (2 : Int), .int .i64 (k : Int), .string (s.extract k (k + n))] 80))
                have HI0 := hide hi0
                clear hi0
                go_wp2_with (at_builtin; refine wpList_append_lies _ (by rfl) _ _ _ (by rfl) w.heap.size 80 i0 _ 3 32 Tryz.underlying52 (unhide HI0) hz0 hz1 hz2 rfl (by omega) (.slice ad acc.length cap) acc.length (Tk.cells s acc) (by rfl) (unhide HOW) ⟨w1.heap.size, 0, none⟩ 1 1 [.int .i64 (2 : Int), .int .i64 (k : Int), .string (s.extract k (k + n))] (by rfl) (by rfl) (World.news_of_block (unhide HBK)) (by simp [Value.oneCell']) (by omega) (by unfold maxLen; omega) (by omega) (by simp; omega) (w1.heap.size + 1) (by simp) ?_; intro g cap' w2 hown1 hgrow hat hlt1; have HO1 := hide hown1; have HG1 := hide hgrow; clear hown1 hgrow hat)
                have hl1 : (acc ++ [(2, k, n)]).length = acc.length + 1 := by simp
                have b3 := ((unhide HB).alloc (by omega) _).grown (unhide HG1) (by simp; omega) (fun q hq => ((unhide HO).lt q hq).1)
                refine ⟨⟨k + n, acc ++ [(2, k, n)], some ⟨g, 0, none⟩, cap', false, hn1, by go_num, rfl, by rw [hl1], by rw [hl1]; omega, (unhide HRR).symm, ?_, b3⟩, by simp [intOf]; omega⟩
                rw [hl1, Tk.cells_snoc]
                exact unhide HO1
              · have hpo := (unhide HPO) rfl
                have hR := (unhide HSO) rfl
                have HRR := hide hR
                have hn1 : k + n ≤ s.size := by omega
                have hex := Tk.extract_size s k n hn1
                clear hR
                obtain ⟨i0, hi0, hz0, hz1, hz2⟩ := info_parts Tryz.info34
                have HOW := hide ((unhide HO).alloc (.cells #[.int .i64 (2 : Int), .int .i64 (k : Int), .string (s.extract k (k + n))] 80))
                have HBK := hide (heap_alloc_new w1 (.cells #[.int .i64 (2 : Int), .int .i64 (k : Int), .string (s.extract k (k + n))] 80))
                have HI0 := hide hi0
                clear hi0
                go_wp2_with (at_builtin; refine wpList_append_lies _ (by rfl) _ _ _ (by rfl) w.heap.size 80 i0 _ 3 32 Tryz.underlying52 (unhide HI0) hz0 hz1 hz2 rfl (by omega) (.slice ad acc.length cap) acc.length (Tk.cells s acc) (by rfl) (unhide HOW) ⟨w1.heap.size, 0, none⟩ 1 1 [.int .i64 (2 : Int), .int .i64 (k : Int), .string (s.extract k (k + n))] (by rfl) (by rfl) (World.news_of_block (unhide HBK)) (by simp [Value.oneCell']) (by omega) (by unfold maxLen; omega) (by omega) (by simp; omega) (w1.heap.size + 1) (by simp) ?_; intro g cap' w2 hown1 hgrow hat hlt1; have HO1 := hide hown1; have HG1 := hide hgrow; clear hown1 hgrow hat)
                have hl1 : (acc ++ [(2, k, n)]).length = acc.length + 1 := by simp
                have b3 := ((unhide HB).alloc (by omega) _).grown (unhide HG1) (by simp; omega) (fun q hq => ((unhide HO).lt q hq).1)
                refine ⟨⟨k + n, acc ++ [(2, k, n)], some ⟨g, 0, none⟩, cap', false, hn1, by go_num, rfl, by rw [hl1], by rw [hl1]; omega, (unhide HRR).symm, ?_, b3⟩, by simp [intOf]; omega⟩
                rw [hl1, Tk.cells_snoc]
                exact unhide HO1
              · have hpo := (unhide HPO) rfl
                have hR := (unhide HSO) rfl
                have HRR := hide hR
                have hn1 : k + n ≤ s.size := by omega
                have hex := Tk.extract_size s k n hn1
                clear hR
                obtain ⟨i0, hi0, hz0, hz1, hz2⟩ := info_parts Tryz.info34
                have HOW := hide ((unhide HO).alloc (.cells #[.int .i64 (3 : Int), .int .i64 (k : Int), .string (s.extract k (k + n))] 80))
                have HBK := hide (heap_alloc_new w1 (.cells #[.int .i64 (3 : Int), .int .i64 (k : Int), .string (s.extract k (k + n))] 80))
                have HI0 := hide hi0
                clear hi0
                go_wp2_with (at_builtin; refine wpList_append_lies _ (by rfl) _ _ _ (by rfl) w.heap.size 80 i0 _ 3 32 Tryz.underlying52 (unhide HI0) hz0 hz1 hz2 rfl (by omega) (.slice ad acc.length cap) acc.length (Tk.cells s acc) (by rfl) (unhide HOW) ⟨w1.heap.size, 0, none⟩ 1 1 [.int .i64 (3 : Int), .int .i64 (k : Int), .string (s.extract k (k + n))] (by rfl) (by rfl) (World.news_of_block (unhide HBK)) (by simp [Value.oneCell']) (by omega) (by unfold maxLen; omega) (by omega) (by simp; omega) (w1.heap.size + 1) (by simp) ?_; intro g cap' w2 hown1 hgrow hat hlt1; have HO1 := hide hown1; have HG1 := hide hgrow; clear hown1 hgrow hat)
                have hl1 : (acc ++ [(3, k, n)]).length = acc.length + 1 := by simp
                have b3 := ((unhide HB).alloc (by omega) _).grown (unhide HG1) (by simp; omega) (fun q hq => ((unhide HO).lt q hq).1)
                refine ⟨⟨k + n, acc ++ [(3, k, n)], some ⟨g, 0, none⟩, cap', false, hn1, by go_num, rfl, by rw [hl1], by rw [hl1]; omega, (unhide HRR).symm, ?_, b3⟩, by simp [intOf]; omega⟩
                rw [hl1, Tk.cells_snoc]
                exact unhide HO1
            · have hst : Hid (Tk.scl ((Tk.B s).drop (k + 1)) (k + 1) 0 false acc = R) := by
                have a := unhide HSC; rw [unhide hd, Tk.scl_blank _ _ _ _ h35 hbl] at a; exact a
              clear HSC
              cases h32 : ((s[k].toNat : Int) == 32)
              · cases h9 : ((s[k].toNat : Int) == 9)
                · have h10 : ((s[k].toNat : Int) == 10) = true := by rw [h32, h9] at hbl; exact hbl
                  clear hbl
                  go_wp2_with fail
                  exact ⟨⟨k + 1, acc, ad, cap, _, by omega, by go_num, rfl, rfl, by omega, unhide hst, unhide HO, unhide HB⟩, by simp [intOf]; omega⟩
                · clear hbl
                  go_wp2_with fail
                  exact ⟨⟨k + 1, acc, ad, cap, _, by omega, by go_num, rfl, rfl, by omega, unhide hst, unhide HO, unhide HB⟩, by simp [intOf]; omega⟩
              · clear hbl
                go_wp2_with fail
                exact ⟨⟨k + 1, acc, ad, cap, _, by omega, by go_num, rfl, rfl, by omega, unhide hst, unhide HO, unhide HB⟩, by simp [intOf]; omega⟩
          · have hst : Hid (Tk.scl ((Tk.B s).drop (k + 1)) (k + 1) 0 (!((s[k].toNat : Int) == 10)) acc = R) := by
              have a := unhide HSC; rw [unhide hd, Tk.scl_hash _ _ _ _ _ h35] at a; exact a
            clear HSC
            go_wp2_with fail
            exact ⟨⟨k + 1, acc, ad, cap, _, by omega, by go_num, rfl, rfl, by omega, unhide hst, unhide HO, unhide HB⟩, by simp [intOf]; omega⟩
        · have hst : Hid (Tk.scl ((Tk.B s).drop (k + 1)) (k + 1) 0 (!((s[k].toNat : Int) == 10)) acc = R) := by
            have a := unhide HSC; rw [unhide hd, Tk.scl_note] at a; exact a
          clear HSC
          go_wp2_with fail
          exact ⟨⟨k + 1, acc, ad, cap, _, by omega, by go_num, rfl, rfl, by omega, unhide hst, unhide HO, unhide HB⟩, by simp [intOf]; omega⟩
      · have hR : (acc, 0, 0) = R := by
          have a := unhide HSC; rw [Tk.B_drop_end s k (by omega), Tk.scl_nil] at a; exact a
        subst hR
        go_wp2_with fail
        go_ret3
        exact ⟨_, rfl, unhide HO, unhide HB⟩
end Go.Proofs.YtfhlnelgnnkeoaaGreatDoor
