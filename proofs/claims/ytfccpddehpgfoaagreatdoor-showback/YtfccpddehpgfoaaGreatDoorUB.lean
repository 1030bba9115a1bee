/- By the verifier. -/
import Derived.Test.YtfccpddehpgfoaaGreatDoorUA
set_option maxRecDepth 100000
set_option maxHeartbeats 3200000
namespace Go.Proofs.YtfccpddehpgfoaaGreatDoor
open Go.RowKit
set_option linter.unusedVariables false
theorem Zfh (s : ByteArray) (i n : Nat) (hi : i < s.size) (h : 0 < (s.extract i (i + n)).size) : (s.extract i (i + n))[0] = s[i] := by
 rw [ByteArray.getElem_extract]; simp
theorem Zdl (c : Int) (r : List Int) :
  (Tk.tokK (c :: r) = 0 ∧ Tk.bad (c :: r) = 1) ∨
  (Tk.tokK (c :: r) = 1 ∧ 12 < Tk.tokN (c :: r) ∧ Tk.bad (c :: r) = 2) ∨ (Tk.tokK (c :: r) = 1 ∧ Tk.tokN (c :: r) ≤ 12 ∧ Tk.bad (c :: r) = 0) ∨
  (Tk.tokK (c :: r) = 2 ∧ 7 < Tk.tokN (c :: r) ∧ Tk.bad (c :: r) = 2) ∨ (Tk.tokK (c :: r) = 2 ∧ Tk.tokN (c :: r) ≤ 7 ∧ 1 < Tk.tokN (c :: r) ∧ (c == 48) = true ∧ Tk.bad (c :: r) = 1) ∨
  (Tk.tokK (c :: r) = 2 ∧ Tk.tokN (c :: r) ≤ 7 ∧ 1 < Tk.tokN (c :: r) ∧ (c == 48) = false ∧ Tk.bad (c :: r) = 0) ∨ (Tk.tokK (c :: r) = 2 ∧ Tk.tokN (c :: r) ≤ 1 ∧ Tk.bad (c :: r) = 0) ∨
  (Tk.tokK (c :: r) = 3 ∧ Tk.bad (c :: r) = 0) := by
 have hK := Tk.tokK_cons c r
 have hN := Tk.tokN_cons c r
 have hB := Tk.bad_cons c r
 cases h1 : Tk.isL c
 · rw [h1] at hK hN hB
   cases h2 : Tk.isD c
   · rw [h2] at hK hN hB
     cases h3 : (c == 61 && r.head? == some 61)
     · rw [h3] at hK hN hB
       cases h4 : Tk.isSign c
       · rw [h4] at hK hN hB
         exact Or.inl ⟨hK, hB⟩
       rw [h4] at hK hN hB
       exact Or.inr (Or.inr (Or.inr (Or.inr (Or.inr (Or.inr (Or.inr ⟨hK, hB⟩))))))
     rw [h3] at hK hN hB
     exact Or.inr (Or.inr (Or.inr (Or.inr (Or.inr (Or.inr (Or.inr ⟨hK, hB⟩))))))
   rw [h2] at hK hN hB
   have hN' : Tk.tokN (c :: r) = Tk.run Tk.isD r + 1 := hN
   have hB' : Tk.bad (c :: r) = if 7 < Tk.run Tk.isD r + 1 then 2 else if c == 48 && decide (1 < Tk.run Tk.isD r + 1) then 1 else 0 := hB
   by_cases h7 : 7 < Tk.run Tk.isD r + 1
   · rw [if_pos h7] at hB'; exact Or.inr (Or.inr (Or.inr (Or.inl ⟨hK, by omega, hB'⟩)))
   rw [if_neg h7] at hB'
   by_cases hn : 1 < Tk.run Tk.isD r + 1
   · rw [decide_eq_true hn] at hB'
     cases h48 : (c == 48)
     · rw [h48] at hB'; exact Or.inr (Or.inr (Or.inr (Or.inr (Or.inr (Or.inl ⟨hK, by omega, by omega, rfl, hB'⟩)))))
     rw [h48] at hB'; exact Or.inr (Or.inr (Or.inr (Or.inr (Or.inl ⟨hK, by omega, by omega, rfl, hB'⟩))))
   rw [decide_eq_false hn, Bool.and_false] at hB'
   exact Or.inr (Or.inr (Or.inr (Or.inr (Or.inr (Or.inr (Or.inl ⟨hK, by omega, hB'⟩))))))
 rw [h1] at hK hN hB
 have hN' : Tk.tokN (c :: r) = Tk.run Tk.isLD r + 1 := hN
 have hB' : Tk.bad (c :: r) = if 12 < Tk.run Tk.isLD r + 1 then 2 else 0 := hB
 by_cases h12 : 12 < Tk.run Tk.isLD r + 1
 · rw [if_pos h12] at hB'; exact Or.inr (Or.inl ⟨hK, by omega, hB'⟩)
 rw [if_neg h12] at hB'; exact Or.inr (Or.inr (Or.inl ⟨hK, by omega, hB'⟩))
theorem ZjT (s : ByteArray) (w : World) (hs : s.size ≤ maxLen) :
  Calls Tryz.prog 74 #[.string s] w fun e w' => ∃ v, e = .returned (.tuple #[v, .int .i64 ((Zah s).2.1 : Int), .int .i64 ((Zah s).2.2 : Int)]) ∧ w'.ownsRow w.heap.size 63 3 v (Zah s).1.length (Tk.cells s (Zah s).1) ∧ Below w.heap.size w w' := by
 have HML := Hd hs
 unfold maxLen at hs
 by_cases h : 6000 < s.size
 · have hR : Zah s = ([], 0, 2) := by simp [Zah, h]
   rw [hR]
   clear hR
   go_enter Tryz.func74, Tryz.ntmps74
   go_wp2_with fail
   go_ret3
   exact ⟨_, rfl, World.ownsRow_nil _ _ _ _, Zr⟩
 have hR : Tk.scl (Tk.B s) 0 0 false [] = Zah s := by simp [Zah, h]
 generalize Zah s = R at *
 have HR := Hd hR
 have h6 : s.size ≤ 6000 := by omega
 clear hR hs h
 go_enter Tryz.func74, Tryz.ntmps74
 go_wp2_with fail
 go_loopw [5, 6, 7] (fun ov nv iv wr => ∃ (k : Nat) (acc : List (Nat × Nat × Nat)) (ad : Option Addr) (cap : Nat) (note : Bool), k ≤ s.size ∧ iv = .int .i64 k ∧ nv = .bool note ∧ ov = .slice ad acc.length cap ∧ acc.length ≤ k ∧
  Tk.scl ((Tk.B s).drop k) k 0 note acc = R ∧ wr.ownsRow w.heap.size 63 3 (.slice ad acc.length cap) acc.length (Tk.cells s acc) ∧ Below w.heap.size w wr) (fun _ _ iv _ => s.size - (intOf iv).toNat)
 case atStart => exact ⟨0, [], none, 0, false, Nat.zero_le _, rfl, rfl, rfl, by simp, uh HR, World.ownsRow_nil _ _ _ _, Zr⟩
 case round =>
  obtain ⟨k, acc, ad, cap, note, hk, rfl, rfl, rfl, hacc, hscl, hown, hbe⟩ := hrel
  have HSC := Hd hscl
  have HO := Hd hown
  have HB := Hd hbe
  have hz := hbe.size
  clear hscl hown hbe HR
  by_cases hlt : k < s.size
  · have hd := Hd (Tk.B_drop s k hlt)
    have hk0 : (0 : Int) ≤ (k : Int) := by omega
    have hk1 : (k : Int) < (s.size : Int) := by omega
    cases note
    · cases h35 : ((s[k].toNat : Int) == 35)
      · cases hbl : ((s[k].toNat : Int) == 32 || (s[k].toNat : Int) == 9 || (s[k].toNat : Int) == 10)
        · have hf : Tk.free (s[k].toNat : Int) = true := by unfold Tk.free; rw [hbl, h35]; rfl
          rw [Bool.or_eq_false_iff, Bool.or_eq_false_iff] at hbl
          obtain ⟨⟨h32, h9⟩, h10⟩ := hbl
          have hkd := Zdl (s[k].toNat : Int) ((Tk.B s).drop (k + 1))
          have hle := Tk.tokN_le ((Tk.B s).drop k)
          rw [List.length_drop, Tk.B_length] at hle
          have hsb := Tk.scl_bad (s[k].toNat : Int) ((Tk.B s).drop (k + 1)) k acc hf
          have hso := Tk.scl_tok (s[k].toNat : Int) ((Tk.B s).drop (k + 1)) k acc hf
          have hpos := Tk.tokN_pos (s[k].toNat : Int) ((Tk.B s).drop (k + 1))
          rw [← uh hd] at hkd hsb hso hpos
          rw [uh HSC, List.drop_drop] at hso
          rw [uh HSC] at hsb
          have HF : Hid (∀ n h, (s.extract k (k + n))[0]'h = s[k]) := fun n h => Zfh s k n hlt h
          go_wp2_with fail
          refine (Zgt s k _ (uh HML) hlt).mono ?_
          rintro e w1 ⟨rfl, rfl⟩
          generalize Tk.tokK ((Tk.B s).drop k) = K at *
          generalize Tk.tokN ((Tk.B s).drop k) = n at *
          generalize Tk.bad ((Tk.B s).drop k) = bd at *
          have HSB := Hd hsb
          have HSO := Hd hso
          have HPO := Hd hpos
          clear hsb hso hpos HSC hf
          rcases hkd with ⟨rfl, rfl⟩ | ⟨rfl, g1, rfl⟩ | ⟨rfl, g1, rfl⟩ | ⟨rfl, g1, rfl⟩ | ⟨rfl, g1, g2, g3, rfl⟩ | ⟨rfl, g1, g2, g3, rfl⟩ | ⟨rfl, g1, rfl⟩ | ⟨rfl, rfl⟩
          · have hR := (uh HSB) (by decide)
            subst hR
            go_wp2_with fail
            go_ret3
            exact ⟨_, rfl, World.ownsRow_nil _ _ _ _, uh HB⟩
          · have hR := (uh HSB) (by decide)
            subst hR
            go_wp2_with fail
            go_ret3
            exact ⟨_, rfl, World.ownsRow_nil _ _ _ _, uh HB⟩
          · have hpo := (uh HPO) rfl
            have hR := (uh HSO) rfl
            have HRR := Hd hR
            have hn1 : k + n ≤ s.size := by omega
            have hex := Zbw s k n hn1
            clear hR
            obtain ⟨i0, hi0, hz0, hz1, hz2⟩ := info_parts ZcI
            have HOW := Hd ((uh HO).alloc (.cells #[.int .i64 (1 : Int), .int .i64 (k : Int), .string (s.extract k (k + n))] 63))
            have HBK := Hd (heap_alloc_new w1 (.cells #[.int .i64 (1 : Int), .int .i64 (k : Int), .string (s.extract k (k + n))] 63))
            have HI0 := Hd hi0
            clear hi0
            go_wp2_with (at_builtin; refine wpList_append_lies _ (by rfl) _ _ _ (by rfl) w.heap.size 63 i0 _ 3 32 Tryz.underlying31 (uh HI0) hz0 hz1 hz2 rfl (by omega) (.slice ad acc.length cap) acc.length (Tk.cells s acc) (by rfl) (uh HOW) ⟨w1.heap.size, 0, none⟩ 1 1 [.int .i64 (1 : Int), .int .i64 (k : Int), .string (s.extract k (k + n))] (by rfl) (by rfl) (World.news_of_block (uh HBK)) (by simp [Value.oneCell']) (by omega) (by unfold maxLen; omega) (by omega) (by simp; omega) (w1.heap.size + 1) (by simp) ?_; intro g cap' w2 hown1 hgrow hat hlt1; have HO1 := Hd hown1; have HG1 := Hd hgrow; clear hown1 hgrow hat)
            have hl1 : (acc ++ [(1, k, n)]).length = acc.length + 1 := by simp
            have b3 := ((uh HB).alloc (by omega) _).grown (uh HG1) (by simp; omega) (fun q hq => ((uh HO).lt q hq).1)
            refine ⟨⟨k + n, acc ++ [(1, k, n)], some ⟨g, 0, none⟩, cap', false, hn1, by go_num, rfl, by rw [hl1], by rw [hl1]; omega, (uh HRR).symm, ?_, b3⟩, by simp [intOf]; omega⟩
            rw [hl1, Zb6]
            exact uh HO1
          · have hR := (uh HSB) (by decide)
            subst hR
            go_wp2_with fail
            go_ret3
            exact ⟨_, rfl, World.ownsRow_nil _ _ _ _, uh HB⟩
          · have hR := (uh HSB) (by decide)
            subst hR
            have hn1 : k + n ≤ s.size := by omega
            have hex := Zbw s k n hn1
            have hq : ∀ h, ((((s.extract k (k + n))[0]'h).toNat : Int) == 48) = true := fun h => by rw [(uh HF) n h]; exact g3
            go_wp2_with fail
            go_ret3
            exact ⟨_, rfl, World.ownsRow_nil _ _ _ _, uh HB⟩
          · have hpo := (uh HPO) rfl
            have hR := (uh HSO) rfl
            have HRR := Hd hR
            have hn1 : k + n ≤ s.size := by omega
            have hex := Zbw s k n hn1
            clear hR
            have hq : ∀ h, ((((s.extract k (k + n))[0]'h).toNat : Int) == 48) = false := fun h => by rw [(uh HF) n h]; exact g3
            obtain ⟨i0, hi0, hz0, hz1, hz2⟩ := info_parts ZcI
            have HOW := Hd ((uh HO).alloc (.cells #[.int .i64 (2 : Int), .int .i64 (k : Int), .string (s.extract k (k + n))] 63))
            have HBK := Hd (heap_alloc_new w1 (.cells #[.int .i64 (2 : Int), .int .i64 (k : Int), .string (s.extract k (k + n))] 63))
            have HI0 := Hd hi0
            clear hi0
            go_wp2_with (at_builtin; refine wpList_append_lies _ (by rfl) _ _ _ (by rfl) w.heap.size 63 i0 _ 3 32 Tryz.underlying31 (uh HI0) hz0 hz1 hz2 rfl (by omega) (.slice ad acc.length cap) acc.length (Tk.cells s acc) (by rfl) (uh HOW) ⟨w1.heap.size, 0, none⟩ 1 1 [.int .i64 (2 : Int), .int .i64 (k : Int), .string (s.extract k (k + n))] (by rfl) (by rfl) (World.news_of_block (uh HBK)) (by simp [Value.oneCell']) (by omega) (by unfold maxLen; omega) (by omega) (by simp; omega) (w1.heap.size + 1) (by simp) ?_; intro g cap' w2 hown1 hgrow hat hlt1; have HO1 := Hd hown1; have HG1 := Hd hgrow; clear hown1 hgrow hat)
            have hl1 : (acc ++ [(2, k, n)]).length = acc.length + 1 := by simp
            have b3 := ((uh HB).alloc (by omega) _).grown (uh HG1) (by simp; omega) (fun q hq => ((uh HO).lt q hq).1)
            refine ⟨⟨k + n, acc ++ [(2, k, n)], some ⟨g, 0, none⟩, cap', false, hn1, by go_num, rfl, by rw [hl1], by rw [hl1]; omega, (uh HRR).symm, ?_, b3⟩, by simp [intOf]; omega⟩
            rw [hl1, Zb6]
            exact uh HO1
          · have hpo := (uh HPO) rfl
            have hR := (uh HSO) rfl
            have HRR := Hd hR
            have hn1 : k + n ≤ s.size := by omega
            have hex := Zbw s k n hn1
            clear hR
            obtain ⟨i0, hi0, hz0, hz1, hz2⟩ := info_parts ZcI
            have HOW := Hd ((uh HO).alloc (.cells #[.int .i64 (2 : Int), .int .i64 (k : Int), .string (s.extract k (k + n))] 63))
            have HBK := Hd (heap_alloc_new w1 (.cells #[.int .i64 (2 : Int), .int .i64 (k : Int), .string (s.extract k (k + n))] 63))
            have HI0 := Hd hi0
            clear hi0
            go_wp2_with (at_builtin; refine wpList_append_lies _ (by rfl) _ _ _ (by rfl) w.heap.size 63 i0 _ 3 32 Tryz.underlying31 (uh HI0) hz0 hz1 hz2 rfl (by omega) (.slice ad acc.length cap) acc.length (Tk.cells s acc) (by rfl) (uh HOW) ⟨w1.heap.size, 0, none⟩ 1 1 [.int .i64 (2 : Int), .int .i64 (k : Int), .string (s.extract k (k + n))] (by rfl) (by rfl) (World.news_of_block (uh HBK)) (by simp [Value.oneCell']) (by omega) (by unfold maxLen; omega) (by omega) (by simp; omega) (w1.heap.size + 1) (by simp) ?_; intro g cap' w2 hown1 hgrow hat hlt1; have HO1 := Hd hown1; have HG1 := Hd hgrow; clear hown1 hgrow hat)
            have hl1 : (acc ++ [(2, k, n)]).length = acc.length + 1 := by simp
            have b3 := ((uh HB).alloc (by omega) _).grown (uh HG1) (by simp; omega) (fun q hq => ((uh HO).lt q hq).1)
            refine ⟨⟨k + n, acc ++ [(2, k, n)], some ⟨g, 0, none⟩, cap', false, hn1, by go_num, rfl, by rw [hl1], by rw [hl1]; omega, (uh HRR).symm, ?_, b3⟩, by simp [intOf]; omega⟩
            rw [hl1, Zb6]
            exact uh HO1
          have hpo := (uh HPO) rfl
          have hR := (uh HSO) rfl
          have HRR := Hd hR
          have hn1 : k + n ≤ s.size := by omega
          have hex := Zbw s k n hn1
          clear hR
          obtain ⟨i0, hi0, hz0, hz1, hz2⟩ := info_parts ZcI
          have HOW := Hd ((uh HO).alloc (.cells #[.int .i64 (3 : Int), .int .i64 (k : Int), .string (s.extract k (k + n))] 63))
          have HBK := Hd (heap_alloc_new w1 (.cells #[.int .i64 (3 : Int), .int .i64 (k : Int), .string (s.extract k (k + n))] 63))
          have HI0 := Hd hi0
          clear hi0
          go_wp2_with (at_builtin; refine wpList_append_lies _ (by rfl) _ _ _ (by rfl) w.heap.size 63 i0 _ 3 32 Tryz.underlying31 (uh HI0) hz0 hz1 hz2 rfl (by omega) (.slice ad acc.length cap) acc.length (Tk.cells s acc) (by rfl) (uh HOW) ⟨w1.heap.size, 0, none⟩ 1 1 [.int .i64 (3 : Int), .int .i64 (k : Int), .string (s.extract k (k + n))] (by rfl) (by rfl) (World.news_of_block (uh HBK)) (by simp [Value.oneCell']) (by omega) (by unfold maxLen; omega) (by omega) (by simp; omega) (w1.heap.size + 1) (by simp) ?_; intro g cap' w2 hown1 hgrow hat hlt1; have HO1 := Hd hown1; have HG1 := Hd hgrow; clear hown1 hgrow hat)
          have hl1 : (acc ++ [(3, k, n)]).length = acc.length + 1 := by simp
          have b3 := ((uh HB).alloc (by omega) _).grown (uh HG1) (by simp; omega) (fun q hq => ((uh HO).lt q hq).1)
          refine ⟨⟨k + n, acc ++ [(3, k, n)], some ⟨g, 0, none⟩, cap', false, hn1, by go_num, rfl, by rw [hl1], by rw [hl1]; omega, (uh HRR).symm, ?_, b3⟩, by simp [intOf]; omega⟩
          rw [hl1, Zb6]
          exact uh HO1
        have hst : Hid (Tk.scl ((Tk.B s).drop (k + 1)) (k + 1) 0 false acc = R) := by
         have a := uh HSC; rw [uh hd, Tk.scl_blank _ _ _ _ h35 hbl] at a; exact a
        clear HSC
        cases h32 : ((s[k].toNat : Int) == 32)
        · cases h9 : ((s[k].toNat : Int) == 9)
          · have h10 : ((s[k].toNat : Int) == 10) = true := by rw [h32, h9] at hbl; exact hbl
            clear hbl
            go_wp2_with fail
            exact ⟨⟨k + 1, acc, ad, cap, _, by omega, by go_num, rfl, rfl, by omega, uh hst, uh HO, uh HB⟩, by simp [intOf]; omega⟩
          clear hbl
          go_wp2_with fail
          exact ⟨⟨k + 1, acc, ad, cap, _, by omega, by go_num, rfl, rfl, by omega, uh hst, uh HO, uh HB⟩, by simp [intOf]; omega⟩
        clear hbl
        go_wp2_with fail
        exact ⟨⟨k + 1, acc, ad, cap, _, by omega, by go_num, rfl, rfl, by omega, uh hst, uh HO, uh HB⟩, by simp [intOf]; omega⟩
      have hst : Hid (Tk.scl ((Tk.B s).drop (k + 1)) (k + 1) 0 (!((s[k].toNat : Int) == 10)) acc = R) := by
       have a := uh HSC; rw [uh hd, Tk.scl_hash _ _ _ _ _ h35] at a; exact a
      clear HSC
      go_wp2_with fail
      exact ⟨⟨k + 1, acc, ad, cap, _, by omega, by go_num, rfl, rfl, by omega, uh hst, uh HO, uh HB⟩, by simp [intOf]; omega⟩
    have hst : Hid (Tk.scl ((Tk.B s).drop (k + 1)) (k + 1) 0 (!((s[k].toNat : Int) == 10)) acc = R) := by
     have a := uh HSC; rw [uh hd, Tk.scl_note] at a; exact a
    clear HSC
    go_wp2_with fail
    exact ⟨⟨k + 1, acc, ad, cap, _, by omega, by go_num, rfl, rfl, by omega, uh hst, uh HO, uh HB⟩, by simp [intOf]; omega⟩
  have hR : (acc, 0, 0) = R := by
   have a := uh HSC; rw [Tk.B_drop_end s k (by omega), Tk.scl_nil] at a; exact a
  subst hR
  go_wp2_with fail
  go_ret3
  exact ⟨_, rfl, uh HO, uh HB⟩
end Go.Proofs.YtfccpddehpgfoaaGreatDoor
namespace Go.Proofs.YtfccpddehpgfoaaGreatDoor.Tk
set_option linter.unusedVariables false
theorem scl_prefix (l : List Int) : ∀ (pos k : Nat) (b : Bool) (acc : List (Nat × Nat × Nat)), (scl l pos k b acc).2.2 = 0 → ∃ m, (scl l pos k b acc).1 = acc ++ m := by
 induction l with
 | nil => intro pos k b acc _; rw [scl_nil]; exact ⟨[], by simp⟩
 | cons c r ih =>
  intro pos k b acc h
  cases k with
  | succ k => rw [scl_skip1] at h ⊢; exact ih _ _ _ _ h
  | zero =>
   rw [scl] at h ⊢
   split at h
   · rename_i h1; rw [if_pos h1]; exact ih _ _ _ _ h
   rename_i h1
   rw [if_neg h1]
   split at h
   · rename_i h2; rw [if_pos h2]; exact ih _ _ _ _ h
   rename_i h2
   rw [if_neg h2]
   split at h
   · rename_i h3
     rw [if_pos h3]
     obtain ⟨m, hm⟩ := ih _ _ _ _ h
     exact ⟨[_] ++ m, by rw [hm, List.append_assoc]⟩
   rename_i h3
   exact absurd h h3
theorem scl_first (l : List Int) (pos : Nat) (h0 : (scl l pos 0 false []).2.2 = 0) (h1 : (scl l pos 0 false []).1.length = 1) :
  ∃ c r, l.drop (gap false l) = c :: r ∧ free c = true ∧ bad (c :: r) = 0 ∧ (scl l pos 0 false []).1 = [(tokK (c :: r), pos + gap false l, tokN (c :: r))] := by
 have hg := gap_gap l false
 rw [scl_gap] at h0 h1 ⊢
 generalize l.drop (gap false l) = m at *
 generalize pos + gap false l = p at *
 cases m with
 | nil => rw [scl_nil] at h1; simp at h1
 | cons c r =>
  have hf := (gap_free c r).1 hg
  by_cases hb : bad (c :: r) = 0
  · refine ⟨c, r, rfl, hf, hb, ?_⟩
    rw [scl_tok c r p [] hf hb] at h0 h1 ⊢
    obtain ⟨m, hm⟩ := scl_prefix _ _ _ _ _ h0
    rw [hm] at h1 ⊢
    simp at h1
    subst h1
    simp
  rw [scl_bad c r p [] hf hb] at h0
  exact absurd h0 hb
def isTok (k : Int) (l : List Int) : Bool :=
 decide (l.length ≤ 6000) && decide (gap false l = 0) && decide (bad l = 0) && decide ((tokK l : Int) = k) && decide (tokN l = l.length)
theorem isTok_iff (k : Int) (l : List Int) : isTok k l = true ↔ l.length ≤ 6000 ∧ gap false l = 0 ∧ bad l = 0 ∧ (tokK l : Int) = k ∧ tokN l = l.length := by
 simp [isTok, and_assoc]
theorem isTok_scan (k : Int) (l : List Int) (h : isTok k l = true) : scl l 0 0 false [] = ([(tokK l, 0, l.length)], 0, 0) := by
 obtain ⟨_, hg, hb, _, hn⟩ := (isTok_iff k l).1 h
 cases l with
 | nil => simp [bad] at hb
 | cons c r =>
  rw [scl_tok c r 0 [] ((gap_free c r).1 hg) hb, hn, List.drop_length, scl_nil]
  simp
def apart (r : List Int) : Prop := r = [] ∨ ∃ q, r = 32 :: q
theorem run_take (p : Int → Bool) : ∀ r : List Int, run p (r.take (run p r)) = run p r ∧ (r.take (run p r)).length = run p r := by
 intro r
 induction r with
 | nil => exact ⟨rfl, rfl⟩
 | cons c r ih =>
  cases hc : p c
  · simp [run, hc]
  simp only [run, hc, if_true, List.take_succ_cons, Zo]
  exact ⟨by rw [ih.1], by rw [ih.2]⟩
theorem tok_take (c : Int) (r : List Int) (hf : free c = true) (hb : bad (c :: r) = 0) : isTok ((tokK (c :: r) : Nat) : Int) ((c :: r).take (tokN (c :: r))) = true := by
 have hp := tokN_pos c r hb
 have hle := tokN_le (c :: r)
 have hlen : ((c :: r).take (tokN (c :: r))).length = tokN (c :: r) := by rw [List.length_take]; omega
 obtain ⟨m, hm⟩ : ∃ m, tokN (c :: r) = m + 1 := ⟨tokN (c :: r) - 1, by omega⟩
 have ht : (c :: r).take (tokN (c :: r)) = c :: r.take m := by rw [hm, List.take_succ_cons]
 rw [isTok_iff, hlen]
 have key : tokN (c :: r) ≤ 6000 ∧ bad (c :: r.take m) = 0 ∧ tokK (c :: r.take m) = tokK (c :: r) ∧ tokN (c :: r.take m) = tokN (c :: r) := by
  rw [bad_cons] at hb
  rw [bad_cons, tokK_cons, tokK_cons, tokN_cons (c := c) (r := r.take m)]
  have hN := tokN_cons c r
  cases h1 : isL c
  · cases h2 : isD c
    · rw [h1, h2] at hN hb
      simp only [Zb, if_false] at hN hb ⊢
      cases h3 : (c == 61 && r.head? == some 61)
      · rw [h3] at hN hb
        simp only [Zb, if_false] at hN hb ⊢
        cases h4 : isSign c
        · rw [h4] at hb; simp at hb
        rw [h4] at hN
        simp only [if_true] at hN
        have hm0 : m = 0 := by omega
        subst hm0
        have hh : (c == 61 && (r.take 0).head? == some 61) = false := by simp
        rw [hh, hN]
        exact ⟨by omega, rfl, rfl, rfl⟩
      rw [h3] at hN
      simp only [if_true] at hN
      have hm0 : m = 1 := by omega
      subst hm0
      have hh : (c == 61 && (r.take 1).head? == some 61) = true := by
       cases r with
       | nil => simp at h3
       | cons d q => simpa using h3
      rw [hh, hN]
      exact ⟨by omega, rfl, rfl, rfl⟩
    rw [h1, h2] at hN hb
    simp only [Zb, if_false, if_true] at hN hb ⊢
    have hm0 : m = run isD r := by omega
    subst hm0
    rw [(run_take isD r).1]
    have h7 : ¬ 7 < run isD r + 1 := by intro h; rw [if_pos h] at hb; cases hb
    exact ⟨by omega, hb, trivial, by omega⟩
  rw [h1] at hN hb
  simp only [if_true] at hN hb ⊢
  have hm0 : m = run isLD r := by omega
  subst hm0
  rw [(run_take isLD r).1]
  have h7 : ¬ 12 < run isLD r + 1 := by intro h; rw [if_pos h] at hb; cases hb
  exact ⟨by omega, hb, trivial, by omega⟩
 rw [ht]
 obtain ⟨k1, k2, k3, k4⟩ := key
 exact ⟨k1, (gap_free c _).2 hf, k2, by rw [k3], k4⟩
theorem scl_toks (l : List Int) : ∀ (pos k : Nat) (b : Bool) (acc : List (Nat × Nat × Nat)), (scl l pos k b acc).2.2 = 0 →
  ∃ m, (scl l pos k b acc).1 = acc ++ m ∧ ∀ t ∈ m, ∃ j, t.2.1 = pos + j ∧ isTok (t.1 : Int) ((l.drop j).take t.2.2) = true := by
 induction l with
 | nil => intro pos k b acc _; rw [scl_nil]; exact ⟨[], by simp, fun t ht => by cases ht⟩
 | cons c r ih =>
  intro pos k b acc h
  have up : ∀ m : List (Nat × Nat × Nat), (∀ t ∈ m, ∃ j, t.2.1 = pos + 1 + j ∧ isTok (t.1 : Int) ((r.drop j).take t.2.2) = true) → ∀ t ∈ m, ∃ j, t.2.1 = pos + j ∧ isTok (t.1 : Int) (((c :: r).drop j).take t.2.2) = true := by
   intro m hm t ht
   obtain ⟨j, h1, h2⟩ := hm t ht
   exact ⟨j + 1, by omega, by rw [List.drop_succ_cons]; exact h2⟩
  cases k with
  | succ k =>
   rw [scl_skip1] at h ⊢
   obtain ⟨m, h1, h2⟩ := ih _ _ _ _ h
   exact ⟨m, h1, up m h2⟩
  | zero =>
   rw [scl] at h ⊢
   split at h
   · rename_i h1
     rw [if_pos h1]
     obtain ⟨m, h1, h2⟩ := ih _ _ _ _ h
     exact ⟨m, h1, up m h2⟩
   rename_i h1
   rw [if_neg h1]
   split at h
   · rename_i h2
     rw [if_pos h2]
     obtain ⟨m, h1, h2⟩ := ih _ _ _ _ h
     exact ⟨m, h1, up m h2⟩
   rename_i h2
   rw [if_neg h2]
   split at h
   · rename_i h3
     rw [if_pos h3]
     obtain ⟨m, h4, h5⟩ := ih _ _ _ _ h
     refine ⟨[(tokK (c :: r), pos, tokN (c :: r))] ++ m, by rw [h4, List.append_assoc], ?_⟩
     intro t ht
     rcases List.mem_append.1 ht with ht | ht
     · rw [List.mem_singleton] at ht
       subst ht
       refine ⟨0, rfl, tok_take c r ?_ h3⟩
       unfold free
       rw [Bool.or_eq_true, not_or] at h1
       have e35 : (c == 35) = false := Bool.eq_false_iff.2 h1.2
       rw [Bool.eq_false_iff.2 h2, e35]; rfl
     exact up m h5 t ht
   rename_i h3
   exact absurd h h3
def ordd (size : Nat) : Nat → List (Nat × Nat × Nat) → Prop
 | _, [] => True
 | p, t :: r => p ≤ t.2.1 ∧ 0 < t.2.2 ∧ t.2.1 + t.2.2 ≤ size ∧ ordd size (t.2.1 + t.2.2) r
theorem ordd_le {size p q : Nat} (h : q ≤ p) : ∀ {l : List (Nat × Nat × Nat)}, ordd size p l → ordd size q l := by
 intro l hl
 cases l with
 | nil => trivial
 | cons t r => exact ⟨Nat.le_trans h hl.1, hl.2⟩
theorem scl_ord (l : List Int) : ∀ (pos k : Nat) (b : Bool) (acc : List (Nat × Nat × Nat)), k ≤ l.length → (scl l pos k b acc).2.2 = 0 → ∃ m, (scl l pos k b acc).1 = acc ++ m ∧ ordd (pos + l.length) (pos + k) m := by
 induction l with
 | nil => intro pos k b acc _ _; rw [scl_nil]; exact ⟨[], by simp, trivial⟩
 | cons c r ih =>
  intro pos k b acc hk h
  have el : pos + 1 + r.length = pos + (c :: r).length := by rw [Zo]; omega
  rw [Zo] at hk
  cases k with
  | succ k =>
   rw [scl_skip1] at h ⊢
   obtain ⟨m, h1, h2⟩ := ih _ _ _ _ (by omega) h
   rw [el] at h2
   exact ⟨m, h1, by rw [show pos + (k + 1) = pos + 1 + k from by omega]; exact h2⟩
  | zero =>
   rw [scl] at h ⊢
   split at h
   · rename_i h1
     rw [if_pos h1]
     obtain ⟨m, h1, h2⟩ := ih _ _ _ _ (by omega) h
     rw [el] at h2
     exact ⟨m, h1, ordd_le (by omega) h2⟩
   rename_i h1
   rw [if_neg h1]
   split at h
   · rename_i h2
     rw [if_pos h2]
     obtain ⟨m, h1, h2⟩ := ih _ _ _ _ (by omega) h
     rw [el] at h2
     exact ⟨m, h1, ordd_le (by omega) h2⟩
   rename_i h2
   rw [if_neg h2]
   split at h
   · rename_i h3
     rw [if_pos h3]
     have hp := tokN_pos c r h3
     have hn := tokN_le (c :: r)
     rw [Zo] at hn
     obtain ⟨m, h4, h5⟩ := ih _ _ _ _ (by omega) h
     rw [el] at h5
     refine ⟨[(tokK (c :: r), pos, tokN (c :: r))] ++ m, by rw [h4, List.append_assoc], ?_⟩
     exact ⟨by show pos + 0 ≤ pos; omega, hp, by show pos + tokN (c :: r) ≤ _; rw [Zo]; omega, by
      show ordd _ (pos + tokN (c :: r)) m
      rw [show pos + tokN (c :: r) = pos + 1 + (tokN (c :: r) - 1) from by omega]
      exact h5⟩
   rename_i h3
   exact absurd h h3
theorem ordd_length (size : Nat) : ∀ (l : List (Nat × Nat × Nat)) (p : Nat), p ≤ size → ordd size p l → p + l.length ≤ size := by
 intro l
 induction l with
 | nil => intro p hp _; exact hp
 | cons x r ih =>
  intro p hp h
  have := ih _ h.2.2.1 h.2.2.2
  have h1 := h.1
  have h2 := h.2.1
  rw [Zo]
  omega
end Go.Proofs.YtfccpddehpgfoaaGreatDoor.Tk
namespace Go.Proofs.YtfccpddehpgfoaaGreatDoor
open Go.RowKit
set_option linter.unusedVariables false
theorem ZiQ (c : Int) (r : List Int) (h : Tk.tokK (c :: r) ≠ 0) : Tk.gap false (c :: r) = 0 := by
 rw [Tk.gap_free]
 rw [Tk.tokK_cons] at h
 by_cases hc : c = 32 ∨ c = 9 ∨ c = 10 ∨ c = 35
 · exfalso
   apply h
   rcases hc with rfl | rfl | rfl | rfl <;> rfl
 simp [Tk.free]; omega
theorem Zd9 (k : Int) (t : ByteArray) (h : ¬ t.size ≤ 6000) : Tk.isTok k (Tk.B t) = false := by
 apply Bool.eq_false_iff.2
 intro hh
 have := ((Tk.isTok_iff _ _).1 hh).1
 rw [Tk.B_length] at this
 exact h this
theorem Zhl (l : List Int) : Tk.isTok 0 l = false := by
 apply Bool.eq_false_iff.2
 intro hh
 obtain ⟨_, _, hb, hk, _⟩ := (Tk.isTok_iff _ _).1 hh
 cases l with
 | nil => cases hb
 | cons c r =>
  have := Zdl c r
  omega
theorem Zg6 (k : Int) (c : Int) (r : List Int) (hl : (c :: r).length ≤ 6000) (hk : k ≠ 0) :
  Tk.isTok k (c :: r) = (decide (Tk.bad (c :: r) = 0) && ((Tk.tokK (c :: r) : Int) == k) && ((Tk.tokN (c :: r) : Int) == ((c :: r).length : Int))) := by
 rw [Bool.eq_iff_iff, Tk.isTok_iff]
 simp only [Bool.and_eq_true, decide_eq_true_eq, beq_iff_eq]
 constructor
 · intro ⟨_, _, h3, h4, h5⟩; exact ⟨⟨h3, h4⟩, by omega⟩
 intro ⟨⟨h3, h4⟩, h5⟩; exact ⟨hl, ZiQ c r (by omega), h3, h4, by omega⟩
theorem ZdX (t : ByteArray) (h : 0 < t.size) : t.toList.isEmpty = false := by
 rw [ByteArray.toList_eq, List.isEmpty_eq_false_iff]
 intro h1
 have h2 := congrArg List.length h1
 rw [Array.length_toList] at h2
 exact absurd (show t.size = 0 from h2) (by omega)
theorem ZjO (t : ByteArray) (h : ¬ 0 < t.size) : t.toList.isEmpty = true := by
 rw [ByteArray.toList_eq, List.isEmpty_iff]
 apply List.eq_nil_of_length_eq_zero
 rw [Array.length_toList]
 show t.size = 0
 omega
theorem Zjk (k : Int) (t : ByteArray) (w : World) (ht : t.size ≤ maxLen) (h6 : 6000 < t.size) :
  Calls Tryz.prog 62 #[.int .i64 k, .string t] w fun e w' => e = .returned (.bool false) ∧ w' = w := by
 have hne := ZdX t (by omega)
 have h6' : (6000 : Int) < (t.size : Int) := by omega
 unfold maxLen at ht
 go_enter Tryz.func62, Tryz.ntmps62
 go_wp2_with fail
 go_ret
 exact ⟨rfl, rfl⟩
theorem Zhs (k : Int) (t : ByteArray) (w : World) (h0 : t.toList.isEmpty = true) :
  Calls Tryz.prog 62 #[.int .i64 k, .string t] w fun e w' => e = .returned (.bool false) ∧ w' = w := by
 go_enter Tryz.func62, Tryz.ntmps62
 go_wp2_with fail
 go_ret
 exact ⟨rfl, rfl⟩
theorem Zf6 (k : Int) (t : ByteArray) (w : World) (hne : t.toList.isEmpty = false) (h6 : t.size ≤ 6000) (hk : (k == 0) = true) :
  Calls Tryz.prog 62 #[.int .i64 k, .string t] w fun e w' => e = .returned (.bool false) ∧ w' = w := by
 have h6' : ¬ (6000 : Int) < (t.size : Int) := by omega
 go_enter Tryz.func62, Tryz.ntmps62
 go_wp2_with fail
 go_ret
 exact ⟨rfl, rfl⟩
theorem Zio (k : Int) (t : ByteArray) (w : World) (hne : t.toList.isEmpty = false) (h0 : 0 < t.size) (h6 : t.size ≤ 6000) (hk : (k == 0) = false) (res : Bool)
  (hres : (decide (Tk.bad (Tk.B t) = 0) && ((Tk.tokK (Tk.B t) : Int) == k) && ((Tk.tokN (Tk.B t) : Int) == (t.size : Int))) = res) :
  Calls Tryz.prog 62 #[.int .i64 k, .string t] w fun e w' => e = .returned (.bool res) ∧ w' = w := by
 have h6' : ¬ (6000 : Int) < (t.size : Int) := by omega
 have h01 : (0 : Int) < (t.size : Int) := by omega
 have hd := Tk.B_drop t 0 h0
 rw [List.drop_zero] at hd
 have hkd := Zdl (t[0].toNat : Int) ((Tk.B t).drop (0 + 1))
 rw [← hd] at hkd
 have HKD := Hd hkd
 have HRES := Hd hres
 clear hkd hres hd
 go_enter Tryz.func62, Tryz.ntmps62
 go_wp2_with fail
 refine (Zgt t 0 _ (by unfold maxLen; omega) h0).mono ?_
 rintro e w1 ⟨rfl, rfl⟩
 have hkd := uh HKD
 have hres := uh HRES
 rw [List.drop_zero]
 clear HKD HRES
 generalize Tk.tokK (Tk.B t) = K at *
 generalize Tk.tokN (Tk.B t) = n at *
 generalize Tk.bad (Tk.B t) = bd at *
 cases hkk : ((K : Int) == k)
 · have hr : res = false := by rw [← hres, hkk]; simp
   subst hr
   clear hkd hres
   go_wp2_with fail
   go_ret
   exact ⟨rfl, rfl⟩
 cases hnn : ((n : Int) == (t.size : Int))
 · have hr : res = false := by rw [← hres, hnn]; simp
   subst hr
   clear hkd hres
   go_wp2_with fail
   go_ret
   exact ⟨rfl, rfl⟩
 have hr : res = decide (bd = 0) := by rw [← hres, hkk, hnn]; simp
 subst hr
 clear hres
 have hk2 : (K : Int) = k := by simpa using hkk
 subst hk2
 rcases hkd with ⟨rfl, rfl⟩ | ⟨rfl, g1, rfl⟩ | ⟨rfl, g1, rfl⟩ | ⟨rfl, g1, rfl⟩ | ⟨rfl, g1, g2, g3, rfl⟩ | ⟨rfl, g1, g2, g3, rfl⟩ | ⟨rfl, g1, rfl⟩ | ⟨rfl, rfl⟩
 · cases hk
 · have g1' : (12 : Int) < (n : Int) := by omega
   clear hkk hk
   go_wp2_with fail
   go_ret
   exact ⟨Zaj (by first | rfl | (rw [decide_eq_false (by omega)]; rfl)), rfl⟩
 · have g1' : ¬ (12 : Int) < (n : Int) := by omega
   clear hkk hk
   go_wp2_with fail
   go_ret
   exact ⟨Zaj (by first | rfl | (rw [decide_eq_false (by omega)]; rfl)), rfl⟩
 · have g1' : (7 : Int) < (n : Int) := by omega
   clear hkk hk
   go_wp2_with fail
   go_ret
   exact ⟨Zaj (by first | rfl | (rw [decide_eq_false (by omega)]; rfl)), rfl⟩
 · have g1' : ¬ (7 : Int) < (n : Int) := by omega
   have g2' : (1 : Int) < (n : Int) := by omega
   clear hkk hk
   go_wp2_with fail
   go_ret
   exact ⟨Zaj (by first | rfl | (rw [decide_eq_false (by omega)]; rfl)), rfl⟩
 · have g1' : ¬ (7 : Int) < (n : Int) := by omega
   have g2' : (1 : Int) < (n : Int) := by omega
   clear hkk hk
   go_wp2_with fail
   go_ret
   exact ⟨Zaj (by first | rfl | (rw [decide_eq_false (by omega)]; rfl)), rfl⟩
 · have g1' : ¬ (7 : Int) < (n : Int) := by omega
   have g2' : ¬ (1 : Int) < (n : Int) := by omega
   clear hkk hk
   go_wp2_with fail
   go_ret
   exact ⟨Zaj (by first | rfl | (rw [decide_eq_false (by omega)]; rfl)), rfl⟩
 clear hkk hk
 go_wp2_with fail
 go_ret
 exact ⟨Zaj (by first | rfl | (rw [decide_eq_false (by omega)]; rfl)), rfl⟩
theorem Zf0 (k : Int) (t : ByteArray) (w : World) (ht : t.size ≤ maxLen) :
  Calls Tryz.prog 62 #[.int .i64 k, .string t] w fun e w' => e = .returned (.bool (Tk.isTok k (Tk.B t))) ∧ w' = w := by
 by_cases h0 : 0 < t.size
 · by_cases h6 : t.size ≤ 6000
   · by_cases hk : k = 0
     · subst hk
       rw [Zhl]
       exact Zf6 0 t w (ZdX t h0) h6 rfl
     have hd := Tk.B_drop t 0 h0
     rw [List.drop_zero] at hd
     refine Zio k t w (ZdX t h0) h0 h6 (beq_eq_false_iff_ne.2 hk) _ ?_
     have hl : (Tk.B t).length = t.size := Tk.B_length t
     rw [← hl, hd]
     exact (Zg6 k _ _ (by rw [← hd, hl]; exact h6) hk).symm
   rw [Zd9 k t h6]
   exact Zjk k t w ht (by omega)
 have e : Tk.B t = [] := List.eq_nil_of_length_eq_zero (by rw [Tk.B_length]; omega)
 have hf : Tk.isTok k (Tk.B t) = false := by rw [e]; rfl
 rw [hf]
 exact Zhs k t w (ZjO t h0)
end Go.Proofs.YtfccpddehpgfoaaGreatDoor
