/-
  Tokens that Scan answers, as tree's parser reads them; the contract of tree's Parse. By the verifier.
-/
import Derived.Test.YtfccpddehpgfoaaGreatDoorTPp
import Derived.Test.YtfccpddehpgfoaaGreatDoorTCk3
import Derived.Test.YtfccpddehpgfoaaGreatDoorUB
import Derived.Test.YtfccpddehpgfoaaGreatDoorUA
set_option maxRecDepth 100000
set_option maxHeartbeats 1600000
namespace Go.Proofs.YtfccpddehpgfoaaGreatDoor
open Go.RowKit
set_option linter.unusedVariables false
theorem Tp.own_slice {w : World} {base : Nat} {e : TypeId} {size : Nat} {v : Value} {n : Nat} {xs : List Value} (h : w.ownsRow base e size v n xs) : ∃ ad cap, v = .slice ad n cap := by
 rcases h.2 with ⟨hv, hn⟩ | ⟨g, cap, cur, hv, _⟩
 · subst hn; exact ⟨none, 0, hv⟩
 · exact ⟨_, cap, hv⟩
def Tp.toks (s : ByteArray) (l : List (Nat × Nat × Nat)) : List Tp.T := l.map fun t => ⟨(t.1 : Int), (t.2.1 : Int), s.extract t.2.1 (t.2.1 + t.2.2)⟩
theorem Tp.cells_at (s : ByteArray) (l : List (Nat × Nat × Nat)) : ∀ (i : Nat) (t : Nat × Nat × Nat), l[i]? = some t →
  (Tk.cells s l)[i * 3]? = some (.int .i64 (t.1 : Int)) ∧ (Tk.cells s l)[i * 3 + 1]? = some (.int .i64 (t.2.1 : Int)) ∧ (Tk.cells s l)[i * 3 + 2]? = some (.string (s.extract t.2.1 (t.2.1 + t.2.2))) := by
 induction l with
 | nil => intro i t h; simp at h
 | cons x r ih =>
  intro i t h
  cases i with
  | zero => simp at h; subst h; simp [Tk.cells]
  | succ i =>
   rw [List.getElem?_cons_succ] at h
   obtain ⟨h1, h2, h3⟩ := ih i t h
   have e : Tk.cells s (x :: r) = .int .i64 (x.1 : Int) :: .int .i64 (x.2.1 : Int) :: .string (s.extract x.2.1 (x.2.1 + x.2.2)) :: Tk.cells s r := rfl
   have e0 : (i + 1) * 3 = i * 3 + 1 + 1 + 1 := by omega
   rw [e, e0]
   exact ⟨h1, h2, h3⟩
theorem Tp.add_at (g j : Nat) : (⟨g, 0, none⟩ : Addr).add j = ⟨g, j, none⟩ := by unfold Addr.add; split <;> simp_all
theorem Tp.rt_own {w : World} {base : Nat} {ad : Option Addr} {n cap : Nat} {s : ByteArray} {l : List (Nat × Nat × Nat)} (h : w.ownsRow base 63 3 (.slice ad n cap) l.length (Tk.cells s l)) :
  Tp.RT w ad (Tp.toks s l) := by
 refine ⟨fun i t hi => ?_⟩
 unfold Tp.toks at hi
 rw [List.getElem?_map] at hi
 cases hx : l[i]? with
 | none => rw [hx] at hi; cases hi
 | some x =>
  rw [hx] at hi
  simp at hi
  subst hi
  have hn : 0 < l.length := by
   have := (List.getElem?_eq_some_iff.1 hx).1; omega
  obtain ⟨g, cap', hv, hg1, hg2⟩ := h.form hn
  have hc := h.cells (g := g) (by rw [hv]; rfl)
  obtain ⟨h1, h2, h3⟩ := Tp.cells_at s l i x hx
  cases hv
  refine ⟨g, 0, rfl, hg2, ?_, ?_, ?_⟩
  · have := hc _ _ h1; rw [Nat.zero_add]; rw [Tp.add_at] at this; exact this
  · have := hc _ _ h2; rw [Nat.zero_add]; rw [Tp.add_at] at this; exact this
  · have := hc _ _ h3; rw [Nat.zero_add]; rw [Tp.add_at] at this; exact this
theorem Tp.scan_small (t : ByteArray) (h : t.size ≤ 6000) : Tk.scanR t = Tk.scl (Tk.B t) 0 0 false [] := by
 unfold Tk.scanR
 rw [if_neg (by omega)]
theorem Tp.scan_6000 (s : ByteArray) (h : (Tk.scanR s).2.2 = 0) : s.size ≤ 6000 := by
 apply Classical.byContradiction; intro hh
 have : Tk.scanR s = ([], 0, 2) := by unfold Tk.scanR; rw [if_pos (by omega)]
 rw [this] at h; cases h
theorem Tp.scan_ord (s : ByteArray) (h : (Tk.scanR s).2.2 = 0) : Tk.ordd s.size 0 (Tk.scanR s).1 := by
 have hs := Tp.scan_6000 s h
 rw [Tp.scan_small s hs] at h ⊢
 obtain ⟨m, h1, h2⟩ := Tk.scl_ord (Tk.B s) 0 0 false [] (Nat.zero_le _) h
 rw [h1]
 simpa [Tk.B_length] using h2
theorem Tp.scan_err (s : ByteArray) (h : (Tk.scanR s).2.2 ≠ 0) : (Tk.scanR s).1 = [] := by
 by_cases hs : s.size ≤ 6000
 · rw [Tp.scan_small s hs] at h ⊢; exact Tk.scl_err _ _ _ _ _ h
 · unfold Tk.scanR; rw [if_pos (by omega)]
theorem Tp.B_extract (s : ByteArray) (a n : Nat) : Tk.B (s.extract a (a + n)) = ((Tk.B s).drop a).take n := by
 unfold Tk.B
 rw [Lib.extract_data, List.map_take, List.map_drop]
 congr 1
 omega
def Tp.Good (l : List Tp.T) : Prop := ∀ x ∈ l, Tk.isTok x.k (Tk.B x.t) = true
theorem Tp.good (s : ByteArray) (h : (Tk.scanR s).2.2 = 0) : Tp.Good (Tp.toks s (Tk.scanR s).1) := by
 have hs := Tp.scan_6000 s h
 rw [Tp.scan_small s hs] at h ⊢
 obtain ⟨m, h1, h2⟩ := Tk.scl_toks (Tk.B s) 0 0 false [] h
 rw [h1, List.nil_append]
 intro x hx
 unfold Tp.toks at hx
 obtain ⟨t, ht, rfl⟩ := List.mem_map.1 hx
 obtain ⟨j, h3, h4⟩ := h2 t ht
 rw [Nat.zero_add] at h3
 show Tk.isTok (t.1 : Int) (Tk.B (s.extract t.2.1 (t.2.1 + t.2.2))) = true
 rw [Tp.B_extract, h3]
 exact h4
theorem Tp.toks_len (s : ByteArray) (h : (Tk.scanR s).2.2 = 0) : (Tp.toks s (Tk.scanR s).1).length ≤ 6000 := by
 have h1 := Tk.ordd_length s.size _ 0 (Nat.zero_le _) (Tp.scan_ord s h)
 have h2 := Tp.scan_6000 s h
 unfold Tp.toks
 rw [List.length_map]
 omega
theorem Tp.all_run (p : Int → Bool) : ∀ l : List Int, Tk.run p l = l.length → ∀ c ∈ l, p c = true
 | [], _, c, h => by cases h
 | a :: r, h, c, hc => by
  cases ha : p a
  · simp [Tk.run, ha] at h
  · simp [Tk.run, ha] at h
    rcases List.mem_cons.1 hc with rfl | hc
    · exact ha
    · exact Tp.all_run p r h c hc
theorem Tp.isTok_num {l : List Int} (h : Tk.isTok 2 l = true) : (∀ c ∈ l, Tk.isD c = true) ∧ l.length ≤ 7 ∧ l ≠ [] := by
 obtain ⟨_, _, hb, hk, hn⟩ := (Tk.isTok_iff 2 l).1 h
 cases l with
 | nil => simp [Tk.bad] at hb
 | cons c r =>
  rw [Tk.bad_cons] at hb
  rw [Tk.tokK_cons] at hk
  rw [Tk.tokN_cons] at hn
  cases hl : Tk.isL c
  · cases hd : Tk.isD c
    · exfalso
      simp only [hl, hd, Bool.false_eq_true, if_false] at hk
      split at hk
      · simp at hk
      · split at hk <;> simp at hk
    · simp only [hl, hd, Bool.false_eq_true, if_false, if_true] at hb hn
      have hr : Tk.run Tk.isD r = r.length := by simpa using hn
      refine ⟨fun x hx => ?_, ?_, by simp⟩
      · rcases List.mem_cons.1 hx with rfl | hx
        · exact hd
        · exact Tp.all_run _ r hr x hx
      · by_cases h7 : 7 < Tk.run Tk.isD r + 1
        · simp [h7] at hb
        · rw [List.length_cons]; omega
  · simp [hl] at hk
theorem Tp.isTok_first {k : Int} {c : Int} {r : List Int} (h : Tk.isTok k (c :: r) = true) : Tk.isD c = decide (k = 2) := by
 obtain ⟨_, _, hb, hk, hn⟩ := (Tk.isTok_iff k (c :: r)).1 h
 rw [Tk.tokK_cons] at hk
 cases hl : Tk.isL c
 · cases hd : Tk.isD c
   · simp only [hl, hd, Bool.false_eq_true, if_false] at hk
     symm
     rw [decide_eq_false_iff_not]
     intro h2
     subst h2
     split at hk
     · simp at hk
     · split at hk <;> simp at hk
   · simp only [hl, hd, Bool.false_eq_true, if_false, if_true] at hk
     subst hk
     rfl
 · simp only [hl, if_true] at hk
   subst hk
   have : Tk.isD c = false := by
    simp [Tk.isL] at hl
    simp [Tk.isD]
    omega
   rw [this]
   rfl
theorem Tp.isTok_ne {k : Int} {l : List Int} (h : Tk.isTok k l = true) : l ≠ [] := by
 obtain ⟨_, _, hb, _⟩ := (Tk.isTok_iff k l).1 h
 intro hl
 subst hl
 simp [Tk.bad] at hb
theorem Tp.dec_of : ∀ (l : List UInt8) (acc : Nat), (∀ b ∈ l, Tk.isD (b.toNat : Int) = true) → ∃ n, Lib.decFrom acc l = some n
 | [], acc, _ => ⟨acc, rfl⟩
 | b :: r, acc, h => by
  have hb : 48 ≤ b.toNat ∧ b.toNat ≤ 57 := by
   have := h b (List.mem_cons_self ..)
   simp [Tk.isD] at this
   omega
  have hd : Lib.digitVal b = some (b.toNat - 48) := by unfold Lib.digitVal; rw [if_pos hb]
  obtain ⟨n, hn⟩ := Tp.dec_of r (acc * 10 + (b.toNat - 48)) fun x hx => h x (List.mem_cons_of_mem _ hx)
  exact ⟨n, by unfold Lib.decFrom; rw [hd]; exact hn⟩
theorem Tp.num_tok {t : ByteArray} (h : Tk.isTok 2 (Tk.B t) = true) : ∃ n : Nat, Lib.decFrom 0 t.data.toList = some n ∧ Lib.atoi t.data.toList = some (n : Int) ∧ n < 100000000 ∧ t.size ≤ 7 ∧ 0 < t.size := by
 obtain ⟨h1, h2, h3⟩ := Tp.isTok_num h
 have hlen : t.size ≤ 7 := by rw [Tk.B_length] at h2; exact h2
 have hall : ∀ b ∈ t.data.toList, Tk.isD (b.toNat : Int) = true := fun b hb => h1 _ (List.mem_map_of_mem hb)
 obtain ⟨n, hn⟩ := Tp.dec_of t.data.toList 0 hall
 have hlt := Lib.decFrom_lt _ 0 n hn
 have hl : t.data.toList.length ≤ 7 := by rw [← Lib.size_eq]; exact hlen
 have hpow := Nat.pow_le_pow_right (n := 10) (by decide) hl
 have e7 : (10 : Nat) ^ 7 = 10000000 := by decide
 have hpos : 0 < t.size := by
  have : (Tk.B t).length ≠ 0 := by intro hh; exact h3 (List.length_eq_zero_iff.1 hh)
  rw [Tk.B_length] at this
  omega
 refine ⟨n, hn, ?_, by omega, hlen, hpos⟩
 cases hL : t.data.toList with
 | nil =>
  rw [Lib.size_eq, hL] at hpos
  cases hpos
 | cons b r =>
  rw [hL] at hall hn
  have hb := hall b (List.mem_cons_self ..)
  have hb1 : 48 ≤ b.toNat ∧ b.toNat ≤ 57 := by simp [Tk.isD] at hb; omega
  have n45 : (b == 45) = false := by
   cases h : (b == 45)
   · rfl
   · have : b = 45 := by simpa using h
     subst this
     exact absurd hb1.1 (by decide)
  have n43 : (b == 43) = false := by
   cases h : (b == 43)
   · rfl
   · have : b = 43 := by simpa using h
     subst this
     exact absurd hb1.1 (by decide)
  unfold Lib.atoi
  simp only [n45, n43, Bool.false_eq_true, if_false, Lib.decNat, List.isEmpty_cons, hn, Option.map_some]
theorem Tp.fine (s : ByteArray) (h : (Tk.scanR s).2.2 = 0) : Tp.Fine (Tp.toks s (Tk.scanR s).1) := by
 have hm := Tp.scan_6000 s h
 refine ⟨by have := Tp.toks_len s h; omega, fun i hi => ?_, fun i => ?_⟩
 · by_cases hl : i < (Tp.toks s (Tk.scanR s).1).length
   · have hx := List.getElem?_eq_getElem hl
     rw [Tp.tk_some hx] at hi ⊢
     have hg := Tp.good s h _ (List.getElem_mem hl)
     rw [hi] at hg
     obtain ⟨n, _, h2, h3, h4, _⟩ := Tp.num_tok hg
     exact ⟨n, h2, h3, by omega⟩
   · rw [Tp.tk_none (by omega)] at hi
     cases hi
 · by_cases hl : i < (Tp.toks s (Tk.scanR s).1).length
   · have hx := List.getElem?_eq_getElem hl
     rw [Tp.tk_some hx]
     generalize (Tp.toks s (Tk.scanR s).1)[i] = x at *
     unfold Tp.toks at hx
     rw [List.getElem?_map] at hx
     cases hy : (Tk.scanR s).1[i]? with
     | none => rw [hy] at hx; cases hx
     | some y =>
      rw [hy] at hx
      simp at hx
      subst hx
      show (s.extract _ _).size ≤ maxLen
      rw [ByteArray.size_extract]
      unfold maxLen
      omega
   · rw [Tp.tk_none (by omega)]
     show (0 : Nat) ≤ maxLen
     omega
theorem Tp.own_lt {w : World} {base : Nat} {e : TypeId} {size : Nat} {ad : Option Addr} {n m cap : Nat} {xs : List Value} (h : w.ownsRow base e size (.slice ad m cap) n xs) : ∀ b o, ad = some ⟨b, o, none⟩ → b < w.heap.size := by
 intro b o hb
 rcases h.2 with ⟨hv, hn⟩ | ⟨g, cap, cur, hv, hg, hh, r⟩
 · cases hv; cases hb
 · cases hv
   cases hb
   exact (Array.getElem?_eq_some_iff.1 hh).1
def Tp.out (s : ByteArray) : Except (Int × Nat) (List (Tk.FT 61 6000)) :=
 if (Tk.scanR s).2.2 = 0 then
  match Tp.tree (Tp.toks s (Tk.scanR s).1) (s.size : Int) 6000 with
  | .error j => .error (Tp.pl (Tp.toks s (Tk.scanR s).1) (s.size : Int) j, 1)
  | .ok x => if Tk.chkT x = 0 then .ok x else .error (0, Tk.chkT x)
 else .error (((Tk.scanR s).2.1 : Int), (Tk.scanR s).2.2)
def Tp.OutS (w : World) (o : Except (Int × Nat) (List (Tk.FT 61 6000))) (r : Ending) (w' : World) : Prop :=
 match o with
 | .error (a, y) => r = .returned (.tuple #[.agg #[.slice none 0 0], .int .i64 a, .int .i64 (y : Int)]) ∧ Below w.heap.size w w'
 | .ok x => (∃ s : Tk.Sl, r = .returned (.tuple #[.agg #[.slice s.ad s.len s.cap], .int .i64 0, .int .i64 0]) ∧ Tk.RT w' 61 6000 s x) ∧ Below w.heap.size w w'
theorem tParse_bad (s : ByteArray) (w : World) (hs : s.size ≤ maxLen) (h0 : (Tk.scanR s).2.2 ≠ 0) :
  Calls Tryz.prog 13 #[.string s] w fun r w' => r = .returned (.tuple #[.agg #[.slice none 0 0], .int .i64 ((Tk.scanR s).2.1 : Int), .int .i64 ((Tk.scanR s).2.2 : Int)]) ∧ Below w.heap.size w w' := by
 have HS := hide (fun (W : World) => show Calls Tryz.prog 14 #[.string s] W fun r w' => (∃ ad n cap, r = .returned (.tuple #[.slice ad n cap, .int .i64 ((Tk.scanR s).2.1 : Int), .int .i64 ((Tk.scanR s).2.2 : Int)])) ∧ Below W.heap.size W w' by
  refine (Scan_any s W hs).mono ?_
  rintro r w' ⟨v, rfl, ho, hb⟩
  obtain ⟨ad, cap, rfl⟩ := Tp.own_slice ho
  exact ⟨⟨ad, _, cap, rfl⟩, hb⟩)
 generalize (Tk.scanR s).2.1 = A at *
 generalize (Tk.scanR s).2.2 = Y at *
 have hy : ((Y : Int) != 0) = true := by simp; omega
 clear h0
 go_enter Tryz.func13, Tryz.ntmps13
 go_wp2_with fail
 have hbA := (Below.refl w.heap.size w).alloc (Nat.le_refl _) (Obj.cells #[.slice none 0 0] 24)
 have hzA : Tp.Z1 (w.alloc (Obj.cells #[.slice none 0 0] 24)) w.heap.size := ⟨⟨.slice none 0 0, by go_simp⟩, by go_simp⟩
 have HBA := hide hbA
 have HZA := hide hzA
 clear hbA hzA
 generalize (w.alloc (Obj.cells #[.slice none 0 0] 24)) = WA at *
 refine ((unhide HS) _).mono ?_
 rintro r w1 ⟨⟨ad, n, cap, rfl⟩, hb1⟩
 have HZ1 := hide ((unhide HZA).kept (hb1.block _ (unhide HZA).lt))
 have HB1 := hide ((unhide HBA).trans (hb1.mono (unhide HBA).size))
 clear hb1
 obtain ⟨v0, m0⟩ := (unhide HZ1).c0
 have z0 := (unhide HZ1).f0
 go_wp2_with fail
 have s0 : (w1.setCell ⟨w.heap.size, 0, none⟩ (.slice none 0 0)).cell? ⟨w.heap.size, 0, none⟩ = some (.slice none 0 0) := World.cell?_setCell_same _ _ _ m0
 refine bodyPost_ret (v := .tuple #[.agg #[.slice none 0 0], .int .i64 (A : Int), .int .i64 (Y : Int)]) (by simp [results, Tryz.results13, go_sem, s0]) rfl ?_
 exact ⟨rfl, (unhide HB1).setCell (p := ⟨w.heap.size, 0, none⟩) (Nat.le_refl _) _⟩
theorem tParse_good (s : ByteArray) (w : World) (hs : s.size ≤ maxLen) (h0 : (Tk.scanR s).2.2 = 0) (o : Except (Int × Nat) (List (Tk.FT 61 6000))) (ho : Tp.out s = o) :
  Calls Tryz.prog 13 #[.string s] w (Tp.OutS w o) := by
 have hm : s.size ≤ 6000 := Tp.scan_6000 s h0
 have hO : o = (match Tp.tree (Tp.toks s (Tk.scanR s).1) (s.size : Int) 6000 with
  | .error j => .error (Tp.pl (Tp.toks s (Tk.scanR s).1) (s.size : Int) j, 1)
  | .ok x => if Tk.chkT x = 0 then .ok x else .error (0, Tk.chkT x)) := by
  rw [← ho]
  unfold Tp.out
  rw [if_pos h0]
 have HS := hide (fun (W : World) => show Calls Tryz.prog 14 #[.string s] W fun r w' => (∃ ad cap, r = .returned (.tuple #[.slice ad (Tp.toks s (Tk.scanR s).1).length cap, .int .i64 ((Tk.scanR s).2.1 : Int), .int .i64 0]) ∧ Tp.RT w' ad (Tp.toks s (Tk.scanR s).1) ∧ ∀ b o, ad = some ⟨b, o, none⟩ → b < w'.heap.size) ∧ Below W.heap.size W w' by
  refine (Scan_any s W hs).mono ?_
  rintro r w' ⟨v, rfl, ho, hb⟩
  obtain ⟨ad, cap, rfl⟩ := Tp.own_slice ho
  refine ⟨⟨ad, cap, ?_, Tp.rt_own ho, Tp.own_lt ho⟩, hb⟩
  rw [h0, show (Tp.toks s (Tk.scanR s).1).length = (Tk.scanR s).1.length by unfold Tp.toks; rw [List.length_map]]
  rfl)
 have HP := hide (fun (W : World) (ad : Option Addr) (cap : Nat) (h : Tp.RT W ad (Tp.toks s (Tk.scanR s).1)) (h2 : ∀ b o, ad = some ⟨b, o, none⟩ → b < W.heap.size) => tparse_any (Tp.toks s (Tk.scanR s).1) ad cap (s.size : Int) 6000 (by have := Tp.toks_len s h0; omega) W h h2 (Tp.fine s h0))
 have HO := hide hO
 clear hO ho h0
 generalize Tp.toks s (Tk.scanR s).1 = L at *
 generalize (Tk.scanR s).2.1 = A at *
 go_enter Tryz.func13, Tryz.ntmps13
 go_wp2_with fail
 have hbA := (Below.refl w.heap.size w).alloc (Nat.le_refl _) (Obj.cells #[.slice none 0 0] 24)
 have hzA : Tp.Z1 (w.alloc (Obj.cells #[.slice none 0 0] 24)) w.heap.size := ⟨⟨.slice none 0 0, by go_simp⟩, by go_simp⟩
 have HBA := hide hbA
 have HZA := hide hzA
 clear hbA hzA
 generalize (w.alloc (Obj.cells #[.slice none 0 0] 24)) = WA at *
 refine ((unhide HS) _).mono ?_
 rintro r w1 ⟨⟨ad, cap, rfl, hrt, hlt⟩, hb1⟩
 have HZ1 := hide ((unhide HZA).kept (hb1.block _ (unhide HZA).lt))
 have HB1 := hide ((unhide HBA).trans (hb1.mono (unhide HBA).size))
 have HRT := hide (And.intro hrt hlt)
 clear hb1 hrt hlt
 go_wp2_with fail
 refine ((unhide HP) w1 ad cap (unhide HRT).1 (unhide HRT).2).mono ?_
 intro r w2 hq
 cases hd : Tp.tree L (s.size : Int) 6000 with
 | error j =>
  rw [hd] at hq
  obtain ⟨rfl, hb2⟩ := hq
  obtain rfl : o = .error (Tp.pl L (s.size : Int) j, 1) := by rw [unhide HO, hd]
  have HZ2 := hide ((unhide HZ1).kept (hb2.block _ (unhide HZ1).lt))
  have HB2 := hide ((unhide HB1).trans (hb2.mono (unhide HB1).size))
  clear hb2
  obtain ⟨v0, m0⟩ := (unhide HZ2).c0
  have z0 := (unhide HZ2).f0
  have hltw := (unhide HZ2).lt
  have HBF := hide (((unhide HB2).setCell (p := ⟨w.heap.size, 0, none⟩) (Nat.le_refl _) (.slice none 0 0)))
  have hzs : (w2.setCell ⟨w.heap.size, 0, none⟩ (.slice none 0 0)).heap.size = w2.heap.size := by simp [World.setCell]
  have hs0 : (w2.setCell ⟨w.heap.size, 0, none⟩ (.slice none 0 0)).cell? ⟨w.heap.size, 0, none⟩ = some (.slice none 0 0) := World.cell?_setCell_same _ _ _ m0
  have HS0 := hide hs0
  clear hs0
  go_wp2_with fail
  have s0 := unhide HS0
  generalize (w2.setCell ⟨w.heap.size, 0, none⟩ (.slice none 0 0)) = S at *
  have s3 : w.heap.size < S.heap.size := by omega
  refine bodyPost_ret (v := .tuple #[.agg #[.slice none 0 0], .int .i64 (Tp.pl L (s.size : Int) j), .int .i64 1]) (by simp [results, Tryz.results13, go_sem, s0, s3]) rfl ?_
  exact ⟨rfl, (unhide HBF).alloc (by omega) _⟩
 | ok x =>
  rw [hd] at hq
  obtain ⟨⟨q, rfl, hrt⟩, hb2⟩ := hq
  have HO2 := hide (show o = if Tk.chkT x = 0 then .ok x else .error (0, Tk.chkT x) by rw [unhide HO, hd])
  have HZ2 := hide ((unhide HZ1).kept (hb2.block _ (unhide HZ1).lt))
  have HB2 := hide ((unhide HB1).trans (hb2.mono (unhide HB1).size))
  have hbC := (Below.refl w2.heap.size w2).alloc (Nat.le_refl _) (Obj.cells #[.slice q.ad q.len q.cap] 24)
  have hsC : (w2.alloc (Obj.cells #[.slice q.ad q.len q.cap] 24)).heap.size = w2.heap.size + 1 := by simp
  have HZC := hide ((unhide HZ2).kept (hbC.block _ (unhide HZ2).lt))
  have HBC := hide ((unhide HB2).trans (hbC.mono (unhide HB2).size))
  have HOW2 := hide (hrt.go hbC.size (fun q _ _ hq => hbC.block q hq))
  have hw1 := (unhide HZ1).lt
  have HCC := hide (show (w2.alloc (Obj.cells #[.slice q.ad q.len q.cap] 24)).cell? ⟨w2.heap.size, 0, none⟩ = some (.slice q.ad q.len q.cap) by go_simp)
  have hltw := (unhide HZ2).lt
  clear hb2 hbC hrt hd HO
  go_wp2_with fail
  generalize (w2.alloc (Obj.cells #[.slice q.ad q.len q.cap] 24)) = WC at *
  refine (tCheck_any q x WC (unhide HOW2).now).mono ?_
  rintro r w3 ⟨rfl, hb3⟩
  have HZ3 := hide ((unhide HZC).kept (hb3.block _ (unhide HZC).lt))
  have HB3 := hide ((unhide HBC).trans (hb3.mono (unhide HBC).size))
  have HOW3 := hide ((unhide HOW2).go hb3.size (fun q _ _ hq => hb3.block q hq))
  have k0 : w3.cell? ⟨w2.heap.size, 0, none⟩ = some (.slice q.ad q.len q.cap) := (hb3.cell (p := ⟨w2.heap.size, 0, none⟩) (by show w2.heap.size < _; omega)).trans (unhide HCC)
  have hs3 := hb3.size
  clear hb3
  obtain ⟨v0, m0⟩ := (unhide HZ3).c0
  have z0 := (unhide HZ3).f0
  have hne : w2.heap.size ≠ w.heap.size := by omega
  have hne2 : w.heap.size ≠ w2.heap.size := by omega
  generalize Tk.chkT x = y at *
  by_cases hy : y = 0
  · subst hy
    obtain rfl : o = .ok x := by rw [unhide HO2]; rfl
    have hs0 : (w3.setCell ⟨w.heap.size, 0, none⟩ (.slice q.ad q.len q.cap)).cell? ⟨w.heap.size, 0, none⟩ = some (.slice q.ad q.len q.cap) := World.cell?_setCell_same _ _ _ m0
    have HS0 := hide hs0
    have HBF := hide ((unhide HB3).setCell (p := ⟨w.heap.size, 0, none⟩) (Nat.le_refl _) (.slice q.ad q.len q.cap))
    clear hs0
    go_wp2_with fail
    have s0 := unhide HS0
    refine bodyPost_ret (v := .tuple #[.agg #[.slice q.ad q.len q.cap], .int .i64 0, .int .i64 0]) (by simp [results, Tryz.results13, go_sem, s0]) rfl ?_
    exact ⟨⟨q, rfl, ((unhide HOW3).go (by simp [World.setCell]) (fun q h1 _ _ => Below.heap_setCell _ _ _ _ (show q ≠ w.heap.size by omega))).now⟩, unhide HBF⟩
  · have hyb : (((y : Nat) : Int) != 0) = true := by simp; omega
    obtain rfl : o = .error (0, y) := by rw [unhide HO2, if_neg hy]
    have hs0 : (w3.setCell ⟨w.heap.size, 0, none⟩ (.slice none 0 0)).cell? ⟨w.heap.size, 0, none⟩ = some (.slice none 0 0) := World.cell?_setCell_same _ _ _ m0
    have HS0 := hide hs0
    have HBF := hide ((unhide HB3).setCell (p := ⟨w.heap.size, 0, none⟩) (Nat.le_refl _) (.slice none 0 0))
    clear hs0
    go_wp2_with fail
    have s0 := unhide HS0
    refine bodyPost_ret (v := .tuple #[.agg #[.slice none 0 0], .int .i64 0, .int .i64 (y : Int)]) (by simp [results, Tryz.results13, go_sem, s0]) rfl ?_
    exact ⟨rfl, unhide HBF⟩
theorem tParse_any (s : ByteArray) (w : World) (hs : s.size ≤ maxLen) : Calls Tryz.prog 13 #[.string s] w (Tp.OutS w (Tp.out s)) := by
 by_cases h0 : (Tk.scanR s).2.2 = 0
 · exact tParse_good s w hs h0 _ rfl
 · unfold Tp.out
   rw [if_neg h0]
   exact tParse_bad s w hs h0
end Go.Proofs.YtfccpddehpgfoaaGreatDoor
