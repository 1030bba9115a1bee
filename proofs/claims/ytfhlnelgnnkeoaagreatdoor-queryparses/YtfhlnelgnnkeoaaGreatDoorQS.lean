/-
  Several texts in one: QS1, QS2. By the verifier.
-/
import Derived.Test.YtfhlnelgnnkeoaaGreatDoorQP5
import Derived.Test.YtfhlnelgnnkeoaaGreatDoorQRa
import Derived.Test.YtfhlnelgnnkeoaaGreatDoorTokC
import Derived.Test.YtfhlnelgnnkeoaaGreatDoorQRc
namespace Go.Proofs.YtfhlnelgnnkeoaaGreatDoor
open Go.RowKit
set_option linter.unusedVariables false

theorem Qp.scan_small (t : ByteArray) (h : t.size ≤ 6000) : Tk.scanR t = Tk.scl (Tk.B t) 0 0 false [] := by
  unfold Tk.scanR
  rw [if_neg (by omega)]
theorem Qp.scan_6000 (s : ByteArray) (h : (Tk.scanR s).2.2 = 0) : s.size ≤ 6000 := by
  apply Classical.byContradiction; intro hh
  have : Tk.scanR s = ([], 0, 2) := by unfold Tk.scanR; rw [if_pos (by omega)]
  rw [this] at h; cases h
theorem Qp.scan_ord (s : ByteArray) (h : (Tk.scanR s).2.2 = 0) : Tk.ordd s.size 0 (Tk.scanR s).1 := by
  have hs := Qp.scan_6000 s h
  rw [Qp.scan_small s hs] at h ⊢
  obtain ⟨m, h1, h2⟩ := Tk.scl_ord (Tk.B s) 0 0 false [] (Nat.zero_le _) h
  rw [h1]
  simpa [Tk.B_length] using h2
theorem Qp.scan_err (s : ByteArray) (h : (Tk.scanR s).2.2 ≠ 0) : (Tk.scanR s).1 = [] := by
  by_cases hs : s.size ≤ 6000
  · rw [Qp.scan_small s hs] at h ⊢; exact Tk.scl_err _ _ _ _ _ h
  · unfold Tk.scanR; rw [if_pos (by omega)]
theorem Qp.B_extract (s : ByteArray) (a n : Nat) : Tk.B (s.extract a (a + n)) = ((Tk.B s).drop a).take n := by
  unfold Tk.B
  rw [Lib.extract_data, List.map_take, List.map_drop]
  congr 1
  omega
/-- Each of them is a token. -/
def Qp.Good (l : List Qp.T) : Prop := ∀ x ∈ l, Tk.isTok x.k (Tk.B x.t) = true
theorem Qp.good (s : ByteArray) (h : (Tk.scanR s).2.2 = 0) : Qp.Good (Qp.toks s (Tk.scanR s).1) := by
  have hs := Qp.scan_6000 s h
  rw [Qp.scan_small s hs] at h ⊢
  obtain ⟨m, h1, h2⟩ := Tk.scl_toks (Tk.B s) 0 0 false [] h
  rw [h1, List.nil_append]
  intro x hx
  unfold Qp.toks at hx
  obtain ⟨t, ht, rfl⟩ := List.mem_map.1 hx
  obtain ⟨j, h3, h4⟩ := h2 t ht
  rw [Nat.zero_add] at h3
  show Tk.isTok (t.1 : Int) (Tk.B (s.extract t.2.1 (t.2.1 + t.2.2))) = true
  rw [Qp.B_extract, h3]
  exact h4
theorem Qp.toks_len (s : ByteArray) (h : (Tk.scanR s).2.2 = 0) : (Qp.toks s (Tk.scanR s).1).length ≤ 6000 := by
  have h1 := Tk.ordd_length s.size _ 0 (Nat.zero_le _) (Qp.scan_ord s h)
  have h2 := Qp.scan_6000 s h
  unfold Qp.toks
  rw [List.length_map]
  omega
theorem Qp.all_run (p : Int → Bool) : ∀ l : List Int, Tk.run p l = l.length → ∀ c ∈ l, p c = true
  | [], _, c, h => by cases h
  | a :: r, h, c, hc => by
    cases ha : p a
    · simp [Tk.run, ha] at h
    · simp [Tk.run, ha] at h
      rcases List.mem_cons.1 hc with rfl | hc
      · exact ha
      · exact Qp.all_run p r h c hc
/-- A number's bytes are digits, seven at most. -/
theorem Qp.isTok_num {l : List Int} (h : Tk.isTok 2 l = true) : (∀ c ∈ l, Tk.isD c = true) ∧ l.length ≤ 7 ∧ l ≠ [] := by
  obtain ⟨_, _, hb, hk, hn⟩ := (Tk.isTok_iff 2 l).1 h
  cases l with
  | nil => simp [Tk.bad] at hb
  | cons c r =>
    rw [Tk.bad_cons] at hb
    rw [Tk.tokK_cons] at hk
    rw [Tk.tokN_cons] at hn
    cases hl : Tk.isL c
    · cases hd : Tk.isD c
      · exfalso
        simp only [hl, hd, Bool.false_eq_true, if_false] at hk
        split at hk
        · simp at hk
        · split at hk <;> simp at hk
      · simp only [hl, hd, Bool.false_eq_true, if_false, if_true] at hb hn
        have hr : Tk.run Tk.isD r = r.length := by simpa using hn
        refine ⟨fun x hx => ?_, ?_, by simp⟩
        · rcases List.mem_cons.1 hx with rfl | hx
          · exact hd
          · exact Qp.all_run _ r hr x hx
        · by_cases h7 : 7 < Tk.run Tk.isD r + 1
          · simp [h7] at hb
          · rw [List.length_cons]; omega
    · simp [hl] at hk
/-- Only a number begins with a digit. -/
theorem Qp.isTok_first {k : Int} {c : Int} {r : List Int} (h : Tk.isTok k (c :: r) = true) : Tk.isD c = decide (k = 2) := by
  obtain ⟨_, _, hb, hk, hn⟩ := (Tk.isTok_iff k (c :: r)).1 h
  rw [Tk.tokK_cons] at hk
  cases hl : Tk.isL c
  · cases hd : Tk.isD c
    · simp only [hl, hd, Bool.false_eq_true, if_false] at hk
      symm
      rw [decide_eq_false_iff_not]
      intro h2
      subst h2
      split at hk
      · simp at hk
      · split at hk <;> simp at hk
    · simp only [hl, hd, Bool.false_eq_true, if_false, if_true] at hk
      subst hk
      rfl
  · simp only [hl, if_true] at hk
    subst hk
    have : Tk.isD c = false := by
      simp [Tk.isL] at hl
      simp [Tk.isD]
      omega
    rw [this]
    rfl
theorem Qp.isTok_ne {k : Int} {l : List Int} (h : Tk.isTok k l = true) : l ≠ [] := by
  obtain ⟨_, _, hb, _⟩ := (Tk.isTok_iff k l).1 h
  intro hl
  subst hl
  simp [Tk.bad] at hb
theorem Qp.dec_of : ∀ (l : List UInt8) (acc : Nat), (∀ b ∈ l, Tk.isD (b.toNat : Int) = true) → ∃ n, Lib.decFrom acc l = some n
  | [], acc, _ => ⟨acc, rfl⟩
  | b :: r, acc, h => by
    have hb : 48 ≤ b.toNat ∧ b.toNat ≤ 57 := by
      have := h b (List.mem_cons_self ..)
      simp [Tk.isD] at this
      omega
    have hd : Lib.digitVal b = some (b.toNat - 48) := by unfold Lib.digitVal; rw [if_pos hb]
    obtain ⟨n, hn⟩ := Qp.dec_of r (acc * 10 + (b.toNat - 48)) fun x hx => h x (List.mem_cons_of_mem _ hx)
    exact ⟨n, by unfold Lib.decFrom; rw [hd]; exact hn⟩
/-- A number that can be read. -/
theorem Qp.num_tok {t : ByteArray} (h : Tk.isTok 2 (Tk.B t) = true) : ∃ n : Nat, Lib.decFrom 0 t.data.toList = some n ∧ Lib.atoi t.data.toList = some (n : Int) ∧ n < 100000000 ∧ t.size ≤ 7 ∧ 0 < t.size := by
  obtain ⟨h1, h2, h3⟩ := Qp.isTok_num h
  have hlen : t.size ≤ 7 := by rw [Tk.B_length] at h2; exact h2
  have hall : ∀ b ∈ t.data.toList, Tk.isD (b.toNat : Int) = true := fun b hb => h1 _ (List.mem_map_of_mem hb)
  obtain ⟨n, hn⟩ := Qp.dec_of t.data.toList 0 hall
  have hlt := Lib.decFrom_lt _ 0 n hn
  have hl : t.data.toList.length ≤ 7 := by rw [← Lib.size_eq]; exact hlen
  have hpow := Nat.pow_le_pow_right (n := 10) (by decide) hl
  have e7 : (10 : Nat) ^ 7 = 10000000 := by decide
  have hpos : 0 < t.size := by
    have : (Tk.B t).length ≠ 0 := by intro hh; exact h3 (List.length_eq_zero_iff.1 hh)
    rw [Tk.B_length] at this
    omega
  refine ⟨n, hn, ?_, by omega, hlen, hpos⟩
  cases hL : t.data.toList with
  | nil =>
    rw [Lib.size_eq, hL] at hpos
    cases hpos
  | cons b r =>
    rw [hL] at hall hn
    have hb := hall b (List.mem_cons_self ..)
    have hb1 : 48 ≤ b.toNat ∧ b.toNat ≤ 57 := by simp [Tk.isD] at hb; omega
    have n45 : (b == 45) = false := by
      cases h : (b == 45)
      · rfl
      · have : b = 45 := by simpa using h
        subst this
        exact absurd hb1.1 (by decide)
    have n43 : (b == 43) = false := by
      cases h : (b == 43)
      · rfl
      · have : b = 43 := by simpa using h
        subst this
        exact absurd hb1.1 (by decide)
    unfold Lib.atoi
    simp only [n45, n43, Bool.false_eq_true, if_false, Lib.decNat, List.isEmpty_cons, hn, Option.map_some]
theorem Qp.good_num {l : List Qp.T} (h : Qp.Good l) : Qp.Num l := by
  intro i hi
  by_cases hl : i < l.length
  · have hx := List.getElem?_eq_getElem hl
    rw [Qp.tk_some hx] at hi ⊢
    have hg := h _ (List.getElem_mem hl)
    rw [hi] at hg
    obtain ⟨n, _, h2, h3, h4, _⟩ := Qp.num_tok hg
    exact ⟨n, h2, h3, by omega⟩
  · rw [Qp.tk_none (by omega)] at hi
    cases hi
end Go.Proofs.YtfhlnelgnnkeoaaGreatDoor
namespace Go.Proofs.YtfhlnelgnnkeoaaGreatDoor
open Go.RowKit
set_option linter.unusedVariables false

/-- The query of a text, or the place and the error. -/
def Qp.out (s : ByteArray) : Except (Int × Nat) (Qk.AT 61) :=
  if (Tk.scanR s).2.2 = 0 then
    match Qp.prs (Qp.toks s (Tk.scanR s).1) with
    | .error j => .error (Qp.pl (Qp.toks s (Tk.scanR s).1) (s.size : Int) j, 1)
    | .ok x => if Qk.chk 61 x = 0 then .ok x else .error (0, Qk.chk 61 x)
  else .error (((Tk.scanR s).2.1 : Int), (Tk.scanR s).2.2)
/-- What Parse leaves. -/
def Qp.OutS (w : World) (o : Except (Int × Nat) (Qk.AT 61)) (r : Ending) (w' : World) : Prop :=
  match o with
  | .error (a, y) => r = .returned (.tuple #[.agg #[.int .i64 0, .int .i64 0, .slice none 0 0], .int .i64 a, .int .i64 (y : Int)]) ∧ Below w.heap.size w w'
  | .ok x => (∃ E : Qk.E, r = .returned (.tuple #[.agg #[.int .i64 E.k, .int .i64 E.n, .slice E.args.ad E.args.len E.args.cap], .int .i64 0, .int .i64 0]) ∧ Qk.RA w' 61 E x) ∧ Below w.heap.size w w'
theorem Qp.own_lt {w : World} {base : Nat} {e : TypeId} {size : Nat} {ad : Option Addr} {n m cap : Nat} {xs : List Value} (h : w.ownsRow base e size (.slice ad m cap) n xs) : ∀ b o, ad = some ⟨b, o, none⟩ → b < w.heap.size := by
  intro b o hb
  rcases h.2 with ⟨hv, hn⟩ | ⟨g, cap, cur, hv, hg, hh, r⟩
  · cases hv; cases hb
  · cases hv
    cases hb
    exact (Array.getElem?_eq_some_iff.1 hh).1

set_option maxRecDepth 100000 in
set_option maxHeartbeats 1600000 in
theorem Parse_bad (s : ByteArray) (w : World) (hs : s.size ≤ maxLen) (h0 : (Tk.scanR s).2.2 ≠ 0) :
    Calls Tryz.prog 13 #[.string s] w fun r w' => r = .returned (.tuple #[.agg #[.int .i64 0, .int .i64 0, .slice none 0 0], .int .i64 ((Tk.scanR s).2.1 : Int), .int .i64 ((Tk.scanR s).2.2 : Int)]) ∧ Below w.heap.size w w' := by
  have HS := hide (fun (W : World) => show Calls Tryz.prog 31 #[.string s] W fun r w' => (∃ ad n cap, r = .returned (.tuple #[.slice ad n cap, .int .i64 ((Tk.scanR s).2.1 : Int), .int .i64 ((Tk.scanR s).2.2 : Int)])) ∧ Below W.heap.size W w' by
    refine (Scan_any s W hs).mono ?_
    rintro r w' ⟨v, rfl, ho, hb⟩
    obtain ⟨ad, cap, rfl⟩ := Qp.own_slice ho
    exact ⟨⟨ad, _, cap, rfl⟩, hb⟩)
  generalize (Tk.scanR s).2.1 = A at *
  generalize (Tk.scanR s).2.2 = Y at *
  have hy : ((Y : Int) != 0) = true := by simp; omega
  clear h0
  go_enter Tryz.func13, Tryz.ntmps13
  go_wp2_with fail
  have hbA := (Below.refl w.heap.size w).alloc (Nat.le_refl _) (Obj.cells #[.int .i64 0, .int .i64 0, .slice none 0 0] 24)
  have hzA : Qp.Z3 (w.alloc (Obj.cells #[.int .i64 0, .int .i64 0, .slice none 0 0] 24)) w.heap.size := ⟨⟨.int .i64 0, by go_simp⟩, ⟨.int .i64 0, by go_simp⟩, ⟨.slice none 0 0, by go_simp⟩, fun i => by go_simp⟩
  have HBA := hide hbA
  have HZA := hide hzA
  clear hbA hzA
  generalize (w.alloc (Obj.cells #[.int .i64 0, .int .i64 0, .slice none 0 0] 24)) = WA at *
  refine ((unhide HS) _).mono ?_
  rintro r w1 ⟨⟨ad, n, cap, rfl⟩, hb1⟩
  have HZ1 := hide ((unhide HZA).later hb1)
  have HB1 := hide ((unhide HBA).trans (hb1.mono (unhide HBA).size))
  clear hb1
  have HSR := hide (Qp.ret3 (unhide HZ1) (.int .i64 0) (.int .i64 0) (.slice none 0 0))
  obtain ⟨v0, m0⟩ := (unhide HZ1).c0
  obtain ⟨v1, m1⟩ := (unhide HZ1).c1
  obtain ⟨v2, m2⟩ := (unhide HZ1).c2
  have z0 := (unhide HZ1).f 0
  have z1 := (unhide HZ1).f 1
  have z2 := (unhide HZ1).f 2
  go_wp2_with fail
  obtain ⟨⟨s0, s1, s2⟩, hsS, hbS, haS, hkS⟩ := unhide HSR
  refine bodyPost_ret (v := .tuple #[.agg #[.int .i64 0, .int .i64 0, .slice none 0 0], .int .i64 (A : Int), .int .i64 (Y : Int)]) (by simp [results, Tryz.results13, go_sem, s0, s1, s2]) rfl ?_
  exact ⟨rfl, (unhide HB1).trans hbS⟩

set_option maxRecDepth 100000 in
set_option maxHeartbeats 1600000 in
theorem Parse_good (s : ByteArray) (w : World) (hs : s.size ≤ maxLen) (h0 : (Tk.scanR s).2.2 = 0) (o : Except (Int × Nat) (Qk.AT 61)) (ho : Qp.out s = o) :
    Calls Tryz.prog 13 #[.string s] w (Qp.OutS w o) := by
  have hm : s.size ≤ 6000 := Qp.scan_6000 s h0
  have hO : o = (match Qp.prs (Qp.toks s (Tk.scanR s).1) with
    | .error j => .error (Qp.pl (Qp.toks s (Tk.scanR s).1) (s.size : Int) j, 1)
    | .ok x => if Qk.chk 61 x = 0 then .ok x else .error (0, Qk.chk 61 x)) := by
    rw [← ho]
    unfold Qp.out
    rw [if_pos h0]
  have HS := hide (fun (W : World) => show Calls Tryz.prog 31 #[.string s] W fun r w' => (∃ ad cap, r = .returned (.tuple #[.slice ad (Qp.toks s (Tk.scanR s).1).length cap, .int .i64 ((Tk.scanR s).2.1 : Int), .int .i64 0]) ∧ Qp.RT w' ad (Qp.toks s (Tk.scanR s).1) ∧ ∀ b o, ad = some ⟨b, o, none⟩ → b < w'.heap.size) ∧ Below W.heap.size W w' by
    refine (Scan_any s W hs).mono ?_
    rintro r w' ⟨v, rfl, ho, hb⟩
    obtain ⟨ad, cap, rfl⟩ := Qp.own_slice ho
    refine ⟨⟨ad, cap, ?_, Qp.rt_own ho, Qp.own_lt ho⟩, hb⟩
    rw [h0, show (Qp.toks s (Tk.scanR s).1).length = (Tk.scanR s).1.length by unfold Qp.toks; rw [List.length_map]]
    rfl)
  have HP := hide (fun (W : World) (ad : Option Addr) (cap : Nat) (h : Qp.RT W ad (Qp.toks s (Tk.scanR s).1)) (h2 : ∀ b o, ad = some ⟨b, o, none⟩ → b < W.heap.size) => parse_any (Qp.toks s (Tk.scanR s).1) ad cap (s.size : Int) W h h2 (by have := Qp.toks_len s h0; omega) (Qp.good_num (Qp.good s h0)))
  have HC := hide (fun (W : World) (E : Qk.E) (x : Qk.AT 61) (h : Qk.RA W 61 E x) => show Calls Tryz.prog 12 #[.agg #[.int .i64 E.k, .int .i64 E.n, .slice E.args.ad E.args.len E.args.cap]] W fun r w' => r = .returned (.int .i64 ((Qk.chk 61 x : Nat) : Int)) ∧ Below W.heap.size W w' from qCheck_any 61 E x W h)
  have HO := hide hO
  clear hO ho h0
  generalize Qp.toks s (Tk.scanR s).1 = L at *
  generalize (Tk.scanR s).2.1 = A at *
  go_enter Tryz.func13, Tryz.ntmps13
  go_wp2_with fail
  have hbA := (Below.refl w.heap.size w).alloc (Nat.le_refl _) (Obj.cells #[.int .i64 0, .int .i64 0, .slice none 0 0] 24)
  have hzA : Qp.Z3 (w.alloc (Obj.cells #[.int .i64 0, .int .i64 0, .slice none 0 0] 24)) w.heap.size := ⟨⟨.int .i64 0, by go_simp⟩, ⟨.int .i64 0, by go_simp⟩, ⟨.slice none 0 0, by go_simp⟩, fun i => by go_simp⟩
  have HBA := hide hbA
  have HZA := hide hzA
  clear hbA hzA
  generalize (w.alloc (Obj.cells #[.int .i64 0, .int .i64 0, .slice none 0 0] 24)) = WA at *
  refine ((unhide HS) _).mono ?_
  rintro r w1 ⟨⟨ad, cap, rfl, hrt, hlt⟩, hb1⟩
  have HZ1 := hide ((unhide HZA).later hb1)
  have HB1 := hide ((unhide HBA).trans (hb1.mono (unhide HBA).size))
  have HRT := hide (And.intro hrt hlt)
  clear hb1 hrt hlt
  go_wp2_with fail
  refine ((unhide HP) w1 ad cap (unhide HRT).1 (unhide HRT).2).mono ?_
  intro r w2 hq
  cases hd : Qp.prs L with
  | error j =>
    rw [hd] at hq
    obtain ⟨rfl, hb2⟩ := hq
    obtain rfl : o = .error (Qp.pl L (s.size : Int) j, 1) := by rw [unhide HO, hd]
    have HZ2 := hide ((unhide HZ1).later hb2)
    have HB2 := hide ((unhide HB1).trans (hb2.mono (unhide HB1).size))
    clear hb2
    have HSR := hide (Qp.ret3 (unhide HZ2) (.int .i64 0) (.int .i64 0) (.slice none 0 0))
    obtain ⟨v0, m0⟩ := (unhide HZ2).c0
    obtain ⟨v1, m1⟩ := (unhide HZ2).c1
    obtain ⟨v2, m2⟩ := (unhide HZ2).c2
    have z0 := (unhide HZ2).f 0
    have z1 := (unhide HZ2).f 1
    have z2 := (unhide HZ2).f 2
    have hltw := (unhide HZ2).lt
    go_wp2_with fail
    obtain ⟨⟨s0, s1, s2⟩, hsS, hbS, haS, hkS⟩ := unhide HSR
    generalize (((w2.setCell ⟨w.heap.size, 0, none⟩ (.int .i64 0)).setCell ⟨w.heap.size, 1, none⟩ (.int .i64 0)).setCell ⟨w.heap.size, 2, none⟩ (.slice none 0 0)) = S at *
    have s3 : w.heap.size < S.heap.size := by omega
    refine bodyPost_ret (v := .tuple #[.agg #[.int .i64 0, .int .i64 0, .slice none 0 0], .int .i64 (Qp.pl L (s.size : Int) j), .int .i64 1]) (by simp [results, Tryz.results13, go_sem, s0, s1, s2, s3]) rfl ?_
    exact ⟨rfl, ((unhide HB2).trans hbS).alloc (by omega) _⟩
  | ok x =>
    rw [hd] at hq
    obtain ⟨⟨E, rfl, hro⟩, hb2⟩ := hq
    have HO2 := hide (show o = if Qk.chk 61 x = 0 then .ok x else .error (0, Qk.chk 61 x) by rw [unhide HO, hd])
    have HZ2 := hide ((unhide HZ1).later hb2)
    have HB2 := hide ((unhide HB1).trans (hb2.mono (unhide HB1).size))
    have HRO := hide hro
    have hz1 := (unhide HZ1).lt
    have hs12 := hb2.size
    clear hb2 hro HO
    go_wp2_with fail
    have hbC := (Below.refl w2.heap.size w2).alloc (Nat.le_refl _) (Obj.cells #[.int .i64 E.k, .int .i64 E.n, .slice E.args.ad E.args.len E.args.cap] 24)
    have hsC : (w2.alloc (Obj.cells #[.int .i64 E.k, .int .i64 E.n, .slice E.args.ad E.args.len E.args.cap] 24)).heap.size = w2.heap.size + 1 := by simp
    have HLC := hide (Qp.lies_new w2 E)
    have HZC := hide ((unhide HZ2).later hbC)
    have HBC := hide ((unhide HB2).trans (hbC.mono (unhide HB2).size))
    have HROC := hide ((unhide HRO).ab (Qp.Ab.of_below hbC))
    clear hbC
    generalize (w2.alloc (Obj.cells #[.int .i64 E.k, .int .i64 E.n, .slice E.args.ad E.args.len E.args.cap] 24)) = WC at *
    refine ((unhide HC) WC E x (unhide HROC).ra).mono ?_
    rintro r w3 ⟨rfl, hb3⟩
    have HL3 := hide ((unhide HLC).bel hb3)
    have HZ3 := hide ((unhide HZC).later hb3)
    have HB3 := hide ((unhide HBC).trans (hb3.mono (unhide HBC).size))
    have HRO3 := hide ((unhide HROC).ab (Qp.Ab.of_below hb3))
    have hs3 := hb3.size
    clear hb3
    obtain ⟨y0, y1, y2⟩ := unhide HL3
    obtain ⟨v0, m0⟩ := (unhide HZ3).c0
    obtain ⟨v1, m1⟩ := (unhide HZ3).c1
    obtain ⟨v2, m2⟩ := (unhide HZ3).c2
    have z0 := (unhide HZ3).f 0
    have z1 := (unhide HZ3).f 1
    have z2 := (unhide HZ3).f 2
    have hltw := (unhide HZ3).lt
    by_cases hc : Qk.chk 61 x = 0
    · have HSR := hide (Qp.ret3 (unhide HZ3) (.int .i64 E.k) (.int .i64 E.n) (.slice E.args.ad E.args.len E.args.cap))
      obtain rfl : o = .ok x := by rw [unhide HO2, if_pos hc]
      rw [hc]
      go_wp2_with fail
      obtain ⟨⟨s0, s1, s2⟩, hsS, hbS, haS, hkS⟩ := unhide HSR
      refine bodyPost_ret (v := .tuple #[.agg #[.int .i64 E.k, .int .i64 E.n, .slice E.args.ad E.args.len E.args.cap], .int .i64 0, .int .i64 0]) (by simp [results, Tryz.results13, go_sem, s0, s1, s2]) rfl ?_
      exact ⟨⟨E, rfl, ((unhide HRO3).ab (haS _ hz1)).ra⟩, (unhide HB3).trans hbS⟩
    · have HSR := hide (Qp.ret3 (unhide HZ3) (.int .i64 0) (.int .i64 0) (.slice none 0 0))
      obtain rfl : o = .error (0, Qk.chk 61 x) := by rw [unhide HO2, if_neg hc]
      generalize Qk.chk 61 x = C at *
      have hc1 : ((C : Int) != 0) = true := by simp; omega
      clear hc
      go_wp2_with fail
      obtain ⟨⟨s0, s1, s2⟩, hsS, hbS, haS, hkS⟩ := unhide HSR
      refine bodyPost_ret (v := .tuple #[.agg #[.int .i64 0, .int .i64 0, .slice none 0 0], .int .i64 0, .int .i64 (C : Int)]) (by simp [results, Tryz.results13, go_sem, s0, s1, s2]) rfl ?_
      exact ⟨rfl, (unhide HB3).trans hbS⟩

theorem Parse_any (s : ByteArray) (w : World) (hs : s.size ≤ maxLen) :
    Calls Tryz.prog 13 #[.string s] w (Qp.OutS w (Qp.out s)) := by
  by_cases h0 : (Tk.scanR s).2.2 = 0
  · exact Parse_good s w hs h0 _ rfl
  · have e : Qp.out s = .error (((Tk.scanR s).2.1 : Int), (Tk.scanR s).2.2) := by unfold Qp.out; rw [if_neg h0]
    rw [e]
    exact Parse_bad s w hs h0
end Go.Proofs.YtfhlnelgnnkeoaaGreatDoor
