/- By the verifier. -/
import Derived.Test.YtfccpddehpgfoaaGreatDoorYD
import Derived.Test.YtfccpddehpgfoaaGreatDoorYB
namespace Go.Proofs.YtfccpddehpgfoaaGreatDoor
open Go.RowKit
set_option linter.unusedVariables false
theorem Za1 (a b : ByteArray) : Tk.B (a ++ b) = Tk.B a ++ Tk.B b := by
 unfold Tk.B
 simp
def Qp.ends (r : List Int) : Prop := r = [] ∨ ∃ c q, r = c :: q ∧ Tk.isLD c = false
theorem ZdQ (p : Int → Bool) (r : List Int) (hr : r = [] ∨ ∃ c q, r = c :: q ∧ p c = false) : ∀ q : List Int, Tk.run p q = q.length → Tk.run p (q ++ r) = q.length
 | [], _ => by
  rcases hr with rfl | ⟨c, q, rfl, hc⟩
  · rfl
  simp [Tk.run, hc]
 | a :: q, h => by
  cases ha : p a
  · simp [Tk.run, ha] at h
  simp [Tk.run, ha] at h ⊢
  exact ZdQ p r hr q h
theorem Qp.ends.digit {r : List Int} (h : Qp.ends r) : r = [] ∨ ∃ c q, r = c :: q ∧ Tk.isD c = false := by
 rcases h with h | ⟨c, q, h1, h2⟩
 · exact Or.inl h
 refine Or.inr ⟨c, q, h1, ?_⟩
 unfold Tk.isLD at h2
 rw [Bool.or_eq_false_iff] at h2
 exact h2.2
def Qp.Sc (T rest : List Int) (ks : List (Nat × List Int)) : Prop := ∀ (pos : Nat) (acc : List (Nat × Nat × Nat)), ∃ m, Tk.scl (T ++ rest) pos 0 false acc = Tk.scl rest (pos + T.length) 0 false (acc ++ m) ∧ (∀ t ∈ m, pos ≤ t.2.1) ∧ m.map (fun t => (t.1, ((T ++ rest).drop (t.2.1 - pos)).take t.2.2)) = ks
theorem Zaq {T1 T2 rest : List Int} {k1 k2 : List (Nat × List Int)} (h1 : Qp.Sc T1 (T2 ++ rest) k1) (h2 : Qp.Sc T2 rest k2) : Qp.Sc (T1 ++ T2) rest (k1 ++ k2) := by
 intro pos acc
 obtain ⟨m1, a1, b1, c1⟩ := h1 pos acc
 obtain ⟨m2, a2, b2, c2⟩ := h2 (pos + T1.length) (acc ++ m1)
 refine ⟨m1 ++ m2, ?_, ?_, ?_⟩
 · rw [List.append_assoc, a1, a2, Za, Nat.add_assoc, List.append_assoc]
 · intro t ht
   rcases List.mem_append.1 ht with ht | ht
   · exact b1 t ht
   have := b2 t ht; omega
 rw [List.map_append, ← c1, ← c2, List.append_assoc]
 congr 1
 refine List.map_congr_left fun t ht => ?_
 have := b2 t ht
 rw [List.drop_append, List.drop_of_length_le (by omega), List.nil_append, show t.2.1 - pos - T1.length = t.2.1 - (pos + T1.length) by omega]
theorem ZdR (rest : List Int) : Qp.Sc [32] rest [] := by
 intro pos acc
 exact ⟨[], by rw [List.append_nil]; exact Tk.scl_blank 32 rest pos acc rfl rfl, fun t ht => (by cases ht), rfl⟩
theorem Zer {c : Int} {q rest : List Int} {k : Nat} (hf : Tk.free c = true) (hb : Tk.bad (c :: (q ++ rest)) = 0) (hk : Tk.tokK (c :: (q ++ rest)) = k) (hn : Tk.tokN (c :: (q ++ rest)) = q.length + 1) : Qp.Sc (c :: q) rest [(k, c :: q)] := by
 intro pos acc
 refine ⟨[(k, pos, q.length + 1)], ?_, ?_, ?_⟩
 · rw [List.cons_append, Tk.scl_tok c (q ++ rest) pos acc hf hb, hk, hn, List.drop_succ_cons, List.drop_left, Zo]
 · intro t ht
   rw [List.mem_singleton] at ht
   subst ht
   exact Nat.le_refl _
 show [(k, ((c :: q ++ rest).drop (pos - pos)).take (q.length + 1))] = _
 rw [Nat.sub_self, List.drop_zero, List.cons_append, List.take_succ_cons, List.take_left]
theorem Zgs {c : Int} (h : Tk.isLD c = true) : Tk.free c = true := by
 have : c ≠ 32 ∧ c ≠ 9 ∧ c ≠ 10 ∧ c ≠ 35 := by
  unfold Tk.isLD Tk.isL Tk.isD at h
  simp at h
  omega
 unfold Tk.free
 simp [this]
theorem ZgF {c : Int} {q rest : List Int} (hL : Tk.isL c = true) (hr : Tk.run Tk.isLD q = q.length) (hl : q.length < 12) (he : Qp.ends rest) : Qp.Sc (c :: q) rest [(1, c :: q)] := by
 have e := ZdQ Tk.isLD rest he q hr
 refine Zer (Zgs (by unfold Tk.isLD; rw [hL]; rfl)) ?_ ?_ ?_
 · rw [Tk.bad_cons, hL, e]
   simp
   omega
 · rw [Tk.tokK_cons, hL]; rfl
 rw [Tk.tokN_cons, hL, e]; rfl
theorem Zkb {c : Int} (h : Tk.isD c = true) : Tk.isL c = false := by
 unfold Tk.isD at h
 unfold Tk.isL
 simp at h ⊢
 omega
theorem Qp.Sc.num {c : Int} {q rest : List Int} (hD : Tk.isD c = true) (hr : Tk.run Tk.isD q = q.length) (hl : q.length < 7) (h0 : c = 48 → q = []) (he : Qp.ends rest) : Qp.Sc (c :: q) rest [(2, c :: q)] := by
 have e := ZdQ Tk.isD rest he.digit q hr
 have hL := Zkb hD
 refine Zer (Zgs (by unfold Tk.isLD; rw [hD]; simp)) ?_ ?_ ?_
 · rw [Tk.bad_cons, hL, hD, e]
   have h7 : ¬ 7 < q.length + 1 := by omega
   by_cases hc : c = 48
   · have := h0 hc
     subst this
     simp
   simp [h7, hc]
 · rw [Tk.tokK_cons, hL, hD]; rfl
 rw [Tk.tokN_cons, hL, hD, e]; rfl
theorem Zhq (rest : List Int) : Qp.Sc [10] rest [] := by
 intro pos acc
 exact ⟨[], by rw [List.append_nil]; exact Tk.scl_blank 10 rest pos acc rfl rfl, fun t ht => (by cases ht), rfl⟩
theorem Zhc {c : Int} (h : Tk.isSign c = true) : c = 123 ∨ c = 125 ∨ c = 40 ∨ c = 41 ∨ c = 91 ∨ c = 93 ∨ c = 59 ∨ c = 44 ∨ c = 61 ∨ c = 43 ∨ c = 45 ∨ c = 42 ∨ c = 47 ∨ c = 37 ∨ c = 60 := by
 unfold Tk.isSign Tk.signs at h
 simpa using h
theorem Qp.Sc.sign {c : Int} (rest : List Int) (h4 : Tk.isSign c = true) (hr : c = 61 → rest.head? ≠ some 61) : Qp.Sc [c] rest [(3, [c])] := by
 have hc := Zhc h4
 have h1 : Tk.isL c = false := by rcases hc with rfl | rfl | rfl | rfl | rfl | rfl | rfl | rfl | rfl | rfl | rfl | rfl | rfl | rfl | rfl <;> rfl
 have h2 : Tk.isD c = false := by rcases hc with rfl | rfl | rfl | rfl | rfl | rfl | rfl | rfl | rfl | rfl | rfl | rfl | rfl | rfl | rfl <;> rfl
 have h5 : Tk.free c = true := by rcases hc with rfl | rfl | rfl | rfl | rfl | rfl | rfl | rfl | rfl | rfl | rfl | rfl | rfl | rfl | rfl <;> rfl
 have h3 : (c == 61 && (([] ++ rest : List Int).head? == some 61)) = false := by
  cases hd : (c == 61)
  · rfl
  have e : c = 61 := by simpa using hd
  have := hr e
  simpa using this
 refine Zer h5 ?_ ?_ ?_
 · rw [Tk.bad_cons, h1, h2, h3, h4]; rfl
 · rw [Tk.tokK_cons, h1, h2, h3, h4]; rfl
 rw [Tk.tokN_cons, h1, h2, h3, h4]; rfl
theorem Zkt (rest : List Int) : Qp.Sc [61, 61] rest [(3, [61, 61])] := Zer (c := 61) (q := [61]) rfl rfl rfl rfl
theorem ZfX (u : Nat) : ∀ b ∈ Lib.decDigits u, Tk.isD (b.toNat : Int) = true := by
 induction u using Nat.strongRecOn with
 | _ u ih =>
  intro b hb
  by_cases h : u < 10
  · rw [Lib.decDigits_one h, List.mem_singleton] at hb
    subst hb
    unfold Tk.isD
    simp
    omega
  rw [Lib.decDigits, dif_neg h, List.mem_append] at hb
  rcases hb with hb | hb
  · exact ih (u / 10) (by omega) b hb
  rw [List.mem_singleton] at hb
  subst hb
  unfold Tk.isD
  simp
  omega
theorem Zk5 (u : Nat) : Lib.decFrom 0 (Lib.decDigits u) = some u := by
 induction u using Nat.strongRecOn with
 | _ u ih =>
  by_cases h : u < 10
  · rw [Lib.decDigits_one h]
    unfold Lib.decFrom Lib.digitVal
    have : (UInt8.ofNat (48 + u)).toNat = 48 + u := by simp; omega
    rw [this, if_pos (by omega)]
    simp [Lib.decFrom]
  rw [Lib.decDigits, dif_neg h]
  have hd : Lib.digitVal (UInt8.ofNat (48 + u % 10)) = some (u % 10) := by
   unfold Lib.digitVal
   have : (UInt8.ofNat (48 + u % 10)).toNat = 48 + u % 10 := by simp; omega
   rw [this, if_pos (by omega)]
   simp
  have := Lib.decFrom_take (Lib.decDigits (u / 10) ++ [UInt8.ofNat (48 + u % 10)]) (Lib.decDigits (u / 10)).length 0 (u / 10) _ _ (by rw [List.take_left]; exact ih (u / 10) (by omega)) (by simp) hd
  rw [List.take_of_length_le (by simp)] at this
  rw [this]
  congr 1
  omega
theorem Zez (u : Nat) : ∃ b r, Lib.decDigits u = b :: r ∧ (1 ≤ u → b ≠ 48) := by
 induction u using Nat.strongRecOn with
 | _ u ih =>
  by_cases h : u < 10
  · refine ⟨_, [], Lib.decDigits_one h, fun h1 hb => ?_⟩
    have := congrArg UInt8.toNat hb
    simp at this
    omega
  obtain ⟨b, r, h1, h2⟩ := ih (u / 10) (by omega)
  rw [Lib.decDigits, dif_neg h, h1]
  exact ⟨b, r ++ _, rfl, fun _ => h2 (by omega)⟩
theorem ZgO (p : Int → Bool) : ∀ l : List Int, (∀ c ∈ l, p c = true) → Tk.run p l = l.length
 | [], _ => rfl
 | a :: r, h => by
  have ha := h a (List.mem_cons_self ..)
  simp [Tk.run, ha]
  exact ZgO p r fun c hc => h c (List.mem_cons_of_mem _ hc)
theorem Ze8 (u : Nat) (hu : u ≤ 9999999) {rest : List Int} (he : Qp.ends rest) : Qp.Sc (Tk.B (Qd.D u)) rest [(2, Tk.B (Qd.D u))] := by
 obtain ⟨b, r, h1, h2⟩ := Zez u
 have hall := ZfX u
 have hlen := Lib.decDigits_length u
 have h7 := Zd2 6 u (by omega)
 have hB : Tk.B (Qd.D u) = (b.toNat : Int) :: r.map fun c => (c.toNat : Int) := by
  unfold Tk.B Qd.D
  rw [List.toList_toArray, h1]
  rfl
 rw [h1] at hall hlen
 rw [hB]
 refine Qp.Sc.num (hall b (List.mem_cons_self ..)) (ZgO _ _ fun c hc => ?_) ?_ (fun h48 => ?_) he
 · obtain ⟨x, hx, rfl⟩ := List.mem_map.1 hc
   exact hall x (List.mem_cons_of_mem _ hx)
 · rw [List.length_map]
   rw [Zo] at hlen
   omega
 have hb : b = 48 := by
  apply UInt8.toNat_inj.1
  have : b.toNat = 48 := by omega
  rw [this]; rfl
 have hu0 : ¬ 1 ≤ u := fun h => h2 h hb
 have : u = 0 := by omega
 subst this
 rw [Lib.decDigits_one (by decide)] at h1
 cases h1
 rfl
def Tb.num (n : Int) : List (Nat × List Int) := if n < 0 then [(3, [45]), (2, Tk.B (Qd.D (-n).toNat))] else [(2, Tk.B (Qd.D n.toNat))]
def Tb.ex : (n : Nat) → Zat n → List (Nat × List Int)
 | 0, _ => []
 | n + 1, x => if x.1.1 = 1 then Tb.num x.1.2.2.1 else if x.1.1 = 2 then [(1, Tk.B x.1.2.2.2)] else
  match x.2.map (Tb.ex n) with
  | [a] => (1, Tk.B x.1.2.2.2) :: (3, [91]) :: (a ++ [(3, [93])])
  | [a, b] => (3, [40]) :: (a ++ (3, Tk.B (Pr.sign x.1.1)) :: (b ++ [(3, [41])]))
  | _ => []
theorem Zbo {c : Int} (h : Tk.isLD c = false) (r : List Int) : Qp.ends (c :: r) := Or.inr ⟨c, r, rfl, h⟩
theorem Qp.Sc.number (n : Int) (h : Pr.NK n) {rest : List Int} (he : Qp.ends rest) : Qp.Sc (Tk.B (Qd.num n)) rest (Tb.num n) := by
 unfold Tb.num
 obtain ⟨h1, h3⟩ := h
 by_cases h2 : n < 0
 · rw [if_pos h2]
   obtain ⟨u, rfl⟩ : ∃ u : Nat, n = -(u : Int) := ⟨(-n).toNat, by omega⟩
   rw [Zgp u (by omega), Za1, show (-(-(u : Int))).toNat = u by omega]
   exact Zaq (k1 := [(3, [45])]) (Qp.Sc.sign _ (by decide) (by intro h; cases h)) (Ze8 u (by omega) he)
 rw [if_neg h2]
 obtain ⟨u, rfl⟩ : ∃ u : Nat, n = (u : Int) := ⟨n.toNat, by omega⟩
 rw [Zgz, show ((u : Int)).toNat = u by omega]
 exact Ze8 u (by omega) he
theorem Zgw (t : ByteArray) (h : Zam t = true) : ∃ c r, Tk.B t = c :: r ∧ Tk.isL c = true ∧ Tk.run Tk.isLD r = r.length ∧ r.length < 12 := by
 unfold Zam at h
 rw [Bool.and_eq_true] at h
 obtain ⟨_, hg, hb, hk, hn⟩ := (Tk.isTok_iff 1 _).1 h.1
 cases hB : Tk.B t with
 | nil => rw [hB] at hb; exact absurd hb (by decide)
 | cons c r =>
  rw [hB] at hb hk hn
  cases hL : Tk.isL c
  · exfalso
    simp only [Tk.tokK, hL, Zb, if_false] at hk
    split at hk
    · omega
    split at hk
    · omega
    split at hk <;> omega
  simp only [Tk.bad, hL, if_true] at hb
  simp only [Tk.tokN, hL, if_true, Zo] at hn
  refine ⟨c, r, rfl, hL, by omega, ?_⟩
  split at hb
  · omega
  omega
theorem ZeS (t : ByteArray) (h : Zam t = true) : Tk.wordB t.toList = false := by
 unfold Zam at h
 rw [Bool.and_eq_true] at h
 simpa using h.2
theorem Qp.Sc.name (t : ByteArray) (h : Zam t = true) {rest : List Int} (he : Qp.ends rest) : Qp.Sc (Tk.B t) rest [(1, Tk.B t)] := by
 obtain ⟨c, r, hB, hL, hr, hl⟩ := Zgw t h
 rw [hB]
 exact ZgF hL hr hl he
theorem Zis (k : Int) (hk : 4 ≤ k ∧ k ≤ 10) (rest : List Int) : Qp.Sc (Tk.B (Pr.sign k)) (32 :: rest) [(3, Tk.B (Pr.sign k))] := by
 rcases (show k = 4 ∨ k = 5 ∨ k = 6 ∨ k = 7 ∨ k = 8 ∨ k = 9 ∨ k = 10 by omega) with rfl | rfl | rfl | rfl | rfl | rfl | rfl
 · exact Qp.Sc.sign (c := 43) _ (by decide) (by intro h; cases h)
 · exact Qp.Sc.sign (c := 45) _ (by decide) (by intro h; cases h)
 · exact Qp.Sc.sign (c := 42) _ (by decide) (by intro h; cases h)
 · exact Qp.Sc.sign (c := 47) _ (by decide) (by intro h; cases h)
 · exact Qp.Sc.sign (c := 37) _ (by decide) (by intro h; cases h)
 · exact Qp.Sc.sign (c := 60) _ (by decide) (by intro h; cases h)
 exact Zkt _
theorem Zk4 {n : Nat} (x : Zat (n + 1)) (h : Zac (n + 1) x = true) :
  (x.1.1 = 1 ∧ x.2 = [] ∧ Pr.NK x.1.2.2.1 ∧ x.1.2.2.2.toList.isEmpty = true) ∨ (x.1.1 = 2 ∧ x.2 = [] ∧ x.1.2.2.1 = 0 ∧ Zam x.1.2.2.2 = true) ∨
  (x.1.1 = 3 ∧ (∃ y, x.2 = [y] ∧ Zac n y = true) ∧ x.1.2.2.1 = 0 ∧ Zam x.1.2.2.2 = true) ∨ ((4 ≤ x.1.1 ∧ x.1.1 ≤ 10) ∧ (∃ y z, x.2 = [y, z] ∧ Zac n y = true ∧ Zac n z = true) ∧ x.1.2.2.1 = 0 ∧ x.1.2.2.2.toList.isEmpty = true) := by
 obtain ⟨⟨k, a, m, nm⟩, l⟩ := x
 have h : Zbj k m nm l.length (l.all (Zac n)) = true := h
 unfold Zbj at h
 simp only [Bool.and_eq_true, decide_eq_true_eq] at h
 obtain ⟨⟨⟨⟨hk, hl⟩, hf⟩, hall⟩, hnum⟩ := h
 have hall := List.all_eq_true.1 hall
 show (k = 1 ∧ l = [] ∧ Pr.NK m ∧ nm.toList.isEmpty = true) ∨ (k = 2 ∧ l = [] ∧ m = 0 ∧ Zam nm = true) ∨ (k = 3 ∧ (∃ y, l = [y] ∧ Zac n y = true) ∧ m = 0 ∧ Zam nm = true) ∨ ((4 ≤ k ∧ k ≤ 10) ∧ (∃ y z, l = [y, z] ∧ Zac n y = true ∧ Zac n z = true) ∧ m = 0 ∧ nm.toList.isEmpty = true)
 by_cases k1 : k = 1
 · subst k1
   have hl0 : l = [] := List.eq_nil_of_length_eq_zero hl
   exact .inl ⟨rfl, hl0, by simpa [Za6, Pr.NK] using hnum, by simpa [Zar] using hf⟩
 have hm : m = 0 := by
  unfold Za6 at hnum
  rw [if_neg (by simpa using k1)] at hnum
  simpa using hnum
 by_cases k2 : k = 2
 · subst k2
   exact .inr (.inl ⟨rfl, List.eq_nil_of_length_eq_zero hl, hm, by simpa [Zar] using hf⟩)
 by_cases k3 : k = 3
 · subst k3
   have hl : l.length = 1 := hl
   match l, hl, hall with
   | [y], _, hall => exact .inr (.inr (.inl ⟨rfl, ⟨y, rfl, hall y (by simp)⟩, hm, by simpa [Zar] using hf⟩))
 have h4 : 4 ≤ k ∧ k ≤ 10 := by omega
 have hl : l.length = 2 := by rw [hl]; unfold Zep; rw [if_neg k3, if_pos h4]
 have hfe : nm.toList.isEmpty = true := by
  unfold Zar at hf
  have e2 : (k == 2) = false := by rw [beq_eq_false_iff_ne]; exact k2
  have e3 : (k == 3) = false := by rw [beq_eq_false_iff_ne]; exact k3
  rw [e2, e3] at hf
  simpa using hf
 match l, hl, hall with
 | [y, z], _, hall => exact .inr (.inr (.inr ⟨h4, ⟨y, z, rfl, hall y (by simp), hall z (by simp)⟩, hm, hfe⟩))
theorem ZgS {n : Nat} (x : Zat (n + 1)) (h : x.1.1 = 1) : Tb.ex (n + 1) x = Tb.num x.1.2.2.1 ∧ Pr.text Qd.num (n + 1) x = Qd.num x.1.2.2.1 := ⟨if_pos h, if_pos h⟩
theorem ZgX {n : Nat} (x : Zat (n + 1)) (h : x.1.1 = 2) : Tb.ex (n + 1) x = [(1, Tk.B x.1.2.2.2)] ∧ Pr.text Qd.num (n + 1) x = x.1.2.2.2 := by
 constructor
 · show (if _ then _ else if _ then _ else _) = _
   rw [if_neg (by omega), if_pos h]
 show (if _ then _ else if _ then _ else _) = _
 rw [if_neg (by omega), if_pos h]
theorem Zg4 {n : Nat} (k a m : Int) (nm : ByteArray) (y : Zat n) (h : k = 3) : Tb.ex (n + 1) ((k, a, m, nm), [y]) = (1, Tk.B nm) :: (3, [91]) :: (Tb.ex n y ++ [(3, [93])]) ∧ Pr.text Qd.num (n + 1) ((k, a, m, nm), [y]) = Pr.cell nm (Pr.text Qd.num n y) := by
 subst h
 exact ⟨rfl, rfl⟩
theorem Zg7 {n : Nat} (k a m : Int) (nm : ByteArray) (y z : Zat n) (h : 4 ≤ k ∧ k ≤ 10) : Tb.ex (n + 1) ((k, a, m, nm), [y, z]) = (3, [40]) :: (Tb.ex n y ++ (3, Tk.B (Pr.sign k)) :: (Tb.ex n z ++ [(3, [41])])) ∧ Pr.text Qd.num (n + 1) ((k, a, m, nm), [y, z]) = Pr.two (Pr.sign k) (Pr.text Qd.num n y) (Pr.text Qd.num n z) := by
 constructor
 · show (if k = 1 then _ else if k = 2 then _ else _) = _
   rw [if_neg (by omega), if_neg (by omega)]
   rfl
 show (if k = 1 then _ else if k = 2 then _ else _) = _
 rw [if_neg (by omega), if_neg (by omega)]
 rfl
theorem Qp.Sc.ex : ∀ (n : Nat) (x : Zat n), Zac n x = true → ∀ rest, Qp.ends rest → Qp.Sc (Tk.B (Pr.text Qd.num n x)) rest (Tb.ex n x) := by
 intro n
 induction n with
 | zero => intro x h; exact absurd h (by simp [Zac])
 | succ n ih =>
  intro x hx rest he
  rcases Zk4 x hx with ⟨hk, hl, hN, _⟩ | ⟨hk, hl, _, hnm⟩ | ⟨hk, ⟨y, hl, hy⟩, _, hnm⟩ | ⟨hk, ⟨y, z, hl, hy, hz⟩, _, _⟩
  · rw [(ZgS x hk).1, (ZgS x hk).2]
    exact Qp.Sc.number _ hN he
  · rw [(ZgX x hk).1, (ZgX x hk).2]
    exact Qp.Sc.name _ hnm he
  · obtain ⟨⟨k, a, m, nm⟩, l⟩ := x
    have hl : l = [y] := hl
    subst hl
    rw [(Zg4 k a m nm y hk).1, (Zg4 k a m nm y hk).2]
    unfold Pr.cell
    rw [Za1, Za1, Za1, List.append_assoc, List.append_assoc]
    have s0 : Qp.Sc (Tk.B ⟨#[93]⟩) rest [(3, [93])] := Qp.Sc.sign (c := 93) rest (by decide) (by intro h; cases h)
    have s1 := Zaq (ih y hy _ (Zbo (c := 93) (by decide) rest)) s0
    have s2 := Zaq (T1 := [91]) (k1 := [(3, [91])]) (Qp.Sc.sign _ (by decide) (by intro h; cases h)) s1
    exact Zaq (Qp.Sc.name nm hnm (Zbo (c := 91) (by decide) _)) s2
  obtain ⟨⟨k, a, m, nm⟩, l⟩ := x
  have hl : l = [y, z] := hl
  subst hl
  rw [(Zg7 k a m nm y z hk).1, (Zg7 k a m nm y z hk).2]
  unfold Pr.two
  rw [Za1, Za1, Za1, Za1, Za1, Za1, List.append_assoc, List.append_assoc, List.append_assoc, List.append_assoc, List.append_assoc]
  have s0 : Qp.Sc (Tk.B ⟨#[41]⟩) rest [(3, [41])] := Qp.Sc.sign (c := 41) rest (by decide) (by intro h; cases h)
  have s1 := Zaq (ih z hz _ (Zbo (c := 41) (by decide) rest)) s0
  have s2 := Zaq (T1 := [32]) (ZdR _) s1
  have s3 := Zaq (Zis k hk _) s2
  have s4 := Zaq (T1 := [32]) (ZdR _) s3
  have s5 := Zaq (ih y hy _ (Zbo (c := 32) (by decide) _)) s4
  exact Zaq (T1 := [40]) (k1 := [(3, [40])]) (Qp.Sc.sign _ (by decide) (by intro h; cases h)) s5
def Tp.Is (l : List Tp.T) (i : Nat) (ks : List (Nat × List Int)) : Prop := ∀ j p, ks[j]? = some p → (Tp.tk l (i + j)).k = (p.1 : Int) ∧ Tk.B (Tp.tk l (i + j)).t = p.2
section
variable {l : List Tp.T} {i : Nat}
theorem Tp.Is.left {a b : List (Nat × List Int)} (h : Tp.Is l i (a ++ b)) : Tp.Is l i a := fun j p hj => h j p (by
 have := (List.getElem?_eq_some_iff.1 hj).1
 rw [List.getElem?_append_left this]
 exact hj)
theorem Tp.Is.right {a b : List (Nat × List Int)} (h : Tp.Is l i (a ++ b)) : Tp.Is l (i + a.length) b := fun j p hj => by
 have := h (a.length + j) p (by rw [List.getElem?_append_right (by omega), Nat.add_sub_cancel_left]; exact hj)
 rw [← Nat.add_assoc] at this
 exact this
theorem Tp.Is.first {p : Nat × List Int} {b : List (Nat × List Int)} (h : Tp.Is l i (p :: b)) : (Tp.tk l i).k = (p.1 : Int) ∧ Tk.B (Tp.tk l i).t = p.2 := h 0 p rfl
theorem Tp.Is.rest {p : Nat × List Int} {b : List (Nat × List Int)} (h : Tp.Is l i (p :: b)) : Tp.Is l (i + 1) b := fun j q hj => by
 have := h (j + 1) q (by rw [List.getElem?_cons_succ]; exact hj)
 rw [show i + (j + 1) = i + 1 + j by omega] at this
 exact this
theorem Zcl {a b : ByteArray} (h : Tk.B a = Tk.B b) : a = b := by
 unfold Tk.B at h
 have h1 : a.data.toList = b.data.toList := by
  apply List.map_inj_right (f := fun c : UInt8 => (c.toNat : Int)) (fun x y hxy => UInt8.toNat_inj.1 (Int.ofNat.inj hxy)) |>.1 h
 cases a; cases b
 congr 1
 exact Array.toList_inj.1 h1
theorem ZaM {s : ByteArray} (h : Tk.B (Tp.tk l i).t = Tk.B s) : Zal l i s = true := by
 unfold Zal
 rw [Zcl h]
 simp
theorem Zao {s : ByteArray} (h : Tk.B (Tp.tk l i).t ≠ Tk.B s) : Zal l i s = false := by
 unfold Zal
 rw [beq_eq_false_iff_ne]
 intro hh
 apply h
 unfold Tk.B
 rw [← ByteArray.toList_eq, ← ByteArray.toList_eq, hh]
theorem Zau {s : ByteArray} (h : Tk.B (Tp.tk l i).t = Tk.B s) : Zak l s i = .ok (i + 1) := by
 unfold Zak
 rw [ZaM h, if_pos rfl]
theorem Zds {s : ByteArray} {b : Nat} (hb : b < 60) (h : Tk.B (Tp.tk l i).t = Tk.B s) : Zba l s b i = .ok (i + 1) := by
 unfold Zba
 rw [if_neg (by omega), Zau h]
theorem ZcV {nm : ByteArray} (hk : (Tp.tk l i).k = 1) (ht : Tk.B (Tp.tk l i).t = Tk.B nm) (h : Zam nm = true) : ZbM l i = true := by
 unfold ZbM
 rw [Zcl ht, hk, ZeS nm h]
 rfl
theorem Zde (hk : (Tp.tk l i).k ≠ 1) : ZbM l i = false := by
 unfold ZbM
 have : ((Tp.tk l i).k == 1) = false := by rw [beq_eq_false_iff_ne]; exact hk
 rw [this]
 rfl
theorem Zjr {s : ByteArray} (h : Tk.B (Tp.tk l i).t = Tk.B s) (hw : Tk.wordB s.toList = true) : ZbM l i = false := by
 unfold ZbM
 rw [Zcl h, hw]
 simp
theorem ZbK {nm : ByteArray} (hk : (Tp.tk l i).k = 1) (ht : Tk.B (Tp.tk l i).t = Tk.B nm) (h : Zam nm = true) : Tp.name l i = .ok (nm, i + 1) := by
 unfold Tp.name
 rw [ZcV hk ht h, if_pos rfl, Zcl ht]
theorem Zcf {nm s : ByteArray} {c : Int} {r : List Int} (h : Zam nm = true) (hs : Tk.B s = c :: r) (hc : Tk.isL c = false) : Tk.B nm ≠ Tk.B s := by
 obtain ⟨c', r', hB, hL, _⟩ := Zgw nm h
 intro e
 rw [hB, hs] at e
 cases e
 rw [hL] at hc
 cases hc
theorem Zgh (u : Nat) : ∃ c r, Tk.B (Qd.D u) = c :: r ∧ Tk.isD c = true ∧ (1 ≤ u → c ≠ 48) := by
 obtain ⟨b, r, h1, h2⟩ := Zez u
 refine ⟨(b.toNat : Int), r.map fun c => (c.toNat : Int), ?_, ZfX u b (by rw [h1]; exact List.mem_cons_self ..), fun hu hb => h2 hu ?_⟩
 · unfold Tk.B Qd.D
   rw [List.toList_toArray, h1]
   rfl
 apply UInt8.toNat_inj.1
 have : b.toNat = 48 := by omega
 rw [this]; rfl
theorem Zlz (u : Nat) (hu : u ≤ 9999999) : Tp.val (Qd.D u) = (u : Int) := by
 obtain ⟨b, r, h1, _⟩ := Zez u
 have hb := ZfX u b (by rw [h1]; exact List.mem_cons_self ..)
 have hd := Zk5 u
 have hb1 : 48 ≤ b.toNat ∧ b.toNat ≤ 57 := by simp [Tk.isD] at hb; omega
 have n45 : (b == 45) = false := by
  cases h : (b == 45)
  · rfl
  have : b = 45 := by simpa using h
  subst this
  exact absurd hb1.1 (by decide)
 have n43 : (b == 43) = false := by
  cases h : (b == 43)
  · rfl
  have : b = 43 := by simpa using h
  subst this
  exact absurd hb1.1 (by decide)
 unfold Tp.val Qd.D
 rw [List.toList_toArray]
 rw [h1] at hd ⊢
 unfold Lib.atoi
 simp only [n45, n43, Zb, if_false, Lib.decNat, List.isEmpty_cons, hd, Option.map_some, Option.getD_some]
theorem Zhj (u : Nat) {s : ByteArray} {c : Int} {r : List Int} (hs : Tk.B s = c :: r) (hc : Tk.isD c = false) : Tk.B (Qd.D u) ≠ Tk.B s := by
 obtain ⟨c', r', h1, h2, _⟩ := Zgh u
 intro h
 rw [h1, hs] at h
 cases h
 rw [hc] at h2
 cases h2
theorem Zft {u : Nat} (hu : u ≤ 9999999) (hk : (Tp.tk l i).k = 2) (ht : Tk.B (Tp.tk l i).t = Tk.B (Qd.D u)) : Tp.number l i = .ok ((u : Int), i + 1) := by
 unfold Tp.number
 rw [if_pos hk, Zcl ht, Zlz u hu]
theorem Zgr {u : Nat} (h1 : 1 ≤ u) (hu : u ≤ 9999999) (hk : (Tp.tk l i).k = 2) (ht : Tk.B (Tp.tk l i).t = Tk.B (Qd.D u)) : ZbQ l i = .ok ((u : Int), i + 1) := by
 unfold ZbQ
 rw [Zao (s := ⟨#[48]⟩) (by
  rw [ht]
  obtain ⟨c, r, d1, d2, d3⟩ := Zgh u
  show Tk.B (Qd.D u) ≠ [48]
  rw [d1]
  intro hh
  cases hh
  exact d3 h1 rfl), if_neg (by decide), Zft hu hk ht]
theorem Zjp {d : Nat} (e n : Int) (hN : Pr.NK n) (rec : Nat → Nat → Except Nat (Zat d × Nat)) (b : Nat) (hI : Tp.Is l i (Tb.num n)) : Zbb l e rec b i = .ok (((1, Zaz l e i, n, ⟨#[]⟩), []), i + (Tb.num n).length) := by
 obtain ⟨h1, h3⟩ := hN
 unfold Tb.num at hI ⊢
 unfold Zbb
 by_cases h2 : n < 0
 · rw [if_pos h2] at hI ⊢
   obtain ⟨u, rfl⟩ : ∃ u : Nat, n = -(u : Int) := ⟨(-n).toNat, by omega⟩
   have e0 : (-(-(u : Int))).toNat = u := by omega
   rw [e0] at hI ⊢
   have t1 := hI.first
   have t2 := hI.rest.first
   rw [Zao (s := ⟨#[40]⟩) (by rw [t1.2]; decide), ZaM (s := ⟨#[45]⟩) t1.2, Zgr (by omega) (by omega) t2.1 t2.2]
   rfl
 rw [if_neg h2] at hI ⊢
 obtain ⟨u, rfl⟩ : ∃ u : Nat, n = (u : Int) := ⟨n.toNat, by omega⟩
 have e0 : ((u : Int)).toNat = u := by omega
 rw [e0] at hI ⊢
 have t1 := hI.first
 rw [Zao (s := ⟨#[40]⟩) (by rw [t1.2]; exact Zhj u (c := 40) (r := []) rfl (by decide)), Zao (s := ⟨#[45]⟩) (by rw [t1.2]; exact Zhj u (c := 45) (r := []) rfl (by decide)), Zde (by rw [t1.1]; show ((2 : Nat) : Int) ≠ 1; decide), Zft (by omega) t1.1 t1.2]
 rfl
end
theorem Tb.opK (k : Int) (hk : 4 ≤ k ∧ k ≤ 10) {t : ByteArray} (ht : Tk.B t = Tk.B (Pr.sign k)) : ((Tp.opK t : Nat) : Int) = k ∧ Tp.opK t ≠ 0 := by
 rw [Zcl ht]
 rcases (show k = 4 ∨ k = 5 ∨ k = 6 ∨ k = 7 ∨ k = 8 ∨ k = 9 ∨ k = 10 by omega) with rfl | rfl | rfl | rfl | rfl | rfl | rfl
 all_goals
  unfold Tp.opK Pr.sign
  simp only [ByteArray.toList_eq]
  decide
theorem Zku (k : Int) (hk : 4 ≤ k ∧ k ≤ 10) : Tk.B (Pr.sign k) ≠ Tk.B ⟨#[91]⟩ := by
 rcases (show k = 4 ∨ k = 5 ∨ k = 6 ∨ k = 7 ∨ k = 8 ∨ k = 9 ∨ k = 10 by omega) with rfl | rfl | rfl | rfl | rfl | rfl | rfl <;> decide
theorem Zfk {t : ByteArray} (h : t.toList.isEmpty = true) : t = ⟨#[]⟩ := by
 have h : t.toList = [] := by simpa using h
 rw [ByteArray.toList_eq] at h
 cases t
 congr 1
 exact Array.toList_inj.1 h
theorem Ziu : ∀ (n : Nat) (x : Zat n), Zac n x = true → ∀ (d : Nat), Zab n x ≤ d → ∀ (l : List Tp.T) (e : Int) (b i : Nat), b + Zab n x ≤ 60 → Tp.Is l i (Tb.ex n x) → Zal l (i + (Tb.ex n x).length) ⟨#[91]⟩ = false →
  ∃ y : Zat d, Tp.expr l e d b i = .ok (y, i + (Tb.ex n x).length) ∧ Zai n d x y = true := by
 intro n
 induction n with
 | zero => intro x h; exact absurd h (by simp [Zac])
 | succ n ih =>
  intro x hx d hd l e b i hb hI hS
  have hp : Zab (n + 1) x = 1 + (x.2.map (Zab n)).sum := rfl
  rw [hp] at hd hb
  cases d with
  | zero => omega
  | succ d =>
   show ∃ y : Zat (d + 1), Zbb l e (Tp.expr l e d) b i = _ ∧ _
   rcases Zk4 x hx with ⟨hk, hl, hN, hnm⟩ | ⟨hk, hl, hm, hnm⟩ | ⟨hk, ⟨y, hl, hy⟩, hm, hnm⟩ | ⟨hk, ⟨y, z, hl, hy, hz⟩, hm, hnm⟩
   · rw [(ZgS x hk).1] at hI ⊢
     refine ⟨_, Zjp e _ hN _ b hI, ?_⟩
     show ((x.1.1 == 1) && (x.1.2.2.1 == x.1.2.2.1) && (x.1.2.2.2.toList == (⟨#[]⟩ : ByteArray).toList) && Zaa (Zai n d) x.2 []) = true
     rw [hk, hl, Zfk hnm]
     simp [Zaa]
   · rw [(ZgX x hk).1] at hI hS ⊢
     have t1 := hI.first
     refine ⟨((2, Zaz l e i, 0, x.1.2.2.2), []), ?_, ?_⟩
     · unfold Zbb
       rw [Zao (s := ⟨#[40]⟩) (by rw [t1.2]; exact Zcf (c := 40) (r := []) hnm rfl (by decide)), Zao (s := ⟨#[45]⟩) (by rw [t1.2]; exact Zcf (c := 45) (r := []) hnm rfl (by decide)), ZcV t1.1 t1.2 hnm]
       have hS : Zal l (i + 1) ⟨#[91]⟩ = false := hS
       rw [hS, Zcl t1.2]
       rfl
     show ((x.1.1 == 2) && (x.1.2.2.1 == 0) && (x.1.2.2.2.toList == x.1.2.2.2.toList) && Zaa (Zai n d) x.2 []) = true
     rw [hk, hl, hm]
     simp [Zaa]
   · obtain ⟨⟨k, a, m, nm⟩, s⟩ := x
     have hl : s = [y] := hl
     subst hl
     have hm : m = 0 := hm
     have hnm : Zam nm = true := hnm
     rw [(Zg4 k a m nm y hk).1] at hI ⊢
     have hdy : Zab n y ≤ d ∧ b + 1 + Zab n y ≤ 60 := by simp at hd hb; omega
     have t1 := hI.first
     have t2 := hI.rest.first
     have hIy := hI.rest.rest
     have t3 := hIy.right.first
     obtain ⟨y', hy', hs'⟩ := ih y hy d hdy.1 l e (b + 1) (i + 1 + 1) hdy.2 hIy.left (Zao (by rw [t3.2]; decide))
     refine ⟨((3, Zaz l e i, 0, nm), [y']), ?_, ?_⟩
     · unfold Zbb
       rw [Zao (s := ⟨#[40]⟩) (by rw [t1.2]; exact Zcf (c := 40) (r := []) hnm rfl (by decide)), Zao (s := ⟨#[45]⟩) (by rw [t1.2]; exact Zcf (c := 45) (r := []) hnm rfl (by decide)), ZcV t1.1 t1.2 hnm, ZaM (s := ⟨#[91]⟩) t2.2, Zcl t1.2]
       unfold Tp.index
       rw [Zds (s := ⟨#[91]⟩) (by omega) t2.2]
       simp only [hy', Zau (s := ⟨#[93]⟩) t3.2, Zb, if_false, if_true, Zo, Za, List.length_nil]
       rw [show i + 1 + 1 + (Tb.ex n y).length + 1 = i + ((Tb.ex n y).length + (0 + 1) + 1 + 1) by omega]
     show ((k == 3) && (m == 0) && (nm.toList == nm.toList) && Zaa (Zai n d) [y] [y']) = true
     have hk : k = 3 := hk
     rw [hk, hm]
     show (_ && (Zai n d y y' && true)) = true
     rw [hs']
     simp
   obtain ⟨⟨k, a, m, nm⟩, s⟩ := x
   have hl : s = [y, z] := hl
   subst hl
   have hm : m = 0 := hm
   have hnm : nm.toList.isEmpty = true := hnm
   have hk : 4 ≤ k ∧ k ≤ 10 := hk
   rw [(Zg7 k a m nm y z hk).1] at hI ⊢
   have hpy : 0 < Zab n y := by cases n with | zero => exact absurd hy (by simp [Zac]) | succ n => exact Zfb _ _ (by omega)
   have hpz : 0 < Zab n z := by cases n with | zero => exact absurd hy (by simp [Zac]) | succ n => exact Zfb _ _ (by omega)
   have hdy : (Zab n y ≤ d ∧ b + 1 + Zab n y ≤ 60) ∧ Zab n z ≤ d ∧ b + 1 + Zab n z ≤ 60 := by simp at hd hb; omega
   have t1 := hI.first
   have hIy := hI.rest
   have hI2 := hIy.right
   have t2 := hI2.first
   have hIz := hI2.rest
   have t3 := hIz.right.first
   obtain ⟨y', hy', hsy⟩ := ih y hy d hdy.1.1 l e (b + 1) (i + 1) hdy.1.2 hIy.left (Zao (by rw [t2.2]; exact Zku k hk))
   obtain ⟨z', hz', hsz⟩ := ih z hz d hdy.2.1 l e (b + 1) (i + 1 + (Tb.ex n y).length + 1) hdy.2.2 hIz.left (Zao (by rw [t3.2]; decide))
   have hop := Tb.opK k hk t2.2
   refine ⟨((k, Zaz l e i, 0, ⟨#[]⟩), [y', z']), ?_, ?_⟩
   · unfold Zbb
     rw [ZaM (s := ⟨#[40]⟩) t1.2]
     unfold Zb5
     rw [Zds (s := ⟨#[40]⟩) (by omega) t1.2]
     simp only [hy', hop.2, hz', hop.1, Zau (s := ⟨#[41]⟩) t3.2, if_false, if_true, Zo, Za, List.length_nil]
     rw [show i + 1 + (Tb.ex n y).length + 1 + (Tb.ex n z).length + 1 = i + ((Tb.ex n y).length + ((Tb.ex n z).length + (0 + 1) + 1) + 1) by omega]
   show ((k == k) && (m == 0) && (nm.toList == (⟨#[]⟩ : ByteArray).toList) && Zaa (Zai n d) [y, z] [y', z']) = true
   rw [hm, Zfk hnm]
   show (_ && (Zai n d y y' && (Zai n d z z' && true))) = true
   rw [hsy, hsz]
   simp
end Go.Proofs.YtfccpddehpgfoaaGreatDoor
