/-
  Several texts in one: QT1, QT2, QT3. By the verifier.
-/
import Derived.Test.YtfhlnelgnnkeoaaGreatDoorQS
import Derived.Test.YtfhlnelgnnkeoaaGreatDoorQTextOf
namespace Go.Proofs.YtfhlnelgnnkeoaaGreatDoor
open Go.RowKit
set_option linter.unusedVariables false

theorem Qp.B_append (a b : ByteArray) : Tk.B (a ++ b) = Tk.B a ++ Tk.B b := by
  unfold Tk.B
  simp
/-- What may follow a word or a number. -/
def Qp.ends (r : List Int) : Prop := r = [] ∨ ∃ c q, r = c :: q ∧ Tk.isLD c = false
theorem Qp.run_ends (p : Int → Bool) (r : List Int) (hr : r = [] ∨ ∃ c q, r = c :: q ∧ p c = false) : ∀ q : List Int, Tk.run p q = q.length → Tk.run p (q ++ r) = q.length
  | [], _ => by
    rcases hr with rfl | ⟨c, q, rfl, hc⟩
    · rfl
    · simp [Tk.run, hc]
  | a :: q, h => by
    cases ha : p a
    · simp [Tk.run, ha] at h
    · simp [Tk.run, ha] at h ⊢
      exact Qp.run_ends p r hr q h
theorem Qp.ends.digit {r : List Int} (h : Qp.ends r) : r = [] ∨ ∃ c q, r = c :: q ∧ Tk.isD c = false := by
  rcases h with h | ⟨c, q, h1, h2⟩
  · exact Or.inl h
  · refine Or.inr ⟨c, q, h1, ?_⟩
    unfold Tk.isLD at h2
    rw [Bool.or_eq_false_iff] at h2
    exact h2.2
/-- A text is scanned as these tokens, what follows it being so. -/
def Qp.Sc (T rest : List Int) (ks : List (Nat × List Int)) : Prop := ∀ (pos : Nat) (acc : List (Nat × Nat × Nat)), ∃ m, Tk.scl (T ++ rest) pos 0 false acc = Tk.scl rest (pos + T.length) 0 false (acc ++ m) ∧ (∀ t ∈ m, pos ≤ t.2.1) ∧ m.map (fun t => (t.1, ((T ++ rest).drop (t.2.1 - pos)).take t.2.2)) = ks
theorem Qp.Sc.append {T1 T2 rest : List Int} {k1 k2 : List (Nat × List Int)} (h1 : Qp.Sc T1 (T2 ++ rest) k1) (h2 : Qp.Sc T2 rest k2) : Qp.Sc (T1 ++ T2) rest (k1 ++ k2) := by
  intro pos acc
  obtain ⟨m1, a1, b1, c1⟩ := h1 pos acc
  obtain ⟨m2, a2, b2, c2⟩ := h2 (pos + T1.length) (acc ++ m1)
  refine ⟨m1 ++ m2, ?_, ?_, ?_⟩
  · rw [List.append_assoc, a1, a2, List.length_append, Nat.add_assoc, List.append_assoc]
  · intro t ht
    rcases List.mem_append.1 ht with ht | ht
    · exact b1 t ht
    · have := b2 t ht; omega
  · rw [List.map_append, ← c1, ← c2, List.append_assoc]
    congr 1
    refine List.map_congr_left fun t ht => ?_
    have := b2 t ht
    rw [List.drop_append, List.drop_of_length_le (by omega), List.nil_append, show t.2.1 - pos - T1.length = t.2.1 - (pos + T1.length) by omega]
theorem Qp.Sc.blank (rest : List Int) : Qp.Sc [32] rest [] := by
  intro pos acc
  exact ⟨[], by rw [List.append_nil]; exact Tk.scl_blank 32 rest pos acc rfl rfl, fun t ht => (by cases ht), rfl⟩
theorem Qp.Sc.tok {c : Int} {q rest : List Int} {k : Nat} (hf : Tk.free c = true) (hb : Tk.bad (c :: (q ++ rest)) = 0) (hk : Tk.tokK (c :: (q ++ rest)) = k) (hn : Tk.tokN (c :: (q ++ rest)) = q.length + 1) : Qp.Sc (c :: q) rest [(k, c :: q)] := by
  intro pos acc
  refine ⟨[(k, pos, q.length + 1)], ?_, ?_, ?_⟩
  · rw [List.cons_append, Tk.scl_tok c (q ++ rest) pos acc hf hb, hk, hn, List.drop_succ_cons, List.drop_left, List.length_cons]
  · intro t ht
    rw [List.mem_singleton] at ht
    subst ht
    exact Nat.le_refl _
  · show [(k, ((c :: q ++ rest).drop (pos - pos)).take (q.length + 1))] = _
    rw [Nat.sub_self, List.drop_zero, List.cons_append, List.take_succ_cons, List.take_left]
theorem Qp.free_of {c : Int} (h : Tk.isLD c = true ∨ c = 40 ∨ c = 41 ∨ c = 45) : Tk.free c = true := by
  have : c ≠ 32 ∧ c ≠ 9 ∧ c ≠ 10 ∧ c ≠ 35 := by
    rcases h with h | h
    · unfold Tk.isLD Tk.isL Tk.isD at h
      simp at h
      omega
    · omega
  unfold Tk.free
  simp [this]
theorem Qp.Sc.word {c : Int} {q rest : List Int} (hL : Tk.isL c = true) (hr : Tk.run Tk.isLD q = q.length) (hl : q.length < 12) (he : Qp.ends rest) : Qp.Sc (c :: q) rest [(1, c :: q)] := by
  have e := Qp.run_ends Tk.isLD rest he q hr
  refine Qp.Sc.tok (Qp.free_of (Or.inl (by unfold Tk.isLD; rw [hL]; rfl))) ?_ ?_ ?_
  · rw [Tk.bad_cons, hL, e]
    simp
    omega
  · rw [Tk.tokK_cons, hL]; rfl
  · rw [Tk.tokN_cons, hL, e]; rfl
theorem Qp.D_not_L {c : Int} (h : Tk.isD c = true) : Tk.isL c = false := by
  unfold Tk.isD at h
  unfold Tk.isL
  simp at h ⊢
  omega
theorem Qp.Sc.num {c : Int} {q rest : List Int} (hD : Tk.isD c = true) (hr : Tk.run Tk.isD q = q.length) (hl : q.length < 7) (h0 : c = 48 → q = []) (he : Qp.ends rest) : Qp.Sc (c :: q) rest [(2, c :: q)] := by
  have e := Qp.run_ends Tk.isD rest he.digit q hr
  have hL := Qp.D_not_L hD
  refine Qp.Sc.tok (Qp.free_of (Or.inl (by unfold Tk.isLD; rw [hD]; simp))) ?_ ?_ ?_
  · rw [Tk.bad_cons, hL, hD, e]
    have h7 : ¬ 7 < q.length + 1 := by omega
    by_cases hc : c = 48
    · have := h0 hc
      subst this
      simp
    · simp [h7, hc]
  · rw [Tk.tokK_cons, hL, hD]; rfl
  · rw [Tk.tokN_cons, hL, hD, e]; rfl
theorem Qp.Sc.sign {c : Int} (rest : List Int) (hc : c = 40 ∨ c = 41 ∨ c = 45) : Qp.Sc [c] rest [(3, [c])] := by
  have h1 : Tk.isL c = false := by rcases hc with rfl | rfl | rfl <;> rfl
  have h2 : Tk.isD c = false := by rcases hc with rfl | rfl | rfl <;> rfl
  have h3 : (c == 61) = false := by rcases hc with rfl | rfl | rfl <;> rfl
  have h4 : Tk.isSign c = true := by rcases hc with rfl | rfl | rfl <;> rfl
  refine Qp.Sc.tok (Qp.free_of (Or.inr hc)) ?_ ?_ ?_
  · rw [Tk.bad_cons, h1, h2, h3, h4]; rfl
  · rw [Tk.tokK_cons, h1, h2, h3, h4]; rfl
  · rw [Tk.tokN_cons, h1, h2, h3, h4]; rfl

theorem Qp.dd_all (u : Nat) : ∀ b ∈ Lib.decDigits u, Tk.isD (b.toNat : Int) = true := by
  induction u using Nat.strongRecOn with
  | _ u ih =>
    intro b hb
    by_cases h : u < 10
    · rw [Lib.decDigits_one h, List.mem_singleton] at hb
      subst hb
      unfold Tk.isD
      simp
      omega
    · rw [Lib.decDigits, dif_neg h, List.mem_append] at hb
      rcases hb with hb | hb
      · exact ih (u / 10) (by omega) b hb
      · rw [List.mem_singleton] at hb
        subst hb
        unfold Tk.isD
        simp
        omega
theorem Qp.dd_dec (u : Nat) : Lib.decFrom 0 (Lib.decDigits u) = some u := by
  induction u using Nat.strongRecOn with
  | _ u ih =>
    by_cases h : u < 10
    · rw [Lib.decDigits_one h]
      unfold Lib.decFrom Lib.digitVal
      have : (UInt8.ofNat (48 + u)).toNat = 48 + u := by simp; omega
      rw [this, if_pos (by omega)]
      simp [Lib.decFrom]
    · rw [Lib.decDigits, dif_neg h]
      have hd : Lib.digitVal (UInt8.ofNat (48 + u % 10)) = some (u % 10) := by
        unfold Lib.digitVal
        have : (UInt8.ofNat (48 + u % 10)).toNat = 48 + u % 10 := by simp; omega
        rw [this, if_pos (by omega)]
        simp
      have := Lib.decFrom_take (Lib.decDigits (u / 10) ++ [UInt8.ofNat (48 + u % 10)]) (Lib.decDigits (u / 10)).length 0 (u / 10) _ _ (by rw [List.take_left]; exact ih (u / 10) (by omega)) (by simp) hd
      rw [List.take_of_length_le (by simp)] at this
      rw [this]
      congr 1
      omega
theorem Qp.dd_cons (u : Nat) : ∃ b r, Lib.decDigits u = b :: r ∧ (1 ≤ u → b ≠ 48) := by
  induction u using Nat.strongRecOn with
  | _ u ih =>
    by_cases h : u < 10
    · refine ⟨_, [], Lib.decDigits_one h, fun h1 hb => ?_⟩
      have := congrArg UInt8.toNat hb
      simp at this
      omega
    · obtain ⟨b, r, h1, h2⟩ := ih (u / 10) (by omega)
      rw [Lib.decDigits, dif_neg h, h1]
      exact ⟨b, r ++ _, rfl, fun _ => h2 (by omega)⟩
theorem Qp.run_all (p : Int → Bool) : ∀ l : List Int, (∀ c ∈ l, p c = true) → Tk.run p l = l.length
  | [], _ => rfl
  | a :: r, h => by
    have ha := h a (List.mem_cons_self ..)
    simp [Tk.run, ha]
    exact Qp.run_all p r fun c hc => h c (List.mem_cons_of_mem _ hc)
/-- A number's digits are scanned as one token. -/
theorem Qp.Sc.digits (u : Nat) (hu : u ≤ 9999999) {rest : List Int} (he : Qp.ends rest) : Qp.Sc (Tk.B (Qd.D u)) rest [(2, Tk.B (Qd.D u))] := by
  obtain ⟨b, r, h1, h2⟩ := Qp.dd_cons u
  have hall := Qp.dd_all u
  have hlen := Lib.decDigits_length u
  have h7 := Qd.nDigits_le 6 u (by omega)
  have hB : Tk.B (Qd.D u) = (b.toNat : Int) :: r.map fun c => (c.toNat : Int) := by
    unfold Tk.B Qd.D
    rw [List.toList_toArray, h1]
    rfl
  rw [h1] at hall hlen
  rw [hB]
  refine Qp.Sc.num (hall b (List.mem_cons_self ..)) (Qp.run_all _ _ fun c hc => ?_) ?_ (fun h48 => ?_) he
  · obtain ⟨x, hx, rfl⟩ := List.mem_map.1 hc
    exact hall x (List.mem_cons_of_mem _ hx)
  · rw [List.length_map]
    rw [List.length_cons] at hlen
    omega
  · have hb : b = 48 := by
      apply UInt8.toNat_inj.1
      have : b.toNat = 48 := by omega
      rw [this]; rfl
    have hu0 : ¬ 1 ≤ u := fun h => h2 h hb
    have : u = 0 := by omega
    subst this
    rw [Lib.decDigits_one (by decide)] at h1
    cases h1
    rfl

/-- The tokens of a query's number, of its word, and of the whole. -/
def Qk.numK (k n : Int) : List (Nat × List Int) := if n = -1 ∧ Qk.least k = -1 then [(1, [97, 110, 121])] else if n < 0 then [(3, [45]), (2, Tk.B (Qd.D (-n).toNat))] else [(2, Tk.B (Qd.D n.toNat))]
def Qk.headK (k n : Int) : List (Nat × List Int) := (1, Tk.B (Qk.word k)) :: (if 0 < Qk.most k then Qk.numK k n else [])
def Qk.tks : (n : Nat) → Qk.AT n → List (Nat × List Int)
  | 0, _ => []
  | n + 1, x => match x.2.map (Qk.tks n) with
    | [] => Qk.headK x.1.1 x.1.2
    | [a] => Qk.headK x.1.1 x.1.2 ++ a
    | a :: b :: _ => [(3, [40])] ++ (a ++ (Qk.headK x.1.1 x.1.2 ++ (b ++ [(3, [41])])))
theorem Qp.Sc.kind {k : Int} (hk : Qk.isK k = true) {rest : List Int} (he : Qp.ends rest) : Qp.Sc (Tk.B (Qk.word k)) rest [(1, Tk.B (Qk.word k))] := by
  rcases Qk.kinds hk with rfl | rfl | rfl | rfl | rfl | rfl | rfl | rfl | rfl | rfl | rfl | rfl | rfl | rfl
  all_goals exact Qp.Sc.word (by decide) (by decide) (by decide) he
theorem Qp.ends_blank (r : List Int) : Qp.ends (32 :: r) := Or.inr ⟨32, r, rfl, by decide⟩
theorem Qp.ends_close (r : List Int) : Qp.ends (41 :: r) := Or.inr ⟨41, r, rfl, by decide⟩
theorem Qp.Sc.numT (k n : Int) (h : -9999999 ≤ n ∧ n ≤ 9999999) {rest : List Int} (he : Qp.ends rest) : Qp.Sc (Tk.B (Qk.numT k n)) rest (Qk.numK k n) := by
  unfold Qk.numT Qk.numK
  by_cases h1 : n = -1 ∧ Qk.least k = -1
  · rw [if_pos h1, if_pos h1]
    exact Qp.Sc.word (c := 97) (q := [110, 121]) (by decide) (by decide) (by decide) he
  · rw [if_neg h1, if_neg h1]
    by_cases h2 : n < 0
    · rw [if_pos h2]
      obtain ⟨u, rfl⟩ : ∃ u : Nat, n = -(u : Int) := ⟨(-n).toNat, by omega⟩
      rw [Qd.num_neg u (by omega), Qp.B_append, show (-(-(u : Int))).toNat = u by omega]
      exact Qp.Sc.append (k1 := [(3, [45])]) (Qp.Sc.sign _ (by decide)) (Qp.Sc.digits u (by omega) he)
    · rw [if_neg h2]
      obtain ⟨u, rfl⟩ : ∃ u : Nat, n = (u : Int) := ⟨n.toNat, by omega⟩
      rw [Qd.num_nat, show ((u : Int)).toNat = u by omega]
      exact Qp.Sc.digits u (by omega) he
theorem Qp.Sc.headT {k n : Int} (hk : Qk.isK k = true) (h : -9999999 ≤ n ∧ n ≤ 9999999) {rest : List Int} (he : Qp.ends rest) : Qp.Sc (Tk.B (Qk.headT k n)) rest (Qk.headK k n) := by
  unfold Qk.headT Qk.headK
  by_cases h1 : 0 < Qk.most k
  · rw [if_pos h1, if_pos h1, Qp.B_append, Qp.B_append]
    have s1 := Qp.Sc.numT k n h he
    have s2 := Qp.Sc.append (T1 := [32]) (Qp.Sc.blank _) s1
    exact Qp.Sc.append (Qp.Sc.kind hk (Qp.ends_blank _)) s2
  · rw [if_neg h1, if_neg h1]
    exact Qp.Sc.kind hk he
/-- A query's text is scanned as its tokens. -/
theorem Qp.Sc.text : ∀ (n : Nat) (x : Qk.AT n), Qk.wrong n x = 0 → ∀ rest, Qp.ends rest → Qp.Sc (Tk.B (Qk.text n x)) rest (Qk.tks n x) := by
  intro n
  induction n with
  | zero => intro x; exact x.elim
  | succ n ih =>
    rintro ⟨⟨k, m⟩, l⟩ hw rest he
    obtain ⟨hk, hl, hb, hsub⟩ := Qk.isK_parts hw
    have hb2 := Qk.bound hb
    match l, hl, hsub with
    | [], _, _ => exact Qp.Sc.headT hk hb2 he
    | [a], _, hsub =>
      show Qp.Sc (Tk.B ((Qk.headT k m ++ ⟨#[32]⟩) ++ Qk.text n a)) rest (Qk.headK k m ++ Qk.tks n a)
      rw [Qp.B_append, Qp.B_append, List.append_assoc]
      have s1 := ih a (hsub a (by simp)) rest he
      have s2 := Qp.Sc.append (T1 := [32]) (Qp.Sc.blank _) s1
      exact Qp.Sc.append (Qp.Sc.headT hk hb2 (Qp.ends_blank _)) s2
    | [a, b], _, hsub =>
      show Qp.Sc (Tk.B ((((((⟨#[40]⟩ ++ Qk.text n a) ++ ⟨#[32]⟩) ++ Qk.headT k m) ++ ⟨#[32]⟩) ++ Qk.text n b) ++ ⟨#[41]⟩)) rest ([(3, [40])] ++ (Qk.tks n a ++ (Qk.headK k m ++ (Qk.tks n b ++ [(3, [41])]))))
      rw [Qp.B_append, Qp.B_append, Qp.B_append, Qp.B_append, Qp.B_append, Qp.B_append, List.append_assoc, List.append_assoc, List.append_assoc, List.append_assoc, List.append_assoc]
      have s0 : Qp.Sc (Tk.B ⟨#[41]⟩) rest [(3, [41])] := Qp.Sc.sign (c := 41) rest (by decide)
      have s1 := Qp.Sc.append (ih b (hsub b (by simp)) _ (Qp.ends_close rest)) s0
      have s2 := Qp.Sc.append (T1 := [32]) (Qp.Sc.blank _) s1
      have s3 := Qp.Sc.append (Qp.Sc.headT hk hb2 (Qp.ends_blank _)) s2
      have s4 := Qp.Sc.append (T1 := [32]) (Qp.Sc.blank _) s3
      have s5 := Qp.Sc.append (ih a (hsub a (by simp)) _ (Qp.ends_blank _)) s4
      exact Qp.Sc.append (T1 := [40]) (k1 := [(3, [40])]) (Qp.Sc.sign _ (by decide)) s5
    | a :: b :: c :: r, hl, _ =>
      have := Qk.args_few (k := k)
      rw [← hl] at this
      simp at this
end Go.Proofs.YtfhlnelgnnkeoaaGreatDoor
namespace Go.Proofs.YtfhlnelgnnkeoaaGreatDoor
open Go.RowKit
set_option linter.unusedVariables false

/-- These tokens stand there. -/
def Qp.Is (l : List Qp.T) (i : Nat) (ks : List (Nat × List Int)) : Prop := ∀ j p, ks[j]? = some p → (Qp.tk l (i + j)).k = (p.1 : Int) ∧ Tk.B (Qp.tk l (i + j)).t = p.2
theorem Qp.Is.left {l : List Qp.T} {i : Nat} {a b : List (Nat × List Int)} (h : Qp.Is l i (a ++ b)) : Qp.Is l i a := fun j p hj => h j p (by
  have := (List.getElem?_eq_some_iff.1 hj).1
  rw [List.getElem?_append_left this]
  exact hj)
theorem Qp.Is.right {l : List Qp.T} {i : Nat} {a b : List (Nat × List Int)} (h : Qp.Is l i (a ++ b)) : Qp.Is l (i + a.length) b := fun j p hj => by
  have := h (a.length + j) p (by rw [List.getElem?_append_right (by omega), Nat.add_sub_cancel_left]; exact hj)
  rw [← Nat.add_assoc] at this
  exact this
theorem Qp.Is.first {l : List Qp.T} {i : Nat} {p : Nat × List Int} {b : List (Nat × List Int)} (h : Qp.Is l i (p :: b)) : (Qp.tk l i).k = (p.1 : Int) ∧ Tk.B (Qp.tk l i).t = p.2 := h 0 p rfl
theorem Qp.Is.rest {l : List Qp.T} {i : Nat} {p : Nat × List Int} {b : List (Nat × List Int)} (h : Qp.Is l i (p :: b)) : Qp.Is l (i + 1) b := fun j q hj => by
  have := h (j + 1) q (by rw [List.getElem?_cons_succ]; exact hj)
  rw [show i + (j + 1) = i + 1 + j by omega] at this
  exact this
theorem Qp.B_inj {a b : ByteArray} (h : Tk.B a = Tk.B b) : a = b := by
  unfold Tk.B at h
  have h1 : a.data.toList = b.data.toList := by
    apply List.map_inj_right (f := fun c : UInt8 => (c.toNat : Int)) (fun x y hxy => UInt8.toNat_inj.1 (Int.ofNat.inj hxy)) |>.1 h
  cases a; cases b
  congr 1
  exact Array.toList_inj.1 h1
theorem Qp.in_yes {s t : ByteArray} (h : Tk.B t = Tk.B s) : Qp.inW [s] t = true := by
  rw [Qp.B_inj h]
  unfold Qp.inW
  simp
theorem Qp.in_no {s t : ByteArray} (h : Tk.B t ≠ Tk.B s) : Qp.inW [s] t = false := by
  cases hc : Qp.inW [s] t
  · rfl
  · exfalso
    unfold Qp.inW at hc
    rw [List.any_cons, List.any_nil, Bool.or_false] at hc
    exact h (by rw [Qp.ba_ext hc])
/-- Two lists, one by one. -/
def Qk.all2 {α β : Type} (R : α → β → Prop) : List α → List β → Prop
  | [], [] => True
  | a :: r, b :: s => R a b ∧ Qk.all2 R r s
  | _, _ => False
theorem Qk.all2_len {α β : Type} {R : α → β → Prop} : ∀ {a : List α} {b : List β}, Qk.all2 R a b → a.length = b.length
  | [], [], _ => rfl
  | x :: r, y :: s, h => by rw [List.length_cons, List.length_cons, Qk.all2_len h.2]
theorem Qk.all2_map {α β γ : Type} {R : α → β → Prop} {f : α → γ} {g : β → γ} (hR : ∀ x y, R x y → f x = g y) : ∀ {a : List α} {b : List β}, Qk.all2 R a b → a.map f = b.map g
  | [], [], _ => rfl
  | x :: r, y :: s, h => by rw [List.map_cons, List.map_cons, hR x y h.1, Qk.all2_map hR h.2]
theorem Qk.all2_at {α β : Type} {R : α → β → Prop} : ∀ {a : List α} {b : List β} {i : Nat} {z : β}, Qk.all2 R a b → b[i]? = some z → ∃ x, a[i]? = some x ∧ R x z
  | [], [], i, z, _, h => by simp at h
  | x :: r, y :: s, 0, z, h, hz => ⟨x, rfl, by cases hz; exact h.1⟩
  | x :: r, y :: s, i + 1, z, h, hz => by
    rw [List.getElem?_cons_succ] at hz ⊢
    exact Qk.all2_at h.2 hz
/-- A query as it was, at another depth. -/
def Qk.like : (n d : Nat) → Qk.AT n → Qk.AT d → Prop
  | 0, _, _, _ => False
  | _ + 1, 0, _, _ => False
  | n + 1, d + 1, x, y => x.1 = y.1 ∧ Qk.all2 (Qk.like n d) x.2 y.2
theorem Qk.like_parts : ∀ (n d : Nat) (x : Qk.AT n) (y : Qk.AT d), Qk.like n d x y → Qk.parts n x = Qk.parts d y := by
  intro n
  induction n with
  | zero => intro d x; exact x.elim
  | succ n ih =>
    intro d x y h
    cases d with
    | zero => exact h.elim
    | succ d =>
      obtain ⟨h1, h2⟩ := h
      have e := Qk.all2_map (ih d) h2
      unfold Qk.parts
      rw [e]
theorem Qk.like_wrong : ∀ (n d : Nat) (x : Qk.AT n) (y : Qk.AT d), Qk.like n d x y → Qk.wrong n x = Qk.wrong d y := by
  intro n
  induction n with
  | zero => intro d x; exact x.elim
  | succ n ih =>
    intro d x y h
    cases d with
    | zero => exact h.elim
    | succ d =>
      obtain ⟨h1, h2⟩ := h
      have e1 := Qk.all2_len h2
      have e2 := Qk.all2_map (ih d) h2
      unfold Qk.wrong
      rw [h1, e1, e2]
theorem Qk.like_ra {W : World} : ∀ (n d : Nat) (e : Qk.E) (x : Qk.AT n) (y : Qk.AT d), Qk.like n d x y → Qk.RA W n e x → Qk.RA W d e y := by
  intro n
  induction n with
  | zero => intro d e x; exact x.elim
  | succ n ih =>
    intro d e x y h hr
    cases d with
    | zero => exact h.elim
    | succ d =>
      obtain ⟨h1, h2⟩ := h
      obtain ⟨hr1, hr2⟩ := hr
      have hl := Qk.all2_len h2
      refine ⟨by rw [← h1]; exact hr1, by rw [← hl]; exact hr2.len, by rw [← hl]; exact hr2.few, fun i z hz => ?_⟩
      obtain ⟨u, hu, hz1⟩ := Qk.all2_at h2 hz
      obtain ⟨b, o, c, k1, k2, k3, k4⟩ := hr2.at_ i u hu
      exact ⟨b, o, c, k1, k2, k3, ih d c u z hz1 k4⟩
end Go.Proofs.YtfhlnelgnnkeoaaGreatDoor
namespace Go.Proofs.YtfhlnelgnnkeoaaGreatDoor
open Go.RowKit
set_option linter.unusedVariables false

theorem Qp.find_ones_at {k : Int} (hk : Qk.isK k = true) (h2 : Qk.argsN k ≠ 2) : ∃ j : Nat, (j : Int) = k ∧ Qp.find Qp.ones (Qk.word k) = some j := by
  rcases Qk.kinds hk with rfl | rfl | rfl | rfl | rfl | rfl | rfl | rfl | rfl | rfl | rfl | rfl | rfl | rfl
  · exact ⟨1, rfl, by simp only [Qp.find, ByteArray.toList_eq]; decide⟩
  · exact ⟨2, rfl, by simp only [Qp.find, ByteArray.toList_eq]; decide⟩
  · exact ⟨3, rfl, by simp only [Qp.find, ByteArray.toList_eq]; decide⟩
  · exact ⟨4, rfl, by simp only [Qp.find, ByteArray.toList_eq]; decide⟩
  · exact ⟨5, rfl, by simp only [Qp.find, ByteArray.toList_eq]; decide⟩
  · exact ⟨6, rfl, by simp only [Qp.find, ByteArray.toList_eq]; decide⟩
  · exact ⟨7, rfl, by simp only [Qp.find, ByteArray.toList_eq]; decide⟩
  · exact absurd rfl h2
  · exact absurd rfl h2
  · exact ⟨10, rfl, by simp only [Qp.find, ByteArray.toList_eq]; decide⟩
  · exact ⟨11, rfl, by simp only [Qp.find, ByteArray.toList_eq]; decide⟩
  · exact ⟨12, rfl, by simp only [Qp.find, ByteArray.toList_eq]; decide⟩
  · exact absurd rfl h2
  · exact ⟨14, rfl, by simp only [Qp.find, ByteArray.toList_eq]; decide⟩
theorem Qp.find_twos_at {k : Int} (hk : Qk.isK k = true) (h2 : Qk.argsN k = 2) : ∃ j : Nat, (j : Int) = k ∧ Qp.find Qp.twos (Qk.word k) = some j := by
  rcases Qk.kinds hk with rfl | rfl | rfl | rfl | rfl | rfl | rfl | rfl | rfl | rfl | rfl | rfl | rfl | rfl
  · cases h2
  · cases h2
  · cases h2
  · cases h2
  · cases h2
  · cases h2
  · cases h2
  · exact ⟨8, rfl, by simp only [Qp.find, ByteArray.toList_eq]; decide⟩
  · exact ⟨9, rfl, by simp only [Qp.find, ByteArray.toList_eq]; decide⟩
  · cases h2
  · cases h2
  · cases h2
  · exact ⟨13, rfl, by simp only [Qp.find, ByteArray.toList_eq]; decide⟩
  · cases h2
theorem Qp.word_not_open {k : Int} (hk : Qk.isK k = true) : Tk.B (Qk.word k) ≠ Tk.B ⟨#[40]⟩ := by
  rcases Qk.kinds hk with rfl | rfl | rfl | rfl | rfl | rfl | rfl | rfl | rfl | rfl | rfl | rfl | rfl | rfl <;> decide
theorem Qp.D_first (u : Nat) : ∃ c r, Tk.B (Qd.D u) = c :: r ∧ Tk.isD c = true ∧ (1 ≤ u → c ≠ 48) := by
  obtain ⟨b, r, h1, h2⟩ := Qp.dd_cons u
  refine ⟨(b.toNat : Int), r.map fun c => (c.toNat : Int), ?_, Qp.dd_all u b (by rw [h1]; exact List.mem_cons_self ..), fun hu hb => h2 hu ?_⟩
  · unfold Tk.B Qd.D
    rw [List.toList_toArray, h1]
    rfl
  · apply UInt8.toNat_inj.1
    have : b.toNat = 48 := by omega
    rw [this]; rfl
theorem Qp.val_D (u : Nat) (hu : u ≤ 9999999) : Qp.val (Qd.D u) = (u : Int) := by
  obtain ⟨b, r, h1, _⟩ := Qp.dd_cons u
  have hb := Qp.dd_all u b (by rw [h1]; exact List.mem_cons_self ..)
  have hd := Qp.dd_dec u
  have hb1 : 48 ≤ b.toNat ∧ b.toNat ≤ 57 := by simp [Tk.isD] at hb; omega
  have n45 : (b == 45) = false := by
    cases h : (b == 45)
    · rfl
    · have : b = 45 := by simpa using h
      subst this
      exact absurd hb1.1 (by decide)
  have n43 : (b == 43) = false := by
    cases h : (b == 43)
    · rfl
    · have : b = 43 := by simpa using h
      subst this
      exact absurd hb1.1 (by decide)
  unfold Qp.val Qd.D
  rw [List.toList_toArray]
  rw [h1] at hd ⊢
  unfold Lib.atoi
  simp only [n45, n43, Bool.false_eq_true, if_false, Lib.decNat, List.isEmpty_cons, hd, Option.map_some, Option.getD_some]
theorem Qp.dig_D {l : List Qp.T} {i u : Nat} (hu : u ≤ 9999999) (hk : (Qp.tk l i).k = 2) (ht : Tk.B (Qp.tk l i).t = Tk.B (Qd.D u)) : Qp.dig l i = .ok ((u : Int), i + 1) := by
  unfold Qp.dig
  rw [if_pos hk, Qp.B_inj ht, Qp.val_D u hu]
theorem Qp.D_ne (u : Nat) {s : ByteArray} {c : Int} {r : List Int} (hs : Tk.B s = c :: r) (hc : Tk.isD c = false) : Tk.B (Qd.D u) ≠ Tk.B s := by
  obtain ⟨c', r', h1, h2, _⟩ := Qp.D_first u
  intro h
  rw [h1, hs] at h
  cases h
  rw [hc] at h2
  cases h2
/-- A number is read as it was. -/
theorem Qp.num_text {l : List Qp.T} {i : Nat} {k m : Int} (h : Qk.least k ≤ m ∧ m ≤ Qk.most k) (h0 : 0 < Qk.most k) (hI : Qp.Is l i (Qk.numK k m)) : Qp.num l (Qk.least k) i = .ok (m, i + (Qk.numK k m).length) := by
  have hb := Qk.bound h
  have hle : Qk.least k = -1 ∨ Qk.least k = -9999999 ∨ Qk.least k = 0 := by unfold Qk.least; split <;> (try split) <;> simp
  unfold Qk.numK at hI ⊢
  unfold Qp.num
  by_cases h1 : m = -1 ∧ Qk.least k = -1
  · rw [if_pos h1] at hI ⊢
    have ht := hI.first.2
    rw [h1.2, Qp.in_yes (s := ⟨#[97, 110, 121]⟩) ht, h1.1]
    rfl
  · rw [if_neg h1] at hI ⊢
    by_cases h2 : m < 0
    · rw [if_pos h2] at hI ⊢
      have hl : Qk.least k = -9999999 := by omega
      obtain ⟨u, rfl⟩ : ∃ u : Nat, m = -(u : Int) := ⟨(-m).toNat, by omega⟩
      have e : (-(-(u : Int))).toNat = u := by omega
      rw [e] at hI ⊢
      have ht := hI.first.2
      have ht2 := hI.rest.first
      obtain ⟨c, r, d1, d2, d3⟩ := Qp.D_first u
      have hno : Qp.inW [⟨#[48]⟩] (Qp.tk l (i + 1)).t = false := by
        apply Qp.in_no
        rw [ht2.2]
        show Tk.B (Qd.D u) ≠ [48]
        rw [d1]
        intro hh
        cases hh
        exact d3 (by omega) rfl
      have hdig := Qp.dig_D (l := l) (i := i + 1) (u := u) (by omega) ht2.1 ht2.2
      rw [hl, Qp.in_yes (s := ⟨#[45]⟩) ht, hno, hdig]
      rfl
    · rw [if_neg h2] at hI ⊢
      obtain ⟨u, rfl⟩ : ∃ u : Nat, m = (u : Int) := ⟨m.toNat, by omega⟩
      have e : ((u : Int)).toNat = u := by omega
      rw [e] at hI ⊢
      have ht := hI.first
      have hn1 : Qp.inW [⟨#[97, 110, 121]⟩] (Qp.tk l i).t = false := by
        apply Qp.in_no
        rw [ht.2]
        exact Qp.D_ne u (c := 97) (r := [110, 121]) rfl (by decide)
      have hn2 : Qp.inW [⟨#[45]⟩] (Qp.tk l i).t = false := by
        apply Qp.in_no
        rw [ht.2]
        exact Qp.D_ne u (c := 45) (r := []) rfl (by decide)
      have hdig := Qp.dig_D (l := l) (i := i) (u := u) (by omega) ht.1 ht.2
      rw [hn1, hn2, Bool.and_false, Bool.and_false, hdig]
      rfl
/-- A query is read as it was. -/
theorem Qp.q_text : ∀ (n : Nat) (x : Qk.AT n), Qk.wrong n x = 0 → ∀ (d : Nat), Qk.parts n x ≤ d → ∀ (l : List Qp.T) (i : Nat), Qp.Is l i (Qk.tks n x) → ∃ y : Qk.AT d, Qp.q l d i = .ok (y, i + (Qk.tks n x).length) ∧ Qk.like n d x y := by
  intro n
  induction n with
  | zero => intro x; exact x.elim
  | succ n ih =>
    rintro ⟨⟨k, m⟩, s⟩ hw d hd l i hI
    obtain ⟨hk, hl, hb, hsub⟩ := Qk.isK_parts hw
    have hp : Qk.parts (n + 1) ((k, m), s) = 1 + (s.map (Qk.parts n)).sum := rfl
    rw [hp] at hd
    cases d with
    | zero => omega
    | succ d =>
      match s, hl, hsub, hd, hI with
      | [], hl, _, hd, hI =>
        have hI1 : Qp.Is l i (Qk.headK k m) := hI
        have h2 : Qk.argsN k ≠ 2 := by rw [← hl]; simp
        have h3 : Qk.argsN k ≠ 1 := by rw [← hl]; simp
        obtain ⟨j, hj, hf⟩ := Qp.find_ones_at hk h2
        have hw1 : (Qp.tk l i).t = Qk.word k := Qp.B_inj hI1.first.2
        have hno : Qp.inW [⟨#[40]⟩] (Qp.tk l i).t = false := Qp.in_no (by rw [hw1]; exact Qp.word_not_open hk)
        refine ⟨((k, m), []), ?_, rfl, trivial⟩
        show Qp.q l (d + 1) i = .ok (((k, m), []), i + (Qk.headK k m).length)
        unfold Qp.q Qp.wordF
        rw [hno, hw1, hf]
        simp only [Bool.false_eq_true, if_false, hj]
        unfold Qk.headK at hI1 ⊢
        by_cases h0 : 0 < Qk.most k
        · rw [if_pos h0] at hI1
          have hnum := Qp.num_text hb h0 hI1.rest
          simp only [h0, if_true, hnum, h3, if_false, List.length_cons]
          rw [show i + 1 + (Qk.numK k m).length = i + ((Qk.numK k m).length + 1) by omega]
        · have hm : m = 0 := by
            have : Qk.most k = 0 ∧ Qk.least k = 0 := by
              rcases Qk.kinds hk with rfl | rfl | rfl | rfl | rfl | rfl | rfl | rfl | rfl | rfl | rfl | rfl | rfl | rfl <;> first | exact absurd (by decide) h0 | exact ⟨rfl, rfl⟩
            omega
          subst hm
          simp only [h0, if_false, h3, List.length_cons, List.length_nil]
      | [a], hl, hsub, hd, hI =>
        have hI1 : Qp.Is l i (Qk.headK k m ++ Qk.tks n a) := hI
        have h2 : Qk.argsN k ≠ 2 := by rw [← hl]; simp
        have h3 : Qk.argsN k = 1 := by rw [← hl]; rfl
        obtain ⟨j, hj, hf⟩ := Qp.find_ones_at hk h2
        have hIh := hI1.left
        have hw1 : (Qp.tk l i).t = Qk.word k := Qp.B_inj hIh.first.2
        have hno : Qp.inW [⟨#[40]⟩] (Qp.tk l i).t = false := Qp.in_no (by rw [hw1]; exact Qp.word_not_open hk)
        have hda : Qk.parts n a ≤ d := by simp at hd; omega
        obtain ⟨y, hy, hly⟩ := ih a (hsub a (by simp)) d hda l _ hI1.right
        refine ⟨((k, m), [y]), ?_, rfl, hly, trivial⟩
        show Qp.q l (d + 1) i = .ok (((k, m), [y]), i + (Qk.headK k m ++ Qk.tks n a).length)
        unfold Qp.q Qp.wordF
        rw [hno, hw1, hf]
        simp only [Bool.false_eq_true, if_false, hj]
        unfold Qk.headK at hIh hy ⊢
        by_cases h0 : 0 < Qk.most k
        · rw [if_pos h0] at hIh
          have hnum := Qp.num_text hb h0 hIh.rest
          rw [if_pos h0, List.length_cons, show i + ((Qk.numK k m).length + 1) = i + 1 + (Qk.numK k m).length by omega] at hy
          simp only [h0, if_true, hnum, h3, hy]
          rw [List.length_append, List.length_cons, show i + 1 + (Qk.numK k m).length + (Qk.tks n a).length = i + ((Qk.numK k m).length + 1 + (Qk.tks n a).length) by omega]
        · have hm : m = 0 := by
            have : Qk.most k = 0 ∧ Qk.least k = 0 := by
              rcases Qk.kinds hk with rfl | rfl | rfl | rfl | rfl | rfl | rfl | rfl | rfl | rfl | rfl | rfl | rfl | rfl <;> first | exact absurd (by decide) h0 | exact ⟨rfl, rfl⟩
            omega
          subst hm
          rw [if_neg h0, List.length_cons, List.length_nil, Nat.zero_add] at hy
          simp only [h0, if_false, h3, if_true, hy, List.length_append, List.length_cons, List.length_nil, Nat.zero_add]
          rw [Nat.add_assoc]
      | [a, b], hl, hsub, hd, hI =>
        have hI1 : Qp.Is l i ((3, [40]) :: (Qk.tks n a ++ (Qk.headK k m ++ (Qk.tks n b ++ [(3, [41])])))) := hI
        have h2 : Qk.argsN k = 2 := by rw [← hl]; rfl
        have h0 : ¬ 0 < Qk.most k := of_decide_eq_false (Qk.pair_none hk h2)
        have hm : m = 0 := by
          have : Qk.most k = 0 ∧ Qk.least k = 0 := by
            rcases Qk.kinds hk with rfl | rfl | rfl | rfl | rfl | rfl | rfl | rfl | rfl | rfl | rfl | rfl | rfl | rfl <;> first | exact absurd (by decide) h0 | exact ⟨rfl, rfl⟩
          omega
        subst hm
        have hH : Qk.headK k 0 = [(1, Tk.B (Qk.word k))] := by unfold Qk.headK; rw [if_neg h0]
        rw [hH] at hI1
        obtain ⟨j, hj, hf⟩ := Qp.find_twos_at hk h2
        have hopen : Qp.inW [⟨#[40]⟩] (Qp.tk l i).t = true := Qp.in_yes hI1.first.2
        have hIa := hI1.rest
        have hIb := hIa.right
        have hIc := hIb.right
        have hId := hIc.right
        have hpa : 1 ≤ Qk.parts n a := by cases n with | zero => exact a.elim | succ n => show 1 ≤ 1 + _; omega
        have hpb : 1 ≤ Qk.parts n b := by cases n with | zero => exact b.elim | succ n => show 1 ≤ 1 + _; omega
        have hdd : Qk.parts n a ≤ d ∧ Qk.parts n b ≤ d ∧ d ≠ 0 := by simp at hd; omega
        obtain ⟨y, hy, hly⟩ := ih a (hsub a (by simp)) d hdd.1 l _ hIa.left
        obtain ⟨z, hz, hlz⟩ := ih b (hsub b (by simp)) d hdd.2.1 l _ hIc.left
        have hw1 : (Qp.tk l (i + 1 + (Qk.tks n a).length)).t = Qk.word k := Qp.B_inj hIb.first.2
        have hcl : Qp.inW [⟨#[41]⟩] (Qp.tk l (i + 1 + (Qk.tks n a).length + 1 + (Qk.tks n b).length)).t = true := Qp.in_yes hId.first.2
        have hz1 : Qp.q l d (i + 1 + (Qk.tks n a).length + 1) = .ok (z, i + 1 + (Qk.tks n a).length + 1 + (Qk.tks n b).length) := hz
        refine ⟨((k, 0), [y, z]), ?_, rfl, hly, hlz, trivial⟩
        show Qp.q l (d + 1) i = .ok (((k, 0), [y, z]), i + ([(3, [40])] ++ (Qk.tks n a ++ (Qk.headK k 0 ++ (Qk.tks n b ++ [(3, [41])])))).length)
        unfold Qp.q Qp.pairF
        rw [hopen, if_pos rfl, if_neg hdd.2.2, hy]
        simp only [hw1, hf, hz1, hcl, if_true, hj, hH]
        congr 2
        simp only [List.length_append, List.length_cons, List.length_nil]
        omega
      | a :: b :: c :: r, hl, _, _, _ =>
        have := Qk.args_few (k := k)
        rw [← hl] at this
        simp at this
end Go.Proofs.YtfhlnelgnnkeoaaGreatDoor
