/- By the verifier. -/
import Derived.Test.YtfccpddehpgfoaaGreatDoorZA
import Derived.Test.YtfccpddehpgfoaaGreatDoorYH
set_option maxHeartbeats 1600000
namespace Go.Proofs.YtfccpddehpgfoaaGreatDoor
open Go.RowKit
set_option linter.unusedVariables false
def Tb.I (l : List UInt8) : List Int := l.map fun c => (c.toNat : Int)
theorem Zbd (a b : List UInt8) : Tb.I (a ++ b) = Tb.I a ++ Tb.I b := List.map_append
theorem Tb.flat_cons (s : ByteArray) (r : List ByteArray) : Tb.I (Zbu (s :: r)) = Tk.B s ++ Tb.I (Zbu r) := by
 unfold Zbu
 rw [List.flatMap_cons, Zbd]
 rfl
theorem Tb.flat_nil : Tb.I (Zbu []) = [] := rfl
theorem Qp.Sc.nil (rest : List Int) : Qp.Sc [] rest [] := fun pos acc => ⟨[], by simp, fun t ht => (by cases ht), rfl⟩
theorem ZaB (r : List Int) : Qp.ends (32 :: r) := Or.inr ⟨32, r, rfl, by decide⟩
theorem ZaQ {T rest : List Int} {ks : List (Nat × List Int)} (h : Qp.Sc T rest ks) : Qp.Sc (32 :: T) rest ks := Zaq (T1 := [32]) (k1 := []) (ZdR _) h
theorem Zbp {c : Int} {T rest : List Int} {ks : List (Nat × List Int)} (hs : Tk.isSign c = true) (hr : c = 61 → (T ++ rest).head? ≠ some 61) (h : Qp.Sc T rest ks) : Qp.Sc (c :: T) rest ((3, [c]) :: ks) := Zaq (T1 := [c]) (k1 := [(3, [c])]) (Qp.Sc.sign _ hs hr) h
theorem Qp.Sc.wd {c : Int} {q T rest : List Int} {ks : List (Nat × List Int)} (hL : Tk.isL c = true) (hr : Tk.run Tk.isLD q = q.length) (hl : q.length < 12) (he : Qp.ends (T ++ rest)) (h : Qp.Sc T rest ks) : Qp.Sc ((c :: q) ++ T) rest ((1, c :: q) :: ks) := Zaq (k1 := [(1, c :: q)]) (ZgF hL hr hl he) h
theorem Qp.Sc.nm {t : ByteArray} {T rest : List Int} {ks : List (Nat × List Int)} (h : Zam t = true) (he : Qp.ends (T ++ rest)) (h2 : Qp.Sc T rest ks) : Qp.Sc (Tk.B t ++ T) rest ((1, Tk.B t) :: ks) := Zaq (k1 := [(1, Tk.B t)]) (Qp.Sc.name t h he) h2
theorem Zc9 {n : Nat} {x : Zat n} {T rest : List Int} {ks : List (Nat × List Int)} (h : Zac n x = true) (he : Qp.ends (T ++ rest)) (h2 : Qp.Sc T rest ks) : Qp.Sc (Tk.B (Pr.text Qd.num n x) ++ T) rest (Tb.ex n x ++ ks) := Zaq (Qp.Sc.ex n x h _ he) h2
theorem Qp.Sc.nb {n : Int} {T rest : List Int} {ks : List (Nat × List Int)} (h : Pr.NK n) (he : Qp.ends (T ++ rest)) (h2 : Qp.Sc T rest ks) : Qp.Sc (Tk.B (Qd.num n) ++ T) rest (Tb.num n ++ ks) := Zaq (Qp.Sc.number n h he) h2
theorem ZeV (rest : List Int) : ∀ k, Qp.Sc (Tb.I (List.replicate k 32)) rest []
 | 0 => Qp.Sc.nil rest
 | k + 1 => ZaQ (ZeV rest k)
theorem ZaT {k : Nat} {ps : List ByteArray} {rest : List Int} {ks : List (Nat × List Int)} (h : Qp.Sc (Tb.I (Zbu ps)) (10 :: rest) ks) : Qp.Sc (Tb.I (ZaW k ps)) rest ks := by
 unfold ZaW
 rw [Zbd, Zbd]
 have h1 := Zaq (T2 := [10]) (k2 := []) h (Zhq rest)
 rw [List.append_nil] at h1
 rw [List.append_assoc]
 exact Zaq (k1 := []) (ZeV _ k) h1
def Tb.join : List (List (Nat × List Int)) → List (Nat × List Int)
 | [] => []
 | [a] => a
 | a :: b :: r => a ++ (3, [44]) :: Tb.join (b :: r)
theorem Zf7 (a b : ByteArray) (r : List ByteArray) : Tk.B (Pr.commas (a :: b :: r)) = Tk.B a ++ 44 :: 32 :: Tk.B (Pr.commas (b :: r)) := by
 show Tb.I (Lib.join (a.data.toList :: b.data.toList :: r.map (·.data.toList)) [44, 32]) = Tb.I a.data.toList ++ 44 :: 32 :: Tb.I (Lib.join (b.data.toList :: r.map (·.data.toList)) [44, 32])
 have e : Lib.join (a.data.toList :: b.data.toList :: r.map (·.data.toList)) [44, 32] = a.data.toList ++ ([44, 32] ++ Lib.join (b.data.toList :: r.map (·.data.toList)) [44, 32]) := by
  simp only [Lib.join]
  rw [List.intercalate_cons_cons]
  simp [List.append_assoc]
 rw [e, Zbd, Zbd]
 rfl
theorem Qp.Sc.commas {α : Type} (f : α → ByteArray) (g : α → List (Nat × List Int)) : ∀ (l : List α), (∀ a ∈ l, ∀ rest, Qp.ends rest → Qp.Sc (Tk.B (f a)) rest (g a)) → ∀ rest, Qp.ends rest → Qp.Sc (Tk.B (Pr.commas (l.map f))) rest (Tb.join (l.map g))
 | [], _, rest, _ => Qp.Sc.nil rest
 | [a], h, rest, he => by
  have e : Tk.B (Pr.commas ([a].map f)) = Tk.B (f a) := by
   show Tb.I (Lib.join [(f a).data.toList] [44, 32]) = Tb.I (f a).data.toList
   rw [Lib.join_one]
  rw [e]
  exact h a (by simp) rest he
 | a :: b :: r, h, rest, he => by
  have ih := Qp.Sc.commas f g (b :: r) (fun x hx => h x (List.mem_cons_of_mem _ hx)) rest he
  rw [List.map_cons, List.map_cons, Zf7]
  exact Zaq (h a (by simp) _ (Zbo (c := 44) (by decide) _)) (Zbp (by decide) (by intro h; cases h) (ZaQ ih))
def Tb.els {m n : Nat} (f : Zap m n → List (Nat × List Int)) (el : List (Zap m n)) : List (Nat × List Int) := if el.length = 0 then [] else (3, [125]) :: (1, [101, 108, 115, 101]) :: (3, [123]) :: el.flatMap f
def Tb.cmd {m : Nat} : (n : Nat) → Zap m n → List (Nat × List Int)
 | 0, _ => []
 | n + 1, y => if y.1.1 = 1 then (1, Tk.B y.1.2.2.1) :: (3, [61]) :: (Tb.ex m y.2.1.2.1 ++ [(3, [59])])
  else if y.1.1 = 2 then (1, Tk.B y.1.2.2.1) :: (3, [91]) :: (Tb.ex m y.2.1.1 ++ (3, [93]) :: (3, [61]) :: (Tb.ex m y.2.1.2.1 ++ [(3, [59])]))
  else if y.1.1 = 3 then (1, Tk.B y.1.2.2.1) :: (3, [61]) :: (1, Tk.B y.1.2.2.2) :: (3, [40]) :: (Tb.join (y.2.1.2.2.map (Tb.ex m)) ++ [(3, [41]), (3, [59])])
  else if y.1.1 = 4 then [(1, Tk.B y.1.2.2.1), (3, [61]), (1, [114, 101, 97, 100]), (3, [59])]
  else if y.1.1 = 5 then (1, [112, 114, 105, 110, 116]) :: (Tb.ex m y.2.1.2.1 ++ [(3, [59])])
  else if y.1.1 = 6 then (1, [105, 102]) :: (Tb.ex m y.2.1.2.1 ++ (3, [123]) :: (y.2.2.1.flatMap (Tb.cmd n) ++ (Tb.els (Tb.cmd n) y.2.2.2 ++ [(3, [125])])))
  else (1, [119, 104, 105, 108, 101]) :: (Tb.ex m y.2.1.2.1 ++ (3, [123]) :: (y.2.2.1.flatMap (Tb.cmd n) ++ [(3, [125])]))
structure Tb.Fm {m n : Nat} (y : Zap m (n + 1)) (f1 f2 f3 f4 f5 f6 f7 : Bool) : Prop where
 nm : Zar y.1.2.2.1 f1 = true
 ot : Zar y.1.2.2.2 f2 = true
 ix : Zan m y.2.1.1 f3 = true
 ex : Zan m y.2.1.2.1 f4 = true
 ar : ∀ a ∈ y.2.1.2.2, Zac m a = true
 ar0 : f5 = false → y.2.1.2.2 = []
 th : ∀ c ∈ y.2.2.1, Zaf n c = true
 th0 : f6 = false → y.2.2.1 = []
 el : ∀ c ∈ y.2.2.2, Zaf n c = true
 el0 : f7 = false → y.2.2.2 = []
theorem Tb.fm {m n : Nat} (y : Zap m (n + 1)) (h : Zaf (n + 1) y = true) (f1 f2 f3 f4 f5 f6 f7 : Bool) (hf : ZaS y.1.1 = some (f1, f2, f3, f4, f5, f6, f7)) : Tb.Fm y f1 f2 f3 f4 f5 f6 f7 := by
 have h : (match ZaS y.1.1 with
  | none => false
  | some (f1, f2, f3, f4, f5, f6, f7) => Zar y.1.2.2.1 f1 && Zar y.1.2.2.2 f2 && Zan m y.2.1.1 f3 && Zan m y.2.1.2.1 f4 && (y.2.1.2.2.all (Zac m) && (f5 || decide (y.2.1.2.2.length = 0))) &&
   (y.2.2.1.all (Zaf n) && (f6 || decide (y.2.2.1.length = 0))) && (y.2.2.2.all (Zaf n) && (f7 || decide (y.2.2.2.length = 0)))) = true := h
 rw [hf] at h
 simp only [Bool.and_eq_true] at h
 have e0 : ∀ {α : Type} {l : List α} {f : Bool}, (f || decide (l.length = 0)) = true → f = false → l = [] := fun {α l f} h hf => by
  rw [hf, Bool.false_or, decide_eq_true_eq] at h
  exact List.eq_nil_of_length_eq_zero h
 exact ⟨h.1.1.1.1.1.1, h.1.1.1.1.1.2, h.1.1.1.1.2, h.1.1.1.2, List.all_eq_true.1 h.1.1.2.1, e0 h.1.1.2.2, List.all_eq_true.1 h.1.2.1, e0 h.1.2.2, List.all_eq_true.1 h.2.1, e0 h.2.2⟩
theorem Zfj {m n : Nat} (y : Zap m (n + 1)) (h : Zaf (n + 1) y = true) : y.1.1 = 1 ∨ y.1.1 = 2 ∨ y.1.1 = 3 ∨ y.1.1 = 4 ∨ y.1.1 = 5 ∨ y.1.1 = 6 ∨ y.1.1 = 7 := by
 have h : (match ZaS y.1.1 with
  | none => false
  | some (f1, f2, f3, f4, f5, f6, f7) => _) = true := h
 by_cases k1 : y.1.1 = 1
 · exact .inl k1
 by_cases k2 : y.1.1 = 2
 · exact .inr (.inl k2)
 by_cases k3 : y.1.1 = 3
 · exact .inr (.inr (.inl k3))
 by_cases k4 : y.1.1 = 4
 · exact .inr (.inr (.inr (.inl k4)))
 by_cases k5 : y.1.1 = 5
 · exact .inr (.inr (.inr (.inr (.inl k5))))
 by_cases k6 : y.1.1 = 6
 · exact .inr (.inr (.inr (.inr (.inr (.inl k6)))))
 by_cases k7 : y.1.1 = 7
 · exact .inr (.inr (.inr (.inr (.inr (.inr k7)))))
 exfalso
 have e : ZaS y.1.1 = none := by
  unfold ZaS
  rw [if_neg k1, if_neg k2, if_neg k3, if_neg k4, if_neg k5, if_neg k6, if_neg k7]
 rw [e] at h
 cases h
theorem Zb1 {m : Nat} {x : Zat m} (h : Zan m x true = true) : Zac m x = true := h
theorem Qp.Sc.all {α : Type} (f : α → List UInt8) (g : α → List (Nat × List Int)) : ∀ (l : List α), (∀ a ∈ l, ∀ rest, Qp.Sc (Tb.I (f a)) rest (g a)) → ∀ rest, Qp.Sc (Tb.I (l.flatMap f)) rest (l.flatMap g)
 | [], _, rest => Qp.Sc.nil rest
 | a :: r, h, rest => by
  rw [List.flatMap_cons, List.flatMap_cons, Zbd]
  exact Zaq (h a (by simp) _) (Qp.Sc.all f g r (fun x hx => h x (List.mem_cons_of_mem _ hx)) rest)
theorem Zd0 {m n : Nat} (y : Zap m (n + 1)) (hk : y.1.1 = 1) : Tb.cmd (n + 1) y = (1, Tk.B y.1.2.2.1) :: (3, [61]) :: (Tb.ex m y.2.1.2.1 ++ [(3, [59])]) ∧ ∀ k, Pr.cmd Qd.num (n + 1) k y = Pr.set Qd.num k y.1.2.2.1 y.2.1.2.1 := by
 constructor
 · show (if _ then _ else _) = _
   rw [if_pos hk]
 intro k
 show (if _ then _ else _) = _
 rw [if_pos hk]
theorem Zel {m n : Nat} (y : Zap m (n + 1)) (hk : y.1.1 = 2) : Tb.cmd (n + 1) y = (1, Tk.B y.1.2.2.1) :: (3, [91]) :: (Tb.ex m y.2.1.1 ++ (3, [93]) :: (3, [61]) :: (Tb.ex m y.2.1.2.1 ++ [(3, [59])])) ∧ ∀ k, Pr.cmd Qd.num (n + 1) k y = Pr.put Qd.num k y.1.2.2.1 y.2.1.1 y.2.1.2.1 := by
 constructor
 · show (if _ then _ else _) = _
   rw [if_neg (by omega), if_pos hk]
 intro k
 show (if _ then _ else _) = _
 rw [if_neg (by omega), if_pos hk]
theorem Zec {m n : Nat} (y : Zap m (n + 1)) (hk : y.1.1 = 3) : Tb.cmd (n + 1) y = (1, Tk.B y.1.2.2.1) :: (3, [61]) :: (1, Tk.B y.1.2.2.2) :: (3, [40]) :: (Tb.join (y.2.1.2.2.map (Tb.ex m)) ++ [(3, [41]), (3, [59])]) ∧ ∀ k, Pr.cmd Qd.num (n + 1) k y = Pr.call Qd.num k y.1.2.2.1 y.1.2.2.2 y.2.1.2.2 := by
 constructor
 · show (if _ then _ else _) = _
   rw [if_neg (by omega), if_neg (by omega), if_pos hk]
 intro k
 show (if _ then _ else _) = _
 rw [if_neg (by omega), if_neg (by omega), if_pos hk]
theorem Zek {m n : Nat} (y : Zap m (n + 1)) (hk : y.1.1 = 4) : Tb.cmd (n + 1) y = [(1, Tk.B y.1.2.2.1), (3, [61]), (1, [114, 101, 97, 100]), (3, [59])] ∧ ∀ k, Pr.cmd Qd.num (n + 1) k y = Pr.read k y.1.2.2.1 := by
 constructor
 · show (if _ then _ else _) = _
   rw [if_neg (by omega), if_neg (by omega), if_neg (by omega), if_pos hk]
 intro k
 show (if _ then _ else _) = _
 rw [if_neg (by omega), if_neg (by omega), if_neg (by omega), if_pos hk]
theorem Zed {m n : Nat} (y : Zap m (n + 1)) (hk : y.1.1 = 5) : Tb.cmd (n + 1) y = (1, [112, 114, 105, 110, 116]) :: (Tb.ex m y.2.1.2.1 ++ [(3, [59])]) ∧ ∀ k, Pr.cmd Qd.num (n + 1) k y = ZcT Qd.num k y.2.1.2.1 := by
 constructor
 · show (if _ then _ else _) = _
   rw [if_neg (by omega), if_neg (by omega), if_neg (by omega), if_neg (by omega), if_pos hk]
 intro k
 show (if _ then _ else _) = _
 rw [if_neg (by omega), if_neg (by omega), if_neg (by omega), if_neg (by omega), if_pos hk]
theorem Zd6 {m n : Nat} (y : Zap m (n + 1)) (hk : y.1.1 = 6) : Tb.cmd (n + 1) y = (1, [105, 102]) :: (Tb.ex m y.2.1.2.1 ++ (3, [123]) :: (y.2.2.1.flatMap (Tb.cmd n) ++ (Tb.els (Tb.cmd n) y.2.2.2 ++ [(3, [125])]))) ∧ ∀ k, Pr.cmd Qd.num (n + 1) k y = Zdn Qd.num k (Pr.cmd Qd.num n (k + 2)) y.2.1.2.1 y.2.2.1 y.2.2.2 := by
 constructor
 · show (if _ then _ else _) = _
   rw [if_neg (by omega), if_neg (by omega), if_neg (by omega), if_neg (by omega), if_neg (by omega), if_pos hk]
 intro k
 show (if _ then _ else _) = _
 rw [if_neg (by omega), if_neg (by omega), if_neg (by omega), if_neg (by omega), if_neg (by omega), if_pos hk]
theorem Zem {m n : Nat} (y : Zap m (n + 1)) (hk : y.1.1 = 7) : Tb.cmd (n + 1) y = (1, [119, 104, 105, 108, 101]) :: (Tb.ex m y.2.1.2.1 ++ (3, [123]) :: (y.2.2.1.flatMap (Tb.cmd n) ++ [(3, [125])])) ∧ ∀ k, Pr.cmd Qd.num (n + 1) k y = ZcS Qd.num k (Pr.cmd Qd.num n (k + 2)) y.2.1.2.1 y.2.2.1 := by
 constructor
 · show (if _ then _ else _) = _
   rw [if_neg (by omega), if_neg (by omega), if_neg (by omega), if_neg (by omega), if_neg (by omega), if_neg (by omega)]
 intro k
 show (if _ then _ else _) = _
 rw [if_neg (by omega), if_neg (by omega), if_neg (by omega), if_neg (by omega), if_neg (by omega), if_neg (by omega)]
theorem Qp.Sc.cmd {m : Nat} : ∀ (n : Nat) (y : Zap m n), Zaf n y = true → ∀ (k : Nat) (rest : List Int), Qp.Sc (Tb.I (Pr.cmd Qd.num n k y)) rest (Tb.cmd n y) := by
 intro n
 induction n with
 | zero => intro y h; exact absurd h (by simp [Zaf])
 | succ n ih =>
  intro y hy k rest
  have semi : ∀ r, Qp.Sc [59] r [(3, [59])] := fun r => Qp.Sc.sign _ (by decide) (by intro h; cases h)
  have clos : ∀ r, Qp.Sc [125] r [(3, [125])] := fun r => Qp.Sc.sign _ (by decide) (by intro h; cases h)
  have e59 : ∀ r, Qp.ends ([59] ++ r) := fun r => Zbo (c := 59) (by decide) r
  rcases Zfj y hy with hk | hk | hk | hk | hk | hk | hk
  · have F := Tb.fm y hy true false false true false false false (by rw [hk]; rfl)
    rw [(Zd0 y hk).1, (Zd0 y hk).2 k]
    unfold Pr.set
    refine ZaT ?_
    rw [Tb.flat_cons, Tb.flat_cons, Tb.flat_cons, Tb.flat_cons, Tb.flat_nil]
    exact Qp.Sc.nm F.nm (ZaB _) (ZaQ (Zbp (c := 61) (by decide) (fun _ => by simp) (ZaQ (Zc9 (Zb1 F.ex) (e59 _) (semi _)))))
  · have F := Tb.fm y hy true false true true false false false (by rw [hk]; rfl)
    rw [(Zel y hk).1, (Zel y hk).2 k]
    unfold Pr.put Pr.cell
    refine ZaT ?_
    rw [Tb.flat_cons, Tb.flat_cons, Tb.flat_cons, Tb.flat_cons, Tb.flat_nil, Za1, Za1, Za1, List.append_assoc, List.append_assoc, List.append_assoc]
    exact Qp.Sc.nm F.nm (Zbo (c := 91) (by decide) _) (Zbp (c := 91) (by decide) (by intro h; cases h) (Zc9 (Zb1 F.ix) (Zbo (c := 93) (by decide) _) (Zbp (c := 93) (by decide) (by intro h; cases h) (ZaQ (Zbp (c := 61) (by decide) (fun _ => by simp) (ZaQ (Zc9 (Zb1 F.ex) (e59 _) (semi _))))))))
  · have F := Tb.fm y hy true true false false true false false (by rw [hk]; rfl)
    rw [(Zec y hk).1, (Zec y hk).2 k]
    unfold Pr.call
    refine ZaT ?_
    rw [Tb.flat_cons, Tb.flat_cons, Tb.flat_cons, Tb.flat_cons, Tb.flat_cons, Tb.flat_cons, Tb.flat_nil]
    have hc := Qp.Sc.commas (Pr.text Qd.num m) (Tb.ex m) y.2.1.2.2 (fun a ha r hr => Qp.Sc.ex m a (F.ar a ha) r hr) ([41, 59] ++ 10 :: rest) (Zbo (c := 41) (by decide) _)
    have h1 := Zaq hc (Zbp (c := 41) (by decide) (by intro h; cases h) (semi (10 :: rest)))
    exact Qp.Sc.nm F.nm (ZaB _) (ZaQ (Zbp (c := 61) (by decide) (fun _ => by simp) (ZaQ (Qp.Sc.nm F.ot (Zbo (c := 40) (by decide) _) (Zbp (c := 40) (by decide) (by intro h; cases h) h1)))))
  · have F := Tb.fm y hy true false false false false false false (by rw [hk]; rfl)
    rw [(Zek y hk).1, (Zek y hk).2 k]
    unfold Pr.read
    refine ZaT ?_
    rw [Tb.flat_cons, Tb.flat_cons, Tb.flat_nil]
    exact Qp.Sc.nm F.nm (ZaB _) (ZaQ (Zbp (c := 61) (by decide) (fun _ => by simp) (ZaQ (Qp.Sc.wd (c := 114) (q := [101, 97, 100]) (by decide) (by decide) (by decide) (e59 _) (semi _)))))
  · have F := Tb.fm y hy false false false true false false false (by rw [hk]; rfl)
    rw [(Zed y hk).1, (Zed y hk).2 k]
    unfold ZcT
    refine ZaT ?_
    rw [Tb.flat_cons, Tb.flat_cons, Tb.flat_cons, Tb.flat_nil]
    exact Qp.Sc.wd (c := 112) (q := [114, 105, 110, 116]) (by decide) (by decide) (by decide) (ZaB _) (ZaQ (Zc9 (Zb1 F.ex) (e59 _) (semi _)))
  · have F := Tb.fm y hy false false false true false true true (by rw [hk]; rfl)
    rw [(Zd6 y hk).1, (Zd6 y hk).2 k]
    have hth := Qp.Sc.all (Pr.cmd Qd.num n (k + 2)) (Tb.cmd n) y.2.2.1 (fun c hc r => ih c (F.th c hc) (k + 2) r)
    have hel := Qp.Sc.all (Pr.cmd Qd.num n (k + 2)) (Tb.cmd n) y.2.2.2 (fun c hc r => ih c (F.el c hc) (k + 2) r)
    unfold Zdn
    rw [Zbd, Zbd, Zbd, List.append_assoc, List.append_assoc]
    have h1 : ∀ r, Qp.Sc (Tb.I (ZaW k [⟨#[105, 102, 32]⟩, Pr.text Qd.num m y.2.1.2.1, ⟨#[32, 123]⟩])) r ((1, [105, 102]) :: (Tb.ex m y.2.1.2.1 ++ [(3, [123])])) := fun r => by
     refine ZaT ?_
     rw [Tb.flat_cons, Tb.flat_cons, Tb.flat_cons, Tb.flat_nil]
     exact Qp.Sc.wd (c := 105) (q := [102]) (by decide) (by decide) (by decide) (ZaB _) (ZaQ (Zc9 (Zb1 F.ex) (ZaB _) (ZaQ (Zbp (c := 123) (by decide) (by intro h; cases h) (Qp.Sc.nil _)))))
    have h2 : ∀ r, Qp.Sc (Tb.I (Pr.els k (Pr.cmd Qd.num n (k + 2)) y.2.2.2)) r (Tb.els (Tb.cmd n) y.2.2.2) := fun r => by
     unfold Pr.els Tb.els
     split
     · exact Qp.Sc.nil _
     rw [Zbd]
     have h3 : ∀ r, Qp.Sc (Tb.I (ZaW k [⟨#[125, 32, 101, 108, 115, 101, 32, 123]⟩])) r [(3, [125]), (1, [101, 108, 115, 101]), (3, [123])] := fun r => by
      refine ZaT ?_
      rw [Tb.flat_cons, Tb.flat_nil]
      exact Zbp (c := 125) (by decide) (by intro h; cases h) (ZaQ (Qp.Sc.wd (c := 101) (q := [108, 115, 101]) (by decide) (by decide) (by decide) (ZaB _) (ZaQ (Zbp (c := 123) (by decide) (by intro h; cases h) (Qp.Sc.nil _)))))
     exact Zaq (h3 _) (hel r)
    have h4 : Qp.Sc (Tb.I (ZaW k [⟨#[125]⟩])) rest [(3, [125])] := by
     refine ZaT ?_
     rw [Tb.flat_cons, Tb.flat_nil]
     exact clos _
    have h5 := Zaq (h1 _) (Zaq (hth _) (Zaq (h2 _) h4))
    rw [List.cons_append, List.append_assoc] at h5
    exact h5
  have F := Tb.fm y hy false false false true false true false (by rw [hk]; rfl)
  rw [(Zem y hk).1, (Zem y hk).2 k]
  have hth := Qp.Sc.all (Pr.cmd Qd.num n (k + 2)) (Tb.cmd n) y.2.2.1 (fun c hc r => ih c (F.th c hc) (k + 2) r)
  unfold ZcS
  rw [Zbd, Zbd, List.append_assoc]
  have h1 : ∀ r, Qp.Sc (Tb.I (ZaW k [⟨#[119, 104, 105, 108, 101, 32]⟩, Pr.text Qd.num m y.2.1.2.1, ⟨#[32, 123]⟩])) r ((1, [119, 104, 105, 108, 101]) :: (Tb.ex m y.2.1.2.1 ++ [(3, [123])])) := fun r => by
   refine ZaT ?_
   rw [Tb.flat_cons, Tb.flat_cons, Tb.flat_cons, Tb.flat_nil]
   exact Qp.Sc.wd (c := 119) (q := [104, 105, 108, 101]) (by decide) (by decide) (by decide) (ZaB _) (ZaQ (Zc9 (Zb1 F.ex) (ZaB _) (ZaQ (Zbp (c := 123) (by decide) (by intro h; cases h) (Qp.Sc.nil _)))))
  have h4 : Qp.Sc (Tb.I (ZaW k [⟨#[125]⟩])) rest [(3, [125])] := by
   refine ZaT ?_
   rw [Tb.flat_cons, Tb.flat_nil]
   exact clos _
  have h5 := Zaq (h1 _) (Zaq (hth _) h4)
  rw [List.cons_append, List.append_assoc] at h5
  exact h5
def Tb.var (y : ByteArray × Int) : List (Nat × List Int) := if y.2 = 0 then [(1, [118, 97, 114]), (1, Tk.B y.1), (3, [59])] else (1, [97, 114, 114]) :: (1, Tk.B y.1) :: (Tb.num y.2 ++ [(3, [59])])
def Tb.bd {m n : Nat} (x : Tk.FT m n) : List (Nat × List Int) := x.vs.flatMap Tb.var ++ x.cs.flatMap (Tb.cmd n)
def Tb.func {m n : Nat} (x : Tk.FT m n) : List (Nat × List Int) := (1, [102, 117, 110, 99]) :: (1, Tk.B x.nm) :: (3, [40]) :: (Tb.join (x.ps.map fun t => [(1, Tk.B t)]) ++ (3, [41]) :: (3, [123]) :: (Tb.bd x ++ (1, [114, 101, 116, 117, 114, 110]) :: (Tb.ex m x.re ++ [(3, [59]), (3, [125])])))
def Tb.main {m n : Nat} (x : Tk.FT m n) : List (Nat × List Int) := (1, [109, 97, 105, 110]) :: (3, [123]) :: (Tb.bd x ++ [(3, [125])])
theorem Qp.Sc.var (y : ByteArray × Int) (h : Za5 y = true) (k : Nat) (rest : List Int) : Qp.Sc (Tb.I (ZaW k (Pr.var Qd.num y))) rest (Tb.var y) := by
 unfold Za5 at h
 simp only [Bool.and_eq_true, decide_eq_true_eq] at h
 obtain ⟨⟨h1, h2⟩, h3⟩ := h
 have semi : ∀ r, Qp.Sc [59] r [(3, [59])] := fun r => Qp.Sc.sign _ (by decide) (by intro h; cases h)
 have e59 : ∀ r, Qp.ends ([59] ++ r) := fun r => Zbo (c := 59) (by decide) r
 refine ZaT ?_
 unfold Pr.var Tb.var
 split
 · rw [Tb.flat_cons, Tb.flat_cons, Tb.flat_cons, Tb.flat_nil]
   exact Qp.Sc.wd (c := 118) (q := [97, 114]) (by decide) (by decide) (by decide) (ZaB _) (ZaQ (Qp.Sc.nm h1 (e59 _) (semi _)))
 rw [Tb.flat_cons, Tb.flat_cons, Tb.flat_cons, Tb.flat_cons, Tb.flat_cons, Tb.flat_nil]
 exact Qp.Sc.wd (c := 97) (q := [114, 114]) (by decide) (by decide) (by decide) (ZaB _) (ZaQ (Qp.Sc.nm h1 (ZaB _) (ZaQ (Qp.Sc.nb (n := y.2) ⟨by omega, by omega⟩ (e59 _) (semi _)))))
structure Tb.Ff {m n : Nat} (x : Tk.FT m n) (isMain : Bool) : Prop where
 ps : ∀ t ∈ x.ps, Zam t = true
 ps0 : isMain = true → x.ps = []
 vs : ∀ y ∈ x.vs, Za5 y = true
 nm : Zar x.nm (!isMain) = true
 cs : ∀ y ∈ x.cs, Zaf n y = true
 re : Zan m x.re (!isMain) = true
theorem Tb.ff {m n : Nat} (x : Tk.FT m n) (b : Bool) (h : ZaR x b = true) : Tb.Ff x b := by
 unfold ZaR at h
 simp only [Bool.and_eq_true] at h
 obtain ⟨⟨⟨⟨⟨h0, h1⟩, h2⟩, h3⟩, h4⟩, h5⟩ := h
 refine ⟨List.all_eq_true.1 h1, fun hb => ?_, List.all_eq_true.1 h2, h3, List.all_eq_true.1 h4, h5⟩
 rw [hb, Bool.true_and, Bool.not_eq_true', decide_eq_false_iff_not] at h0
 exact List.eq_nil_of_length_eq_zero (by omega)
theorem Qp.Sc.body {m n : Nat} (x : Tk.FT m n) (b : Bool) (h : Tb.Ff x b) (rest : List Int) : Qp.Sc (Tb.I (ZcG Qd.num (0 + 2) (Pr.cmd Qd.num n 2) x)) rest (Tb.bd x) := by
 unfold ZcG Tb.bd
 rw [Zbd]
 exact Zaq (Qp.Sc.all (fun y => ZaW (0 + 2) (Pr.var Qd.num y)) Tb.var x.vs (fun y hy r => Qp.Sc.var y (h.vs y hy) _ r) _) (Qp.Sc.all (Pr.cmd Qd.num n 2) (Tb.cmd n) x.cs (fun y hy r => Qp.Sc.cmd n y (h.cs y hy) 2 r) rest)
theorem Qp.Sc.main {m n : Nat} (x : Tk.FT m n) (h : Tb.Ff x true) (rest : List Int) : Qp.Sc (Tb.I (Tt.fb true x)) rest (Tb.main x) := by
 show Qp.Sc (Tb.I (Pr.main Qd.num 0 (Pr.cmd Qd.num n 2) x)) rest _
 unfold Pr.main Tb.main
 rw [Zbd, Zbd, List.append_assoc]
 have h1 : ∀ r, Qp.Sc (Tb.I (ZaW 0 [⟨#[109, 97, 105, 110, 32, 123]⟩])) r [(1, [109, 97, 105, 110]), (3, [123])] := fun r => by
  refine ZaT ?_
  rw [Tb.flat_cons, Tb.flat_nil]
  exact Qp.Sc.wd (c := 109) (q := [97, 105, 110]) (by decide) (by decide) (by decide) (ZaB _) (ZaQ (Zbp (c := 123) (by decide) (by intro h; cases h) (Qp.Sc.nil _)))
 have h4 : Qp.Sc (Tb.I (ZaW 0 [⟨#[125]⟩])) rest [(3, [125])] := by
  refine ZaT ?_
  rw [Tb.flat_cons, Tb.flat_nil]
  exact Qp.Sc.sign _ (by decide) (by intro h; cases h)
 exact Zaq (h1 _) (Zaq (Qp.Sc.body x true h _) h4)
theorem Qp.Sc.func {m n : Nat} (x : Tk.FT m n) (h : Tb.Ff x false) (rest : List Int) : Qp.Sc (Tb.I (Tt.fb false x)) rest (Tb.func x) := by
 show Qp.Sc (Tb.I (Pr.func Qd.num 0 (Pr.cmd Qd.num n 2) x)) rest _
 unfold Pr.func ZdF Tb.func
 rw [Zbd, Zbd, Zbd, List.append_assoc, List.append_assoc]
 have h1 : ∀ r, Qp.Sc (Tb.I (ZaW 0 [⟨#[102, 117, 110, 99, 32]⟩, x.nm, ⟨#[40]⟩, Pr.commas x.ps, ⟨#[41, 32, 123]⟩])) r ((1, [102, 117, 110, 99]) :: (1, Tk.B x.nm) :: (3, [40]) :: (Tb.join (x.ps.map fun t => [(1, Tk.B t)]) ++ [(3, [41]), (3, [123])])) := fun r => by
  refine ZaT ?_
  rw [Tb.flat_cons, Tb.flat_cons, Tb.flat_cons, Tb.flat_cons, Tb.flat_cons, Tb.flat_nil]
  have hc := Qp.Sc.commas (fun t => t) (fun t => [(1, Tk.B t)]) x.ps (fun a ha r hr => Qp.Sc.name a (h.ps a ha) hr) ([41, 32, 123] ++ 10 :: r) (Zbo (c := 41) (by decide) _)
  rw [List.map_id'] at hc
  have h1 := Zaq hc (Zbp (c := 41) (by decide) (by intro h; cases h) (ZaQ (Zbp (c := 123) (by decide) (by intro h; cases h) (Qp.Sc.nil (10 :: r)))))
  exact Qp.Sc.wd (c := 102) (q := [117, 110, 99]) (by decide) (by decide) (by decide) (ZaB _) (ZaQ (Qp.Sc.nm h.nm (Zbo (c := 40) (by decide) _) (Zbp (c := 40) (by decide) (by intro h; cases h) h1)))
 have h2 : ∀ r, Qp.Sc (Tb.I (ZaW (0 + 2) [⟨#[114, 101, 116, 117, 114, 110, 32]⟩, Pr.text Qd.num m x.re, ⟨#[59]⟩])) r ((1, [114, 101, 116, 117, 114, 110]) :: (Tb.ex m x.re ++ [(3, [59])])) := fun r => by
  refine ZaT ?_
  rw [Tb.flat_cons, Tb.flat_cons, Tb.flat_cons, Tb.flat_nil]
  exact Qp.Sc.wd (c := 114) (q := [101, 116, 117, 114, 110]) (by decide) (by decide) (by decide) (ZaB _) (ZaQ (Zc9 (Zb1 h.re) (Zbo (c := 59) (by decide) _) (Qp.Sc.sign _ (by decide) (by intro h; cases h))))
 have h4 : Qp.Sc (Tb.I (ZaW 0 [⟨#[125]⟩])) rest [(3, [125])] := by
  refine ZaT ?_
  rw [Tb.flat_cons, Tb.flat_nil]
  exact Qp.Sc.sign _ (by decide) (by intro h; cases h)
 have h5 := Zaq (h1 _) (Zaq (Qp.Sc.body x false h _) (Zaq (h2 _) h4))
 simp only [List.cons_append, List.append_assoc, List.nil_append] at h5
 exact h5
theorem Qp.Sc.tree {m n : Nat} (l : List (Tk.FT m n)) (z : Tk.FT m n) (h : ∀ x ∈ l, Tb.Ff x false) (hz : Tb.Ff z true) (rest : List Int) : Qp.Sc (Tb.I (l.flatMap (Tt.fb false) ++ Tt.fb true z)) rest (l.flatMap Tb.func ++ Tb.main z) := by
 rw [Zbd]
 exact Zaq (Qp.Sc.all (Tt.fb false) Tb.func l (fun x hx r => Qp.Sc.func x (h x hx) r) _) (Qp.Sc.main z hz rest)
section
variable {l : List Tp.T}
theorem Zdo {α : Type} (g : α → List (Nat × List Int)) (a : α) : ∀ (r : List α), Tb.join ((a :: r).map g) = g a ++ r.flatMap (fun b => (3, [44]) :: g b) := by
 intro r
 induction r generalizing a with
 | nil => show g a = g a ++ []; rw [List.append_nil]
 | cons b r ih =>
  show g a ++ (3, [44]) :: Tb.join ((b :: r).map g) = _
  rw [ih b, List.flatMap_cons]
  rfl
theorem Zhy {α β : Type} (thing : Nat → Except Nat (β × Nat)) (g : α → List (Nat × List Int)) (R : α → β → Bool) : ∀ (r : List α) (i fuel : Nat) (acc : List β), r.length < fuel →
  (∀ a ∈ r, ∀ i, Tp.Is l i (g a) → (Tk.B (Tp.tk l (i + (g a).length)).t = [44] ∨ Tk.B (Tp.tk l (i + (g a).length)).t = [41]) → ∃ b, thing i = .ok (b, i + (g a).length) ∧ R a b = true) →
  Tp.Is l i (r.flatMap (fun b => (3, [44]) :: g b) ++ [(3, [41])]) → ∃ bs, ZbC l thing fuel i acc = .ok (acc ++ bs, i + (r.flatMap (fun b => (3, [44]) :: g b)).length) ∧ Zaa R r bs = true := by
 intro r
 induction r with
 | nil =>
  intro i fuel acc hf _ hI
  cases fuel with
  | zero => exact absurd hf (by simp)
  | succ fuel =>
   refine ⟨[], ?_, rfl⟩
   have hn : Zal l i ⟨#[44]⟩ = false := Zao (by have := hI.first.2; rw [this]; decide)
   show (if Zal l i ⟨#[44]⟩ = true then _ else _) = _
   rw [hn, if_neg (by decide), List.append_nil]
   rfl
 | cons a r ih =>
  intro i fuel acc hf hel hI
  cases fuel with
  | zero => exact absurd hf (by simp)
  | succ fuel =>
   rw [List.flatMap_cons, List.cons_append, List.cons_append, List.append_assoc] at hI
   have t1 := hI.first
   have hIa := hI.rest
   have hIr := hIa.right
   have hnext : Tk.B (Tp.tk l (i + 1 + (g a).length)).t = [44] ∨ Tk.B (Tp.tk l (i + 1 + (g a).length)).t = [41] := by
    cases r with
    | nil => exact .inr hIr.first.2
    | cons b r => exact .inl hIr.first.2
   obtain ⟨b, hb, hR⟩ := hel a (by simp) (i + 1) hIa.left hnext
   obtain ⟨bs, hbs, hRs⟩ := ih (i + 1 + (g a).length) fuel (acc ++ [b]) (by rw [Zo] at hf; omega) (fun x hx => hel x (List.mem_cons_of_mem _ hx)) hIr
   refine ⟨b :: bs, ?_, ?_⟩
   · show (if Zal l i ⟨#[44]⟩ = true then _ else _) = _
     rw [ZaM (s := ⟨#[44]⟩) t1.2, if_pos rfl, hb]
     show ZbC l thing fuel (i + 1 + (g a).length) (acc ++ [b]) = _
     rw [hbs, List.append_assoc, List.flatMap_cons, Za, Zo]
     rw [show i + 1 + (g a).length + (r.flatMap (fun b => (3, [44]) :: g b)).length = i + ((g a).length + 1 + (r.flatMap (fun b => (3, [44]) :: g b)).length) by omega]
     rfl
   show (R a b && Zaa R r bs) = true
   rw [hR, hRs]
   rfl
theorem ZeK {α β : Type} (thing : Nat → Except Nat (β × Nat)) (g : α → List (Nat × List Int)) (R : α → β → Bool) (xs : List α) (i : Nat) (hf : xs.length ≤ l.length)
  (hel : ∀ a ∈ xs, ∀ i, Tp.Is l i (g a) → (Tk.B (Tp.tk l (i + (g a).length)).t = [44] ∨ Tk.B (Tp.tk l (i + (g a).length)).t = [41]) → ∃ b, thing i = .ok (b, i + (g a).length) ∧ R a b = true)
  (hst : ∀ a ∈ xs, ∀ i, Tp.Is l i (g a) → Zal l i ⟨#[41]⟩ = false) (hI : Tp.Is l i ((3, [40]) :: (Tb.join (xs.map g) ++ [(3, [41])]))) :
  ∃ bs, Tp.list l thing i = .ok (bs, i + 1 + (Tb.join (xs.map g)).length + 1) ∧ Zaa R xs bs = true := by
 have t1 := hI.first
 have hI2 := hI.rest
 unfold Tp.list
 rw [Zau (s := ⟨#[40]⟩) t1.2]
 cases xs with
 | nil =>
  have t2 := hI2.first
  refine ⟨[], ?_, rfl⟩
  have hs : Zal l (i + 1) ⟨#[41]⟩ = true := ZaM t2.2
  have hi : Za8 l thing (i + 1) = .ok ([], i + 1) := by
   unfold Za8
   rw [hs, if_pos rfl]
  have hw : Zak l ⟨#[41]⟩ (i + 1) = .ok (i + 1 + 1) := Zau t2.2
  simp only [hi, hw]
  rfl
 | cons a r =>
  rw [Zdo, List.append_assoc] at hI2
  have hIr := hI2.right
  have hno := hst a (by simp) (i + 1) hI2.left
  have hnext : Tk.B (Tp.tk l (i + 1 + (g a).length)).t = [44] ∨ Tk.B (Tp.tk l (i + 1 + (g a).length)).t = [41] := by
   cases r with
   | nil => exact .inr hIr.first.2
   | cons b r => exact .inl hIr.first.2
  obtain ⟨b, hb, hR⟩ := hel a (by simp) (i + 1) hI2.left hnext
  obtain ⟨bs, hbs, hRs⟩ := Zhy thing g R r (i + 1 + (g a).length) (l.length + 1) [b] (by rw [Zo] at hf; omega) (fun x hx => hel x (List.mem_cons_of_mem _ hx)) hIr
  have t9 := hIr.right.first
  refine ⟨b :: bs, ?_, ?_⟩
  · have hi : Za8 l thing (i + 1) = .ok (b :: bs, i + 1 + (g a).length + (r.flatMap (fun b => (3, [44]) :: g b)).length) := by
     unfold Za8
     rw [hno, if_neg (by decide), hb]
     show ZbC l thing (l.length + 1) (i + 1 + (g a).length) [b] = _
     rw [hbs]
     rfl
    have hw : Zak l ⟨#[41]⟩ (i + 1 + (g a).length + (r.flatMap (fun b => (3, [44]) :: g b)).length) = .ok (i + 1 + (g a).length + (r.flatMap (fun b => (3, [44]) :: g b)).length + 1) := Zau t9.2
    simp only [hi, hw]
    rw [Zdo, Za]
    rw [show i + 1 + (g a).length + (r.flatMap (fun b => (3, [44]) :: g b)).length + 1 = i + 1 + ((g a).length + (r.flatMap (fun b => (3, [44]) :: g b)).length) + 1 by omega]
  show (R a b && Zaa R r bs) = true
  rw [hR, hRs]
  rfl
theorem Zch {nm s : ByteArray} (h : Zam nm = true) (hw : Tk.wordB s.toList = true) : Tk.B nm ≠ Tk.B s := by
 intro e
 have := ZeS nm h
 rw [Zcl e, hw] at this
 cases this
theorem ZcF (s : ByteArray) (h : Tk.wordB s.data.toList = true) : Tk.wordB s.toList = true := by rw [ByteArray.toList_eq]; exact h
theorem Zfv {n : Nat} (x : Zat n) (h : Zac n x = true) (i : Nat) (hI : Tp.Is l i (Tb.ex n x)) : Zal l i ⟨#[114, 101, 97, 100]⟩ = false ∧ Zal l i ⟨#[41]⟩ = false ∧ (Zal l (i + (Tb.ex n x).length) ⟨#[40]⟩ = false → (ZbM l i && Zal l (i + 1) ⟨#[40]⟩) = false) := by
 cases n with
 | zero => exact absurd h (by simp [Zac])
 | succ n =>
  rcases Zk4 x h with ⟨hk, hl, hN, hnm⟩ | ⟨hk, hl, hm, hnm⟩ | ⟨hk, ⟨y, hl, hy⟩, hm, hnm⟩ | ⟨hk, ⟨y, z, hl, hy, hz⟩, hm, hnm⟩
  · rw [(ZgS x hk).1] at hI ⊢
    unfold Tb.num at hI ⊢
    split at hI
    · next h2 =>
      have t1 := hI.first
      exact ⟨Zao (by rw [t1.2]; decide), Zao (by rw [t1.2]; decide), fun _ => by rw [Zde (by rw [t1.1]; decide)]; rfl⟩
    next h2 =>
    have t1 := hI.first
    refine ⟨Zao (by rw [t1.2]; exact Zhj _ (c := 114) (r := [101, 97, 100]) rfl (by decide)), Zao (by rw [t1.2]; exact Zhj _ (c := 41) (r := []) rfl (by decide)), fun _ => by rw [Zde (by rw [t1.1]; show ((2 : Nat) : Int) ≠ 1; decide)]; rfl⟩
  · rw [(ZgX x hk).1] at hI ⊢
    have t1 := hI.first
    refine ⟨Zao (by rw [t1.2]; exact Zch hnm (ZcF _ (by decide))), Zao (by rw [t1.2]; exact Zcf (c := 41) (r := []) hnm rfl (by decide)), fun hs => ?_⟩
    have hs : Zal l (i + 1) ⟨#[40]⟩ = false := hs
    rw [hs, Bool.and_false]
  · obtain ⟨⟨k, a, m, nm⟩, s⟩ := x
    have hl : s = [y] := hl
    subst hl
    rw [(Zg4 k a m nm y hk).1] at hI
    have t1 := hI.first
    have t2 := hI.rest.first
    refine ⟨Zao (by rw [t1.2]; exact Zch hnm (ZcF _ (by decide))), Zao (by rw [t1.2]; exact Zcf (c := 41) (r := []) hnm rfl (by decide)), fun _ => ?_⟩
    rw [Zao (s := ⟨#[40]⟩) (i := i + 1) (by rw [t2.2]; decide), Bool.and_false]
  obtain ⟨⟨k, a, m, nm⟩, s⟩ := x
  have hl : s = [y, z] := hl
  subst hl
  rw [(Zg7 k a m nm y z hk).1] at hI
  have t1 := hI.first
  exact ⟨Zao (by rw [t1.2]; decide), Zao (by rw [t1.2]; decide), fun _ => by rw [Zde (by rw [t1.1]; decide)]; rfl⟩
theorem Zdq {m n : Nat} (y : Zap m n) (h : Zaf n y = true) (i : Nat) (hI : Tp.Is l i (Tb.cmd n y)) : Zcu l i = true ∧ Zal l i ⟨#[101, 108, 115, 101]⟩ = false ∧ 0 < (Tb.cmd n y).length ∧ Zal l i ⟨#[118, 97, 114]⟩ = false ∧ Zal l i ⟨#[97, 114, 114]⟩ = false := by
 cases n with
 | zero => exact absurd h (by simp [Zaf])
 | succ n =>
  have nameC : ∀ (nm : ByteArray), Zam nm = true → (Tp.tk l i).k = ((1 : Nat) : Int) ∧ Tk.B (Tp.tk l i).t = Tk.B nm → Zcu l i = true ∧ Zal l i ⟨#[101, 108, 115, 101]⟩ = false ∧ Zal l i ⟨#[118, 97, 114]⟩ = false ∧ Zal l i ⟨#[97, 114, 114]⟩ = false := fun nm hn t1 => by
   refine ⟨?_, Zao (by rw [t1.2]; exact Zch hn (ZcF _ (by decide))), Zao (by rw [t1.2]; exact Zch hn (ZcF _ (by decide))), Zao (by rw [t1.2]; exact Zch hn (ZcF _ (by decide)))⟩
   unfold Zcu
   rw [ZcV t1.1 t1.2 hn]
   rfl
  rcases Zfj y h with hk | hk | hk | hk | hk | hk | hk
  · have F := Tb.fm y h true false false true false false false (by rw [hk]; rfl)
    rw [(Zd0 y hk).1] at hI ⊢
    have c := nameC _ F.nm hI.first
    exact ⟨c.1, c.2.1, by simp, c.2.2⟩
  · have F := Tb.fm y h true false true true false false false (by rw [hk]; rfl)
    rw [(Zel y hk).1] at hI ⊢
    have c := nameC _ F.nm hI.first
    exact ⟨c.1, c.2.1, by simp, c.2.2⟩
  · have F := Tb.fm y h true true false false true false false (by rw [hk]; rfl)
    rw [(Zec y hk).1] at hI ⊢
    have c := nameC _ F.nm hI.first
    exact ⟨c.1, c.2.1, by simp, c.2.2⟩
  · have F := Tb.fm y h true false false false false false false (by rw [hk]; rfl)
    rw [(Zek y hk).1] at hI ⊢
    have c := nameC _ F.nm hI.first
    exact ⟨c.1, c.2.1, by simp, c.2.2⟩
  · rw [(Zed y hk).1] at hI ⊢
    have t1 := hI.first
    refine ⟨?_, Zao (by rw [t1.2]; decide), by simp, Zao (by rw [t1.2]; decide), Zao (by rw [t1.2]; decide)⟩
    unfold Zcu
    rw [ZaM (s := ⟨#[112, 114, 105, 110, 116]⟩) t1.2]
    simp
  · rw [(Zd6 y hk).1] at hI ⊢
    have t1 := hI.first
    refine ⟨?_, Zao (by rw [t1.2]; decide), by simp, Zao (by rw [t1.2]; decide), Zao (by rw [t1.2]; decide)⟩
    unfold Zcu
    rw [ZaM (s := ⟨#[105, 102]⟩) t1.2]
    simp
  rw [(Zem y hk).1] at hI ⊢
  have t1 := hI.first
  refine ⟨?_, Zao (by rw [t1.2]; decide), by simp, Zao (by rw [t1.2]; decide), Zao (by rw [t1.2]; decide)⟩
  unfold Zcu
  rw [ZaM (s := ⟨#[119, 104, 105, 108, 101]⟩) t1.2]
  simp
theorem Ze3 {m n N : Nat} (rec : Nat → Except Nat (Zap 61 N × Nat)) : ∀ (ys : List (Zap m n)) (i fuel : Nat) (acc : List (Zap 61 N)), ys.length < fuel → (∀ y ∈ ys, Zaf n y = true) →
  (∀ y ∈ ys, ∀ i, i + (Tb.cmd n y).length ≤ l.length → Tp.Is l i (Tb.cmd n y) → Zal l (i + (Tb.cmd n y).length) ⟨#[101, 108, 115, 101]⟩ = false → ∃ y', rec i = .ok (y', i + (Tb.cmd n y).length) ∧ Zas n N y y' = true) →
  i + (ys.flatMap (Tb.cmd n)).length ≤ l.length → Tp.Is l i (ys.flatMap (Tb.cmd n)) → Zcu l (i + (ys.flatMap (Tb.cmd n)).length) = false → Zal l (i + (ys.flatMap (Tb.cmd n)).length) ⟨#[101, 108, 115, 101]⟩ = false →
  ∃ ys', ZaV l rec fuel i acc = .ok (acc ++ ys', i + (ys.flatMap (Tb.cmd n)).length) ∧ Zaa (Zas n N) ys ys' = true := by
 intro ys
 induction ys with
 | nil =>
  intro i fuel acc hf _ _ _ _ hc _
  cases fuel with
  | zero => exact absurd hf (by simp)
  | succ fuel =>
   refine ⟨[], ?_, rfl⟩
   have hc : Zcu l i = false := hc
   show (if Zcu l i = true then _ else _) = _
   rw [hc, if_neg (by decide), List.append_nil]
   rfl
 | cons y r ih =>
  intro i fuel acc hf hb hel hin hI hc he
  cases fuel with
  | zero => exact absurd hf (by simp)
  | succ fuel =>
   rw [List.flatMap_cons] at hI hin hc he ⊢
   rw [Za] at hin hc he ⊢
   have hIr := hI.right
   have hfst := Zdq y (hb y (by simp)) i hI.left
   have hse : Zal l (i + (Tb.cmd n y).length) ⟨#[101, 108, 115, 101]⟩ = false := by
    cases r with
    | nil => exact he
    | cons z r =>
     rw [List.flatMap_cons] at hIr
     exact (Zdq z (hb z (by simp)) _ hIr.left).2.1
   obtain ⟨y', hy', hs⟩ := hel y (by simp) i (by omega) hI.left hse
   obtain ⟨ys', hys, hss⟩ := ih (i + (Tb.cmd n y).length) fuel (acc ++ [y']) (by rw [Zo] at hf; omega) (fun z hz => hb z (List.mem_cons_of_mem _ hz)) (fun z hz => hel z (List.mem_cons_of_mem _ hz)) (by omega) hIr (by rw [Nat.add_assoc]; exact hc) (by rw [Nat.add_assoc]; exact he)
   refine ⟨y' :: ys', ?_, ?_⟩
   · show (if Zcu l i = true then _ else _) = _
     rw [hfst.1, if_pos rfl, hy']
     show ZaV l rec fuel (i + (Tb.cmd n y).length) (acc ++ [y']) = _
     rw [hys, List.append_assoc, Nat.add_assoc]
     rfl
   show (Zas n N y y' && Zaa (Zas n N) r ys') = true
   rw [hs, hss]
   rfl
theorem Zdx {α : Type} (g : α → List (Nat × List Int)) : ∀ (l : List α) (a : α), a ∈ l → (g a).length ≤ (l.flatMap g).length
 | [], a, h => absurd h List.not_mem_nil
 | b :: r, a, h => by
  rw [List.flatMap_cons, Za]
  rcases List.mem_cons.1 h with rfl | h
  · omega
  have := Zdx g r a h
  omega
theorem Zgd {m n : Nat} (y : Zap m n) (h : Zaf n y = true) : 0 < (Tb.cmd n y).length := by
 cases n with
 | zero => exact absurd h (by simp [Zaf])
 | succ n =>
  rcases Zfj y h with hk | hk | hk | hk | hk | hk | hk
  · rw [(Zd0 y hk).1]; simp
  · rw [(Zel y hk).1]; simp
  · rw [(Zec y hk).1]; simp
  · rw [(Zek y hk).1]; simp
  · rw [(Zed y hk).1]; simp
  · rw [(Zd6 y hk).1]; simp
  rw [(Zem y hk).1]; simp
theorem ZdU {m n : Nat} : ∀ (ys : List (Zap m n)), (∀ y ∈ ys, Zaf n y = true) → ys.length ≤ (ys.flatMap (Tb.cmd n)).length
 | [], _ => Nat.zero_le _
 | y :: r, h => by
  have h1 := Zgd y (h y (by simp))
  have h2 := ZdU r (fun z hz => h z (List.mem_cons_of_mem _ hz))
  rw [List.flatMap_cons, Za, Zo]
  omega
theorem Zey {s : ByteArray} {i : Nat} (h : Tk.B (Tp.tk l i).t = Tk.B s) (hn : (Tp.tk l i).k ≠ 1 ∨ Tk.wordB s.data.toList = true) (h1 : Tk.B s ≠ [112, 114, 105, 110, 116]) (h2 : Tk.B s ≠ [105, 102]) (h3 : Tk.B s ≠ [119, 104, 105, 108, 101]) : Zcu l i = false := by
 unfold Zcu
 have e0 : ZbM l i = false := by
  rcases hn with hn | hn
  · exact Zde hn
  exact Zjr h (ZcF _ hn)
 rw [e0, Zao (s := ⟨#[112, 114, 105, 110, 116]⟩) (by rw [h]; exact h1), Zao (s := ⟨#[105, 102]⟩) (by rw [h]; exact h2), Zao (s := ⟨#[119, 104, 105, 108, 101]⟩) (by rw [h]; exact h3)]
 rfl
theorem Zcz {m n N : Nat} (rec : Nat → Except Nat (Zap 61 N × Nat)) (ys : List (Zap m n)) (i : Nat) (hb : ∀ y ∈ ys, Zaf n y = true)
  (hel : ∀ y ∈ ys, ∀ i, i + (Tb.cmd n y).length ≤ l.length → Tp.Is l i (Tb.cmd n y) → Zal l (i + (Tb.cmd n y).length) ⟨#[101, 108, 115, 101]⟩ = false → ∃ y', rec i = .ok (y', i + (Tb.cmd n y).length) ∧ Zas n N y y' = true)
  (hin : i + 1 + (ys.flatMap (Tb.cmd n)).length ≤ l.length) (hI : Tp.Is l i ((3, [123]) :: (ys.flatMap (Tb.cmd n) ++ [(3, [125])]))) :
  ∃ ys', Tp.block l rec i = .ok (ys', i + 1 + (ys.flatMap (Tb.cmd n)).length + 1) ∧ Zaa (Zas n N) ys ys' = true := by
 have t1 := hI.first
 have hI2 := hI.rest
 have t2 := hI2.right.first
 have hcl := ZdU ys hb
 obtain ⟨ys', h1, h2⟩ := Ze3 rec ys (i + 1) (l.length + 1) [] (by omega) hb hel hin hI2.left (Zey (s := ⟨#[125]⟩) t2.2 (.inl (by rw [t2.1]; decide)) (by decide) (by decide) (by decide)) (Zao (by rw [t2.2]; decide))
 refine ⟨ys', ?_, h2⟩
 unfold Tp.block
 rw [Zau (s := ⟨#[123]⟩) t1.2]
 have hw : Zak l ⟨#[125]⟩ (i + 1 + (ys.flatMap (Tb.cmd n)).length) = .ok (i + 1 + (ys.flatMap (Tb.cmd n)).length + 1) := Zau t2.2
 simp only [h1, hw, List.nil_append]
theorem Za4 {m : Nat} (x : Zat m) (h : Zb3 m x = true) : Zai m 61 x ZaO = true := by
 cases m with
 | zero => exact absurd h (by simp [Zb3])
 | succ m =>
  have h : (decide (x.1.1 = 0) && decide (x.1.2.2.1 = 0) && x.1.2.2.2.toList.isEmpty && decide (x.2.length = 0)) = true := h
  simp only [Bool.and_eq_true, decide_eq_true_eq] at h
  obtain ⟨⟨⟨h1, h2⟩, h3⟩, h4⟩ := h
  show ((x.1.1 == 0) && (x.1.2.2.1 == 0) && (x.1.2.2.2.toList == (⟨#[]⟩ : ByteArray).toList) && Zaa (Zai m 60) x.2 []) = true
  rw [h1, h2, Zfk h3, List.eq_nil_of_length_eq_zero h4]
  simp [Zaa]
theorem ZbR {t : ByteArray} (h : Zar t false = true) : t = ⟨#[]⟩ := Zfk h
end
theorem ZfV {α : Type} (g : α → List (Nat × List Int)) (xs : List α) : xs.length ≤ 1 + (Tb.join (xs.map g)).length := by
 cases xs with
 | nil => exact Nat.zero_le _
 | cons a r =>
  rw [Zdo, Za, Zo]
  have h : ∀ (r : List α), r.length ≤ (r.flatMap (fun b => (3, [44]) :: g b)).length := by
   intro r
   induction r with
   | nil => exact Nat.zero_le _
   | cons b r ih =>
    rw [List.flatMap_cons, Za, Zo, Zo]
    omega
  have := h r
  omega
section
variable {l : List Tp.T}
theorem Zcx {n : Nat} (x : Zat n) (hx : Zac n x = true) (hp : Zab n x ≤ 15) (e : Int) (b i : Nat) (hb : b ≤ 1) (hI : Tp.Is l i (Tb.ex n x)) {s : ByteArray} (hn : Tk.B (Tp.tk l (i + (Tb.ex n x).length)).t = Tk.B s) (hs : Tk.B s ≠ [91]) : ∃ y : Zat 61, Tp.expr l e 61 b i = .ok (y, i + (Tb.ex n x).length) ∧ Zai n 61 x y = true :=
 Ziu n x hx 61 (by omega) l e b i (by omega) hI (Zao (by rw [hn]; exact hs))
theorem Tp.no_word {s t : ByteArray} {i : Nat} (h : Tk.B (Tp.tk l i).t = Tk.B s) (hn : Zam s = true) (hw : Tk.wordB t.data.toList = true) : Zal l i t = false := Zao (by rw [h]; exact Zch hn (ZcF _ hw))
theorem Zi2 {m : Nat} (e : Int) : ∀ (n : Nat) (y : Zap m n), Zaf n y = true → ∀ (dd : Nat), ZdJ Pr.NK n dd y → ∀ (N i : Nat), (Tb.cmd n y).length ≤ N → i + (Tb.cmd n y).length ≤ l.length → Tp.Is l i (Tb.cmd n y) → Zal l (i + (Tb.cmd n y).length) ⟨#[101, 108, 115, 101]⟩ = false →
  ∃ y' : Zap 61 N, Tp.cmd l e N i = .ok (y', i + (Tb.cmd n y).length) ∧ Zas n N y y' = true := by
 intro n
 induction n with
 | zero => intro y h; exact absurd h (by simp [Zaf])
 | succ n ih =>
  intro y hy dd hck N i hN hin hI hel
  have hpos := Zgd y hy
  cases N with
  | zero => omega
  | succ N =>
   show ∃ y' : Zap 61 (N + 1), Za0 l e (Tp.cmd l e N) i = _ ∧ _
   rcases Zfj y hy with hk | hk | hk | hk | hk | hk | hk
   · have F := Tb.fm y hy true false false true false false false (by rw [hk]; rfl)
     rw [(Zd0 y hk).1] at hI hin hN hel ⊢
     have t1 := hI.first
     have hf : Zb9 Pr.NK y.2.1.2.1 := by
      rcases hck with ⟨e0, h⟩ | ⟨e0, h⟩ | ⟨e0, h⟩ | e0 | ⟨e0, h⟩ | ⟨e0, h⟩ | ⟨e0, h⟩
      all_goals (first | exact h | (exfalso; omega))
     have np := Tp.no_word (t := ⟨#[112, 114, 105, 110, 116]⟩) t1.2 F.nm (by decide)
     have ni := Tp.no_word (t := ⟨#[105, 102]⟩) t1.2 F.nm (by decide)
     have nw := Tp.no_word (t := ⟨#[119, 104, 105, 108, 101]⟩) t1.2 F.nm (by decide)
     have hnm := ZbK t1.1 t1.2 F.nm
     have t2 := hI.rest.first
     have hIe := hI.rest.rest
     have t3 := hIe.right.first
     obtain ⟨x', hx', hsx⟩ := Zcx y.2.1.2.1 F.ex hf.2 e 0 (i + 1 + 1) (by omega) hIe.left (s := ⟨#[59]⟩) t3.2 (by decide)
     have hfx := Zfv y.2.1.2.1 F.ex (i + 1 + 1) hIe.left
     have him := hfx.2.2 (Zao (by rw [t3.2]; decide))
     have hw : Zak l ⟨#[59]⟩ (i + 1 + 1 + (Tb.ex m y.2.1.2.1).length) = .ok (i + 1 + 1 + (Tb.ex m y.2.1.2.1).length + 1) := Zau t3.2
     have nb : Zal l (i + 1) ⟨#[91]⟩ = false := Zao (by rw [t2.2]; decide)
     have hwe : Zak l ⟨#[61]⟩ (i + 1) = .ok (i + 1 + 1) := Zau t2.2
     have hnr := hfx.1
     have hch : Zax (n := N) l e i = .ok (((1, Zaz l e i, y.1.2.2.1, ⟨#[]⟩), (ZaO, x', []), ([], [])), i + 1 + 1 + (Tb.ex m y.2.1.2.1).length) := by
      unfold Zax
      rw [hnm]
      simp only [nb, hwe, hnr, him, hx', Zb, if_false]
     refine ⟨((1, Zaz l e i, y.1.2.2.1, ⟨#[]⟩), (ZaO, x', []), ([], [])), ?_, ?_⟩
     · unfold Za0
       simp only [np, ni, nw, Zb, if_false, hch, hw]
       rw [show i + 1 + 1 + (Tb.ex m y.2.1.2.1).length + 1 = i + ((1, Tk.B y.1.2.2.1) :: (3, [61]) :: (Tb.ex m y.2.1.2.1 ++ [(3, [59])])).length by simp only [Zo, Za, List.length_nil]; omega]
     show ((y.1.1 == 1) && (y.1.2.2.1.toList == (y.1.2.2.1 : ByteArray).toList) && (y.1.2.2.2.toList == (⟨#[]⟩ : ByteArray).toList) && Zai m 61 y.2.1.1 ZaO && Zai m 61 y.2.1.2.1 x' && Zaa (Zai m 61) y.2.1.2.2 [] && Zaa (Zas n N) y.2.2.1 [] && Zaa (Zas n N) y.2.2.2 []) = true
     rw [hk, ZbR F.ot, Za4 _ F.ix, hsx, F.ar0 rfl, F.th0 rfl, F.el0 rfl]
     simp [Zaa]
   · have F := Tb.fm y hy true false true true false false false (by rw [hk]; rfl)
     rw [(Zel y hk).1] at hI hin hN hel ⊢
     have t1 := hI.first
     have hf : y.1.2.2.1.size ≤ 64 ∧ Zb9 Pr.NK y.2.1.2.1 ∧ Zb9 Pr.NK y.2.1.1 := by
      rcases hck with ⟨e0, h⟩ | ⟨e0, h⟩ | ⟨e0, h⟩ | e0 | ⟨e0, h⟩ | ⟨e0, h⟩ | ⟨e0, h⟩
      all_goals (first | exact h | (exfalso; omega))
     have np := Tp.no_word (t := ⟨#[112, 114, 105, 110, 116]⟩) t1.2 F.nm (by decide)
     have ni := Tp.no_word (t := ⟨#[105, 102]⟩) t1.2 F.nm (by decide)
     have nw := Tp.no_word (t := ⟨#[119, 104, 105, 108, 101]⟩) t1.2 F.nm (by decide)
     have hnm := ZbK t1.1 t1.2 F.nm
     have t2 := hI.rest.first
     have hIx := hI.rest.rest
     have hIr := hIx.right
     have t3 := hIr.first
     have t4 := hIr.rest.first
     have hIe := hIr.rest.rest
     have t5 := hIe.right.first
     obtain ⟨z', hz', hsz⟩ := Zcx y.2.1.1 F.ix hf.2.2.2 e (0 + 1) (i + 1 + 1) (by omega) hIx.left (s := ⟨#[93]⟩) t3.2 (by decide)
     obtain ⟨x', hx', hsx⟩ := Zcx y.2.1.2.1 F.ex hf.2.1.2 e 0 (i + 1 + 1 + (Tb.ex m y.2.1.1).length + 1 + 1) (by omega) hIe.left (s := ⟨#[59]⟩) t5.2 (by decide)
     have hw : Zak l ⟨#[59]⟩ (i + 1 + 1 + (Tb.ex m y.2.1.1).length + 1 + 1 + (Tb.ex m y.2.1.2.1).length) = .ok (i + 1 + 1 + (Tb.ex m y.2.1.1).length + 1 + 1 + (Tb.ex m y.2.1.2.1).length + 1) := Zau t5.2
     have nb : Zal l (i + 1) ⟨#[91]⟩ = true := ZaM t2.2
     have hin2 : Tp.index l (Tp.expr l e 61) 0 (i + 1) = .ok (z', i + 1 + 1 + (Tb.ex m y.2.1.1).length + 1) := by
      unfold Tp.index
      have ho : Zba l ⟨#[91]⟩ 0 (i + 1) = .ok (i + 1 + 1) := Zds (by omega) t2.2
      have hc : Zak l ⟨#[93]⟩ (i + 1 + 1 + (Tb.ex m y.2.1.1).length) = .ok (i + 1 + 1 + (Tb.ex m y.2.1.1).length + 1) := Zau t3.2
      simp only [ho, hz', hc]
     have hwe : Zak l ⟨#[61]⟩ (i + 1 + 1 + (Tb.ex m y.2.1.1).length + 1) = .ok (i + 1 + 1 + (Tb.ex m y.2.1.1).length + 1 + 1) := Zau t4.2
     have hch : Zax (n := N) l e i = .ok (((2, Zaz l e i, y.1.2.2.1, ⟨#[]⟩), (z', x', []), ([], [])), i + 1 + 1 + (Tb.ex m y.2.1.1).length + 1 + 1 + (Tb.ex m y.2.1.2.1).length) := by
      unfold Zax
      rw [hnm]
      simp only [nb, hin2, hwe, hx', if_true]
     refine ⟨((2, Zaz l e i, y.1.2.2.1, ⟨#[]⟩), (z', x', []), ([], [])), ?_, ?_⟩
     · unfold Za0
       simp only [np, ni, nw, Zb, if_false, hch, hw]
       rw [show i + 1 + 1 + (Tb.ex m y.2.1.1).length + 1 + 1 + (Tb.ex m y.2.1.2.1).length + 1 = i + ((1, Tk.B y.1.2.2.1) :: (3, [91]) :: (Tb.ex m y.2.1.1 ++ (3, [93]) :: (3, [61]) :: (Tb.ex m y.2.1.2.1 ++ [(3, [59])]))).length by simp only [Zo, Za, List.length_nil]; omega]
     show ((y.1.1 == 2) && (y.1.2.2.1.toList == (y.1.2.2.1 : ByteArray).toList) && (y.1.2.2.2.toList == (⟨#[]⟩ : ByteArray).toList) && Zai m 61 y.2.1.1 z' && Zai m 61 y.2.1.2.1 x' && Zaa (Zai m 61) y.2.1.2.2 [] && Zaa (Zas n N) y.2.2.1 [] && Zaa (Zas n N) y.2.2.2 []) = true
     rw [hk, ZbR F.ot, hsz, hsx, F.ar0 rfl, F.th0 rfl, F.el0 rfl]
     simp [Zaa]
   · have F := Tb.fm y hy true true false false true false false (by rw [hk]; rfl)
     rw [(Zec y hk).1] at hI hin hN hel ⊢
     have t1 := hI.first
     have hf : (∀ a ∈ y.2.1.2.2, Zb9 Pr.NK a) ∧ y.2.1.2.2.length ≤ 1000 := by
      rcases hck with ⟨e0, h⟩ | ⟨e0, h⟩ | ⟨e0, h⟩ | e0 | ⟨e0, h⟩ | ⟨e0, h⟩ | ⟨e0, h⟩
      all_goals (first | exact h | (exfalso; omega))
     have np := Tp.no_word (t := ⟨#[112, 114, 105, 110, 116]⟩) t1.2 F.nm (by decide)
     have ni := Tp.no_word (t := ⟨#[105, 102]⟩) t1.2 F.nm (by decide)
     have nw := Tp.no_word (t := ⟨#[119, 104, 105, 108, 101]⟩) t1.2 F.nm (by decide)
     have hnm := ZbK t1.1 t1.2 F.nm
     have t2 := hI.rest.first
     have t3 := hI.rest.rest.first
     have hIl := hI.rest.rest.rest
     have e0 : (3, [40]) :: (Tb.join (y.2.1.2.2.map (Tb.ex m)) ++ [(3, [41]), (3, [59])]) = ((3, [40]) :: (Tb.join (y.2.1.2.2.map (Tb.ex m)) ++ [(3, [41])])) ++ [((3 : Nat), ([59] : List Int))] := by simp
     rw [e0] at hIl
     have t9 := hIl.right.first
     have t4 := hIl.left.first
     have hjl := ZfV (Tb.ex m) y.2.1.2.2
     simp only [Zo, Za, List.length_nil] at hin hN
     obtain ⟨ars, hls, hsl⟩ := ZeK (Tp.expr l e 61 1) (Tb.ex m) (Zai m 61) y.2.1.2.2 (i + 1 + 1 + 1) (by omega) (fun a ha i' hIa hnx => by
      rcases hnx with hnx | hnx
      · exact Zcx a (F.ar a ha) (hf.1 a ha).2 e 1 i' (by omega) hIa (s := ⟨#[44]⟩) hnx (by decide)
      exact Zcx a (F.ar a ha) (hf.1 a ha).2 e 1 i' (by omega) hIa (s := ⟨#[41]⟩) hnx (by decide)) (fun a ha i' hIa => (Zfv a (F.ar a ha) i' hIa).2.1) hIl.left
     have eL : i + 1 + 1 + 1 + ((3, [40]) :: (Tb.join (y.2.1.2.2.map (Tb.ex m)) ++ [((3 : Nat), ([41] : List Int))])).length = i + 1 + 1 + 1 + 1 + (Tb.join (y.2.1.2.2.map (Tb.ex m))).length + 1 := by
      simp only [Zo, Za, List.length_nil]
      omega
     rw [eL] at t9
     have hw : Zak l ⟨#[59]⟩ (i + 1 + 1 + 1 + 1 + (Tb.join (y.2.1.2.2.map (Tb.ex m))).length + 1) = .ok (i + 1 + 1 + 1 + 1 + (Tb.join (y.2.1.2.2.map (Tb.ex m))).length + 1 + 1) := Zau t9.2
     have nb : Zal l (i + 1) ⟨#[91]⟩ = false := Zao (by rw [t2.2]; decide)
     have hwe : Zak l ⟨#[61]⟩ (i + 1) = .ok (i + 1 + 1) := Zau t2.2
     have hnr := Tp.no_word (t := ⟨#[114, 101, 97, 100]⟩) t3.2 F.ot (by decide)
     have hno : (ZbM l (i + 1 + 1) && Zal l (i + 1 + 1 + 1) ⟨#[40]⟩) = true := by
      rw [ZcV t3.1 t3.2 F.ot, ZaM (s := ⟨#[40]⟩) t4.2]
      rfl
     have hot : (Tp.tk l (i + 1 + 1)).t = y.1.2.2.2 := Zcl t3.2
     have hch : Zax (n := N) l e i = .ok (((3, Zaz l e i, y.1.2.2.1, y.1.2.2.2), (ZaO, ZaO, ars), ([], [])), i + 1 + 1 + 1 + 1 + (Tb.join (y.2.1.2.2.map (Tb.ex m))).length + 1) := by
      unfold Zax
      rw [hnm]
      simp only [nb, hwe, hnr, hno, hls, hot, Zb, if_false, if_true]
     refine ⟨((3, Zaz l e i, y.1.2.2.1, y.1.2.2.2), (ZaO, ZaO, ars), ([], [])), ?_, ?_⟩
     · unfold Za0
       simp only [np, ni, nw, Zb, if_false, hch, hw]
       rw [show i + 1 + 1 + 1 + 1 + (Tb.join (y.2.1.2.2.map (Tb.ex m))).length + 1 + 1 = i + ((1, Tk.B y.1.2.2.1) :: (3, [61]) :: (1, Tk.B y.1.2.2.2) :: (3, [40]) :: (Tb.join (y.2.1.2.2.map (Tb.ex m)) ++ [(3, [41]), (3, [59])])).length by simp only [Zo, Za, List.length_nil]; omega]
     show ((y.1.1 == 3) && (y.1.2.2.1.toList == (y.1.2.2.1 : ByteArray).toList) && (y.1.2.2.2.toList == (y.1.2.2.2 : ByteArray).toList) && Zai m 61 y.2.1.1 ZaO && Zai m 61 y.2.1.2.1 ZaO && Zaa (Zai m 61) y.2.1.2.2 ars && Zaa (Zas n N) y.2.2.1 [] && Zaa (Zas n N) y.2.2.2 []) = true
     rw [hk, Za4 _ F.ix, Za4 _ F.ex, hsl, F.th0 rfl, F.el0 rfl]
     simp [Zaa]
   · have F := Tb.fm y hy true false false false false false false (by rw [hk]; rfl)
     rw [(Zek y hk).1] at hI hin hN hel ⊢
     have t1 := hI.first
     have np := Tp.no_word (t := ⟨#[112, 114, 105, 110, 116]⟩) t1.2 F.nm (by decide)
     have ni := Tp.no_word (t := ⟨#[105, 102]⟩) t1.2 F.nm (by decide)
     have nw := Tp.no_word (t := ⟨#[119, 104, 105, 108, 101]⟩) t1.2 F.nm (by decide)
     have hnm := ZbK t1.1 t1.2 F.nm
     have t2 := hI.rest.first
     have t3 := hI.rest.rest.first
     have t4 := hI.rest.rest.rest.first
     have hw : Zak l ⟨#[59]⟩ (i + 1 + 1 + 1) = .ok (i + 1 + 1 + 1 + 1) := Zau t4.2
     have nb : Zal l (i + 1) ⟨#[91]⟩ = false := Zao (by rw [t2.2]; decide)
     have hwe : Zak l ⟨#[61]⟩ (i + 1) = .ok (i + 1 + 1) := Zau t2.2
     have hr : Zal l (i + 1 + 1) ⟨#[114, 101, 97, 100]⟩ = true := ZaM t3.2
     have hch : Zax (n := N) l e i = .ok (((4, Zaz l e i, y.1.2.2.1, ⟨#[]⟩), (ZaO, ZaO, []), ([], [])), i + 1 + 1 + 1) := by
      unfold Zax
      rw [hnm]
      simp only [nb, hwe, hr, Zb, if_false, if_true]
     refine ⟨((4, Zaz l e i, y.1.2.2.1, ⟨#[]⟩), (ZaO, ZaO, []), ([], [])), ?_, ?_⟩
     · unfold Za0
       simp only [np, ni, nw, Zb, if_false, hch, hw]
       rw [show i + 1 + 1 + 1 + 1 = i + ([(1, Tk.B y.1.2.2.1), (3, [61]), (1, [114, 101, 97, 100]), (3, [59])] : List (Nat × List Int)).length by simp only [Zo, List.length_nil]]
     show ((y.1.1 == 4) && (y.1.2.2.1.toList == (y.1.2.2.1 : ByteArray).toList) && (y.1.2.2.2.toList == (⟨#[]⟩ : ByteArray).toList) && Zai m 61 y.2.1.1 ZaO && Zai m 61 y.2.1.2.1 ZaO && Zaa (Zai m 61) y.2.1.2.2 [] && Zaa (Zas n N) y.2.2.1 [] && Zaa (Zas n N) y.2.2.2 []) = true
     rw [hk, ZbR F.ot, Za4 _ F.ix, Za4 _ F.ex, F.ar0 rfl, F.th0 rfl, F.el0 rfl]
     simp [Zaa]
   · have F := Tb.fm y hy false false false true false false false (by rw [hk]; rfl)
     rw [(Zed y hk).1] at hI hin hN hel ⊢
     have t1 := hI.first
     have hf : Zb9 Pr.NK y.2.1.2.1 := by
      rcases hck with ⟨e0, h⟩ | ⟨e0, h⟩ | ⟨e0, h⟩ | e0 | ⟨e0, h⟩ | ⟨e0, h⟩ | ⟨e0, h⟩
      all_goals (first | exact h | (exfalso; omega))
     have hIe := hI.rest
     have t3 := hIe.right.first
     obtain ⟨x', hx', hsx⟩ := Zcx y.2.1.2.1 F.ex hf.2 e 0 (i + 1) (by omega) hIe.left (s := ⟨#[59]⟩) t3.2 (by decide)
     have hw : Zak l ⟨#[59]⟩ (i + 1 + (Tb.ex m y.2.1.2.1).length) = .ok (i + 1 + (Tb.ex m y.2.1.2.1).length + 1) := Zau t3.2
     have yp : Zal l i ⟨#[112, 114, 105, 110, 116]⟩ = true := ZaM t1.2
     refine ⟨((5, Zaz l e i, ⟨#[]⟩, ⟨#[]⟩), (ZaO, x', []), ([], [])), ?_, ?_⟩
     · unfold Za0
       simp only [yp, hx', hw, if_true]
       rw [show i + 1 + (Tb.ex m y.2.1.2.1).length + 1 = i + ((1, [112, 114, 105, 110, 116]) :: (Tb.ex m y.2.1.2.1 ++ [((3 : Nat), ([59] : List Int))])).length by simp only [Zo, Za, List.length_nil]; omega]
     show ((y.1.1 == 5) && (y.1.2.2.1.toList == (⟨#[]⟩ : ByteArray).toList) && (y.1.2.2.2.toList == (⟨#[]⟩ : ByteArray).toList) && Zai m 61 y.2.1.1 ZaO && Zai m 61 y.2.1.2.1 x' && Zaa (Zai m 61) y.2.1.2.2 [] && Zaa (Zas n N) y.2.2.1 [] && Zaa (Zas n N) y.2.2.2 []) = true
     rw [hk, ZbR F.nm, ZbR F.ot, Za4 _ F.ix, hsx, F.ar0 rfl, F.th0 rfl, F.el0 rfl]
     simp [Zaa]
   · have F := Tb.fm y hy false false false true false true true (by rw [hk]; rfl)
     rw [(Zd6 y hk).1] at hI hin hN hel ⊢
     have t1 := hI.first
     have hf : Zb9 Pr.NK y.2.1.2.1 ∧ 0 < dd ∧ (∀ a ∈ y.2.2.1, ZdJ Pr.NK n (dd - 1) a) ∧ ∀ a ∈ y.2.2.2, ZdJ Pr.NK n (dd - 1) a := by
      rcases hck with ⟨e0, h⟩ | ⟨e0, h⟩ | ⟨e0, h⟩ | e0 | ⟨e0, h⟩ | ⟨e0, h⟩ | ⟨e0, h⟩
      all_goals (first | exact h | (exfalso; omega))
     have hIe := hI.rest
     have hIb := hIe.right
     have t3 := hIb.first
     obtain ⟨x', hx', hsx⟩ := Zcx y.2.1.2.1 F.ex hf.1.2 e 0 (i + 1) (by omega) hIe.left (s := ⟨#[123]⟩) t3.2 (by decide)
     simp only [Zo, Za, List.length_nil] at hin hN hel
     have np : Zal l i ⟨#[112, 114, 105, 110, 116]⟩ = false := Zao (by rw [t1.2]; decide)
     have yi : Zal l i ⟨#[105, 102]⟩ = true := ZaM t1.2
     have hth : ∀ c ∈ y.2.2.1, ∀ i, i + (Tb.cmd n c).length ≤ l.length → Tp.Is l i (Tb.cmd n c) → Zal l (i + (Tb.cmd n c).length) ⟨#[101, 108, 115, 101]⟩ = false → ∃ y', Tp.cmd l e N i = .ok (y', i + (Tb.cmd n c).length) ∧ Zas n N c y' = true := fun c hc i' h1 h2 h3 => ih c (F.th c hc) (dd - 1) (hf.2.2.1 c hc) N i' (by have := Zdx (Tb.cmd n) _ c hc; omega) h1 h2 h3
     have hell : ∀ c ∈ y.2.2.2, (Tb.els (Tb.cmd n) y.2.2.2).length ≤ N → ∀ i, i + (Tb.cmd n c).length ≤ l.length → Tp.Is l i (Tb.cmd n c) → Zal l (i + (Tb.cmd n c).length) ⟨#[101, 108, 115, 101]⟩ = false → ∃ y', Tp.cmd l e N i = .ok (y', i + (Tb.cmd n c).length) ∧ Zas n N c y' = true := fun c hc hle i' h1 h2 h3 => ih c (F.el c hc) (dd - 1) (hf.2.2.2 c hc) N i' (by
      have := Zdx (Tb.cmd n) _ c hc
      have hne : ¬ y.2.2.2.length = 0 := by have := List.length_pos_of_mem hc; omega
      unfold Tb.els at hle
      rw [if_neg hne, Zo, Zo, Zo] at hle
      omega) h1 h2 h3
     by_cases h0 : y.2.2.2.length = 0
     · have hE : Tb.els (Tb.cmd n) y.2.2.2 = [] := if_pos h0
       rw [hE] at hIb hin hN hel ⊢
       rw [List.length_nil] at hin hN hel
       obtain ⟨ts, hts, hst⟩ := Zcz (Tp.cmd l e N) y.2.2.1 (i + 1 + (Tb.ex m y.2.1.2.1).length) F.th hth (by omega) hIb
       have hel' : Zal l (i + 1 + (Tb.ex m y.2.1.2.1).length + 1 + (y.2.2.1.flatMap (Tb.cmd n)).length + 1) ⟨#[101, 108, 115, 101]⟩ = false := by
        rw [show i + 1 + (Tb.ex m y.2.1.2.1).length + 1 + (y.2.2.1.flatMap (Tb.cmd n)).length + 1 = i + ((Tb.ex m y.2.1.2.1).length + ((y.2.2.1.flatMap (Tb.cmd n)).length + (0 + (0 + 1)) + 1) + 1) by omega]
        exact hel
       refine ⟨((6, Zaz l e i, ⟨#[]⟩, ⟨#[]⟩), (ZaO, x', []), (ts, [])), ?_, ?_⟩
       · unfold Za0
         simp only [np, yi, hx', hts, hel', Zb, if_false, if_true]
         congr 2
         simp only [Zo, Za, List.length_nil]
         omega
       show ((y.1.1 == 6) && (y.1.2.2.1.toList == (⟨#[]⟩ : ByteArray).toList) && (y.1.2.2.2.toList == (⟨#[]⟩ : ByteArray).toList) && Zai m 61 y.2.1.1 ZaO && Zai m 61 y.2.1.2.1 x' && Zaa (Zai m 61) y.2.1.2.2 [] && Zaa (Zas n N) y.2.2.1 ts && Zaa (Zas n N) y.2.2.2 []) = true
       rw [hk, ZbR F.nm, ZbR F.ot, Za4 _ F.ix, hsx, F.ar0 rfl, hst, List.eq_nil_of_length_eq_zero h0]
       simp [Zaa]
     have hE : Tb.els (Tb.cmd n) y.2.2.2 = (3, [125]) :: (1, [101, 108, 115, 101]) :: (3, [123]) :: y.2.2.2.flatMap (Tb.cmd n) := if_neg h0
     rw [hE] at hIb hin hN hel hell ⊢
     simp only [Zo] at hin hN hel hell
     have e1 : (3, [123]) :: (y.2.2.1.flatMap (Tb.cmd n) ++ ((3, [125]) :: (1, [101, 108, 115, 101]) :: (3, [123]) :: y.2.2.2.flatMap (Tb.cmd n) ++ [(3, [125])])) = ((3, [123]) :: (y.2.2.1.flatMap (Tb.cmd n) ++ [(3, [125])])) ++ ((1, [101, 108, 115, 101]) :: ((3, [123]) :: (y.2.2.2.flatMap (Tb.cmd n) ++ [((3 : Nat), ([125] : List Int))]))) := by simp
     rw [e1] at hIb
     obtain ⟨ts, hts, hst⟩ := Zcz (Tp.cmd l e N) y.2.2.1 (i + 1 + (Tb.ex m y.2.1.2.1).length) F.th hth (by omega) hIb.left
     have hIc := hIb.right
     have eJ : i + 1 + (Tb.ex m y.2.1.2.1).length + ((3, [123]) :: (y.2.2.1.flatMap (Tb.cmd n) ++ [((3 : Nat), ([125] : List Int))])).length = i + 1 + (Tb.ex m y.2.1.2.1).length + 1 + (y.2.2.1.flatMap (Tb.cmd n)).length + 1 := by
      simp only [Zo, Za, List.length_nil]
      omega
     rw [eJ] at hIc
     have hes : Zal l (i + 1 + (Tb.ex m y.2.1.2.1).length + 1 + (y.2.2.1.flatMap (Tb.cmd n)).length + 1) ⟨#[101, 108, 115, 101]⟩ = true := ZaM hIc.first.2
     obtain ⟨us, hus, hsu⟩ := Zcz (Tp.cmd l e N) y.2.2.2 (i + 1 + (Tb.ex m y.2.1.2.1).length + 1 + (y.2.2.1.flatMap (Tb.cmd n)).length + 1 + 1) F.el (fun c hc => hell c hc (by omega)) (by omega) hIc.rest
     refine ⟨((6, Zaz l e i, ⟨#[]⟩, ⟨#[]⟩), (ZaO, x', []), (ts, us)), ?_, ?_⟩
     · unfold Za0
       simp only [np, yi, hx', hts, hes, hus, Zb, if_false, if_true]
       congr 2
       simp only [Zo, Za, List.length_nil]
       omega
     show ((y.1.1 == 6) && (y.1.2.2.1.toList == (⟨#[]⟩ : ByteArray).toList) && (y.1.2.2.2.toList == (⟨#[]⟩ : ByteArray).toList) && Zai m 61 y.2.1.1 ZaO && Zai m 61 y.2.1.2.1 x' && Zaa (Zai m 61) y.2.1.2.2 [] && Zaa (Zas n N) y.2.2.1 ts && Zaa (Zas n N) y.2.2.2 us) = true
     rw [hk, ZbR F.nm, ZbR F.ot, Za4 _ F.ix, hsx, F.ar0 rfl, hst, hsu]
     simp [Zaa]
   have F := Tb.fm y hy false false false true false true false (by rw [hk]; rfl)
   rw [(Zem y hk).1] at hI hin hN hel ⊢
   have t1 := hI.first
   have hf : Zb9 Pr.NK y.2.1.2.1 ∧ 0 < dd ∧ ∀ a ∈ y.2.2.1, ZdJ Pr.NK n (dd - 1) a := by
    rcases hck with ⟨e0, h⟩ | ⟨e0, h⟩ | ⟨e0, h⟩ | e0 | ⟨e0, h⟩ | ⟨e0, h⟩ | ⟨e0, h⟩
    all_goals (first | exact h | (exfalso; omega))
   have hIe := hI.rest
   have hIb := hIe.right
   have t3 := hIb.first
   obtain ⟨x', hx', hsx⟩ := Zcx y.2.1.2.1 F.ex hf.1.2 e 0 (i + 1) (by omega) hIe.left (s := ⟨#[123]⟩) t3.2 (by decide)
   simp only [Zo, Za, List.length_nil] at hin hN hel
   have np : Zal l i ⟨#[112, 114, 105, 110, 116]⟩ = false := Zao (by rw [t1.2]; decide)
   have ni : Zal l i ⟨#[105, 102]⟩ = false := Zao (by rw [t1.2]; decide)
   have yw : Zal l i ⟨#[119, 104, 105, 108, 101]⟩ = true := ZaM t1.2
   obtain ⟨ts, hts, hst⟩ := Zcz (Tp.cmd l e N) y.2.2.1 (i + 1 + (Tb.ex m y.2.1.2.1).length) F.th (fun c hc i' h1 h2 h3 => ih c (F.th c hc) (dd - 1) (hf.2.2 c hc) N i' (by have := Zdx (Tb.cmd n) _ c hc; omega) h1 h2 h3) (by omega) hIb
   refine ⟨((7, Zaz l e i, ⟨#[]⟩, ⟨#[]⟩), (ZaO, x', []), (ts, [])), ?_, ?_⟩
   · unfold Za0
     simp only [np, ni, yw, hx', hts, Zb, if_false, if_true]
     congr 2
     simp only [Zo, Za, List.length_nil]
     omega
   show ((y.1.1 == 7) && (y.1.2.2.1.toList == (⟨#[]⟩ : ByteArray).toList) && (y.1.2.2.2.toList == (⟨#[]⟩ : ByteArray).toList) && Zai m 61 y.2.1.1 ZaO && Zai m 61 y.2.1.2.1 x' && Zaa (Zai m 61) y.2.1.2.2 [] && Zaa (Zas n N) y.2.2.1 ts && Zaa (Zas n N) y.2.2.2 []) = true
   rw [hk, ZbR F.nm, ZbR F.ot, Za4 _ F.ix, hsx, F.ar0 rfl, hst, F.el0 rfl]
   simp [Zaa]
end
end Go.Proofs.YtfccpddehpgfoaaGreatDoor
