/- By the verifier. -/
import Derived.Test.YtfccpddehpgfoaaGreatDoorYA
set_option maxHeartbeats 1000000
namespace Go.Proofs.YtfccpddehpgfoaaGreatDoor
open Go.RowKit
set_option linter.unusedVariables false
theorem Zdk (t : ByteArray) (h : Zam t = true) : t.size ≤ 12 := by
 unfold Zam at h
 rw [Bool.and_eq_true] at h
 obtain ⟨_, hg, hb, hk, hn⟩ := (Tk.isTok_iff 1 _).1 h.1
 rw [← Tk.B_length]
 cases hB : Tk.B t with
 | nil => simp
 | cons c r =>
  rw [hB] at hb hk hn
  cases hL : Tk.isL c
  · exfalso
    simp only [Tk.tokK, hL, Zb, if_false] at hk
    split at hk
    · omega
    split at hk
    · omega
    split at hk <;> omega
  simp only [Tk.bad, hL, if_true] at hb
  simp only [Tk.tokN, hL, if_true] at hn
  split at hb
  · omega
  omega
theorem Zco (t : ByteArray) (b : Bool) (h : Zar t b = true) : t.size ≤ 12 := by
 unfold Zar at h
 split at h
 · exact Zdk t h
 have : t.toList = [] := by simpa using h
 have e : t.size = 0 := by
  obtain ⟨d⟩ := t
  rw [ByteArray.toList_mk] at this
  show d.size = 0
  rw [← Array.length_toList, this]
  rfl
 omega
def Pr.NK (i : Int) : Prop := -9999999 ≤ i ∧ i ≤ 9999999
theorem Pr.ok_of : ∀ (n : Nat) (x : Zat n), Zac n x = true → Pr.ok Pr.NK n x := by
 intro n
 induction n with
 | zero => intro x h; exact absurd h (by simp [Zac])
 | succ n ih =>
  rintro ⟨⟨k, a, m, nm⟩, l⟩ h
  have h : Zbj k m nm l.length (l.all (Zac n)) = true := h
  unfold Zbj at h
  simp only [Bool.and_eq_true, decide_eq_true_eq] at h
  obtain ⟨⟨⟨⟨hk, hl⟩, hf⟩, hall⟩, hnum⟩ := h
  have hall := List.all_eq_true.1 hall
  refine ⟨(show nm.size ≤ 64 from by have := Zco nm _ hf; omega), ?_⟩
  by_cases k1 : k = 1
  · subst k1
    exact .inl ⟨rfl, by have h2 : Za6 1 m = true := hnum; simpa [Za6, Pr.NK] using h2⟩
  by_cases k2 : k = 2
  · exact .inr (.inl k2)
  by_cases k3 : k = 3
  · subst k3
    have hl : l.length = 1 := hl
    match l, hl, hall with
    | [y], _, hall => exact .inr (.inr (.inl ⟨rfl, y, rfl, ih y (hall y (by simp))⟩))
  have h4 : 4 ≤ k ∧ k ≤ 10 := by omega
  have hl : l.length = 2 := by rw [hl]; unfold Zep; rw [if_neg k3, if_pos h4]
  match l, hl, hall with
  | [y, z], _, hall => exact .inr (.inr (.inr ⟨h4, y, z, rfl, ih y (hall y (by simp)), ih z (hall z (by simp))⟩))
theorem Zcc {m : Nat} (n : Nat) (deep : Int) : ∀ (l : List (Zap m n)) (a : Int), a < 0 → Zae n deep a l < 0 := by
 cases n with
 | zero => intro l a h; exact h
 | succ n =>
  intro l
  induction l with
  | nil => intro a h; exact h
  | cons y r ih =>
   intro a h
   have e : Zae (n + 1) deep a (y :: r) = Zae (n + 1) deep (if a ≤ 0 ∨ 5 < deep ∨ Tk.long y = true then -1 else Zae n (deep + 1) (Zae n (deep + 1) (a - 1) y.2.2.1) y.2.2.2) r := rfl
   rw [e, if_pos (.inl (by omega))]
   exact ih _ (by omega)
theorem Zkw {m : Nat} (n : Nat) (deep : Int) : ∀ (l : List (Zap m (n + 1))) (a : Int), 0 ≤ Zae (n + 1) deep a l → ∀ y ∈ l, deep ≤ 5 ∧ Tk.long y = false ∧ (∃ c, 0 ≤ Zae n (deep + 1) c y.2.2.1) ∧ ∃ c, 0 ≤ Zae n (deep + 1) c y.2.2.2 := by
 intro l
 induction l with
 | nil => intro a _ y hy; exact absurd hy List.not_mem_nil
 | cons z r ih =>
  intro a h y hy
  have e : Zae (n + 1) deep a (z :: r) = Zae (n + 1) deep (if a ≤ 0 ∨ 5 < deep ∨ Tk.long z = true then -1 else Zae n (deep + 1) (Zae n (deep + 1) (a - 1) z.2.2.1) z.2.2.2) r := rfl
  rw [e] at h
  rcases List.mem_cons.1 hy with hyz | hy
  · subst hyz
    by_cases hc : a ≤ 0 ∨ 5 < deep ∨ Tk.long y = true
    · rw [if_pos hc] at h
      have := Zcc (n + 1) deep r (-1) (by omega)
      omega
    rw [if_neg hc] at h
    have h1 : 0 ≤ Zae n (deep + 1) (Zae n (deep + 1) (a - 1) y.2.2.1) y.2.2.2 := by
     rcases Int.lt_or_le (Zae n (deep + 1) (Zae n (deep + 1) (a - 1) y.2.2.1) y.2.2.2) 0 with h2 | h2
     · have := Zcc (n + 1) deep r _ h2
       omega
     exact h2
    have h3 : 0 ≤ Zae n (deep + 1) (a - 1) y.2.2.1 := by
     rcases Int.lt_or_le (Zae n (deep + 1) (a - 1) y.2.2.1) 0 with h2 | h2
     · have := Zcc n (deep + 1) y.2.2.2 _ h2
       omega
     exact h2
    refine ⟨by omega, ?_, ⟨_, h3⟩, ⟨_, h1⟩⟩
    cases hl : Tk.long y
    · rfl
    exact absurd (.inr (.inr hl)) hc
  exact ih _ h y hy
theorem Zhx {m : Nat} : ∀ (n d : Nat) (deep : Int) (y : Zap m n), Zaf n y = true → (∃ l a, y ∈ l ∧ 0 ≤ Zae n deep a l) → 6 - deep ≤ (d : Int) → ZdJ Pr.NK n d y := by
 intro n
 induction n with
 | zero => intro d deep y h; exact absurd h (by simp [Zaf])
 | succ n ih =>
  rintro d deep ⟨⟨k, a, nm, ot⟩, ⟨ix, ex, args⟩, ⟨th, el⟩⟩ h ⟨l, c, hyl, hc⟩ hd
  obtain ⟨hdeep, hlong, ⟨c1, h1⟩, ⟨c2, h2⟩⟩ := Zkw n deep l c hc _ hyl
  have h1 : 0 ≤ Zae n (deep + 1) c1 th := h1
  have h2 : 0 ≤ Zae n (deep + 1) c2 el := h2
  have hlong : (decide (3 < args.length) || decide (15 < Zab m ix) || decide (15 < Zab m ex) || args.any fun e => decide (15 < Zab m e)) = false := hlong
  simp only [Bool.or_eq_false_iff, decide_eq_false_iff_not, Nat.not_lt] at hlong
  obtain ⟨⟨⟨hla, hli⟩, hle⟩, hlg⟩ := hlong
  have hga : ∀ e ∈ args, Zab m e ≤ 15 := fun e he => by
   have := List.any_eq_false.1 hlg e he
   simpa using this
  have h : (match ZaS k with
   | none => false
   | some (f1, f2, f3, f4, f5, f6, f7) => Zar nm f1 && Zar ot f2 && Zan m ix f3 && Zan m ex f4 && (args.all (Zac m) && (f5 || decide (args.length = 0))) &&
    (th.all (Zaf n) && (f6 || decide (th.length = 0))) && (el.all (Zaf n) && (f7 || decide (el.length = 0)))) = true := h
  by_cases k1 : k = 1
  · subst k1
    have h : (Zar nm true && Zar ot false && Zan m ix false && Zan m ex true && (args.all (Zac m) && (false || decide (args.length = 0))) && (th.all (Zaf n) && (false || decide (th.length = 0))) && (el.all (Zaf n) && (false || decide (el.length = 0)))) = true := h
    simp only [Bool.and_eq_true] at h
    exact .inl ⟨rfl, Pr.ok_of m ex h.1.1.1.2, hle⟩
  by_cases k2 : k = 2
  · subst k2
    have h : (Zar nm true && Zar ot false && Zan m ix true && Zan m ex true && (args.all (Zac m) && (false || decide (args.length = 0))) && (th.all (Zaf n) && (false || decide (th.length = 0))) && (el.all (Zaf n) && (false || decide (el.length = 0)))) = true := h
    simp only [Bool.and_eq_true] at h
    exact .inr (.inl ⟨rfl, Nat.le_trans (Zco nm _ h.1.1.1.1.1.1) (by decide), ⟨Pr.ok_of m ex h.1.1.1.2, hle⟩, Pr.ok_of m ix h.1.1.1.1.2, hli⟩)
  by_cases k3 : k = 3
  · subst k3
    have h : (Zar nm true && Zar ot true && Zan m ix false && Zan m ex false && (args.all (Zac m) && (true || decide (args.length = 0))) && (th.all (Zaf n) && (false || decide (th.length = 0))) && (el.all (Zaf n) && (false || decide (el.length = 0)))) = true := h
    simp only [Bool.and_eq_true] at h
    exact .inr (.inr (.inl ⟨rfl, fun e he => ⟨Pr.ok_of m e (List.all_eq_true.1 h.1.1.2.1 e he), hga e he⟩, Nat.le_trans hla (by decide)⟩))
  by_cases k4 : k = 4
  · exact .inr (.inr (.inr (.inl k4)))
  by_cases k5 : k = 5
  · subst k5
    have h : (Zar nm false && Zar ot false && Zan m ix false && Zan m ex true && (args.all (Zac m) && (false || decide (args.length = 0))) && (th.all (Zaf n) && (false || decide (th.length = 0))) && (el.all (Zaf n) && (false || decide (el.length = 0)))) = true := h
    simp only [Bool.and_eq_true] at h
    exact .inr (.inr (.inr (.inr (.inl ⟨rfl, Pr.ok_of m ex h.1.1.1.2, hle⟩))))
  by_cases k6 : k = 6
  · subst k6
    have h : (Zar nm false && Zar ot false && Zan m ix false && Zan m ex true && (args.all (Zac m) && (false || decide (args.length = 0))) && (th.all (Zaf n) && (true || decide (th.length = 0))) && (el.all (Zaf n) && (true || decide (el.length = 0)))) = true := h
    simp only [Bool.and_eq_true] at h
    exact .inr (.inr (.inr (.inr (.inr (.inl ⟨rfl, ⟨Pr.ok_of m ex h.1.1.1.2, hle⟩, by omega, fun e he => ih (d - 1) (deep + 1) e (List.all_eq_true.1 h.1.2.1 e he) ⟨th, c1, he, h1⟩ (by omega), fun e he => ih (d - 1) (deep + 1) e (List.all_eq_true.1 h.2.1 e he) ⟨el, c2, he, h2⟩ (by omega)⟩)))))
  by_cases k7 : k = 7
  · subst k7
    have h : (Zar nm false && Zar ot false && Zan m ix false && Zan m ex true && (args.all (Zac m) && (false || decide (args.length = 0))) && (th.all (Zaf n) && (true || decide (th.length = 0))) && (el.all (Zaf n) && (false || decide (el.length = 0)))) = true := h
    simp only [Bool.and_eq_true] at h
    exact .inr (.inr (.inr (.inr (.inr (.inr ⟨rfl, ⟨Pr.ok_of m ex h.1.1.1.2, hle⟩, by omega, fun e he => ih (d - 1) (deep + 1) e (List.all_eq_true.1 h.1.2.1 e he) ⟨th, c1, he, h1⟩ (by omega)⟩)))))
  have hf : ZaS k = none := by unfold ZaS; rw [if_neg k1, if_neg k2, if_neg k3, if_neg k4, if_neg k5, if_neg k6, if_neg k7]
  rw [hf] at h
  cases h
structure Pr.fok {m n : Nat} (f : Tk.FT m n) : Prop where
 ps : f.ps.length ≤ 1000 ∧ ∀ s ∈ f.ps, s.size ≤ 64
 vs : ∀ y ∈ f.vs, y.1.size ≤ 64 ∧ (y.2 = 0 ∨ Pr.NK y.2)
 vl : f.vs.length ≤ 1000
 cs : ∀ y ∈ f.cs, ZdJ Pr.NK n 5 y
 re : Zab m f.re ≤ 15
theorem Zko {m n : Nat} : ∀ (l : List (Tk.FT m n)) (left : Int), ZaN left l = false → ∀ f ∈ l, f.ps.length ≤ 3 ∧ f.vs.length ≤ 6 ∧ Zab m f.re ≤ 15 ∧ ∃ c, 0 ≤ Zae n 1 c f.cs := by
 intro l
 induction l with
 | nil => intro left _ f hf; exact absurd hf List.not_mem_nil
 | cons g r ih =>
  intro left h f hf
  have h : (decide (3 < g.ps.length) || decide (6 < g.vs.length) || decide (15 < Zab m g.re) || decide (Zae n 1 left g.cs < 0) || ZaN (Zae n 1 left g.cs) r) = false := h
  simp only [Bool.or_eq_false_iff, decide_eq_false_iff_not, Nat.not_lt] at h
  obtain ⟨⟨⟨⟨h1, h2⟩, h3⟩, h4⟩, h5⟩ := h
  rcases List.mem_cons.1 hf with hfg | hf
  · subst hfg
    exact ⟨h1, h2, h3, left, by omega⟩
  exact ih _ h5 f hf
theorem Zld {m n : Nat} (f : Tk.FT m n) (b : Bool) (hb : ZaR f b = true) (h : f.ps.length ≤ 3 ∧ f.vs.length ≤ 6 ∧ Zab m f.re ≤ 15 ∧ ∃ c, 0 ≤ Zae n 1 c f.cs) : Pr.fok f := by
 unfold ZaR at hb
 simp only [Bool.and_eq_true] at hb
 obtain ⟨⟨⟨⟨⟨_, hps⟩, hvs⟩, _⟩, hcs⟩, _⟩ := hb
 obtain ⟨h1, h2, h3, c, h4⟩ := h
 refine ⟨⟨by omega, fun s hs => Nat.le_trans (Zdk s (List.all_eq_true.1 hps s hs)) (by decide)⟩, fun y hy => ?_, by omega, fun y hy => Zhx n 5 1 y (List.all_eq_true.1 hcs y hy) ⟨f.cs, c, hy, h4⟩ (by omega), h3⟩
 have hv := List.all_eq_true.1 hvs y hy
 unfold Za5 at hv
 simp only [Bool.and_eq_true, decide_eq_true_eq] at hv
 exact ⟨Nat.le_trans (Zdk y.1 hv.1.1) (by decide), .inr ⟨by omega, by omega⟩⟩
theorem Sp.flat_cons (s : ByteArray) (r : List ByteArray) : (Zbu (s :: r)).length = s.size + (Zbu r).length := by
 unfold Zbu
 rw [List.flatMap_cons, Za]
 rfl
theorem Sp.flat_nil : (Zbu []).length = 0 := rfl
theorem Zbn (k : Nat) (ps : List ByteArray) : (ZaW k ps).length = k + (Zbu ps).length + 1 := by
 unfold ZaW
 simp
 omega
theorem Zeo (ts : List ByteArray) (n : Nat) (h : ∀ t ∈ ts, t.size ≤ 2000) (hn : ts.length ≤ n) : (Pr.commas ts).size ≤ 2002 * n := by
 have h1 := ZeE ts h
 have h2 : (Pr.commas ts).size = (Lib.join (ts.map (·.data.toList)) [44, 32]).length := by unfold Pr.commas; exact List.size_toArray
 have h3 : 2002 * ts.length ≤ 2002 * n := Nat.mul_le_mul_left _ hn
 omega
theorem ZhD {m n : Nat} (y : Zap m (n + 1)) (h : Zaf (n + 1) y = true) : y.1.2.2.1.size ≤ 12 ∧ y.1.2.2.2.size ≤ 12 ∧ (∀ c ∈ y.2.2.1, Zaf n c = true) ∧ ∀ c ∈ y.2.2.2, Zaf n c = true := by
 have h : (match ZaS y.1.1 with
  | none => false
  | some (f1, f2, f3, f4, f5, f6, f7) => Zar y.1.2.2.1 f1 && Zar y.1.2.2.2 f2 && Zan m y.2.1.1 f3 && Zan m y.2.1.2.1 f4 && (y.2.1.2.2.all (Zac m) && (f5 || decide (y.2.1.2.2.length = 0))) &&
   (y.2.2.1.all (Zaf n) && (f6 || decide (y.2.2.1.length = 0))) && (y.2.2.2.all (Zaf n) && (f7 || decide (y.2.2.2.length = 0)))) = true := h
 cases hf : ZaS y.1.1 with
 | none => rw [hf] at h; cases h
 | some t =>
  obtain ⟨f1, f2, f3, f4, f5, f6, f7⟩ := t
  rw [hf] at h
  simp only [Bool.and_eq_true] at h
  exact ⟨Zco _ _ h.1.1.1.1.1.1, Zco _ _ h.1.1.1.1.1.2, fun c hc => List.all_eq_true.1 h.1.2.1 c hc, fun c hc => List.all_eq_true.1 h.2.1 c hc⟩
section
variable {num : Int → ByteArray}
theorem ZbY (hsz : ∀ i, Pr.NK i → (num i).size ≤ 20) {m : Nat} (x : Zat m) (h : Zb9 Pr.NK x) : (Pr.text num m x).size ≤ 1500 := by
 have h1 := Zb2 hsz m x h.1
 have h2 : 100 * Zab m x ≤ 100 * 15 := Nat.mul_le_mul_left _ h.2
 omega
theorem ZhY {m n : Nat} (deep a : Int) (y : Zap m (n + 1)) (r : List (Zap m (n + 1))) (h : 0 ≤ Zae (n + 1) deep a (y :: r)) :
  0 < a ∧ deep ≤ 5 ∧ Tk.long y = false ∧ 0 ≤ Zae n (deep + 1) (a - 1) y.2.2.1 ∧ 0 ≤ Zae n (deep + 1) (Zae n (deep + 1) (a - 1) y.2.2.1) y.2.2.2 ∧ Zae (n + 1) deep a (y :: r) = Zae (n + 1) deep (Zae n (deep + 1) (Zae n (deep + 1) (a - 1) y.2.2.1) y.2.2.2) r := by
 have e : Zae (n + 1) deep a (y :: r) = Zae (n + 1) deep (if a ≤ 0 ∨ 5 < deep ∨ Tk.long y = true then -1 else Zae n (deep + 1) (Zae n (deep + 1) (a - 1) y.2.2.1) y.2.2.2) r := rfl
 rw [e] at h
 by_cases hc : a ≤ 0 ∨ 5 < deep ∨ Tk.long y = true
 · rw [if_pos hc] at h
   have := Zcc (n + 1) deep r (-1) (by omega)
   omega
 rw [if_neg hc] at h e
 have h1 : 0 ≤ Zae n (deep + 1) (Zae n (deep + 1) (a - 1) y.2.2.1) y.2.2.2 := by
  rcases Int.lt_or_le (Zae n (deep + 1) (Zae n (deep + 1) (a - 1) y.2.2.1) y.2.2.2) 0 with h2 | h2
  · have := Zcc (n + 1) deep r _ h2
    omega
  exact h2
 have h3 : 0 ≤ Zae n (deep + 1) (a - 1) y.2.2.1 := by
  rcases Int.lt_or_le (Zae n (deep + 1) (a - 1) y.2.2.1) 0 with h2 | h2
  · have := Zcc n (deep + 1) y.2.2.2 _ h2
    omega
  exact h2
 refine ⟨by omega, by omega, ?_, h3, h1, e⟩
 cases hl : Tk.long y
 · rfl
 exact absurd (.inr (.inr hl)) hc
theorem ZiC (hsz : ∀ i, Pr.NK i → (num i).size ≤ 20) {m : Nat} : ∀ (n : Nat) (deep : Int) (k : Nat) (l : List (Zap m n)) (a : Int), (∀ y ∈ l, Zaf n y = true) → 0 ≤ Zae n deep a l → (k : Int) + 2 * (6 - deep) ≤ 900 → (((l.flatMap (Pr.cmd num n k)).length : Nat) : Int) ≤ 20000 * (a - Zae n deep a l) := by
 intro n
 induction n with
 | zero =>
  intro deep k l a hb h hk
  cases l with
  | nil => show (0 : Int) ≤ 20000 * (a - a); omega
  | cons y r => exact absurd (hb y (by simp)) (by simp [Zaf])
 | succ n ih =>
  intro deep k l
  induction l with
  | nil => intro a hb h hk; show (0 : Int) ≤ 20000 * (a - a); omega
  | cons y r ihl =>
   intro a hb h hk
   obtain ⟨h1, h2, h3, h4, h5, h6⟩ := ZhY deep a y r h
   have hy := hb y (by simp)
   obtain ⟨p1, p2, p3, p4⟩ := ZhD y hy
   have hck := Zhx (n + 1) (6 - deep).toNat deep y hy ⟨y :: r, a, by simp, h⟩ (by omega)
   have e1 := ihl _ (fun c hc => hb c (List.mem_cons_of_mem _ hc)) (by rw [h6] at h; exact h) hk
   have e2 := ih (deep + 1) (k + 2) y.2.2.2 _ p4 h5 (by omega)
   have e3 := ih (deep + 1) (k + 2) y.2.2.1 _ p3 h4 (by omega)
   rw [h6, List.flatMap_cons, Za]
   have hk2 : k ≤ 900 := by omega
   have hl3 : y.2.1.2.2.length ≤ 3 := by
    unfold Tk.long at h3
    simp only [Bool.or_eq_false_iff, decide_eq_false_iff_not, Nat.not_lt] at h3
    exact h3.1.1.1
   have hone : (Pr.cmd num (n + 1) k y).length ≤ 20000 + (y.2.2.1.flatMap (Pr.cmd num n (k + 2))).length + (y.2.2.2.flatMap (Pr.cmd num n (k + 2))).length := by
    rcases hck with ⟨e, hc⟩ | ⟨e, hn, hc, hc2⟩ | ⟨e, hc, hc2⟩ | e | ⟨e, hc⟩ | ⟨e, hc, hd, hc1, hc2⟩ | ⟨e, hc, hd, hc1⟩
    · have hc' := ZbY hsz _ hc
      have hcm : Pr.cmd num (n + 1) k y = Pr.set num k y.1.2.2.1 y.2.1.2.1 := by show (if _ then _ else _) = _; rw [if_pos e]
      rw [hcm]
      unfold Pr.set
      simp only [Zbn, Sp.flat_cons, Sp.flat_nil]
      have z1 : (⟨#[32, 61, 32]⟩ : ByteArray).size = 3 := rfl
      have z2 : (⟨#[59]⟩ : ByteArray).size = 1 := rfl
      omega
    · have hc' := ZbY hsz _ hc
      have hc2' := ZbY hsz _ hc2
      have hcm : Pr.cmd num (n + 1) k y = Pr.put num k y.1.2.2.1 y.2.1.1 y.2.1.2.1 := by show (if _ then _ else _) = _; rw [if_neg (by omega), if_pos e]
      rw [hcm]
      unfold Pr.put Pr.cell
      simp only [Zbn, Sp.flat_cons, Sp.flat_nil, ByteArray.size_append]
      have z1 : (⟨#[32, 61, 32]⟩ : ByteArray).size = 3 := rfl
      have z2 : (⟨#[59]⟩ : ByteArray).size = 1 := rfl
      have z3 : (⟨#[91]⟩ : ByteArray).size = 1 := rfl
      have z4 : (⟨#[93]⟩ : ByteArray).size = 1 := rfl
      omega
    · have hc' : ∀ t ∈ y.2.1.2.2.map (Pr.text num m), t.size ≤ 2000 := fun t ht => by
       obtain ⟨e, he, rfl⟩ := List.mem_map.1 ht
       have := ZbY hsz _ (hc e he)
       omega
      have hcl := Zeo _ 3 hc' (by rw [List.length_map]; exact hl3)
      have hcm : Pr.cmd num (n + 1) k y = Pr.call num k y.1.2.2.1 y.1.2.2.2 y.2.1.2.2 := by show (if _ then _ else _) = _; rw [if_neg (by omega), if_neg (by omega), if_pos e]
      rw [hcm]
      unfold Pr.call
      simp only [Zbn, Sp.flat_cons, Sp.flat_nil]
      have z1 : (⟨#[32, 61, 32]⟩ : ByteArray).size = 3 := rfl
      have z2 : (⟨#[40]⟩ : ByteArray).size = 1 := rfl
      have z3 : (⟨#[41, 59]⟩ : ByteArray).size = 2 := rfl
      omega
    · have hcm : Pr.cmd num (n + 1) k y = Pr.read k y.1.2.2.1 := by show (if _ then _ else _) = _; rw [if_neg (by omega), if_neg (by omega), if_neg (by omega), if_pos e]
      rw [hcm]
      unfold Pr.read
      simp only [Zbn, Sp.flat_cons, Sp.flat_nil]
      have z1 : (⟨#[32, 61, 32, 114, 101, 97, 100, 59]⟩ : ByteArray).size = 8 := rfl
      omega
    · have hc' := ZbY hsz _ hc
      have hcm : Pr.cmd num (n + 1) k y = ZcT num k y.2.1.2.1 := by show (if _ then _ else _) = _; rw [if_neg (by omega), if_neg (by omega), if_neg (by omega), if_neg (by omega), if_pos e]
      rw [hcm]
      unfold ZcT
      simp only [Zbn, Sp.flat_cons, Sp.flat_nil]
      have z1 : (⟨#[112, 114, 105, 110, 116, 32]⟩ : ByteArray).size = 6 := rfl
      have z2 : (⟨#[59]⟩ : ByteArray).size = 1 := rfl
      omega
    · have hc' := ZbY hsz _ hc
      have hcm : Pr.cmd num (n + 1) k y = Zdn num k (Pr.cmd num n (k + 2)) y.2.1.2.1 y.2.2.1 y.2.2.2 := by show (if _ then _ else _) = _; rw [if_neg (by omega), if_neg (by omega), if_neg (by omega), if_neg (by omega), if_neg (by omega), if_pos e]
      have hel : (Pr.els k (Pr.cmd num n (k + 2)) y.2.2.2).length ≤ k + 9 + (y.2.2.2.flatMap (Pr.cmd num n (k + 2))).length := by
       unfold Pr.els
       split
       · exact Nat.zero_le _
       rw [Za, Zbn, Sp.flat_cons, Sp.flat_nil]
       have z1 : (⟨#[125, 32, 101, 108, 115, 101, 32, 123]⟩ : ByteArray).size = 8 := rfl
       omega
      rw [hcm]
      unfold Zdn
      simp only [Za, Zbn, Sp.flat_cons, Sp.flat_nil]
      have z1 : (⟨#[105, 102, 32]⟩ : ByteArray).size = 3 := rfl
      have z2 : (⟨#[32, 123]⟩ : ByteArray).size = 2 := rfl
      have z3 : (⟨#[125]⟩ : ByteArray).size = 1 := rfl
      omega
    have hc' := ZbY hsz _ hc
    have hcm : Pr.cmd num (n + 1) k y = ZcS num k (Pr.cmd num n (k + 2)) y.2.1.2.1 y.2.2.1 := by show (if _ then _ else _) = _; rw [if_neg (by omega), if_neg (by omega), if_neg (by omega), if_neg (by omega), if_neg (by omega), if_neg (by omega)]
    rw [hcm]
    unfold ZcS
    simp only [Za, Zbn, Sp.flat_cons, Sp.flat_nil]
    have z1 : (⟨#[119, 104, 105, 108, 101, 32]⟩ : ByteArray).size = 6 := rfl
    have z2 : (⟨#[32, 123]⟩ : ByteArray).size = 2 := rfl
    have z3 : (⟨#[125]⟩ : ByteArray).size = 1 := rfl
    omega
   omega
theorem ZiY (hsz : ∀ i, Pr.NK i → (num i).size ≤ 20) (k : Nat) : ∀ (l : List (ByteArray × Int)), (∀ y ∈ l, y.1.size ≤ 64 ∧ (y.2 = 0 ∨ Pr.NK y.2)) → (Pr.vars num k l).length ≤ (k + 100) * l.length := by
 intro l
 induction l with
 | nil => intro _; exact Nat.zero_le _
 | cons y r ih =>
  intro h
  have h1 := ih (fun z hz => h z (List.mem_cons_of_mem _ hz))
  obtain ⟨h2, h3⟩ := h y (by simp)
  have e : Pr.vars num k (y :: r) = ZaW k (Pr.var num y) ++ Pr.vars num k r := rfl
  have h4 : (ZaW k (Pr.var num y)).length ≤ k + 100 := by
   unfold Pr.var
   have z1 : (⟨#[118, 97, 114, 32]⟩ : ByteArray).size = 4 := rfl
   have z2 : (⟨#[97, 114, 114, 32]⟩ : ByteArray).size = 4 := rfl
   have z3 : (⟨#[59]⟩ : ByteArray).size = 1 := rfl
   have z4 : (⟨#[32]⟩ : ByteArray).size = 1 := rfl
   split
   · simp only [Zbn, Sp.flat_cons, Sp.flat_nil]
     omega
   next hy =>
   have h5 := hsz y.2 (h3.resolve_left hy)
   simp only [Zbn, Sp.flat_cons, Sp.flat_nil]
   omega
  rw [e, Za, Zo, Nat.mul_add, Nat.mul_one]
  omega
def Zim {m n : Nat} (num : Int → ByteArray) (l : List (Tk.FT m n)) : Nat := (l.map (fun x => 20000 + (x.cs.flatMap (Pr.cmd num n 2)).length)).sum
theorem ZgK (hsz : ∀ i, Pr.NK i → (num i).size ≤ 20) {m n : Nat} (f : Zap m n → List UInt8) (x : Tk.FT m n) (hx : Pr.fok x) (hv : x.vs.length ≤ 6) : (ZcG num (0 + 2) f x).length ≤ 612 + (x.cs.flatMap f).length := by
 unfold ZcG
 rw [Za]
 have h1 := ZiY hsz (0 + 2) x.vs hx.vs
 have h2 : (0 + 2 + 100) * x.vs.length ≤ (0 + 2 + 100) * 6 := Nat.mul_le_mul_left _ hv
 omega
theorem ZiL (hsz : ∀ i, Pr.NK i → (num i).size ≤ 20) {m n : Nat} (f : Zap m n → List UInt8) (x : Tk.FT m n) (hx : Pr.fok x) (hv : x.vs.length ≤ 6) : (Pr.main num 0 f x).length ≤ 20000 + (x.cs.flatMap f).length := by
 have h1 := ZgK hsz f x hx hv
 unfold Pr.main
 simp only [Za, Zbn, Sp.flat_cons, Sp.flat_nil]
 have z1 : (⟨#[109, 97, 105, 110, 32, 123]⟩ : ByteArray).size = 6 := rfl
 have z3 : (⟨#[125]⟩ : ByteArray).size = 1 := rfl
 omega
theorem ZiV (hsz : ∀ i, Pr.NK i → (num i).size ≤ 20) {m n : Nat} (f : Zap m n → List UInt8) (x : Tk.FT m n) (hx : Pr.fok x) (hv : x.vs.length ≤ 6) (hp : x.ps.length ≤ 3) (hn : x.nm.size ≤ 12) (hr : Zb9 Pr.NK x.re) : (Pr.func num 0 f x).length ≤ 20000 + (x.cs.flatMap f).length := by
 have h1 := ZgK hsz f x hx hv
 have h2 := ZbY hsz _ hr
 have h3 := Zeo x.ps 3 (fun t ht => Nat.le_trans (hx.ps.2 t ht) (by decide)) hp
 unfold Pr.func ZdF
 simp only [Za, Zbn, Sp.flat_cons, Sp.flat_nil]
 have z1 : (⟨#[102, 117, 110, 99, 32]⟩ : ByteArray).size = 5 := rfl
 have z2 : (⟨#[40]⟩ : ByteArray).size = 1 := rfl
 have z3 : (⟨#[125]⟩ : ByteArray).size = 1 := rfl
 have z4 : (⟨#[41, 32, 123]⟩ : ByteArray).size = 3 := rfl
 have z5 : (⟨#[114, 101, 116, 117, 114, 110, 32]⟩ : ByteArray).size = 7 := rfl
 have z6 : (⟨#[59]⟩ : ByteArray).size = 1 := rfl
 omega
theorem Zkm (hsz : ∀ i, Pr.NK i → (num i).size ≤ 20) {m n : Nat} : ∀ (l : List (Tk.FT m n)) (a : Int), 0 ≤ a → ZaN a l = false → ZaC l = true → ((Zim num l : Nat) : Int) ≤ 20000 * a + 20000 * (l.length : Int) := by
 intro l
 induction l with
 | nil => intro a h0 _ _; show (0 : Int) ≤ 20000 * a + 20000 * ((0 : Nat) : Int); omega
 | cons f r ih =>
  intro a h0 h hw
  have h : (decide (3 < f.ps.length) || decide (6 < f.vs.length) || decide (15 < Zab m f.re) || decide (Zae n 1 a f.cs < 0) || ZaN (Zae n 1 a f.cs) r) = false := h
  simp only [Bool.or_eq_false_iff, decide_eq_false_iff_not, Nat.not_lt, Int.not_lt] at h
  obtain ⟨⟨⟨⟨h1, h2⟩, h3⟩, h4⟩, h5⟩ := h
  have hw : (ZaR f r.isEmpty && ZaC r) = true := hw
  rw [Bool.and_eq_true] at hw
  have hcs : ∀ y ∈ f.cs, Zaf n y = true := by
   have := hw.1
   unfold ZaR at this
   simp only [Bool.and_eq_true] at this
   exact List.all_eq_true.1 this.1.2
  have e1 := ZiC hsz n 1 2 f.cs a hcs h4 (by omega)
  have e2 := ih _ h4 h5 hw.2
  have e3 : Zim num (f :: r) = 20000 + (f.cs.flatMap (Pr.cmd num n 2)).length + Zim num r := rfl
  rw [e3, Zo]
  omega
end
end Go.Proofs.YtfccpddehpgfoaaGreatDoor
