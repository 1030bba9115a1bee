/-
  Code as plain data; what is wrong with it; what a program is compiled to, and that nothing is wrong with that. By the verifier.
-/
import Derived.Test.YtpfogjplnodacaaPProg
import Derived.Test.YtpfogjplnodacaaPWc
import Derived.Test.YtpfogjplnodacaaPRv
namespace Go.Proofs.Ytpfogjplnodacaa
open Go.RowKit
set_option linter.unusedVariables false
structure Kd.I where
 k : Int
 a : Int
 b : Int
def Kd.inR (n f : Nat) (x : Kd.I) : Bool :=
 if x.k = 2 then !Pg.beyond x.a
 else if x.k = 10 ∨ x.k = 11 then decide (0 ≤ x.a ∧ x.a < (n : Int))
 else if x.k = 5 then decide (4 ≤ x.a ∧ x.a ≤ 10)
 else if x.k = 12 then decide (0 ≤ x.a ∧ x.a < (f : Int)) && decide (0 ≤ x.b ∧ x.b ≤ 3)
 else if x.k = 9 ∨ x.k = 13 ∨ x.k = 14 then true
 else decide (0 ≤ x.a)
def Kd.bare (x : Kd.I) : Bool := (decide (x.a = 0) || !decide (x.k = 9 ∨ x.k = 13 ∨ x.k = 14)) && (decide (x.b = 0) || decide (x.k = 12))
def Kd.ck (n f : Nat) (x : Kd.I) : Nat := if 1 ≤ x.k ∧ x.k ≤ 14 then (if Kd.inR n f x then (if Kd.bare x then 0 else 1) else 3) else 7
def Kd.noAt (n : Nat) (z : Int) : Bool := !decide (0 ≤ z ∧ z < (n : Int))
def Kd.chk (l : List Kd.I) (fs : List Int) (ss : List (List Int)) : Nat :=
 if 3000 < l.length then 2
 else if ss.length = 0 ∨ fs.length ≠ ss.length then 1
 else if fs.any (Kd.noAt l.length) || ss.any (fun s => s.any Pg.noSize) then 3
 else Pg.first (l.map (Kd.ck l.length fs.length))
def Kd.one (k n : Int) : Kd.I := if k = 1 then ⟨2, n, 0⟩ else if k = 2 then ⟨3, n, 0⟩ else if k = 3 then ⟨4, n, 0⟩ else ⟨5, k, 0⟩
def Kd.ex : (m : Nat) → Pg.XT m → List Kd.I
 | 0, _ => []
 | m + 1, x => x.2.flatMap (Kd.ex m) ++ [Kd.one x.1.1 x.1.2]
def Kd.exs {m : Nat} (l : List (Pg.XT m)) : List Kd.I := l.flatMap (Kd.ex m)
def Kd.walk {α : Type} (g : α → Nat → Nat → List Kd.I) (cn : α → Nat) : List α → Nat → Nat → List Kd.I
 | [], _, _ => []
 | c :: r, o, a => g c o a ++ Kd.walk g cn r (o + (g c o a).length) (a + cn c)
def Kd.rest {m j : Nat} (cs : List (Pg.CT m j) → Nat → Nat → List Kd.I) (c : Pg.CT m (j + 1)) (o a : Nat) : List Kd.I :=
 if c.1.1 = 1 then Kd.ex m c.2.1.2.1 ++ [⟨6, c.1.2.1, 0⟩]
 else if c.1.1 = 2 then Kd.ex m c.2.1.1 ++ (Kd.ex m c.2.1.2.1 ++ [⟨7, c.1.2.1, 0⟩])
 else if c.1.1 = 3 then Kd.exs c.2.1.2.2 ++ [⟨12, c.1.2.2, (c.2.1.2.2.length : Nat)⟩, ⟨6, c.1.2.1, 0⟩]
 else if c.1.1 = 4 then [⟨8, c.1.2.1, 0⟩]
 else if c.1.1 = 5 then Kd.ex m c.2.1.2.1 ++ [⟨9, 0, 0⟩]
 else
  let e := Kd.ex m c.2.1.2.1
  let t := cs c.2.2.1 (o + 1 + e.length + 1) (a + 1)
  let o2 := o + 1 + e.length + 1 + t.length + 1
  if c.1.1 = 6 then
   let l := cs c.2.2.2 o2 (a + 1 + Pg.cnts c.2.2.1)
   e ++ (⟨11, (o2 : Nat), 0⟩ :: (t ++ (⟨10, ((o2 + l.length : Nat) : Int), 0⟩ :: l)))
  else e ++ (⟨11, (o2 : Nat), 0⟩ :: (t ++ [⟨10, (o : Nat), 0⟩]))
def Kd.cmd {m j : Nat} (cs : List (Pg.CT m j) → Nat → Nat → List Kd.I) (c : Pg.CT m (j + 1)) (o a : Nat) : List Kd.I := ⟨1, (a : Nat), 0⟩ :: Kd.rest cs c o a
def Kd.cmds {m : Nat} : (j : Nat) → List (Pg.CT m j) → Nat → Nat → List Kd.I
 | 0, _, _, _ => []
 | j + 1, l, o, a => Kd.walk (Kd.cmd (Kd.cmds j)) (Pg.cnt (j + 1)) l o a
def Kd.fin {m n : Nat} (last : Bool) (x : Pg.FT m n) : List Kd.I := if last then [⟨14, 0, 0⟩] else Kd.ex m x.res ++ [⟨13, 0, 0⟩]
def Kd.fn {m n : Nat} (last : Bool) (x : Pg.FT m n) (o a : Nat) : List Kd.I := Kd.cmds n x.cmds o a ++ Kd.fin last x
def Kd.fns {m n : Nat} : List (Pg.FT m n) → Nat → Nat → List Kd.I
 | [], _, _ => []
 | x :: r, o, a => Kd.fn r.isEmpty x o a ++ Kd.fns r (o + (Kd.fn r.isEmpty x o a).length) (a + Pg.cnts x.cmds)
def Kd.firsts {m n : Nat} : List (Pg.FT m n) → Nat → Nat → List Int
 | [], _, _ => []
 | x :: r, o, a => (o : Nat) :: Kd.firsts r (o + (Kd.fn r.isEmpty x o a).length) (a + Pg.cnts x.cmds)
def Kd.ins {m n : Nat} (p : List (Pg.FT m n)) : List Kd.I := Kd.fns p 0 0
def Kd.fst {m n : Nat} (p : List (Pg.FT m n)) : List Int := Kd.firsts p 0 0
def Kd.szs {m n : Nat} (p : List (Pg.FT m n)) : List (List Int) := p.map fun x => x.sizes
theorem Kd.ex_len : ∀ (m : Nat) (x : Pg.XT m), (Kd.ex m x).length = Pg.parts m x
 | 0, x => Empty.elim x
 | m + 1, x => by
  show (x.2.flatMap (Kd.ex m) ++ [_]).length = 1 + (x.2.map (Pg.parts m)).sum
  rw [List.length_append, List.length_flatMap, show (fun a => (Kd.ex m a).length) = Pg.parts m from funext (Kd.ex_len m)]
  simp
  omega
def Kd.Ok (e f : Nat) (x : Kd.I) : Prop := Kd.ck (e + 1) f x = 0
theorem Kd.Ok.mono {e e' f : Nat} {x : Kd.I} (h : Kd.Ok e f x) (he : e ≤ e') : Kd.Ok e' f x := by
 unfold Kd.Ok Kd.ck at *
 split at h
 · rename_i h1
   rw [if_pos h1]
   split at h
   · rename_i h2
     have h3 : Kd.inR (e' + 1) f x = true := by
      unfold Kd.inR at *
      split at h2
      · rename_i a; rw [if_pos a]; exact h2
      rename_i a1
      rw [if_neg a1]
      split at h2
      · rename_i a; rw [if_pos a]
        have := of_decide_eq_true h2
        exact decide_eq_true (by omega)
      · rename_i a; rw [if_neg a]; exact h2
     rw [if_pos h3]
     exact h
   · cases h
 · cases h
theorem Kd.ok_a {e f : Nat} {k a : Int} (hk : k = 1 ∨ k = 3 ∨ k = 4 ∨ k = 6 ∨ k = 7 ∨ k = 8) (ha : 0 ≤ a) : Kd.Ok e f ⟨k, a, 0⟩ := by
 have h1 : Kd.inR (e + 1) f ⟨k, a, 0⟩ = true := by
  unfold Kd.inR
  rw [if_neg (show ¬ k = 2 by omega), if_neg (show ¬ (k = 10 ∨ k = 11) by omega), if_neg (show ¬ k = 5 by omega), if_neg (show ¬ k = 12 by omega), if_neg (show ¬ (k = 9 ∨ k = 13 ∨ k = 14) by omega)]
  exact decide_eq_true ha
 have h2 : Kd.bare ⟨k, a, 0⟩ = true := by
  unfold Kd.bare
  rw [show decide (k = 9 ∨ k = 13 ∨ k = 14) = false from decide_eq_false (by omega)]
  simp
 unfold Kd.Ok Kd.ck
 rw [if_pos (show 1 ≤ k ∧ k ≤ 14 by omega), if_pos h1, if_pos h2]
theorem Kd.ok_0 {e f : Nat} {k : Int} (hk : k = 9 ∨ k = 13 ∨ k = 14) : Kd.Ok e f ⟨k, 0, 0⟩ := by
 have h1 : Kd.inR (e + 1) f ⟨k, 0, 0⟩ = true := by
  unfold Kd.inR
  rw [if_neg (show ¬ k = 2 by omega), if_neg (show ¬ (k = 10 ∨ k = 11) by omega), if_neg (show ¬ k = 5 by omega), if_neg (show ¬ k = 12 by omega), if_pos (show (k = 9 ∨ k = 13 ∨ k = 14) by omega)]
 unfold Kd.Ok Kd.ck
 rw [if_pos (show 1 ≤ k ∧ k ≤ 14 by omega), if_pos h1, if_pos (show Kd.bare ⟨k, 0, 0⟩ = true by simp [Kd.bare])]
theorem Kd.ok_to {e f : Nat} {k : Int} {t : Nat} (hk : k = 10 ∨ k = 11) (ht : t ≤ e) : Kd.Ok e f ⟨k, (t : Nat), 0⟩ := by
 have h1 : Kd.inR (e + 1) f ⟨k, (t : Nat), 0⟩ = true := by
  unfold Kd.inR
  rw [if_neg (show ¬ k = 2 by omega), if_pos (show (k = 10 ∨ k = 11) from hk)]
  exact decide_eq_true (show (0 : Int) ≤ (t : Nat) ∧ ((t : Nat) : Int) < ((e + 1 : Nat) : Int) by omega)
 have h2 : Kd.bare ⟨k, (t : Nat), 0⟩ = true := by
  unfold Kd.bare
  rw [show decide (k = 9 ∨ k = 13 ∨ k = 14) = false from decide_eq_false (by omega)]
  simp
 unfold Kd.Ok Kd.ck
 rw [if_pos (show 1 ≤ k ∧ k ≤ 14 by omega), if_pos h1, if_pos h2]
theorem Kd.ok_one {e f : Nat} {sz : List Int} {k n : Int} {l : Nat} (h : Pg.wx1 sz k n l = 0) : Kd.Ok e f (Kd.one k n) := by
 unfold Pg.wx1 at h
 split at h
 · rename_i hk
   split at h
   · unfold Kd.one
     by_cases h1 : k = 1
     · rw [if_pos h1]
       rw [Pg.wx0_num h1] at h
       split at h
       · rename_i hn
         have hb : Pg.beyond n = false := decide_eq_false (by omega)
         have hr : Kd.inR (e + 1) f ⟨2, n, 0⟩ = true := by unfold Kd.inR; rw [if_pos rfl]; simp [hb]
         unfold Kd.Ok Kd.ck
         rw [if_pos (by show (1 : Int) ≤ 2 ∧ (2 : Int) ≤ 14; omega), if_pos hr, if_pos (show Kd.bare ⟨2, n, 0⟩ = true by simp [Kd.bare])]
       · cases h
     rw [if_neg h1]
     have hat : k = 2 ∨ k = 3 → 0 ≤ n := fun h2 => by
      cases hz : Pg.at? sz n with
      | none => rw [Pg.wx0_none h2 hz] at h; cases h
      | some z =>
       unfold Pg.at? at hz
       split at hz
       · assumption
       · cases hz
     by_cases h2 : k = 2
     · rw [if_pos h2]
       exact Kd.ok_a (by omega) (hat (.inl h2))
     rw [if_neg h2]
     by_cases h3 : k = 3
     · rw [if_pos h3]
       exact Kd.ok_a (by omega) (hat (.inr h3))
     rw [if_neg h3]
     have hr : Kd.inR (e + 1) f ⟨5, k, 0⟩ = true := by
      unfold Kd.inR
      rw [if_neg (by show ¬ (5 : Int) = 2; omega), if_neg (by show ¬ ((5 : Int) = 10 ∨ (5 : Int) = 11); omega), if_pos rfl]
      exact decide_eq_true (show 4 ≤ k ∧ k ≤ 10 by omega)
     unfold Kd.Ok Kd.ck
     rw [if_pos (by show (1 : Int) ≤ 5 ∧ (5 : Int) ≤ 14; omega), if_pos hr, if_pos (show Kd.bare ⟨5, k, 0⟩ = true by simp [Kd.bare])]
   · cases h
 · cases h
theorem Kd.ex_ok {e f : Nat} {sz : List Int} : ∀ (m : Nat) (x : Pg.XT m), Pg.wx sz m x = 0 → ∀ y ∈ Kd.ex m x, Kd.Ok e f y
 | 0, x, _ => Empty.elim x
 | m + 1, x, h => by
  obtain ⟨h1, h2⟩ := Pg.orW_zero (show Pg.orW (Pg.wx1 sz x.1.1 x.1.2 x.2.length) (Pg.first (x.2.map (Pg.wx sz m))) = 0 from h)
  intro y hy
  rcases List.mem_append.1 (show y ∈ x.2.flatMap (Kd.ex m) ++ [Kd.one x.1.1 x.1.2] from hy) with hy | hy
  · obtain ⟨z, hz, hy⟩ := List.mem_flatMap.1 hy
    exact Kd.ex_ok m z (Pg.first_zero h2 _ (List.mem_map_of_mem hz)) y hy
  · rw [List.mem_singleton.1 hy]
    exact Kd.ok_one h1
theorem Kd.chkX_of {sz : List Int} {m : Nat} {x : Pg.XT m} (h : Pg.chkX sz m x = 0) : Pg.parts m x ≤ 15 ∧ Pg.wx sz m x = 0 := by
 unfold Pg.chkX at h
 split at h
 · cases h
 · exact ⟨by omega, h⟩
theorem Kd.exs_ok {e f : Nat} {sz : List Int} {m : Nat} {l : List (Pg.XT m)} (h : Pg.first (l.map (Pg.chkX sz m)) = 0) : (∀ y ∈ Kd.exs l, Kd.Ok e f y) ∧ (Kd.exs l).length ≤ 15 * l.length := by
 have h1 : ∀ x ∈ l, Pg.chkX sz m x = 0 := fun x hx => Pg.first_zero h _ (List.mem_map_of_mem hx)
 refine ⟨fun y hy => ?_, ?_⟩
 · obtain ⟨z, hz, hy⟩ := List.mem_flatMap.1 hy
   exact Kd.ex_ok m z (Kd.chkX_of (h1 z hz)).2 y hy
 · clear h
   unfold Kd.exs
   induction l with
   | nil => exact Nat.le_refl _
   | cons x r ih =>
    rw [List.flatMap_cons, List.length_append, Kd.ex_len, List.length_cons]
    have h2 := (Kd.chkX_of (h1 x List.mem_cons_self)).1
    have h3 := ih (fun y hy => h1 y (List.mem_cons_of_mem _ hy))
    omega
section
variable {m n : Nat} {p : List (Pg.FT m n)}
def Kd.Fit (f : Nat) (o k : Nat) (l : List Kd.I) : Prop := (∀ y ∈ l, Kd.Ok (o + l.length) f y) ∧ l.length ≤ 48 * k
theorem Kd.walk_fit {α : Type} {f : Nat} {g : α → Nat → Nat → List Kd.I} {cn : α → Nat} : ∀ (l : List α) (o a : Nat), (∀ c ∈ l, ∀ o a, Kd.Fit f o (cn c) (g c o a)) → Kd.Fit f o ((l.map cn).sum) (Kd.walk g cn l o a)
 | [], o, a, _ => ⟨fun y hy => absurd hy (List.not_mem_nil), Nat.le_refl _⟩
 | c :: r, o, a, h => by
  obtain ⟨h1, h2⟩ := h c List.mem_cons_self o a
  obtain ⟨h3, h4⟩ := Kd.walk_fit r (o + (g c o a).length) (a + cn c) (fun d hd => h d (List.mem_cons_of_mem _ hd))
  refine ⟨fun y hy => ?_, ?_⟩
  · show Kd.Ok (o + (g c o a ++ Kd.walk g cn r _ _).length) f y
    rw [List.length_append]
    rcases List.mem_append.1 (show y ∈ g c o a ++ Kd.walk g cn r _ _ from hy) with hy | hy
    · exact (h1 y hy).mono (by omega)
    · exact (h3 y hy).mono (by omega)
  · show (g c o a ++ Kd.walk g cn r _ _).length ≤ 48 * ((c :: r).map cn).sum
    rw [List.length_append, List.map_cons, List.sum_cons]
    omega
theorem Kd.par_le (hok : ∀ (i : Nat) (x : Pg.FT m n), p[i]? = some x → Pg.wfn p i x = 0) {f : Int} (hf : 0 ≤ f) (hl : f < (p.length : Int)) : 0 ≤ Pg.parOf p f ∧ Pg.parOf p f ≤ 3 := by
 obtain ⟨x, hx⟩ : ∃ x, p[f.toNat]? = some x := ⟨_, List.getElem?_eq_getElem (by omega)⟩
 obtain ⟨h1, _⟩ := Pg.orW_zero (show Pg.orW _ (Pg.orW _ _) = 0 from hok _ x hx)
 unfold Pg.parOf
 rw [hx]
 show 0 ≤ x.params ∧ x.params ≤ 3
 unfold Pg.whead at h1
 split at h1
 · cases h1
 split at h1
 · cases h1
 omega
theorem Kd.cmd_fit (hok : ∀ (i : Nat) (x : Pg.FT m n), p[i]? = some x → Pg.wfn p i x = 0) {now : Nat} {x : Pg.FT m n} {j : Nat} {cs : List (Pg.CT m j) → Nat → Nat → List Kd.I} (c : Pg.CT m (j + 1)) (hw : Pg.wcm p now x c = 0)
  (ht : ∀ o a, Kd.Fit p.length o (Pg.cnts c.2.2.1) (cs c.2.2.1 o a)) (he : ∀ o a, Kd.Fit p.length o (Pg.cnts c.2.2.2) (cs c.2.2.2 o a)) (o a : Nat) : Kd.Fit p.length o (Pg.cnt (j + 1) c) (Kd.cmd cs c o a) := by
 obtain ⟨hkr, hva, hmy, hwi, hwe, hwa⟩ := Xr.wc_ok (show Pg.wc c.1.1 (Pg.at? x.sizes c.1.2.1) _ _ _ (Pg.chkX x.sizes m c.2.1.1) (Pg.chkX x.sizes m c.2.1.2.1) _ = 0 from hw)
 have hcn : Pg.cnt (j + 1) c = 1 + Pg.cnts c.2.2.1 + Pg.cnts c.2.2.2 := rfl
 have hv : c.1.1 ≤ 4 → 0 ≤ c.1.2.1 := fun h => by
  obtain ⟨z, hz⟩ := hva h
  unfold Pg.at? at hz
  split at hz
  · assumption
  · cases hz
 have hs : ∀ e, Kd.Ok e p.length ⟨1, (a : Nat), 0⟩ := fun e => Kd.ok_a (.inl rfl) (by omega)
 have cons : ∀ (l : List Kd.I) (y : Kd.I), y ∈ (⟨1, (a : Nat), 0⟩ :: l : List Kd.I) → (∀ z ∈ l, Kd.Ok (o + (l.length + 1)) p.length z) → Kd.Ok (o + (⟨1, (a : Nat), 0⟩ :: l : List Kd.I).length) p.length y := fun l y hy hl => by
  rw [List.length_cons]
  rcases List.mem_cons.1 hy with rfl | hy
  · exact hs _
  · exact hl y hy
 have X : ∀ e, c.1.1 ≠ 3 → c.1.1 ≠ 4 → (∀ y ∈ Kd.ex m c.2.1.2.1, Kd.Ok e p.length y) ∧ (Kd.ex m c.2.1.2.1).length ≤ 15 := fun e h3 h4 => by
  obtain ⟨h1, h2⟩ := Kd.chkX_of (hwe h3 h4)
  exact ⟨Kd.ex_ok m _ h2, by rw [Kd.ex_len]; exact h1⟩
 unfold Kd.cmd Kd.rest
 by_cases k1 : c.1.1 = 1
 · rw [if_pos k1]
   obtain ⟨_, l1⟩ := X 0 (by omega) (by omega)
   refine ⟨fun y hy => cons _ y hy (fun z hz => ?_), by rw [List.length_cons, List.length_append, hcn]; simp; omega⟩
   rcases List.mem_append.1 hz with hz | hz
   · exact (X _ (by omega) (by omega)).1 z hz
   · rw [List.mem_singleton.1 hz]; exact Kd.ok_a (by omega) (hv (by omega))
 rw [if_neg k1]
 by_cases k2 : c.1.1 = 2
 · rw [if_pos k2]
   obtain ⟨_, l1⟩ := X 0 (by omega) (by omega)
   obtain ⟨l2, w2⟩ := Kd.chkX_of (hwi k2)
   refine ⟨fun y hy => cons _ y hy (fun z hz => ?_), by rw [List.length_cons, List.length_append, List.length_append, hcn, Kd.ex_len m c.2.1.1]; simp; omega⟩
   rcases List.mem_append.1 hz with hz | hz
   · exact Kd.ex_ok m _ w2 z hz
   rcases List.mem_append.1 hz with hz | hz
   · exact (X _ (by omega) (by omega)).1 z hz
   · rw [List.mem_singleton.1 hz]; exact Kd.ok_a (by omega) (hv (by omega))
 rw [if_neg k2]
 by_cases k3 : c.1.1 = 3
 · rw [if_pos k3]
   obtain ⟨hm, hp⟩ := hmy k3
   obtain ⟨f0, f1, f2⟩ := of_decide_eq_true (show decide (0 ≤ c.1.2.2 ∧ c.1.2.2 ≤ (now : Int) ∧ c.1.2.2 < (p.length : Int) - 1) = true from hm)
   have hpa := of_decide_eq_true hp
   have hpl := Kd.par_le hok f0 (by omega)
   have hal : c.2.1.2.2.length ≤ 3 := by omega
   refine ⟨fun y hy => cons _ y hy (fun z hz => ?_), ?_⟩
   · rcases List.mem_append.1 hz with hz | hz
     · exact (Kd.exs_ok hwa).1 z hz
     rcases List.mem_cons.1 hz with rfl | hz
     · have hr : ∀ e, Kd.inR (e + 1) p.length ⟨12, c.1.2.2, (c.2.1.2.2.length : Nat)⟩ = true := fun e => by
        unfold Kd.inR
        rw [if_neg (by show ¬ (12 : Int) = 2; omega), if_neg (by show ¬ ((12 : Int) = 10 ∨ (12 : Int) = 11); omega), if_neg (by show ¬ (12 : Int) = 5; omega), if_pos rfl]
        rw [Bool.and_eq_true, decide_eq_true_eq, decide_eq_true_eq]
        exact ⟨⟨f0, by show c.1.2.2 < _; omega⟩, by show (0 : Int) ≤ (c.2.1.2.2.length : Nat) ∧ ((c.2.1.2.2.length : Nat) : Int) ≤ 3; omega⟩
       unfold Kd.Ok Kd.ck
       rw [if_pos (by show (1 : Int) ≤ 12 ∧ (12 : Int) ≤ 14; omega), if_pos (hr _), if_pos (by simp [Kd.bare])]
     · rw [List.mem_singleton.1 hz]; exact Kd.ok_a (by omega) (hv (by omega))
   · have h5 := (Kd.exs_ok (e := 0) (f := 0) hwa).2
     rw [List.length_cons, List.length_append, hcn]
     simp
     omega
 rw [if_neg k3]
 by_cases k4 : c.1.1 = 4
 · rw [if_pos k4]
   refine ⟨fun y hy => cons _ y hy (fun z hz => ?_), by rw [hcn]; simp; omega⟩
   rw [List.mem_singleton.1 hz]; exact Kd.ok_a (by omega) (hv (by omega))
 rw [if_neg k4]
 by_cases k5 : c.1.1 = 5
 · rw [if_pos k5]
   obtain ⟨_, l1⟩ := X 0 (by omega) (by omega)
   refine ⟨fun y hy => cons _ y hy (fun z hz => ?_), by rw [List.length_cons, List.length_append, hcn]; simp; omega⟩
   rcases List.mem_append.1 hz with hz | hz
   · exact (X _ (by omega) (by omega)).1 z hz
   · rw [List.mem_singleton.1 hz]; exact Kd.ok_0 (.inl rfl)
 rw [if_neg k5]
 obtain ⟨_, l1⟩ := X 0 (by omega) (by omega)
 obtain ⟨t1, t2⟩ := ht (o + 1 + (Kd.ex m c.2.1.2.1).length + 1) (a + 1)
 dsimp only
 generalize hT : cs c.2.2.1 (o + 1 + (Kd.ex m c.2.1.2.1).length + 1) (a + 1) = T at *
 by_cases k6 : c.1.1 = 6
 · rw [if_pos k6]
   obtain ⟨e1, e2⟩ := he (o + 1 + (Kd.ex m c.2.1.2.1).length + 1 + T.length + 1) (a + 1 + Pg.cnts c.2.2.1)
   generalize hL : cs c.2.2.2 (o + 1 + (Kd.ex m c.2.1.2.1).length + 1 + T.length + 1) (a + 1 + Pg.cnts c.2.2.1) = L at *
   refine ⟨fun y hy => cons _ y hy (fun z hz => ?_), ?_⟩
   · rcases List.mem_append.1 hz with hz | hz
     · exact (X _ (by omega) (by omega)).1 z hz
     rw [List.length_append, List.length_cons, List.length_append, List.length_cons]
     rcases List.mem_cons.1 hz with rfl | hz
     · exact Kd.ok_to (.inr rfl) (by omega)
     rcases List.mem_append.1 hz with hz | hz
     · exact (t1 z hz).mono (by omega)
     rcases List.mem_cons.1 hz with rfl | hz
     · exact Kd.ok_to (.inl rfl) (by omega)
     · exact (e1 z hz).mono (by omega)
   · rw [List.length_cons, List.length_append, List.length_cons, List.length_append, List.length_cons, hcn]
     omega
 · rw [if_neg k6]
   refine ⟨fun y hy => cons _ y hy (fun z hz => ?_), ?_⟩
   · rcases List.mem_append.1 hz with hz | hz
     · exact (X _ (by omega) (by omega)).1 z hz
     rw [List.length_append, List.length_cons, List.length_append]
     rcases List.mem_cons.1 hz with rfl | hz
     · exact Kd.ok_to (.inr rfl) (by simp; omega)
     rcases List.mem_append.1 hz with hz | hz
     · exact (t1 z hz).mono (by simp; omega)
     · rw [List.mem_singleton.1 hz]
       exact Kd.ok_to (.inl rfl) (by omega)
   · rw [List.length_cons, List.length_append, List.length_cons, List.length_append, hcn]
     simp
     omega
theorem Kd.cmds_fit (hok : ∀ (i : Nat) (x : Pg.FT m n), p[i]? = some x → Pg.wfn p i x = 0) {now : Nat} {x : Pg.FT m n} : ∀ (j : Nat) (l : List (Pg.CT m j)) (o a : Nat), Pg.wcs p now x j l = 0 → Kd.Fit p.length o (Pg.cnts l) (Kd.cmds j l o a)
 | 0, l, o, a, _ => by
  cases l with
  | nil => exact ⟨fun y hy => absurd hy (List.not_mem_nil), Nat.le_refl _⟩
  | cons c r => exact Empty.elim c
 | j + 1, l, o, a, h => by
  refine Kd.walk_fit l o a (fun c hc o a => ?_)
  have h1 := Pg.first_zero (show Pg.first (l.map fun y => Pg.orW (Pg.wcm p now x y) (Pg.orW (Pg.wcs p now x j y.2.2.1) (Pg.wcs p now x j y.2.2.2))) = 0 from h) _ (List.mem_map_of_mem hc)
  obtain ⟨h2, h3⟩ := Pg.orW_zero h1
  obtain ⟨h4, h5⟩ := Pg.orW_zero h3
  exact Kd.cmd_fit hok c h2 (fun o a => Kd.cmds_fit hok j _ o a h4) (fun o a => Kd.cmds_fit hok j _ o a h5) o a
theorem Kd.fn_fit (hok : ∀ (i : Nat) (x : Pg.FT m n), p[i]? = some x → Pg.wfn p i x = 0) {q : Nat} {x : Pg.FT m n} (hx : p[q]? = some x) (o a : Nat) : (∀ y ∈ Kd.fn (decide (q + 1 = p.length)) x o a, Kd.Ok (o + (Kd.fn (decide (q + 1 = p.length)) x o a).length - 1) p.length y) ∧ (Kd.fn (decide (q + 1 = p.length)) x o a).length ≤ 48 * Pg.cnts x.cmds + 16 ∧ 1 ≤ (Kd.fn (decide (q + 1 = p.length)) x o a).length := by
 obtain ⟨h1, h2⟩ := Pg.orW_zero (show Pg.orW _ (Pg.orW _ _) = 0 from hok q x hx)
 obtain ⟨h3, h4⟩ := Pg.orW_zero h2
 obtain ⟨c1, c2⟩ := Kd.cmds_fit hok n x.cmds o a h3
 have hf : (∀ e, ∀ y ∈ Kd.fin (decide (q + 1 = p.length)) x, Kd.Ok e p.length y) ∧ (Kd.fin (decide (q + 1 = p.length)) x).length ≤ 16 ∧ 1 ≤ (Kd.fin (decide (q + 1 = p.length)) x).length := by
  unfold Kd.fin
  unfold Pg.wres at h4
  cases hl : decide (q + 1 = p.length) with
  | true =>
   simp only [if_true]
   exact ⟨fun e y hy => by rw [List.mem_singleton.1 hy]; exact Kd.ok_0 (.inr (.inr rfl)), by simp, by simp⟩
  | false =>
   rw [hl] at h4
   simp only [Bool.false_eq_true, if_false] at h4 ⊢
   obtain ⟨l1, w1⟩ := Kd.chkX_of h4
   refine ⟨fun e y hy => ?_, ?_, ?_⟩
   · rcases List.mem_append.1 hy with hy | hy
     · exact Kd.ex_ok m _ w1 y hy
     · rw [List.mem_singleton.1 hy]; exact Kd.ok_0 (.inr (.inl rfl))
   · rw [List.length_append, Kd.ex_len]; simp; omega
   · rw [List.length_append]; simp
 obtain ⟨f1, f2, f3⟩ := hf
 unfold Kd.fn
 rw [List.length_append]
 refine ⟨fun y hy => ?_, by omega, by omega⟩
 rcases List.mem_append.1 hy with hy | hy
 · exact (c1 y hy).mono (by omega)
 · exact f1 _ y hy
theorem Kd.fns_fit (hok : ∀ (i : Nat) (x : Pg.FT m n), p[i]? = some x → Pg.wfn p i x = 0) : ∀ (r : List (Pg.FT m n)) (q o a : Nat), p.drop q = r → (∀ y ∈ Kd.fns r o a, Kd.Ok (o + (Kd.fns r o a).length - 1) p.length y) ∧ (Kd.fns r o a).length ≤ 48 * (r.map fun f => Pg.cnts f.cmds).sum + 16 * r.length ∧ r.length ≤ (Kd.fns r o a).length ∧ (Kd.firsts r o a).length = r.length ∧ ∀ z ∈ Kd.firsts r o a, 0 ≤ z ∧ z < ((o + (Kd.fns r o a).length : Nat) : Int)
 | [], q, o, a, _ => ⟨fun y hy => absurd hy (List.not_mem_nil), Nat.le_refl _, Nat.le_refl _, rfl, fun z hz => absurd hz (List.not_mem_nil)⟩
 | x :: r, q, o, a, hr => by
  have hx : p[q]? = some x := by
   have := congrArg (fun l => l[0]?) hr
   simpa using this
  have hd : p.drop (q + 1) = r := by
   rw [← List.drop_drop, hr]
   rfl
  have hl : r.isEmpty = decide (q + 1 = p.length) := by
   have hlen := congrArg List.length hd
   rw [List.length_drop] at hlen
   have hlt := (List.getElem?_eq_some_iff.1 hx).1
   cases r with
   | nil => exact (decide_eq_true (by simp at hlen; omega)).symm
   | cons y s => exact (decide_eq_false (by simp at hlen; omega)).symm
  obtain ⟨h1, h2, h3⟩ := Kd.fn_fit hok hx o a
  rw [← hl] at h1 h2 h3
  obtain ⟨g1, g2, g3, g4, g5⟩ := Kd.fns_fit hok r (q + 1) (o + (Kd.fn r.isEmpty x o a).length) (a + Pg.cnts x.cmds) hd
  have he : Kd.fns (x :: r) o a = Kd.fn r.isEmpty x o a ++ Kd.fns r (o + (Kd.fn r.isEmpty x o a).length) (a + Pg.cnts x.cmds) := rfl
  have he2 : Kd.firsts (x :: r) o a = ((o : Nat) : Int) :: Kd.firsts r (o + (Kd.fn r.isEmpty x o a).length) (a + Pg.cnts x.cmds) := rfl
  rw [he, he2]
  rw [List.length_append, List.map_cons, List.sum_cons, List.length_cons, List.length_cons]
  refine ⟨fun y hy => ?_, by omega, by omega, by omega, fun z hz => ?_⟩
  · rcases List.mem_append.1 hy with hy | hy
    · exact (h1 y hy).mono (by omega)
    · exact (g1 y hy).mono (by omega)
  · rcases List.mem_cons.1 hz with rfl | hz
    · omega
    · have := g5 z hz
      omega
theorem Kd.compiled (hc : Pg.chkP p = 0) : Kd.chk (Kd.ins p) (Kd.fst p) (Kd.szs p) = 0 ∧ (Kd.ins p).length ≤ 3000 := by
 have hc2 := hc
 unfold Pg.chkP at hc
 split at hc
 · cases hc
 rename_i h1
 split at hc
 · cases hc
 rename_i h2
 split at hc
 · cases hc
 rename_i h3
 have hok : ∀ (i : Nat) (x : Pg.FT m n), p[i]? = some x → Pg.wfn p i x = 0 := fun i x hx => Pg.first_zero hc _ (by
  unfold Pg.wfns
  exact List.mem_iff_getElem?.2 ⟨i, by rw [List.getElem?_mapIdx, hx]; rfl⟩)
 have hcn : (p.map (fun f => Pg.cnts f.cmds)).sum ≤ 40 := by
  unfold Pg.manyP at h3
  rw [Bool.or_eq_true, not_or] at h3
  have := h3.1
  simp at this
  exact this
 obtain ⟨g1, g2, g3, g4, g5⟩ := Kd.fns_fit hok p 0 0 0 rfl
 have hlen : (Kd.ins p).length ≤ 3000 := by show (Kd.fns p 0 0).length ≤ 3000; omega
 refine ⟨?_, hlen⟩
 unfold Kd.chk
 rw [if_neg (by omega), if_neg (by unfold Kd.szs Kd.fst; rw [List.length_map, g4]; omega)]
 have a1 : (Kd.fst p).any (Kd.noAt (Kd.ins p).length) = false := by
  rw [List.any_eq_false]
  intro z hz
  have := g5 z hz
  unfold Kd.noAt
  rw [decide_eq_true (show 0 ≤ z ∧ z < ((Kd.ins p).length : Int) by show 0 ≤ z ∧ z < ((Kd.fns p 0 0).length : Int); omega)]
  simp
 have a2 : (Kd.szs p).any (fun s => s.any Pg.noSize) = false := by
  rw [List.any_eq_false]
  intro s hs
  obtain ⟨x, hx, rfl⟩ := List.mem_map.1 hs
  obtain ⟨i, hi⟩ := List.getElem?_of_mem hx
  obtain ⟨w1, _⟩ := Pg.orW_zero (show Pg.orW _ (Pg.orW _ _) = 0 from hok i x hi)
  unfold Pg.whead at w1
  split at w1
  · cases w1
  split at w1
  · cases w1
  split at w1
  · cases w1
  assumption
 rw [a1, a2]
 simp only [Bool.or_self, Bool.false_eq_true, if_false]
 have a3 : ∀ (l : List Nat), (∀ y ∈ l, y = 0) → Pg.first l = 0 := fun l => by
  induction l with
  | nil => exact fun _ => rfl
  | cons b r ih => exact fun h => by unfold Pg.first; rw [if_pos (h b List.mem_cons_self)]; exact ih (fun y hy => h y (List.mem_cons_of_mem _ hy))
 refine a3 _ (fun y hy => ?_)
 obtain ⟨x, hx, rfl⟩ := List.mem_map.1 hy
 have h5 := g1 x hx
 have hf : (Kd.fst p).length = p.length := g4
 rw [hf]
 have h6 : Kd.ck (0 + (Kd.fns p 0 0).length - 1 + 1) p.length x = 0 := h5
 rw [show 0 + (Kd.fns p 0 0).length - 1 + 1 = (Kd.ins p).length by show _ = (Kd.fns p 0 0).length; omega] at h6
 exact h6
end
end Go.Proofs.Ytpfogjplnodacaa
