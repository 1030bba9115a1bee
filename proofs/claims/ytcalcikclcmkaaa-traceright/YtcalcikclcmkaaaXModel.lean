/-
  A run of a program as plain functions: commands, loops, calls; what is right with commands that pass. By the verifier.
-/
import Derived.Test.YtcalcikclcmkaaaXNw
import Derived.Test.YtcalcikclcmkaaaPProg
import Derived.Test.YtcalcikclcmkaaaPForm
namespace Go.Proofs.Ytcalcikclcmkaaa
open Go.RowKit
set_option linter.unusedVariables false
abbrev Xr.T : Type := Xr.S × Xr.F
def Xr.loop {m : Nat} (body : Xr.S → Xr.F → Xr.T) (ex : Pg.XT m) (a : Int) : Nat → Xr.S → Xr.F → Xr.T
 | 0, s, f => (s, f)
 | k + 1, s, f => if Xr.valV s f ex = 0 then (Xr.valS s f ex, f) else Xr.loop body ex a k (Xr.stepS (body (Xr.valS s f ex) f).1 (body (Xr.valS s f ex) f).2 a) (Xr.stepF (body (Xr.valS s f ex) f).1 (body (Xr.valS s f ex) f).2 a)
def Xr.cmdT {m j : Nat} (hc : Xr.S → Xr.F → Int → Int → List (Pg.XT m) → Xr.T) (cs : List (Pg.CT m j) → Nat → Xr.S → Xr.F → Xr.T) (c : Pg.CT m (j + 1)) (a : Nat) (s : Xr.S) (f : Xr.F) : Xr.T :=
 if c.1.1 = 1 then (Xr.wrS (Xr.valS s f c.2.1.2.1) f f.at_ c.1.2.1 0 (Xr.valV s f c.2.1.2.1), Xr.wrF f c.1.2.1 0 (Xr.valV s f c.2.1.2.1))
 else if c.1.1 = 2 then (Xr.putS s f c.1.2.1 c.2.1.1 c.2.1.2.1, Xr.putF s f c.1.2.1 c.2.1.1 c.2.1.2.1)
 else if c.1.1 = 3 then hc s f c.1.2.1 c.1.2.2 c.2.1.2.2
 else if c.1.1 = 4 then (Xr.readS s f c.1.2.1, Xr.readF s f c.1.2.1)
 else if c.1.1 = 5 then (Xr.tell (Xr.valS s f c.2.1.2.1) ⟨4, f.num, f.at_, 0, 0, Xr.valV s f c.2.1.2.1⟩, f)
 else if c.1.1 = 6 then (if Xr.valV s f c.2.1.2.1 ≠ 0 then cs c.2.2.1 (a + 1) (Xr.valS s f c.2.1.2.1) f else cs c.2.2.2 (a + 1 + Pg.cnts c.2.2.1) (Xr.valS s f c.2.1.2.1) f)
 else Xr.loop (cs c.2.2.1 (a + 1)) c.2.1.2.1 a (s.fuel + 2) s f
def Xr.cmd {m j : Nat} (hc : Xr.S → Xr.F → Int → Int → List (Pg.XT m) → Xr.T) (cs : List (Pg.CT m j) → Nat → Xr.S → Xr.F → Xr.T) (c : Pg.CT m (j + 1)) (a : Nat) (s : Xr.S) (f : Xr.F) : Xr.T :=
 Xr.cmdT hc cs c a (Xr.stepS s f a) (Xr.stepF s f a)
def Xr.walk {α : Type} (g : α → Nat → Xr.S → Xr.F → Xr.T) (cn : α → Nat) : List α → Nat → Xr.S → Xr.F → Xr.T
 | [], _, s, f => (s, f)
 | c :: r, a, s, f => if s.ended then (s, f) else Xr.walk g cn r (a + cn c) (g c a s f).1 (g c a s f).2
def Xr.cmds {m : Nat} (hc : Xr.S → Xr.F → Int → Int → List (Pg.XT m) → Xr.T) : (j : Nat) → List (Pg.CT m j) → Nat → Xr.S → Xr.F → Xr.T
 | 0, _, _, s, f => (s, f)
 | j + 1, l, a, s, f => Xr.walk (Xr.cmd hc (Xr.cmds hc j)) (Pg.cnt (j + 1)) l a s f
def Xr.argS {m : Nat} (f : Xr.F) : List (Pg.XT m) → Xr.S → Xr.S
 | [], s => s
 | x :: r, s => Xr.argS f r (Xr.valS s f x)
def Xr.argV {m : Nat} (f : Xr.F) : List (Pg.XT m) → Xr.S → List Int
 | [], _ => []
 | x :: r, s => Xr.valV s f x :: Xr.argV f r (Xr.valS s f x)
def Xr.parS (g : Xr.F) (a : Int) : Nat → List Int → Xr.S → Xr.S
 | _, [], s => s
 | i, z :: r, s => Xr.parS g a (i + 1) r (Xr.wrS s g a (i : Nat) 0 z)
def Xr.parF : Nat → List Int → Xr.F → Xr.F
 | _, [], g => g
 | i, z :: r, g => Xr.parF (i + 1) r (Xr.wrF g (i : Nat) 0 z)
def Xr.firstOf {m n : Nat} (p : List (Pg.FT m n)) (q : Nat) : Nat := Pg.sumTo (fun x => Pg.cnts x.cmds) p q
def Xr.fn {m n : Nat} (p : List (Pg.FT m n)) (hc : Xr.S → Xr.F → Int → Int → List (Pg.XT m) → Xr.T) (q : Nat) (s : Xr.S) (g : Xr.F) : Xr.T :=
 match p[q]? with
 | none => (s, g)
 | some x => Xr.cmds hc n x.cmds (Xr.firstOf p q) s g
def Xr.callB {m n : Nat} (p : List (Pg.FT m n)) (hc : Xr.S → Xr.F → Int → Int → List (Pg.XT m) → Xr.T) (x : Pg.FT m n) (q : Nat) (zs : List Int) (v : Int) (s : Xr.S) (f : Xr.F) : Xr.T :=
 let s2 : Xr.S := { s with made := s.made + 1 }
 let g := Xr.newF s2.made (f.deep + 1) x.sizes
 let s3 := Xr.tell s2 ⟨5, f.num, f.at_, (q : Nat), 0, g.num⟩
 let t := Xr.fn p hc q (Xr.parS g f.at_ 0 zs s3) (Xr.parF 0 zs g)
 let z := Xr.valV t.1 t.2 x.res
 let s6 := Xr.tell (Xr.valS t.1 t.2 x.res) ⟨6, t.2.num, f.at_, 0, 0, z⟩
 (Xr.wrS s6 f f.at_ v 0 z, Xr.wrF f v 0 z)
def Xr.call {m n : Nat} (p : List (Pg.FT m n)) : Nat → Xr.S → Xr.F → Int → Int → List (Pg.XT m) → Xr.T
 | 0, s, f, _, _, l => (Xr.fin (Xr.argS f l s) f f.at_ 4, f)
 | d + 1, s, f, v, q, l =>
  match p[q.toNat]? with
  | none => (s, f)
  | some x => Xr.callB p (Xr.call p d) x q.toNat (Xr.argV f l s) v (Xr.argS f l s) f
def Xr.main {m n : Nat} (p : List (Pg.FT m n)) (inp : List Int) (fuel : Nat) : List Ev :=
 match p[p.length - 1]? with
 | none => []
 | some x =>
  let t := Xr.fn p (Xr.call p 5) (p.length - 1) ⟨inp, fuel, 0, [], false⟩ (Xr.newF 0 0 x.sizes)
  (Xr.fin t.1 t.2 (-1) 0).evs
structure Xr.Sh (vs : List (List Int)) (sz : List Int) : Prop where
 len : vs.length = sz.length
 pos : ∀ (i : Nat) (l : List Int), vs[i]? = some l → 0 < l.length
theorem Xr.Sh.upd {vs : List (List Int)} {sz : List Int} (h : Xr.Sh vs sz) (v i : Nat) (z : Int) : Xr.Sh (Xr.upd vs v i z) sz := by
 refine ⟨by rw [Xr.upd_len]; exact h.len, fun k l hk => ?_⟩
 cases hv : vs[v]? with
 | none =>
  have : Xr.upd vs v i z = vs := by unfold Xr.upd; exact List.set_eq_of_length_le (List.getElem?_eq_none_iff.1 hv)
  rw [this] at hk
  exact h.pos k l hk
 | some l0 =>
  rw [Xr.upd_at hv] at hk
  split at hk
  · cases hk
    rw [List.length_set]
    exact h.pos v l0 hv
  · exact h.pos k l hk
theorem Xr.Sh.new (num deep : Nat) (sz : List Int) : Xr.Sh (Xr.newF num deep sz).vs sz := by
 refine ⟨by show (sz.map _).length = _; rw [List.length_map], fun i l hl => ?_⟩
 have hl2 : (sz.map fun n => List.replicate (max n 1).toNat (0 : Int))[i]? = some l := hl
 rw [List.getElem?_map] at hl2
 cases hz : sz[i]? with
 | none => rw [hz] at hl2; cases hl2
 | some z =>
  rw [hz] at hl2
  have : l = List.replicate (max z 1).toNat 0 := by simpa using hl2.symm
  rw [this, List.length_replicate]
  omega
theorem Xr.Sh.var {vs : List (List Int)} {sz : List Int} (h : Xr.Sh vs sz) {v z : Int} (hv : Pg.at? sz v = some z) : ∃ (i : Nat) (l : List Int), v = i ∧ vs[i]? = some l ∧ 0 < l.length ∧ sz[i]? = some z := by
 unfold Pg.at? at hv
 split at hv
 · obtain ⟨i, rfl⟩ : ∃ i : Nat, v = i := ⟨v.toNat, by omega⟩
   rw [Int.toNat_natCast] at hv
   have hlt : i < vs.length := by rw [h.len]; exact (List.getElem?_eq_some_iff.1 hv).1
   exact ⟨i, vs[i], rfl, List.getElem?_eq_getElem hlt, h.pos i _ (List.getElem?_eq_getElem hlt), hv⟩
 · cases hv
theorem Xr.Sh.ok {vs : List (List Int)} {sz : List Int} (h : Xr.Sh vs sz) : ∀ (n : Nat) (x : Pg.XT (n + 1)), Pg.wx sz (n + 1) x = 0 → Pg.okV vs (n + 1) x := by
 have top : ∀ (n : Nat) (x : Pg.XT (n + 1)), Pg.wx1 sz x.1.1 x.1.2 x.2.length = 0 → (∀ y ∈ x.2, Pg.okV vs n y) → Pg.okV vs (n + 1) x := by
  intro n x hx hs
  unfold Pg.wx1 at hx
  split at hx
  · rename_i hK
    split at hx
    · rename_i hA
      have key : (x.1.1 = 2 ∨ x.1.1 = 3) → ∃ l, Pg.var? vs x.1.2 = some l ∧ l ≠ [] := fun h2 => by
       cases hv : Pg.at? sz x.1.2 with
       | none => rw [Pg.wx0_none h2 hv] at hx; cases hx
       | some z =>
        obtain ⟨i, l, e1, e2, e3, _⟩ := h.var hv
        refine ⟨l, ?_, fun e => by rw [e] at e3; exact absurd e3 (by simp)⟩
        unfold Pg.var?
        rw [if_pos (by omega), e1, Int.toNat_natCast, e2]
      exact ⟨hK, hA, fun h2 => key (.inl h2), fun h3 => by obtain ⟨l, e, _⟩ := key (.inr h3); exact ⟨l, e⟩, hs⟩
    · cases hx
  · cases hx
 intro n
 induction n with
 | zero => intro x hx; exact top 0 x (Pg.orW_zero (show Pg.orW _ _ = 0 from hx)).1 (fun y _ => Empty.elim y)
 | succ n ih =>
  intro x hx
  obtain ⟨h1, h2⟩ := Pg.orW_zero (show Pg.orW (Pg.wx1 sz x.1.1 x.1.2 x.2.length) (Pg.first (x.2.map (Pg.wx sz (n + 1)))) = 0 from hx)
  exact top (n + 1) x h1 (fun y hy => ih y (Pg.first_zero h2 _ (List.mem_map_of_mem hy)))
theorem Xr.Sh.okX {vs : List (List Int)} {sz : List Int} (h : Xr.Sh vs sz) {w : World} {n : Nat} {e : Pg.E} {x : Pg.XT n} (hr : Pg.RX w n e x) (hx : Pg.chkX sz n x = 0) : Pg.okV vs n x := by
 cases n with
 | zero => exact absurd hr id
 | succ n =>
  refine h.ok n x ?_
  unfold Pg.chkX at hx
  split at hx
  · cases hx
  · exact hx
theorem Xr.wc_ok {k : Int} {va : Option Int} {my mo pa : Bool} {wi we wa : Nat} (h : Pg.wc k va my mo pa wi we wa = 0) : (1 ≤ k ∧ k ≤ 7) ∧ (k ≤ 4 → ∃ z, va = some z) ∧ (k = 3 → my = true ∧ pa = true) ∧ (k = 2 → wi = 0) ∧ (k ≠ 3 → k ≠ 4 → we = 0) ∧ wa = 0 := by
 unfold Pg.wc at h
 split at h
 · cases h
 rename_i h1
 split at h
 · cases h
 rename_i h2
 split at h
 · cases h
 rename_i h3
 split at h
 · cases h
 split at h
 · cases h
 split at h
 · cases h
 rename_i h6
 obtain ⟨a1, a2⟩ := Pg.orW_zero h
 obtain ⟨a3, a4⟩ := Pg.orW_zero a2
 refine ⟨Decidable.of_not_not h1, fun hk => ?_, fun hk => ⟨?_, ?_⟩, fun hk => by rw [if_pos hk] at a1; exact a1, fun h3 h4 => by rw [if_neg (by omega)] at a3; exact a3, a4⟩
 · cases va with
   | none => exact absurd ⟨hk, rfl⟩ h2
   | some z => exact ⟨z, rfl⟩
 · cases my with
   | false => exact absurd ⟨hk, rfl⟩ h3
   | true => rfl
 · cases pa with
   | false => exact absurd ⟨hk, rfl⟩ h6
   | true => rfl
theorem Xr.wcs_ok {m n j : Nat} {p : List (Pg.FT m n)} {now : Nat} {x : Pg.FT m n} {l : List (Pg.CT m (j + 1))} (h : Pg.wcs p now x (j + 1) l = 0) : ∀ y ∈ l, Pg.wcm p now x y = 0 ∧ Pg.wcs p now x j y.2.2.1 = 0 ∧ Pg.wcs p now x j y.2.2.2 = 0 := by
 intro y hy
 have h1 := Pg.first_zero (show Pg.first (l.map fun y => Pg.orW (Pg.wcm p now x y) (Pg.orW (Pg.wcs p now x j y.2.2.1) (Pg.wcs p now x j y.2.2.2))) = 0 from h) _ (List.mem_map_of_mem hy)
 obtain ⟨a, b⟩ := Pg.orW_zero h1
 exact ⟨a, Pg.orW_zero b⟩
structure Xr.Inv (s : Xr.S) (k : Nat) : Prop where
 fuel : s.fuel ≤ 500
 made : s.made ≤ 700
 go : s.ended = false → s.made + s.fuel ≤ 600 ∧ s.evs.length + 7 * s.fuel + k ≤ 3900
 room : s.evs.length ≤ 3901
theorem Xr.Inv.rm {s : Xr.S} {k : Nat} (h : Xr.Inv s k) : Xr.Rm s 3900 := fun e => by have := (h.go e).2; omega
theorem Xr.Inv.le {s : Xr.S} {k k' : Nat} (h : Xr.Inv s k) (hk : k' ≤ k) : Xr.Inv s k' := ⟨h.fuel, h.made, fun e => ⟨(h.go e).1, by have := (h.go e).2; omega⟩, h.room⟩
theorem Xr.fin_room {s : Xr.S} (f : Xr.F) (a how : Int) (h1 : s.ended = false → s.evs.length ≤ 3900) (h2 : s.evs.length ≤ 3901) : (Xr.fin s f a how).evs.length ≤ 3901 := by
 show (Xr.tell s _).evs.length ≤ 3901
 unfold Xr.tell
 split
 · exact h2
 · rename_i h
   show (s.evs ++ [_]).length ≤ 3901
   rw [List.length_append]
   have := h1 (by simpa using h)
   simp
   omega
theorem Xr.Inv.fin {s : Xr.S} {k' : Nat} (h : Xr.Inv s k') (f : Xr.F) (a how : Int) (k : Nat) : Xr.Inv (Xr.fin s f a how) k := by
 have h1 := h.fuel
 have h2 := h.made
 have e1 : (Xr.fin s f a how).fuel = s.fuel := by unfold Xr.fin Xr.tell; split <;> rfl
 have e2 : (Xr.fin s f a how).made = s.made := by unfold Xr.fin Xr.tell; split <;> rfl
 exact ⟨by rw [e1]; exact h1, by rw [e2]; exact h2, fun e => (by cases e), Xr.fin_room f a how (fun e => by have := (h.go e).2; omega) h.room⟩
theorem Xr.Inv.tell {s : Xr.S} {k : Nat} (h : Xr.Inv s (k + 1)) (e : Ev) : Xr.Inv (Xr.tell s e) k := by
 unfold Xr.tell
 split
 · exact h.le (by omega)
 · rename_i hne
   have hg := (h.go (by simpa using hne)).2
   refine ⟨h.fuel, h.made, fun he => ⟨(h.go he).1, ?_⟩, ?_⟩
   · show (s.evs ++ [e]).length + 7 * s.fuel + k ≤ 3900
     rw [List.length_append]
     simp
     omega
   · show (s.evs ++ [e]).length ≤ 3901
     rw [List.length_append]
     simp
     omega
theorem Xr.Inv.val {s : Xr.S} {k n : Nat} (h : Xr.Inv s k) (f : Xr.F) (x : Pg.XT n) : Xr.Inv (Xr.valS s f x) k := by
 unfold Xr.valS
 split
 · exact h
 · split
   · exact h
   · exact h.fin _ _ _ _
theorem Xr.Inv.wr {s : Xr.S} {k : Nat} (h : Xr.Inv s (k + 1)) (f : Xr.F) (a v i z : Int) : Xr.Inv (Xr.wrS s f a v i z) k := h.tell _
theorem Xr.Inv.put {s : Xr.S} {k m : Nat} (h : Xr.Inv s (k + 1)) (f : Xr.F) (v : Int) (ix ex : Pg.XT m) : Xr.Inv (Xr.putS s f v ix ex) k := by
 unfold Xr.putS
 have h2 := (h.val f ix).val f ex
 split
 · exact h2.wr _ _ _ _ _
 · exact h2.fin _ _ _ _
theorem Xr.Inv.read {s : Xr.S} {k : Nat} (h : Xr.Inv s (k + 2)) (f : Xr.F) (v : Int) : Xr.Inv (Xr.readS s f v) k := by
 unfold Xr.readS
 exact Xr.Inv.wr (Xr.Inv.tell (k := k + 1) (show Xr.Inv (Xr.inS s) (k + 2) from ⟨h.fuel, h.made, h.go, h.room⟩) _) _ _ _ _ _
structure Xr.Inv1 (s : Xr.S) (k : Nat) : Prop where
 fuel : s.fuel ≤ 500
 made : s.made ≤ 600
 go : s.ended = false → s.made + 1 + s.fuel ≤ 600 ∧ s.evs.length + 7 * s.fuel + (k + 6) ≤ 3900
 room : s.evs.length ≤ 3901
theorem Xr.Inv1.inv {s : Xr.S} {k : Nat} (h : Xr.Inv1 s k) : Xr.Inv s (k + 6) := ⟨h.fuel, by have := h.made; omega, fun e => ⟨by have := (h.go e).1; omega, (h.go e).2⟩, h.room⟩
theorem Xr.Inv.step {s : Xr.S} {k : Nat} (h : Xr.Inv s k) (he : s.ended = false) (f : Xr.F) (a : Int) : Xr.Inv1 (Xr.stepS s f a) k := by
 have hg := h.go he
 unfold Xr.stepS
 split
 · rename_i h0
   have e1 : (Xr.fin s f a 1).fuel = s.fuel := by unfold Xr.fin Xr.tell; split <;> rfl
   have e2 : (Xr.fin s f a 1).made = s.made := by unfold Xr.fin Xr.tell; split <;> rfl
   exact ⟨by rw [e1]; exact h.fuel, by rw [e2]; omega, fun e => (by cases e), Xr.fin_room f a 1 (fun _ => by omega) h.room⟩
 · rename_i h0
   unfold Xr.tell
   rw [if_neg (by simp [he])]
   refine ⟨by show s.fuel - 1 ≤ 500; have := h.fuel; omega, by show s.made ≤ 600; omega, fun _ => ⟨by show s.made + 1 + (s.fuel - 1) ≤ 600; omega, ?_⟩, ?_⟩
   · show (s.evs ++ [_]).length + 7 * (s.fuel - 1) + (k + 6) ≤ 3900
     rw [List.length_append]
     simp
     omega
   · show (s.evs ++ [_]).length ≤ 3901
     rw [List.length_append]
     simp
     omega
theorem Xr.Inv.step' {s : Xr.S} {k : Nat} (h : Xr.Inv s k) (f : Xr.F) (a : Int) : Xr.Inv (Xr.stepS s f a) k := by
 cases he : s.ended with
 | false => exact (h.step he f a).inv.le (by omega)
 | true =>
  unfold Xr.stepS
  split
  · exact h.fin _ _ _ _
  · unfold Xr.tell
    rw [if_pos he]
    exact ⟨by show s.fuel - 1 ≤ 500; have := h.fuel; omega, h.made, fun e => by rw [show ({ s with fuel := s.fuel - 1 } : Xr.S).ended = s.ended from rfl, he] at e; exact absurd e (by simp), h.room⟩
end Go.Proofs.Ytcalcikclcmkaaa
