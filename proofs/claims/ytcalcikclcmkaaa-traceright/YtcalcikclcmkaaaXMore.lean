/-
  Runs side by side: what all moves of a run keep; with more fuel, and with the input that was read. By the verifier.
-/
import Derived.Test.YtcalcikclcmkaaaJE
namespace Go.Proofs.Ytcalcikclcmkaaa
open Go.RowKit
set_option linter.unusedVariables false
structure Xr.Bi (B U : Xr.S → Xr.S → Prop) : Prop where
 en : ∀ s t, B s t → s.ended = false ∧ t.ended = false
 tell : ∀ s t (e : Ev), Xr.plain e → B s t → B (Xr.tell s e) (Xr.tell t e) ∨ U (Xr.tell s e) (Xr.tell t e)
 fin : ∀ s t (f : Xr.F) (a how : Int), B s t → U (Xr.fin s f a how) (Xr.fin t f a how)
 step : ∀ s t (f : Xr.F) (a : Int), B s t → (B (Xr.stepS s f a) (Xr.stepS t f a) ∧ s.fuel ≠ 0 ∧ t.fuel ≠ 0) ∨ U (Xr.stepS s f a) (Xr.stepS t f a)
 read : ∀ s t (f : Xr.F), B s t → (B (Xr.rdS s f) (Xr.rdS t f) ∧ Xr.inZ s = Xr.inZ t) ∨ U (Xr.rdS s f) (Xr.rdS t f)
 call : ∀ s t (f : Xr.F) (q : Int), B s t → (B (Xr.beg s f q) (Xr.beg t f q) ∧ s.made = t.made) ∨ U (Xr.beg s f q) (Xr.beg t f q)
 left : ∀ t, Xr.Cl (fun s => U s t)
 right : ∀ s, Xr.Cl (fun t => U s t)
def Xr.Rel (B U : Xr.S → Xr.S → Prop) (x y : Xr.T) : Prop := (B x.1 y.1 ∧ x.2 = y.2) ∨ U x.1 y.1
section
variable {B U : Xr.S → Xr.S → Prop}
theorem Xr.Bi.both (h : Xr.Bi B U) {s t : Xr.S} (m1 m2 : Xr.S → Xr.S) (hu : U s t) (k1 : ∀ U' : Xr.S → Prop, Xr.Cl U' → ∀ s, U' s → U' (m1 s)) (k2 : ∀ U' : Xr.S → Prop, Xr.Cl U' → ∀ s, U' s → U' (m2 s)) : U (m1 s) (m2 t) :=
 k2 _ (h.right _) _ (k1 _ (h.left t) _ hu)
theorem Xr.Bi.val (h : Xr.Bi B U) {n : Nat} (s t : Xr.S) (f : Xr.F) (x : Pg.XT n) (hb : B s t) : (B (Xr.valS s f x) (Xr.valS t f x) ∧ Xr.valV s f x = Xr.valV t f x) ∨ (U (Xr.valS s f x) (Xr.valS t f x) ∧ Xr.valV s f x = Xr.valV t f x) := by
 obtain ⟨e1, e2⟩ := h.en s t hb
 have hv : Xr.valV s f x = Xr.valV t f x := by unfold Xr.valV; rw [e1, e2]
 unfold Xr.valS
 rw [if_neg (show ¬ s.ended = true by simp [e1]), if_neg (show ¬ t.ended = true by simp [e2])]
 split
 · exact .inl ⟨hb, hv⟩
 · exact .inr ⟨h.fin _ _ _ _ _ hb, hv⟩
theorem Xr.Bi.wr (h : Xr.Bi B U) (s t : Xr.S) (f : Xr.F) (a v i z : Int) (hb : B s t) : B (Xr.wrS s f a v i z) (Xr.wrS t f a v i z) ∨ U (Xr.wrS s f a v i z) (Xr.wrS t f a v i z) := h.tell _ _ _ (Or.inl rfl) hb
theorem Xr.Bi.wrU (h : Xr.Bi B U) {s t : Xr.S} (f g : Xr.F) (a b v v' i i' z z' : Int) (hu : U s t) : U (Xr.wrS s f a v i z) (Xr.wrS t g b v' i' z') := (h.right _).wr _ _ _ _ _ _ ((h.left _).wr _ _ _ _ _ _ hu)
theorem Xr.Bi.valU (h : Xr.Bi B U) {n k : Nat} {s t : Xr.S} (f g : Xr.F) (x : Pg.XT n) (y : Pg.XT k) (hu : U s t) : U (Xr.valS s f x) (Xr.valS t g y) := (h.right _).val _ _ _ ((h.left _).val _ _ _ hu)
theorem Xr.Bi.tellU (h : Xr.Bi B U) {s t : Xr.S} (e d : Ev) (he : Xr.plain e) (hd : Xr.plain d) (hu : U s t) : U (Xr.tell s e) (Xr.tell t d) := (h.right _).tell _ _ hd ((h.left _).tell _ _ he hu)
theorem Xr.Bi.stepU (h : Xr.Bi B U) {s t : Xr.S} (f g : Xr.F) (a b : Int) (hu : U s t) : U (Xr.stepS s f a) (Xr.stepS t g b) := (h.right _).step _ _ _ ((h.left _).step _ _ _ hu)
theorem Xr.Bi.finU (h : Xr.Bi B U) {s t : Xr.S} (f g : Xr.F) (a b c d : Int) (hu : U s t) : U (Xr.fin s f a c) (Xr.fin t g b d) := (h.right _).fin _ _ _ _ ((h.left _).fin _ _ _ _ hu)
theorem Xr.Bi.put (h : Xr.Bi B U) {m : Nat} (s t : Xr.S) (f : Xr.F) (v : Int) (ix ex : Pg.XT m) (hb : B s t) : Xr.Rel B U (Xr.putS s f v ix ex, Xr.putF s f v ix ex) (Xr.putS t f v ix ex, Xr.putF t f v ix ex) := by
 rcases h.val s t f ix hb with ⟨b1, v1⟩ | ⟨u1, v1⟩
 · rcases h.val _ _ f ex b1 with ⟨b2, v2⟩ | ⟨u2, v2⟩
   · unfold Xr.putS Xr.putF
     rw [v1, v2]
     split
     · rcases h.wr _ _ f f.at_ v (Xr.valV t f ix) (Xr.valV (Xr.valS t f ix) f ex) b2 with b3 | u3
       · exact .inl ⟨b3, rfl⟩
       · exact .inr u3
     · exact .inr (h.fin _ _ _ _ _ b2)
   · unfold Xr.putS Xr.putF
     rw [v1]
     split
     · exact .inr (h.wrU _ _ _ _ _ _ _ _ _ _ u2)
     · exact .inr (h.finU _ _ _ _ _ _ u2)
 · unfold Xr.putS Xr.putF
   rw [v1]
   split
   · exact .inr (h.wrU _ _ _ _ _ _ _ _ _ _ (h.valU _ _ _ _ u1))
   · exact .inr (h.finU _ _ _ _ _ _ (h.valU _ _ _ _ u1))
theorem Xr.Bi.rd (h : Xr.Bi B U) (s t : Xr.S) (f : Xr.F) (v : Int) (hb : B s t) : Xr.Rel B U (Xr.readS s f v, Xr.readF s f v) (Xr.readS t f v, Xr.readF t f v) := by
 rcases h.read s t f hb with ⟨b1, z1⟩ | u1
 · have e : Xr.readF s f v = Xr.readF t f v := by unfold Xr.readF; rw [z1]
   rcases h.wr _ _ f f.at_ v 0 (Xr.inZ s) b1 with b2 | u2
   · refine .inl ⟨?_, e⟩
     show B (Xr.wrS (Xr.rdS s f) f f.at_ v 0 (Xr.inZ s)) (Xr.wrS (Xr.rdS t f) f f.at_ v 0 (Xr.inZ t))
     rw [← z1]
     exact b2
   · refine .inr ?_
     show U (Xr.wrS (Xr.rdS s f) f f.at_ v 0 (Xr.inZ s)) (Xr.wrS (Xr.rdS t f) f f.at_ v 0 (Xr.inZ t))
     rw [← z1]
     exact u2
 · exact .inr (h.wrU _ _ _ _ _ _ _ _ _ _ u1)
theorem Xr.Bi.arg (h : Xr.Bi B U) {m : Nat} (f : Xr.F) : ∀ (l : List (Pg.XT m)) (s t : Xr.S), B s t → (B (Xr.argS f l s) (Xr.argS f l t) ∧ Xr.argV f l s = Xr.argV f l t) ∨ U (Xr.argS f l s) (Xr.argS f l t)
 | [], s, t, hb => .inl ⟨hb, rfl⟩
 | x :: r, s, t, hb => by
  rcases h.val s t f x hb with ⟨b1, v1⟩ | ⟨u1, v1⟩
  · rcases Xr.Bi.arg h f r _ _ b1 with ⟨b2, v2⟩ | u2
    · refine .inl ⟨b2, ?_⟩
      show Xr.valV s f x :: Xr.argV f r (Xr.valS s f x) = Xr.valV t f x :: Xr.argV f r (Xr.valS t f x)
      rw [v1, v2]
    · exact .inr u2
  · exact .inr ((h.right _).arg f r _ ((h.left _).arg f r _ u1))
theorem Xr.Bi.par (h : Xr.Bi B U) (g : Xr.F) (a : Int) : ∀ (zs : List Int) (i : Nat) (s t : Xr.S), B s t → B (Xr.parS g a i zs s) (Xr.parS g a i zs t) ∨ U (Xr.parS g a i zs s) (Xr.parS g a i zs t)
 | [], i, s, t, hb => .inl hb
 | z :: r, i, s, t, hb => by
  rcases h.wr s t g a (i : Nat) 0 z hb with b1 | u1
  · exact Xr.Bi.par h g a r (i + 1) _ _ b1
  · exact .inr ((h.right _).par g a r _ _ ((h.left _).par g a r _ _ u1))
theorem Xr.Bi.loop (h : Xr.Bi B U) {m : Nat} {body : Xr.S → Xr.F → Xr.T} (hB : ∀ s t f, B s t → Xr.Rel B U (body s f) (body t f)) (hC : ∀ (U' : Xr.S → Prop), Xr.Cl U' → ∀ s f, U' s → U' (body s f).1) (hF : ∀ s f, (body s f).1.fuel ≤ s.fuel) (ex : Pg.XT m) (a : Int) : ∀ (k1 k2 : Nat) (s t : Xr.S) (f : Xr.F), s.fuel + 2 ≤ k1 → t.fuel + 2 ≤ k2 → B s t → Xr.Rel B U (Xr.loop body ex a k1 s f) (Xr.loop body ex a k2 t f)
 | 0, k2, s, t, f, h1, h2, hb => by omega
 | k1 + 1, 0, s, t, f, h1, h2, hb => by omega
 | k1 + 1, k2 + 1, s, t, f, h1, h2, hb => by
  have uu : ∀ (s' t' : Xr.S) (f' g' : Xr.F), U s' t' → Xr.Rel B U (Xr.loop body ex a k1 s' f') (Xr.loop body ex a k2 t' g') := fun s' t' f' g' hu => .inr ((h.right _).loop (hC _ (h.right _)) ex a k2 _ _ ((h.left _).loop (hC _ (h.left _)) ex a k1 _ _ hu))
  have fv : ∀ r : Xr.S, (Xr.valS r f ex).fuel = r.fuel := fun r => by
   unfold Xr.valS
   split
   · rfl
   · split
     · rfl
     · show (Xr.tell r _).fuel = r.fuel
       unfold Xr.tell
       split <;> rfl
  show Xr.Rel B U (if Xr.valV s f ex = 0 then (Xr.valS s f ex, f) else Xr.loop body ex a k1 (Xr.stepS (body (Xr.valS s f ex) f).1 (body (Xr.valS s f ex) f).2 a) (Xr.stepF (body (Xr.valS s f ex) f).1 (body (Xr.valS s f ex) f).2 a)) (if Xr.valV t f ex = 0 then (Xr.valS t f ex, f) else Xr.loop body ex a k2 (Xr.stepS (body (Xr.valS t f ex) f).1 (body (Xr.valS t f ex) f).2 a) (Xr.stepF (body (Xr.valS t f ex) f).1 (body (Xr.valS t f ex) f).2 a))
  rcases h.val s t f ex hb with ⟨b1, v1⟩ | ⟨u1, v1⟩
  · rw [v1]
    split
    · exact .inl ⟨b1, rfl⟩
    · have f1 := hF (Xr.valS s f ex) f
      have f2 := hF (Xr.valS t f ex) f
      rw [fv] at f1 f2
      rcases hB _ _ f b1 with ⟨b2, e2⟩ | u2
      · generalize body (Xr.valS s f ex) f = S1 at *
        generalize body (Xr.valS t f ex) f = T1 at *
        rw [← e2]
        rcases h.step _ _ S1.2 a b2 with ⟨b3, z1, z2⟩ | u3
        · have g1 : Xr.stepF S1.1 S1.2 a = Xr.stepF T1.1 S1.2 a := by unfold Xr.stepF; rw [if_neg z1, if_neg z2]
          have st : ∀ (r : Xr.S) (g : Xr.F), r.fuel ≠ 0 → (Xr.stepS r g a).fuel = r.fuel - 1 := fun r g hr => by
           unfold Xr.stepS Xr.tell
           rw [if_neg hr]
           split <;> rfl
          rw [g1]
          exact Xr.Bi.loop h hB hC hF ex a k1 k2 _ _ _ (by rw [st _ _ z1]; omega) (by rw [st _ _ z2]; omega) b3
        · exact uu _ _ _ _ u3
      · exact uu _ _ _ _ (h.stepU _ _ _ _ u2)
  · rw [v1]
    split
    · exact .inr u1
    · exact uu _ _ _ _ (h.stepU _ _ _ _ (hC _ (h.right _) _ _ (hC _ (h.left _) _ _ u1)))
end
theorem Xr.cl_fuel (n : Nat) : Xr.Cl (fun s => s.fuel ≤ n) := by
 have ht : ∀ (s : Xr.S) (e : Ev), (Xr.tell s e).fuel = s.fuel := fun s e => by unfold Xr.tell; split <;> rfl
 have hf : ∀ (s : Xr.S) (f : Xr.F) (a how : Int), (Xr.fin s f a how).fuel = s.fuel := fun s f a how => ht s _
 refine ⟨fun s e _ hu => ?_, fun s f a how hu => ?_, fun s f a hu => ?_, fun s f hu => ?_, fun s f q hu => ?_⟩
 · show (Xr.tell s e).fuel ≤ n
   rw [ht]; exact hu
 · show (Xr.fin s f a how).fuel ≤ n
   rw [hf]; exact hu
 · show (Xr.stepS s f a).fuel ≤ n
   unfold Xr.stepS
   split
   · rw [hf]; exact hu
   · rw [ht]; exact Nat.le_trans (Nat.sub_le _ _) hu
 · show (Xr.rdS s f).fuel ≤ n
   unfold Xr.rdS
   rw [ht]; exact hu
 · show (Xr.beg s f q).fuel ≤ n
   unfold Xr.beg
   rw [ht]; exact hu
structure Xr.Hn (B U : Xr.S → Xr.S → Prop) {α : Type} (g : α → Xr.S → Xr.F → Xr.T) : Prop where
 b : ∀ c s t f, B s t → Xr.Rel B U (g c s f) (g c t f)
 c : ∀ (U' : Xr.S → Prop), Xr.Cl U' → ∀ c s f, U' s → U' (g c s f).1
section
variable {B U : Xr.S → Xr.S → Prop}
theorem Xr.Hn.u (h : Xr.Bi B U) {α : Type} {g : α → Xr.S → Xr.F → Xr.T} (hg : Xr.Hn B U g) {s t : Xr.S} (c d : α) (f f' : Xr.F) (hu : U s t) : U (g c s f).1 (g d t f').1 := hg.c _ (h.right _) d t f' (hg.c _ (h.left _) c s f hu)
theorem Xr.Bi.cmdT (h : Xr.Bi B U) {m j : Nat} {hc : Xr.S → Xr.F → Int → Int → List (Pg.XT m) → Xr.T} {cs : List (Pg.CT m j) → Nat → Xr.S → Xr.F → Xr.T} (h1 : Xr.Hn B U (fun (c : Int × Int × List (Pg.XT m)) s f => hc s f c.1 c.2.1 c.2.2)) (h2 : Xr.Hn B U (fun (c : List (Pg.CT m j) × Nat) s f => cs c.1 c.2 s f)) (c : Pg.CT m (j + 1)) (a : Nat) (s t : Xr.S) (f : Xr.F) (hb : B s t) : Xr.Rel B U (Xr.cmdT hc cs c a s f) (Xr.cmdT hc cs c a t f) := by
 unfold Xr.cmdT
 split
 · rcases h.val s t f c.2.1.2.1 hb with ⟨b1, v1⟩ | ⟨u1, v1⟩
   · rw [v1]
     rcases h.wr _ _ f f.at_ c.1.2.1 0 (Xr.valV t f c.2.1.2.1) b1 with b2 | u2
     · exact .inl ⟨b2, rfl⟩
     · exact .inr u2
   · exact .inr (h.wrU _ _ _ _ _ _ _ _ _ _ u1)
 split
 · exact h.put _ _ _ _ _ _ hb
 split
 · exact h1.b (c.1.2.1, c.1.2.2, c.2.1.2.2) s t f hb
 split
 · exact h.rd _ _ _ _ hb
 split
 · rcases h.val s t f c.2.1.2.1 hb with ⟨b1, v1⟩ | ⟨u1, v1⟩
   · rw [v1]
     rcases h.tell _ _ ⟨4, f.num, f.at_, 0, 0, Xr.valV t f c.2.1.2.1⟩ (Or.inr (Or.inl rfl)) b1 with b2 | u2
     · exact .inl ⟨b2, rfl⟩
     · exact .inr u2
   · exact .inr (h.tellU _ _ (Or.inr (Or.inl rfl)) (Or.inr (Or.inl rfl)) u1)
 split
 · rcases h.val s t f c.2.1.2.1 hb with ⟨b1, v1⟩ | ⟨u1, v1⟩
   · rw [v1]
     split
     · exact h2.b (c.2.2.1, a + 1) _ _ f b1
     · exact h2.b (c.2.2.2, a + 1 + Pg.cnts c.2.2.1) _ _ f b1
   · rw [v1]
     split
     · exact .inr (h2.u h (c.2.2.1, a + 1) (c.2.2.1, a + 1) f f u1)
     · exact .inr (h2.u h (c.2.2.2, a + 1 + Pg.cnts c.2.2.1) (c.2.2.2, a + 1 + Pg.cnts c.2.2.1) f f u1)
 · exact h.loop (fun s t f hb => h2.b (c.2.2.1, a + 1) s t f hb) (fun U' hU s f hu => h2.c U' hU (c.2.2.1, a + 1) s f hu) (fun s f => h2.c _ (Xr.cl_fuel s.fuel) (c.2.2.1, a + 1) s f (Nat.le_refl _)) _ _ _ _ _ _ _ (Nat.le_refl _) (Nat.le_refl _) hb
theorem Xr.Bi.cmd (h : Xr.Bi B U) {m j : Nat} {hc : Xr.S → Xr.F → Int → Int → List (Pg.XT m) → Xr.T} {cs : List (Pg.CT m j) → Nat → Xr.S → Xr.F → Xr.T} (h1 : Xr.Hn B U (fun (c : Int × Int × List (Pg.XT m)) s f => hc s f c.1 c.2.1 c.2.2)) (h2 : Xr.Hn B U (fun (c : List (Pg.CT m j) × Nat) s f => cs c.1 c.2 s f)) : Xr.Hn B U (fun (c : Pg.CT m (j + 1) × Nat) s f => Xr.cmd hc cs c.1 c.2 s f) := by
 have hc1 : ∀ (U' : Xr.S → Prop), Xr.Cl U' → ∀ (c : Pg.CT m (j + 1)) (a : Nat) s f, U' s → U' (Xr.cmdT hc cs c a s f).1 := fun U' hU c a s f hu => hU.cmdT (fun s f v q l hu => h1.c U' hU (v, q, l) s f hu) (fun l a s f hu => h2.c U' hU (l, a) s f hu) c a s f hu
 refine ⟨fun c s t f hb => ?_, fun U' hU c s f hu => hc1 U' hU c.1 c.2 _ _ (hU.step _ _ _ hu)⟩
 show Xr.Rel B U (Xr.cmdT hc cs c.1 c.2 (Xr.stepS s f c.2) (Xr.stepF s f c.2)) (Xr.cmdT hc cs c.1 c.2 (Xr.stepS t f c.2) (Xr.stepF t f c.2))
 rcases h.step s t f c.2 hb with ⟨b1, z1, z2⟩ | u1
 · rw [show Xr.stepF s f c.2 = Xr.stepF t f c.2 by unfold Xr.stepF; rw [if_neg z1, if_neg z2]]
   exact h.cmdT h1 h2 c.1 c.2 _ _ _ b1
 · exact .inr (hc1 _ (h.right _) c.1 c.2 _ _ (hc1 _ (h.left _) c.1 c.2 _ _ u1))
theorem Xr.Bi.walk (h : Xr.Bi B U) {α : Type} {g : α → Nat → Xr.S → Xr.F → Xr.T} (hg : Xr.Hn B U (fun (c : α × Nat) s f => g c.1 c.2 s f)) (cn : α → Nat) : ∀ (l : List α) (a : Nat) (s t : Xr.S) (f : Xr.F), B s t → Xr.Rel B U (Xr.walk g cn l a s f) (Xr.walk g cn l a t f)
 | [], a, s, t, f, hb => .inl ⟨hb, rfl⟩
 | c :: r, a, s, t, f, hb => by
  obtain ⟨e1, e2⟩ := h.en s t hb
  show Xr.Rel B U (if s.ended then (s, f) else Xr.walk g cn r (a + cn c) (g c a s f).1 (g c a s f).2) (if t.ended then (t, f) else Xr.walk g cn r (a + cn c) (g c a t f).1 (g c a t f).2)
  rw [if_neg (show ¬ s.ended = true by simp [e1]), if_neg (show ¬ t.ended = true by simp [e2])]
  have hC : ∀ (U' : Xr.S → Prop), Xr.Cl U' → ∀ s f, U' s → U' (Xr.walk g cn r (a + cn c) s f).1 := fun U' hU s f hu => Xr.walk_u (fun c a s f hu => hg.c U' hU (c, a) s f hu) cn r _ s f hu
  rcases hg.b (c, a) s t f hb with ⟨b1, q1⟩ | u1
  · have b1' : B (g c a s f).1 (g c a t f).1 := b1
    have q1' : (g c a s f).2 = (g c a t f).2 := q1
    rw [← q1']
    exact Xr.Bi.walk h hg cn r _ _ _ _ b1'
  · exact .inr (hC _ (h.right _) _ _ (hC _ (h.left _) _ _ u1))
theorem Xr.Bi.cmds (h : Xr.Bi B U) {m : Nat} {hc : Xr.S → Xr.F → Int → Int → List (Pg.XT m) → Xr.T} (h1 : Xr.Hn B U (fun (c : Int × Int × List (Pg.XT m)) s f => hc s f c.1 c.2.1 c.2.2)) : ∀ (j : Nat), Xr.Hn B U (fun (c : List (Pg.CT m j) × Nat) s f => Xr.cmds hc j c.1 c.2 s f)
 | 0 => ⟨fun c s t f hb => .inl ⟨hb, rfl⟩, fun U' hU c s f hu => hu⟩
 | j + 1 => ⟨fun c s t f hb => h.walk (h.cmd h1 (Xr.Bi.cmds h h1 j)) _ c.1 c.2 s t f hb, fun U' hU c s f hu => hU.cmds (fun s f v q l hu => h1.c U' hU (v, q, l) s f hu) (j + 1) c.1 c.2 s f hu⟩
theorem Xr.Bi.fn (h : Xr.Bi B U) {m n : Nat} (p : List (Pg.FT m n)) {hc : Xr.S → Xr.F → Int → Int → List (Pg.XT m) → Xr.T} (h1 : Xr.Hn B U (fun (c : Int × Int × List (Pg.XT m)) s f => hc s f c.1 c.2.1 c.2.2)) (q : Nat) (s t : Xr.S) (g : Xr.F) (hb : B s t) : Xr.Rel B U (Xr.fn p hc q s g) (Xr.fn p hc q t g) := by
 unfold Xr.fn
 split
 · exact .inl ⟨hb, rfl⟩
 · exact (h.cmds h1 n).b (_, _) s t g hb
theorem Xr.Bi.callB (h : Xr.Bi B U) {m n : Nat} (p : List (Pg.FT m n)) {hc : Xr.S → Xr.F → Int → Int → List (Pg.XT m) → Xr.T} (h1 : Xr.Hn B U (fun (c : Int × Int × List (Pg.XT m)) s f => hc s f c.1 c.2.1 c.2.2)) (x : Pg.FT m n) (q : Nat) (zs : List Int) (v : Int) (s t : Xr.S) (f : Xr.F) (hb : B s t) : Xr.Rel B U (Xr.callB p hc x q zs v s f) (Xr.callB p hc x q zs v t f) := by
 have hC : ∀ (U' : Xr.S → Prop), Xr.Cl U' → ∀ s f v q l, U' s → U' (hc s f v q l).1 := fun U' hU s f v q l hu => h1.c U' hU (v, q, l) s f hu
 have key : ∀ (s : Xr.S) (g : Xr.F), Xr.callB p hc x q zs v s f = (Xr.wrS (Xr.tell (Xr.valS (Xr.fn p hc q (Xr.parS (Xr.newF (s.made + 1) (f.deep + 1) x.sizes) f.at_ 0 zs (Xr.beg s f q)) (Xr.parF 0 zs (Xr.newF (s.made + 1) (f.deep + 1) x.sizes))).1 (Xr.fn p hc q (Xr.parS (Xr.newF (s.made + 1) (f.deep + 1) x.sizes) f.at_ 0 zs (Xr.beg s f q)) (Xr.parF 0 zs (Xr.newF (s.made + 1) (f.deep + 1) x.sizes))).2 x.res) ⟨6, (Xr.fn p hc q (Xr.parS (Xr.newF (s.made + 1) (f.deep + 1) x.sizes) f.at_ 0 zs (Xr.beg s f q)) (Xr.parF 0 zs (Xr.newF (s.made + 1) (f.deep + 1) x.sizes))).2.num, f.at_, 0, 0, Xr.valV (Xr.fn p hc q (Xr.parS (Xr.newF (s.made + 1) (f.deep + 1) x.sizes) f.at_ 0 zs (Xr.beg s f q)) (Xr.parF 0 zs (Xr.newF (s.made + 1) (f.deep + 1) x.sizes))).1 (Xr.fn p hc q (Xr.parS (Xr.newF (s.made + 1) (f.deep + 1) x.sizes) f.at_ 0 zs (Xr.beg s f q)) (Xr.parF 0 zs (Xr.newF (s.made + 1) (f.deep + 1) x.sizes))).2 x.res⟩) f f.at_ v 0 (Xr.valV (Xr.fn p hc q (Xr.parS (Xr.newF (s.made + 1) (f.deep + 1) x.sizes) f.at_ 0 zs (Xr.beg s f q)) (Xr.parF 0 zs (Xr.newF (s.made + 1) (f.deep + 1) x.sizes))).1 (Xr.fn p hc q (Xr.parS (Xr.newF (s.made + 1) (f.deep + 1) x.sizes) f.at_ 0 zs (Xr.beg s f q)) (Xr.parF 0 zs (Xr.newF (s.made + 1) (f.deep + 1) x.sizes))).2 x.res), Xr.wrF f v 0 (Xr.valV (Xr.fn p hc q (Xr.parS (Xr.newF (s.made + 1) (f.deep + 1) x.sizes) f.at_ 0 zs (Xr.beg s f q)) (Xr.parF 0 zs (Xr.newF (s.made + 1) (f.deep + 1) x.sizes))).1 (Xr.fn p hc q (Xr.parS (Xr.newF (s.made + 1) (f.deep + 1) x.sizes) f.at_ 0 zs (Xr.beg s f q)) (Xr.parF 0 zs (Xr.newF (s.made + 1) (f.deep + 1) x.sizes))).2 x.res)) := fun _ _ => rfl
 rw [key s f, key t f]
 rcases h.call s t f q hb with ⟨b1, m1⟩ | u1
 · rw [m1]
   generalize Xr.newF (t.made + 1) (f.deep + 1) x.sizes = g at *
   rcases h.par g f.at_ zs 0 _ _ b1 with b2 | u2
   · rcases h.fn p h1 q _ _ (Xr.parF 0 zs g) b2 with ⟨b3, q3⟩ | u3
     · generalize Xr.fn p hc q (Xr.parS g f.at_ 0 zs (Xr.beg s f q)) (Xr.parF 0 zs g) = S1 at *
       generalize Xr.fn p hc q (Xr.parS g f.at_ 0 zs (Xr.beg t f q)) (Xr.parF 0 zs g) = T1 at *
       rw [← q3]
       rcases h.val _ _ S1.2 x.res b3 with ⟨b4, v4⟩ | ⟨u4, v4⟩
       · rw [v4]
         rcases h.tell _ _ ⟨6, S1.2.num, f.at_, 0, 0, Xr.valV T1.1 S1.2 x.res⟩ (Or.inr (Or.inr rfl)) b4 with b5 | u5
         · rcases h.wr _ _ f f.at_ v 0 (Xr.valV T1.1 S1.2 x.res) b5 with b6 | u6
           · exact .inl ⟨b6, rfl⟩
           · exact .inr u6
         · exact .inr (h.wrU _ _ _ _ _ _ _ _ _ _ u5)
       · exact .inr (h.wrU _ _ _ _ _ _ _ _ _ _ (h.tellU _ _ (Or.inr (Or.inr rfl)) (Or.inr (Or.inr rfl)) u4))
     · exact .inr (h.wrU _ _ _ _ _ _ _ _ _ _ (h.tellU _ _ (Or.inr (Or.inr rfl)) (Or.inr (Or.inr rfl)) (h.valU _ _ _ _ u3)))
   · exact .inr (h.wrU _ _ _ _ _ _ _ _ _ _ (h.tellU _ _ (Or.inr (Or.inr rfl)) (Or.inr (Or.inr rfl)) (h.valU _ _ _ _ ((h.right _).fn p (hC _ (h.right _)) _ _ _ ((h.left _).fn p (hC _ (h.left _)) _ _ _ u2)))))
 · exact .inr (h.wrU _ _ _ _ _ _ _ _ _ _ (h.tellU _ _ (Or.inr (Or.inr rfl)) (Or.inr (Or.inr rfl)) (h.valU _ _ _ _ ((h.right _).fn p (hC _ (h.right _)) _ _ _ ((h.left _).fn p (hC _ (h.left _)) _ _ _ ((h.right _).par _ _ _ _ _ ((h.left _).par _ _ _ _ _ u1)))))))
theorem Xr.Bi.calls (h : Xr.Bi B U) {m n : Nat} (p : List (Pg.FT m n)) : ∀ (d : Nat), Xr.Hn B U (fun (c : Int × Int × List (Pg.XT m)) s f => Xr.call p d s f c.1 c.2.1 c.2.2)
 | 0 => ⟨fun c s t f hb => by
   show Xr.Rel B U (Xr.fin (Xr.argS f c.2.2 s) f f.at_ 4, f) (Xr.fin (Xr.argS f c.2.2 t) f f.at_ 4, f)
   rcases h.arg f c.2.2 s t hb with ⟨b1, _⟩ | u1
   · exact .inr (h.fin _ _ _ _ _ b1)
   · exact .inr (h.finU _ _ _ _ _ _ u1), fun U' hU c s f hu => hU.calls p 0 s f _ _ _ hu⟩
 | d + 1 => ⟨fun c s t f hb => by
   unfold Xr.call
   split
   · exact .inl ⟨hb, rfl⟩
   · rename_i x hx
     rcases h.arg f c.2.2 s t hb with ⟨b1, v1⟩ | u1
     · rw [v1]
       exact h.callB p (Xr.Bi.calls h p d) x _ _ _ _ _ f b1
     · exact .inr ((h.right _).callB p (fun s f v q l hu => (Xr.Bi.calls h p d).c _ (h.right _) (v, q, l) s f hu) _ _ _ _ _ _ ((h.left _).callB p (fun s f v q l hu => (Xr.Bi.calls h p d).c _ (h.left _) (v, q, l) s f hu) _ _ _ _ _ _ u1)), fun U' hU c s f hu => hU.calls p (d + 1) s f _ _ _ hu⟩
theorem Xr.Bi.all (h : Xr.Bi B U) {m n : Nat} {p : List (Pg.FT m n)} {x : Pg.FT m n} (hx : p[p.length - 1]? = some x) (i1 i2 : List Int) (f1 f2 : Nat) (hb : B ⟨i1, f1, 0, [], false⟩ ⟨i2, f2, 0, [], false⟩) : ∃ s t, U s t ∧ s.ended = true ∧ t.ended = true ∧ s.evs = Xr.main p i1 f1 ∧ t.evs = Xr.main p i2 f2 := by
 have h1 := h.fn p (h.calls p 5) (p.length - 1) _ _ (Xr.newF 0 0 x.sizes) hb
 have h2 : U (Xr.fin (Xr.fn p (Xr.call p 5) (p.length - 1) ⟨i1, f1, 0, [], false⟩ (Xr.newF 0 0 x.sizes)).1 (Xr.fn p (Xr.call p 5) (p.length - 1) ⟨i1, f1, 0, [], false⟩ (Xr.newF 0 0 x.sizes)).2 (-1) 0) (Xr.fin (Xr.fn p (Xr.call p 5) (p.length - 1) ⟨i2, f2, 0, [], false⟩ (Xr.newF 0 0 x.sizes)).1 (Xr.fn p (Xr.call p 5) (p.length - 1) ⟨i2, f2, 0, [], false⟩ (Xr.newF 0 0 x.sizes)).2 (-1) 0) := by
  rcases h1 with ⟨b1, q1⟩ | u1
  · rw [← q1]
    exact h.fin _ _ _ _ _ b1
  · exact h.finU _ _ _ _ _ _ u1
 refine ⟨_, _, h2, rfl, rfl, ?_, ?_⟩ <;> (unfold Xr.main; rw [hx])
end
end Go.Proofs.Ytcalcikclcmkaaa
