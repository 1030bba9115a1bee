/-
  YLc, XClo, YPure. By the verifier.
-/
import Derived.Test.YtcalcikclcmkaaaJB
import Derived.Test.YtcalcikclcmkaaaXNw
import Derived.Deep.RegionLaw
import Derived.Test.YtcalcikclcmkaaaXModel
set_option maxRecDepth 100000
set_option maxHeartbeats 3200000
namespace Go.Proofs.Ytcalcikclcmkaaa
open Go.RowKit
set_option linter.unusedVariables false
theorem Try.infoFr : (Try.prog.info? 85).map (fun i => (i.zero, i.size, i.bytes)) = some (some (.agg #[.int .i64 0, .int .i64 0, .int .i64 0, .slice none 0 0, .slice none 0 0]), 5, 72) := by kernel_rfl
section
variable {T : Array Value} {w : World} {Q : Exit → Act → World → Prop} {bm g c : Nat}
theorem ml_r16 {b10 n rc vl vc tn tc : Nat} {ra va ta : Option Addr} {num fn at_ : Int} (hT : T.size = 120) (s0 : T[0]? = some (.pointer (some ⟨bm, 0, none⟩))) (s10 : T[10]? = some (.pointer (some ⟨b10, 0, none⟩))) {B : Nat} {xs : List Value} (h6 : w.cell? ⟨bm, 6, none⟩ = some (.slice ra n rc)) (hf : w.frozen? ⟨bm, 6, none⟩ = false) (y0 : w.cell? ⟨b10, 0, none⟩ = some (.int .i64 num)) (y1 : w.cell? ⟨b10, 1, none⟩ = some (.int .i64 fn)) (y2 : w.cell? ⟨b10, 2, none⟩ = some (.int .i64 at_)) (y3 : w.cell? ⟨b10, 3, none⟩ = some (.slice va vl vc)) (y4 : w.cell? ⟨b10, 4, none⟩ = some (.slice ta tn tc)) (hrow : w.ownsRow B 85 5 (.slice ra n rc) n xs) (hB : B ≤ w.heap.size) (hn : n ≤ 1000) (hne : (Value.slice ra n rc).ownBlock ≠ some bm)
  (hQ : ∀ T' w', (Fq.Kp 12 T T' ∧ ∃ gA cA w6, w' = w6.setCell ⟨bm, 6, none⟩ (.slice (some ⟨gA, 0, none⟩) (n + 1) cA) ∧ w.grownBy w6 (Value.slice ra n rc).ownBlock ∧ w6.ownsRow B 85 5 (.slice (some ⟨gA, 0, none⟩) (n + 1) cA) (n + 1) (xs ++ [.int .i64 num, .int .i64 fn, .int .i64 at_, .slice va vl vc, .slice ta tn tc]) ∧ ((Value.slice ra n rc).ownBlock = some gA ∨ w.heap.size ≤ gA)) → Q .normal ⟨T', []⟩ w') : (Fq.reg Try.f78 16).wp Try.prog Q ⟨T, []⟩ w := by
 have HQ := hide hQ
 clear hQ
 conv => arg 2; whnf
 refine Fq.norm (fun T' w' => Fq.Kp 12 T T' ∧ ∃ gA cA w6, w' = w6.setCell ⟨bm, 6, none⟩ (.slice (some ⟨gA, 0, none⟩) (n + 1) cA) ∧ w.grownBy w6 (Value.slice ra n rc).ownBlock ∧ w6.ownsRow B 85 5 (.slice (some ⟨gA, 0, none⟩) (n + 1) cA) (n + 1) (xs ++ [.int .i64 num, .int .i64 fn, .int .i64 at_, .slice va vl vc, .slice ta tn tc]) ∧ ((Value.slice ra n rc).ownBlock = some gA ∨ w.heap.size ≤ gA)) (fun T' w' h => (unhide HQ) T' w' h) ?_
 obtain ⟨t, ht⟩ : ∃ t : Nat → Value, t = fun i => T.getD i (.tuple #[]) := ⟨_, rfl⟩
 have hTl : T = #[t 0, t 1, t 2, t 3, t 4, t 5, t 6, t 7, t 8, t 9, t 10, t 11, t 12, t 13, t 14, t 15, t 16, t 17, t 18, t 19, t 20, t 21, t 22, t 23, t 24, t 25, t 26, t 27, t 28, t 29, t 30, t 31, t 32, t 33, t 34, t 35, t 36, t 37, t 38, t 39, t 40, t 41, t 42, t 43, t 44, t 45, t 46, t 47, t 48, t 49, t 50, t 51, t 52, t 53, t 54, t 55, t 56, t 57, t 58, t 59, t 60, t 61, t 62, t 63, t 64, t 65, t 66, t 67, t 68, t 69, t 70, t 71, t 72, t 73, t 74, t 75, t 76, t 77, t 78, t 79, t 80, t 81, t 82, t 83, t 84, t 85, t 86, t 87, t 88, t 89, t 90, t 91, t 92, t 93, t 94, t 95, t 96, t 97, t 98, t 99, t 100, t 101, t 102, t 103, t 104, t 105, t 106, t 107, t 108, t 109, t 110, t 111, t 112, t 113, t 114, t 115, t 116, t 117, t 118, t 119] := by rw [ht]; exact Fq.ls_is hT
 rw [(congrFun ht 0).trans (Fq.gd s0), (congrFun ht 10).trans (Fq.gd s10)] at hTl
 clear ht hT s0 s10
 refine Fq.fr hTl ?_
 have HTL := hide hTl
 clear hTl
 obtain ⟨i0, hi0, hz0, hz1', hz2⟩ := info_of Try.infoFr
 have HI := hide hi0
 have HZ0 := hide hz0
 have HZ1 := hide hz1'
 have HZ2 := hide hz2
 have HROW := hide hrow
 have HNE := hide hne
 have hbm := World.block_lt_of_cell? w _ h6
 clear hi0 hz0 hz1' hz2 hrow hne
 have HBK := hide (heap_alloc_new w (Obj.cells #[.int .i64 num, .int .i64 fn, .int .i64 at_, .slice va vl vc, .slice ta tn tc] 85))
 have HBD := hide (show Below w.heap.size w (w.alloc (Obj.cells #[.int .i64 num, .int .i64 fn, .int .i64 at_, .slice va vl vc, .slice ta tn tc] 85)).drew from ((Below.refl w.heap.size w).alloc (Nat.le_refl _) _).drew)
 have h6b : (w.alloc (Obj.cells #[.int .i64 num, .int .i64 fn, .int .i64 at_, .slice va vl vc, .slice ta tn tc] 85)).cell? ⟨bm, 6, none⟩ = some (.slice ra n rc) := (((Below.refl w.heap.size w).alloc (Nat.le_refl _) _).cell (p := ⟨bm, 6, none⟩) hbm).trans h6
 go_region_law (first
  | (refine step_append_lies _ rfl (.tmp 100) (.tmp 102) 72 rfl B 85 i0 _ 5 72 Try.underlying72 (unhide HI) (unhide HZ0) (unhide HZ1) (unhide HZ2) rfl (by omega) (.slice ra n rc) n xs rfl (Pg.ow_below (unhide HROW) (unhide HBD)) _ 1 1 [.int .i64 num, .int .i64 fn, .int .i64 at_, .slice va vl vc, .slice ta tn tc] rfl rfl (World.news_of_block (unhide HBK)) (by simp [Value.oneCell']) (by omega) (by unfold maxLen; omega) (by omega) (by simp; omega) _ rfl ?_; intro gA cA w6 hoA hgA hatA hltA; have HOA := hide hoA; have HGA := hide (show w.grownBy w6 (Value.slice ra n rc).ownBlock from ⟨hgA.os.trans (unhide HBD).os, hgA.tape.trans (unhide HBD).tape, hgA.output.trans (unhide HBD).output, Nat.le_trans (unhide HBD).size hgA.size, fun q h1 h2 => (hgA.block q (Nat.lt_of_lt_of_le h1 (unhide HBD).size) h2).trans ((unhide HBD).block q h1)⟩); have HAT := hide (show (Value.slice ra n rc).ownBlock = some gA ∨ w.heap.size ≤ gA from hatA.imp id (fun e => by rw [e]; exact (unhide HBD).size)); have hbb := (unhide HGA).block bm hbm (fun e => (unhide HNE) e.symm); have z4 := (Xr.cell_kept hbb 6).trans h6; have z5 := (Xr.frz_kept hbb 6).trans hf; clear hatA hltA hoA hgA hbb))
 all_goals
  have HB := hide (show ∃ gA cA w6, _ = w6.setCell ⟨bm, 6, none⟩ (.slice (some ⟨gA, 0, none⟩) (n + 1) cA) ∧ w.grownBy w6 (Value.slice ra n rc).ownBlock ∧ w6.ownsRow B 85 5 (.slice (some ⟨gA, 0, none⟩) (n + 1) cA) (n + 1) (xs ++ [.int .i64 num, .int .i64 fn, .int .i64 at_, .slice va vl vc, .slice ta tn tc]) ∧ ((Value.slice ra n rc).ownBlock = some gA ∨ w.heap.size ≤ gA) from ⟨gA, cA, w6, rfl, unhide HGA, unhide HOA, unhide HAT⟩)
  exact ⟨rfl, ⟨by rw [unhide HTL]; rfl, fun k hk => by rw [unhide HTL]; rcases (show k = 0 ∨ k = 1 ∨ k = 2 ∨ k = 3 ∨ k = 4 ∨ k = 5 ∨ k = 6 ∨ k = 7 ∨ k = 8 ∨ k = 9 ∨ k = 10 ∨ k = 11 by omega) with rfl | rfl | rfl | rfl | rfl | rfl | rfl | rfl | rfl | rfl | rfl | rfl <;> rfl⟩, unhide HB⟩
end
end Go.Proofs.Ytcalcikclcmkaaa
namespace Go.Proofs.Ytcalcikclcmkaaa
open Go.RowKit
set_option linter.unusedVariables false
def Xr.plain (e : Ev) : Prop := e.n0 = 2 ∨ e.n0 = 4 ∨ e.n0 = 6
def Xr.rdS (s : Xr.S) (f : Xr.F) : Xr.S := Xr.tell (Xr.inS s) ⟨3, f.num, f.at_, 0, 0, Xr.inZ s⟩
def Xr.beg (s : Xr.S) (f : Xr.F) (q : Int) : Xr.S := Xr.tell { s with made := s.made + 1 } ⟨5, f.num, f.at_, q, 0, ((s.made + 1 : Nat) : Int)⟩
structure Xr.Cl (U : Xr.S → Prop) : Prop where
 tell : ∀ (s : Xr.S) (e : Ev), Xr.plain e → U s → U (Xr.tell s e)
 fin : ∀ (s : Xr.S) (f : Xr.F) (a how : Int), U s → U (Xr.fin s f a how)
 step : ∀ (s : Xr.S) (f : Xr.F) (a : Int), U s → U (Xr.stepS s f a)
 read : ∀ (s : Xr.S) (f : Xr.F), U s → U (Xr.rdS s f)
 call : ∀ (s : Xr.S) (f : Xr.F) (q : Int), U s → U (Xr.beg s f q)
theorem Xr.walk_u {U : Xr.S → Prop} {α : Type} {g : α → Nat → Xr.S → Xr.F → Xr.T} (hg : ∀ c a s f, U s → U (g c a s f).1) (cn : α → Nat) : ∀ (l : List α) (a : Nat) (s : Xr.S) (f : Xr.F), U s → U (Xr.walk g cn l a s f).1
 | [], a, s, f, hu => hu
 | c :: r, a, s, f, hu => by
  show U (if s.ended then (s, f) else Xr.walk g cn r (a + cn c) (g c a s f).1 (g c a s f).2).1
  split
  · exact hu
  · exact Xr.walk_u hg cn r _ _ _ (hg c a s f hu)
section
variable {U : Xr.S → Prop}
theorem Xr.Cl.val (h : Xr.Cl U) {n : Nat} (s : Xr.S) (f : Xr.F) (x : Pg.XT n) (hu : U s) : U (Xr.valS s f x) := by
 unfold Xr.valS
 split
 · exact hu
 · split
   · exact hu
   · exact h.fin _ _ _ _ hu
theorem Xr.Cl.wr (h : Xr.Cl U) (s : Xr.S) (f : Xr.F) (a v i z : Int) (hu : U s) : U (Xr.wrS s f a v i z) := h.tell _ _ (Or.inl rfl) hu
theorem Xr.Cl.put (h : Xr.Cl U) {m : Nat} (s : Xr.S) (f : Xr.F) (v : Int) (ix ex : Pg.XT m) (hu : U s) : U (Xr.putS s f v ix ex) := by
 unfold Xr.putS
 split
 · exact h.wr _ _ _ _ _ _ (h.val _ _ _ (h.val _ _ _ hu))
 · exact h.fin _ _ _ _ (h.val _ _ _ (h.val _ _ _ hu))
theorem Xr.Cl.rd (h : Xr.Cl U) (s : Xr.S) (f : Xr.F) (v : Int) (hu : U s) : U (Xr.readS s f v) := h.wr _ _ _ _ _ _ (h.read s f hu)
theorem Xr.Cl.arg (h : Xr.Cl U) {m : Nat} (f : Xr.F) : ∀ (l : List (Pg.XT m)) (s : Xr.S), U s → U (Xr.argS f l s)
 | [], s, hu => hu
 | x :: r, s, hu => Xr.Cl.arg h f r _ (h.val s f x hu)
theorem Xr.Cl.par (h : Xr.Cl U) (g : Xr.F) (a : Int) : ∀ (zs : List Int) (i : Nat) (s : Xr.S), U s → U (Xr.parS g a i zs s)
 | [], i, s, hu => hu
 | z :: r, i, s, hu => Xr.Cl.par h g a r (i + 1) _ (h.wr _ _ _ _ _ _ hu)
theorem Xr.Cl.loop (h : Xr.Cl U) {m : Nat} {body : Xr.S → Xr.F → Xr.T} (hb : ∀ s f, U s → U (body s f).1) (ex : Pg.XT m) (a : Int) : ∀ (k : Nat) (s : Xr.S) (f : Xr.F), U s → U (Xr.loop body ex a k s f).1
 | 0, s, f, hu => hu
 | k + 1, s, f, hu => by
  show U (if Xr.valV s f ex = 0 then (Xr.valS s f ex, f) else Xr.loop body ex a k (Xr.stepS (body (Xr.valS s f ex) f).1 (body (Xr.valS s f ex) f).2 a) (Xr.stepF (body (Xr.valS s f ex) f).1 (body (Xr.valS s f ex) f).2 a)).1
  split
  · exact h.val s f ex hu
  · exact Xr.Cl.loop h hb ex a k _ _ (h.step _ _ _ (hb _ _ (h.val s f ex hu)))
theorem Xr.Cl.cmdT (h : Xr.Cl U) {m j : Nat} {hc : Xr.S → Xr.F → Int → Int → List (Pg.XT m) → Xr.T} {cs : List (Pg.CT m j) → Nat → Xr.S → Xr.F → Xr.T} (h1 : ∀ s f v q l, U s → U (hc s f v q l).1) (h2 : ∀ l a s f, U s → U (cs l a s f).1) (c : Pg.CT m (j + 1)) (a : Nat) (s : Xr.S) (f : Xr.F) (hu : U s) : U (Xr.cmdT hc cs c a s f).1 := by
 unfold Xr.cmdT
 split
 · exact h.wr _ _ _ _ _ _ (h.val _ _ _ hu)
 split
 · exact h.put _ _ _ _ _ hu
 split
 · exact h1 _ _ _ _ _ hu
 split
 · exact h.rd _ _ _ hu
 split
 · exact h.tell _ _ (Or.inr (Or.inl rfl)) (h.val _ _ _ hu)
 split
 · split
   · exact h2 _ _ _ _ (h.val _ _ _ hu)
   · exact h2 _ _ _ _ (h.val _ _ _ hu)
 · exact h.loop (fun s f hu => h2 _ _ s f hu) _ _ _ _ _ hu
theorem Xr.Cl.cmds (h : Xr.Cl U) {m : Nat} {hc : Xr.S → Xr.F → Int → Int → List (Pg.XT m) → Xr.T} (h1 : ∀ s f v q l, U s → U (hc s f v q l).1) : ∀ (j : Nat) (l : List (Pg.CT m j)) (a : Nat) (s : Xr.S) (f : Xr.F), U s → U (Xr.cmds hc j l a s f).1
 | 0, l, a, s, f, hu => hu
 | j + 1, l, a, s, f, hu => Xr.walk_u (fun c a s f hu => h.cmdT h1 (Xr.Cl.cmds h h1 j) c a _ _ (h.step _ _ _ hu)) _ l a s f hu
theorem Xr.Cl.fn (h : Xr.Cl U) {m n : Nat} (p : List (Pg.FT m n)) {hc : Xr.S → Xr.F → Int → Int → List (Pg.XT m) → Xr.T} (h1 : ∀ s f v q l, U s → U (hc s f v q l).1) (q : Nat) (s : Xr.S) (g : Xr.F) (hu : U s) : U (Xr.fn p hc q s g).1 := by
 unfold Xr.fn
 split
 · exact hu
 · exact h.cmds h1 _ _ _ _ _ hu
theorem Xr.Cl.callB (h : Xr.Cl U) {m n : Nat} (p : List (Pg.FT m n)) {hc : Xr.S → Xr.F → Int → Int → List (Pg.XT m) → Xr.T} (h1 : ∀ s f v q l, U s → U (hc s f v q l).1) (x : Pg.FT m n) (q : Nat) (zs : List Int) (v : Int) (s : Xr.S) (f : Xr.F) (hu : U s) : U (Xr.callB p hc x q zs v s f).1 :=
 h.wr _ _ _ _ _ _ (h.tell _ _ (Or.inr (Or.inr rfl)) (h.val _ _ _ (h.fn p h1 _ _ _ (h.par _ _ _ _ _ (h.call s f q hu)))))
theorem Xr.Cl.calls (h : Xr.Cl U) {m n : Nat} (p : List (Pg.FT m n)) : ∀ (d : Nat) (s : Xr.S) (f : Xr.F) (v q : Int) (l : List (Pg.XT m)), U s → U (Xr.call p d s f v q l).1
 | 0, s, f, v, q, l, hu => h.fin _ _ _ _ (h.arg f l s hu)
 | d + 1, s, f, v, q, l, hu => by
  unfold Xr.call
  split
  · exact hu
  · exact h.callB p (Xr.Cl.calls h p d) _ _ _ _ _ _ (h.arg f l s hu)
theorem Xr.Cl.all (h : Xr.Cl U) {m n : Nat} {p : List (Pg.FT m n)} {x : Pg.FT m n} (hx : p[p.length - 1]? = some x) (inp : List Int) (fuel : Nat) (hu : U ⟨inp, fuel, 0, [], false⟩) : ∃ s, U s ∧ s.ended = true ∧ s.evs = Xr.main p inp fuel := by
 have h1 := h.fin _ (Xr.fn p (Xr.call p 5) (p.length - 1) ⟨inp, fuel, 0, [], false⟩ (Xr.newF 0 0 x.sizes)).2 (-1) 0 (h.fn p (h.calls p 5) (p.length - 1) ⟨inp, fuel, 0, [], false⟩ (Xr.newF 0 0 x.sizes) hu)
 refine ⟨_, h1, rfl, ?_⟩
 unfold Xr.main
 rw [hx]
end
theorem Xr.tell_no {s : Xr.S} (h : s.ended = false) (e : Ev) : Xr.tell s e = { s with evs := s.evs ++ [e] } := by
 unfold Xr.tell
 rw [if_neg (by simp [h])]
theorem Xr.tell_yes {s : Xr.S} (h : s.ended = true) (e : Ev) : Xr.tell s e = s := by
 unfold Xr.tell
 rw [if_pos h]
theorem Xr.cl_evs {U : List Ev → Bool → Prop} (h1 : ∀ l e, e.n0 ≠ 7 → U l false → U (l ++ [e]) false) (h2 : ∀ l e, e.n0 = 7 → U l false → U (l ++ [e]) true) : Xr.Cl (fun s => U s.evs s.ended) := by
 have ht : ∀ (s : Xr.S) (e : Ev), e.n0 ≠ 7 → U s.evs s.ended → U (Xr.tell s e).evs (Xr.tell s e).ended := fun s e he hu => by
  cases hs : s.ended with
  | true => rw [Xr.tell_yes hs]; exact hu
  | false => rw [Xr.tell_no hs]; show U (s.evs ++ [e]) s.ended; rw [hs] at hu ⊢; exact h1 _ _ he hu
 have hf : ∀ (s : Xr.S) (f : Xr.F) (a how : Int), U s.evs s.ended → U (Xr.fin s f a how).evs (Xr.fin s f a how).ended := fun s f a how hu => by
  show U (Xr.tell s _).evs true
  cases hs : s.ended with
  | true => rw [Xr.tell_yes hs]; rw [hs] at hu; exact hu
  | false => rw [Xr.tell_no hs]; rw [hs] at hu; exact h2 _ _ rfl hu
 refine ⟨fun s e he hu => ht s e (by rcases he with h | h | h <;> omega) hu, hf, fun s f a hu => ?_, fun s f hu => ht _ _ (by show (3 : Int) ≠ 7; omega) hu, fun s f q hu => ht _ _ (by show (5 : Int) ≠ 7; omega) hu⟩
 show U (Xr.stepS s f a).evs (Xr.stepS s f a).ended
 unfold Xr.stepS
 split
 · exact hf _ _ _ _ hu
 · exact ht _ _ (by show (1 : Int) ≠ 7; omega) hu
theorem Xr.cl_same (L : List Ev) : Xr.Cl (fun s => s.ended = true ∧ s.evs = L) := by
 have ht : ∀ (s : Xr.S) (e : Ev), s.ended = true ∧ s.evs = L → (Xr.tell s e).ended = true ∧ (Xr.tell s e).evs = L := fun s e hu => by rw [Xr.tell_yes hu.1]; exact hu
 refine ⟨fun s e _ hu => ht s e hu, fun s f a how hu => ⟨rfl, (ht s _ hu).2⟩, fun s f a hu => ?_, fun s f hu => ht _ _ hu, fun s f q hu => ht _ _ hu⟩
 show (Xr.stepS s f a).ended = true ∧ (Xr.stepS s f a).evs = L
 unfold Xr.stepS
 split
 · exact ⟨rfl, (ht s _ hu).2⟩
 · exact ht _ _ hu
theorem Xr.cl_grows (L : List Ev) : Xr.Cl (fun s => L <+: s.evs) := by
 refine Xr.cl_evs (U := fun l _ => L <+: l) (fun l e _ hu => ?_) (fun l e _ hu => ?_)
 · exact hu.trans (List.prefix_append _ _)
 · exact hu.trans (List.prefix_append _ _)
end Go.Proofs.Ytcalcikclcmkaaa
namespace Go.Proofs.Ytcalcikclcmkaaa
open Go.RowKit
set_option linter.unusedVariables false
abbrev Mc.K (m : Nat) : Type := Option ((j : Nat) × Pg.CT m (j + 1) × Nat)
structure Mc.F (m : Nat) where
 fr : Xr.F
 fn : Nat
 ks : List (Mc.K m)
structure Mc.St (m : Nat) where
 s : Xr.S
 fs : List (Mc.F m)
def Mc.pushes {m : Nat} (j : Nat) : List (Pg.CT m (j + 1)) → Nat → List (Mc.K m)
 | [], _ => []
 | c :: r, a => some ⟨j, c, a⟩ :: Mc.pushes j r (a + Pg.cnt (j + 1) c)
def Mc.push {m : Nat} : (j : Nat) → List (Pg.CT m j) → Nat → List (Mc.K m)
 | 0, _, _ => []
 | j + 1, l, a => Mc.pushes j l a
def Mc.var {m : Nat} (ks : List (Mc.K m)) : Int :=
 match ks with
 | some ⟨_, c, _⟩ :: _ => c.1.2.1
 | _ => 0
def Mc.call {m n : Nat} (p : List (Pg.FT m n)) (k : Mc.K m) (ks : List (Mc.K m)) (s : Xr.S) (fr : Xr.F) (fn : Nat) (r : List (Mc.F m)) (q : Int) (l : List (Pg.XT m)) : Mc.St m :=
 if r.length = 5 then ⟨Xr.fin (Xr.argS fr l s) fr fr.at_ 4, []⟩
 else
  match p[q.toNat]? with
  | none => ⟨s, ⟨fr, fn, ks⟩ :: r⟩
  | some x =>
   let s1 := Xr.argS fr l s
   let s2 : Xr.S := { s1 with made := s1.made + 1 }
   let g := Xr.newF s2.made (fr.deep + 1) x.sizes
   let s3 := Xr.tell s2 ⟨5, fr.num, fr.at_, (q.toNat : Nat), 0, g.num⟩
   ⟨Xr.parS g fr.at_ 0 (Xr.argV fr l s) s3, ⟨Xr.parF 0 (Xr.argV fr l s) g, q.toNat, Mc.push n x.cmds (Xr.firstOf p q.toNat) ++ [none]⟩ :: ⟨fr, fn, k :: ks⟩ :: r⟩
def Mc.cmd {m n : Nat} (p : List (Pg.FT m n)) (j : Nat) (c : Pg.CT m (j + 1)) (a : Nat) (s : Xr.S) (fr : Xr.F) (fn : Nat) (ks : List (Mc.K m)) (r : List (Mc.F m)) : Mc.St m :=
 if c.1.1 = 1 then ⟨Xr.wrS (Xr.valS s fr c.2.1.2.1) fr fr.at_ c.1.2.1 0 (Xr.valV s fr c.2.1.2.1), ⟨Xr.wrF fr c.1.2.1 0 (Xr.valV s fr c.2.1.2.1), fn, ks⟩ :: r⟩
 else if c.1.1 = 2 then ⟨Xr.putS s fr c.1.2.1 c.2.1.1 c.2.1.2.1, ⟨Xr.putF s fr c.1.2.1 c.2.1.1 c.2.1.2.1, fn, ks⟩ :: r⟩
 else if c.1.1 = 3 then Mc.call p (some ⟨j, c, a⟩) ks s fr fn r c.1.2.2 c.2.1.2.2
 else if c.1.1 = 4 then ⟨Xr.readS s fr c.1.2.1, ⟨Xr.readF s fr c.1.2.1, fn, ks⟩ :: r⟩
 else if c.1.1 = 5 then ⟨Xr.tell (Xr.valS s fr c.2.1.2.1) ⟨4, fr.num, fr.at_, 0, 0, Xr.valV s fr c.2.1.2.1⟩, ⟨fr, fn, ks⟩ :: r⟩
 else if c.1.1 = 6 then ⟨Xr.valS s fr c.2.1.2.1, ⟨fr, fn, (if Xr.valV s fr c.2.1.2.1 ≠ 0 then Mc.push j c.2.2.1 (a + 1) else Mc.push j c.2.2.2 (a + 1 + Pg.cnts c.2.2.1)) ++ ks⟩ :: r⟩
 else ⟨Xr.valS s fr c.2.1.2.1, ⟨fr, fn, if Xr.valV s fr c.2.1.2.1 ≠ 0 then Mc.push j c.2.2.1 (a + 1) ++ some ⟨j, c, a⟩ :: ks else ks⟩ :: r⟩
def Mc.back {m n : Nat} (p : List (Pg.FT m n)) (s : Xr.S) (f : Mc.F m) (r : List (Mc.F m)) : Mc.St m :=
 match r with
 | [] => ⟨Xr.fin s f.fr (-1) 0, []⟩
 | g :: r2 =>
  match p[f.fn]? with
  | none => ⟨s, []⟩
  | some x =>
   let z := Xr.valV s f.fr x.res
   ⟨Xr.wrS (Xr.tell (Xr.valS s f.fr x.res) ⟨6, f.fr.num, g.fr.at_, 0, 0, z⟩) g.fr g.fr.at_ (Mc.var g.ks) 0 z, ⟨Xr.wrF g.fr (Mc.var g.ks) 0 z, g.fn, g.ks.tail⟩ :: r2⟩
def Mc.do1 {m n : Nat} (p : List (Pg.FT m n)) (t : Mc.St m) : Mc.St m :=
 match t.fs with
 | [] => t
 | f :: r =>
  match f.ks with
  | [] => t
  | none :: _ => Mc.back p t.s f r
  | some ⟨j, c, a⟩ :: ks => if t.s.fuel = 0 then ⟨Xr.fin t.s f.fr a 1, []⟩ else Mc.cmd p j c a (Xr.stepS t.s f.fr a) (Xr.stepF t.s f.fr a) f.fn ks r
def Mc.go {m n : Nat} (p : List (Pg.FT m n)) : Nat → Mc.St m → Mc.St m
 | 0, t => t
 | k + 1, t => if t.s.ended then t else Mc.go p k (Mc.do1 p t)
section
variable {m n : Nat} {p : List (Pg.FT m n)}
theorem Mc.go_ended {t : Mc.St m} (h : t.s.ended = true) : ∀ k, Mc.go p k t = t
 | 0 => rfl
 | k + 1 => by
  unfold Mc.go
  rw [if_pos h]
theorem Mc.go_add : ∀ (k l : Nat) (t : Mc.St m), Mc.go p (k + l) t = Mc.go p l (Mc.go p k t)
 | 0, l, t => by rw [Nat.zero_add]; rfl
 | k + 1, l, t => by
  rw [show k + 1 + l = (k + l) + 1 by omega]
  cases h : t.s.ended with
  | true => rw [Mc.go_ended h, Mc.go_ended h, Mc.go_ended h]
  | false =>
   have e : ∀ i, Mc.go p (i + 1) t = Mc.go p i (Mc.do1 p t) := fun i => by
    show (if t.s.ended then t else _) = _
    rw [if_neg (by simp [h])]
   rw [e, e, Mc.go_add k l]
def Mc.Rch (p : List (Pg.FT m n)) (t : Mc.St m) (s : Xr.S) (fs : List (Mc.F m)) : Prop :=
 ∃ k, (Mc.go p k t).s.ended = s.ended ∧ (Mc.go p k t).s.evs = s.evs ∧ (s.ended = false → Mc.go p k t = ⟨s, fs⟩)
theorem Mc.Rch.refl (s : Xr.S) (fs : List (Mc.F m)) : Mc.Rch p ⟨s, fs⟩ s fs := ⟨0, rfl, rfl, fun _ => rfl⟩
theorem Mc.Rch.over {s s' : Xr.S} {fs : List (Mc.F m)} (h : s.ended = true) (h1 : s'.ended = true ∧ s'.evs = s.evs) (fs' : List (Mc.F m)) : Mc.Rch p ⟨s, fs⟩ s' fs' :=
 ⟨0, h.trans h1.1.symm, h1.2.symm, fun e => by rw [h1.1] at e; cases e⟩
theorem Mc.Rch.trans {t : Mc.St m} {s1 s2 : Xr.S} {f1 f2 : List (Mc.F m)} (h : Mc.Rch p t s1 f1) (h1 : s1.ended = false → Mc.Rch p ⟨s1, f1⟩ s2 f2) (h2 : s1.ended = true → s2.ended = true ∧ s2.evs = s1.evs) : Mc.Rch p t s2 f2 := by
 obtain ⟨k, a1, a2, a3⟩ := h
 cases he : s1.ended with
 | true =>
  obtain ⟨b1, b2⟩ := h2 he
  exact ⟨k, by rw [a1, he, b1], by rw [a2, b2], fun e => by rw [b1] at e; cases e⟩
 | false =>
  obtain ⟨l, c1, c2, c3⟩ := h1 he
  have hg : Mc.go p (k + l) t = Mc.go p l ⟨s1, f1⟩ := by rw [Mc.go_add, a3 he]
  exact ⟨k + l, by rw [hg]; exact c1, by rw [hg]; exact c2, fun e => by rw [hg]; exact c3 e⟩
theorem Mc.Rch.step {t : Mc.St m} {s2 : Xr.S} {f2 : List (Mc.F m)} (he : t.s.ended = false) (h : Mc.Rch p (Mc.do1 p t) s2 f2) : Mc.Rch p t s2 f2 := by
 obtain ⟨k, a1, a2, a3⟩ := h
 have hg : Mc.go p (k + 1) t = Mc.go p k (Mc.do1 p t) := by
  show (if t.s.ended then t else _) = _
  rw [if_neg (by simp [he])]
 exact ⟨k + 1, by rw [hg]; exact a1, by rw [hg]; exact a2, fun e => by rw [hg]; exact a3 e⟩
theorem Mc.push_nil (j : Nat) (a : Nat) : Mc.push j ([] : List (Pg.CT m j)) a = [] := by
 cases j <;> rfl
def Mc.CmdsGo (p : List (Pg.FT m n)) (hc : Xr.S → Xr.F → Int → Int → List (Pg.XT m) → Xr.T) (d : Nat) (j : Nat) : Prop :=
 ∀ (l : List (Pg.CT m j)) (a : Nat) (s : Xr.S) (fr : Xr.F) (fn : Nat) (K : List (Mc.K m)) (r : List (Mc.F m)), r.length + d = 5 →
  Mc.Rch p ⟨s, ⟨fr, fn, Mc.push j l a ++ K⟩ :: r⟩ (Xr.cmds hc j l a s fr).1 (⟨(Xr.cmds hc j l a s fr).2, fn, K⟩ :: r)
def Mc.CallGo (p : List (Pg.FT m n)) (hc : Xr.S → Xr.F → Int → Int → List (Pg.XT m) → Xr.T) (d : Nat) : Prop :=
 ∀ (j : Nat) (c : Pg.CT m (j + 1)) (a : Nat) (s : Xr.S) (fr : Xr.F) (fn : Nat) (K : List (Mc.K m)) (r : List (Mc.F m)), r.length + d = 5 → s.ended = false →
  Mc.Rch p (Mc.call p (some ⟨j, c, a⟩) K s fr fn r c.1.2.2 c.2.1.2.2) (hc s fr c.1.2.1 c.1.2.2 c.2.1.2.2).1 (⟨(hc s fr c.1.2.1 c.1.2.2 c.2.1.2.2).2, fn, K⟩ :: r)
theorem Mc.step_not {s : Xr.S} (h : s.ended = false) (h0 : s.fuel ≠ 0) (f : Xr.F) (a : Int) : (Xr.stepS s f a).ended = false ∧ (Xr.stepS s f a).fuel + 1 = s.fuel := by
 unfold Xr.stepS
 rw [if_neg h0, Xr.tell_no (by exact h)]
 exact ⟨h, by show s.fuel - 1 + 1 = s.fuel; omega⟩
theorem Mc.step_end {s : Xr.S} (h0 : s.fuel = 0) (f : Xr.F) (a : Int) : Xr.stepS s f a = Xr.fin s f a 1 := by
 unfold Xr.stepS
 rw [if_pos h0]
theorem Mc.cl_fuel (F : Nat) : Xr.Cl (fun s => s.fuel ≤ F) := by
 have ht : ∀ (s : Xr.S) (e : Ev), (Xr.tell s e).fuel = s.fuel := fun s e => by unfold Xr.tell; split <;> rfl
 refine ⟨fun s e _ h => by show (Xr.tell s e).fuel ≤ F; rw [ht]; exact h, fun s f a how h => by show (Xr.tell s _).fuel ≤ F; rw [ht]; exact h, fun s f a h => ?_, fun s f h => by show (Xr.tell (Xr.inS s) _).fuel ≤ F; rw [ht]; exact h, fun s f q h => by show (Xr.tell _ _).fuel ≤ F; rw [ht]; exact h⟩
 show (Xr.stepS s f a).fuel ≤ F
 unfold Xr.stepS
 split
 · show (Xr.tell s _).fuel ≤ F
   rw [ht]; exact h
 · rw [ht]
   show s.fuel - 1 ≤ F
   omega
section
variable {hc : Xr.S → Xr.F → Int → Int → List (Pg.XT m) → Xr.T} {d : Nat}
theorem Mc.loop_go (hk : ∀ (U : Xr.S → Prop), Xr.Cl U → ∀ s f v q l, U s → U (hc s f v q l).1) {j : Nat} (hcs : Mc.CmdsGo p hc d j) (c : Pg.CT m (j + 1)) (hc7 : ¬ c.1.1 = 1 ∧ ¬ c.1.1 = 2 ∧ ¬ c.1.1 = 3 ∧ ¬ c.1.1 = 4 ∧ ¬ c.1.1 = 5 ∧ ¬ c.1.1 = 6) (a : Nat) (fn : Nat) (K : List (Mc.K m)) (r : List (Mc.F m)) (hr : r.length + d = 5) :
  ∀ (k : Nat) (s : Xr.S) (fr : Xr.F), s.ended = false → s.fuel + 1 ≤ k → Mc.Rch p (Mc.cmd p j c a s fr fn K r) (Xr.loop (Xr.cmds hc j c.2.2.1 (a + 1)) c.2.1.2.1 a k s fr).1 (⟨(Xr.loop (Xr.cmds hc j c.2.2.1 (a + 1)) c.2.1.2.1 a k s fr).2, fn, K⟩ :: r)
 | 0, s, fr, _, hf => absurd hf (by omega)
 | k + 1, s, fr, he, hf => by
  obtain ⟨c1, c2, c3, c4, c5, c6⟩ := hc7
  have hbody : ∀ (U : Xr.S → Prop), Xr.Cl U → ∀ s f, U s → U (Xr.cmds hc j c.2.2.1 (a + 1) s f).1 := fun U hU s f hu => hU.cmds (hk U hU) j _ _ s f hu
  unfold Mc.cmd
  rw [if_neg c1, if_neg c2, if_neg c3, if_neg c4, if_neg c5, if_neg c6]
  by_cases hv : Xr.valV s fr c.2.1.2.1 = 0
  · rw [if_neg (fun h => h hv)]
    unfold Xr.loop
    rw [if_pos hv]
    exact Mc.Rch.refl _ _
  · rw [if_pos hv]
    have hl : Xr.loop (Xr.cmds hc j c.2.2.1 (a + 1)) c.2.1.2.1 a (k + 1) s fr = Xr.loop (Xr.cmds hc j c.2.2.1 (a + 1)) c.2.1.2.1 a k (Xr.stepS (Xr.cmds hc j c.2.2.1 (a + 1) (Xr.valS s fr c.2.1.2.1) fr).1 (Xr.cmds hc j c.2.2.1 (a + 1) (Xr.valS s fr c.2.1.2.1) fr).2 a) (Xr.stepF (Xr.cmds hc j c.2.2.1 (a + 1) (Xr.valS s fr c.2.1.2.1) fr).1 (Xr.cmds hc j c.2.2.1 (a + 1) (Xr.valS s fr c.2.1.2.1) fr).2 a) := by
     show (if _ then _ else _) = _
     rw [if_neg hv]
    rw [hl]
    have h1 := hcs c.2.2.1 (a + 1) (Xr.valS s fr c.2.1.2.1) fr fn (some ⟨j, c, a⟩ :: K) r hr
    have hfu : (Xr.cmds hc j c.2.2.1 (a + 1) (Xr.valS s fr c.2.1.2.1) fr).1.fuel ≤ s.fuel := hbody _ (Mc.cl_fuel s.fuel) _ _ ((Mc.cl_fuel s.fuel).val _ _ _ (Nat.le_refl _))
    generalize Xr.cmds hc j c.2.2.1 (a + 1) (Xr.valS s fr c.2.1.2.1) fr = tb at *
    have hrest : ∀ (U : Xr.S → Prop), Xr.Cl U → U tb.1 → U (Xr.loop (Xr.cmds hc j c.2.2.1 (a + 1)) c.2.1.2.1 a k (Xr.stepS tb.1 tb.2 a) (Xr.stepF tb.1 tb.2 a)).1 := fun U hU hu => hU.loop (hbody U hU) _ _ _ _ _ (hU.step _ _ _ hu)
    refine h1.trans (fun he2 => ?_) (fun he2 => hrest _ (Xr.cl_same tb.1.evs) ⟨he2, rfl⟩)
    refine Mc.Rch.step he2 ?_
    show Mc.Rch p (if tb.1.fuel = 0 then _ else _) _ _
    by_cases h0 : tb.1.fuel = 0
    · rw [if_pos h0]
      refine Mc.Rch.over rfl ?_ _
      have h3 : ∀ s', s'.ended = true ∧ s'.evs = (Xr.fin tb.1 tb.2 a 1).evs → (Xr.loop (Xr.cmds hc j c.2.2.1 (a + 1)) c.2.1.2.1 a k s' (Xr.stepF tb.1 tb.2 a)).1.ended = true ∧ (Xr.loop (Xr.cmds hc j c.2.2.1 (a + 1)) c.2.1.2.1 a k s' (Xr.stepF tb.1 tb.2 a)).1.evs = (Xr.fin tb.1 tb.2 a 1).evs := fun s' hs' => (Xr.cl_same _).loop (hbody _ (Xr.cl_same _)) _ _ _ _ _ hs'
      exact h3 _ (by rw [Mc.step_end h0]; exact ⟨rfl, rfl⟩)
    · rw [if_neg h0]
      obtain ⟨q1, q2⟩ := Mc.step_not he2 h0 tb.2 a
      exact Mc.loop_go hk hcs c ⟨c1, c2, c3, c4, c5, c6⟩ a fn K r hr k _ _ q1 (by show (Xr.stepS tb.1 tb.2 a).fuel + 1 ≤ k; omega)
theorem Mc.cmd_go (hk : ∀ (U : Xr.S → Prop), Xr.Cl U → ∀ s f v q l, U s → U (hc s f v q l).1) (hcl : Mc.CallGo p hc d) {j : Nat} (hcs : Mc.CmdsGo p hc d j) (c : Pg.CT m (j + 1)) (a : Nat) (s : Xr.S) (fr : Xr.F) (fn : Nat) (K : List (Mc.K m)) (r : List (Mc.F m)) (hr : r.length + d = 5) (he : s.ended = false) :
  Mc.Rch p ⟨s, ⟨fr, fn, some ⟨j, c, a⟩ :: K⟩ :: r⟩ (Xr.cmd hc (Xr.cmds hc j) c a s fr).1 (⟨(Xr.cmd hc (Xr.cmds hc j) c a s fr).2, fn, K⟩ :: r) := by
 refine Mc.Rch.step he ?_
 show Mc.Rch p (if s.fuel = 0 then _ else _) _ _
 unfold Xr.cmd
 by_cases h0 : s.fuel = 0
 · rw [if_pos h0]
   refine Mc.Rch.over rfl ?_ _
   have h3 := (Xr.cl_same (Xr.fin s fr a 1).evs).cmdT (fun s f v q l hu => hk _ (Xr.cl_same _) s f v q l hu) (fun l a s f hu => (Xr.cl_same _).cmds (hk _ (Xr.cl_same _)) j l a s f hu) c a (Xr.stepS s fr a) (Xr.stepF s fr a) (by rw [Mc.step_end h0]; exact ⟨rfl, rfl⟩)
   exact h3
 · rw [if_neg h0]
   obtain ⟨q1, q2⟩ := Mc.step_not he h0 fr a
   generalize Xr.stepS s fr a = s1 at *
   generalize Xr.stepF s fr a = f1 at *
   by_cases c1 : c.1.1 = 1
   · unfold Mc.cmd Xr.cmdT
     rw [if_pos c1, if_pos c1]
     exact Mc.Rch.refl _ _
   by_cases c2 : c.1.1 = 2
   · unfold Mc.cmd Xr.cmdT
     rw [if_neg c1, if_neg c1, if_pos c2, if_pos c2]
     exact Mc.Rch.refl _ _
   by_cases c3 : c.1.1 = 3
   · unfold Mc.cmd Xr.cmdT
     rw [if_neg c1, if_neg c1, if_neg c2, if_neg c2, if_pos c3, if_pos c3]
     exact hcl j c a s1 f1 fn K r hr q1
   by_cases c4 : c.1.1 = 4
   · unfold Mc.cmd Xr.cmdT
     rw [if_neg c1, if_neg c1, if_neg c2, if_neg c2, if_neg c3, if_neg c3, if_pos c4, if_pos c4]
     exact Mc.Rch.refl _ _
   by_cases c5 : c.1.1 = 5
   · unfold Mc.cmd Xr.cmdT
     rw [if_neg c1, if_neg c1, if_neg c2, if_neg c2, if_neg c3, if_neg c3, if_neg c4, if_neg c4, if_pos c5, if_pos c5]
     exact Mc.Rch.refl _ _
   by_cases c6 : c.1.1 = 6
   · unfold Mc.cmd Xr.cmdT
     rw [if_neg c1, if_neg c1, if_neg c2, if_neg c2, if_neg c3, if_neg c3, if_neg c4, if_neg c4, if_neg c5, if_neg c5, if_pos c6, if_pos c6]
     by_cases hv : Xr.valV s1 f1 c.2.1.2.1 ≠ 0
     · rw [if_pos hv, if_pos hv]
       exact hcs _ _ _ _ _ _ _ hr
     · rw [if_neg hv, if_neg hv]
       exact hcs _ _ _ _ _ _ _ hr
   · have hl := Mc.loop_go hk hcs c ⟨c1, c2, c3, c4, c5, c6⟩ a fn K r hr (s1.fuel + 2) s1 f1 q1 (by omega)
     unfold Xr.cmdT
     rw [if_neg c1, if_neg c2, if_neg c3, if_neg c4, if_neg c5, if_neg c6]
     exact hl
theorem Mc.cmds_go (hk : ∀ (U : Xr.S → Prop), Xr.Cl U → ∀ s f v q l, U s → U (hc s f v q l).1) (hcl : Mc.CallGo p hc d) : ∀ j : Nat, Mc.CmdsGo p hc d j
 | 0 => fun l a s fr fn K r hr => Mc.Rch.refl _ _
 | j + 1 => by
  have ih := Mc.cmds_go hk hcl j
  intro l
  induction l with
  | nil => intro a s fr fn K r hr; exact Mc.Rch.refl _ _
  | cons c l ihl =>
   intro a s fr fn K r hr
   show Mc.Rch p ⟨s, ⟨fr, fn, some ⟨j, c, a⟩ :: (Mc.pushes j l (a + Pg.cnt (j + 1) c) ++ K)⟩ :: r⟩ (Xr.walk (Xr.cmd hc (Xr.cmds hc j)) (Pg.cnt (j + 1)) (c :: l) a s fr).1 (⟨(Xr.walk (Xr.cmd hc (Xr.cmds hc j)) (Pg.cnt (j + 1)) (c :: l) a s fr).2, fn, K⟩ :: r)
   unfold Xr.walk
   cases he : s.ended with
   | true =>
    rw [if_pos rfl]
    exact Mc.Rch.over he ⟨he, rfl⟩ _
   | false =>
    rw [if_neg (by simp)]
    refine (Mc.cmd_go hk hcl ih c a s fr fn (Mc.pushes j l (a + Pg.cnt (j + 1) c) ++ K) r hr he).trans (fun _ => ihl _ _ _ _ _ _ hr) (fun he2 => ?_)
    have h3 : Xr.walk (Xr.cmd hc (Xr.cmds hc j)) (Pg.cnt (j + 1)) l (a + Pg.cnt (j + 1) c) (Xr.cmd hc (Xr.cmds hc j) c a s fr).1 (Xr.cmd hc (Xr.cmds hc j) c a s fr).2 = ((Xr.cmd hc (Xr.cmds hc j) c a s fr).1, (Xr.cmd hc (Xr.cmds hc j) c a s fr).2) := by
     cases l with
     | nil => rfl
     | cons c' l' => unfold Xr.walk; rw [if_pos he2]
    rw [h3]
    exact ⟨he2, rfl⟩
end
theorem Mc.call_go : ∀ d : Nat, Mc.CallGo p (Xr.call p d) d
 | 0 => fun j c a s fr fn K r hr he => by
  unfold Mc.call
  rw [if_pos (by omega)]
  exact Mc.Rch.over rfl ⟨rfl, rfl⟩ _
 | d + 1 => fun j c a s fr fn K r hr he => by
  have ihc : Mc.CmdsGo p (Xr.call p d) d n := Mc.cmds_go (fun U hU => hU.calls p d) (Mc.call_go d) n
  unfold Mc.call
  rw [if_neg (by omega)]
  unfold Xr.call
  cases hx : p[c.1.2.2.toNat]? with
  | none => exact Mc.Rch.refl _ _
  | some x =>
   dsimp only
   unfold Xr.callB Xr.fn
   rw [hx]
   dsimp only
   generalize hg : Xr.newF _ _ _ = g
   generalize hs3 : Xr.parS g fr.at_ 0 _ _ = s3
   generalize hg3 : Xr.parF 0 _ g = g3
   have h1 := ihc x.cmds (Xr.firstOf p c.1.2.2.toNat) s3 g3 c.1.2.2.toNat [none] (⟨fr, fn, some ⟨j, c, a⟩ :: K⟩ :: r) (by rw [List.length_cons]; omega)
   generalize Xr.cmds (Xr.call p d) n x.cmds (Xr.firstOf p c.1.2.2.toNat) s3 g3 = t at *
   refine h1.trans (fun he2 => ?_) (fun he2 => ?_)
   · refine Mc.Rch.step he2 ?_
     show Mc.Rch p (Mc.back p t.1 ⟨t.2, c.1.2.2.toNat, [none]⟩ (⟨fr, fn, some ⟨j, c, a⟩ :: K⟩ :: r)) _ _
     unfold Mc.back
     dsimp only
     rw [hx]
     exact Mc.Rch.refl _ _
   · have h5 := (Xr.cl_same t.1.evs).wr _ fr fr.at_ c.1.2.1 0 (Xr.valV t.1 t.2 x.res) ((Xr.cl_same t.1.evs).tell _ ⟨6, t.2.num, fr.at_, 0, 0, Xr.valV t.1 t.2 x.res⟩ (Or.inr (Or.inr rfl)) ((Xr.cl_same t.1.evs).val t.1 t.2 x.res ⟨he2, rfl⟩))
     exact h5
def Mc.ini (p : List (Pg.FT m n)) (x : Pg.FT m n) (inp : List Int) (fuel : Nat) : Mc.St m :=
 ⟨⟨inp, fuel, 0, [], false⟩, [⟨Xr.newF 0 0 x.sizes, p.length - 1, Mc.push n x.cmds (Xr.firstOf p (p.length - 1)) ++ [none]⟩]⟩
theorem Mc.main_go {x : Pg.FT m n} (hx : p[p.length - 1]? = some x) (inp : List Int) (fuel : Nat) : ∃ k, (Mc.go p k (Mc.ini p x inp fuel)).s.ended = true ∧ (Mc.go p k (Mc.ini p x inp fuel)).s.evs = Xr.main p inp fuel := by
 have h1 := Mc.cmds_go (p := p) (fun U hU => hU.calls p 5) (Mc.call_go 5) n x.cmds (Xr.firstOf p (p.length - 1)) ⟨inp, fuel, 0, [], false⟩ (Xr.newF 0 0 x.sizes) (p.length - 1) [none] [] rfl
 have hm : Xr.main p inp fuel = (Xr.fin (Xr.cmds (Xr.call p 5) n x.cmds (Xr.firstOf p (p.length - 1)) ⟨inp, fuel, 0, [], false⟩ (Xr.newF 0 0 x.sizes)).1 (Xr.cmds (Xr.call p 5) n x.cmds (Xr.firstOf p (p.length - 1)) ⟨inp, fuel, 0, [], false⟩ (Xr.newF 0 0 x.sizes)).2 (-1) 0).evs := by
  unfold Xr.main Xr.fn
  rw [hx]
 rw [hm]
 generalize Xr.cmds (Xr.call p 5) n x.cmds (Xr.firstOf p (p.length - 1)) ⟨inp, fuel, 0, [], false⟩ (Xr.newF 0 0 x.sizes) = t at *
 have h2 : Mc.Rch p (Mc.ini p x inp fuel) (Xr.fin t.1 t.2 (-1) 0) [] := by
  refine h1.trans (fun he => ?_) (fun he => ⟨rfl, ?_⟩)
  · refine Mc.Rch.step he ?_
    exact Mc.Rch.refl _ _
  · show (Xr.tell t.1 _).evs = _
    rw [Xr.tell_yes he]
 obtain ⟨k, a1, a2, a3⟩ := h2
 exact ⟨k, a1, a2⟩
end
end Go.Proofs.Ytcalcikclcmkaaa
