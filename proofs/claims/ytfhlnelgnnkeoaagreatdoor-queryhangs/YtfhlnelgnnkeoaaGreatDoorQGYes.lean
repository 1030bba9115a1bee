/-
  The walk of QueryHangs, where all three queries are well. By the verifier.
-/
import Derived.Test.YtfhlnelgnnkeoaaGreatDoorQHangF
import Derived.Test.YtfhlnelgnnkeoaaGreatDoorQBegun
namespace Go.Proofs.YtfhlnelgnnkeoaaGreatDoor
open Go.RowKit
set_option linter.unusedVariables false

theorem Qk.one_ok {n : Nat} (k : Int) (x : Qk.AT n) (hk : k = 7 ∨ k = 11 ∨ k = 12) (len : Nat) (h1 : 1 + Qk.parts n x ≤ 15) (h2 : Qk.wrong n x = 0) (h3 : len ≤ 4000) : Qk.hErr (n + 1) (Qk.one k x) len = 0 := by
  unfold Qk.hErr Qk.chk
  rw [Qk.one_parts, Qk.one_wrong k x hk]
  have a : ¬ 15 < 1 + Qk.parts n x := by omega
  have b : ¬ 4000 < len := by omega
  simp [a, h2, b]
theorem Qk.since_step {n : Nat} (x y : Qk.AT n) (l : List Ev) {t : Nat} (h : t < l.length) :
    Qk.at_ (Qk.marks (n + 1) (Qk.two 13 x y) l) t = (Qk.at_ (Qk.marks (n + 1) (Qk.two 9 y y) l) t || (Qk.sinceTo (Qk.marks n x l) (Qk.marks n y l) t && Qk.at_ (Qk.marks (n + 1) (Qk.two 9 x x) l) t)) := by
  rw [Qk.at_since x y l h, Qk.at_or x l h, Qk.at_or y l h]
  rfl
theorem Qk.RB_take {W : World} {ad : Option Addr} {l : List Bool} (h : Dk.RB W ad l) (c : Nat) : Dk.RB W ad (l.take c) :=
  ⟨fun i s hi => by
    rw [List.getElem?_take] at hi
    split at hi
    · exact h.at_ i s hi
    · cases hi⟩
theorem Qk.RE_take {W : World} {ad : Option Addr} {l : List Ev} (h : Cl.RE W ad l) (c : Nat) : Cl.RE W ad (l.take c) :=
  ⟨fun i s hi => by
    rw [List.getElem?_take] at hi
    split at hi
    · exact h.at_ i s hi
    · cases hi⟩
theorem Qk.rb_cell {W : World} {g : Nat} {b : List Bool} (h : Dk.RB W (some ⟨g, 0, none⟩) b) {i : Nat} (hi : i < b.length) : g < W.heap.size ∧ W.cell? ⟨g, i, none⟩ = some (.bool (Qk.at_ b i)) := by
  obtain ⟨b', o', h1, h2, h3⟩ := h.at_ i _ (Qk.at_get hi)
  cases h1
  rw [Nat.zero_add] at h3
  exact ⟨h2, h3⟩
theorem Qk.two_looks {n : Nat} (x y : Qk.AT n) (h1 : Qk.looks n x = false) (h2 : Qk.looks n y = false) : Qk.looks (n + 1) (Qk.two 13 x y) = false := by
  show (((13 : Int) == 14) || (Qk.looks n x || (Qk.looks n y || false))) = false
  rw [h1, h2]
  decide

theorem Qk.slice_run (len cap c : Nat) (ad : Option Addr) (hnil : ad = none → cap = 0) (hc : c ≤ cap) (W : World) :
    (Instr.slice 37 (.slice ad len cap) none (some (.int .i64 (c : Nat))) none).run Tryz.prog W = .ok (.slice ad c cap) W := by
  have h1 : (c : Int) ≤ (cap : Int) := by omega
  have h2 : (0 : Int) ≤ (c : Int) := by omega
  cases ad with
  | none =>
    obtain rfl := hnil rfl
    obtain rfl : c = 0 := by omega
    simp [go_sem]
  | some a => simp [go_sem, h1, h2]
set_option maxRecDepth 100000 in
set_option maxHeartbeats 3200000 in
theorem qhangs_yes (n : Nat) (e d : Qk.E) (x y : Qk.AT n) (l : List Ev) (ad : Option Addr) (cap : Nat) (cut : Int) (w : World) (h : Qk.RA w n e x) (hd : Qk.RA w n d y) (hr : Cl.RE w ad l) (hw : ∀ e ∈ l, e.wf) (hcap : l.length ≤ cap) (hnil : ad = none → cap = 0)
    (h1 : Qk.hErr (n + 1) (Qk.two 13 x y) l.length = 0) (h2 : Qk.hErr (n + 1) (Qk.two 9 x x) l.length = 0) (h3 : Qk.hErr (n + 1) (Qk.two 9 y y) l.length = 0) :
    Calls Tryz.prog 7 #[e.val, d.val, .slice ad l.length cap, .int .i64 cut] w fun r w' => r = .returned (.bool true) ∧ Below w.heap.size w w' := by
  obtain ⟨hp1, hwx, hwy, hl4⟩ := (Qk.two_ok 13 x y (Or.inr rfl) l.length).1 h1
  obtain ⟨hp2, _, _, _⟩ := (Qk.two_ok 9 x x (Or.inl rfl) l.length).1 h2
  have h4 : Qk.hErr (n + 1) (Qk.one 11 x) l.length = 0 := Qk.one_ok 11 x (by decide) _ (by omega) hwx hl4
  have h5 : Qk.hErr (n + 3) (Qk.one 7 (Qk.one 12 (Qk.one 7 x))) l.length = 0 := Qk.one_ok 7 _ (by decide) _ (by rw [Qk.one_parts, Qk.one_parts]; omega) (by rw [Qk.one_wrong 12 _ (by decide), Qk.one_wrong 7 _ (by decide)]; exact hwx) hl4
  have H1 := hide (fun (W : World) (ha : Qk.RA W n e x) (hb : Qk.RA W n d y) (hre : Cl.RE W ad l) => show Calls Tryz.prog 19 #[.int .i64 13, .int .i64 0, .slice ad l.length cap, .slice (some ⟨W.heap.size, 0, none⟩) 2 2] (W.alloc (Obj.cells #[.int .i64 e.k, .int .i64 e.n, .slice e.args.ad e.args.len e.args.cap, .int .i64 d.k, .int .i64 d.n, .slice d.args.ad d.args.len d.args.cap] 24)) fun r w' => ∃ g, r = .returned (.tuple #[.slice (some ⟨g, 0, none⟩) l.length l.length, .bool true]) ∧ Dk.RB w' (some ⟨g, 0, none⟩) (Qk.marks (n + 1) (Qk.two 13 x y) l) ∧ (Qk.marks (n + 1) (Qk.two 13 x y) l).length = l.length ∧ Below W.heap.size W w' from
    (holds_yes (n + 1) 13 _ 2 2 _ l ad cap _ (Qk.made2 13 ha hb) (hre.later ((Below.refl W.heap.size W).alloc (Nat.le_refl _) _) (Nat.le_refl _)) hw h1).mono fun r w' ⟨g, k1, k2, k3, k4⟩ => ⟨g, k1, k2, k3, below_two k4⟩)
  have H2 := hide (fun (W : World) (ha : Qk.RA W n e x) (hre : Cl.RE W ad l) => show Calls Tryz.prog 19 #[.int .i64 9, .int .i64 0, .slice ad l.length cap, .slice (some ⟨W.heap.size, 0, none⟩) 2 2] (W.alloc (Obj.cells #[.int .i64 e.k, .int .i64 e.n, .slice e.args.ad e.args.len e.args.cap, .int .i64 e.k, .int .i64 e.n, .slice e.args.ad e.args.len e.args.cap] 24)) fun r w' => ∃ g, r = .returned (.tuple #[.slice (some ⟨g, 0, none⟩) l.length l.length, .bool true]) ∧ Dk.RB w' (some ⟨g, 0, none⟩) (Qk.marks (n + 1) (Qk.two 9 x x) l) ∧ (Qk.marks (n + 1) (Qk.two 9 x x) l).length = l.length ∧ Below W.heap.size W w' from
    (holds_yes (n + 1) 9 _ 2 2 _ l ad cap _ (Qk.made2 9 ha ha) (hre.later ((Below.refl W.heap.size W).alloc (Nat.le_refl _) _) (Nat.le_refl _)) hw h2).mono fun r w' ⟨g, k1, k2, k3, k4⟩ => ⟨g, k1, k2, k3, below_two k4⟩)
  have H3 := hide (fun (W : World) (ha : Qk.RA W n d y) (hre : Cl.RE W ad l) => show Calls Tryz.prog 19 #[.int .i64 9, .int .i64 0, .slice ad l.length cap, .slice (some ⟨W.heap.size, 0, none⟩) 2 2] (W.alloc (Obj.cells #[.int .i64 d.k, .int .i64 d.n, .slice d.args.ad d.args.len d.args.cap, .int .i64 d.k, .int .i64 d.n, .slice d.args.ad d.args.len d.args.cap] 24)) fun r w' => ∃ g, r = .returned (.tuple #[.slice (some ⟨g, 0, none⟩) l.length l.length, .bool true]) ∧ Dk.RB w' (some ⟨g, 0, none⟩) (Qk.marks (n + 1) (Qk.two 9 y y) l) ∧ (Qk.marks (n + 1) (Qk.two 9 y y) l).length = l.length ∧ Below W.heap.size W w' from
    (holds_yes (n + 1) 9 _ 2 2 _ l ad cap _ (Qk.made2 9 ha ha) (hre.later ((Below.refl W.heap.size W).alloc (Nat.le_refl _) _) (Nat.le_refl _)) hw h3).mono fun r w' ⟨g, k1, k2, k3, k4⟩ => ⟨g, k1, k2, k3, below_two k4⟩)
  have H4 := hide (fun (W : World) (ha : Qk.RA W n e x) (hre : Cl.RE W ad l) => show Calls Tryz.prog 16 #[.agg #[.int .i64 11, .int .i64 0, .slice (some ⟨W.heap.size, 0, none⟩) 1 1], .slice ad l.length cap] (W.alloc (Obj.cells #[.int .i64 e.k, .int .i64 e.n, .slice e.args.ad e.args.len e.args.cap] 24)) fun r w' => ∃ g, r = .returned (.tuple #[.slice (some ⟨g, 0, none⟩) l.length l.length, .int .i64 0]) ∧ Dk.RB w' (some ⟨g, 0, none⟩) (Qk.marks (n + 1) (Qk.one 11 x) l) ∧ (Qk.marks (n + 1) (Qk.one 11 x) l).length = l.length ∧ Below W.heap.size W w' from
    (Holds_ok (n + 1) ⟨11, 0, ⟨some ⟨W.heap.size, 0, none⟩, 1, 1⟩⟩ _ l ad cap _ (Qk.made1 11 ha) (hre.later ((Below.refl W.heap.size W).alloc (Nat.le_refl _) _) (Nat.le_refl _)) hw h4).mono fun r w' ⟨g, k1, _, k2, k3, k4⟩ => ⟨g, k1, k2.reads, k3, below_two k4⟩)
  have H5 := hide (fun (W : World) (ha : Qk.RA W n e x) (hre : Cl.RE W ad l) => show Calls Tryz.prog 16 #[.agg #[.int .i64 7, .int .i64 0, .slice (some ⟨W.heap.size + 1 + 1, 0, none⟩) 1 1], .slice ad l.length cap] (((W.alloc (Obj.cells #[.int .i64 e.k, .int .i64 e.n, .slice e.args.ad e.args.len e.args.cap] 24)).alloc (Obj.cells #[.int .i64 7, .int .i64 0, .slice (some ⟨W.heap.size, 0, none⟩) 1 1] 24)).alloc (Obj.cells #[.int .i64 12, .int .i64 0, .slice (some ⟨W.heap.size + 1, 0, none⟩) 1 1] 24)) fun r w' => ∃ g, r = .returned (.tuple #[.slice (some ⟨g, 0, none⟩) l.length l.length, .int .i64 0]) ∧ Dk.RB w' (some ⟨g, 0, none⟩) (Qk.marks (n + 1) (Qk.one 11 x) l) ∧ Below W.heap.size W w' from by
    have m1 := Qk.made1 7 ha
    have m2 := Qk.made1 12 m1
    have m3 := Qk.made1 7 m2
    have s1 : (W.alloc (Obj.cells #[.int .i64 e.k, .int .i64 e.n, .slice e.args.ad e.args.len e.args.cap] 24)).heap.size = W.heap.size + 1 := by simp
    have s2 : ((W.alloc (Obj.cells #[.int .i64 e.k, .int .i64 e.n, .slice e.args.ad e.args.len e.args.cap] 24)).alloc (Obj.cells #[.int .i64 7, .int .i64 0, .slice (some ⟨W.heap.size, 0, none⟩) 1 1] 24)).heap.size = W.heap.size + 1 + 1 := by simp
    have b1 := (Below.refl W.heap.size W).alloc (Nat.le_refl _) (Obj.cells #[.int .i64 e.k, .int .i64 e.n, .slice e.args.ad e.args.len e.args.cap] 24)
    have b2 := b1.alloc b1.size (Obj.cells #[.int .i64 7, .int .i64 0, .slice (some ⟨W.heap.size, 0, none⟩) 1 1] 24)
    have b3 := b2.alloc b2.size (Obj.cells #[.int .i64 12, .int .i64 0, .slice (some ⟨W.heap.size + 1, 0, none⟩) 1 1] 24)
    rw [s2, s1] at m3
    rw [Qk.once_is]
    exact (Holds_ok (n + 3) ⟨7, 0, ⟨some ⟨W.heap.size + 1 + 1, 0, none⟩, 1, 1⟩⟩ _ l ad cap _ m3 (hre.later b3 (Nat.le_refl _)) hw h5).mono fun r w' ⟨g, k1, _, k2, k3, k4⟩ => ⟨g, k1, k2.reads, b3.trans (k4.mono b3.size)⟩)
  have HL1 := hide (fun (W : World) (ha : Qk.RA W n e x) => show Calls Tryz.prog 20 #[.agg #[.int .i64 e.k, .int .i64 e.n, .slice e.args.ad e.args.len e.args.cap]] W fun r w' => r = .returned (.bool (Qk.looks n x)) ∧ Below W.heap.size W w' from looksOn_any n e x W ha)
  have HL2 := hide (fun (W : World) (ha : Qk.RA W n d y) => show Calls Tryz.prog 20 #[.agg #[.int .i64 d.k, .int .i64 d.n, .slice d.args.ad d.args.len d.args.cap]] W fun r w' => r = .returned (.bool (Qk.looks n y)) ∧ Below W.heap.size W w' from looksOn_any n d y W ha)
  have H6 := hide (fun (W : World) (c : Nat) (hc : c ≤ l.length) (hx : Qk.looks n x = false) (hy : Qk.looks n y = false) (ha : Qk.RA W n e x) (hb : Qk.RA W n d y) (hre : Cl.RE W ad l) => show Calls Tryz.prog 19 #[.int .i64 13, .int .i64 0, .slice ad c cap, .slice (some ⟨W.heap.size, 0, none⟩) 2 2] (W.alloc (Obj.cells #[.int .i64 e.k, .int .i64 e.n, .slice e.args.ad e.args.len e.args.cap, .int .i64 d.k, .int .i64 d.n, .slice d.args.ad d.args.len d.args.cap] 24)) fun r w' => ∃ g, r = .returned (.tuple #[.slice (some ⟨g, 0, none⟩) c c, .bool true]) ∧ Dk.RB w' (some ⟨g, 0, none⟩) ((Qk.marks (n + 1) (Qk.two 13 x y) l).take c) ∧ Below W.heap.size W w' by
    have hlc : (l.take c).length = c := by rw [List.length_take]; omega
    have hmt := Qk.marks_take (n + 1) (Qk.two 13 x y) l c (by rw [Qk.two_wrong 13 x y (Or.inr rfl), hwx, hwy]; rfl) (Qk.two_looks x y hx hy)
    have := (holds_yes (n + 1) 13 _ 2 2 _ (l.take c) ad cap _ (Qk.made2 13 ha hb) ((Qk.RE_take hre c).later ((Below.refl W.heap.size W).alloc (Nat.le_refl _) _) (Nat.le_refl _)) (fun e he => hw e (List.mem_of_mem_take he)) ((Qk.two_ok 13 x y (Or.inr rfl) _).2 ⟨hp1, hwx, hwy, by omega⟩)).mono fun r w' ⟨g, k1, k2, k3, k4⟩ => (⟨g, k1, k2, below_two k4⟩ : ∃ g, r = Ending.returned (.tuple #[.slice (some ⟨g, 0, none⟩) (l.take c).length (l.take c).length, .bool true]) ∧ Dk.RB w' (some ⟨g, 0, none⟩) (Qk.marks (n + 1) (Qk.two 13 x y) (l.take c)) ∧ Below W.heap.size W w')
    rw [hlc, hmt] at this
    exact this)
  have HSB := hide (fun (s : List Bool) (m : Nat) (hs : s.length = m) (hm : m ≤ 4000) (a b : Option Addr) (c d : Nat) (W : World) (h1 : Dk.RB W a s) (h2 : Dk.RB W b s) => show Calls Tryz.prog 18 #[.slice a m c, .slice b m d] W fun r w' => r = .returned (.bool true) ∧ Below W.heap.size W w' by
    have := SameBools_eq s a b c d W h1 h2 (by omega)
    rw [hs] at this
    exact this)
  have HST := hide (fun (t : Nat) (ht : t < l.length) => Qk.since_step x y l ht)
  have HSI := hide (fun (t : Nat) (ht : t < l.length) => Qk.at_since x y l ht)
  have HF0 := hide (show Qk.sinceTo (Qk.marks n x l) (Qk.marks n y l) 0 = false from rfl)
  have HA := hide (And.intro h (And.intro hd hr))
  clear h hd hr hw h1 h2 h3 h4 h5 hp1 hp2 hwx hwy
  generalize Qk.marks (n + 1) (Qk.two 13 x y) l = S at *
  generalize Qk.marks (n + 1) (Qk.two 9 x x) l = X at *
  generalize Qk.marks (n + 1) (Qk.two 9 y y) l = Y at *
  generalize Qk.marks (n + 1) (Qk.one 11 x) l = O at *
  generalize Qk.sinceTo (Qk.marks n x l) (Qk.marks n y l) = F at *
  unfold Qk.E.val
  go_enter Tryz.func7, Tryz.ntmps7
  go_wp2_with fail
  obtain ⟨W1, hW1⟩ : ∃ W1, W1 = (w.alloc (.cells #[.int .i64 e.k, .int .i64 e.n, .slice e.args.ad e.args.len e.args.cap] 24)).alloc (.cells #[.int .i64 d.k, .int .i64 d.n, .slice d.args.ad d.args.len d.args.cap] 24) := ⟨_, rfl⟩
  have hs1 : w.heap.size + 1 < W1.heap.size := by rw [hW1]; simp
  have HB1 := hide (show Below w.heap.size w W1 by rw [hW1]; exact ((Below.refl _ _).alloc (Nat.le_refl _) _).alloc (by simp) _)
  have HQ := hide (show (W1.cell? ⟨w.heap.size, 0, none⟩ = some (.int .i64 e.k) ∧ W1.cell? ⟨w.heap.size, 1, none⟩ = some (.int .i64 e.n) ∧ W1.cell? ⟨w.heap.size, 2, none⟩ = some (.slice e.args.ad e.args.len e.args.cap)) ∧ (W1.cell? ⟨w.heap.size + 1, 0, none⟩ = some (.int .i64 d.k) ∧ W1.cell? ⟨w.heap.size + 1, 1, none⟩ = some (.int .i64 d.n) ∧ W1.cell? ⟨w.heap.size + 1, 2, none⟩ = some (.slice d.args.ad d.args.len d.args.cap)) by
    rw [hW1]; exact ⟨⟨by go_simp, by go_simp, by go_simp⟩, ⟨by go_simp, by go_simp, by go_simp⟩⟩)
  rw [← hW1]
  clear hW1
  have HQL := hide (fun (W' : World) (hb : Below W1.heap.size W1 W') => show (W'.cell? ⟨w.heap.size, 0, none⟩ = some (.int .i64 e.k) ∧ W'.cell? ⟨w.heap.size, 1, none⟩ = some (.int .i64 e.n) ∧ W'.cell? ⟨w.heap.size, 2, none⟩ = some (.slice e.args.ad e.args.len e.args.cap)) ∧ (W'.cell? ⟨w.heap.size + 1, 0, none⟩ = some (.int .i64 d.k) ∧ W'.cell? ⟨w.heap.size + 1, 1, none⟩ = some (.int .i64 d.n) ∧ W'.cell? ⟨w.heap.size + 1, 2, none⟩ = some (.slice d.args.ad d.args.len d.args.cap)) from by
    have c0 : ∀ j, W'.cell? ⟨w.heap.size, j, none⟩ = W1.cell? ⟨w.heap.size, j, none⟩ := fun j => hb.cell (p := ⟨w.heap.size, j, none⟩) (by show w.heap.size < W1.heap.size; omega)
    have c1 : ∀ j, W'.cell? ⟨w.heap.size + 1, j, none⟩ = W1.cell? ⟨w.heap.size + 1, j, none⟩ := fun j => hb.cell (p := ⟨w.heap.size + 1, j, none⟩) hs1
    rw [c0, c0, c0, c1, c1, c1]
    exact unhide HQ)
  have HA1 := hide (fun (W' : World) (hb : Below W1.heap.size W1 W') => show Qk.RA W' n e x ∧ Qk.RA W' n d y ∧ Cl.RE W' ad l from
    have hb' := (unhide HB1).trans (hb.mono (unhide HB1).size)
    ⟨Qk.RA.later hb' (Nat.le_refl _) n (unhide HA).1, Qk.RA.later hb' (Nat.le_refl _) n (unhide HA).2.1, (unhide HA).2.2.later hb' (Nat.le_refl _)⟩)
  refine (queryBegun_any _).mono ?_
  rintro r w2 ⟨rfl, hb2⟩
  have HX2 := hide hb2
  obtain ⟨⟨p0, p1, p2⟩, ⟨s0, s1, s2⟩⟩ := (unhide HQL) _ hb2
  clear hb2
  go_wp2_with fail
  refine ((unhide H1) _ ((unhide HA1) _ (unhide HX2)).1 ((unhide HA1) _ (unhide HX2)).2.1 ((unhide HA1) _ (unhide HX2)).2.2).mono ?_
  rintro r w3 ⟨g3, rfl, hr3, hlS, hb3⟩
  have HR3 := hide hr3
  have HX3 := hide ((unhide HX2).trans (hb3.mono (unhide HX2).size))
  clear hb3 hr3 p0 p1 p2 s0 s1 s2
  obtain ⟨⟨p0, p1, p2⟩, ⟨s0, s1, s2⟩⟩ := (unhide HQL) _ (unhide HX3)
  go_wp2_with fail
  refine ((unhide H2) _ ((unhide HA1) _ (unhide HX3)).1 ((unhide HA1) _ (unhide HX3)).2.2).mono ?_
  rintro r w4 ⟨g4, rfl, hr4, hlX, hb4⟩
  have HR4 := hide (And.intro ((unhide HR3).later hb4 (Nat.le_refl _)) hr4)
  have HX4 := hide ((unhide HX3).trans (hb4.mono (unhide HX3).size))
  clear hb4 hr4 p0 p1 p2 s0 s1 s2
  obtain ⟨⟨p0, p1, p2⟩, ⟨s0, s1, s2⟩⟩ := (unhide HQL) _ (unhide HX4)
  go_wp2_with fail
  refine ((unhide H3) _ ((unhide HA1) _ (unhide HX4)).2.1 ((unhide HA1) _ (unhide HX4)).2.2).mono ?_
  rintro r w5 ⟨g5, rfl, hr5, hlY, hb5⟩
  have HR5 := hide (And.intro ((unhide HR4).1.later hb5 (Nat.le_refl _)) (And.intro ((unhide HR4).2.later hb5 (Nat.le_refl _)) hr5))
  have HX5 := hide ((unhide HX4).trans (hb5.mono (unhide HX4).size))
  clear hb5 hr5 p0 p1 p2 s0 s1 s2
  obtain ⟨⟨p0, p1, p2⟩, ⟨s0, s1, s2⟩⟩ := (unhide HQL) _ (unhide HX5)
  go_wp2_with fail
  go_loop [15] (fun iv => ∃ k : Nat, k ≤ l.length ∧ iv = .int .i64 k) (fun iv => l.length - (intOf iv).toNat)
  case atStart => exact ⟨0, Nat.zero_le _, rfl⟩
  case round =>
    obtain ⟨k, hk, rfl⟩ := hrel
    by_cases hlt : k < l.length
    · have hk2 : (k : Int) < (l.length : Int) := by omega
      have hk1 : (0 : Int) ≤ (k : Int) := by omega
      obtain ⟨t1, cS⟩ := Qk.rb_cell (unhide HR5).1 (show k < S.length by omega)
      obtain ⟨t2, cX⟩ := Qk.rb_cell (unhide HR5).2.1 (show k < X.length by omega)
      obtain ⟨t3, cY⟩ := Qk.rb_cell (unhide HR5).2.2 (show k < Y.length by omega)
      have hst := (unhide HST) k hlt
      cases k with
      | zero =>
        rw [unhide HF0] at hst
        have hst1 : Qk.at_ S 0 = Qk.at_ Y 0 := by rw [hst]; simp
        rw [hst1] at cS
        clear hst hst1
        generalize Qk.at_ Y 0 = b at *
        cases b
        · go_wp2_with fail
          go_round
          case rel => exact ⟨1, by omega, by go_num⟩
          case measure => simp [intOf]; omega
        · go_wp2_with fail
          go_round
          case rel => exact ⟨1, by omega, by go_num⟩
          case measure => simp [intOf]; omega
      | succ j =>
        obtain ⟨t4, cP⟩ := Qk.rb_cell (unhide HR5).1 (show j < S.length by omega)
        rw [← (unhide HSI) j (by omega)] at hst
        rw [hst] at cS
        clear hst
        have hj0 : (0 : Int) ≤ (j : Int) := by omega
        have hj1 : (j : Int) < (l.length : Int) := by omega
        have hj2 : (j : Int) + 1 < (l.length : Int) := by omega
        have hj3 : (0 : Int) < (j : Int) + 1 := by omega
        have hj4 : (0 : Int) ≤ (j : Int) + 1 := by omega
        generalize Qk.at_ Y (j + 1) = b1 at *
        generalize Qk.at_ X (j + 1) = b2 at *
        generalize Qk.at_ S j = b3 at *
        cases b1 <;> cases b2 <;> cases b3
        all_goals
          first | replace cS : w5.cell? ⟨g3, j + 1, none⟩ = some (.bool true) := cS | replace cS : w5.cell? ⟨g3, j + 1, none⟩ = some (.bool false) := cS
          go_wp2_with fail
          go_round
          case rel => exact ⟨j + 1 + 1, by omega, by go_num⟩
          case measure => simp [intOf]; omega
    · have hk2 : ¬ (k : Int) < (l.length : Int) := by omega
      go_wp2_with fail
      refine ((unhide H4) _ ((unhide HA1) _ (unhide HX5)).1 ((unhide HA1) _ (unhide HX5)).2.2).mono ?_
      rintro r w6 ⟨g6, rfl, hr6, hlO, hb6⟩
      have HR6 := hide (And.intro ((unhide HR5).1.later hb6 (Nat.le_refl _)) hr6)
      have HX6 := hide ((unhide HX5).trans (hb6.mono (unhide HX5).size))
      clear hb6 hr6 p0 p1 p2 s0 s1 s2
      obtain ⟨⟨p0, p1, p2⟩, ⟨s0, s1, s2⟩⟩ := (unhide HQL) _ (unhide HX6)
      go_wp2_with fail
      refine ((unhide H5) _ ((unhide HA1) _ (unhide HX6)).1 ((unhide HA1) _ (unhide HX6)).2.2).mono ?_
      rintro r w7 ⟨g7, rfl, hr7, hb7⟩
      have HR7 := hide (And.intro ((unhide HR6).1.later hb7 (Nat.le_refl _)) (And.intro ((unhide HR6).2.later hb7 (Nat.le_refl _)) hr7))
      have HX7 := hide ((unhide HX6).trans (hb7.mono (unhide HX6).size))
      clear hb7 hr7 p0 p1 p2 s0 s1 s2
      obtain ⟨⟨p0, p1, p2⟩, ⟨s0, s1, s2⟩⟩ := (unhide HQL) _ (unhide HX7)
      go_wp2_with fail
      refine ((unhide HSB) O l.length hlO hl4 _ _ _ _ _ (unhide HR7).2.1 (unhide HR7).2.2).mono ?_
      rintro r w8 ⟨rfl, hb8⟩
      have HR8 := hide ((unhide HR7).1.later hb8 (Nat.le_refl _))
      have HX8 := hide ((unhide HX7).trans (hb8.mono (unhide HX7).size))
      have HY8 := hide ((unhide HB1).trans ((unhide HX8).mono (unhide HB1).size))
      clear hb8 p0 p1 p2 s0 s1 s2
      obtain ⟨⟨p0, p1, p2⟩, ⟨s0, s1, s2⟩⟩ := (unhide HQL) _ (unhide HX8)
      by_cases hc0 : cut < 0
      · go_wp2_with fail
        go_ret
        exact ⟨rfl, unhide HY8⟩
      · by_cases hc1 : (l.length : Int) < cut
        · go_wp2_with fail
          go_ret
          exact ⟨rfl, unhide HY8⟩
        · obtain ⟨c, rfl⟩ : ∃ c : Nat, cut = (c : Nat) := ⟨cut.toNat, by omega⟩
          have hc2 : c ≤ l.length := by omega
          go_wp2_with fail
          refine ((unhide HL1) _ ((unhide HA1) _ (unhide HX8)).1).mono ?_
          rintro r w9 ⟨rfl, hb9⟩
          have HR9 := hide ((unhide HR8).later hb9 (Nat.le_refl _))
          have HX9 := hide ((unhide HX8).trans (hb9.mono (unhide HX8).size))
          have HY9 := hide ((unhide HB1).trans ((unhide HX9).mono (unhide HB1).size))
          clear hb9 p0 p1 p2 s0 s1 s2
          obtain ⟨⟨p0, p1, p2⟩, ⟨s0, s1, s2⟩⟩ := (unhide HQL) _ (unhide HX9)
          cases hlx : Qk.looks n x
          · go_wp2_with fail
            refine ((unhide HL2) _ ((unhide HA1) _ (unhide HX9)).2.1).mono ?_
            rintro r w10 ⟨rfl, hb10⟩
            have HR10 := hide ((unhide HR9).later hb10 (Nat.le_refl _))
            have HX10 := hide ((unhide HX9).trans (hb10.mono (unhide HX9).size))
            have HY10 := hide ((unhide HB1).trans ((unhide HX10).mono (unhide HB1).size))
            clear hb10 p0 p1 p2 s0 s1 s2
            obtain ⟨⟨p0, p1, p2⟩, ⟨s0, s1, s2⟩⟩ := (unhide HQL) _ (unhide HX10)
            cases hly : Qk.looks n y
            · have hcc : (c : Int) ≤ (cap : Int) := by omega
              have hcn : (0 : Int) ≤ (c : Int) := by omega
              have hsl := Qk.slice_run l.length cap c ad hnil (by omega)
              have hlt10 : w.heap.size + 1 < w10.heap.size := by have := (unhide HX10).size; omega
              have H6c := hide (fun (W : World) => (unhide H6) W c hc2 hlx hly)
              clear hnil
              go_wp2_with fail
              go_region_held3 (fun W => (W.cell? ⟨w.heap.size, 0, none⟩ = some (.int .i64 e.k) ∧ W.cell? ⟨w.heap.size, 1, none⟩ = some (.int .i64 e.n) ∧ W.cell? ⟨w.heap.size, 2, none⟩ = some (.slice e.args.ad e.args.len e.args.cap)) ∧ (W.cell? ⟨w.heap.size + 1, 0, none⟩ = some (.int .i64 d.k) ∧ W.cell? ⟨w.heap.size + 1, 1, none⟩ = some (.int .i64 d.n) ∧ W.cell? ⟨w.heap.size + 1, 2, none⟩ = some (.slice d.args.ad d.args.len d.args.cap)))
                (first
                  | exact (unhide HQL) _ (unhide HBS)
                  | exact (unhide HQL) _ ((unhide HX10).drew)
                  | exact (unhide HQL) _ ((unhide HX10).drew.alloc (unhide HX10).drew.size _)
                  | exact (unhide HQL) _ (((unhide HX10).alloc (unhide HX10).size _).drew))
                (first
                  | (go_at_call 19; refine ((unhide H6c) w10.drew ((unhide HA1) _ (unhide HX10).drew).1 ((unhide HA1) _ (unhide HX10).drew).2.1 ((unhide HA1) _ (unhide HX10).drew).2.2).mono ?_; rintro r w11 ⟨g11, rfl, hr11, hb11⟩; have HR11 := hide (And.intro ((unhide HR10).later ((Below.refl _ _).drew.trans (hb11.mono (Nat.le_refl _))) (Nat.le_refl _)) hr11); have HBS := hide ((unhide HX10).drew.trans (hb11.mono (unhide HX10).drew.size)); clear hr11 hb11))
              all_goals
                go_wp2_with fail
                refine ((unhide HSB) (S.take c) c (by rw [List.length_take]; omega) (by omega) _ _ _ _ _ (unhide HR11).2 (Qk.RB_take (unhide HR11).1 c)).mono ?_
                rintro r w12 ⟨rfl, hb12⟩
                have HY12 := hide ((unhide HB1).trans (((unhide HBS).trans (hb12.mono (unhide HBS).size)).mono (unhide HB1).size))
                clear hb12
                go_wp2_with fail
                go_ret
                exact ⟨rfl, unhide HY12⟩
            · go_wp2_with fail
              go_ret
              exact ⟨rfl, unhide HY10⟩
          · go_wp2_with fail
            go_ret
            exact ⟨rfl, unhide HY9⟩
end Go.Proofs.YtfhlnelgnnkeoaaGreatDoor
