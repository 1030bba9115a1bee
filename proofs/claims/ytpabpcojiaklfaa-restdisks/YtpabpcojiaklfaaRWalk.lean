/-
  The walk of RestDisks. By the verifier.
-/
import Derived.Test.YtpabpcojiaklfaaRJ
namespace Go.Proofs.Ytpabpcojiaklfaa
open Go.RowKit
set_option linter.unusedVariables false

set_option maxRecDepth 100000 in
set_option maxHeartbeats 1600000 in
theorem rdisks_err (n : Int) (ba : Option Addr) (bl bc : Nat) (la : Option Addr) (ll lc : Nat) (ka : Option Addr) (kl kc : Nat) (w : World) (h : n < 4 ∨ 600 < n) :
    Calls Try.prog 7 #[.int .i64 n, .slice ba bl bc, .slice la ll lc, .slice ka kl kc] w fun e w' => e = .returned (.bool true) ∧ Below w.heap.size w w' := by
  have HF := hide (fun W => disked_err n ba bl bc W h)
  clear h
  go_enter Try.func7, Try.ntmps7
  go_wp2_with fail
  refine (diskBegun_any _).mono ?_
  rintro e w1 ⟨rfl, hb1⟩
  have HB1 := hide hb1
  clear hb1
  go_wp2_with fail
  refine (logBegun_any _).mono ?_
  rintro e w2 ⟨rfl, hb2⟩
  have HB2 := hide ((unhide HB1).trans (hb2.mono (unhide HB1).size))
  clear hb2
  go_wp2_with fail
  refine (columnBegun_any _).mono ?_
  rintro e w3 ⟨rfl, hb3⟩
  have HB3 := hide ((unhide HB2).trans (hb3.mono (unhide HB2).size))
  clear hb3
  go_wp2_with fail
  refine ((unhide HF) _).mono ?_
  rintro e w4 ⟨rfl, hb4⟩
  have HB4 := hide ((unhide HB3).trans (hb4.mono (unhide HB3).size))
  clear hb4
  go_wp2_with fail
  go_ret
  exact ⟨rfl, (unhide HB4).alloc (unhide HB4).size _⟩

/-- What the loop's head finds. -/
structure Rs.Hd (w0 W : World) (n : Nat) (there : List (List Ev)) (free : List ByteArray) (g c : Nat) (aa : Option Addr) (fl : Nat) (l : List Ev) (la : Option Addr) (ps : List Bool) (ka : Option Addr) (b9 b12 g2 c2 q : Nat) (ea : Option Addr) : Prop where
  got : Rs.Got n there free g c aa fl W
  own : Dk.RK W (some ⟨g2, 0, none⟩) (Lg.img there free)
  cap2 : n ≤ c2
  arg : Cl.RE W la l
  evs : Cl.RE W ea l
  keep : Dk.RB W ka ps
  d : Dk.Bx b9 (.slice (some ⟨g, 0, none⟩) n c) (.slice none 0 0) W
  o : Dk.Bx b12 (.slice (some ⟨g2, 0, none⟩) n c2) (.slice (some ⟨q, 0, none⟩) 0 0) W
  bel : Below w0.heap.size w0 W
theorem Rs.Hd.later {w0 W W' : World} {n : Nat} {there : List (List Ev)} {free : List ByteArray} {g c : Nat} {aa : Option Addr} {fl : Nat} {l : List Ev} {la : Option Addr} {ps : List Bool} {ka : Option Addr} {b9 b12 g2 c2 q : Nat} {ea : Option Addr} (h : Rs.Hd w0 W n there free g c aa fl l la ps ka b9 b12 g2 c2 q ea) (hb : Below W.heap.size W W') : Rs.Hd w0 W' n there free g c aa fl l la ps ka b9 b12 g2 c2 q ea :=
  ⟨h.got.later hb, h.own.later hb (Nat.le_refl _), h.cap2, h.arg.later hb (Nat.le_refl _), h.evs.later hb (Nat.le_refl _), h.keep.later hb (Nat.le_refl _), h.d.below hb, h.o.below hb, h.bel.trans (hb.mono h.bel.size)⟩

/-- The state behind the copies of a disk. -/
structure Rs.Own (wA W : World) (n : Nat) (ks : List ByteArray) (v : Value) : Prop where
  lies : ∃ b12 g2 c2 q, v = .pointer (some ⟨b12, 0, none⟩) ∧ n ≤ c2 ∧ Dk.Bx b12 (.slice (some ⟨g2, 0, none⟩) n c2) (.slice (some ⟨q, 0, none⟩) 0 0) W ∧ Dk.RK W (some ⟨g2, 0, none⟩) ks
  bel : Below wA.heap.size wA W
theorem Rs.grown_below {W W' : World} (h : W.grownBy W' none) : Below W.heap.size W W' := (Below.refl _ _).grown h (Nat.le_refl _) (fun q hq => by cases hq)

theorem Lg.S4.al {b : Nat} {A0 A1 : Value} {w4 W : World} (h : Lg.S4 b A0 A1 w4 W) (o : Obj) : Lg.S4 b A0 A1 w4 (W.alloc o) := h.below ((Below.refl _ _).alloc (Nat.le_refl _) o)
theorem Lg.S4.stored {b b' : Nat} {A0 A1 : Value} {w4 W : World} (h : Lg.S4 b A0 A1 w4 W) (h1 : b < w4.heap.size) (h3 : w4.heap.size ≤ b') (u v : Value) : Lg.S4 b A0 A1 w4 ((W.setCell ⟨b', 0, none⟩ u).setCell ⟨b', 1, none⟩ v) := by
  have n : ∀ (i j : Nat), (⟨b', i, none⟩ : Addr) ≠ ⟨b, j, none⟩ := fun i j hh => by have := congrArg Addr.block hh; simp at this; omega
  refine ⟨?_, ?_, (h.2.2.setCell (by exact h3) _).setCell (by exact h3) _⟩
  · rw [World.cell?_setCell_other _ _ _ _ (n _ _), World.cell?_setCell_other _ _ _ _ (n _ _)]; exact h.1
  · rw [World.cell?_setCell_other _ _ _ _ (n _ _), World.cell?_setCell_other _ _ _ _ (n _ _)]; exact h.2.1
theorem Rs.size_drew (W : World) : W.drew.heap.size = W.heap.size := rfl
theorem Dk.D6.drew {b : Nat} {W : World} (h : Dk.D6 b W) : Dk.D6 b W.drew := ⟨h.c0, h.c1, h.f0, h.f1⟩
theorem Rs.bx_made2 (W : World) (o : Obj) (A0 A1 : Value) (t : TypeId) : Dk.Bx (W.heap.size + 1) A0 A1 ((W.alloc o).alloc (.cells #[A0, A1] t)) := by
  have := Dk.Bx.made (W.alloc o) A0 A1 t
  simpa using this
theorem Rs.owns_empty (w : World) : (w.alloc (Obj.cells #[] 70)).ownsRow w.heap.size 70 6 (.slice (some ⟨w.heap.size, 0, none⟩) 0 0) ([] : List Ev).length (Cl.evC []) :=
  ⟨rfl, .inr ⟨w.heap.size, 0, #[], rfl, Nat.le_refl _, heap_alloc_new w _, Nat.le_refl _, Nat.zero_le _, rfl, rfl⟩⟩
theorem Rs.WW.lower {B B' : Nat} {W : World} {ad : Option Addr} {n : Nat} (h : Rs.WW B W ad n) (hB : B' ≤ B) : Rs.WW B' W ad n :=
  ⟨fun j hj => by
    obtain ⟨b, o, A0, A1, h0, hlt, h1, h2, h3⟩ := h.at_ j hj
    exact ⟨b, o, A0, A1, h0, hlt, h1, h2, h3.lower hB⟩⟩
/-- The batches so far, one behind the other. -/
structure Rs.Hv (w6 : World) (there : List (List Ev)) (j hl : Nat) (hv : Value) (W : World) : Prop where
  len : hl = (there.take j).flatten.length
  row : W.ownsRow w6.heap.size 70 6 hv hl (Cl.evC (there.take j).flatten)
  bel : Below w6.heap.size w6 W
theorem Rs.Hv.next {w6 : World} {there : List (List Ev)} {j hl : Nat} {hv v' : Value} {W W' : World} {l : List Ev} (h : Rs.Hv w6 there j hl hv W) (hl' : there[j]? = some l) (hrow : W'.ownsRow w6.heap.size 70 6 v' (hl + l.length) (Cl.evC ((there.take j).flatten ++ l))) (hgr : W.grownBy W' hv.ownBlock) : Rs.Hv w6 there (j + 1) (hl + l.length) v' W' := by
  have e : (there.take (j + 1)).flatten = (there.take j).flatten ++ l := by rw [List.take_add_one, hl']; simp
  refine ⟨by rw [e, List.length_append, ← h.len], by rw [e]; exact hrow, h.bel.grown hgr h.bel.size (fun q hq => (h.row.lt q hq).1)⟩
theorem Rs.Hv.done {w6 : World} {there : List (List Ev)} {j hl hc : Nat} {ha : Option Addr} {W : World} (h : Rs.Hv w6 there j hl (.slice ha hl hc) W) (hj : there.length ≤ j) : hl = there.flatten.length ∧ Cl.RE W ha there.flatten := by
  have e : there.take j = there := List.take_of_length_le hj
  have h1 := h.len
  have h2 := h.row
  rw [e] at h1 h2
  exact ⟨h1, Rs.re_own h2 h1⟩
theorem Rs.take_len (there : List (List Ev)) (h : ∀ l ∈ there, Lg.Good l) (j : Nat) : (there.take j).flatten.length ≤ 60 * there.length := by
  have h1 := Rs.flat_len (there.take j) (fun l hl => h l (List.mem_of_mem_take hl))
  have h2 : (there.take j).length ≤ there.length := by rw [List.length_take]; omega
  omega
theorem Rs.OE.lower {B B' : Nat} {W : World} {ad : Option Addr} {ls : List (List Ev)} (h : Rs.OE B W ad ls) (hB : B' ≤ B) : Rs.OE B' W ad ls :=
  ⟨fun j l hj => by
    obtain ⟨b, o, a, c, h1, h2, h3, h4, h5⟩ := h.at_ j l hj
    exact ⟨b, o, a, c, h1, h2, h3, h4, h5.lower hB⟩⟩
theorem Rs.own_rk {W : World} {B g n c : Nat} {ks : List ByteArray} (h : W.ownsRow B 9 1 (.slice (some ⟨g, 0, none⟩) n c) n (ks.map Value.string)) (hm : ∀ s ∈ ks, s.size ≤ maxLen) : Dk.RK W (some ⟨g, 0, none⟩) ks :=
  ⟨fun i s hi => by
    have hc := h.cells (g := g) rfl i (.string s) (by rw [List.getElem?_map, hi]; rfl)
    rw [Dk.add_at] at hc
    exact ⟨g, 0, rfl, (h.lt g rfl).2, hc, hm s (List.mem_of_getElem? hi)⟩⟩

set_option maxRecDepth 100000 in
set_option maxHeartbeats 3200000 in
theorem rdisks_ok (n : Nat) (bs : List (List Ev)) (ba : Option Addr) (bc : Nat) (l : List Ev) (la : Option Addr) (lc : Nat) (ps : List Bool) (ka : Option Addr) (kc : Nat) (w : World) (h4 : 4 ≤ n) (h6 : n ≤ 600)
    (hb : Lg.RL w ba bs) (hl : Cl.RE w la l) (hp : Dk.RB w ka ps) (hbl : bs.length ≤ 35184372088832) (hll : l.length * 48 ≤ 140737488351232) :
    Calls Try.prog 7 #[.int .i64 n, .slice ba bs.length bc, .slice la l.length lc, .slice ka ps.length kc] w fun e w' => e = .returned (.bool true) ∧ Below w.heap.size w w' := by
  have HB := hide hb
  have HL := hide hl
  have HP := hide hp
  obtain ⟨i0, hi, hz0, hz1, hz2⟩ := info_of Try.infoS
  obtain ⟨i1, hi1, _, _, _⟩ := info_of Try.infoW
  have HI := hide hi
  have HZ0 := hide hz0
  have HZ1 := hide hz1
  have HZ2 := hide hz2
  have HI1 := hide hi1
  clear hb hl hp hi hz0 hz1 hz2 hi1
  go_enter Try.func7, Try.ntmps7
  go_wp2_with fail
  refine (diskBegun_any _).mono ?_
  rintro e w1 ⟨rfl, hb1⟩
  have HB1 := hide hb1
  clear hb1
  go_wp2_with fail
  refine (logBegun_any _).mono ?_
  rintro e w2 ⟨rfl, hb2⟩
  have HB2 := hide ((unhide HB1).trans (hb2.mono (unhide HB1).size))
  clear hb2
  go_wp2_with fail
  refine (columnBegun_any _).mono ?_
  rintro e w3 ⟨rfl, hb3⟩
  have HB3 := hide ((unhide HB2).trans (hb3.mono (unhide HB2).size))
  clear hb3
  go_wp2_with fail
  refine (disked_ok n bs ba bc _ h4 h6 ((unhide HB).later (unhide HB3) (Nat.le_refl _)) hbl).mono ?_
  rintro e w4 ⟨there, free, g, c, aa, ac, fl, rfl, hgot, hb4⟩
  have hz4 := hb4.size
  have hA := (Below.refl w4.heap.size w4).alloc (Nat.le_refl _) (Obj.cells #[.slice (some ⟨g, 0, none⟩) n c, .slice none 0 0] 29)
  have HB4 := hide (((unhide HB3).trans (hb4.mono (unhide HB3).size)).trans (hA.mono (by have := (unhide HB3).size; omega)))
  have HGOT := hide (hgot.later hA)
  have HDB := hide (Dk.Bx.made w4 (.slice (some ⟨g, 0, none⟩) n c) (.slice none 0 0) 29)
  clear hb4 hgot hA
  go_wp2_with fail
  generalize hb9 : w4.heap.size = b9 at *
  generalize w4.alloc (Obj.cells #[.slice (some ⟨g, 0, none⟩) n c, .slice none 0 0] 29) = wA at *
  have HKN := hide (fun (W : World) (hW : Below wA.heap.size wA W) => ((unhide HGOT).rk.later hW (Nat.le_refl _)).news)
  have HKL := hide (show ((Lg.img there free).map Value.string).length = n * 1 by rw [List.length_map, Lg.img_len, (unhide HGOT).lo.img, Nat.mul_one])
  have HK1 := hide (Dk.one_s (Lg.img there free))
  have HKM := hide (show ∀ s ∈ Lg.img there free, s.size ≤ maxLen from fun s hs => by have := Lg.img32 (unhide HGOT).lo.free32 s hs; unfold maxLen; omega)
  have HS := hide (show Lg.S4 b9 (.slice (some ⟨g, 0, none⟩) n c) (.slice none 0 0) wA wA from ⟨(unhide HDB).c0, (unhide HDB).c1, Below.refl _ _⟩)
  have HDRW := hide (show wA.drew.heap.size = wA.heap.size from rfl)
  have HLT := hide (show b9 < wA.heap.size from (unhide HDB).lt)
  go_cut [12] (fun v W => Rs.Own wA W n (Lg.img there free) v)
  case first =>
    generalize (Lg.img there free) = ks at *
    go_region_held3 (fun W => W.cell? ⟨b9, 0, none⟩ = some (.slice (some ⟨g, 0, none⟩) n c) ∧ W.cell? ⟨b9, 1, none⟩ = some (.slice none 0 0) ∧ Below wA.heap.size wA W)
      (first
        | assumption
        | exact Lg.S4.below (by assumption) (unhide HB5)
        | exact Lg.S4.below (by assumption) ((Below.refl _ _).alloc (Nat.le_refl _) _)
        | exact Lg.S4.al (unhide HS5) _
        | exact Lg.S4.al (Lg.S4.al (unhide HS5) _) _
        | exact Lg.S4.stored (unhide HS5) (unhide HLT) (by omega) _ _
        | exact Lg.S4.stored (Lg.S4.al (unhide HS5) _) (unhide HLT) (by omega) _ _
        | exact Lg.S4.al (Lg.S4.stored (unhide HS5) (unhide HLT) (by omega) _ _) _
        | exact Lg.S4.drew (unhide HS))
      (first
        | (refine step_append_grows rfl (.tmp 51) (.tmp 53) 26 rfl 9 i0 _ 1 16 Try.underlying26 (unhide HI) (unhide HZ0) (unhide HZ1) (unhide HZ2) rfl (by omega) (some _) 0 0 [] rfl (fun h => by cases h) rfl (fun b hb j u hj => by simp at hj) ⟨g, 0, none⟩ n c (ks.map Value.string) rfl (unhide HKL) ((unhide HKN) _ (Lg.S4.bel (b := b9) (by assumption))) (unhide HK1) (by omega) (by unfold maxLen; omega) (by omega) ?_; intro v' w5 hown hgrow; rw [Nat.zero_add, List.nil_append] at hown; obtain ⟨g2, c2, rfl, _, _⟩ := hown.form (by omega); have hb5 := Rs.grown_below hgrow; have HB5 := hide hb5; have HO5 := hide (Rs.own_rk hown (unhide HKM)); have HC5 := hide (Dk.cap_le hown); have hgl := (hown.lt _ rfl).1; (try rw [Rs.size_drew] at hgl); (try simp only [World.size_alloc] at hgl); (try rw [Rs.size_drew] at hgl); have HS5 := hide (Lg.S4.below (b := b9) (A0 := .slice (some ⟨g, 0, none⟩) n c) (A1 := .slice none 0 0) (w4 := wA) (by assumption) hb5); (first | (have hd5 := (Dk.D6.made _ 29).below hb5; (try simp only [World.size_alloc] at hd5); (try rw [Rs.size_drew] at hd5); have x0 := hd5.c0; have x1 := hd5.c1; have x2 := hd5.f0; have x3 := hd5.f1; have y0 := fun o => (hd5.alloc o).c0; have y1 := fun o => (hd5.alloc o).c1; have y2 := fun o => (hd5.alloc o).f0; have y3 := fun o => (hd5.alloc o).f1; have HD5 := hide hd5; clear hd5) | (have hd5 := (Dk.D6.made _ 29).drew.below hb5; (try simp only [World.size_alloc] at hd5); (try rw [Rs.size_drew] at hd5); have x0 := hd5.c0; have x1 := hd5.c1; have x2 := hd5.f0; have x3 := hd5.f1; have y0 := fun o => (hd5.alloc o).c0; have y1 := fun o => (hd5.alloc o).c1; have y2 := fun o => (hd5.alloc o).f0; have y3 := fun o => (hd5.alloc o).f1; have HD5 := hide hd5; clear hd5) | (have hd5 := ((Dk.D6.made _ 29).alloc _).below hb5; (try simp only [World.size_alloc] at hd5); (try rw [Rs.size_drew] at hd5); have x0 := hd5.c0; have x1 := hd5.c1; have x2 := hd5.f0; have x3 := hd5.f1; have y0 := fun o => (hd5.alloc o).c0; have y1 := fun o => (hd5.alloc o).c1; have y2 := fun o => (hd5.alloc o).f0; have y3 := fun o => (hd5.alloc o).f1; have HD5 := hide hd5; clear hd5) | (have hd5 := ((Dk.D6.made _ 29).alloc _).drew.below hb5; (try simp only [World.size_alloc] at hd5); (try rw [Rs.size_drew] at hd5); have x0 := hd5.c0; have x1 := hd5.c1; have x2 := hd5.f0; have x3 := hd5.f1; have y0 := fun o => (hd5.alloc o).c0; have y1 := fun o => (hd5.alloc o).c1; have y2 := fun o => (hd5.alloc o).f0; have y3 := fun o => (hd5.alloc o).f1; have HD5 := hide hd5; clear hd5) | (have hd5 := ((Dk.D6.made _ 29).drew.alloc _).below hb5; (try simp only [World.size_alloc] at hd5); (try rw [Rs.size_drew] at hd5); have x0 := hd5.c0; have x1 := hd5.c1; have x2 := hd5.f0; have x3 := hd5.f1; have y0 := fun o => (hd5.alloc o).c0; have y1 := fun o => (hd5.alloc o).c1; have y2 := fun o => (hd5.alloc o).f0; have y3 := fun o => (hd5.alloc o).f1; have HD5 := hide hd5; clear hd5) | (have hd5 := (((Dk.D6.made _ 29).alloc _).alloc _).below hb5; (try simp only [World.size_alloc] at hd5); (try rw [Rs.size_drew] at hd5); have x0 := hd5.c0; have x1 := hd5.c1; have x2 := hd5.f0; have x3 := hd5.f1; have y0 := fun o => (hd5.alloc o).c0; have y1 := fun o => (hd5.alloc o).c1; have y2 := fun o => (hd5.alloc o).f0; have y3 := fun o => (hd5.alloc o).f1; have HD5 := hide hd5; clear hd5) | (have hd5 := (((Dk.D6.made _ 29).alloc _).alloc _).drew.below hb5; (try simp only [World.size_alloc] at hd5); (try rw [Rs.size_drew] at hd5); have x0 := hd5.c0; have x1 := hd5.c1; have x2 := hd5.f0; have x3 := hd5.f1; have y0 := fun o => (hd5.alloc o).c0; have y1 := fun o => (hd5.alloc o).c1; have y2 := fun o => (hd5.alloc o).f0; have y3 := fun o => (hd5.alloc o).f1; have HD5 := hide hd5; clear hd5) | (have hd5 := (((Dk.D6.made _ 29).drew.alloc _).alloc _).below hb5; (try simp only [World.size_alloc] at hd5); (try rw [Rs.size_drew] at hd5); have x0 := hd5.c0; have x1 := hd5.c1; have x2 := hd5.f0; have x3 := hd5.f1; have y0 := fun o => (hd5.alloc o).c0; have y1 := fun o => (hd5.alloc o).c1; have y2 := fun o => (hd5.alloc o).f0; have y3 := fun o => (hd5.alloc o).f1; have HD5 := hide hd5; clear hd5) | (have hd5 := (((Dk.D6.made _ 29).alloc _).drew.alloc _).below hb5; (try simp only [World.size_alloc] at hd5); (try rw [Rs.size_drew] at hd5); have x0 := hd5.c0; have x1 := hd5.c1; have x2 := hd5.f0; have x3 := hd5.f1; have y0 := fun o => (hd5.alloc o).c0; have y1 := fun o => (hd5.alloc o).c1; have y2 := fun o => (hd5.alloc o).f0; have y3 := fun o => (hd5.alloc o).f1; have HD5 := hide hd5; clear hd5) | skip); clear hb5 hown hgrow)
        | (refine Rs.step_run rfl (.tmp 55) (.tmp 57) 27 rfl _ _ _ rfl rfl (Rs.run_nil _ _ _ _ i1 Try.underlying27 (unhide HI1) _ 0 0 0 (Nat.le_refl _)) ?_))
    all_goals
      go_wp2_with fail
      go_meet
      case rel =>
        first
          | exact ⟨⟨_, g2, c2, _, rfl, unhide HC5, Dk.Bx.made _ _ _ _, (unhide HO5).alloc _⟩, (Lg.S4.al (unhide HS5) _).2.2⟩
          | exact ⟨⟨_, g2, c2, _, rfl, unhide HC5, Rs.bx_made2 _ _ _ _ _, ((unhide HO5).alloc _).alloc _⟩, (Lg.S4.al (Lg.S4.al (unhide HS5) _) _).2.2⟩
          | exact ⟨⟨_, g2, c2, _, rfl, unhide HC5, (Dk.Bx.made _ _ _ _).alloc _, ((unhide HO5).alloc _).alloc _⟩, (Lg.S4.al (Lg.S4.al (unhide HS5) _) _).2.2⟩
          | exact ⟨⟨_, g2, c2, _, rfl, unhide HC5, Dk.Bx.stored (unhide HD5) _ _, (unhide HO5).set2 (fun g o e => by cases e; omega) _ _⟩, (Lg.S4.stored (unhide HS5) (unhide HLT) (by omega) _ _).2.2⟩
          | exact ⟨⟨_, g2, c2, _, rfl, unhide HC5, Dk.Bx.stored ((unhide HD5).alloc _) _ _, ((unhide HO5).alloc _).set2 (fun g o e => by cases e; omega) _ _⟩, (Lg.S4.stored (Lg.S4.al (unhide HS5) _) (unhide HLT) (by omega) _ _).2.2⟩
  case rest =>
    rename World => wc
    clear HS HKN HKL HK1 HKM HDRW HLT
    obtain ⟨⟨b12, g2, c2, q, rfl, hc2, hbx, hrk2⟩, hbc⟩ := hcut
    have hzc := hbc.size
    have HBC := hide ((unhide HB4).trans (hbc.mono (unhide HB4).size))
    have hE := (Below.refl wc.heap.size wc).alloc (Nat.le_refl _) (Obj.cells #[] 70)
    have HLC := hide ((unhide HL).later ((unhide HBC).trans (hE.mono (unhide HBC).size)) (Nat.le_refl _))
    obtain ⟨v', W0, hrun, hrow, hgr⟩ := Rs.run_evs 34 (wc.alloc (Obj.cells #[] 70)) wc.heap.size (.slice (some ⟨wc.heap.size, 0, none⟩) 0 0) [] (Rs.owns_empty wc) la lc l (unhide HLC) (by simpa using hll) (by simp)
    rw [List.length_nil, Nat.zero_add, List.nil_append] at hrow
    obtain ⟨ea, ec, rfl⟩ := Rs.form hrow
    have hbE : Below wc.heap.size wc W0 := hE.grown hgr (by simp) (fun k hk => by cases hk; exact Nat.le_refl _)
    have hL0 := (unhide HBC).trans (hbE.mono (unhide HBC).size)
    have hG0 := hbc.trans (hbE.mono hzc)
    have HH := hide (show Rs.Hd w W0 n there free g c aa fl l la ps ka b9 b12 g2 c2 q ea from
      ⟨(unhide HGOT).later hG0, hrk2.later hbE (Nat.le_refl _), hc2, (unhide HL).later hL0 (Nat.le_refl _), Rs.re_own hrow rfl, (unhide HP).later hL0 (Nat.le_refl _), (unhide HDB).below hG0, hbx.below hbE, hL0⟩)
    have HRUN := hide hrun
    have hll2 : l.length ≤ 35184372088832 := by omega
    clear hrun hrow hgr hE hbE hL0 hG0 hbx hrk2 hbc HBC HLC HGOT HDB HB4 HB3 HB2 HB1 HL HP HB HI HZ0 HZ1 HZ2 HI1
    go_wp2_with (at_builtin; refine Lg.wp_append_run rfl _ _ 34 rfl _ _ _ rfl rfl (unhide HRUN) ?_; clear HRUN)
    go_loopw [14] (fun v wr => ∃ k : Nat, k ≤ 2 ∧ v = .int .i64 ((k : Nat) : Int) ∧ Below W0.heap.size W0 wr) (fun v _ => 2 - (intOf v).toNat)
    case atStart => exact ⟨0, by omega, rfl, Below.refl _ _⟩
    case round =>
      obtain ⟨k, hk, rfl, hbe⟩ := hrel
      by_cases hlt : k < 2
      · have HB0 := hide hbe
        have hz0 := hbe.size
        have hHw := (unhide HH).later hbe
        have HW := hide hHw
        obtain ⟨wq, hwq⟩ : ∃ wq, wq = wr := ⟨_, rfl⟩
        subst hwq
        have hk3 : (k : Int) < 2 := by omega
        have x0 := hHw.o.c0
        have x1 := hHw.o.c1
        clear hbe hHw
        go_wp2_with fail
        refine (Rs.append_any (unhide HW).got.lo l ea ec g2 c2 (unhide HW).cap2 (some ⟨q, 0, none⟩) 0 _ (unhide HW).own (unhide HW).evs).mono ?_
        rintro e w1 ⟨A0, A1, wa, wn, wcc, m, rfl, hap, hb1⟩
        obtain ⟨⟨a0, k0, c0, rfl⟩, a1, k1, c1, rfl⟩ := hap.sl
        have hz1 := hb1.size
        have hA1 := (Below.refl w1.heap.size w1).alloc (Nat.le_refl _) (Obj.cells #[.slice a0 k0 c0, .slice a1 k1 c1] 29)
        have hW1 := ((unhide HW).later hb1).later hA1
        have HW1 := hide hW1
        have HX1 := hide (Rs.Bx.made 29 (hap.dw.lower hz0))
        have HY1 := hide ((hap.ww.lower hz0).fr (Rs.Fr.below hA1 (Nat.le_refl _)))
        have hwn := hap.wn
        have HB1 := hide (((unhide HB0).trans (hb1.mono hz0)).trans (hA1.mono (by omega)))
        clear hap hb1 x0 x1
        have x0 := hW1.o.c0
        have x1 := hW1.o.c1
        clear hW1 hA1
        go_wp2_with fail
        generalize hbx : w1.heap.size = bx at *
        generalize w1.alloc (Obj.cells #[.slice a0 k0 c0, .slice a1 k1 c1] 29) = v1 at *
        have hz2 := (unhide HB1).size
        refine (Rs.crash_any (unhide HW1).got.lo g2 c2 (some ⟨q, 0, none⟩) 0 ps ka kc _ (unhide HW1).own (unhide HW1).keep).mono ?_
        rintro e w2 ⟨g3, c3, rfl, hdw, hb2⟩
        have hz3 := hb2.size
        have hA2 := (Below.refl w2.heap.size w2).alloc (Nat.le_refl _) (Obj.cells #[.slice (some ⟨g3, 0, none⟩) n c3, .slice none 0 0] 29)
        have hW2 := ((unhide HW1).later hb2).later hA2
        have HW2 := hide hW2
        have hF2 := (Rs.Fr.below hb2 (Nat.le_refl _)).trans (Rs.Fr.below hA2 (Nat.le_refl _))
        have HX2 := hide ((unhide HX1).fr hF2)
        have HY2 := hide ((unhide HY1).fr hF2)
        have HZ2 := hide (Rs.Bx.made 29 (hdw.lower hz2))
        have HB2 := hide (((unhide HB1).trans (hb2.mono hz2)).trans (hA2.mono (by omega)))
        clear hdw hb2 x0 x1 hF2
        have x0 := hW2.o.c0
        have x1 := hW2.o.c1
        clear hW2 hA2
        go_wp2_with fail
        generalize hby : w2.heap.size = byy at *
        generalize w2.alloc (Obj.cells #[.slice (some ⟨g3, 0, none⟩) n c3, .slice none 0 0] 29) = v2 at *
        have hz4 := (unhide HB2).size
        refine (Rs.flush_any (unhide HW2).got.lo g2 c2 (some ⟨q, 0, none⟩) 0 _ (unhide HW2).own).mono ?_
        rintro e w3 ⟨g4, c4, rfl, hdw, hb3⟩
        have hz5 := hb3.size
        have hA3 := (Below.refl w3.heap.size w3).alloc (Nat.le_refl _) (Obj.cells #[.slice (some ⟨g4, 0, none⟩) n c4, .slice none 0 0] 29)
        have hW3 := ((unhide HW2).later hb3).later hA3
        have HW3 := hide hW3
        have hF3 := (Rs.Fr.below hb3 (Nat.le_refl _)).trans (Rs.Fr.below hA3 (Nat.le_refl _))
        have HX3 := hide ((unhide HX2).fr hF3)
        have HY3 := hide ((unhide HY2).fr hF3)
        have HZ3 := hide ((unhide HZ2).fr hF3)
        have HV3 := hide (Rs.Bx.made 29 (hdw.lower hz4))
        have HB3 := hide (((unhide HB2).trans (hb3.mono hz4)).trans (hA3.mono (by omega)))
        clear hdw hb3 x0 x1 hF3
        have x0 := hW3.o.c0
        have x1 := hW3.o.c1
        clear hW3 hA3
        go_wp2_with fail
        generalize hbz : w3.heap.size = bz at *
        generalize w3.alloc (Obj.cells #[.slice (some ⟨g4, 0, none⟩) n c4, .slice none 0 0] 29) = v3 at *
        have hz6 := (unhide HB3).size
        refine (Rs.open_any (unhide HW3).got.lo g2 c2 (unhide HW3).cap2 (some ⟨q, 0, none⟩) 0 _ (unhide HW3).own).mono ?_
        rintro e w4 ⟨oa, oc, rfl, hoe, hb4⟩
        have HW4 := hide ((unhide HW3).later hb4)
        have HF4 := hide (Rs.Fr.below hb4 (Nat.le_refl _))
        have HOE := hide (hoe.lower hz6)
        have HB4 := hide ((unhide HB3).trans (hb4.mono hz6))
        have hz7 := (unhide HB4).size
        clear hoe hb4 x0 x1
        go_wp2_with fail
        obtain ⟨bs', hbs, hbl1, hbl2⟩ := Rs.enc_str l
        refine (Encode_any l ea ec _ (unhide HW4).evs hll2).mono ?_
        rw [hbs]
        generalize (Cl.encR l).2 = E
        clear hbs
        rintro e w5 ⟨rfl, hb5⟩
        have HW5 := hide ((unhide HW4).later hb5)
        have HF5 := hide ((unhide HF4).trans (Rs.Fr.below hb5 (Nat.le_refl _)))
        have HO5 := hide ((unhide HOE).below hb5 (Nat.le_refl _))
        have HB5 := hide ((unhide HB4).trans (hb5.mono hz7))
        have hz8 := (unhide HB5).size
        have hcl := Rs.decR_len bs' hbl2
        have HDE := hide (fun W => Decode_wr bs' W hbl1 hbl2)
        generalize (Cl.decR bs').1.length = cn at *
        generalize (Cl.decR bs').2 = E2 at *
        clear hb5 hbl1 hbl2
        go_wp2_with fail
        refine ((unhide HDE) _).mono ?_
        rintro e w6 ⟨ca, cc, rfl, _, hb6, hcw⟩
        have HW6 := hide ((unhide HW5).later hb6)
        have hF6 := (unhide HF5).trans (Rs.Fr.below hb6 (Nat.le_refl _))
        have HOE6 := hide ((unhide HO5).below hb6 (Nat.le_refl _))
        have HB6 := hide ((unhide HB5).trans (hb6.mono hz8))
        have hz9 := (unhide HB6).size
        have HBAG := hide (show Rs.Bag W0.heap.size w6 bx byy bz wa wn oa there.length ca cn from ⟨(unhide HX3).fr hF6, (unhide HZ3).fr hF6, (unhide HV3).fr hF6, (unhide HY3).fr hF6, (unhide HOE6).oo (unhide HW6).got.lo.good, hcw.lower hz8⟩)
        have hth := (unhide HW6).got.lo.len
        clear hb6 hcw hF6 HDE HX1 HX2 HX3 HY1 HY2 HY3 HZ2 HZ3 HV3 HW HW1 HW2 HW3 HW4 HW5 HF4 HF5 HOE HO5 HB1 HB2 HB3 HB4 HB5
        go_wp2_with fail
        go_loopw [28, 29] (fun hv iv wr => ∃ (j hl : Nat), j ≤ there.length ∧ iv = .int .i64 ((j : Nat) : Int) ∧ Rs.Hv w6 there j hl hv wr) (fun _ iv _ => there.length - (intOf iv).toNat)
        case atStart => exact ⟨0, 0, Nat.zero_le _, rfl, ⟨rfl, World.ownsRow_nil _ _ _ _, Below.refl _ _⟩⟩
        case round =>
          obtain ⟨j, hl, hj, rfl, hhv⟩ := hrel
          obtain ⟨ha, hc, rfl⟩ := Rs.form hhv.row
          have HHV := hide hhv
          clear hhv
          by_cases hlt2 : j < there.length
          · obtain ⟨l', hl'⟩ : ∃ t, there[j]? = some t := ⟨there[j], List.getElem?_eq_getElem hlt2⟩
            obtain ⟨b, o, a, c', hoa, hb, d0, hre, _⟩ := ((unhide HOE6).below (unhide HHV).bel (Nat.le_refl _)).at_ j l' hl'
            subst hoa
            have hlen := Rs.take_len there (unhide HW6).got.lo.good j
            have hlg := ((unhide HW6).got.lo.good l' (List.mem_of_getElem? hl')).len
            obtain ⟨v', W', hrun, hrow, hgr⟩ := Rs.run_evs 34 wr w6.heap.size (.slice ha hl hc) (there.take j).flatten (by rw [← (unhide HHV).len]; exact (unhide HHV).row) a c' l' hre (by rw [← (unhide HHV).len]; have := (unhide HHV).len; omega) (unhide HHV).bel.size
            rw [← (unhide HHV).len] at hrow
            have HNX := hide ((unhide HHV).next hl' hrow hgr)
            obtain ⟨ha', hc', rfl⟩ := Rs.form hrow
            have HRUN := hide hrun
            clear hrun hrow hgr hre hl' hlen
            have hj1 : (0 : Int) ≤ (j : Int) := by omega
            have hj2 : (j : Int) < (there.length : Int) := by omega
            go_wp2_with (at_builtin; refine Lg.wp_append_run rfl _ _ 34 rfl _ _ _ rfl rfl (unhide HRUN) ?_)
            exact ⟨⟨j + 1, hl + l'.length, by omega, by go_num, unhide HNX⟩, by simp [intOf]; omega⟩
          · have hj2 : ¬ (j : Int) < (there.length : Int) := by omega
            have hfin := (unhide HHV).done (by omega)
            obtain ⟨hlf, hre⟩ := hfin
            obtain rfl : hl = fl := hlf.trans (unhide HW6).got.fle.symm
            have hb7 := (unhide HHV).bel
            have HW7 := hide ((unhide HW6).later hb7)
            have HBAG7 := hide ((unhide HBAG).fr (Rs.Fr.below hb7 (Nat.le_refl _)))
            have HB7 := hide ((unhide HB6).trans (hb7.mono hz9))
            have HRE := hide hre
            have HSE := hide (fun (W : World) (h1 : Cl.RE W ha there.flatten) (h2 : Cl.RE W aa there.flatten) => (show Calls Try.prog 24 #[.slice ha hl hc, .slice aa hl ac] W fun e w' => e = .returned (.bool true) ∧ Below W.heap.size W w' by
              have := SameEvents_long there.flatten ha aa hc ac W h1 h2 (by rw [← (unhide HW6).got.fle]; have := (unhide HW6).got.fl; omega)
              rw [← (unhide HW6).got.fle] at this
              exact this))
            have HSD := hide (fun (W : World) (h1 : Dk.RK W (some ⟨g2, 0, none⟩) (Lg.img there free)) (h2 : Dk.RK W (some ⟨g, 0, none⟩) (Lg.img there free)) => (show Calls Try.prog 27 #[.agg #[.slice (some ⟨g2, 0, none⟩) n c2, .slice (some ⟨q, 0, none⟩) 0 0], .agg #[.slice (some ⟨g, 0, none⟩) n c, .slice none 0 0]] W fun e w' => e = .returned (.bool true) ∧ Below W.heap.size W w' by
              have hlen := Lg.img_len there free
              rw [(unhide HW6).got.lo.img] at hlen
              have := SameDisk_eq (some ⟨g2, 0, none⟩) (some ⟨g, 0, none⟩) (Lg.img there free) c2 c (some ⟨q, 0, none⟩) none [] 0 0 W h1 h2 (Dk.RW.nil _ _) (Dk.RW.nil _ _) (by rw [hlen]; exact h6) (by simp)
              rw [hlen] at this
              exact this))
            clear hre hlf hb7 HHV HOE6 HBAG HB6
            obtain ⟨w7, hw7⟩ : ∃ w7, w7 = wr := ⟨_, rfl⟩
            subst hw7
            go_wp2_with fail
            refine ((unhide HSE) _ (unhide HRE) (unhide HW7).got.re).mono ?_
            rintro e w8 ⟨rfl, hb8⟩
            have hW8 := (unhide HW7).later hb8
            have HW8 := hide hW8
            have HBAG8 := hide ((unhide HBAG7).fr (Rs.Fr.below hb8 (Nat.le_refl _)))
            have HB8 := hide ((unhide HB7).trans (hb8.mono (unhide HB7).size))
            have x0 := hW8.o.c0
            have x1 := hW8.o.c1
            have d0 := hW8.d.c0
            have d1 := hW8.d.c1
            clear hW8 hb8
            go_wp2_with fail
            refine ((unhide HSD) _ (unhide HW8).own (unhide HW8).got.rk).mono ?_
            rintro e w9 ⟨rfl, hb9'⟩
            have HW9 := hide ((unhide HW8).later hb9')
            have HBAG9 := hide ((unhide HBAG8).fr (Rs.Fr.below hb9' (Nat.le_refl _)))
            have HB9 := hide ((unhide HB8).trans (hb9'.mono (unhide HB8).size))
            clear hb9' x0 x1 d0 d1
            go_wp2_with fail
            refine (SameEvents_long l ea la ec lc _ (unhide HW9).evs (unhide HW9).arg hll2).mono ?_
            rintro e w10 ⟨rfl, hb10⟩
            have HBAG10 := hide ((unhide HBAG9).fr (Rs.Fr.below hb10 (Nat.le_refl _)))
            have HB10 := hide ((unhide HB9).trans (hb10.mono (unhide HB9).size))
            clear hb10 HBAG7 HBAG8 HBAG9 HB7 HB8 HB9 HW6 HW7 HW8 HW9 HSE HSD HRE
            obtain ⟨X0, X1, x0, x1, hdw⟩ := (unhide HBAG10).x.lies
            obtain ⟨p1, p2, p3, p4, p5, p6, rfl, rfl, q1, q2, q3, q4⟩ := hdw.lies
            have HSP := hide (spoilDisk_any W0.heap.size p2 p5 p3 p6 p1 p4 w10 q1 q2 (unhide HB10).size (by omega) (by omega))
            clear hdw q1 q2
            go_wp2_with fail
            refine (unhide HSP).mono ?_
            rintro e w11 ⟨rfl, hb11, hf11⟩
            have HBAG11 := hide ((unhide HBAG10).fr hf11)
            have HB11 := hide ((unhide HB10).trans hb11)
            clear hb11 hf11 HSP x0 x1 HBAG10 HB10
            obtain ⟨X0, X1, x0, x1, hdw⟩ := (unhide HBAG11).y.lies
            obtain ⟨p1, p2, p3, p4, p5, p6, rfl, rfl, q1, q2, q3, q4⟩ := hdw.lies
            have HSP := hide (spoilDisk_any W0.heap.size p2 p5 p3 p6 p1 p4 w11 q1 q2 (unhide HB11).size (by omega) (by omega))
            clear hdw q1 q2
            go_wp2_with fail
            refine (unhide HSP).mono ?_
            rintro e w12 ⟨rfl, hb12, hf12⟩
            have HBAG12 := hide ((unhide HBAG11).fr hf12)
            have HB12 := hide ((unhide HB11).trans hb12)
            clear hb12 hf12 HSP x0 x1 HBAG11 HB11
            obtain ⟨X0, X1, x0, x1, hdw⟩ := (unhide HBAG12).z.lies
            obtain ⟨p1, p2, p3, p4, p5, p6, rfl, rfl, q1, q2, q3, q4⟩ := hdw.lies
            have HSP := hide (spoilDisk_any W0.heap.size p2 p5 p3 p6 p1 p4 w12 q1 q2 (unhide HB12).size (by omega) (by omega))
            clear hdw q1 q2
            go_wp2_with fail
            refine (unhide HSP).mono ?_
            rintro e w13 ⟨rfl, hb13, hf13⟩
            have HBAG13 := hide ((unhide HBAG12).fr hf13)
            have HB13 := hide ((unhide HB12).trans hb13)
            clear hb13 hf13 HSP x0 x1 HBAG12 HB12
            go_wp2_with fail
            go_loopw [30] (fun iv wr => ∃ (j : Nat), j ≤ wn ∧ iv = .int .i64 ((j : Nat) : Int) ∧ Rs.Bag W0.heap.size wr bx byy bz wa wn oa there.length ca cn ∧ Below W0.heap.size W0 wr) (fun iv _ => wn - (intOf iv).toNat)
            case atStart => exact ⟨0, Nat.zero_le _, rfl, unhide HBAG13, unhide HB13⟩
            case round =>
              obtain ⟨j2, hj2', rfl, hbag, hbel⟩ := hrel
              have HBA := hide hbag
              have HBE := hide hbel
              clear hbag hbel HBAG13 HB13
              by_cases hlt3 : j2 < wn
              · obtain ⟨b, o, X0, X1, hwa, hb, x0, x1, hdw⟩ := (unhide HBA).way.at_ j2 hlt3
                subst hwa
                obtain ⟨p1, p2, p3, p4, p5, p6, rfl, rfl, q1, q2, q3, q4⟩ := hdw.lies
                have HSP := hide (spoilDisk_any W0.heap.size p2 p5 p3 p6 p1 p4 wr q1 q2 (unhide HBE).size (by omega) (by omega))
                have hj3 : (0 : Int) ≤ (j2 : Int) := by omega
                have hj4 : (j2 : Int) < (wn : Int) := by omega
                clear hdw q1 q2
                go_wp2_with fail
                refine (unhide HSP).mono ?_
                rintro e w14 ⟨rfl, hb14, hf14⟩
                have HBA2 := hide ((unhide HBA).fr hf14)
                have HBE2 := hide ((unhide HBE).trans hb14)
                clear hb14 hf14 HSP x0 x1
                go_wp2_with fail
                exact ⟨⟨j2 + 1, by omega, by go_num, unhide HBA2, unhide HBE2⟩, by simp [intOf]; omega⟩
              · have hj4 : ¬ (j2 : Int) < (wn : Int) := by omega
                obtain ⟨w15, hw15⟩ : ∃ w15, w15 = wr := ⟨_, rfl⟩
                subst hw15
                go_wp2_with fail
                go_loopw [31] (fun iv wr => ∃ (j : Nat), j ≤ there.length ∧ iv = .int .i64 ((j : Nat) : Int) ∧ Rs.Bag W0.heap.size wr bx byy bz wa wn oa there.length ca cn ∧ Below W0.heap.size W0 wr) (fun iv _ => there.length - (intOf iv).toNat)
                case atStart => exact ⟨0, Nat.zero_le _, rfl, unhide HBA, unhide HBE⟩
                case round =>
                  obtain ⟨j5, hj5', rfl, hbag, hbel⟩ := hrel
                  have HBA5 := hide hbag
                  have HBE5 := hide hbel
                  clear hbag hbel HBA HBE
                  by_cases hlt5 : j5 < there.length
                  · obtain ⟨b, o, a, mm, c', hoa, hb, x0, hwr, hmm⟩ := (unhide HBA5).o.at_ j5 hlt5
                    subst hoa
                    have HSP := hide (spoilEvents_any W0.heap.size mm c' a wr hwr (by omega))
                    have hj6 : (0 : Int) ≤ (j5 : Int) := by omega
                    have hj7 : (j5 : Int) < (there.length : Int) := by omega
                    clear hwr
                    go_wp2_with fail
                    refine (unhide HSP).mono ?_
                    rintro e w16 ⟨rfl, hb16, hf16⟩
                    have HBA6 := hide ((unhide HBA5).fr hf16)
                    have HBE6 := hide ((unhide HBE5).trans hb16)
                    clear hb16 hf16 HSP x0
                    go_wp2_with fail
                    exact ⟨⟨j5 + 1, by omega, by go_num, unhide HBA6, unhide HBE6⟩, by simp [intOf]; omega⟩
                  · have hj7 : ¬ (j5 : Int) < (there.length : Int) := by omega
                    have HSP := hide (spoilEvents_any W0.heap.size cn cc ca wr (unhide HBA5).c (by omega))
                    go_wp2_with fail
                    refine (unhide HSP).mono ?_
                    rintro e w17 ⟨rfl, hb17, _⟩
                    have HBE7 := hide ((unhide HBE5).trans hb17)
                    clear hb17 HSP
                    go_wp2_with fail
                    exact ⟨⟨k + 1, by omega, by go_num, unhide HBE7⟩, by simp [intOf]; omega⟩
      · have hk3 : ¬ (k : Int) < 2 := by omega
        have HBF := hide ((unhide HH).bel.trans (hbe.mono (unhide HH).bel.size))
        clear hbe
        go_wp2_with fail
        go_ret
        exact ⟨rfl, unhide HBF⟩
end Go.Proofs.Ytpabpcojiaklfaa
