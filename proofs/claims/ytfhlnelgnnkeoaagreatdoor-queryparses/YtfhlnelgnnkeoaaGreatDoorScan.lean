/-
  The contract of scan of package token: through the door of its deferred literal. By the verifier.
-/
import Derived.Test.YtfhlnelgnnkeoaaGreatDoorTokB
import Derived.Test.YtfhlnelgnnkeoaaGreatDoorCatch
import Derived.Deep.AppendLies
namespace Go.Proofs.YtfhlnelgnnkeoaaGreatDoor
open Go.RowKit
set_option linter.unusedVariables false

/-- The cells of a list of tokens. -/
def Tk.cells (s : ByteArray) (l : List (Nat × Nat × Nat)) : List Value :=
  l.flatMap fun t => [.int .i64 (t.1 : Int), .int .i64 (t.2.1 : Int), .string (s.extract t.2.1 (t.2.1 + t.2.2))]

theorem Tryz.info34 : (Tryz.prog.info? 80).map (fun i => (i.zero, i.size, i.bytes)) = some (some (.agg #[.int .i64 0, .int .i64 0, .string ⟨#[]⟩]), 3, 32) := by kernel_rfl

/-- What holds at the head of scan's loop: its three variables, the tokens so far, nothing old turned. -/
structure Tk.SI (s : ByteArray) (w wr : World) (acc : List (Nat × Nat × Nat)) (ad : Option Addr) (cap : Nat) : Prop where
  c0 : wr.cell? ⟨w.heap.size, 0, none⟩ = some (.slice ad acc.length cap)
  f0 : wr.frozen? ⟨w.heap.size, 0, none⟩ = false
  c1 : wr.cell? ⟨w.heap.size + 1, 0, none⟩ = some (.int .i64 0)
  f1 : wr.frozen? ⟨w.heap.size + 1, 0, none⟩ = false
  c2 : wr.cell? ⟨w.heap.size + 1 + 1, 0, none⟩ = some (.int .i64 0)
  f2 : wr.frozen? ⟨w.heap.size + 1 + 1, 0, none⟩ = false
  own : wr.ownsRow (w.heap.size + 3) 80 3 (.slice ad acc.length cap) acc.length (Tk.cells s acc)
  below : Below w.heap.size w wr
  size : w.heap.size + 3 ≤ wr.heap.size

theorem Tk.cells_snoc (s : ByteArray) (l : List (Nat × Nat × Nat)) (K k n : Nat) :
    Tk.cells s (l ++ [(K, k, n)]) = Tk.cells s l ++ [.int .i64 (K : Int), .int .i64 (k : Int), .string (s.extract k (k + n))] := by simp [Tk.cells]

theorem Tk.SI.first (s : ByteArray) (w : World) :
    Tk.SI s w (((w.alloc (.cells #[.slice none 0 0] 52)).alloc (.cells #[.int .i64 0] 3)).alloc (.cells #[.int .i64 0] 25)) [] none 0 := by
  refine ⟨?_, ?_, ?_, ?_, ?_, ?_, World.ownsRow_nil _ _ _ _, ?_, by simp⟩
  all_goals first | exact (((Below.refl _ _).alloc (Nat.le_refl _) _).alloc (by simp) _).alloc (by simp; omega) _ | simp [go_sem]

/-- Behind a round. -/
theorem Tk.SI.next {s : ByteArray} {w w1 : World} {acc : List (Nat × Nat × Nat)} {K k n g cap' : Nat} {u : Value}
    (q0 : w1.cell? ⟨w.heap.size, 0, none⟩ = some u) (q1 : w1.cell? ⟨w.heap.size + 1, 0, none⟩ = some (.int .i64 0)) (q2 : w1.cell? ⟨w.heap.size + 1 + 1, 0, none⟩ = some (.int .i64 0))
    (z0 : w1.frozen? ⟨w.heap.size, 0, none⟩ = false) (z1 : w1.frozen? ⟨w.heap.size + 1, 0, none⟩ = false) (z2 : w1.frozen? ⟨w.heap.size + 1 + 1, 0, none⟩ = false)
    (ho : w1.ownsRow (w.heap.size + 3) 80 3 (.slice (some ⟨g, 0, none⟩) (acc.length + 1) cap') (acc.length + 1) (Tk.cells s acc ++ [.int .i64 (K : Int), .int .i64 (k : Int), .string (s.extract k (k + n))]))
    (hb : Below w.heap.size w w1) (hs : w.heap.size + 3 ≤ w1.heap.size) :
    Tk.SI s w (w1.setCell ⟨w.heap.size, 0, none⟩ (.slice (some ⟨g, 0, none⟩) (acc.length + 1) cap')) (acc ++ [(K, k, n)]) (some ⟨g, 0, none⟩) cap' := by
  have hl : (acc ++ [(K, k, n)]).length = acc.length + 1 := by simp
  refine ⟨?_, ?_, ?_, ?_, ?_, ?_, ?_, hb.setCell (p := ⟨w.heap.size, 0, none⟩) (Nat.le_refl _) _, by simpa using hs⟩
  · rw [hl]; exact World.cell?_setCell_same _ _ _ q0
  · rw [World.frozen?_setCell]; exact z0
  · rw [World.cell?_setCell_other _ _ _ _ (by simp)]; exact q1
  · rw [World.frozen?_setCell]; exact z1
  · rw [World.cell?_setCell_other _ _ _ _ (by simp)]; exact q2
  · rw [World.frozen?_setCell]; exact z2
  · rw [hl, Tk.cells_snoc]; exact ownsRow_setCell_below ho (by show w.heap.size < _; omega) _

/-- Behind the last statement of scan: its results read, nothing else turned. -/
theorem Tk.SI.last {s : ByteArray} {w wr : World} {acc : List (Nat × Nat × Nat)} {ad : Option Addr} {cap : Nat} (h : Tk.SI s w wr acc ad cap) {W : World}
    (hW : ((wr.setCell ⟨w.heap.size, 0, none⟩ (.slice ad acc.length cap)).setCell ⟨w.heap.size + 1, 0, none⟩ (.int .i64 0)).setCell ⟨w.heap.size + 1 + 1, 0, none⟩ (.int .i64 0) = W) :
    W.cell? ⟨w.heap.size, 0, none⟩ = some (.slice ad acc.length cap) ∧ W.cell? ⟨w.heap.size + 1, 0, none⟩ = some (.int .i64 0) ∧ W.cell? ⟨w.heap.size + 1 + 1, 0, none⟩ = some (.int .i64 0) ∧
      W.ownsRow (w.heap.size + 3) 80 3 (.slice ad acc.length cap) acc.length (Tk.cells s acc) ∧ Below w.heap.size w W := by
  obtain ⟨d0, d1, d2, _⟩ := three_set wr w.heap.size _ _ _ (.slice ad acc.length cap) (.int .i64 0) (.int .i64 0) h.c0 h.c1 h.c2
  subst hW
  refine ⟨d0, d1, d2, ?_, ?_⟩
  · exact ownsRow_setCell_below (ownsRow_setCell_below (ownsRow_setCell_below h.own (by show w.heap.size < _; omega) _) (by show w.heap.size + 1 < _; omega) _) (by show w.heap.size + 1 + 1 < _; omega) _
  · exact ((h.below.setCell (p := ⟨w.heap.size, 0, none⟩) (Nat.le_refl _) _).setCell (p := ⟨w.heap.size + 1, 0, none⟩) (by show w.heap.size ≤ w.heap.size + 1; omega) _).setCell (p := ⟨w.heap.size + 1 + 1, 0, none⟩) (by show w.heap.size ≤ w.heap.size + 1 + 1; omega) _

theorem ownsRow_later {w w' : World} {B b : Nat} {e : TypeId} {size : Nat} {v : Value} {n : Nat} {xs : List Value} (h : w.ownsRow b e size v n xs) (hb : Below B w w') (hB : w.heap.size ≤ B) : w'.ownsRow b e size v n xs := by
  refine ⟨h.1, ?_⟩
  rcases h.2 with h2 | ⟨g, cap, cur, hv, hg, hh, r⟩
  · exact .inl h2
  · refine .inr ⟨g, cap, cur, hv, hg, ?_, r⟩
    rw [hb.block g (by have := (Array.getElem?_eq_some_iff.1 hh).1; omega)]
    exact hh

theorem Tk.extract_size (s : ByteArray) (k n : Nat) (h : k + n ≤ s.size) : (s.extract k (k + n)).size = n := by
  rw [ByteArray.size_extract]; omega

/-- Behind the append: the variables and the new token read as ahead of it. -/
theorem after_append {w' w1 : World} {N M : Nat} {o : Array Value} {row : Option Nat} {v0 v1 v2 : Value}
    (hgrow : ((w'.alloc (.cells o 80)).alloc (.cells o 80)).grownBy w1 row) (hrow : ∀ q, row = some q → N + 3 ≤ q ∧ q < M) (hN : N + 3 ≤ M) (hM : M ≤ w'.heap.size)
    (g0 : w'.cell? ⟨N, 0, none⟩ = some v0) (g1 : w'.cell? ⟨N + 1, 0, none⟩ = some v1) (g2 : w'.cell? ⟨N + 1 + 1, 0, none⟩ = some v2)
    (k0 : w'.frozen? ⟨N, 0, none⟩ = false) (k1 : w'.frozen? ⟨N + 1, 0, none⟩ = false) (k2 : w'.frozen? ⟨N + 1 + 1, 0, none⟩ = false) :
    (w1.cell? ⟨N, 0, none⟩ = some v0 ∧ w1.cell? ⟨N + 1, 0, none⟩ = some v1 ∧ w1.cell? ⟨N + 1 + 1, 0, none⟩ = some v2) ∧
    (w1.frozen? ⟨N, 0, none⟩ = false ∧ w1.frozen? ⟨N + 1, 0, none⟩ = false ∧ w1.frozen? ⟨N + 1 + 1, 0, none⟩ = false) ∧
    (∀ j, w1.cell? ⟨w'.heap.size, j, none⟩ = o[j]?) := by
  have far : ∀ b, b < N + 3 → some b ≠ row := fun b hb e => by have := hrow b e.symm; omega
  have farM : some w'.heap.size ≠ row := fun e => by have := hrow _ e.symm; omega
  have hs : ((w'.alloc (.cells o 80)).alloc (.cells o 80)).heap.size = w'.heap.size + 1 + 1 := by simp
  have cl : ∀ b, b < N + 3 → w1.cell? ⟨b, 0, none⟩ = w'.cell? ⟨b, 0, none⟩ := fun b hb => by
    rw [hgrow.cell_far ⟨b, 0, none⟩ (by show b < _; omega) (far b hb), World.cell?_alloc_past _ _ _ (by simp; omega), World.cell?_alloc_past _ _ _ (by omega)]
  have fz : ∀ b, b < N + 3 → w1.frozen? ⟨b, 0, none⟩ = w'.frozen? ⟨b, 0, none⟩ := fun b hb => by
    rw [hgrow.frozen_far ⟨b, 0, none⟩ (by show b < _; omega) (far b hb), World.frozen?_alloc_past _ _ _ (by simp; omega), World.frozen?_alloc_past _ _ _ (by omega)]
  refine ⟨⟨(cl _ (by omega)).trans g0, (cl _ (by omega)).trans g1, (cl _ (by omega)).trans g2⟩, ⟨(fz _ (by omega)).trans k0, (fz _ (by omega)).trans k1, (fz _ (by omega)).trans k2⟩, fun j => ?_⟩
  rw [hgrow.cell_far ⟨w'.heap.size, j, none⟩ (by show w'.heap.size < _; omega) farM, World.cell?_alloc_past _ _ _ (by simp)]
  simp

theorem ownsRow_base {w : World} {b b' : Nat} {e : TypeId} {size : Nat} {v : Value} {n : Nat} {xs : List Value} (h : w.ownsRow b e size v n xs) (hb : b' ≤ b) : w.ownsRow b' e size v n xs := by
  refine ⟨h.1, ?_⟩
  rcases h.2 with h2 | ⟨g, cap, cur, hv, hg, r⟩
  · exact .inl h2
  · exact .inr ⟨g, cap, cur, hv, by omega, r⟩

set_option maxHeartbeats 800000 in
theorem scan_any (s : ByteArray) (w : World) (hs : s.size ≤ 6000) (R : List (Nat × Nat × Nat) × Nat × Nat) (hR : Tk.scl (Tk.B s) 0 0 false [] = R) :
    Calls Tryz.prog 42 #[.string s] w fun e w' => ∃ v, e = .returned (.tuple #[v, .int .i64 (R.2.1 : Int), .int .i64 (R.2.2 : Int)]) ∧ w'.ownsRow w.heap.size 80 3 v R.1.length (Tk.cells s R.1) ∧ Below w.heap.size w w' := by
  have hmf : ∀ (fn : Fn) (first cap : Array Value) (w : World), (Instr.makeFunc fn first cap).run Tryz.prog w = .ok (.func fn first cap) w := fun _ _ _ _ => rfl
  have hml : s.size ≤ maxLen := by unfold maxLen; omega
  have HM := hide hml
  have HR := hide hR
  clear hml hR
  go_enter_defers Tryz.func42, Tryz.ntmps42
  go_wp2_with fail
  refine (behindGap_any s 0 _ (unhide HM) (Nat.zero_le _)).mono ?_
  rintro e w' ⟨rfl, rfl⟩
  go_wp2_with fail
  go_loopw [5] (fun iv wr => ∃ (k : Nat) (acc : List (Nat × Nat × Nat)) (ad : Option Addr) (cap : Nat), k ≤ s.size ∧ iv = .int .i64 k ∧ acc.length ≤ k ∧ Tk.gap false ((Tk.B s).drop k) = 0 ∧
      Tk.scl ((Tk.B s).drop k) k 0 false acc = R ∧ Tk.SI s w wr acc ad cap) (fun iv _ => s.size - (intOf iv).toNat)
  case atStart =>
    refine ⟨Tk.gap false (Tk.B s), [], none, 0, ?_, rfl, by simp, ?_, ?_, ?_⟩
    · have := Tk.gap_bound s 0 (Nat.zero_le _); simpa using this
    · exact Tk.gap_gap (Tk.B s) false
    · have := Tk.scl_gap (Tk.B s) 0 false []; rw [unhide HR] at this; simpa using this.symm
    · exact Tk.SI.first s w
  case round =>
    obtain ⟨k, acc, ad, cap, hk, rfl, hacc, hgap, hscl, hSI⟩ := hrel
    have HG := hide hgap
    have HSC := hide hscl
    clear hgap hscl HR
    have HI := hide hSI
    obtain ⟨c0, f0, c1, f1, c2, f2, own, below, size⟩ := hSI
    have HO := hide own
    have HB := hide below
    clear own below
    by_cases hlt : k < s.size
    · by_cases hbad : Tk.bad ((Tk.B s).drop k) = 0
      · have HBD := hide hbad
        clear hbad
        go_wp2_with fail
        refine (tokenAt_ok s k _ (unhide HM) hlt (unhide HBD)).mono ?_
        rintro e w' ⟨rfl, hb⟩
        obtain ⟨hc, hf⟩ := bcell hb
        have hsz := hb.size
        have g0 := hc w.heap.size 0 (by omega)
        rw [c0] at g0
        have g1 := hc (w.heap.size + 1) 0 (by omega)
        rw [c1] at g1
        have g2 := hc (w.heap.size + 1 + 1) 0 (by omega)
        rw [c2] at g2
        have k0 := hf w.heap.size 0 (by omega)
        rw [f0] at k0
        have k1 := hf (w.heap.size + 1) 0 (by omega)
        rw [f1] at k1
        have k2 := hf (w.heap.size + 1 + 1) 0 (by omega)
        rw [f2] at k2
        clear hc hf
        generalize hK : Tk.tokK ((Tk.B s).drop k) = K at *
        generalize hn : Tk.tokN ((Tk.B s).drop k) = n at *
        have HK := hide hK
        have HN := hide hn
        clear hK hn
        have hb' := hide hb
        clear hb
        unfold Tk.tokV
        have lt0 : w.heap.size < w'.heap.size := by omega
        have lt1 : w.heap.size + 1 < w'.heap.size := by omega
        have lt2 : w.heap.size + 1 + 1 < w'.heap.size := by omega
        obtain ⟨i0, hi0, hz0, hz1, hz2⟩ := info_parts Tryz.info34
        have hown := ((ownsRow_later (unhide HO) (unhide hb') (Nat.le_refl _)).alloc (.cells #[.int .i64 (K : Int), .int .i64 (k : Int), .string (s.extract k (k + n))] 80)).alloc (.cells #[.int .i64 (K : Int), .int .i64 (k : Int), .string (s.extract k (k + n))] 80)
        have HOW := hide hown
        clear hown
        have hown0 : ∀ q, (Value.slice ad acc.length cap).ownBlock = some q → w.heap.size + 3 ≤ q ∧ q < wr.heap.size := (unhide HO).lt
        have hblk : ((w'.alloc (.cells #[.int .i64 (K : Int), .int .i64 (k : Int), .string (s.extract k (k + n))] 80)).alloc (.cells #[.int .i64 (K : Int), .int .i64 (k : Int), .string (s.extract k (k + n))] 80)).heap[w'.heap.size + 1]? = some (.cells #[.int .i64 (K : Int), .int .i64 (k : Int), .string (s.extract k (k + n))] 80 (0, 0)) := by
          have := heap_alloc_new (w'.alloc (.cells #[.int .i64 (K : Int), .int .i64 (k : Int), .string (s.extract k (k + n))] 80)) (.cells #[.int .i64 (K : Int), .int .i64 (k : Int), .string (s.extract k (k + n))] 80)
          rw [World.size_alloc] at this
          exact this
        have HBK := hide hblk
        have HI0 := hide hi0
        have hn1 : k + n ≤ s.size := by
          have := Tk.tokN_le ((Tk.B s).drop k)
          rw [unhide HN, List.length_drop, Tk.B_length] at this; omega
        have hex := Tk.extract_size s k n hn1
        clear hblk hi0
        go_wp2_with (at_builtin; refine wpList_append_lies _ (by rfl) _ _ _ (by rfl) (w.heap.size + 3) 80 i0 _ 3 32 Tryz.underlying52 (unhide HI0) hz0 hz1 hz2 rfl (by omega) (.slice ad acc.length cap) acc.length (Tk.cells s acc) (by rfl) (unhide HOW) ⟨w'.heap.size + 1, 0, none⟩ 1 1 [.int .i64 (K : Int), .int .i64 (k : Int), .string (s.extract k (k + n))] (by rfl) (by rfl) (World.news_of_block (unhide HBK)) (by simp [Value.oneCell']) (by omega) (by unfold maxLen; omega) (by omega) (by simp; omega) (w'.heap.size + 1 + 1) (by simp) ?_; intro g cap' w1 hown1 hgrow hat hlt1; obtain ⟨⟨q0, q1, q2⟩, ⟨z0, z1, z2⟩, qt⟩ := after_append hgrow hown0 size hsz g0 g1 g2 k0 k1 k2; have HO1 := hide hown1; have HG1 := hide hgrow; have HA := hide hat; have hq2 := qt 2; clear qt hown1 hgrow hat)
        rw [show (k : Int) + (n : Int) = ((k + n : Nat) : Int) from by omega]
        refine (behindGap_any s (k + n) _ (unhide HM) hn1).mono ?_
        rintro e w2 ⟨rfl, rfl⟩
        go_wp2_with fail
        have hgb := Tk.gap_bound s (k + n) hn1
        have hg0 := unhide HG
        rw [Tk.B_drop s k hlt] at hg0
        have hbd := unhide HBD
        rw [Tk.B_drop s k hlt] at hbd
        have hst := Tk.scl_tok _ ((Tk.B s).drop (k + 1)) k acc ((Tk.gap_free _ _).1 hg0) hbd
        have hpos := Tk.tokN_pos _ _ hbd
        rw [← Tk.B_drop s k hlt, unhide HN] at hpos
        rw [← Tk.B_drop s k hlt, unhide HSC, unhide HN, unhide HK, List.drop_drop, Tk.scl_gap, List.drop_drop] at hst
        have hs1 := (unhide HG1).size
        simp at hs1
        have b1 : Below w.heap.size w w' := (unhide HB).trans ((unhide hb').mono (by omega))
        have b3 := ((b1.alloc (by omega) _).alloc (by simp; omega) _).grown (unhide HG1) (by simp; omega) (fun q hq => by have := hown0 q hq; omega)
        refine ⟨⟨k + n + Tk.gap false ((Tk.B s).drop (k + n)), acc ++ [(K, k, n)], some ⟨g, 0, none⟩, cap', hgb, by go_num, by simp; omega, ?_, hst.symm, Tk.SI.next q0 q1 q2 z0 z1 z2 (unhide HO1) b3 (by omega)⟩, by simp [intOf]; omega⟩
        rw [← List.drop_drop]
        exact Tk.gap_gap _ false
      · have HBD := hide hbad
        clear hbad
        go_wp2_with fail
        refine (tokenAt_bad s k _ (unhide HM) hlt (unhide HBD)).mono ?_
        rintro e w' ⟨rfl, hb⟩
        obtain ⟨hc, hf⟩ := bcell hb
        have hsz := hb.size
        have g0 := hc w.heap.size 0 (by omega)
        rw [c0] at g0
        have g1 := hc (w.heap.size + 1) 0 (by omega)
        rw [c1] at g1
        have g2 := hc (w.heap.size + 1 + 1) 0 (by omega)
        rw [c2] at g2
        have k0 := hf w.heap.size 0 (by omega)
        rw [f0] at k0
        have k1 := hf (w.heap.size + 1) 0 (by omega)
        rw [f1] at k1
        have k2 := hf (w.heap.size + 1 + 1) 0 (by omega)
        rw [f2] at k2
        go_wp2_with fail
        refine leaves_cons (f := 54) (args := #[.pointer (some ⟨w.heap.size, 0, none⟩), .pointer (some ⟨w.heap.size + 1, 0, none⟩), .pointer (some ⟨w.heap.size + 1 + 1, 0, none⟩)]) (by simp) (by simp [go_sem]) ?_
        refine (catch_place w.heap.size k _ w' _ _ _ (by omega) g0 k0 g1 k1 g2 k2).mono ?_
        rintro e u' w'' ⟨rfl, rfl, d0, d1, d2, hb2⟩
        simp [Leaves, settle, results, Tryz.results42, go_sem, d0, d1, d2]
        have hR := unhide HSC
        rw [Tk.B_drop s k hlt] at hR
        have hg0 := unhide HG
        rw [Tk.B_drop s k hlt] at hg0
        have hbd := unhide HBD
        rw [Tk.B_drop s k hlt] at hbd
        rw [Tk.scl_bad _ _ _ _ ((Tk.gap_free _ _).1 hg0) hbd, ← Tk.B_drop s k hlt] at hR
        subst hR
        exact ⟨_, ⟨rfl, rfl, rfl⟩, World.ownsRow_nil _ _ _ _, ((unhide HB).trans (hb.mono (by omega))).trans hb2⟩
    · go_wp2_with fail
      generalize hW : ((wr.setCell ⟨w.heap.size, 0, none⟩ (.slice ad acc.length cap)).setCell ⟨w.heap.size + 1, 0, none⟩ (.int .i64 0)).setCell ⟨w.heap.size + 1 + 1, 0, none⟩ (.int .i64 0) = W
      obtain ⟨d0, d1, d2, ho, hb2⟩ := (unhide HI).last hW
      clear hW
      refine leaves_cons (f := 54) (args := #[.pointer (some ⟨w.heap.size, 0, none⟩), .pointer (some ⟨w.heap.size + 1, 0, none⟩), .pointer (some ⟨w.heap.size + 1 + 1, 0, none⟩)]) (by simp) (by simp [go_sem]) ?_
      refine (catch_idle _ _ _ _).mono ?_
      rintro e u' w'' ⟨rfl, rfl, rfl⟩
      simp [Leaves, settle, results, Tryz.results42, go_sem, d0, d1, d2]
      have hR := unhide HSC
      rw [Tk.B_drop_end s k (by omega), Tk.scl_nil] at hR
      subst hR
      exact ⟨_, ⟨rfl, rfl, rfl⟩, ownsRow_base ho (by omega), hb2⟩

/-- What Scan answers: the tokens, the place, the error. -/
def Tk.scanR (s : ByteArray) : List (Nat × Nat × Nat) × Nat × Nat := if 6000 < s.size then ([], 0, 2) else Tk.scl (Tk.B s) 0 0 false []

set_option maxHeartbeats 400000 in
theorem Scan_any (s : ByteArray) (w : World) (hs : s.size ≤ maxLen) :
    Calls Tryz.prog 31 #[.string s] w fun e w' => ∃ v, e = .returned (.tuple #[v, .int .i64 ((Tk.scanR s).2.1 : Int), .int .i64 ((Tk.scanR s).2.2 : Int)]) ∧ w'.ownsRow w.heap.size 80 3 v (Tk.scanR s).1.length (Tk.cells s (Tk.scanR s).1) ∧ Below w.heap.size w w' := by
  unfold maxLen at hs
  by_cases h : 6000 < s.size
  · have hR : Tk.scanR s = ([], 0, 2) := by simp [Tk.scanR, h]
    rw [hR]
    clear hR
    go_enter Tryz.func31, Tryz.ntmps31
    go_wp2_with fail
    go_ret3
    exact ⟨_, rfl, World.ownsRow_nil _ _ _ _, Below.refl _ _⟩
  · have hR : Tk.scl (Tk.B s) 0 0 false [] = Tk.scanR s := by simp [Tk.scanR, h]
    have HR := hide hR
    clear hR
    go_enter Tryz.func31, Tryz.ntmps31
    go_wp2_with fail
    refine (scan_any s _ (by omega) _ (unhide HR)).mono ?_
    rintro e w' ⟨v, rfl, ho, hb⟩
    have HO := hide ho
    have HB := hide hb
    clear ho hb
    go_wp2_with fail
    go_ret3
    exact ⟨_, rfl, unhide HO, unhide HB⟩

end Go.Proofs.YtfhlnelgnnkeoaaGreatDoor
