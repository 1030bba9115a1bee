/-
  XRn, PKind. By the verifier.
-/
import Derived.Test.YtpfogjplnodacaaGreatLL
import Derived.Test.YtpfogjplnodacaaGreatLE
import Derived.Test.YtpfogjplnodacaaGreatLD
set_option maxHeartbeats 1600000
namespace Go.Proofs.YtpfogjplnodacaaGreat
open Go.RowKit
set_option linter.unusedVariables false
def Xr.rnL {α β : Type} (f : Nat → α → β × Nat) : Nat → List α → List β × Nat
 | left, [] => ([], left)
 | 0, _ :: _ => ([], 0)
 | left + 1, y :: l => ((f left y).1 :: (Xr.rnL f (f left y).2 l).1, (Xr.rnL f (f left y).2 l).2)
def Xr.rn (vs : List (List Int)) : (n : Nat) → Nat → Pg.XT n → Pg.XT n × Nat
 | 0, left, x => (x, left)
 | n + 1, left, x => (((x.1.1, if x.1.1 = 2 ∨ x.1.1 = 3 then ((Pg.kindV vs x.1.2 : Nat) : Int) else x.1.2), (Xr.rnL (Xr.rn vs n) left x.2).1), (Xr.rnL (Xr.rn vs n) left x.2).2)
theorem Xr.rnL_zero {α β : Type} (f : Nat → α → β × Nat) (l : List α) : Xr.rnL f 0 l = ([], 0) := by cases l <;> rfl
theorem Xr.rnL_sum {α β : Type} (f : Nat → α → β × Nat) (p : β → Nat) : ∀ (l : List α) (left : Nat) (h : ∀ k, ∀ y ∈ l, (f k y).2 + p (f k y).1 = k + 1), (Xr.rnL f left l).2 + ((Xr.rnL f left l).1.map p).sum = left
 | [], left, _ => by simp [Xr.rnL]
 | y :: l, 0, _ => by simp [Xr.rnL]
 | y :: l, left + 1, h => by
  have h1 := h left y List.mem_cons_self
  have h2 := Xr.rnL_sum f p l (f left y).2 (fun k z hz => h k z (List.mem_cons_of_mem _ hz))
  show (Xr.rnL f (f left y).2 l).2 + (((f left y).1 :: (Xr.rnL f (f left y).2 l).1).map p).sum = left + 1
  rw [List.map_cons, List.sum_cons]
  omega
theorem Xr.rnL_all {α β : Type} (f : Nat → α → β × Nat) (g : α → β) (p : α → Nat) : ∀ (l : List α) (left : Nat) (h : ∀ k, ∀ y ∈ l, 0 < p y ∧ (p y ≤ k + 1 → f k y = (g y, k + 1 - p y)) ∧ (k + 1 < p y → (f k y).2 = 0)), ((l.map p).sum ≤ left → Xr.rnL f left l = (l.map g, left - (l.map p).sum)) ∧ (left < (l.map p).sum → (Xr.rnL f left l).2 = 0)
 | [], left, _ => ⟨fun _ => by simp [Xr.rnL], fun h => by simp at h⟩
 | y :: l, 0, h => by
  obtain ⟨h0, _, _⟩ := h 0 y List.mem_cons_self
  exact ⟨fun hs => by rw [List.map_cons, List.sum_cons] at hs; omega, fun _ => rfl⟩
 | y :: l, left + 1, h => by
  obtain ⟨h0, h1, h2⟩ := h left y List.mem_cons_self
  have ih := fun k => Xr.rnL_all f g p l k (fun k z hz => h k z (List.mem_cons_of_mem _ hz))
  rw [List.map_cons, List.sum_cons, List.map_cons]
  constructor
  · intro hs
    have e1 := h1 (by omega)
    have e2 := (ih (left + 1 - p y)).1 (by omega)
    show ((f left y).1 :: (Xr.rnL f (f left y).2 l).1, (Xr.rnL f (f left y).2 l).2) = _
    rw [e1]
    show (g y :: (Xr.rnL f (left + 1 - p y) l).1, (Xr.rnL f (left + 1 - p y) l).2) = _
    rw [e2]
    show (g y :: l.map g, left + 1 - p y - (l.map p).sum) = _
    rw [Nat.sub_sub]
  · intro hs
    show (Xr.rnL f (f left y).2 l).2 = 0
    by_cases hy : p y ≤ left + 1
    · rw [h1 hy]
      exact (ih (left + 1 - p y)).2 (by omega)
    · rw [h2 (by omega), Xr.rnL_zero]
theorem Xr.rn_sum (vs : List (List Int)) : ∀ (n left : Nat) (x : Pg.XT n), (Xr.rn vs n left x).2 + Pg.parts n (Xr.rn vs n left x).1 = left + 1
 | 0, _, x => x.elim
 | n + 1, left, x => by
  have h := Xr.rnL_sum (Xr.rn vs n) (Pg.parts n) x.2 left (fun k y _ => Xr.rn_sum vs n k y)
  show (Xr.rnL (Xr.rn vs n) left x.2).2 + (1 + ((Xr.rnL (Xr.rn vs n) left x.2).1.map (Pg.parts n)).sum) = left + 1
  omega
theorem Pg.parts_pos : ∀ (n : Nat) (x : Pg.XT n), 0 < Pg.parts n x
 | 0, x => x.elim
 | n + 1, x => by
  show 0 < 1 + (x.2.map (Pg.parts n)).sum
  omega
theorem Xr.rn_all (vs : List (List Int)) : ∀ (n left : Nat) (x : Pg.XT n), (Pg.parts n x ≤ left + 1 → Xr.rn vs n left x = (Pg.ren vs n x, left + 1 - Pg.parts n x)) ∧ (left + 1 < Pg.parts n x → (Xr.rn vs n left x).2 = 0)
 | 0, _, x => x.elim
 | n + 1, left, x => by
  obtain ⟨h1, h2⟩ := Xr.rnL_all (Xr.rn vs n) (Pg.ren vs n) (Pg.parts n) x.2 left (fun k y _ => ⟨Pg.parts_pos n y, Xr.rn_all vs n k y⟩)
  have hp : Pg.parts (n + 1) x = 1 + (x.2.map (Pg.parts n)).sum := rfl
  rw [hp]
  constructor
  · intro h
    show (((x.1.1, if x.1.1 = 2 ∨ x.1.1 = 3 then ((Pg.kindV vs x.1.2 : Nat) : Int) else x.1.2), (Xr.rnL (Xr.rn vs n) left x.2).1), (Xr.rnL (Xr.rn vs n) left x.2).2) = _
    rw [h1 (by omega), show left + 1 - (1 + (x.2.map (Pg.parts n)).sum) = left - (x.2.map (Pg.parts n)).sum by omega]
    rfl
  · intro h
    exact h2 (by omega)
theorem Xr.chkX_rn (vs : List (List Int)) (n : Nat) (x : Pg.XT n) : Pg.chkX [0, 1] n (Xr.rn vs n 15 x).1 = Pg.chkX (Pg.sizesOf vs) n x := by
 obtain ⟨h1, h2⟩ := Xr.rn_all vs n 15 x
 by_cases h : Pg.parts n x ≤ 16
 · rw [h1 h]
   exact Pg.chkX_ren vs n x
 · have h3 := Xr.rn_sum vs n 15 x
   rw [h2 (by omega)] at h3
   unfold Pg.chkX
   rw [if_pos (by omega), if_pos (by omega)]
def Xr.x0 (n : Nat) : Pg.XT (n + 1) := ((0, 0), [])
def Xr.prt {n : Nat} (x : Pg.XT (n + 1)) : List (Pg.FT (n + 1) 1) := [⟨0, [0, 1], [((5, 0, 0), (Xr.x0 n, x, []), ([], []))], Xr.x0 n⟩]
theorem Xr.prt_fit {n : Nat} (x : Pg.XT (n + 1)) : Pg.parFit (Xr.prt x) := by
 intro y hy
 simp only [Xr.prt, List.mem_cons, List.not_mem_nil, or_false] at hy
 subst hy
 show (0 : Int) ≤ 9223372036854775807
 omega
theorem Pg.first_one (a : Nat) : Pg.first [a] = a := by
 unfold Pg.first
 by_cases h : a = 0
 · rw [if_pos h]; exact h.symm
 · rw [if_neg h]
theorem Pg.orW_right (a : Nat) : Pg.orW a 0 = a := by
 unfold Pg.orW
 by_cases h : a = 0
 · rw [if_pos h]; exact h.symm
 · rw [if_neg h]
theorem Pg.orW_left (a : Nat) : Pg.orW 0 a = a := if_pos rfl
theorem Pg.wc_print (va : Option Int) (my pa : Bool) (wi we : Nat) : Pg.wc 5 va my false pa wi we 0 = we := by
 unfold Pg.wc
 rw [if_neg (by omega), if_neg (by omega), if_neg (by omega), if_neg (by omega), if_neg (by simp), if_neg (by omega), if_neg (by omega), if_neg (by omega), Pg.orW_left, Pg.orW_right]
theorem Xr.prt_chk {n : Nat} (x : Pg.XT (n + 1)) : Pg.chkP (Xr.prt x) = Pg.chkX [0, 1] (n + 1) x := by
 have h1 : Pg.manyP (Xr.prt x) = false := rfl
 have hm : Pg.more 5 0 0 0 (Pg.isX (n + 1) (Xr.x0 n)) (Pg.isX (n + 1) x) 0 0 = false := by simp [Pg.more, Pg.isX, Xr.x0]
 have h2 : ∀ y ∈ Xr.prt x, Pg.wcs (Xr.prt x) 0 y 1 [((5, 0, 0), (Xr.x0 n, x, []), ([], []))] = Pg.chkX [0, 1] (n + 1) x := by
  intro y hy
  simp only [Xr.prt, List.mem_cons, List.not_mem_nil, or_false] at hy
  subst hy
  show Pg.first [Pg.orW (Pg.wc 5 _ _ (Pg.more 5 0 0 0 (Pg.isX (n + 1) (Xr.x0 n)) (Pg.isX (n + 1) x) 0 0) _ _ (Pg.chkX [0, 1] (n + 1) x) 0) (Pg.orW 0 0)] = _
  rw [Pg.first_one, hm, Pg.wc_print, Pg.orW_left, Pg.orW_right]
 have h3 : Pg.wfns (Xr.prt x) = [Pg.chkX [0, 1] (n + 1) x] := by
  show [Pg.orW (Pg.whead true 0 [0, 1]) (Pg.orW (Pg.wcs (Xr.prt x) 0 _ 1 [((5, 0, 0), (Xr.x0 n, x, []), ([], []))]) (Pg.wres true (n + 1) 1 _))] = _
  rw [h2 _ List.mem_cons_self, show Pg.whead true 0 [0, 1] = 0 from rfl, Pg.orW_left]
  exact congrArg (fun z => [z]) (Pg.orW_right _)
 unfold Pg.chkP
 rw [if_neg (show ¬ (Xr.prt x).length = 0 from Nat.one_ne_zero), if_neg (show ¬ 6 < (Xr.prt x).length by show ¬ 6 < 1; omega), h1, if_neg (by simp), h3, Pg.first_one]
end Go.Proofs.YtpfogjplnodacaaGreat
namespace Go.Proofs.YtpfogjplnodacaaGreat
open Go.RowKit
set_option linter.unusedVariables false
def Xr.c3 (e : Pg.E) : List Value := [.int .i64 e.k, .int .i64 e.n, .slice e.args.ad e.args.len e.args.cap]
def Xr.exC (l : List Pg.E) : List Value := l.flatMap Xr.c3
theorem Xr.exC_at : ∀ (l : List Pg.E) (i : Nat) (x : Pg.E) (j : Nat) (v : Value), l[i]? = some x → (Xr.c3 x)[j]? = some v → (Xr.exC l)[i * 3 + j]? = some v
 | [], i, x, j, v, h, _ => by simp at h
 | e :: r, 0, x, j, v, h, hv => by
  simp at h
  subst h
  show (Xr.c3 e ++ Xr.exC r)[0 * 3 + j]? = _
  have hj := (List.getElem?_eq_some_iff.1 hv).1
  rw [Nat.zero_mul, Nat.zero_add, List.getElem?_append_left hj]
  exact hv
 | e :: r, i + 1, x, j, v, h, hv => by
  show (Xr.c3 e ++ Xr.exC r)[(i + 1) * 3 + j]? = _
  have e3 : (Xr.c3 e).length = 3 := rfl
  rw [List.getElem?_append_right (by rw [e3]; omega), e3, show (i + 1) * 3 + j - 3 = i * 3 + j by omega]
  exact Xr.exC_at r i x j v (by simpa using h) hv
theorem Xr.exC_snoc (l : List Pg.E) (e : Pg.E) : Xr.exC (l ++ [e]) = Xr.exC l ++ Xr.c3 e := by
 unfold Xr.exC
 simp
structure Xr.RO (B S : Nat) (W : World) (n : Nat) (e : Pg.E) (x : Pg.XT n) : Prop where
 lo : B ≤ S
 hi : S ≤ W.heap.size
 is : ∀ W' : World, S ≤ W'.heap.size → (∀ q, B ≤ q → q < S → W'.heap[q]? = W.heap[q]?) → Pg.RX W' n e x
theorem Xr.RO.rx {B S : Nat} {W : World} {n : Nat} {e : Pg.E} {x : Pg.XT n} (h : Xr.RO B S W n e x) : Pg.RX W n e x := h.is W h.hi (fun _ _ _ => rfl)
theorem Xr.RO.kept {B S : Nat} {W W' : World} {n : Nat} {e : Pg.E} {x : Pg.XT n} (h : Xr.RO B S W n e x) (hs : S ≤ W'.heap.size) (hb : ∀ q, B ≤ q → q < S → W'.heap[q]? = W.heap[q]?) : Xr.RO B S W' n e x :=
 ⟨h.lo, hs, fun W'' h1 h2 => h.is W'' h1 (fun q h3 h4 => (h2 q h3 h4).trans (hb q h3 h4))⟩
structure Xr.Gd (W : World) (B : Nat) (row : Option Nat) (n : Nat) (es : List Pg.E) (ys : List (Pg.XT n)) : Prop where
 len : es.length = ys.length
 at_ : ∀ (i : Nat) (y : Pg.XT n), ys[i]? = some y → ∃ e B1 S1, es[i]? = some e ∧ B ≤ B1 ∧ (∀ g, row = some g → g < B1 ∨ S1 ≤ g) ∧ Xr.RO B1 S1 W n e y
theorem Xr.Gd.nil (W : World) (B : Nat) (row : Option Nat) (n : Nat) : Xr.Gd W B row n [] [] := ⟨rfl, fun i y h => by simp at h⟩
theorem Xr.Gd.kept {W W' : World} {B n : Nat} {row : Option Nat} {es : List Pg.E} {ys : List (Pg.XT n)} (h : Xr.Gd W B row n es ys) (hs : W.heap.size ≤ W'.heap.size) (hb : ∀ q, B ≤ q → q < W.heap.size → row ≠ some q → W'.heap[q]? = W.heap[q]?) : Xr.Gd W' B row n es ys := by
 refine ⟨h.len, fun i y hy => ?_⟩
 obtain ⟨e, B1, S1, h1, h2, h3, h4⟩ := h.at_ i y hy
 have h5 := h4.hi
 refine ⟨e, B1, S1, h1, h2, h3, h4.kept (by omega) (fun q h6 h7 => hb q (by omega) (by omega) (fun hr => ?_))⟩
 have := h3 q hr
 omega
theorem Xr.Gd.move {W : World} {B n : Nat} {row row' : Option Nat} {es : List Pg.E} {ys : List (Pg.XT n)} (h : Xr.Gd W B row n es ys) (hr : ∀ g, row' = some g → row = some g ∨ W.heap.size ≤ g) : Xr.Gd W B row' n es ys := by
 refine ⟨h.len, fun i y hy => ?_⟩
 obtain ⟨e, B1, S1, h1, h2, h3, h4⟩ := h.at_ i y hy
 refine ⟨e, B1, S1, h1, h2, fun g hg => ?_, h4⟩
 rcases hr g hg with h5 | h5
 · exact h3 g h5
 · have := h4.hi
   omega
theorem Xr.Gd.snoc {W : World} {B n B1 S1 : Nat} {row : Option Nat} {es : List Pg.E} {ys : List (Pg.XT n)} {e : Pg.E} {y : Pg.XT n} (h : Xr.Gd W B row n es ys) (hB : B ≤ B1) (hr : ∀ g, row = some g → g < B1 ∨ S1 ≤ g) (ho : Xr.RO B1 S1 W n e y) : Xr.Gd W B row n (es ++ [e]) (ys ++ [y]) := by
 refine ⟨by rw [List.length_append, List.length_append, h.len]; rfl, fun i z hz => ?_⟩
 by_cases hi : i < ys.length
 · rw [List.getElem?_append_left hi] at hz
   obtain ⟨e1, B2, S2, h1, h2, h3, h4⟩ := h.at_ i z hz
   exact ⟨e1, B2, S2, by rw [List.getElem?_append_left (by rw [h.len]; exact hi)]; exact h1, h2, h3, h4⟩
 · rw [List.getElem?_append_right (by omega)] at hz
   have h0 : i - ys.length = 0 := by
    have := (List.getElem?_eq_some_iff.1 hz).1
    simp at this
    omega
   rw [h0] at hz
   cases hz
   exact ⟨e, B1, S1, by rw [List.getElem?_append_right (by rw [h.len]; omega), h.len, h0]; rfl, hB, hr, ho⟩
theorem Xr.le_own {W : World} {B n c : Nat} {a : Option Addr} {es : List Pg.E} (h : W.ownsRow B 69 3 (.slice a n c) n (Xr.exC es)) (i : Nat) (e : Pg.E) (hi : i < n) (he : es[i]? = some e) : ∃ g, a = some ⟨g, 0, none⟩ ∧ B ≤ g ∧ g < W.heap.size ∧ Pg.LE W g (0 + i * 3) e := by
 obtain ⟨g, cap, hv, hB, hlt⟩ := h.form (by omega)
 cases hv
 have cc : ∀ j v, (Xr.c3 e)[j]? = some v → W.cell? ⟨g, 0 + i * 3 + j, none⟩ = some v := fun j v hv => by
  have := h.cells (g := g) rfl (i * 3 + j) v (Xr.exC_at es i e j v he hv)
  rw [Xr.add_at] at this
  rw [Nat.zero_add]
  exact this
 exact ⟨g, rfl, hB, hlt, cc 0 _ rfl, cc 1 _ rfl, cc 2 _ rfl⟩
theorem Xr.ro_own {W : World} {B n m c : Nat} {a : Option Addr} {es : List Pg.E} {ys : List (Pg.XT m)} (k v : Int) (h : W.ownsRow B 69 3 (.slice a n c) n (Xr.exC es)) (hB : B ≤ W.heap.size) (hn : ys.length = n) (hl : n ≤ 4000) (hg : Xr.Gd W B (Value.slice a n c).ownBlock m es ys) : Xr.RO B W.heap.size W (m + 1) ⟨k, v, ⟨a, n, c⟩⟩ ((k, v), ys) := by
 refine ⟨hB, Nat.le_refl _, fun W' hs hb => ⟨⟨rfl, rfl⟩, hn.symm, ?_, by show ys.length ≤ _; omega, fun i y hy => ?_⟩⟩
 · rcases h.2 with ⟨h1, h2⟩ | ⟨g, cap, cur, hv, _, _, hc, _⟩
   · show n ≤ c
     omega
   · cases hv
     exact hc
 · obtain ⟨e, B1, S1, h1, h2, h3, h4⟩ := hg.at_ i y hy
   have hi : i < ys.length := (List.getElem?_eq_some_iff.1 hy).1
   obtain ⟨g, rfl, g1, g2, g3⟩ := Xr.le_own h i e (by omega) h1
   have h5 := h4.hi
   have hk := fun j => Xr.cell_kept (hb g g1 g2) j
   exact ⟨g, 0, e, rfl, by omega, ⟨(hk _).trans g3.c0, (hk _).trans g3.c1, (hk _).trans g3.c2⟩, h4.is W' (by omega) (fun q q1 q2 => hb q (by omega) (by omega))⟩
end Go.Proofs.YtpfogjplnodacaaGreat
namespace Go.Proofs.YtpfogjplnodacaaGreat
open Go.RowKit
set_option linter.unusedVariables false
theorem Xr.RO.mono {B B' S : Nat} {W : World} {n : Nat} {e : Pg.E} {x : Pg.XT n} (h : Xr.RO B S W n e x) (hB : B' ≤ B) : Xr.RO B' S W n e x :=
 ⟨Nat.le_trans hB h.lo, h.hi, fun W' h1 h2 => h.is W' h1 (fun q h3 h4 => h2 q (by omega) h4)⟩
structure Xr.Bt (bl hi : Nat) (W W' : World) : Prop where
 os : W'.os = W.os
 tape : W'.tape = W.tape
 output : W'.output = W.output
 size : W.heap.size ≤ W'.heap.size
 block : ∀ q, q < hi → q ≠ bl → W'.heap[q]? = W.heap[q]?
theorem Xr.Bt.of {bl hi : Nat} {W W' : World} (h : Below hi W W') : Xr.Bt bl hi W W' := ⟨h.os, h.tape, h.output, h.size, fun q h1 _ => h.block q h1⟩
theorem Xr.Bt.trans {bl hi : Nat} {W W1 W2 : World} (h : Xr.Bt bl hi W W1) (h2 : Xr.Bt bl hi W1 W2) : Xr.Bt bl hi W W2 :=
 ⟨h2.os.trans h.os, h2.tape.trans h.tape, h2.output.trans h.output, Nat.le_trans h.size h2.size, fun q q1 q2 => (h2.block q q1 q2).trans (h.block q q1 q2)⟩
theorem Xr.Bt.mono {bl hi hi' : Nat} {W W' : World} (h : Xr.Bt bl hi W W') (hh : hi' ≤ hi) : Xr.Bt bl hi' W W' := ⟨h.os, h.tape, h.output, h.size, fun q q1 q2 => h.block q (by omega) q2⟩
theorem Xr.Bt.set {bl hi o : Nat} (W : World) (v : Value) : Xr.Bt bl hi W (W.setCell ⟨bl, o, none⟩ v) := ⟨rfl, rfl, rfl, by rw [World.size_setCell]; exact Nat.le_refl _, fun q _ h2 => Xr.set_other h2⟩
structure Xr.Rg (w wr : World) (bl left : Nat) (k v : Int) (m : Nat) (rv : Value) (es : List Pg.E) (ys : List (Pg.XT m)) : Prop where
 bt : Xr.Bt bl w.heap.size w wr
 sz : w.heap.size + 3 ≤ wr.heap.size
 hbl : bl < w.heap.size
 cl : wr.cell? ⟨bl, 0, none⟩ = some (.int .i64 (left : Nat))
 fl : wr.frozen? ⟨bl, 0, none⟩ = false
 r0 : wr.cell? ⟨w.heap.size + 1, 0, none⟩ = some (.int .i64 0)
 r1 : wr.cell? ⟨w.heap.size + 1, 1, none⟩ = some (.int .i64 0)
 r2 : wr.cell? ⟨w.heap.size + 1, 2, none⟩ = some (.slice none 0 0)
 rf : ∀ j, wr.frozen? ⟨w.heap.size + 1, j, none⟩ = false
 c0 : wr.cell? ⟨w.heap.size + 1 + 1, 0, none⟩ = some (.int .i64 k)
 c1 : wr.cell? ⟨w.heap.size + 1 + 1, 1, none⟩ = some (.int .i64 v)
 c2 : wr.cell? ⟨w.heap.size + 1 + 1, 2, none⟩ = some rv
 fz : ∀ j, wr.frozen? ⟨w.heap.size + 1 + 1, j, none⟩ = false
 row : wr.ownsRow (w.heap.size + 3) 69 3 rv es.length (Xr.exC es)
 gd : Xr.Gd wr (w.heap.size + 3) rv.ownBlock m es ys
section
variable {w wr : World} {bl left : Nat} {k v : Int} {m : Nat} {rv : Value} {es : List Pg.E} {ys : List (Pg.XT m)}
theorem Xr.Rg.rlt (h : Xr.Rg w wr bl left k v m rv es ys) : ∀ g, rv.ownBlock = some g → w.heap.size + 3 ≤ g ∧ g < wr.heap.size := fun g hg => h.row.lt g hg
theorem Xr.Rg.kept {wr' : World} {left' : Nat} (h : Xr.Rg w wr bl left k v m rv es ys) (hb : Xr.Bt bl wr.heap.size wr wr') (hc : wr'.cell? ⟨bl, 0, none⟩ = some (.int .i64 (left' : Nat))) (hf : wr'.frozen? ⟨bl, 0, none⟩ = false) : Xr.Rg w wr' bl left' k v m rv es ys := by
 have h1 := h.sz
 have h2 := h.hbl
 have h3 := hb.size
 have b1 := hb.block (w.heap.size + 1) (by omega) (by omega)
 have b2 := hb.block (w.heap.size + 1 + 1) (by omega) (by omega)
 exact ⟨h.bt.trans (hb.mono (by omega)), by omega, h2, hc, hf, (Xr.cell_kept b1 0).trans h.r0, (Xr.cell_kept b1 1).trans h.r1, (Xr.cell_kept b1 2).trans h.r2, fun j => (Xr.frz_kept b1 j).trans (h.rf j), (Xr.cell_kept b2 0).trans h.c0, (Xr.cell_kept b2 1).trans h.c1, (Xr.cell_kept b2 2).trans h.c2, fun j => (Xr.frz_kept b2 j).trans (h.fz j),
  Xr.ow_kept h.row (fun q hq => hb.block q (h.rlt q hq).2 (by have := (h.rlt q hq).1; omega)), h.gd.kept h3 (fun q q1 q2 _ => hb.block q q2 (by omega))⟩
theorem Xr.Rg.below {wr' : World} (h : Xr.Rg w wr bl left k v m rv es ys) (hb : Below wr.heap.size wr wr') : Xr.Rg w wr' bl left k v m rv es ys := by
 have h1 := h.sz
 have h2 := h.hbl
 have hk := hb.block bl (by omega)
 exact h.kept (Xr.Bt.of hb) ((Xr.cell_kept hk 0).trans h.cl) ((Xr.frz_kept hk 0).trans h.fl)
theorem Xr.Rg.less (h : Xr.Rg w wr bl left k v m rv es ys) (left' : Nat) : Xr.Rg w (wr.setCell ⟨bl, 0, none⟩ (.int .i64 (left' : Nat))) bl left' k v m rv es ys :=
 h.kept (Xr.Bt.set _ _) (World.cell?_setCell_same _ _ _ h.cl) (by rw [World.frozen?_setCell]; exact h.fl)
theorem Xr.Rg.app {W4 w6 : World} {S0 : Nat} {E : Pg.E} {y : Pg.XT m} (h : Xr.Rg w wr bl left k v m rv es ys) (hS : w.heap.size + 3 ≤ S0) (ho : Xr.RO S0 wr.heap.size wr m E y) (hrS : ∀ g, rv.ownBlock = some g → g < S0) (hb : Below wr.heap.size wr W4) (hg : W4.grownBy w6 rv.ownBlock) (g c : Nat)
  (hrow : w6.ownsRow (w.heap.size + 3) 69 3 (.slice (some ⟨g, 0, none⟩) (es.length + 1) c) (es.length + 1) (Xr.exC es ++ Xr.c3 E)) (hat : rv.ownBlock = some g ∨ g = W4.heap.size) :
  Xr.Rg w (w6.setCell ⟨w.heap.size + 1 + 1, 2, none⟩ (.slice (some ⟨g, 0, none⟩) (es.length + 1) c)) bl left k v m (.slice (some ⟨g, 0, none⟩) (es.length + 1) c) (es ++ [E]) (ys ++ [y]) := by
 have h1 := h.sz
 have h2 := h.hbl
 have h3 := hb.size
 have h4 := hg.size
 have hn : ∀ q, q < w.heap.size + 3 → rv.ownBlock ≠ some q := fun q hq e => by have := (h.rlt q e).1; omega
 have hgl := hrow.lt g rfl
 have kk : ∀ q, q < wr.heap.size → q ≠ w.heap.size + 1 + 1 → rv.ownBlock ≠ some q → (w6.setCell ⟨w.heap.size + 1 + 1, 2, none⟩ (.slice (some ⟨g, 0, none⟩) (es.length + 1) c)).heap[q]? = wr.heap[q]? := fun q q1 q2 q3 =>
  (Xr.set_other q2).trans ((hg.block q (by omega) (fun e => q3 e.symm)).trans (hb.block q q1))
 have b0 := kk bl (by omega) (by omega) (hn _ (by omega))
 have b1 := kk (w.heap.size + 1) (by omega) (by omega) (hn _ (by omega))
 have b2 : w6.heap[w.heap.size + 1 + 1]? = wr.heap[w.heap.size + 1 + 1]? := (hg.block _ (by omega) (fun e => hn _ (by omega) e.symm)).trans (hb.block _ (by omega))
 have o2 : ∀ j, j ≠ 2 → (w6.setCell ⟨w.heap.size + 1 + 1, 2, none⟩ (.slice (some ⟨g, 0, none⟩) (es.length + 1) c)).cell? ⟨w.heap.size + 1 + 1, j, none⟩ = wr.cell? ⟨w.heap.size + 1 + 1, j, none⟩ := fun j hj => by
  rw [World.cell?_setCell_other _ _ _ _ (by intro hh; exact hj (congrArg Addr.off hh).symm)]
  exact Xr.cell_kept b2 j
 refine ⟨⟨hg.os.trans (hb.os.trans h.bt.os), hg.tape.trans (hb.tape.trans h.bt.tape), hg.output.trans (hb.output.trans h.bt.output), by rw [World.size_setCell]; omega, fun q q1 q2 => (kk q (by omega) (by omega) (hn _ (by omega))).trans (h.bt.block q q1 q2)⟩, by rw [World.size_setCell]; omega, h2, (Xr.cell_kept b0 0).trans h.cl, (Xr.frz_kept b0 0).trans h.fl, (Xr.cell_kept b1 0).trans h.r0, (Xr.cell_kept b1 1).trans h.r1, (Xr.cell_kept b1 2).trans h.r2, fun j => (Xr.frz_kept b1 j).trans (h.rf j), (o2 0 (by omega)).trans h.c0, (o2 1 (by omega)).trans h.c1, World.cell?_setCell_same _ _ _ ((Xr.cell_kept b2 2).trans h.c2), fun j => by rw [World.frozen?_setCell]; exact (Xr.frz_kept b2 j).trans (h.fz j), ?_, ?_⟩
 · rw [List.length_append, Xr.exC_snoc]
   refine Xr.ow_kept hrow (fun q hq => ?_)
   cases hq
   exact Xr.set_other (by have := hgl.1; show g ≠ _; omega)
 · have hsn : Xr.Gd wr (w.heap.size + 3) rv.ownBlock m (es ++ [E]) (ys ++ [y]) := h.gd.snoc hS (fun q hq => Or.inl (hrS q hq)) ho
   have hmv : Xr.Gd (w6.setCell ⟨w.heap.size + 1 + 1, 2, none⟩ (.slice (some ⟨g, 0, none⟩) (es.length + 1) c)) (w.heap.size + 3) rv.ownBlock m (es ++ [E]) (ys ++ [y]) := hsn.kept (by rw [World.size_setCell]; omega) (fun q q1 q2 q3 => kk q q2 (by omega) q3)
   refine ⟨hmv.len, fun i z hz => ?_⟩
   obtain ⟨e, B1, S1, i1, i2, i3, i4⟩ := hsn.at_ i z hz
   have i5 := i4.hi
   refine ⟨e, B1, S1, i1, i2, fun q hq => ?_, i4.kept (by rw [World.size_setCell]; omega) (fun q q1 q2 => kk q (by omega) (by omega) (fun hr => by have := i3 q hr; omega))⟩
   cases hq
   rcases hat with e | e
   · exact i3 g e
   · right
     show S1 ≤ g
     omega
theorem Xr.Rg.done {a : Option Addr} {n c : Nat} (h : Xr.Rg w wr bl left k v m (.slice a n c) es ys) (hn : ys.length = n) (hl : n ≤ 4000) : Xr.RO w.heap.size wr.heap.size wr (m + 1) ⟨k, v, ⟨a, n, c⟩⟩ ((k, v), ys) := by
 have hr := h.row
 rw [h.gd.len, hn] at hr
 exact (Xr.ro_own k v hr h.sz hn hl h.gd).mono (by omega)
end
end Go.Proofs.YtpfogjplnodacaaGreat
namespace Go.Proofs.YtpfogjplnodacaaGreat
open Go.RowKit
set_option linter.unusedVariables false
theorem kindOf_any (z : Int) (s : Pg.Sl) (vs : List (List Int)) (w : World) (h : Pg.RV w s vs) :
  Calls Tryz.prog 110 #[.int .i64 z, .slice s.ad s.len s.cap] w fun r w' => r = .returned (.int .i64 (Pg.kindV vs z : Nat)) ∧ w' = w := by
 have hlen := h.len
 have hfew := h.few
 rw [← hlen] at hfew
 by_cases hz : 0 ≤ z ∧ z < (vs.length : Int)
 · obtain ⟨j, l, rfl, hjl, hv⟩ := Pg.var_lt hz
   have HK := hide (Pg.kindV_some hv)
   generalize Pg.kindV vs (j : Int) = R at *
   obtain ⟨b, o, t, had, hb, hc, hrn⟩ := h.at_ j l hjl
   have htl := hrn.len
   have htf := hrn.few
   rw [← htl] at htf
   rw [← htl] at HK
   have h0 : ¬ (j : Int) < 0 := by omega
   have h1 : ¬ (j : Int) ≥ (s.len : Int) := by omega
   have h2 : (0 : Int) ≤ (j : Int) := by omega
   have h3 : (j : Int) < (s.len : Int) := by omega
   rw [had]
   clear h hz hjl hv hrn hlen htl had
   go_enter Tryz.func110, Tryz.ntmps110
   by_cases ht : t.len = 1
   · have g : ((t.len : Int) == 1) = true := by simp [ht]
     have HR := hide (show R = 0 by rw [unhide HK, if_pos ht])
     clear ht
     go_wp2_with fail
     go_ret
     exact ⟨ret_int (by rw [unhide HR]; rfl), rfl⟩
   · have g : ((t.len : Int) == 1) = false := by simp; omega
     have HR := hide (show R = 1 by rw [unhide HK, if_neg ht])
     clear ht
     go_wp2_with fail
     go_ret
     exact ⟨ret_int (by rw [unhide HR]; rfl), rfl⟩
 · have HR := hide (Pg.kindV_none (Pg.var_none hz))
   generalize Pg.kindV vs z = R at *
   rw [← hlen] at hz
   clear h hlen
   go_enter Tryz.func110, Tryz.ntmps110
   by_cases h0 : z < 0
   · clear hz
     go_wp2_with fail
     go_ret
     exact ⟨ret_int (by rw [unhide HR]; rfl), rfl⟩
   · have h1 : z ≥ (s.len : Int) := by omega
     clear hz
     go_wp2_with fail
     go_ret
     exact ⟨ret_int (by rw [unhide HR]; rfl), rfl⟩
end Go.Proofs.YtpfogjplnodacaaGreat
