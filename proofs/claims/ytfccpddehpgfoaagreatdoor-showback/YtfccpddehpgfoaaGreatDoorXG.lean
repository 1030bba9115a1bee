/- By the verifier. -/
import Derived.Test.YtfccpddehpgfoaaGreatDoorXF
import Derived.Test.YtfccpddehpgfoaaGreatDoorXN
import Derived.Test.YtfccpddehpgfoaaGreatDoorUL
set_option maxRecDepth 100000
set_option maxHeartbeats 6400000
namespace Go.Proofs.YtfccpddehpgfoaaGreatDoor
open Go.RowKit
set_option linter.unusedVariables false
structure Rp.Cb (l : List Tp.T) (ta : Option Addr) (c bp : Nat) (e : Int) (w0 : World) (cb : Nat) (P : World → Prop) (cs : Array Value) (i : Nat) (W : World) : Prop where
 at_ : Rp.J l ta c bp e W i
 tu : Tp.Tu (fun q => q = bp ∨ q = cb) w0.heap.size w0 W
 box : ∀ j v, cs[j]? = some v → W.cell? ⟨cb, j, none⟩ = some v
 fz : ∀ j, W.frozen? ⟨cb, j, none⟩ = false
 own : Tp.Ow w0.heap.size bp W P
 pos : bp < cb ∧ cb < w0.heap.size
section
variable {l : List Tp.T} {ta : Option Addr} {c bp : Nat} {e : Int} {w0 W W1 : World} {cb : Nat} {P Q : World → Prop} {cs cs' : Array Value} {i j : Nat}
theorem Rp.Cb.lt (h : Rp.Cb l ta c bp e w0 cb P cs i W) : bp < cb ∧ cb < w0.heap.size ∧ w0.heap.size ≤ W.heap.size := ⟨h.pos.1, h.pos.2, h.tu.size⟩
theorem Rp.Cb.step (h : Rp.Cb l ta c bp e w0 cb P cs i W) (hj : Rp.J l ta c bp e W1 j) (ht : Tp.Tu (ZaA bp) W.heap.size W W1) : Rp.Cb l ta c bp e w0 cb P cs j W1 := by
 obtain ⟨p1, p2, p3⟩ := h.lt
 have hb : W1.heap[cb]? = W.heap[cb]? := ht.block cb (by omega) (by show ¬ cb = bp; omega)
 exact ⟨hj, h.tu.then ht p3 (fun _ _ h => Or.inl h), fun k v hk => (Zc (a := ⟨cb, k, none⟩) hb).trans (h.box k v hk), fun k => (Zf (a := ⟨cb, k, none⟩) hb).trans (h.fz k),
  h.own.tu ht Zl (fun q hq => Or.inr hq), h.pos⟩
theorem Rp.Cb.below (h : Rp.Cb l ta c bp e w0 cb P cs i W) (hb : Below W.heap.size W W1) : Rp.Cb l ta c bp e w0 cb P cs i W1 := h.step (h.at_.below hb) (Tp.Tu.of_below hb)
theorem Rp.Cb.and {B : Nat} (h : Rp.Cb l ta c bp e w0 cb P cs i W) (hq : Tp.Ow B bp W Q) (hB : w0.heap.size ≤ B) : Rp.Cb l ta c bp e w0 cb (fun V => P V ∧ Q V) cs i W :=
 ⟨h.at_, h.tu, h.box, h.fz, fun W' h1 h2 => ⟨h.own W' h1 h2, hq W' h1 (fun q a1 a2 a3 => h2 q (by omega) a2 a3)⟩, h.pos⟩
theorem Rp.Cb.imp (h : Rp.Cb l ta c bp e w0 cb P cs i W) (hi : ∀ V, P V → Q V) : Rp.Cb l ta c bp e w0 cb Q cs i W := ⟨h.at_, h.tu, h.box, h.fz, fun W' h1 h2 => hi W' (h.own W' h1 h2), h.pos⟩
theorem Rp.Cb.set (h : Rp.Cb l ta c bp e w0 cb P cs i W) (k : Nat) (v : Value) (hk : ∃ u, cs[k]? = some u) (hcs : cs' = cs.setIfInBounds k v) : Rp.Cb l ta c bp e w0 cb P cs' i (W.setCell ⟨cb, k, none⟩ v) := by
 obtain ⟨p1, p2, p3⟩ := h.lt
 obtain ⟨u, hu⟩ := hk
 subst hcs
 refine ⟨h.at_.set _ p1, h.tu.set _ (fun _ => Or.inr rfl), fun j x hj => ?_, fun j => by rw [World.frozen?_setCell]; exact h.fz j, h.own.go (by simp [World.setCell]) (fun q h1 _ _ => Below.heap_setCell _ _ _ _ (show q ≠ cb by omega)), h.pos⟩
 by_cases hjk : k = j
 · subst hjk
   rw [Array.getElem?_setIfInBounds_self_of_lt (Array.getElem?_eq_some_iff.1 hu).1] at hj
   cases hj
   exact World.cell?_setCell_same _ _ _ (h.box _ _ hu)
 rw [Array.getElem?_setIfInBounds_ne hjk] at hj
 exact (Tp.set_ne (fun h => hjk h.symm)).trans (h.box _ _ hj)
theorem Rp.Cb.set5 (h : Rp.Cb l ta c bp e w0 cb P cs i W) (k : Nat) (E : Tk.E) (h0 : ∃ u, cs[k]? = some u) (h1 : ∃ u, cs[k + 1]? = some u) (h2 : ∃ u, cs[k + 2]? = some u) (h3 : ∃ u, cs[k + 3]? = some u) (h4 : ∃ u, cs[k + 4]? = some u)
  (hcs : cs' = ((((cs.setIfInBounds k (.int .i64 E.k)).setIfInBounds (k + 1) (.int .i64 E.a)).setIfInBounds (k + 2) (.int .i64 E.n)).setIfInBounds (k + 3) (.string E.nm)).setIfInBounds (k + 4) (.slice E.args.ad E.args.len E.args.cap)) :
  Rp.Cb l ta c bp e w0 cb P cs' i (((((W.setCell ⟨cb, k, none⟩ (.int .i64 E.k)).setCell ⟨cb, k + 1, none⟩ (.int .i64 E.a)).setCell ⟨cb, k + 2, none⟩ (.int .i64 E.n)).setCell ⟨cb, k + 3, none⟩ (.string E.nm)).setCell ⟨cb, k + 4, none⟩ (.slice E.args.ad E.args.len E.args.cap)) := by
 have hx : ∀ (cs : Array Value) (m : Nat) (v : Value) (q : Nat), (∃ u, cs[q]? = some u) → ∃ u, (cs.setIfInBounds m v)[q]? = some u := fun cs m v q ⟨u, hu⟩ => by
  have hlt := (Array.getElem?_eq_some_iff.1 hu).1
  exact ⟨_, Array.getElem?_eq_getElem (by rw [Array.size_setIfInBounds]; exact hlt)⟩
 subst hcs
 exact ((((h.set k _ h0 rfl).set (k + 1) _ (hx _ _ _ _ h1) rfl).set (k + 2) _ (hx _ _ _ _ (hx _ _ _ _ h2)) rfl).set (k + 3) _ (hx _ _ _ _ (hx _ _ _ _ (hx _ _ _ _ h3))) rfl).set (k + 4) _ (hx _ _ _ _ (hx _ _ _ _ (hx _ _ _ _ (hx _ _ _ _ h4)))) rfl
end
section
variable (l : List Tp.T) (ta : Option Addr) (c bp : Nat) (e : Int)
theorem ZkC {n : Nat} (i j : Nat) (w : World) (h : Rp.J l ta c bp e w i) (h0 : (Tp.tk l i).t = ⟨#[112, 114, 105, 110, 116]⟩) (hij : i < j) (hj : j < l.length) (h59 : (Tp.tk l j).t = ⟨#[59]⟩) (x : Zat 61) (HR : ∀ W, Rp.J l ta c bp e W (i + 1) → Calls Tryz.prog 81 #[.pointer (some ⟨bp, 0, none⟩), .int .i64 0] W (Rp.Out l ta c bp e (ZaA bp) W (ZeB W.heap.size bp 61) x j)) :
  Calls Tryz.prog 131 #[.pointer (some ⟨bp, 0, none⟩)] w (Rp.Out l ta c bp e (ZaA bp) w (Zip w.heap.size bp (n + 1)) (((5, Zaz l e i, ⟨#[]⟩, ⟨#[]⟩), (ZaO, x, []), ([], [])) : Zap 61 (n + 1)) (j + 1)) := by
 have HRX0 := Hd HR
 have H59 := Hd h59
 obtain ⟨t, ht0⟩ : ∃ t, (Tp.tk l i).t = t := ⟨_, rfl⟩
 have tv : t.toList = [112, 114, 105, 110, 116] := by rw [← ht0, h0, ByteArray.toList_eq]
 have tv1 : (t.toList == [112, 114, 105, 110, 116]) = true := by rw [tv]; rfl
 have HT := Hd ht0
 clear HR h59 ht0 h0
 have hlt := h.lt
 have hll := h.fine.few
 have hbA := (Below.refl w.heap.size w).alloc Zl (Obj.cells #[.int .i64 0, .int .i64 0, .string ⟨#[]⟩, .string ⟨#[]⟩, .int .i64 0, .int .i64 0, .int .i64 0, .string ⟨#[]⟩, .slice none 0 0, .int .i64 0, .int .i64 0, .int .i64 0, .string ⟨#[]⟩, .slice none 0 0, .slice none 0 0, .slice none 0 0, .slice none 0 0] 56)
 have HA := Hd (ZcE l ta c bp e i _ (h.below hbA))
 have HJ := Hd (h.below hbA)
 have HB := Hd hbA
 have hsa : (w.alloc (Obj.cells #[.int .i64 0, .int .i64 0, .string ⟨#[]⟩, .string ⟨#[]⟩, .int .i64 0, .int .i64 0, .int .i64 0, .string ⟨#[]⟩, .slice none 0 0, .int .i64 0, .int .i64 0, .int .i64 0, .string ⟨#[]⟩, .slice none 0 0, .slice none 0 0, .slice none 0 0, .slice none 0 0] 56)).heap.size = w.heap.size + 1 := by simp
 have HRX := Hd (show ∀ j v, (Tk.C.new 0).cells[j]? = some v → (w.alloc (Obj.cells #[.int .i64 0, .int .i64 0, .string ⟨#[]⟩, .string ⟨#[]⟩, .int .i64 0, .int .i64 0, .int .i64 0, .string ⟨#[]⟩, .slice none 0 0, .int .i64 0, .int .i64 0, .int .i64 0, .string ⟨#[]⟩, .slice none 0 0, .slice none 0 0, .slice none 0 0, .slice none 0 0] 56)).cell? ⟨w.heap.size, j, none⟩ = some v from fun j v hj => by go_simp; simpa [Tk.C.new, Tk.C.cells, Tk.E.zero] using hj)
 have HRF := Hd (show ∀ j, (w.alloc (Obj.cells #[.int .i64 0, .int .i64 0, .string ⟨#[]⟩, .string ⟨#[]⟩, .int .i64 0, .int .i64 0, .int .i64 0, .string ⟨#[]⟩, .slice none 0 0, .int .i64 0, .int .i64 0, .int .i64 0, .string ⟨#[]⟩, .slice none 0 0, .slice none 0 0, .slice none 0 0, .slice none 0 0] 56)).frozen? ⟨w.heap.size, j, none⟩ = false from fun j => by go_simp)
 obtain ⟨a, ha⟩ : ∃ a, Zaz l e i = a := ⟨_, rfl⟩
 rw [ha] at HA
 rw [ha]
 clear h hbA ha
 go_enter Tryz.func131, Tryz.ntmps131
 go_wp2_with fail
 generalize (w.alloc (Obj.cells #[.int .i64 0, .int .i64 0, .string ⟨#[]⟩, .string ⟨#[]⟩, .int .i64 0, .int .i64 0, .int .i64 0, .string ⟨#[]⟩, .slice none 0 0, .int .i64 0, .int .i64 0, .int .i64 0, .string ⟨#[]⟩, .slice none 0 0, .slice none 0 0, .slice none 0 0, .slice none 0 0] 56)) = wa at *
 refine (uh HA).mono ?_
 rintro r w1 ⟨rfl, hb1⟩
 have hs1 := hb1.size
 have hbN := (Below.refl w1.heap.size w1).alloc Zl (Obj.cells #[.int .i64 0, .int .i64 a, .string ⟨#[]⟩, .string ⟨#[]⟩, .int .i64 0, .int .i64 0, .int .i64 0, .string ⟨#[]⟩, .slice none 0 0, .int .i64 0, .int .i64 0, .int .i64 0, .string ⟨#[]⟩, .slice none 0 0, .slice none 0 0, .slice none 0 0, .slice none 0 0] 56)
 have hs2 : (w1.alloc (Obj.cells #[.int .i64 0, .int .i64 a, .string ⟨#[]⟩, .string ⟨#[]⟩, .int .i64 0, .int .i64 0, .int .i64 0, .string ⟨#[]⟩, .slice none 0 0, .int .i64 0, .int .i64 0, .int .i64 0, .string ⟨#[]⟩, .slice none 0 0, .slice none 0 0, .slice none 0 0, .slice none 0 0] 56)).heap.size = w1.heap.size + 1 := by simp
 have HC := Hd (show Rp.Cb l ta c bp e (w1.alloc (Obj.cells #[.int .i64 0, .int .i64 a, .string ⟨#[]⟩, .string ⟨#[]⟩, .int .i64 0, .int .i64 0, .int .i64 0, .string ⟨#[]⟩, .slice none 0 0, .int .i64 0, .int .i64 0, .int .i64 0, .string ⟨#[]⟩, .slice none 0 0, .slice none 0 0, .slice none 0 0, .slice none 0 0] 56)) w1.heap.size (fun _ => True) (Tk.C.new a).cells i (w1.alloc (Obj.cells #[.int .i64 0, .int .i64 a, .string ⟨#[]⟩, .string ⟨#[]⟩, .int .i64 0, .int .i64 0, .int .i64 0, .string ⟨#[]⟩, .slice none 0 0, .int .i64 0, .int .i64 0, .int .i64 0, .string ⟨#[]⟩, .slice none 0 0, .slice none 0 0, .slice none 0 0, .slice none 0 0] 56)) from
  ⟨((uh HJ).below hb1).below hbN, Tp.Tu.refl _ _ _, fun j v hj => by go_simp; simpa [Tk.C.new, Tk.C.cells, Tk.E.zero] using hj, fun j => by go_simp, fun _ _ _ => trivial, ⟨by omega, by omega⟩⟩)
 have hbR : (w1.alloc (Obj.cells #[.int .i64 0, .int .i64 a, .string ⟨#[]⟩, .string ⟨#[]⟩, .int .i64 0, .int .i64 0, .int .i64 0, .string ⟨#[]⟩, .slice none 0 0, .int .i64 0, .int .i64 0, .int .i64 0, .string ⟨#[]⟩, .slice none 0 0, .slice none 0 0, .slice none 0 0, .slice none 0 0] 56)).heap[w.heap.size]? = wa.heap[w.heap.size]? := (hbN.block _ (by omega)).trans (hb1.block _ (by omega))
 have HX := Hd (show (∀ j v, (Tk.C.new 0).cells[j]? = some v → (w1.alloc (Obj.cells #[.int .i64 0, .int .i64 a, .string ⟨#[]⟩, .string ⟨#[]⟩, .int .i64 0, .int .i64 0, .int .i64 0, .string ⟨#[]⟩, .slice none 0 0, .int .i64 0, .int .i64 0, .int .i64 0, .string ⟨#[]⟩, .slice none 0 0, .slice none 0 0, .slice none 0 0, .slice none 0 0] 56)).cell? ⟨w.heap.size, j, none⟩ = some v) ∧ ∀ j, (w1.alloc (Obj.cells #[.int .i64 0, .int .i64 a, .string ⟨#[]⟩, .string ⟨#[]⟩, .int .i64 0, .int .i64 0, .int .i64 0, .string ⟨#[]⟩, .slice none 0 0, .int .i64 0, .int .i64 0, .int .i64 0, .string ⟨#[]⟩, .slice none 0 0, .slice none 0 0, .slice none 0 0, .slice none 0 0] 56)).frozen? ⟨w.heap.size, j, none⟩ = false from
  ⟨fun j v hj => (Zc (a := ⟨w.heap.size, j, none⟩) hbR).trans ((uh HRX) j v hj), fun j => (Zf (a := ⟨w.heap.size, j, none⟩) hbR).trans ((uh HRF) j)⟩)
 have HT0 := Hd (((uh HB).trans (hb1.mono (by omega))).trans (hbN.mono (by omega)))
 clear hb1 hbN hbR HA HJ HB HRX HRF
 go_upto_region 2 with fail
 generalize hw2 : (w1.alloc (Obj.cells #[.int .i64 0, .int .i64 a, .string ⟨#[]⟩, .string ⟨#[]⟩, .int .i64 0, .int .i64 0, .int .i64 0, .string ⟨#[]⟩, .slice none 0 0, .int .i64 0, .int .i64 0, .int .i64 0, .string ⟨#[]⟩, .slice none 0 0, .slice none 0 0, .slice none 0 0, .slice none 0 0] 56)) = w2 at *
 clear hw2
 generalize w1.heap.size = cb at *
 go_wp2_with fail
 refine (ZaF l ta c bp e i w2 (uh HC).at_).mono ?_
 rintro r w3 ⟨rfl, hb⟩
 replace HC := Hd ((uh HC).below hb)
 clear hb
 rw [uh HT]
 have hc0 := (uh HC).box 0 _ rfl
 have hz0 := (uh HC).fz
 have HC2 := Hd ((uh HC).set 0 (.int .i64 5) ⟨_, rfl⟩ (cs' := ((Tk.C.mk 5 a ⟨#[]⟩ ⟨#[]⟩ Tk.E.zero Tk.E.zero ⟨none, 0, 0⟩ ⟨none, 0, 0⟩ ⟨none, 0, 0⟩)).cells) rfl)
 go_wp2_with fail
 clear hc0 hz0 HC
 generalize (w3.setCell ⟨cb, 0, none⟩ (.int .i64 5)) = w4 at *
 have HC := HC2
 clear HC2
 refine (Za3 l ta c bp e t (i) w4 (uh HC).at_ (by omega) (by unfold Zal; rw [uh HT]; exact beq_self_eq_true _)).mono ?_
 rintro r w5 ⟨rfl, hj, ht⟩
 replace HC := Hd ((uh HC).step hj ht)
 clear hj ht
 clear tv tv1
 go_wp2_with fail
 refine ((uh HRX0) w5 (uh HC).at_).mono ?_
 rintro r wc ⟨⟨F, rfl, hro⟩, hj, ht⟩
 replace HC := Hd (((uh HC).step hj ht).and hro (uh HC).lt.2.2)
 clear hro hj ht
 have hc0 := (uh HC).box 9 _ rfl
 have hc1 := (uh HC).box 10 _ rfl
 have hc2 := (uh HC).box 11 _ rfl
 have hc3 := (uh HC).box 12 _ rfl
 have hc4 := (uh HC).box 13 _ rfl
 have hz0 := (uh HC).fz
 have HC2 := Hd ((uh HC).set5 9 F ⟨_, rfl⟩ ⟨_, rfl⟩ ⟨_, rfl⟩ ⟨_, rfl⟩ ⟨_, rfl⟩ (cs' := ((Tk.C.mk 5 a ⟨#[]⟩ ⟨#[]⟩ Tk.E.zero F ⟨none, 0, 0⟩ ⟨none, 0, 0⟩ ⟨none, 0, 0⟩)).cells) rfl)
 go_wp2_with fail
 clear hz0 hc0 hc1 hc2 hc3 hc4 HC
 generalize (((((wc.setCell ⟨cb, 9, none⟩ (.int .i64 F.k)).setCell ⟨cb, 10, none⟩ (.int .i64 F.a)).setCell ⟨cb, 11, none⟩ (.int .i64 F.n)).setCell ⟨cb, 12, none⟩ (.string F.nm)).setCell ⟨cb, 13, none⟩ (.slice F.args.ad F.args.len F.args.cap)) = wd at *
 have HC := HC2
 clear HC2
 refine (Za3 l ta c bp e ⟨#[59]⟩ (j) wd (uh HC).at_ (by omega) (by unfold Zal; rw [uh H59]; exact beq_self_eq_true _)).mono ?_
 rintro r we ⟨rfl, hj, ht⟩
 replace HC := Hd ((uh HC).step hj ht)
 clear hj ht
 replace HC := Hd ((uh HC).imp (Q := fun V => Tk.RC V 61 (n + 1) (Tk.C.mk 5 a ⟨#[]⟩ ⟨#[]⟩ Tk.E.zero F ⟨none, 0, 0⟩ ⟨none, 0, 0⟩ ⟨none, 0, 0⟩) (((5, a, ⟨#[]⟩, ⟨#[]⟩), (ZaO, x, []), ([], [])) : Zap 61 (n + 1))) (fun V h => ⟨⟨⟨rfl, rfl, rfl, rfl⟩, (show (⟨#[]⟩ : ByteArray).size ≤ maxLen by decide), (show (⟨#[]⟩ : ByteArray).size ≤ maxLen by decide)⟩, ⟨ZaK V, h.2, Zav _ _ _ _⟩, Zav _ _ _ _, Zav _ _ _ _⟩))
 go_upto_region 46 with fail
 have hlc := (uh HC).lt
 obtain ⟨K, hK⟩ : ∃ K : Tk.C, K = (Tk.C.mk 5 a ⟨#[]⟩ ⟨#[]⟩ Tk.E.zero F ⟨none, 0, 0⟩ ⟨none, 0, 0⟩ ⟨none, 0, 0⟩) := ⟨_, rfl⟩
 rw [← hK] at HC
 have hRb : we.heap[w.heap.size]? = w2.heap[w.heap.size]? := (uh HC).tu.block _ (by omega) (by omega)
 have hRx : ∀ j v, (Tk.C.new 0).cells[j]? = some v → we.cell? ⟨w.heap.size, j, none⟩ = some v := fun j v hj => (Zc (a := ⟨w.heap.size, j, none⟩) hRb).trans ((uh HX).1 j v hj)
 have hRf : ∀ j, we.frozen? ⟨w.heap.size, j, none⟩ = false := fun j => (Zf (a := ⟨w.heap.size, j, none⟩) hRb).trans ((uh HX).2 j)
 have hRe : ∀ j, j < K.cells.size → ∃ u, we.cell? ⟨w.heap.size, j, none⟩ = some u := fun j hj => ⟨_, hRx j _ (Array.getElem?_eq_getElem (show j < (Tk.C.new 0).cells.size from hj))⟩
 obtain ⟨hp, _, hsS, hkS, htS⟩ := ZcD w.heap.size K.cells.toList 0 we (fun j _ hj => hRe j (by simpa using hj))
 have hT := ((Tp.Tu.of_below (uh HT0)).trans ((uh HC).tu.mono (by omega) (D' := ZaA bp) (fun q hq h => by rcases h with h | h; exact h; omega))).trans (htS _ _ Zl)
 have hone : ∀ v ∈ K.cells.toList, v.oneCell' = true := fun v hv => by simp [Tk.C.cells] at hv; rcases hv with h | h | h | h | h | h | h | h | h | h | h | h | h | h | h | h | h <;> subst h <;> rfl
 refine Zdm (cs := K.cells) (cb := cb) (Rb := w.heap.size) (t := 135) (p := 3) (r := 2) rfl rfl rfl rfl rfl rfl rfl rfl (by simp) (by decide) (uh HC).box hRe hRf hone Tryz.underlying56 rfl Zcg ?_
 go_wp2_with fail
 refine bodyPost_ret (ZcY (cs := K.cells) (r := 2) rfl rfl hRe Tryz.underlying56 rfl Zcg) rfl ?_
 exact ⟨⟨K, rfl, ((uh HC).own.go (by omega) (fun q h1 _ _ => hkS q (by omega))).wide (B' := w.heap.size) (g' := bp) (by omega) (by omega) (Or.inl (by omega))⟩, (uh HC).at_.kept (by omega) (fun q hq => hkS q (by omega)), hT⟩
theorem Zll {n : Nat} (i : Nat) (w : World) (h : Rp.J l ta c bp e w i) (nm ot : ByteArray) (h0 : (Tp.tk l i).t = nm) (h2 : (Tp.tk l (i + 2)).t = ot) (hn : Zam nm = true) (ho : Zam ot = true)
  (hp : nm.toList ≠ [112, 114, 105, 110, 116] ∧ nm.toList ≠ [105, 102] ∧ nm.toList ≠ [119, 104, 105, 108, 101]) (h1 : (Tp.tk l (i + 1)).t = ⟨#[61]⟩) (hrd : ot.toList ≠ [114, 101, 97, 100]) (h3 : (Tp.tk l (i + 3)).t = ⟨#[40]⟩)
  (h4 : (Tp.tk l (i + 4)).t.toList ≠ [41]) (h5 : (Tp.tk l (i + 5)).t = ⟨#[41]⟩) (h6 : (Tp.tk l (i + 6)).t = ⟨#[59]⟩) (hl : i + 6 < l.length) (x : Zat 61) (HR : ∀ W, Rp.J l ta c bp e W (i + 4) → Calls Tryz.prog 81 #[.pointer (some ⟨bp, 0, none⟩), .int .i64 0] W (Rp.Out l ta c bp e (ZaA bp) W (ZeB W.heap.size bp 61) x (i + 5))) :
  Calls Tryz.prog 131 #[.pointer (some ⟨bp, 0, none⟩)] w (Rp.Out l ta c bp e (ZaA bp) w (Zip w.heap.size bp (n + 1)) (((3, Zaz l e i, nm, ot), (ZaO, ZaO, [x]), ([], [])) : Zap 61 (n + 1)) (i + 7)) := by
 have HRX0 := Hd HR
 obtain ⟨t0, hi0, hz0', hz1', hz2⟩ := Tp.info_of ZdY
 have HI := Hd hi0
 have HZ0 := Hd hz0'
 have HZ1 := Hd hz1'
 have HZ2 := Hd hz2
 have HT := Hd h0
 have HO := Hd h2
 have H1 := Hd h1
 have H3 := Hd h3
 have H5 := Hd h5
 have H6 := Hd h6
 have H4 := Hd h4
 have HNN := Hd (And.intro hn ho)
 have hls : nm.size ≤ maxLen ∧ ot.size ≤ maxLen := ⟨h0 ▸ h.fine.txt i, h2 ▸ h.fine.txt (i + 2)⟩
 have HLS := Hd hls
 obtain ⟨p1, p2, p3⟩ := hp
 have p1b : (nm.toList == [112, 114, 105, 110, 116]) = false := by simpa using p1
 have p2b : (nm.toList == [105, 102]) = false := by simpa using p2
 have p3b : (nm.toList == [119, 104, 105, 108, 101]) = false := by simpa using p3
 have hrb : (ot.toList == [114, 101, 97, 100]) = false := by simpa using hrd
 clear HR hi0 hz0' hz1' hz2 h1 h2 h3 h4 h5 h6 hn ho hls h0
 have hlt := h.lt
 have hll := h.fine.few
 have hbA := (Below.refl w.heap.size w).alloc Zl (Obj.cells #[.int .i64 0, .int .i64 0, .string ⟨#[]⟩, .string ⟨#[]⟩, .int .i64 0, .int .i64 0, .int .i64 0, .string ⟨#[]⟩, .slice none 0 0, .int .i64 0, .int .i64 0, .int .i64 0, .string ⟨#[]⟩, .slice none 0 0, .slice none 0 0, .slice none 0 0, .slice none 0 0] 56)
 have HA := Hd (ZcE l ta c bp e i _ (h.below hbA))
 have HJ := Hd (h.below hbA)
 have HB := Hd hbA
 have hsa : (w.alloc (Obj.cells #[.int .i64 0, .int .i64 0, .string ⟨#[]⟩, .string ⟨#[]⟩, .int .i64 0, .int .i64 0, .int .i64 0, .string ⟨#[]⟩, .slice none 0 0, .int .i64 0, .int .i64 0, .int .i64 0, .string ⟨#[]⟩, .slice none 0 0, .slice none 0 0, .slice none 0 0, .slice none 0 0] 56)).heap.size = w.heap.size + 1 := by simp
 have HRX := Hd (show ∀ j v, (Tk.C.new 0).cells[j]? = some v → (w.alloc (Obj.cells #[.int .i64 0, .int .i64 0, .string ⟨#[]⟩, .string ⟨#[]⟩, .int .i64 0, .int .i64 0, .int .i64 0, .string ⟨#[]⟩, .slice none 0 0, .int .i64 0, .int .i64 0, .int .i64 0, .string ⟨#[]⟩, .slice none 0 0, .slice none 0 0, .slice none 0 0, .slice none 0 0] 56)).cell? ⟨w.heap.size, j, none⟩ = some v from fun j v hj => by go_simp; simpa [Tk.C.new, Tk.C.cells, Tk.E.zero] using hj)
 have HRF := Hd (show ∀ j, (w.alloc (Obj.cells #[.int .i64 0, .int .i64 0, .string ⟨#[]⟩, .string ⟨#[]⟩, .int .i64 0, .int .i64 0, .int .i64 0, .string ⟨#[]⟩, .slice none 0 0, .int .i64 0, .int .i64 0, .int .i64 0, .string ⟨#[]⟩, .slice none 0 0, .slice none 0 0, .slice none 0 0, .slice none 0 0] 56)).frozen? ⟨w.heap.size, j, none⟩ = false from fun j => by go_simp)
 obtain ⟨a, ha⟩ : ∃ a, Zaz l e i = a := ⟨_, rfl⟩
 rw [ha] at HA
 rw [ha]
 clear h hbA ha
 go_enter Tryz.func131, Tryz.ntmps131
 go_wp2_with fail
 generalize (w.alloc (Obj.cells #[.int .i64 0, .int .i64 0, .string ⟨#[]⟩, .string ⟨#[]⟩, .int .i64 0, .int .i64 0, .int .i64 0, .string ⟨#[]⟩, .slice none 0 0, .int .i64 0, .int .i64 0, .int .i64 0, .string ⟨#[]⟩, .slice none 0 0, .slice none 0 0, .slice none 0 0, .slice none 0 0] 56)) = wa at *
 refine (uh HA).mono ?_
 rintro r w1 ⟨rfl, hb1⟩
 have hs1 := hb1.size
 have hbN := (Below.refl w1.heap.size w1).alloc Zl (Obj.cells #[.int .i64 0, .int .i64 a, .string ⟨#[]⟩, .string ⟨#[]⟩, .int .i64 0, .int .i64 0, .int .i64 0, .string ⟨#[]⟩, .slice none 0 0, .int .i64 0, .int .i64 0, .int .i64 0, .string ⟨#[]⟩, .slice none 0 0, .slice none 0 0, .slice none 0 0, .slice none 0 0] 56)
 have hs2 : (w1.alloc (Obj.cells #[.int .i64 0, .int .i64 a, .string ⟨#[]⟩, .string ⟨#[]⟩, .int .i64 0, .int .i64 0, .int .i64 0, .string ⟨#[]⟩, .slice none 0 0, .int .i64 0, .int .i64 0, .int .i64 0, .string ⟨#[]⟩, .slice none 0 0, .slice none 0 0, .slice none 0 0, .slice none 0 0] 56)).heap.size = w1.heap.size + 1 := by simp
 have HC := Hd (show Rp.Cb l ta c bp e (w1.alloc (Obj.cells #[.int .i64 0, .int .i64 a, .string ⟨#[]⟩, .string ⟨#[]⟩, .int .i64 0, .int .i64 0, .int .i64 0, .string ⟨#[]⟩, .slice none 0 0, .int .i64 0, .int .i64 0, .int .i64 0, .string ⟨#[]⟩, .slice none 0 0, .slice none 0 0, .slice none 0 0, .slice none 0 0] 56)) w1.heap.size (fun _ => True) (Tk.C.new a).cells i (w1.alloc (Obj.cells #[.int .i64 0, .int .i64 a, .string ⟨#[]⟩, .string ⟨#[]⟩, .int .i64 0, .int .i64 0, .int .i64 0, .string ⟨#[]⟩, .slice none 0 0, .int .i64 0, .int .i64 0, .int .i64 0, .string ⟨#[]⟩, .slice none 0 0, .slice none 0 0, .slice none 0 0, .slice none 0 0] 56)) from
  ⟨((uh HJ).below hb1).below hbN, Tp.Tu.refl _ _ _, fun j v hj => by go_simp; simpa [Tk.C.new, Tk.C.cells, Tk.E.zero] using hj, fun j => by go_simp, fun _ _ _ => trivial, ⟨by omega, by omega⟩⟩)
 have hbR : (w1.alloc (Obj.cells #[.int .i64 0, .int .i64 a, .string ⟨#[]⟩, .string ⟨#[]⟩, .int .i64 0, .int .i64 0, .int .i64 0, .string ⟨#[]⟩, .slice none 0 0, .int .i64 0, .int .i64 0, .int .i64 0, .string ⟨#[]⟩, .slice none 0 0, .slice none 0 0, .slice none 0 0, .slice none 0 0] 56)).heap[w.heap.size]? = wa.heap[w.heap.size]? := (hbN.block _ (by omega)).trans (hb1.block _ (by omega))
 have HX := Hd (show (∀ j v, (Tk.C.new 0).cells[j]? = some v → (w1.alloc (Obj.cells #[.int .i64 0, .int .i64 a, .string ⟨#[]⟩, .string ⟨#[]⟩, .int .i64 0, .int .i64 0, .int .i64 0, .string ⟨#[]⟩, .slice none 0 0, .int .i64 0, .int .i64 0, .int .i64 0, .string ⟨#[]⟩, .slice none 0 0, .slice none 0 0, .slice none 0 0, .slice none 0 0] 56)).cell? ⟨w.heap.size, j, none⟩ = some v) ∧ ∀ j, (w1.alloc (Obj.cells #[.int .i64 0, .int .i64 a, .string ⟨#[]⟩, .string ⟨#[]⟩, .int .i64 0, .int .i64 0, .int .i64 0, .string ⟨#[]⟩, .slice none 0 0, .int .i64 0, .int .i64 0, .int .i64 0, .string ⟨#[]⟩, .slice none 0 0, .slice none 0 0, .slice none 0 0, .slice none 0 0] 56)).frozen? ⟨w.heap.size, j, none⟩ = false from
  ⟨fun j v hj => (Zc (a := ⟨w.heap.size, j, none⟩) hbR).trans ((uh HRX) j v hj), fun j => (Zf (a := ⟨w.heap.size, j, none⟩) hbR).trans ((uh HRF) j)⟩)
 have HT0 := Hd (((uh HB).trans (hb1.mono (by omega))).trans (hbN.mono (by omega)))
 clear hb1 hbN hbR HA HJ HB HRX HRF
 go_upto_region 2 with fail
 generalize hw2 : (w1.alloc (Obj.cells #[.int .i64 0, .int .i64 a, .string ⟨#[]⟩, .string ⟨#[]⟩, .int .i64 0, .int .i64 0, .int .i64 0, .string ⟨#[]⟩, .slice none 0 0, .int .i64 0, .int .i64 0, .int .i64 0, .string ⟨#[]⟩, .slice none 0 0, .slice none 0 0, .slice none 0 0, .slice none 0 0] 56)) = w2 at *
 clear hw2
 generalize w1.heap.size = cb at *
 go_wp2_with fail
 refine (ZaF l ta c bp e i w2 (uh HC).at_).mono ?_
 rintro r w3 ⟨rfl, hb⟩
 replace HC := Hd ((uh HC).below hb)
 clear hb
 rw [uh HT]
 go_wp2_with fail
 refine (Zdz l ta c bp e i w3 (uh HC).at_ (by omega) (by rw [uh HT]; exact (uh HNN).1)).mono ?_
 rintro r w4 ⟨rfl, hj, ht⟩
 rw [uh HT]
 replace HC := Hd ((uh HC).step hj ht)
 clear hj ht p1 p2 p3 p1b p2b p3b
 have hc0 := (uh HC).box 2 _ rfl
 have hz0 := (uh HC).fz
 have HC2 := Hd ((uh HC).set 2 (.string nm) ⟨_, rfl⟩ (cs' := ((Tk.C.mk 0 a nm ⟨#[]⟩ Tk.E.zero Tk.E.zero ⟨none, 0, 0⟩ ⟨none, 0, 0⟩ ⟨none, 0, 0⟩)).cells) rfl)
 go_wp2_with fail
 clear hc0 hz0 HC
 generalize (w4.setCell ⟨cb, 2, none⟩ (.string nm)) = w5 at *
 have HC := HC2
 clear HC2
 refine (ZaF l ta c bp e (i + 1) w5 (uh HC).at_).mono ?_
 rintro r w6 ⟨rfl, hb⟩
 replace HC := Hd ((uh HC).below hb)
 clear hb
 rw [uh H1]
 go_wp2_with fail
 refine (Za3 l ta c bp e ⟨#[61]⟩ (i + 1) w6 (uh HC).at_ (by omega) (by unfold Zal; rw [uh H1]; exact beq_self_eq_true _)).mono ?_
 rintro r w7 ⟨rfl, hj, ht⟩
 replace HC := Hd ((uh HC).step hj ht)
 clear hj ht
 go_wp2_with fail
 refine (ZaF l ta c bp e (i + 1 + 1) w7 (uh HC).at_).mono ?_
 rintro r w8 ⟨rfl, hb⟩
 replace HC := Hd ((uh HC).below hb)
 clear hb
 rw [uh HO]
 go_wp2_with fail
 refine (ZaF l ta c bp e (i + 1 + 1) w8 (uh HC).at_).mono ?_
 rintro r w9 ⟨rfl, hb⟩
 replace HC := Hd ((uh HC).below hb)
 clear hb
 rw [uh HO]
 go_wp2_with fail
 refine (ZbB ot w9 (uh HLS).2).mono ?_
 rintro r w10 ⟨rfl, hb⟩
 replace HC := Hd ((uh HC).below hb)
 clear hb
 rw [(uh HNN).2]
 go_wp2_with fail
 refine (ZjX l ta c bp e (i + 1 + 1) w10 (uh HC).at_ (by omega)).mono ?_
 rintro r w11 ⟨rfl, hb⟩
 replace HC := Hd ((uh HC).below hb)
 clear hb
 rw [show i + 1 + 1 + 1 = i + 3 from rfl, uh H3]
 have hc0 := (uh HC).box 0 _ rfl
 have hz0 := (uh HC).fz
 have HC2 := Hd ((uh HC).set 0 (.int .i64 3) ⟨_, rfl⟩ (cs' := ((Tk.C.mk 3 a nm ⟨#[]⟩ Tk.E.zero Tk.E.zero ⟨none, 0, 0⟩ ⟨none, 0, 0⟩ ⟨none, 0, 0⟩)).cells) rfl)
 go_wp2_with fail
 clear hc0 hz0 HC
 generalize (w11.setCell ⟨cb, 0, none⟩ (.int .i64 3)) = w12 at *
 have HC := HC2
 clear HC2
 refine (Zdz l ta c bp e (i + 1 + 1) w12 (uh HC).at_ (by omega) (by rw [show i + 1 + 1 = i + 2 from rfl, uh HO]; exact (uh HNN).2)).mono ?_
 rintro r w13 ⟨rfl, hj, ht⟩
 rw [show i + 1 + 1 = i + 2 from rfl, uh HO]
 replace HC := Hd ((uh HC).step hj ht)
 clear hj ht hrd hrb
 have hc0 := (uh HC).box 3 _ rfl
 have hz0 := (uh HC).fz
 have HC2 := Hd ((uh HC).set 3 (.string ot) ⟨_, rfl⟩ (cs' := ((Tk.C.mk 3 a nm ot Tk.E.zero Tk.E.zero ⟨none, 0, 0⟩ ⟨none, 0, 0⟩ ⟨none, 0, 0⟩)).cells) rfl)
 go_wp2_with fail
 clear hc0 hz0 HC
 generalize (w13.setCell ⟨cb, 3, none⟩ (.string ot)) = w14 at *
 have HC := HC2
 clear HC2
 refine (Za3 l ta c bp e ⟨#[40]⟩ (i + 3) w14 (uh HC).at_ (by omega) (by unfold Zal; rw [uh H3]; exact beq_self_eq_true _)).mono ?_
 rintro r w15 ⟨rfl, hj, ht⟩
 replace HC := Hd ((uh HC).step hj ht)
 clear hj ht
 go_wp2_with fail
 go_loopg [] 2 (fun f wr => (f = 2 ∧ Rp.Cb l ta c bp e w2 cb (fun _ => True) (Tk.C.mk 3 a nm ot Tk.E.zero Tk.E.zero ⟨none, 0, 0⟩ ⟨none, 0, 0⟩ ⟨none, 0, 0⟩).cells (i + 4) wr) ∨ (f = 1 ∧ ∃ s : Tk.Sl, s.len = 1 ∧ Rp.Cb l ta c bp e w2 cb (fun V => True ∧ Tk.RS V 5 (Tk.ELies V) (Tk.RE V 61) s [x]) (Tk.C.mk 3 a nm ot Tk.E.zero Tk.E.zero s ⟨none, 0, 0⟩ ⟨none, 0, 0⟩).cells (i + 5) wr))
 case atStart => exact .inl ⟨rfl, uh HC⟩
 case round =>
  clear HC
  rcases hrel with ⟨rfl, hC⟩ | ⟨rfl, s, hs1', hC⟩
  · have HC := Hd hC
    clear hC
    obtain ⟨c0, c1, c2, c3, cf⟩ := (uh HC).at_.p
    have q4 := uh H4
    have q4b : ((Tp.tk l (i + 4)).t.toList == [41]) = false := by simpa using q4
    generalize hq4 : (Tp.tk l (i + 4)).t = t4 at *
    go_wp2_with fail
    refine (ZaF l ta c bp e (i + 4) wr (uh HC).at_).mono ?_
    rintro r wp ⟨rfl, hb⟩
    rw [hq4]
    replace HC := Hd ((uh HC).below hb)
    clear hb c0 c1 c2 c3 cf
    obtain ⟨wq, hwq⟩ : ∃ wq, wq = wp := ⟨_, rfl⟩
    subst hwq
    have hc0 : wq.cell? ⟨cb, 14, none⟩ = some (.slice none 0 0) := (uh HC).box 14 _ rfl
    go_upto_region 18 with fail
    have HL0 := Hd ((uh HC).below Zr.drew)
    have hHeld : (fun V : World => V.cell? ⟨cb, 14, none⟩ = some (.slice none 0 0)) wq.drew := (uh HL0).box 14 _ rfl
    refine ZbA (fun j => Nat.beq j 7) (fun V : World => V.cell? ⟨cb, 14, none⟩ = some (.slice none 0 0)) (by kernel_rfl) hHeld (fun hHeld hcl => ?_)
    generalize wq.drew = wz at *
    refine Rq.tk 0 (.pointer (some ⟨cb, 14, none⟩)) Rq.z (by kernel_rfl) (by kernel_rfl) (by kernel_rfl) (by kernel_rfl) (fun _ _ _ h => h) (by assumption) (by assumption) (by rfl) (fun w hSw => by (try dsimp only at hSw); go_simp) (fun hcl => ?_)
    (try simp only [Act.put, Zt, Zz, Zs])
    refine Rq.tk 1 (.slice none 0 0) (Rq.s Rq.z) (by kernel_rfl) (by kernel_rfl) (by kernel_rfl) (by kernel_rfl) (fun _ _ _ h => h) (by assumption) (by assumption) (by rfl) (fun w hSw => by (try dsimp only at hSw); go_simp) (fun hcl => ?_)
    (try simp only [Act.put, Zt, Zz, Zs])
    refine Rq.tk 2 (.pointer (some ⟨bp, 0, none⟩)) (Rq.s (Rq.s Rq.z)) (by kernel_rfl) (by kernel_rfl) (by kernel_rfl) (by kernel_rfl) (fun _ _ _ h => h) (by assumption) (by assumption) (by rfl) (fun w hSw => by (try dsimp only at hSw); go_simp) (fun hcl => ?_)
    (try simp only [Act.put, Zt, Zz, Zs])
    refine Rq.on 3 (Rq.s (Rq.s (Rq.s Rq.z))) (by kernel_rfl) (by assumption) (fun K hK => ?_)
    go_simp
    go_at_call 81
    refine ((uh HRX0) wz (uh HL0).at_).mono ?_
    rintro r wx ⟨⟨E, rfl, hro⟩, hj, ht⟩
    have hbN := (Below.refl wx.heap.size wx).alloc Zl (Obj.cells #[.int .i64 E.k, .int .i64 E.a, .int .i64 E.n, .string E.nm, .slice E.args.ad E.args.len E.args.cap] 52)
    have HL1 := Hd ((uh HL0).step hj ht)
    have HL2 := Hd ((uh HL1).below hbN)
    have HBK := Hd (heap_alloc_new wx (Obj.cells #[.int .i64 E.k, .int .i64 E.a, .int .i64 E.n, .string E.nm, .slice E.args.ad E.args.len E.args.cap] 52))
    have hlc := (uh HL0).lt
    have HEO := Hd ((hro.wide (B' := w2.heap.size) (g' := bp) (by omega) (by omega) (Or.inl (by omega))).go hbN.size (fun q _ _ hq => hbN.block q hq))
    have hs2e : w2.heap.size ≤ (wx.alloc (Obj.cells #[.int .i64 E.k, .int .i64 E.a, .int .i64 E.n, .string E.nm, .slice E.args.ad E.args.len E.args.cap] 52)).heap.size := (uh HL2).tu.size
    clear hj ht hbN hro hHeld hcl
    go_simp
    refine hK _ _ (fun _ => (uh HL1).box 14 _ rfl) (fun hcl => ?_)
    (try simp only [Act.put, Zt, Zz, Zs])
    clear hK K
    have hHeld : wx.cell? ⟨cb, 14, none⟩ = some (.slice none 0 0) := (uh HL1).box 14 _ rfl
    refine Rq.on 4 (Rq.s (Rq.s (Rq.s (Rq.s Rq.z)))) (by kernel_rfl) (by assumption) (fun K hK => ?_)
    go_simp
    refine hK _ _ (fun _ => (uh HL2).box 14 _ rfl) (fun hcl => ?_)
    (try simp only [Act.put, Zt, Zz, Zs])
    clear hK K hHeld
    refine Rq.on 5 (Rq.s (Rq.s (Rq.s (Rq.s (Rq.s Rq.z))))) (by kernel_rfl) (by assumption) (fun K hK => ?_)
    refine step_append_lies _ rfl (.tmp 59) (.tmp 62) 50 rfl w2.heap.size 52 t0 _ 5 64 Tryz.underlying50 (uh HI) (uh HZ0) (uh HZ1) (uh HZ2) rfl (by omega) (.slice none 0 0) 0 [] rfl (Tp.Rw.nil w2.heap.size bp (wx.alloc (Obj.cells #[.int .i64 E.k, .int .i64 E.a, .int .i64 E.n, .string E.nm, .slice E.args.ad E.args.len E.args.cap] 52)) 52 5 Tk.E.cl (fun W => Tk.RE W 61)).row _ 1 1 [.int .i64 E.k, .int .i64 E.a, .int .i64 E.n, .string E.nm, .slice E.args.ad E.args.len E.args.cap] rfl rfl (World.news_of_block (uh HBK)) (by simp [Value.oneCell']) (by omega) (by unfold maxLen; omega) (by omega) hs2e _ rfl ?_
    intro gA cA w6 hoA hgA hatA hltA
    have hat2 : (wx.alloc (Obj.cells #[.int .i64 E.k, .int .i64 E.a, .int .i64 E.n, .string E.nm, .slice E.args.ad E.args.len E.args.cap] 52)).heap.size ≤ gA := by
     rcases hatA with h | h
     · cases h
     omega
    have hR8 := (Tp.Rw.nil w2.heap.size bp (wx.alloc (Obj.cells #[.int .i64 E.k, .int .i64 E.a, .int .i64 E.n, .string E.nm, .slice E.args.ad E.args.len E.args.cap] 52)) 52 5 Tk.E.cl (fun W => Tk.RE W 61)).app (E := E) (x := x) (uh HEO) hgA.size (by omega) (fun q _ h2 h3 => hgA.block q h2 (fun e => by cases e)) hoA (Or.inr hat2)
    have hbB : Below (wx.alloc (Obj.cells #[.int .i64 E.k, .int .i64 E.a, .int .i64 E.n, .string E.nm, .slice E.args.ad E.args.len E.args.cap] 52)).heap.size (wx.alloc (Obj.cells #[.int .i64 E.k, .int .i64 E.a, .int .i64 E.n, .string E.nm, .slice E.args.ad E.args.len E.args.cap] 52)) w6 := ⟨hgA.os, hgA.tape, hgA.output, hgA.size, fun q hq => hgA.block q hq (fun e => by cases e)⟩
    obtain ⟨s, hsv, hso⟩ := hR8.reads (lies := fun W => Tk.ELies W) (by omega) (fun _ => rfl) Tk.E.lies_cl (by simp)
    have HL6 := Hd (((uh HL2).below hbB).and (B := w2.heap.size) hso Zl)
    obtain ⟨sa, sn, sc⟩ := s
    obtain ⟨rfl, rfl, rfl⟩ : sa = some ⟨gA, 0, none⟩ ∧ sn = 1 ∧ cA = sc := by cases hsv; exact ⟨rfl, rfl, rfl⟩
    have hsl := (uh HL6).lt
    clear hoA hgA hatA hltA hat2 hR8 hbB hsv hso HBK HEO HL1 HL2 HL0
    have z4 : w6.cell? ⟨cb, 14, none⟩ = some (.slice none 0 0) := (uh HL6).box 14 _ rfl
    have z5 : w6.frozen? ⟨cb, 14, none⟩ = false := (uh HL6).fz 14
    refine hK _ _ (fun _ => z4) (fun hcl => ?_)
    (try simp only [Act.put, Zt, Zz, Zs])
    clear hK K
    have hHeld : w6.cell? ⟨cb, 14, none⟩ = some (.slice none 0 0) := z4
    refine Rq.on 6 (Rq.s (Rq.s (Rq.s (Rq.s (Rq.s (Rq.s Rq.z)))))) (by kernel_rfl) (by assumption) (fun K hK => ?_)
    go_simp
    refine hK _ _ (fun _ => hHeld) (fun hcl => ?_)
    (try simp only [Act.put, Zt, Zz, Zs])
    clear hK K
    refine Rq.on 7 (Rq.s (Rq.s (Rq.s (Rq.s (Rq.s (Rq.s (Rq.s Rq.z))))))) (by kernel_rfl) (by assumption) (fun K hK => ?_)
    go_simp
    refine hK _ _ (fun e => absurd e (by decide)) (fun hcl => ?_)
    (try simp only [Act.put, Zt, Zz, Zs])
    refine Rq.done (by kernel_rfl) ?_ _
    have HC2 := Hd ((uh HL6).set 14 (.slice (some ⟨gA, 0, none⟩) 1 cA) ⟨_, rfl⟩ (cs' := ((Tk.C.mk 3 a nm ot Tk.E.zero Tk.E.zero ⟨some ⟨gA, 0, none⟩, 1, cA⟩ ⟨none, 0, 0⟩ ⟨none, 0, 0⟩)).cells) rfl)
    clear z4 z5 hHeld HL6 hK K hcl
    generalize (w6.setCell ⟨cb, 14, none⟩ (.slice (some ⟨gA, 0, none⟩) 1 cA)) = w7 at *
    have HC := HC2
    clear HC2
    go_wp2_with fail
    refine (ZaF l ta c bp e (i + 5) w7 (uh HC).at_).mono ?_
    rintro r w8 ⟨rfl, hb⟩
    rw [uh H5]
    replace HC := Hd ((uh HC).below hb)
    clear hb
    go_wp2_with fail
    refine (ZaF l ta c bp e (i + 5) w8 (uh HC).at_).mono ?_
    rintro r w9 ⟨rfl, hb⟩
    rw [uh H5]
    replace HC := Hd ((uh HC).below hb)
    clear hb
    go_wp2_with fail
    go_roundg 1
    case measure => omega
    case rel => exact .inr ⟨rfl, ⟨some ⟨gA, 0, none⟩, 1, cA⟩, rfl, uh HC⟩
  have HC := Hd hC
  clear hC
  obtain ⟨c0, c1, c2, c3, cf⟩ := (uh HC).at_.p
  go_wp2_with fail
  refine (ZaF l ta c bp e (i + 5) wr (uh HC).at_).mono ?_
  rintro r wp ⟨rfl, hb⟩
  rw [uh H5]
  replace HC := Hd ((uh HC).below hb)
  clear hb c0 c1 c2 c3 cf
  go_wp2_with fail
  refine (Za3 l ta c bp e ⟨#[41]⟩ (i + 5) wp (uh HC).at_ (by omega) (by unfold Zal; rw [uh H5]; exact beq_self_eq_true _)).mono ?_
  rintro r wu ⟨rfl, hj, ht⟩
  replace HC := Hd ((uh HC).step hj ht)
  clear hj ht
  go_wp2_with fail
  refine (Za3 l ta c bp e ⟨#[59]⟩ (i + 6) wu (uh HC).at_ (by omega) (by unfold Zal; rw [uh H6]; exact beq_self_eq_true _)).mono ?_
  rintro r wv ⟨rfl, hj, ht⟩
  replace HC := Hd ((uh HC).step hj ht)
  clear hj ht
  replace HC := Hd ((uh HC).imp (Q := fun V => Tk.RC V 61 (n + 1) (Tk.C.mk 3 a nm ot Tk.E.zero Tk.E.zero s ⟨none, 0, 0⟩ ⟨none, 0, 0⟩) (((3, a, nm, ot), (ZaO, ZaO, [x]), ([], [])) : Zap 61 (n + 1))) (fun V h => ⟨⟨⟨rfl, rfl, rfl, rfl⟩, (uh HLS).1, (uh HLS).2⟩, ⟨ZaK V, ZaK V, h.2⟩, Zav _ _ _ _, Zav _ _ _ _⟩))
  go_upto_region 46 with fail
  have hlc := (uh HC).lt
  obtain ⟨K, hK⟩ : ∃ K : Tk.C, K = (Tk.C.mk 3 a nm ot Tk.E.zero Tk.E.zero s ⟨none, 0, 0⟩ ⟨none, 0, 0⟩) := ⟨_, rfl⟩
  rw [← hK] at HC
  have hRb : wv.heap[w.heap.size]? = w2.heap[w.heap.size]? := (uh HC).tu.block _ (by omega) (by omega)
  have hRx : ∀ j v, (Tk.C.new 0).cells[j]? = some v → wv.cell? ⟨w.heap.size, j, none⟩ = some v := fun j v hj => (Zc (a := ⟨w.heap.size, j, none⟩) hRb).trans ((uh HX).1 j v hj)
  have hRf : ∀ j, wv.frozen? ⟨w.heap.size, j, none⟩ = false := fun j => (Zf (a := ⟨w.heap.size, j, none⟩) hRb).trans ((uh HX).2 j)
  have hRe : ∀ j, j < K.cells.size → ∃ u, wv.cell? ⟨w.heap.size, j, none⟩ = some u := fun j hj => ⟨_, hRx j _ (Array.getElem?_eq_getElem (show j < (Tk.C.new 0).cells.size from hj))⟩
  obtain ⟨hp, _, hsS, hkS, htS⟩ := ZcD w.heap.size K.cells.toList 0 wv (fun j _ hj => hRe j (by simpa using hj))
  have hT := ((Tp.Tu.of_below (uh HT0)).trans ((uh HC).tu.mono (by omega) (D' := ZaA bp) (fun q hq h => by rcases h with h | h; exact h; omega))).trans (htS _ _ Zl)
  have hone : ∀ v ∈ K.cells.toList, v.oneCell' = true := fun v hv => by simp [Tk.C.cells] at hv; rcases hv with h | h | h | h | h | h | h | h | h | h | h | h | h | h | h | h | h <;> subst h <;> rfl
  refine Zdm (cs := K.cells) (cb := cb) (Rb := w.heap.size) (t := 135) (p := 3) (r := 2) rfl rfl rfl rfl rfl rfl rfl rfl (by simp) (by decide) (uh HC).box hRe hRf hone Tryz.underlying56 rfl Zcg ?_
  go_wp2_with fail
  refine bodyPost_ret (ZcY (cs := K.cells) (r := 2) rfl rfl hRe Tryz.underlying56 rfl Zcg) rfl ?_
  exact ⟨⟨K, rfl, ((uh HC).own.go (by omega) (fun q h1 _ _ => hkS q (by omega))).wide (B' := w.heap.size) (g' := bp) (by omega) (by omega) (Or.inl (by omega))⟩, (uh HC).at_.kept (by omega) (fun q hq => hkS q (by omega)), hT⟩
end
structure Rp.Fs (l : List Tp.T) (ta : Option Addr) (c bp : Nat) (e : Int) (w0 : World) (cb n : Nat) (v : Value) (es : List Tk.F) (acc : List (Tk.FT 61 n)) (i : Nat) (W : World) : Prop where
 at_ : Rp.J l ta c bp e W i
 tu : Tp.Tu (fun q => q = bp ∨ q = cb) w0.heap.size w0 W
 box : W.cell? ⟨cb, 0, none⟩ = some v
 fz : ∀ j, W.frozen? ⟨cb, j, none⟩ = false
 row : Tp.Rw w0.heap.size bp W 54 10 (fun E : Tk.F => E.cells.toList) (fun W => Tk.RF W 61 n) v es acc
 pos : bp < cb ∧ cb < w0.heap.size
section
variable {l : List Tp.T} {ta : Option Addr} {c bp : Nat} {e : Int} {w0 W W1 : World} {cb n : Nat} {v : Value} {es : List Tk.F} {acc : List (Tk.FT 61 n)} {i j : Nat}
theorem Rp.Fs.step (h : Rp.Fs l ta c bp e w0 cb n v es acc i W) (hj : Rp.J l ta c bp e W1 j) (ht : Tp.Tu (ZaA bp) W.heap.size W W1) : Rp.Fs l ta c bp e w0 cb n v es acc j W1 := by
 obtain ⟨p1, p2⟩ := h.pos
 have hz := h.tu.size
 have hb : W1.heap[cb]? = W.heap[cb]? := ht.block cb (by omega) (by show ¬ cb = bp; omega)
 exact ⟨hj, h.tu.then ht hz (fun q _ hq => Or.inl hq), (Zc (a := ⟨cb, 0, none⟩) hb).trans h.box, fun k => (Zf (a := ⟨cb, k, none⟩) hb).trans (h.fz k),
  h.row.kept ht.size (by omega) (fun q h1 h2 => ht.block q h2 (by show ¬ q = bp; omega)), h.pos⟩
theorem Rp.Fs.app (h : Rp.Fs l ta c bp e w0 cb n v es acc i W) {E : Tk.F} {x : Tk.FT 61 n} {W6 : World} (hE : Tp.Ow w0.heap.size (Tp.blk bp v) W (fun W => Tk.RF W 61 n E x)) (hg : W.grownBy W6 v.ownBlock) {g cc : Nat}
  (ho : W6.ownsRow w0.heap.size 54 10 (.slice (some ⟨g, 0, none⟩) (es.length + 1) cc) (es.length + 1) (es.flatMap (fun E : Tk.F => E.cells.toList) ++ E.cells.toList)) (hat : v.ownBlock = some g ∨ W.heap.size ≤ g) :
  Rp.Fs l ta c bp e w0 cb n (.slice (some ⟨g, 0, none⟩) (es.length + 1) cc) (es ++ [E]) (acc ++ [x]) i (W6.setCell ⟨cb, 0, none⟩ (.slice (some ⟨g, 0, none⟩) (es.length + 1) cc)) := by
 obtain ⟨p1, p2⟩ := h.pos
 have hz := h.tu.size
 have hlow : ∀ q, q < w0.heap.size → W6.heap[q]? = W.heap[q]? := fun q hq => hg.block q (by omega) (fun e => by have := (h.row.row.lt q e.symm).1; omega)
 have hS : ∀ q, q ≠ cb → (W6.setCell ⟨cb, 0, none⟩ (.slice (some ⟨g, 0, none⟩) (es.length + 1) cc)).heap[q]? = W6.heap[q]? := fun q hq => Below.heap_setCell _ _ _ _ hq
 have hsz : (W6.setCell ⟨cb, 0, none⟩ (.slice (some ⟨g, 0, none⟩) (es.length + 1) cc)).heap.size = W6.heap.size := by simp [World.setCell]
 have hrow := h.row.app hE hg.size (by omega) (fun q _ h2 h3 => hg.block q h2 (fun e => h3 e.symm)) ho hat
 refine ⟨?_, ?_, ?_, fun j => ?_, hrow.kept (by omega) (by omega) (fun q h1 _ => hS q (by omega)), h.pos⟩
 · exact h.at_.kept (by have := hg.size; omega) (fun q hq => (hS q (by omega)).trans (hlow q (by omega)))
 · exact (h.tu.trans ⟨hg.os, hg.tape, hg.output, hg.size, fun q h1 _ => hlow q h1⟩).set (b := cb) (o := 0) _ (fun _ => Or.inr rfl)
 · exact World.cell?_setCell_same _ _ _ ((Zc (a := ⟨cb, 0, none⟩) (hlow cb p2)).trans h.box)
 rw [World.frozen?_setCell]
 exact (Zf (a := ⟨cb, j, none⟩) (hlow cb p2)).trans (h.fz j)
end
def Rp.sl : List Tp.T := ZaP ZaD (Zah ZaD).1
def Zli : List (List UInt8) := [[102, 117, 110, 99], [102], [40], [97], [41], [123], [114, 101, 116, 117, 114, 110], [40], [97], [43], [49], [41], [59], [125], [109, 97, 105, 110], [123], [118, 97, 114], [120], [59], [120], [61], [102], [40], [50], [41], [59], [112, 114, 105, 110, 116], [120], [59], [125]]
theorem Zeb : (Rp.sl.map fun x => x.t.data.toList) = Zli ∧ (Zah ZaD).2 = (0, 0) ∧ (Zah ZaD).1.length = 30 := by decide +kernel
theorem ZaE : Rp.sl.length = 30 := by
 have h := congrArg List.length Zeb.1
 rw [List.length_map] at h
 exact h
theorem ZaH (i : Nat) (L : List UInt8) (h : Zli[i]? = some L) : (Tp.tk Rp.sl i).t = ⟨L.toArray⟩ := by
 rw [← Zeb.1, List.getElem?_map] at h
 cases hx : Rp.sl[i]? with
 | none => rw [hx] at h; cases h
 | some x =>
  rw [hx] at h
  simp at h
  rw [Zci hx, ← h]
theorem ZlS : (Tp.tk Rp.sl 0).t = ⟨#[102, 117, 110, 99]⟩ := ZaH 0 _ rfl
theorem ZlT : (Tp.tk Rp.sl 1).t = ⟨#[102]⟩ := ZaH 1 _ rfl
theorem Rp.tk2 : (Tp.tk Rp.sl 2).t = ⟨#[40]⟩ := ZaH 2 _ rfl
theorem ZkV : (Tp.tk Rp.sl 3).t = ⟨#[97]⟩ := ZaH 3 _ rfl
theorem ZlP : (Tp.tk Rp.sl 4).t = ⟨#[41]⟩ := ZaH 4 _ rfl
theorem Rp.tk5 : (Tp.tk Rp.sl 5).t = ⟨#[123]⟩ := ZaH 5 _ rfl
theorem ZjF : (Tp.tk Rp.sl 6).t = ⟨#[114, 101, 116, 117, 114, 110]⟩ := ZaH 6 _ rfl
theorem Rp.tk7 : (Tp.tk Rp.sl 7).t = ⟨#[40]⟩ := ZaH 7 _ rfl
theorem Rp.tk8 : (Tp.tk Rp.sl 8).t = ⟨#[97]⟩ := ZaH 8 _ rfl
theorem ZlQ : (Tp.tk Rp.sl 9).t = ⟨#[43]⟩ := ZaH 9 _ rfl
theorem Zmc : (Tp.tk Rp.sl 10).t = ⟨#[49]⟩ := ZaH 10 _ rfl
theorem Zmi : (Tp.tk Rp.sl 11).t = ⟨#[41]⟩ := ZaH 11 _ rfl
theorem Zmm : (Tp.tk Rp.sl 12).t = ⟨#[59]⟩ := ZaH 12 _ rfl
theorem ZlY : (Tp.tk Rp.sl 13).t = ⟨#[125]⟩ := ZaH 13 _ rfl
theorem Zls : (Tp.tk Rp.sl 14).t = ⟨#[109, 97, 105, 110]⟩ := ZaH 14 _ rfl
theorem Zmf : (Tp.tk Rp.sl 15).t = ⟨#[123]⟩ := ZaH 15 _ rfl
theorem Zmb : (Tp.tk Rp.sl 16).t = ⟨#[118, 97, 114]⟩ := ZaH 16 _ rfl
theorem Zmn : (Tp.tk Rp.sl 17).t = ⟨#[120]⟩ := ZaH 17 _ rfl
theorem Zl9 : (Tp.tk Rp.sl 18).t = ⟨#[59]⟩ := ZaH 18 _ rfl
theorem Zhh : (Tp.tk Rp.sl 19).t = ⟨#[120]⟩ := ZaH 19 _ rfl
theorem ZlX : (Tp.tk Rp.sl 20).t = ⟨#[61]⟩ := ZaH 20 _ rfl
theorem Zl5 : (Tp.tk Rp.sl 21).t = ⟨#[102]⟩ := ZaH 21 _ rfl
theorem Zl7 : (Tp.tk Rp.sl 22).t = ⟨#[40]⟩ := ZaH 22 _ rfl
theorem ZkJ : (Tp.tk Rp.sl 23).t = ⟨#[50]⟩ := ZaH 23 _ rfl
theorem Zme : (Tp.tk Rp.sl 24).t = ⟨#[41]⟩ := ZaH 24 _ rfl
theorem Zmh : (Tp.tk Rp.sl 25).t = ⟨#[59]⟩ := ZaH 25 _ rfl
theorem ZkY : (Tp.tk Rp.sl 26).t = ⟨#[112, 114, 105, 110, 116]⟩ := ZaH 26 _ rfl
theorem Zmd : (Tp.tk Rp.sl 27).t = ⟨#[120]⟩ := ZaH 27 _ rfl
theorem ZkT : (Tp.tk Rp.sl 28).t = ⟨#[59]⟩ := ZaH 28 _ rfl
theorem Zk3 : (Tp.tk Rp.sl 29).t = ⟨#[125]⟩ := ZaH 29 _ rfl
theorem ZkM : Rp.Nm ⟨#[97]⟩ := ⟨by decide +kernel, by rw [ByteArray.toList_eq]; rfl, by rw [ByteArray.toList_eq]; rfl, by rw [ByteArray.toList_eq]; rfl, by decide, fun _ => by show Tk.isD ((97 : Nat) : Int) = false; decide⟩
theorem ZkL : Rp.Nm ⟨#[102]⟩ := ⟨by decide +kernel, by rw [ByteArray.toList_eq]; rfl, by rw [ByteArray.toList_eq]; rfl, by rw [ByteArray.toList_eq]; rfl, by decide, fun _ => by show Tk.isD ((102 : Nat) : Int) = false; decide⟩
theorem Zi8 : Rp.Nm ⟨#[120]⟩ := ⟨by decide +kernel, by rw [ByteArray.toList_eq]; rfl, by rw [ByteArray.toList_eq]; rfl, by rw [ByteArray.toList_eq]; rfl, by decide, fun _ => by show Tk.isD ((120 : Nat) : Int) = false; decide⟩
def Rp.e1 (e : Int) : Zat 61 := ((4, Zaz Rp.sl e 7, 0, ⟨#[]⟩), [(((2, Zaz Rp.sl e 8, 0, ⟨#[97]⟩), []) : Zat 60), (((1, Zaz Rp.sl e 10, ((1 : Nat) : Int), ⟨#[]⟩), []) : Zat 60)])
def Rp.c1 (e : Int) : Zap 61 1 := ((3, Zaz Rp.sl e 19, ⟨#[120]⟩, ⟨#[102]⟩), (ZaO, ZaO, [(((1, Zaz Rp.sl e 23, ((2 : Nat) : Int), ⟨#[]⟩), []) : Zat 61)]), ([], []))
def Rp.c2 (e : Int) : Zap 61 1 := ((5, Zaz Rp.sl e 26, ⟨#[]⟩, ⟨#[]⟩), (ZaO, (((2, Zaz Rp.sl e 27, 0, ⟨#[120]⟩), []) : Zat 61), []), ([], []))
def Rp.f1 (e : Int) : Tk.FT 61 1 := ⟨Zaz Rp.sl e 0, ⟨#[102]⟩, [⟨#[97]⟩], [], [], Rp.e1 e⟩
def Rp.f2 (e : Int) : Tk.FT 61 1 := ⟨Zaz Rp.sl e 14, ⟨#[]⟩, [], [(⟨#[120]⟩, 0)], [Rp.c1 e, Rp.c2 e], ZaO⟩
def Rp.tree (e : Int) : List (Tk.FT 61 1) := [Rp.f1 e, Rp.f2 e]
theorem Rp.Fs.lts {l : List Tp.T} {ta : Option Addr} {c bp : Nat} {e : Int} {w0 W : World} {cb n : Nat} {v : Value} {es : List Tk.F} {acc : List (Tk.FT 61 n)} {i : Nat} (h : Rp.Fs l ta c bp e w0 cb n v es acc i W) : bp < cb ∧ cb < w0.heap.size ∧ w0.heap.size ≤ W.heap.size := ⟨h.pos.1, h.pos.2, h.tu.size⟩
theorem Zgj (e : Int) : Zay (Rp.tree e) = 0 := by kernel_rfl
theorem Rp.k35 (e : Int) : ∀ f ∈ Rp.tree e, ∀ y ∈ f.cs, Dk.k35 1 y := by
 intro f hf y hy
 rcases List.mem_cons.1 hf with rfl | hf
 · exact absurd hy List.not_mem_nil
 have := List.mem_singleton.1 hf
 subst this
 rcases List.mem_cons.1 hy with rfl | hy
 · exact .inl rfl
 have := List.mem_singleton.1 hy
 subst this
 exact .inr rfl
theorem Zhp (w : World) : Calls Tryz.prog 44 #[.string ZaD] w fun r w' => (∃ q : Tk.Sl, r = .returned (.tuple #[.agg #[.slice q.ad q.len q.cap], .int .i64 0, .int .i64 0]) ∧ Tk.RT w' 61 1 q (Rp.tree (ZaD.size : Int)) ∧ q.len ≤ q.cap) ∧ Below w.heap.size w w' := by
 have hbA := (Below.refl w.heap.size w).alloc Zl (Obj.cells #[.slice none 0 0] 24)
 have HB0 := Hd hbA
 have hsa : (w.alloc (Obj.cells #[.slice none 0 0] 24)).heap.size = w.heap.size + 1 := by simp
 have HR00 := Hd (show (w.alloc (Obj.cells #[.slice none 0 0] 24)).cell? ⟨w.heap.size, 0, none⟩ = some (.slice none 0 0) ∧ (w.alloc (Obj.cells #[.slice none 0 0] 24)).frozen? ⟨w.heap.size, 0, none⟩ = false from ⟨by go_simp, by go_simp⟩)
 obtain ⟨t0, hi0, hz0', hz1', hz2'⟩ := Tp.info_of Zf1
 have HI := Hd hi0
 have HZ0 := Hd hz0'
 have HZ1 := Hd hz1'
 have HZ2 := Hd hz2'
 obtain ⟨u0, hj0, hy0, hy1, hy2⟩ := Tp.info_of Zfw
 have HUI := Hd hj0
 have HU0 := Hd hy0
 have HU1 := Hd hy1
 have HU2 := Hd hy2
 clear hbA hi0 hz0' hz1' hz2' hj0 hy0 hy1 hy2
 go_enter Tryz.func44, Tryz.ntmps44
 (try simp only [List.append_eq, List.cons_append, List.nil_append])
 go_wp2_with fail
 generalize (w.alloc (Obj.cells #[.slice none 0 0] 24)) = wa at *
 refine (ZjT ZaD wa (by decide)).mono ?_
 rintro r w1 ⟨v, rfl, ho, hb1⟩
 obtain ⟨ta, c, rfl⟩ := Zcw ho
 have e1 : (Zah ZaD).2.1 = 0 := congrArg Prod.fst Zeb.2.1
 have e2 : (Zah ZaD).2.2 = 0 := congrArg Prod.snd Zeb.2.1
 have e3 : (Zah ZaD).1.length = Rp.sl.length := by rw [ZaE, Zeb.2.2]
 have hrt : Tp.RT w1 ta Rp.sl := ZhB ho
 have hol : ∀ b o, ta = some ⟨b, o, none⟩ → b < w1.heap.size := ZhU ho
 rw [e1, e2, e3]
 have hs1 := hb1.size
 obtain ⟨w0, hw0⟩ : ∃ w0, w0 = ((w1.alloc (Obj.cells #[.slice ta Rp.sl.length c, .int .i64 0, .int .i64 (ZaD.size : Int), .bool false] 127)).alloc (Obj.cells #[.slice none 0 0] 24)) := ⟨_, rfl⟩
 have hbW : Below w1.heap.size w1 w0 := by rw [hw0]; exact ((Below.refl w1.heap.size w1).alloc Zl _).alloc (by simp) _
 have hsw0 : w0.heap.size = w1.heap.size + 2 := by rw [hw0]; simp
 have HF := Hd (show Rp.Fs Rp.sl ta c w1.heap.size (ZaD.size : Int) w0 (w1.heap.size + 1) 1 (.slice none 0 0) [] [] 0 w0 from
  ⟨⟨⟨by rw [hw0]; go_simp, by rw [hw0]; go_simp, by rw [hw0]; go_simp, by rw [hw0]; go_simp, fun j => by rw [hw0]; go_simp⟩, hrt.kept hbW.size (fun b o h => hbW.block b (hol b o h)), hol, Tp.fine ZaD e2, Nat.zero_le _⟩, Tp.Tu.refl _ _ _, by rw [hw0]; go_simp, fun j => by rw [hw0]; go_simp, Tp.Rw.nil _ _ _ _ _ _ _, ⟨by omega, by omega⟩⟩)
 have HBW := Hd ((uh HB0).trans ((hb1.mono (by omega)).trans (hbW.mono (by omega))))
 have hRB : w0.heap[w.heap.size]? = wa.heap[w.heap.size]? := (hbW.block _ (by omega)).trans (hb1.block _ (by omega))
 have HR0 := Hd (And.intro ((Zc (a := ⟨w.heap.size, 0, none⟩) hRB).trans (uh HR00).1) ((Zf (a := ⟨w.heap.size, 0, none⟩) hRB).trans (uh HR00).2))
 have hrl : w.heap.size < w1.heap.size := by omega
 clear ho hb1 e1 e2 e3 hrt hol hbW HB0 HR00 hRB hs1 hsa
 go_wp2_with fail
 rw [← hw0]
 clear hw0
 generalize (ZaD.size : Int) = e at *
 generalize hbp : w1.heap.size = bp at *
 have htb : ∃ tb, tb = bp + 1 := ⟨_, rfl⟩
 obtain ⟨tb, htb⟩ := htb
 rw [← htb] at HF
 rw [← htb]
 clear htb
 go_loopg [] 2 (fun f wr => (f = 2 ∧ Rp.Fs Rp.sl ta c bp e w0 tb 1 (.slice none 0 0) [] [] 0 wr) ∨ (f = 1 ∧ ∃ g cc E1, Rp.Fs Rp.sl ta c bp e w0 tb 1 (.slice (some ⟨g, 0, none⟩) 1 cc) [E1] [Rp.f1 e] 14 wr))
 case atStart => exact .inl ⟨rfl, uh HF⟩
 case round =>
  clear HF
  rcases hrel with ⟨rfl, hF⟩ | ⟨rfl, g, cc, E1, hF⟩
  · have HF := Hd hF
    clear hF
    obtain ⟨c0, c1, c2, c3, cf⟩ := (uh HF).at_.p
    go_wp2_with fail
    refine (ZaF Rp.sl ta c bp e 0 wr (uh HF).at_).mono ?_
    rintro r wp ⟨rfl, hb⟩
    rw [ZlS]
    replace HF := Hd ((uh HF).step ((uh HF).at_.below hb) (Tp.Tu.of_below hb))
    clear hb c0 c1 c2 c3 cf
    go_wp2_with fail
    refine (ZcE Rp.sl ta c bp e 0 wp (uh HF).at_).mono ?_
    rintro r w1 ⟨rfl, hb1⟩
    obtain ⟨a1, ha1⟩ : ∃ a, Zaz Rp.sl e 0 = a := ⟨_, rfl⟩
    rw [ha1]
    have HPA1 := Hd ha1
    have hbN := (Below.refl w1.heap.size w1).alloc Zl (Obj.cells #[.int .i64 a1, .string ⟨#[]⟩, .slice none 0 0, .slice none 0 0, .slice none 0 0, .int .i64 0, .int .i64 0, .int .i64 0, .string ⟨#[]⟩, .slice none 0 0] 54)
    have hlf := (uh HF).lts
    have hs1 := hb1.size
    have hsw : (w1.alloc (Obj.cells #[.int .i64 a1, .string ⟨#[]⟩, .slice none 0 0, .slice none 0 0, .slice none 0 0, .int .i64 0, .int .i64 0, .int .i64 0, .string ⟨#[]⟩, .slice none 0 0] 54)).heap.size = w1.heap.size + 1 := by simp
    have HC := Hd (show Rp.Cb Rp.sl ta c bp e (w1.alloc (Obj.cells #[.int .i64 a1, .string ⟨#[]⟩, .slice none 0 0, .slice none 0 0, .slice none 0 0, .int .i64 0, .int .i64 0, .int .i64 0, .string ⟨#[]⟩, .slice none 0 0] 54)) w1.heap.size (fun _ => True) (Tk.F.mk a1 ⟨#[]⟩ ⟨none, 0, 0⟩ ⟨none, 0, 0⟩ ⟨none, 0, 0⟩ Tk.E.zero).cells 0 (w1.alloc (Obj.cells #[.int .i64 a1, .string ⟨#[]⟩, .slice none 0 0, .slice none 0 0, .slice none 0 0, .int .i64 0, .int .i64 0, .int .i64 0, .string ⟨#[]⟩, .slice none 0 0] 54)) from
     ⟨((uh HF).at_.below hb1).below hbN, Tp.Tu.refl _ _ _, fun j v hj => by go_simp; simpa [Tk.F.cells, Tk.E.zero] using hj, fun j => by go_simp, fun _ _ _ => trivial, ⟨by omega, by omega⟩⟩)
    have HTB := Hd (hb1.trans (hbN.mono hs1))
    clear hb1 hbN ha1
    go_wp2_with fail
    generalize hwF : (w1.alloc (Obj.cells #[.int .i64 a1, .string ⟨#[]⟩, .slice none 0 0, .slice none 0 0, .slice none 0 0, .int .i64 0, .int .i64 0, .int .i64 0, .string ⟨#[]⟩, .slice none 0 0] 54)) = wF at *
    clear hwF
    generalize w1.heap.size = fb at *
    refine (Za3 Rp.sl ta c bp e ⟨#[102, 117, 110, 99]⟩ 0 wF (uh HC).at_ (by rw [ZaE]; decide) (by unfold Zal; rw [ZlS]; exact beq_self_eq_true _)).mono ?_
    rintro r x1 ⟨rfl, hj, ht⟩
    replace HC := Hd ((uh HC).step hj ht)
    clear hj ht
    go_wp2_with fail
    refine (Zdz Rp.sl ta c bp e 1 x1 (uh HC).at_ (by rw [ZaE]; decide) (by rw [ZlT]; exact ZkL.nm)).mono ?_
    rintro r x2 ⟨rfl, hj, ht⟩
    rw [ZlT]
    replace HC := Hd ((uh HC).step hj ht)
    clear hj ht
    have hc0 := (uh HC).box 1 _ rfl
    have hz0 := (uh HC).fz
    have HC2 := Hd ((uh HC).set 1 (.string ⟨#[102]⟩) ⟨_, rfl⟩ (cs' := ((Tk.F.mk a1 ⟨#[102]⟩ ⟨none, 0, 0⟩ ⟨none, 0, 0⟩ ⟨none, 0, 0⟩ Tk.E.zero)).cells) rfl)
    go_wp2_with fail
    clear hc0 hz0 HC
    generalize (x2.setCell ⟨fb, 1, none⟩ (.string ⟨#[102]⟩)) = x3 at *
    have HC := HC2
    clear HC2
    refine (Za3 Rp.sl ta c bp e ⟨#[40]⟩ 2 x3 (uh HC).at_ (by rw [ZaE]; decide) (by unfold Zal; rw [Rp.tk2]; exact beq_self_eq_true _)).mono ?_
    rintro r x4 ⟨rfl, hj, ht⟩
    replace HC := Hd ((uh HC).step hj ht)
    clear hj ht
    go_wp2_with fail
    go_loopg [] 2 (fun f wr => (f = 2 ∧ Rp.Cb Rp.sl ta c bp e wF fb (fun _ => True) ((Tk.F.mk a1 ⟨#[102]⟩ ⟨none, 0, 0⟩ ⟨none, 0, 0⟩ ⟨none, 0, 0⟩ Tk.E.zero)).cells 3 wr) ∨ (f = 1 ∧ ∃ s : Tk.Sl, s.len = 1 ∧ Rp.Cb Rp.sl ta c bp e wF fb (fun V => True ∧ Tk.RS V 1 (ZeF V) Zcv s [⟨#[97]⟩]) ((Tk.F.mk a1 ⟨#[102]⟩ s ⟨none, 0, 0⟩ ⟨none, 0, 0⟩ Tk.E.zero)).cells 4 wr))
    case atStart => exact .inl ⟨rfl, uh HC⟩
    case round =>
     clear HC
     rcases hrel with ⟨rfl, hC⟩ | ⟨rfl, s, hs1', hC⟩
     · have HC := Hd hC
       clear hC
       obtain ⟨c0, c1, c2, c3, cf⟩ := (uh HC).at_.p
       go_wp2_with fail
       refine (ZaF Rp.sl ta c bp e 3 wr (uh HC).at_).mono ?_
       rintro r wp ⟨rfl, hb⟩
       rw [ZkV]
       replace HC := Hd ((uh HC).below hb)
       clear hb c0 c1 c2 c3 cf
       obtain ⟨wq, hwq⟩ : ∃ wq, wq = wp := ⟨_, rfl⟩
       subst hwq
       have hc0 : wq.cell? ⟨fb, 2, none⟩ = some (.slice none 0 0) := (uh HC).box 2 _ rfl
       go_upto_region 14 with fail
       have HLz := Hd ((uh HC).below Zr.drew)
       have hHeld : (fun V : World => V.cell? ⟨fb, 2, none⟩ = some (.slice none 0 0)) wq.drew := (uh HLz).box 2 _ rfl
       refine ZbA (fun j => Nat.beq j 6) (fun V : World => V.cell? ⟨fb, 2, none⟩ = some (.slice none 0 0)) (by kernel_rfl) hHeld (fun hHeld hcl => ?_)
       generalize wq.drew = wz at *
       refine Rq.tk 0 (.pointer (some ⟨fb, 2, none⟩)) Rq.z (by kernel_rfl) (by kernel_rfl) (by kernel_rfl) (by kernel_rfl) (fun _ _ _ h => h) (by assumption) (by assumption) (by rfl) (fun w hSw => by (try dsimp only at hSw); go_simp) (fun hcl => ?_)
       (try simp only [Act.put, Zt, Zz, Zs])
       refine Rq.tk 1 (.slice none 0 0) (Rq.s Rq.z) (by kernel_rfl) (by kernel_rfl) (by kernel_rfl) (by kernel_rfl) (fun _ _ _ h => h) (by assumption) (by assumption) (by rfl) (fun w hSw => by (try dsimp only at hSw); go_simp) (fun hcl => ?_)
       (try simp only [Act.put, Zt, Zz, Zs])
       refine Rq.on 2 (Rq.s (Rq.s Rq.z)) (by kernel_rfl) (by assumption) (fun K hK => ?_)
       go_simp
       go_at_call 78
       refine (Zdz Rp.sl ta c bp e 3 wz (uh HLz).at_ (by rw [ZaE]; decide) (by rw [ZkV]; exact ZkM.nm)).mono ?_
       rintro r wx ⟨rfl, hj, ht⟩
       rw [ZkV]
       have hbN := (Below.refl wx.heap.size wx).alloc Zl (Obj.cells #[.string ⟨#[97]⟩] 9)
       have HL1 := Hd ((uh HLz).step hj ht)
       have HL2 := Hd ((uh HL1).below hbN)
       have HBK := Hd (heap_alloc_new wx (Obj.cells #[.string ⟨#[97]⟩] 9))
       have hlc := (uh HLz).lt
       have hs2e : wF.heap.size ≤ (wx.alloc (Obj.cells #[.string ⟨#[97]⟩] 9)).heap.size := (uh HL2).tu.size
       clear hj ht hbN hHeld hcl
       go_simp
       refine hK _ _ (fun _ => (uh HL1).box 2 _ rfl) (fun hcl => ?_)
       (try simp only [Act.put, Zt, Zz, Zs])
       clear hK K
       have hHeld : wx.cell? ⟨fb, 2, none⟩ = some (.slice none 0 0) := (uh HL1).box 2 _ rfl
       refine Rq.on 3 (Rq.s (Rq.s (Rq.s Rq.z))) (by kernel_rfl) (by assumption) (fun K hK => ?_)
       go_simp
       refine hK _ _ (fun _ => (uh HL2).box 2 _ rfl) (fun hcl => ?_)
       (try simp only [Act.put, Zt, Zz, Zs])
       clear hK K hHeld
       refine Rq.on 4 (Rq.s (Rq.s (Rq.s (Rq.s Rq.z)))) (by kernel_rfl) (by assumption) (fun K hK => ?_)
       refine step_append_lies _ rfl (.tmp 53) (.tmp 55) 47 rfl wF.heap.size 9 t0 _ 1 16 Tryz.underlying47 (uh HI) (uh HZ0) (uh HZ1) (uh HZ2) rfl (by omega) (.slice none 0 0) 0 [] rfl (Tp.Rw.nil wF.heap.size bp (wx.alloc (Obj.cells #[.string ⟨#[97]⟩] 9)) 9 1 Zgl (fun _ => Zcv)).row _ 1 1 [.string ⟨#[97]⟩] rfl rfl (World.news_of_block (uh HBK)) (by simp [Value.oneCell']) (by omega) (by unfold maxLen; omega) (by omega) hs2e _ rfl ?_
       intro gA cA w6 hoA hgA hatA hltA
       have hat2 : (wx.alloc (Obj.cells #[.string ⟨#[97]⟩] 9)).heap.size ≤ gA := by
        rcases hatA with h | h
        · cases h
        omega
       have hR8 := (Tp.Rw.nil wF.heap.size bp (wx.alloc (Obj.cells #[.string ⟨#[97]⟩] 9)) 9 1 Zgl (fun _ => Zcv)).app (E := ⟨#[97]⟩) (x := ⟨#[97]⟩) (fun _ _ _ => ⟨rfl, by decide⟩) hgA.size (by omega) (fun q _ h2 h3 => hgA.block q h2 (fun e => by cases e)) hoA (Or.inr hat2)
       have hbB : Below (wx.alloc (Obj.cells #[.string ⟨#[97]⟩] 9)).heap.size (wx.alloc (Obj.cells #[.string ⟨#[97]⟩] 9)) w6 := ⟨hgA.os, hgA.tape, hgA.output, hgA.size, fun q hq => hgA.block q hq (fun e => by cases e)⟩
       obtain ⟨s, hsv, hso⟩ := hR8.reads (lies := fun W => ZeF W) (by omega) (fun _ => rfl) (fun W g o E h => show W.cell? ⟨g, o, none⟩ = some (.string E) from h 0 _ rfl) (by simp)
       have HL6 := Hd (((uh HL2).below hbB).and (B := wF.heap.size) hso Zl)
       obtain ⟨sa, sn, sc⟩ := s
       obtain ⟨rfl, rfl, rfl⟩ : sa = some ⟨gA, 0, none⟩ ∧ sn = 1 ∧ cA = sc := by cases hsv; exact ⟨rfl, rfl, rfl⟩
       have hsl := (uh HL6).lt
       clear hoA hgA hatA hltA hat2 hR8 hbB hsv hso HBK HL1 HL2 HLz
       have z4 : w6.cell? ⟨fb, 2, none⟩ = some (.slice none 0 0) := (uh HL6).box 2 _ rfl
       have z5 : w6.frozen? ⟨fb, 2, none⟩ = false := (uh HL6).fz 2
       refine hK _ _ (fun _ => z4) (fun hcl => ?_)
       (try simp only [Act.put, Zt, Zz, Zs])
       clear hK K
       have hHeld : w6.cell? ⟨fb, 2, none⟩ = some (.slice none 0 0) := z4
       refine Rq.on 5 (Rq.s (Rq.s (Rq.s (Rq.s (Rq.s Rq.z))))) (by kernel_rfl) (by assumption) (fun K hK => ?_)
       go_simp
       refine hK _ _ (fun _ => hHeld) (fun hcl => ?_)
       (try simp only [Act.put, Zt, Zz, Zs])
       clear hK K
       refine Rq.on 6 (Rq.s (Rq.s (Rq.s (Rq.s (Rq.s (Rq.s Rq.z)))))) (by kernel_rfl) (by assumption) (fun K hK => ?_)
       go_simp
       refine hK _ _ (fun e => absurd e (by decide)) (fun hcl => ?_)
       (try simp only [Act.put, Zt, Zz, Zs])
       refine Rq.done (by kernel_rfl) ?_ _
       have HC2 := Hd ((uh HL6).set 2 (.slice (some ⟨gA, 0, none⟩) 1 cA) ⟨_, rfl⟩ (cs' := ((Tk.F.mk a1 ⟨#[102]⟩ ⟨some ⟨gA, 0, none⟩, 1, cA⟩ ⟨none, 0, 0⟩ ⟨none, 0, 0⟩ Tk.E.zero)).cells) rfl)
       clear z4 z5 hHeld HL6 hK K hcl
       generalize (w6.setCell ⟨fb, 2, none⟩ (.slice (some ⟨gA, 0, none⟩) 1 cA)) = w7 at *
       have HC := HC2
       clear HC2
       go_wp2_with fail
       go_roundg 1
       case measure => omega
       case rel => exact .inr ⟨rfl, ⟨some ⟨gA, 0, none⟩, 1, cA⟩, rfl, uh HC⟩
     have HC := Hd hC
     clear hC
     obtain ⟨c0, c1, c2, c3, cf⟩ := (uh HC).at_.p
     go_wp2_with fail
     refine (ZaF Rp.sl ta c bp e 4 wr (uh HC).at_).mono ?_
     rintro r wp ⟨rfl, hb⟩
     rw [ZlP]
     replace HC := Hd ((uh HC).below hb)
     clear hb c0 c1 c2 c3 cf
     go_wp2_with fail
     refine (Za3 Rp.sl ta c bp e ⟨#[41]⟩ 4 wp (uh HC).at_ (by rw [ZaE]; decide) (by unfold Zal; rw [ZlP]; exact beq_self_eq_true _)).mono ?_
     rintro r y1 ⟨rfl, hj, ht⟩
     replace HC := Hd ((uh HC).step hj ht)
     clear hj ht
     go_wp2_with fail
     refine (Za3 Rp.sl ta c bp e ⟨#[123]⟩ 5 y1 (uh HC).at_ (by rw [ZaE]; decide) (by unfold Zal; rw [Rp.tk5]; exact beq_self_eq_true _)).mono ?_
     rintro r y2 ⟨rfl, hj, ht⟩
     replace HC := Hd ((uh HC).step hj ht)
     clear hj ht
     go_wp2_with fail
     refine (ZjG Rp.sl ta c bp e 6 [] y2 (uh HC).at_ (by rw [ZaE]; decide) (fun k x h => by simp at h) (by show ((Tp.tk Rp.sl 6).t.toList == _) = false; rw [ZjF, ByteArray.toList_eq]; rfl) (by show ((Tp.tk Rp.sl 6).t.toList == _) = false; rw [ZjF, ByteArray.toList_eq]; rfl)).mono ?_
     rintro r y3 ⟨⟨sv, rfl, hro⟩, hj, ht⟩
     replace HC := Hd (((uh HC).step hj ht).and hro (uh HC).lt.2.2)
     clear hro hj ht
     have hc0 := (uh HC).box 3 _ rfl
     have hz0 := (uh HC).fz
     have HC2 := Hd ((uh HC).set 3 (.slice sv.ad sv.len sv.cap) ⟨_, rfl⟩ (cs' := ((Tk.F.mk a1 ⟨#[102]⟩ s sv ⟨none, 0, 0⟩ Tk.E.zero)).cells) rfl)
     go_wp2_with fail
     clear hc0 hz0 HC
     generalize (y3.setCell ⟨fb, 3, none⟩ (.slice sv.ad sv.len sv.cap)) = y4 at *
     have HC := HC2
     clear HC2
     refine (ZjA Rp.sl ta c bp e (n := 1) ⟨#[114, 101, 116, 117, 114, 110]⟩ (fun k => 6) [] y4 (uh HC).at_ (by simp) (fun k x h => by simp at h) (by show ((Tp.tk Rp.sl 6).t.toList == _) = true; rw [ZjF]; exact beq_self_eq_true _)).mono ?_
     rintro r y5 ⟨⟨sc, rfl, hro⟩, hj, ht⟩
     replace HC := Hd (((uh HC).step hj ht).and hro (uh HC).lt.2.2)
     clear hro hj ht
     have hc0 := (uh HC).box 4 _ rfl
     have hz0 := (uh HC).fz
     have HC2 := Hd ((uh HC).set 4 (.slice sc.ad sc.len sc.cap) ⟨_, rfl⟩ (cs' := ((Tk.F.mk a1 ⟨#[102]⟩ s sv sc Tk.E.zero)).cells) rfl)
     go_wp2_with fail
     clear hc0 hz0 HC
     generalize (y5.setCell ⟨fb, 4, none⟩ (.slice sc.ad sc.len sc.cap)) = y6 at *
     have HC := HC2
     clear HC2
     refine (Za3 Rp.sl ta c bp e ⟨#[114, 101, 116, 117, 114, 110]⟩ 6 y6 (uh HC).at_ (by rw [ZaE]; decide) (by unfold Zal; rw [ZjF]; exact beq_self_eq_true _)).mono ?_
     rintro r y7 ⟨rfl, hj, ht⟩
     replace HC := Hd ((uh HC).step hj ht)
     clear hj ht
     go_wp2_with fail
     refine (Zlo Rp.sl ta c bp e 7 9 y7 (uh HC).at_ Rp.tk7 (by decide) (by rw [ZaE]; decide) ZlQ 11 (by rw [ZaE]; decide) (by decide) Zmi 60 (((2, Zaz Rp.sl e 8, 0, ⟨#[97]⟩), []) : Zat 60) (((1, Zaz Rp.sl e 10, ((1 : Nat) : Int), ⟨#[]⟩), []) : Zat 60)
      (fun W hJ => Zgo Rp.sl ta c bp e 8 W hJ (by rw [ZaE]; decide) ⟨#[97]⟩ Rp.tk8 ZkM (by rw [ZlQ, ByteArray.toList_eq]; rfl) 1 59)
      (fun W hJ => ZfN Rp.sl ta c bp e 10 W hJ (by rw [ZaE]; decide) 1 (by decide) Zmc 1 59)).mono ?_
     rintro r y8 ⟨⟨F, rfl, hro⟩, hj, ht⟩
     replace HC := Hd (((uh HC).step hj ht).and hro (uh HC).lt.2.2)
     clear hro hj ht
     have hc0 := (uh HC).box 5 _ rfl
     have hc1 := (uh HC).box 6 _ rfl
     have hc2 := (uh HC).box 7 _ rfl
     have hc3 := (uh HC).box 8 _ rfl
     have hc4 := (uh HC).box 9 _ rfl
     have hz0 := (uh HC).fz
     have HC2 := Hd ((uh HC).set5 5 F ⟨_, rfl⟩ ⟨_, rfl⟩ ⟨_, rfl⟩ ⟨_, rfl⟩ ⟨_, rfl⟩ (cs' := ((Tk.F.mk a1 ⟨#[102]⟩ s sv sc F)).cells) rfl)
     go_wp2_with fail
     clear hz0 hc0 hc1 hc2 hc3 hc4 HC
     generalize (((((y8.setCell ⟨fb, 5, none⟩ (.int .i64 F.k)).setCell ⟨fb, 6, none⟩ (.int .i64 F.a)).setCell ⟨fb, 7, none⟩ (.int .i64 F.n)).setCell ⟨fb, 8, none⟩ (.string F.nm)).setCell ⟨fb, 9, none⟩ (.slice F.args.ad F.args.len F.args.cap)) = y9 at *
     have HC := HC2
     clear HC2
     refine (Za3 Rp.sl ta c bp e ⟨#[59]⟩ 12 y9 (uh HC).at_ (by rw [ZaE]; decide) (by unfold Zal; rw [Zmm]; exact beq_self_eq_true _)).mono ?_
     rintro r ya ⟨rfl, hj, ht⟩
     replace HC := Hd ((uh HC).step hj ht)
     clear hj ht
     go_wp2_with fail
     refine (Za3 Rp.sl ta c bp e ⟨#[125]⟩ 13 ya (uh HC).at_ (by rw [ZaE]; decide) (by unfold Zal; rw [ZlY]; exact beq_self_eq_true _)).mono ?_
     rintro r yb ⟨rfl, hj, ht⟩
     replace HC := Hd ((uh HC).step hj ht)
     clear hj ht
     replace HC := Hd ((uh HC).imp (Q := (fun V => Tk.RF V 61 1 (Tk.F.mk a1 ⟨#[102]⟩ s sv sc F) (Rp.f1 e))) (fun V h => ⟨(uh HPA1).symm, rfl, (show (⟨#[102]⟩ : ByteArray).size ≤ maxLen by decide), h.1.1.1.2, h.1.1.2, h.1.2, h.2⟩))
     obtain ⟨K, hK⟩ : ∃ K : Tk.F, K = (Tk.F.mk a1 ⟨#[102]⟩ s sv sc F) := ⟨_, rfl⟩
     rw [← hK] at HC
     have hlc := (uh HC).lt
     have hbM := (Below.refl yb.heap.size yb).alloc Zl (Obj.cells #[.int .i64 K.a, .string K.nm, .slice K.ps.ad K.ps.len K.ps.cap, .slice K.vs.ad K.vs.len K.vs.cap, .slice K.cs.ad K.cs.len K.cs.cap, .int .i64 K.re.k, .int .i64 K.re.a, .int .i64 K.re.n, .string K.re.nm, .slice K.re.args.ad K.re.args.len K.re.args.cap] 54)
     have hz0 := (uh HF).tu.size
     have HF1 := Hd ((uh HF).step (uh HC).at_ ((Tp.Tu.of_below (uh HTB)).trans ((uh HC).tu.mono (by omega) (fun q hq h => by rcases h with h | h; exact h; omega))))
     have HF2 := Hd ((uh HF1).step ((uh HC).at_.below hbM) (Tp.Tu.of_below hbM))
     have HEO := Hd (((uh HC).own.wide (B' := w0.heap.size) (g' := Tp.blk bp (.slice none 0 0)) (by omega) (by omega) (by
      unfold Tp.blk
      cases hq : (Value.slice none 0 0).ownBlock with
      | none => left; show bp < _; omega
      | some q => left; have := ((uh HF).row.row.lt q hq).2; show q < _; omega)).go hbM.size (fun q _ _ hq => hbM.block q hq))
     have HBK := Hd (heap_alloc_new yb (Obj.cells #[.int .i64 K.a, .string K.nm, .slice K.ps.ad K.ps.len K.ps.cap, .slice K.vs.ad K.vs.len K.vs.cap, .slice K.cs.ad K.cs.len K.cs.cap, .int .i64 K.re.k, .int .i64 K.re.a, .int .i64 K.re.n, .string K.re.nm, .slice K.re.args.ad K.re.args.len K.re.args.cap] 54))
     have hsb : (yb.alloc (Obj.cells #[.int .i64 K.a, .string K.nm, .slice K.ps.ad K.ps.len K.ps.cap, .slice K.vs.ad K.vs.len K.vs.cap, .slice K.cs.ad K.cs.len K.cs.cap, .int .i64 K.re.k, .int .i64 K.re.a, .int .i64 K.re.n, .string K.re.nm, .slice K.re.args.ad K.re.args.len K.re.args.cap] 54)).heap.size = yb.heap.size + 1 := by simp
     have tb0 := (uh HF1).box
     have tb1 := (uh HF2).box
     have tbf := (uh HF2).fz
     have k0 := (uh HC).box 0 (.int .i64 K.a) (by rw [hK]; rfl)
     have k1 := (uh HC).box 1 (.string K.nm) (by rw [hK]; rfl)
     have k2 := (uh HC).box 2 (.slice K.ps.ad K.ps.len K.ps.cap) (by rw [hK]; rfl)
     have k3 := (uh HC).box 3 (.slice K.vs.ad K.vs.len K.vs.cap) (by rw [hK]; rfl)
     have k4 := (uh HC).box 4 (.slice K.cs.ad K.cs.len K.cs.cap) (by rw [hK]; rfl)
     have k5 := (uh HC).box 5 (.int .i64 K.re.k) (by rw [hK]; rfl)
     have k6 := (uh HC).box 6 (.int .i64 K.re.a) (by rw [hK]; rfl)
     have k7 := (uh HC).box 7 (.int .i64 K.re.n) (by rw [hK]; rfl)
     have k8 := (uh HC).box 8 (.string K.re.nm) (by rw [hK]; rfl)
     have k9 := (uh HC).box 9 (.slice K.re.args.ad K.re.args.len K.re.args.cap) (by rw [hK]; rfl)
     clear hK
     have hps := (uh HF2).pos
     have hz2 := (uh HF2).tu.size
     go_wp2_with (at_builtin; refine wpList_append_lies _ (by rfl) _ _ _ (by rfl) w0.heap.size 54 u0 _ 10 160 Tryz.underlying22 (uh HUI) (uh HU0) (uh HU1) (uh HU2) rfl (by omega) (.slice none 0 0) 0 (([] : List Tk.F).flatMap (fun E : Tk.F => E.cells.toList)) (by rfl) (uh HF2).row.row ⟨yb.heap.size, 0, none⟩ 1 1 [.int .i64 K.a, .string K.nm, .slice K.ps.ad K.ps.len K.ps.cap, .slice K.vs.ad K.vs.len K.vs.cap, .slice K.cs.ad K.cs.len K.cs.cap, .int .i64 K.re.k, .int .i64 K.re.a, .int .i64 K.re.n, .string K.re.nm, .slice K.re.args.ad K.re.args.len K.re.args.cap] (by rfl) (by rfl) (World.news_of_block (uh HBK)) (by simp [Value.oneCell']) (by omega) (by unfold maxLen; omega) (by omega) (by omega) (yb.heap.size + 1) (by omega) ?_; intro gA cA w8 hoA hgA hatA hltA; have HOA := Hd hoA; have HGA := Hd hgA; have HAT := Hd hatA; have hTB := hgA.block tb (by omega) (fun e => by have := ((uh HF2).row.row.lt tb e.symm).1; omega); have u3 : w8.cell? ⟨tb, 0, none⟩ = some (.slice none 0 0) := (Zc (a := ⟨tb, 0, none⟩) hTB).trans (uh HF2).box; have u4 : w8.frozen? ⟨tb, 0, none⟩ = false := (Zf (a := ⟨tb, 0, none⟩) hTB).trans ((uh HF2).fz 0); clear hatA hltA hoA hgA hTB)
     have HF3 := Hd ((uh HF2).app (E := K) (x := (Rp.f1 e)) (uh HEO) (uh HGA) (uh HOA) ((uh HAT).imp id (fun e => by rw [e, hsb]; exact Nat.le_refl _)))
     generalize (w8.setCell ⟨tb, 0, none⟩ (.slice (some ⟨gA, 0, none⟩) (0 + 1) cA)) = yc at *
     go_roundg 1
     case measure => omega
     case rel => exact .inr ⟨rfl, gA, cA, K, uh HF3⟩
  have HF := Hd hF
  clear hF
  obtain ⟨c0, c1, c2, c3, cf⟩ := (uh HF).at_.p
  go_wp2_with fail
  refine (ZaF Rp.sl ta c bp e 14 wr (uh HF).at_).mono ?_
  rintro r wp ⟨rfl, hb⟩
  rw [Zls]
  replace HF := Hd ((uh HF).step ((uh HF).at_.below hb) (Tp.Tu.of_below hb))
  clear hb c0 c1 c2 c3 cf
  go_wp2_with fail
  refine (ZcE Rp.sl ta c bp e 14 wp (uh HF).at_).mono ?_
  rintro r w1 ⟨rfl, hb1⟩
  obtain ⟨a2, ha2⟩ : ∃ a, Zaz Rp.sl e 14 = a := ⟨_, rfl⟩
  rw [ha2]
  have HPA2 := Hd ha2
  have hbN := (Below.refl w1.heap.size w1).alloc Zl (Obj.cells #[.int .i64 a2, .string ⟨#[]⟩, .slice none 0 0, .slice none 0 0, .slice none 0 0, .int .i64 0, .int .i64 0, .int .i64 0, .string ⟨#[]⟩, .slice none 0 0] 54)
  have hlf := (uh HF).lts
  have hs1 := hb1.size
  have hsw : (w1.alloc (Obj.cells #[.int .i64 a2, .string ⟨#[]⟩, .slice none 0 0, .slice none 0 0, .slice none 0 0, .int .i64 0, .int .i64 0, .int .i64 0, .string ⟨#[]⟩, .slice none 0 0] 54)).heap.size = w1.heap.size + 1 := by simp
  have HC := Hd (show Rp.Cb Rp.sl ta c bp e (w1.alloc (Obj.cells #[.int .i64 a2, .string ⟨#[]⟩, .slice none 0 0, .slice none 0 0, .slice none 0 0, .int .i64 0, .int .i64 0, .int .i64 0, .string ⟨#[]⟩, .slice none 0 0] 54)) w1.heap.size (fun _ => True) (Tk.F.mk a2 ⟨#[]⟩ ⟨none, 0, 0⟩ ⟨none, 0, 0⟩ ⟨none, 0, 0⟩ Tk.E.zero).cells 14 (w1.alloc (Obj.cells #[.int .i64 a2, .string ⟨#[]⟩, .slice none 0 0, .slice none 0 0, .slice none 0 0, .int .i64 0, .int .i64 0, .int .i64 0, .string ⟨#[]⟩, .slice none 0 0] 54)) from
   ⟨((uh HF).at_.below hb1).below hbN, Tp.Tu.refl _ _ _, fun j v hj => by go_simp; simpa [Tk.F.cells, Tk.E.zero] using hj, fun j => by go_simp, fun _ _ _ => trivial, ⟨by omega, by omega⟩⟩)
  have HTB := Hd (hb1.trans (hbN.mono hs1))
  clear hb1 hbN ha2
  go_wp2_with fail
  generalize hwF : (w1.alloc (Obj.cells #[.int .i64 a2, .string ⟨#[]⟩, .slice none 0 0, .slice none 0 0, .slice none 0 0, .int .i64 0, .int .i64 0, .int .i64 0, .string ⟨#[]⟩, .slice none 0 0] 54)) = wF at *
  clear hwF
  generalize w1.heap.size = fb at *
  refine (Za3 Rp.sl ta c bp e ⟨#[109, 97, 105, 110]⟩ 14 wF (uh HC).at_ (by rw [ZaE]; decide) (by unfold Zal; rw [Zls]; exact beq_self_eq_true _)).mono ?_
  rintro r x1 ⟨rfl, hj, ht⟩
  replace HC := Hd ((uh HC).step hj ht)
  clear hj ht
  go_wp2_with fail
  refine (Za3 Rp.sl ta c bp e ⟨#[123]⟩ 15 x1 (uh HC).at_ (by rw [ZaE]; decide) (by unfold Zal; rw [Zmf]; exact beq_self_eq_true _)).mono ?_
  rintro r x2 ⟨rfl, hj, ht⟩
  replace HC := Hd ((uh HC).step hj ht)
  clear hj ht
  go_wp2_with fail
  refine (ZjG Rp.sl ta c bp e 16 [(⟨#[120]⟩, 0)] x2 (uh HC).at_ (by rw [ZaE]; decide) (fun k x h => by
   match k, h with
   | 0, h => cases h; exact ⟨Zmb, Zmn, Zi8.nm, Zl9, rfl⟩) (by show ((Tp.tk Rp.sl 19).t.toList == _) = false; rw [Zhh, ByteArray.toList_eq]; rfl) (by show ((Tp.tk Rp.sl 19).t.toList == _) = false; rw [Zhh, ByteArray.toList_eq]; rfl)).mono ?_
  rintro r x3 ⟨⟨sv, rfl, hro⟩, hj, ht⟩
  replace HC := Hd (((uh HC).step hj ht).and hro (uh HC).lt.2.2)
  clear hro hj ht
  have hc0 := (uh HC).box 3 _ rfl
  have hz0 := (uh HC).fz
  have HC2 := Hd ((uh HC).set 3 (.slice sv.ad sv.len sv.cap) ⟨_, rfl⟩ (cs' := ((Tk.F.mk a2 ⟨#[]⟩ ⟨none, 0, 0⟩ sv ⟨none, 0, 0⟩ Tk.E.zero)).cells) rfl)
  go_wp2_with fail
  clear hc0 hz0 HC
  generalize (x3.setCell ⟨fb, 3, none⟩ (.slice sv.ad sv.len sv.cap)) = x4 at *
  have HC := HC2
  clear HC2
  refine (ZjA Rp.sl ta c bp e (n := 1) ⟨#[125]⟩ (fun k => if k = 0 then 19 else if k = 1 then 26 else 29) [Rp.c1 e, Rp.c2 e] x4 (uh HC).at_ (by simp) (fun k x h => by
   match k, h with
   | 0, h => cases h; exact ⟨by show ((Tp.tk Rp.sl 19).t.toList == _) = false; rw [Zhh, ByteArray.toList_eq, ByteArray.toList_eq]; rfl, fun W hJ => Zll Rp.sl ta c bp e (n := 0) 19 W hJ ⟨#[120]⟩ ⟨#[102]⟩ Zhh Zl5 Zi8.nm ZkL.nm (by rw [ByteArray.toList_eq]; decide) ZlX (by rw [ByteArray.toList_eq]; decide) Zl7 (by rw [ZkJ, ByteArray.toList_eq]; decide) Zme Zmh (by rw [ZaE]; decide) (((1, Zaz Rp.sl e 23, ((2 : Nat) : Int), ⟨#[]⟩), []) : Zat 61) (fun W hJ => ZfN Rp.sl ta c bp e 23 W hJ (by rw [ZaE]; decide) 2 (by decide) ZkJ 0 60)⟩
   | 1, h => cases h; exact ⟨by show ((Tp.tk Rp.sl 26).t.toList == _) = false; rw [ZkY, ByteArray.toList_eq, ByteArray.toList_eq]; rfl, fun W hJ => ZkC Rp.sl ta c bp e (n := 0) 26 28 W hJ ZkY (by decide) (by rw [ZaE]; decide) ZkT (((2, Zaz Rp.sl e 27, 0, ⟨#[120]⟩), []) : Zat 61) (fun W hJ => Zgo Rp.sl ta c bp e 27 W hJ (by rw [ZaE]; decide) ⟨#[120]⟩ Zmd Zi8 (by rw [ZkT, ByteArray.toList_eq]; rfl) 0 60)⟩) (by show ((Tp.tk Rp.sl 29).t.toList == _) = true; rw [Zk3]; exact beq_self_eq_true _)).mono ?_
  rintro r x5 ⟨⟨sc, rfl, hro⟩, hj, ht⟩
  replace HC := Hd (((uh HC).step hj ht).and hro (uh HC).lt.2.2)
  clear hro hj ht
  have hc0 := (uh HC).box 4 _ rfl
  have hz0 := (uh HC).fz
  have HC2 := Hd ((uh HC).set 4 (.slice sc.ad sc.len sc.cap) ⟨_, rfl⟩ (cs' := ((Tk.F.mk a2 ⟨#[]⟩ ⟨none, 0, 0⟩ sv sc Tk.E.zero)).cells) rfl)
  go_wp2_with fail
  clear hc0 hz0 HC
  generalize (x5.setCell ⟨fb, 4, none⟩ (.slice sc.ad sc.len sc.cap)) = x6 at *
  have HC := HC2
  clear HC2
  refine (Za3 Rp.sl ta c bp e ⟨#[125]⟩ 29 x6 (uh HC).at_ (by rw [ZaE]; decide) (by unfold Zal; rw [Zk3]; exact beq_self_eq_true _)).mono ?_
  rintro r x7 ⟨rfl, hj, ht⟩
  replace HC := Hd ((uh HC).step hj ht)
  clear hj ht
  replace HC := Hd ((uh HC).imp (Q := (fun V => Tk.RF V 61 1 (Tk.F.mk a2 ⟨#[]⟩ ⟨none, 0, 0⟩ sv sc Tk.E.zero) (Rp.f2 e))) (fun V h => ⟨(uh HPA2).symm, rfl, (show (⟨#[]⟩ : ByteArray).size ≤ maxLen by decide), Zav _ _ _ _, h.1.2, h.2, ZaK V⟩))
  obtain ⟨K, hK⟩ : ∃ K : Tk.F, K = (Tk.F.mk a2 ⟨#[]⟩ ⟨none, 0, 0⟩ sv sc Tk.E.zero) := ⟨_, rfl⟩
  rw [← hK] at HC
  have hlc := (uh HC).lt
  have hbM := (Below.refl x7.heap.size x7).alloc Zl (Obj.cells #[.int .i64 K.a, .string K.nm, .slice K.ps.ad K.ps.len K.ps.cap, .slice K.vs.ad K.vs.len K.vs.cap, .slice K.cs.ad K.cs.len K.cs.cap, .int .i64 K.re.k, .int .i64 K.re.a, .int .i64 K.re.n, .string K.re.nm, .slice K.re.args.ad K.re.args.len K.re.args.cap] 54)
  have hz0 := (uh HF).tu.size
  have HF1 := Hd ((uh HF).step (uh HC).at_ ((Tp.Tu.of_below (uh HTB)).trans ((uh HC).tu.mono (by omega) (fun q hq h => by rcases h with h | h; exact h; omega))))
  have HF2 := Hd ((uh HF1).step ((uh HC).at_.below hbM) (Tp.Tu.of_below hbM))
  have HEO := Hd (((uh HC).own.wide (B' := w0.heap.size) (g' := Tp.blk bp (.slice (some ⟨g, 0, none⟩) 1 cc)) (by omega) (by omega) (by
   unfold Tp.blk
   cases hq : (Value.slice (some ⟨g, 0, none⟩) 1 cc).ownBlock with
   | none => left; show bp < _; omega
   | some q => left; have := ((uh HF).row.row.lt q hq).2; show q < _; omega)).go hbM.size (fun q _ _ hq => hbM.block q hq))
  have HBK := Hd (heap_alloc_new x7 (Obj.cells #[.int .i64 K.a, .string K.nm, .slice K.ps.ad K.ps.len K.ps.cap, .slice K.vs.ad K.vs.len K.vs.cap, .slice K.cs.ad K.cs.len K.cs.cap, .int .i64 K.re.k, .int .i64 K.re.a, .int .i64 K.re.n, .string K.re.nm, .slice K.re.args.ad K.re.args.len K.re.args.cap] 54))
  have hsb : (x7.alloc (Obj.cells #[.int .i64 K.a, .string K.nm, .slice K.ps.ad K.ps.len K.ps.cap, .slice K.vs.ad K.vs.len K.vs.cap, .slice K.cs.ad K.cs.len K.cs.cap, .int .i64 K.re.k, .int .i64 K.re.a, .int .i64 K.re.n, .string K.re.nm, .slice K.re.args.ad K.re.args.len K.re.args.cap] 54)).heap.size = x7.heap.size + 1 := by simp
  have tb0 := (uh HF1).box
  have tb1 := (uh HF2).box
  have tbf := (uh HF2).fz
  have k0 := (uh HC).box 0 (.int .i64 K.a) (by rw [hK]; rfl)
  have k1 := (uh HC).box 1 (.string K.nm) (by rw [hK]; rfl)
  have k2 := (uh HC).box 2 (.slice K.ps.ad K.ps.len K.ps.cap) (by rw [hK]; rfl)
  have k3 := (uh HC).box 3 (.slice K.vs.ad K.vs.len K.vs.cap) (by rw [hK]; rfl)
  have k4 := (uh HC).box 4 (.slice K.cs.ad K.cs.len K.cs.cap) (by rw [hK]; rfl)
  have k5 := (uh HC).box 5 (.int .i64 K.re.k) (by rw [hK]; rfl)
  have k6 := (uh HC).box 6 (.int .i64 K.re.a) (by rw [hK]; rfl)
  have k7 := (uh HC).box 7 (.int .i64 K.re.n) (by rw [hK]; rfl)
  have k8 := (uh HC).box 8 (.string K.re.nm) (by rw [hK]; rfl)
  have k9 := (uh HC).box 9 (.slice K.re.args.ad K.re.args.len K.re.args.cap) (by rw [hK]; rfl)
  clear hK
  have hps := (uh HF2).pos
  have hz2 := (uh HF2).tu.size
  go_upto_region 31 with (at_builtin; refine wpList_append_lies _ (by rfl) _ _ _ (by rfl) w0.heap.size 54 u0 _ 10 160 Tryz.underlying22 (uh HUI) (uh HU0) (uh HU1) (uh HU2) rfl (by omega) (.slice (some ⟨g, 0, none⟩) 1 cc) 1 ([E1].flatMap (fun E : Tk.F => E.cells.toList)) (by rfl) (uh HF2).row.row ⟨x7.heap.size, 0, none⟩ 1 1 [.int .i64 K.a, .string K.nm, .slice K.ps.ad K.ps.len K.ps.cap, .slice K.vs.ad K.vs.len K.vs.cap, .slice K.cs.ad K.cs.len K.cs.cap, .int .i64 K.re.k, .int .i64 K.re.a, .int .i64 K.re.n, .string K.re.nm, .slice K.re.args.ad K.re.args.len K.re.args.cap] (by rfl) (by rfl) (World.news_of_block (uh HBK)) (by simp [Value.oneCell']) (by omega) (by unfold maxLen; omega) (by omega) (by omega) (x7.heap.size + 1) (by omega) ?_; intro gA cA w8 hoA hgA hatA hltA; have HOA := Hd hoA; have HGA := Hd hgA; have HAT := Hd hatA; have hTB := hgA.block tb (by omega) (fun e => by have := ((uh HF2).row.row.lt tb e.symm).1; omega); have u3 : w8.cell? ⟨tb, 0, none⟩ = some (.slice (some ⟨g, 0, none⟩) 1 cc) := (Zc (a := ⟨tb, 0, none⟩) hTB).trans (uh HF2).box; have u4 : w8.frozen? ⟨tb, 0, none⟩ = false := (Zf (a := ⟨tb, 0, none⟩) hTB).trans ((uh HF2).fz 0); clear hatA hltA hoA hgA hTB)
  have HF3 := Hd ((uh HF2).app (E := K) (x := (Rp.f2 e)) (uh HEO) (uh HGA) (uh HOA) ((uh HAT).imp id (fun e => by rw [e, hsb]; exact Nat.le_refl _)))
  generalize (w8.setCell ⟨tb, 0, none⟩ (.slice (some ⟨gA, 0, none⟩) (1 + 1) cA)) = xe at *
  have hJe := (uh HF3).at_
  have he1 : ¬ (30 : Int) < (Rp.sl.length : Int) := by rw [ZaE]; decide
  obtain ⟨j0, j1, j2, j3, jf⟩ := hJe.p
  obtain ⟨q, hqv, hqo⟩ := (uh HF3).row.reads (lies := fun W => Tk.LF W) (by have := (uh HF3).pos; omega) (fun _ => rfl) Tk.F.lies_cl (by simp)
  have hRT : Tk.RT xe 61 1 q (Rp.tree e) := hqo.now
  obtain ⟨qa, qn, qc⟩ := q
  obtain ⟨rfl, rfl, rfl⟩ : qa = some ⟨gA, 0, none⟩ ∧ qn = 2 ∧ cA = qc := by cases hqv; exact ⟨rfl, rfl, rfl⟩
  have HRT := Hd hRT
  have tb9 := (uh HF3).box
  have hps3 := (uh HF3).pos
  have hz3 := (uh HF3).tu.size
  have HCK := Hd (Zff (⟨some ⟨gA, 0, none⟩, 2, cA⟩ : Tk.Sl) (Rp.tree e) xe hRT (Rp.k35 e))
  rw [Zgj] at HCK
  have hRX : xe.heap[w.heap.size]? = w0.heap[w.heap.size]? := (uh HF3).tu.block w.heap.size (by omega) (by omega)
  have HXE := Hd (And.intro ((Zc (a := ⟨w.heap.size, 0, none⟩) hRX).trans (uh HR0).1) ((Zf (a := ⟨w.heap.size, 0, none⟩) hRX).trans (uh HR0).2))
  have HBE := Hd ((uh HBW).trans (((uh HF3).tu.mono (n' := w.heap.size) (D' := fun q => q = bp ∨ q = tb) (by omega) (fun _ _ h => h)).to_below (fun q hq h => by rcases h with h | h <;> omega)))
  have HQO := Hd hqo
  have hcap : 2 ≤ cA := by
   rcases (uh HF3).row.row.2 with ⟨h, _⟩ | ⟨g', cap', cur, hv, _, _, hnc, _⟩
   · cases h
   cases hv; exact hnc
  have HCAP := Hd hcap
  clear hcap
  have j1' : xe.cell? ⟨bp, 1, none⟩ = some (.int .i64 30) := j1
  clear hqv hqo hRT hJe hRX he1 j1
  rw [ZaE]
  go_wp2_with fail
  refine (uh HCK).mono ?_
  rintro r xf ⟨rfl, hb⟩
  have hsf := hb.size
  have tbx : xf.cell? ⟨tb, 0, none⟩ = some (.slice (some ⟨gA, 0, none⟩) 2 cA) := (hb.cell (p := ⟨tb, 0, none⟩) (by show tb < _; omega)).trans tb9
  have rx0 : xf.cell? ⟨w.heap.size, 0, none⟩ = some (.slice none 0 0) := (hb.cell (p := ⟨w.heap.size, 0, none⟩) (by show w.heap.size < _; omega)).trans (uh HXE).1
  have rx1 : xf.frozen? ⟨w.heap.size, 0, none⟩ = false := (Zf (a := ⟨w.heap.size, 0, none⟩) (hb.block w.heap.size (by omega))).trans (uh HXE).2
  have rx2 : (xf.setCell ⟨w.heap.size, 0, none⟩ (.slice (some ⟨gA, 0, none⟩) 2 cA)).cell? ⟨w.heap.size, 0, none⟩ = some (.slice (some ⟨gA, 0, none⟩) 2 cA) := World.cell?_setCell_same _ _ _ rx0
  have HRT2 := Hd ((uh HQO) (xf.setCell ⟨w.heap.size, 0, none⟩ (.slice (some ⟨gA, 0, none⟩) 2 cA)) (by simp [World.setCell]; omega) (fun q h1 _ h3 => (Below.heap_setCell _ _ _ _ (show q ≠ w.heap.size by omega)).trans (hb.block q h3)))
  have HBL := Hd (((uh HBE).trans (hb.mono (uh HBE).size)).setCell (p := ⟨w.heap.size, 0, none⟩) Zl (.slice (some ⟨gA, 0, none⟩) 2 cA))
  clear hb
  go_wp2_with fail
  refine bodyPost_ret (v := .tuple #[.agg #[.slice (some ⟨gA, 0, none⟩) 2 cA], .int .i64 0, .int .i64 0]) (by simp [results, Tryz.results44, go_sem, rx2]) rfl ?_
  exact ⟨⟨⟨some ⟨gA, 0, none⟩, 2, cA⟩, rfl, uh HRT2, uh HCAP⟩, uh HBL⟩
end Go.Proofs.YtfccpddehpgfoaaGreatDoor
