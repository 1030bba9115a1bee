/- By the verifier. -/
import Derived.Lib.AppendStr
import Derived.Lib.UnsafeStr
import Derived.Lib.Builder
import Derived.Test.YtfccpddehpgfoaaGreatDoorTPx
set_option maxRecDepth 100000
set_option maxHeartbeats 3200000
namespace Go.Proofs.YtfccpddehpgfoaaGreatDoor
open Go.RowKit
set_option linter.unusedVariables false
theorem ZfR : (Tryz.prog.info? 5).map (fun i => (i.zero, i.size, i.bytes)) = some (some (.int .u8 0), 1, 1) := by kernel_rfl
theorem Sp.info_of {P : Program} {t : TypeId} {z : Option Value} {s b : Nat} (h : (P.info? t).map (fun i => (i.zero, i.size, i.bytes)) = some (z, s, b)) : ∃ i, P.info? t = some i ∧ i.zero = z ∧ i.size = s ∧ i.bytes = b := by
 cases hi : P.info? t with
 | none => rw [hi] at h; cases h
 | some i => rw [hi] at h; simp at h; exact ⟨i, rfl, h.1, h.2.1, h.2.2⟩
theorem Zjo : ∃ j, Tryz.prog.info? 72 = some j ∧ j.size ≠ 0 := by
 have h : (Tryz.prog.info? 72).map (·.size) = some 2 := by kernel_rfl
 cases hi : Tryz.prog.info? 72 with
 | none => rw [hi] at h; cases h
 | some i => rw [hi] at h; simp at h; exact ⟨i, rfl, by omega⟩
theorem Zjm : liesAt Tryz.prog Tryz.prog.depth 74 (3 / Tryz.prog.cellsOf 74) 0 72 1 = true := by kernel_rfl
structure Sp.P (B : Nat) (W : World) (b : Nat) (v : Value) (bs : List Value) (n : Int) : Prop where
 c0 : W.cell? ⟨b, 0, none⟩ = some (.pointer none) ∨ W.cell? ⟨b, 0, none⟩ = some (.pointer (some ⟨b, 0, none⟩))
 c1 : W.cell? ⟨b, 1, none⟩ = some v
 c2 : W.cell? ⟨b, 2, none⟩ = some (.int .i64 n)
 fz : ∀ j, W.frozen? ⟨b, j, none⟩ = false
 sh : W.shape? b = some (74, 3)
 row : W.ownsRow B 5 1 v bs.length bs
 ne : v.ownBlock ≠ some b
 ge : B ≤ b
def Sp.U (w : World) (q : Nat) : Prop := ∃ cur fz, w.heap[q]? = some (.cells cur 5 fz)
structure Sp.Go (B b : Nat) (w w' : World) : Prop where
 below : Below B w w'
 oth : ∀ q, q < w.heap.size → q ≠ b → ¬ Sp.U w q → w'.heap[q]? = w.heap[q]?
theorem Zdu (W : World) (a : Addr) (x : Value) {q : Nat} : (W.setCell a x).shape? q = W.shape? q := by
 unfold World.shape? World.setCell
 simp only [Array.getElem?_modify]
 by_cases h : a.block = q
 · rw [if_pos h]
   cases hq : W.heap[q]? with
   | none => rfl
   | some o =>
    cases o with
    | cells c e fz =>
     simp only [Option.map_some]
     split <;> simp
    | _ => rfl
 rw [if_neg h]
section
variable {B b n' : Nat} {v v' v1 : Value} {bs : List Value} {n : Int} {W W' w w' w1 : World}
theorem Sp.P.lt (h : Sp.P B W b v bs n) : b < W.heap.size := World.block_lt_of_cell? W _ h.c1
theorem Zeg {W W' : World} {b : Nat} (h : W'.heap[b]? = W.heap[b]?) : W'.shape? b = W.shape? b := by simp [World.shape?, h]
theorem Sp.P.kept (h : Sp.P B W b v bs n) (hb : W'.heap[b]? = W.heap[b]?) (hr : ∀ q, v.ownBlock = some q → W'.heap[q]? = W.heap[q]?) : Sp.P B W' b v bs n := by
 have hc : ∀ j, W'.cell? ⟨b, j, none⟩ = W.cell? ⟨b, j, none⟩ := fun j => Zc (a := ⟨b, j, none⟩) hb
 refine ⟨?_, (hc 1).trans h.c1, (hc 2).trans h.c2, fun j => (Zf (a := ⟨b, j, none⟩) hb).trans (h.fz j), (Zeg hb).trans h.sh, ?_, h.ne, h.ge⟩
 · rcases h.c0 with h0 | h0
   · exact .inl ((hc 0).trans h0)
   exact .inr ((hc 0).trans h0)
 obtain ⟨h1, h2⟩ := h.row
 refine ⟨h1, ?_⟩
 rcases h2 with h2 | ⟨g, cap, cur, hv, hg, hh, r⟩
 · exact .inl h2
 exact .inr ⟨g, cap, cur, hv, hg, (hr g (by rw [hv]; rfl)).trans hh, r⟩
theorem Sp.P.below (h : Sp.P B W b v bs n) (hb : Below W.heap.size W W') : Sp.P B W' b v bs n :=
 h.kept (hb.block b h.lt) (fun q hq => hb.block q (h.row.lt q hq).2)
theorem Sp.U.same {w w' : World} {q : Nat} (h : w'.heap[q]? = w.heap[q]?) : Sp.U w' q ↔ Sp.U w q := by unfold Sp.U; rw [h]
theorem Sp.Go.refl (B b : Nat) (w : World) : Sp.Go B b w w := ⟨Zr, fun _ _ _ _ => rfl⟩
theorem Sp.Go.of_below (h : Below w.heap.size w w') (hB : B ≤ w.heap.size) : Sp.Go B b w w' := ⟨h.mono hB, fun q hq _ _ => h.block q hq⟩
theorem Sp.Go.trans (h : Sp.Go B b w w1) (h2 : Sp.Go B b w1 w') : Sp.Go B b w w' :=
 ⟨h.below.trans h2.below, fun q hq hb hu => (h2.oth q (Nat.lt_of_lt_of_le hq h.below.size) hb (fun h3 => hu ((Sp.U.same (h.oth q hq hb hu)).1 h3))).trans (h.oth q hq hb hu)⟩
theorem Sp.Go.then (h : Sp.Go B b w w1) (hb : Below w1.heap.size w1 w') (hB : B ≤ w.heap.size) : Sp.Go B b w w' := h.trans (Sp.Go.of_below hb (Nat.le_trans hB h.below.size))
theorem Sp.Go.box (h : Sp.Go B b w w') {k : Nat} {c : Array Value} {T : TypeId} {fz : Nat × Nat} (hb : k ≠ b) (hk : w.heap[k]? = some (.cells c T fz)) (hT : T ≠ 5) : w'.heap[k]? = some (.cells c T fz) := by
 have hlt : k < w.heap.size := by
  rcases Nat.lt_or_ge k w.heap.size with h' | h'
  · exact h'
  simp [Array.getElem?_eq_none h'] at hk
 refine (h.oth k hlt hb ?_).trans hk
 rintro ⟨cur, fz', hc⟩
 rw [hk] at hc
 cases hc
 exact hT rfl
theorem ZjB {W : World} {B n : Nat} {v : Value} {xs : List Value} (h : W.ownsRow B 5 1 v n xs) {q : Nat} (hq : v.ownBlock = some q) : Sp.U W q := by
 rcases h.2 with ⟨h2, _⟩ | ⟨g, cap, cur, hv, hg, hh, r⟩
 · rw [h2] at hq; cases hq
 rw [hv] at hq
 cases hq
 exact ⟨_, _, hh⟩
theorem Zlp {W : World} {B n b : Nat} {v : Value} {xs : List Value} (h : W.ownsRow B 5 1 v n xs) (hs : W.shape? b = some (74, 3)) : v.ownBlock ≠ some b := fun e => by
 obtain ⟨cur, fz, hc⟩ := ZjB h e
 simp [World.shape?, hc] at hs
theorem Sp.Go.grown (hr : w.ownsRow B 5 1 v n' bs) (hg : w.grownBy w' v.ownBlock) (hB : B ≤ w.heap.size) : Sp.Go B b w w' :=
 ⟨⟨hg.os, hg.tape, hg.output, hg.size, fun q hq => hg.block q (by omega) (fun e => by have := (hr.lt q e.symm).1; omega)⟩, fun q hq _ hu => hg.block q hq (fun e => hu (ZjB hr e.symm))⟩
theorem Sp.Go.set (h : Sp.Go B b w w') (j : Nat) (x : Value) (hb : B ≤ b) : Sp.Go B b w (w'.setCell ⟨b, j, none⟩ x) :=
 ⟨h.below.setCell (p := ⟨b, j, none⟩) hb x, fun q hq hqb hu => (Below.heap_setCell _ _ _ _ hqb).trans (h.oth q hq hqb hu)⟩
theorem Sp.P.put {xs : List Value} (h : Sp.P B W b v bs n) (hb : W'.heap[b]? = W.heap[b]?) (hr : W'.ownsRow B 5 1 v' xs.length xs) : Sp.P B (W'.setCell ⟨b, 1, none⟩ v') b v' xs n := by
 have hc : ∀ j, W'.cell? ⟨b, j, none⟩ = W.cell? ⟨b, j, none⟩ := fun j => Zc (a := ⟨b, j, none⟩) hb
 have hsh : W'.shape? b = some (74, 3) := (Zeg hb).trans h.sh
 have hne := Zlp hr hsh
 refine ⟨?_, World.cell?_setCell_same _ _ _ ((hc 1).trans h.c1), (Tp.set_ne (by decide)).trans ((hc 2).trans h.c2), fun j => by rw [World.frozen?_setCell]; exact (Zf (a := ⟨b, j, none⟩) hb).trans (h.fz j), (Zdu _ _ _).trans hsh, ?_, hne, h.ge⟩
 · rcases h.c0 with h0 | h0
   · exact .inl ((Tp.set_ne (by decide)).trans ((hc 0).trans h0))
   exact .inr ((Tp.set_ne (by decide)).trans ((hc 0).trans h0))
 obtain ⟨h1, h2⟩ := hr
 refine ⟨h1, ?_⟩
 rcases h2 with h2 | ⟨g, cap, cur, hv, hg, hh, r⟩
 · exact .inl h2
 exact .inr ⟨g, cap, cur, hv, hg, (Below.heap_setCell _ _ _ _ (fun e => hne (by rw [hv]; exact congrArg some e))).trans hh, r⟩
theorem Sp.P.indent (h : Sp.P B W b v bs n) (m : Int) : Sp.P B (W.setCell ⟨b, 2, none⟩ (.int .i64 m)) b v bs m := by
 have ho : ∀ q, q ≠ b → (W.setCell ⟨b, 2, none⟩ (.int .i64 m)).heap[q]? = W.heap[q]? := fun q hq => Below.heap_setCell _ _ _ _ hq
 refine ⟨?_, (Tp.set_ne (by decide)).trans h.c1, World.cell?_setCell_same _ _ _ h.c2, fun j => by rw [World.frozen?_setCell]; exact h.fz j, (Zdu _ _ _).trans h.sh, ?_, h.ne, h.ge⟩
 · rcases h.c0 with h0 | h0
   · exact .inl ((Tp.set_ne (by decide)).trans h0)
   exact .inr ((Tp.set_ne (by decide)).trans h0)
 obtain ⟨h1, h2⟩ := h.row
 refine ⟨h1, ?_⟩
 rcases h2 with h2 | ⟨g, cap, cur, hv, hg, hh, r⟩
 · exact .inl h2
 exact .inr ⟨g, cap, cur, hv, hg, (ho g (fun e => h.ne (by rw [hv, e]; rfl))).trans hh, r⟩
end
theorem ZgL (B b : Nat) (v : Value) (bs : List Value) (n : Int) (w : World) (h : Sp.P B w b v bs n) :
  Calls Tryz.prog 120 #[.pointer (some ⟨b, 0, none⟩)] w fun r w' => r = .returned (.tuple #[]) ∧ Sp.P B w' b v bs n ∧ w'.cell? ⟨b, 0, none⟩ = some (.pointer (some ⟨b, 0, none⟩)) ∧ Sp.Go B b w w' := by
 obtain ⟨j, hj, hjs⟩ := Zjo
 have HP := Hd h
 have hsh := h.sh
 have hz := h.fz 0
 rcases h.c0 with h0 | h0
 · have HN := Hd (show Sp.P B (w.setCell ⟨b, 0, none⟩ (.pointer (some ⟨b, 0, none⟩))) b v bs n from by
    have ho : ∀ q, q ≠ b → (w.setCell ⟨b, 0, none⟩ (.pointer (some ⟨b, 0, none⟩))).heap[q]? = w.heap[q]? := fun q hq => Below.heap_setCell _ _ _ _ hq
    refine ⟨.inr (World.cell?_setCell_same _ _ _ h0), (Tp.set_ne (by decide)).trans h.c1, (Tp.set_ne (by decide)).trans h.c2, fun j => by rw [World.frozen?_setCell]; exact h.fz j, (Zdu _ _ _).trans h.sh, ?_, h.ne, h.ge⟩
    obtain ⟨h1, h2⟩ := h.row
    refine ⟨h1, ?_⟩
    rcases h2 with h2 | ⟨g, cap, cur, hv, hg, hh, r⟩
    · exact .inl h2
    exact .inr ⟨g, cap, cur, hv, hg, (ho g (fun e => h.ne (by rw [hv, e]; rfl))).trans hh, r⟩)
   have HC := Hd (show (w.setCell ⟨b, 0, none⟩ (.pointer (some ⟨b, 0, none⟩))).cell? ⟨b, 0, none⟩ = some (.pointer (some ⟨b, 0, none⟩)) from World.cell?_setCell_same _ _ _ h0)
   have HG := Hd ((Sp.Go.refl B b w).set 0 (.pointer (some ⟨b, 0, none⟩)) h.ge)
   clear h
   go_enter Tryz.func120, Tryz.ntmps120
   go_wp2_with fail
   rw [Lib.run_to_unsafe w ⟨b, 0, none⟩ Tryz.underlying69 Tryz.underlying186 hj hjs hsh (by show 0 < 3; decide)]
   simp only [Result.andThen]
   rw [Oper.upon_value]
   go_wp2_with fail
   rw [run_callFunc_extern Tryz.func160 (by kernel_rfl) (by kernel_rfl) (by kernel_rfl) (e := Extern.AbiNoEscape.same) (by kernel_rfl)]
   rw [Lib.run_noEscape]
   simp only [Result.andThen]
   rw [Oper.upon_value]
   go_wp2_with fail
   rw [Lib.run_from_unsafe w ⟨b, 0, none⟩ Tryz.underlying186 Tryz.underlying69 hj hsh Zjm]
   simp only [Result.andThen]
   rw [Oper.upon_value]
   go_wp2_with fail
   go_end0
   exact ⟨rfl, uh HN, uh HC, uh HG⟩
 clear h
 go_enter Tryz.func120, Tryz.ntmps120
 go_wp2_with fail
 rw [Lib.run_neq_ptr_same w _ Tryz.underlying69 hj]
 go_wp2_with fail
 go_end0
 exact ⟨rfl, uh HP, h0, Sp.Go.refl _ _ _⟩
theorem ZeU (B b : Nat) (v : Value) (bs : List Value) (n : Int) (w : World) (s : ByteArray) (h : Sp.P B w b v bs n) (hlen : bs.length + s.size ≤ 140737488355328) (hB : B ≤ w.heap.size) :
  Calls Tryz.prog 70 #[.pointer (some ⟨b, 0, none⟩), .string s] w fun r w' => r = .returned (.tuple #[.int .i64 s.size, .nilIface]) ∧ ∃ v', Sp.P B w' b v' (bs ++ Lib.strCells s) n ∧ Sp.Go B b w w' := by
 obtain ⟨i0, hi, hz0, hz1, hz2⟩ := Sp.info_of ZfR
 have HQ := Hd (ZgL B b v bs n w h)
 have HI := Hd (And.intro hi (And.intro hz0 (And.intro hz1 hz2)))
 have hbl := h.lt
 clear h hi hz0 hz1 hz2
 go_enter Tryz.func70, Tryz.ntmps70
 go_wp2_with fail
 refine (uh HQ).mono ?_
 rintro r w1 ⟨rfl, hp, hc0, hgo⟩
 have hs1 := hgo.below.size
 have HP := Hd hp
 have HG := Hd hgo
 have c1 := hp.c1
 have HC0 := Hd hc0
 clear hp hgo hc0
 go_wp2_with (at_builtin; refine Lib.wpList_append_own_string _ rfl _ _ 70 9 rfl B 5 i0 Tryz.underlying70 Tryz.underlying9 (uh HI).1 (uh HI).2.1 (uh HI).2.2.1 (uh HI).2.2.2 _ _ _ rfl (uh HP).row s rfl (by unfold maxLen; omega) (by omega) (by omega) ?_; intro v' w2 hown' hgrow hnil; obtain ⟨ao, n', cap, rfl⟩ : ∃ ao n' cap, v' = .slice ao n' cap := (by rcases hown'.2 with ⟨hv, _⟩ | ⟨g, cap, cur, hv, _⟩; exact ⟨_, _, _, hv⟩; exact ⟨_, _, _, hv⟩); have HO := Hd hown'; have HGR := Hd hgrow; have hb2 : w2.heap[b]? = w1.heap[b]? := hgrow.block b (by omega) (fun e => (uh HP).ne e.symm); have d1 : w2.cell? ⟨b, 1, none⟩ = some v := (Zc (a := ⟨b, 1, none⟩) hb2).trans (uh HP).c1; have f1 : w2.frozen? ⟨b, 1, none⟩ = false := (Zf (a := ⟨b, 1, none⟩) hb2).trans ((uh HP).fz 1); have HB2 := Hd hb2; clear hown' hgrow hnil hb2 c1)
 go_ret2
 have hP := uh HP
 have hlr : (bs ++ Lib.strCells s).length = bs.length + s.size := by rw [Za, Lib.strCells_length]
 exact ⟨rfl, _, hP.put (xs := bs ++ Lib.strCells s) (uh HB2) (by rw [hlr]; exact uh HO), ((uh HG).trans (Sp.Go.grown hP.row (uh HGR) (by omega))).set 1 _ hP.ge⟩
theorem Zjv : Tryz.prog.underlying 125 = some (.pointer 5) := by kernel_rfl
theorem Zif : Tryz.prog.cellsOf 5 = 1 := by kernel_rfl
theorem Zkz (B b : Nat) (v : Value) (bs : List Value) (n : Int) (w : World) (c : Int) (h : Sp.P B w b v bs n) (hlen : bs.length + 1 ≤ 140737488355328) (hB : B ≤ w.heap.size) :
  Calls Tryz.prog 69 #[.pointer (some ⟨b, 0, none⟩), .int .u8 c] w fun r w' => r = .returned .nilIface ∧ ∃ v', Sp.P B w' b v' (bs ++ [.int .u8 c]) n ∧ Sp.Go B b w w' := by
 obtain ⟨i0, hi, hz0, hz1, hz2⟩ := Sp.info_of ZfR
 have HQ := Hd (ZgL B b v bs n w h)
 have HI := Hd (And.intro hi (And.intro hz0 (And.intro hz1 hz2)))
 have hbl := h.lt
 clear h hi hz0 hz1 hz2
 go_enter Tryz.func69, Tryz.ntmps69
 go_wp2_with fail
 refine (uh HQ).mono ?_
 rintro r w1 ⟨rfl, hp, hc0, hgo⟩
 have hs1 := hgo.below.size
 have HG := Hd hgo
 have c1 := hp.c1
 have hbN := (Below.refl w1.heap.size w1).alloc Zl (Obj.cells #[.int .u8 c] 5)
 have HP := Hd (hp.below hbN)
 have HP1 := Hd hp
 have HBN := Hd hbN
 have hsb : (w1.alloc (Obj.cells #[.int .u8 c] 5)).heap.size = w1.heap.size + 1 := by simp
 have HBK := Hd (heap_alloc_new w1 (Obj.cells #[.int .u8 c] 5))
 clear hp hgo hc0 hbN
 go_wp2_with (at_builtin; refine wpList_append_lies _ (by rfl) _ _ _ (by rfl) B 5 i0 _ 1 1 Tryz.underlying70 (uh HI).1 (uh HI).2.1 (uh HI).2.2.1 (uh HI).2.2.2 rfl (by omega) v bs.length bs (by rfl) (uh HP).row ⟨w1.heap.size, 0, none⟩ 1 1 [.int .u8 c] (by rfl) (by rfl) (World.news_of_block (uh HBK)) (by simp [Value.oneCell']) (by omega) (by unfold maxLen; omega) (by omega) (by omega) (w1.heap.size + 1) (by omega) ?_; intro gA cA w2 hoA hgA hatA hltA; have HO := Hd hoA; have HGR := Hd hgA; have hb2 : w2.heap[b]? = (w1.alloc (Obj.cells #[.int .u8 c] 5)).heap[b]? := hgA.block b (by omega) (fun e => (uh HP).ne e.symm); have d1 : w2.cell? ⟨b, 1, none⟩ = some v := (Zc (a := ⟨b, 1, none⟩) hb2).trans (uh HP).c1; have f1 : w2.frozen? ⟨b, 1, none⟩ = false := (Zf (a := ⟨b, 1, none⟩) hb2).trans ((uh HP).fz 1); have HB2 := Hd hb2; clear hoA hgA hatA hltA hb2 c1)
 go_ret
 have hP := uh HP
 have hlr : (bs ++ [Value.int .u8 c]).length = bs.length + 1 := by simp
 exact ⟨rfl, _, hP.put (xs := bs ++ [Value.int .u8 c]) (uh HB2) (by rw [hlr]; exact uh HO), (((uh HG).then (uh HBN) hB).trans (Sp.Go.grown hP.row (uh HGR) (by omega))).set 1 _ hP.ge⟩
theorem Zgy (B b : Nat) (v : Value) (l : List UInt8) (n : Int) (w : World) (h : Sp.P B w b v (Lib.byteCells l) n) (h0 : l ≠ []) (hB : B ≤ w.heap.size) :
  Calls Tryz.prog 39 #[.pointer (some ⟨b, 0, none⟩)] w fun r w' => r = .returned (.string ⟨l.toArray⟩) ∧ Below B w w' := by
 have hrow := h.row
 rw [Lib.byteCells_length] at hrow
 have hl0 : l.length ≠ 0 := by simpa using h0
 obtain ⟨g, cap, cur, rfl, hbg, hg, hnc, hcm, hcs, htake⟩ : ∃ g cap cur, v = .slice (some ⟨g, 0, none⟩) l.length cap ∧ B ≤ g ∧ w.heap[g]? = some (.cells cur 5) ∧ l.length ≤ cap ∧ cap ≤ maxLen ∧ cur.size = cap * 1 ∧ cur.toList.take (l.length * 1) = Lib.byteCells l := by
  rcases hrow.2 with ⟨_, hz⟩ | ⟨g, cap, cur, hv, r⟩
  · exact absurd hz hl0
  exact ⟨g, cap, cur, hv, r⟩
 have c1 : w.drew.cell? ⟨b, 1, none⟩ = some (.slice (some ⟨g, 0, none⟩) l.length cap) := h.c1
 have hSD : (Builtin.unsafeSliceData_ #[70] 125 #[.slice (some ⟨g, 0, none⟩) l.length cap]).run Tryz.prog w.drew = .ok (.pointer (some ⟨g, 0, none⟩)) w.drew :=
  Lib.run_unsafeSliceData_row _ _ _ _ _ _ (by omega)
 have hUS : (Builtin.unsafeString_ #[125, 3] 9 #[.pointer (some ⟨g, 0, none⟩), .int .i64 l.length]).run Tryz.prog w.drew = .ok (.string ⟨l.toArray⟩) (w.drew.freeze ⟨g, 0, none⟩ l.length) := by
  refine Lib.run_unsafeString_row w.drew 125 3 9 5 Zjv Zif g cur.size (by have hg' : w.drew.heap[g]? = some (.cells cur 5) := hg; simp [World.shape?, hg']) l h0 (by omega) (by unfold maxLen at hcm; omega) ?_
  intro j x hx
  have := hrow.cells (g := g) rfl j (.int .u8 x.toNat) (by simp [Lib.byteCells, hx])
  exact this
 have HF := Hd (Lib.below_freeze (Below.drew (Below.refl B w)) (p := ⟨g, 0, none⟩) hbg l.length)
 have hlt := h.lt
 clear h hrow hg hcs htake h0
 go_enter Tryz.func39, Tryz.ntmps39
 go_wp2_with fail
 go_region
 all_goals
  go_wp2_with fail
  go_ret
  exact ⟨rfl, uh HF⟩
end Go.Proofs.YtfccpddehpgfoaaGreatDoor
