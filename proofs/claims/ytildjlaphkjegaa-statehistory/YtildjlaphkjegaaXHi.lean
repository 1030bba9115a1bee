/-
  Several texts in one: XWm, XWrites, XHist. By the verifier.
-/
import Derived.Test.YtildjlaphkjegaaXSameS
import Derived.DeepKeys4
import Derived.WideKeyEntry
import Derived.Maps.AppendAt
import Derived.Test.YtildjlaphkjegaaXAtF
namespace Go.Proofs.Ytildjlaphkjegaa
open Go.RowKit Go.Maps
open Go.ChangeMaps Go.MapKept
open Go.WideMaps (KeyLaw)
open Go.WideElems (findIdx_born findIdx_arr modify_last set_self)
set_option linter.unusedVariables false

theorem Try.laidOutS : laidOutB Try.prog = true := by kernel_rfl
theorem Try.rowVar : (82 : TypeId) < Try.prog.types.size := of_decide_eq_true (by kernel_rfl)
theorem Try.wideVar : (match Try.prog.underlying 82 with | some (.array _ _) | some (.struct _) => true | _ => false) = true := by kernel_rfl
theorem Try.deepVar : Try.prog.keyTypeAt 2 82 = true := by kernel_rfl
theorem Xr.two_le {a b : Nat} (h : a < b) (ha : 1 ≤ a) : ∃ d, b + 1 = d + 2 := ⟨b - 1, by omega⟩
theorem Try.manyVar : ∃ d, Try.prog.types.size + 1 = d + 2 := Xr.two_le Try.rowVar (of_decide_eq_true rfl)
set_option maxRecDepth 100000 in
theorem Try.lawVar : KeyLaw Try.prog 82 := deep_law_laid Try.laidOutS (m := 2) (of_decide_eq_true rfl) Try.rowVar Try.deepVar Try.wideVar
theorem Try.zeroVals (w : World) : (zeroValue 41).run Try.prog w = .ok (.slice none 0 0) w := by kernel_rfl
def Xr.wk (f v : Int) : Value := .agg #[.int .i64 f, .int .i64 v]
theorem Xr.wk_inj {f v f' v' : Int} (h : Xr.wk f v = Xr.wk f' v') : f = f' ∧ v = v' := by
  unfold Xr.wk at h
  simp at h
  exact h
def Xr.wf (n : Int) : Prop := (Lit.int .i64 n).wf = true
theorem Xr.wk_gen {P : Program} {k d : Nat} {a b : Field} (hu : P.underlying k = some (.struct #[a, b])) (h3 : P.underlying 3 = some (.int .i64)) (hc : P.cellsOf k = 2) (hk : P.keyType k = true) (hc3 : P.cellsOf 3 = 1) (hd : P.types.size + 1 = d + 2) (a1 : a.type = 3) (a2 : a.offset = 0) (a3 : (a.name != "_") = true) (b1 : b.type = 3) (b2 : b.offset = 1) (b3 : (b.name != "_") = true) {f v : Int} (hf : Xr.wf f) (hv : Xr.wf v) : ∃ l, keyOf P k (Xr.wk f v) = some l := by
  unfold Xr.wf at hf hv
  have hd' : P.types.size = d + 1 := by omega
  have a3' := bne_iff_ne.1 a3
  have b3' := bne_iff_ne.1 b3
  unfold keyOf Xr.wk
  simp [hu, hk, Value.formed, hc, hd', Program.keyLits, Value.cells, hc3, h3, hf, hv, a1, a2, a3', b1, b2, b3']
theorem Xr.wk_key {f v : Int} (hf : Xr.wf f) (hv : Xr.wf v) : ∃ l, keyOf Try.prog 82 (Xr.wk f v) = some l := by
  obtain ⟨d, hd⟩ := Try.manyVar
  exact Xr.wk_gen Try.underlying82 Try.underlying3 (by kernel_rfl) (by kernel_rfl) (by kernel_rfl) hd rfl rfl (by decide) rfl rfl (by decide) hf hv
/-- The entries of such a map. -/
structure Xr.Wl (W : World) (base : Nat) (g : Int → Int → List Xr.Vl) (L : List MapEntry) : Prop where
  each : ∀ (i : Nat) e, L[i]? = some e → ∃ f v, e.key = Xr.wk f v ∧ Xr.wf f ∧ Xr.wf v ∧ 0 < (g f v).length ∧ W.ownsRow base 48 4 e.val (g f v).length (Xr.vlC (g f v))
  has : ∀ f v, g f v ≠ [] → ∃ (i : Nat) (e : MapEntry), L[i]? = some e ∧ e.key = Xr.wk f v
  apart : ∀ (i j : Nat) x y, L[i]? = some x → L[j]? = some y → i ≠ j → x.val.ownBlock ≠ y.val.ownBlock
def Xr.WM (W : World) (base b : Nat) (g : Int → Int → List Xr.Vl) : Prop := b < base ∧ ∃ es clock, W.heap[b]? = some (.map es clock) ∧ Stamped es clock ∧ Xr.Wl W base g es.toList
theorem Xr.Wl.keys {W : World} {base : Nat} {g : Int → Int → List Xr.Vl} {L : List MapEntry} (h : Xr.Wl W base g L) : ∀ e ∈ L, ∃ l, keyOf Try.prog 82 e.key = some l := by
  intro e he
  obtain ⟨i, hi⟩ := List.getElem?_of_mem he
  obtain ⟨f, v, h1, h2, h3, _⟩ := h.each i e hi
  rw [h1]
  exact Xr.wk_key h2 h3
theorem Xr.WM.lt {W : World} {base b : Nat} {g : Int → Int → List Xr.Vl} (h : Xr.WM W base b g) : b < W.heap.size := by
  obtain ⟨_, es, clock, h1, _⟩ := h
  exact (Array.getElem?_eq_some_iff.1 h1).1
theorem Xr.WM.grown {W W' : World} {base b : Nat} {g : Int → Int → List Xr.Vl} {row : Option Nat} (h : Xr.WM W base b g) (hg : W.grownBy W' row) (hb : some b ≠ row) (hr : ∀ v n xs, W.ownsRow base 48 4 v n xs → v.ownBlock = none ∨ v.ownBlock ≠ row) : Xr.WM W' base b g := by
  have hlt := h.lt
  obtain ⟨h0, es, clock, h1, h2, h3⟩ := h
  refine ⟨h0, es, clock, (hg.block b hlt hb).trans h1, h2, ⟨fun i e hi => ?_, h3.has, h3.apart⟩⟩
  obtain ⟨f, v, e1, e2, e3, e4, e5⟩ := h3.each i e hi
  exact ⟨f, v, e1, e2, e3, e4, e5.kept hg (hr _ _ _ e5)⟩
theorem Xr.WM.below {W W' : World} {base b : Nat} {g : Int → Int → List Xr.Vl} (h : Xr.WM W base b g) (hb : Below W.heap.size W W') : Xr.WM W' base b g := by
  have hlt := h.lt
  obtain ⟨h0, es, clock, h1, h2, h3⟩ := h
  refine ⟨h0, es, clock, (hb.block b hlt).trans h1, h2, ⟨fun i e hi => ?_, h3.has, h3.apart⟩⟩
  obtain ⟨f, v, e1, e2, e3, e4, e5⟩ := h3.each i e hi
  exact ⟨f, v, e1, e2, e3, e4, Pg.ow_below e5 hb⟩
theorem Xr.WM.made (W : World) : Xr.WM (W.alloc (.map #[] 0)) (W.heap.size + 1) W.heap.size (fun _ _ => []) :=
  ⟨Nat.lt_succ_self _, #[], 0, heap_alloc_new _ _, stamped_empty 0, ⟨fun i e hi => by simp at hi, fun f v h => absurd rfl h, fun i j x y hi => by simp at hi⟩⟩
theorem Xr.grownBy_set {W : World} {b : Nat} {es : Array MapEntry} {clock : Nat} (hb : W.heap[b]? = some (.map es clock)) (o : Obj) : W.grownBy (setBlock W b o) (some b) :=
  ⟨rfl, rfl, rfl, by unfold setBlock; simp, fun k _ hk => heap_setBlock_other hb o (fun e => hk (by rw [e]))⟩
/-- An entry is looked up, a row is made longer, and laid back. -/
theorem Xr.WM.entry {W : World} {base b : Nat} {g : Int → Int → List Xr.Vl} (h : Xr.WM W base b g) {f v : Int} (hf : Xr.wf f) (hv : Xr.wf v) :
    ∃ (v0 : Value) (st : Nat) (W1 : World), (Instr.mapEntry 79 (.map (some b)) (.agg #[.int .i64 f, .int .i64 v])).run Try.prog W = .ok (.tuple #[v0, .int .i64 st]) W1 ∧ W1.ownsRow base 48 4 v0 (g f v).length (Xr.vlC (g f v)) ∧ W.grownBy W1 (some b) ∧ W1.heap.size = W.heap.size ∧ (∀ k, v0.ownBlock = some k → base ≤ k) ∧
      ∀ (W2 : World) (v' : Value) (x : Xr.Vl), W1.grownBy W2 v0.ownBlock → W2.ownsRow base 48 4 v' ((g f v).length + 1) (Xr.vlC (g f v) ++ x.cl) → (v'.ownBlock = v0.ownBlock ∨ v'.ownBlock = some W1.heap.size) →
        ∃ W3, (Instr.entryStore 79 (.map (some b)) (.int .i64 st) v').run Try.prog W2 = .ok () W3 ∧ Xr.WM W3 base b (fun f' u => if f' = f ∧ u = v then g f v ++ [x] else g f' u) ∧ W2.grownBy W3 (some b) := by
  have hlt := h.lt
  obtain ⟨h0, es, clock, hb, hst, hL⟩ := h
  obtain ⟨l, hkey⟩ := Xr.wk_key hf hv
  obtain ⟨s1, s2, s3⟩ := hst
  have K := Try.lawVar
  have ht := Try.underlying79
  show ∃ (v0 : Value) (st : Nat) (W1 : World), (Instr.mapEntry 79 (.map (some b)) (Xr.wk f v)).run Try.prog W = _ ∧ _
  have kept : ∀ (u : Value) (n : Nat) (xs : List Value), W.ownsRow base 48 4 u n xs → u.ownBlock = none ∨ u.ownBlock ≠ some b := by
    intro u n xs hu
    cases hub : u.ownBlock with
    | none => exact Or.inl rfl
    | some k => exact Or.inr (fun e => by cases e; have := (hu.lt b hub).1; omega)
  rcases K.find W hkey es.toList hL.keys with ⟨h1, h2⟩ | ⟨j, e0, h1, h2, h3⟩
  · have hg0 : g f v = [] := by
      by_cases hg : g f v = []
      · exact hg
      · obtain ⟨i, e, hi, hk⟩ := hL.has f v hg
        exact absurd hk (h2 e (List.mem_of_getElem? hi))
    have hgr := Xr.grownBy_set hb (.map (es.push ⟨Xr.wk f v, .slice none 0 0, clock⟩) (clock + 1))
    refine ⟨.slice none 0 0, clock, setBlock W b (.map (es.push ⟨Xr.wk f v, .slice none 0 0, clock⟩) (clock + 1)), ?_, ?_, hgr, by unfold setBlock; simp, fun k hk => by simp [Value.ownBlock] at hk, ?_⟩
    · simp [Instr.mapEntry, run_underlying ht, MapKept.run_getObj_map hb, K.check W false hkey, h1, MapKept.run_setObj_map _ hb, Result.andThen, setBlock, goInt]
    · rw [hg0]
      exact World.ownsRow_nil _ _ _ _
    · intro W2 v' x hg2 ho hat
      have hw2 : W2.heap[b]? = some (.map (es.push ⟨Xr.wk f v, .slice none 0 0, clock⟩) (clock + 1)) := (hg2.block b (Nat.lt_of_lt_of_le hlt hgr.size) (by simp [Value.ownBlock])).trans (heap_setBlock_same hb _)
      have hidx : (es.push ⟨Xr.wk f v, .slice none 0 0, clock⟩).findIdx? (fun e => ((e.born : Nat) : Int) == ((clock : Nat) : Int)) = some es.size := by
        rw [findIdx_arr]
        exact findIdx_born (l := (es.push ⟨Xr.wk f v, .slice none 0 0, clock⟩).toList) (j := es.size) (e0 := ⟨Xr.wk f v, .slice none 0 0, clock⟩) (by
          simp only [Array.toList_push, List.map_append, List.map_cons, List.map_nil]
          refine List.nodup_append.2 ⟨s2, by simp, fun a ha c hc e1 => ?_⟩
          simp only [List.mem_singleton] at hc
          obtain ⟨y, hy, rfl⟩ := List.mem_map.1 ha
          have := s1 y hy
          omega) (by simp)
      have hmod : (es.push ⟨Xr.wk f v, .slice none 0 0, clock⟩).modify es.size (fun e => { e with val := v' }) = es.push ⟨Xr.wk f v, v', clock⟩ := by
        apply Array.ext'
        rw [Array.toList_modify, Array.toList_push, Array.toList_push, ← Array.length_toList, modify_last]
      have hg3 := Xr.grownBy_set hw2 (.map (es.push ⟨Xr.wk f v, v', clock⟩) (clock + 1))
      refine ⟨setBlock W2 b (.map (es.push ⟨Xr.wk f v, v', clock⟩) (clock + 1)), ?_, ⟨h0, _, _, heap_setBlock_same hw2 _, stamped_push ⟨s1, s2, s3⟩ h2, ?_⟩, hg3⟩
      · simp [Instr.entryStore, MapKept.run_getObj_map hw2, asInt, asIntOf, hidx, hmod, MapKept.run_setObj_map _ hw2, Result.andThen, setBlock]
      · have ob : ∀ (u : Value) (n : Nat) (xs : List Value), W2.ownsRow base 48 4 u n xs → u.ownBlock = none ∨ u.ownBlock ≠ some b := by
          intro u n xs hu
          cases hub : u.ownBlock with
          | none => exact Or.inl rfl
          | some k => exact Or.inr (fun e => by cases e; have := (hu.lt b hub).1; omega)
        have hvb : v'.ownBlock = some W.heap.size := by
          obtain ⟨q, cap, hq, _⟩ := ho.form (by omega)
          rcases hat with h5 | h5
          · rw [hq] at h5
            simp [Value.ownBlock] at h5
          · rw [h5]
            unfold setBlock
            simp
        have old : ∀ (i : Nat) e, es.toList[i]? = some e → ∃ f' v'', e.key = Xr.wk f' v'' ∧ ¬ (f' = f ∧ v'' = v) ∧ Xr.wf f' ∧ Xr.wf v'' ∧ 0 < (g f' v'').length ∧ (setBlock W2 b (.map (es.push ⟨Xr.wk f v, v', clock⟩) (clock + 1))).ownsRow base 48 4 e.val (g f' v'').length (Xr.vlC (g f' v'')) ∧ e.val.ownBlock ≠ some W.heap.size := by
          intro i e hi
          obtain ⟨f', v'', e1, e2, e3, e4, e5⟩ := hL.each i e hi
          refine ⟨f', v'', e1, fun hh => h2 e (List.mem_of_getElem? hi) (by rw [e1, hh.1, hh.2]), e2, e3, e4, ?_, fun hh => by have := (e5.lt _ hh).2; omega⟩
          have e6 := (e5.kept hgr (kept _ _ _ e5)).kept hg2 (by
            cases hub : e.val.ownBlock with
            | none => exact Or.inl rfl
            | some k => exact Or.inr (by simp [Value.ownBlock]))
          exact e6.kept hg3 (ob _ _ _ e6)
        have cases_ : ∀ (i : Nat) e, (es.push ⟨Xr.wk f v, v', clock⟩).toList[i]? = some e → es.toList[i]? = some e ∨ (i = es.toList.length ∧ e = ⟨Xr.wk f v, v', clock⟩) := by
          intro i e hi
          rw [Array.toList_push] at hi
          by_cases hil : i < es.toList.length
          · rw [List.getElem?_append_left hil] at hi
            exact Or.inl hi
          · rw [List.getElem?_append_right (by omega)] at hi
            rcases Nat.eq_zero_or_pos (i - es.toList.length) with hz | hz
            · rw [hz] at hi
              simp at hi
              exact Or.inr ⟨by omega, hi.symm⟩
            · rw [List.getElem?_eq_none (by rw [List.length_singleton]; omega)] at hi
              cases hi
        refine ⟨fun i e hi => ?_, fun f' v'' hne => ?_, fun i k a c hi hk hik => ?_⟩
        · rcases cases_ i e hi with h5 | ⟨_, rfl⟩
          · obtain ⟨f', v'', e1, e2, e3, e4, e5, e6, _⟩ := old i e h5
            refine ⟨f', v'', e1, e3, e4, ?_, ?_⟩
            · rw [if_neg e2]; exact e5
            · rw [if_neg e2]; exact e6
          · refine ⟨f, v, rfl, hf, hv, ?_, ?_⟩
            · rw [if_pos ⟨rfl, rfl⟩, List.length_append]; show 0 < _ + 1; omega
            · rw [if_pos ⟨rfl, rfl⟩, List.length_append, Xr.vlC_snoc]
              exact ho.kept hg3 (ob _ _ _ ho)
        · by_cases hfv : f' = f ∧ v'' = v
          · exact ⟨es.toList.length, ⟨Xr.wk f v, v', clock⟩, by rw [Array.toList_push]; simp, by rw [hfv.1, hfv.2]⟩
          · rw [if_neg hfv] at hne
            obtain ⟨i, e, hi, hk⟩ := hL.has f' v'' hne
            exact ⟨i, e, by rw [Array.toList_push, List.getElem?_append_left (List.getElem?_eq_some_iff.1 hi).1]; exact hi, hk⟩
        · rcases cases_ i a hi with h5 | ⟨h5, rfl⟩
          · rcases cases_ k c hk with h6 | ⟨h6, rfl⟩
            · exact hL.apart i k a c h5 h6 hik
            · obtain ⟨_, _, _, _, _, _, _, _, e7⟩ := old i a h5
              show a.val.ownBlock ≠ v'.ownBlock
              rw [hvb]
              exact e7
          · rcases cases_ k c hk with h6 | ⟨h6, rfl⟩
            · obtain ⟨_, _, _, _, _, _, _, _, e7⟩ := old k c h6
              show v'.ownBlock ≠ c.val.ownBlock
              rw [hvb]
              exact fun hh => e7 hh.symm
            · omega
  · have hj : es[j]? = some e0 := by simpa using h2
    have hsame : es.modify j (fun e => { e with key := Xr.wk f v }) = es := by
      apply Array.ext'
      rw [Array.toList_modify, modify_eq_set _ _ _ _ h2]
      have : ({ e0 with key := Xr.wk f v } : MapEntry) = e0 := by rw [← h3]
      rw [this]
      exact set_self _ _ _ h2
    have hgr := Xr.grownBy_set hb (.map es clock)
    obtain ⟨f0, v00, z1, z2, z3, z4, z5⟩ := hL.each j e0 h2
    obtain ⟨rfl, rfl⟩ := Xr.wk_inj (z1.symm.trans h3)
    refine ⟨e0.val, e0.born, setBlock W b (.map es clock), ?_, z5.kept hgr (kept _ _ _ z5), hgr, by unfold setBlock; simp, fun k hk => (z5.lt k hk).1, ?_⟩
    · simp [Instr.mapEntry, run_underlying ht, MapKept.run_getObj_map hb, K.check W false hkey, h1, hj, h3, K.stays W hkey, hsame, MapKept.run_setObj_map _ hb, Result.andThen, setBlock, goInt]
    · intro W2 v' x hg2 ho hat
      have hbe : some b ≠ e0.val.ownBlock := fun hh => by have := (z5.lt b hh.symm).1; omega
      have hw2 : W2.heap[b]? = some (.map es clock) := (hg2.block b (Nat.lt_of_lt_of_le hlt hgr.size) hbe).trans (heap_setBlock_same hb _)
      have hidx : es.findIdx? (fun e => ((e.born : Nat) : Int) == ((e0.born : Nat) : Int)) = some j := by
        rw [findIdx_arr]
        exact findIdx_born s2 h2
      have hg3 := Xr.grownBy_set hw2 (.map (es.modify j (fun e => { e with val := v' })) clock)
      refine ⟨setBlock W2 b (.map (es.modify j (fun e => { e with val := v' })) clock), ?_, ⟨h0, _, _, heap_setBlock_same hw2 _, stamped_modify ⟨s1, s2, s3⟩ j _ (fun _ _ => rfl) (fun _ _ _ => rfl), ?_⟩, hg3⟩
      · simp [Instr.entryStore, MapKept.run_getObj_map hw2, asInt, asIntOf, hidx, MapKept.run_setObj_map _ hw2, Result.andThen, setBlock]
      · have ob : ∀ (u : Value) (n : Nat) (xs : List Value), W2.ownsRow base 48 4 u n xs → u.ownBlock = none ∨ u.ownBlock ≠ some b := by
          intro u n xs hu
          cases hub : u.ownBlock with
          | none => exact Or.inl rfl
          | some k => exact Or.inr (fun e => by cases e; have := (hu.lt b hub).1; omega)
        have htl : (es.modify j (fun e => { e with val := v' })).toList = es.toList.set j { e0 with val := v' } := by rw [Array.toList_modify, modify_eq_set _ _ _ _ h2]
        have cases_ : ∀ (i : Nat) e, (es.modify j (fun e => { e with val := v' })).toList[i]? = some e → (i ≠ j ∧ es.toList[i]? = some e) ∨ (i = j ∧ e = { e0 with val := v' }) := by
          intro i e hi
          rw [htl, List.getElem?_set] at hi
          by_cases hij : j = i
          · rw [if_pos hij, if_pos (List.getElem?_eq_some_iff.1 h2).1] at hi
            cases hi
            exact Or.inr ⟨hij.symm, rfl⟩
          · rw [if_neg hij] at hi
            exact Or.inl ⟨fun hh => hij hh.symm, hi⟩
        have kne : ∀ (i : Nat) e, i ≠ j → es.toList[i]? = some e → e.key ≠ Xr.wk f0 v00 := by
          intro i e hij hi hk
          have n1 : (es.toList.map (·.key))[i]? = some (Xr.wk f0 v00) := by rw [List.getElem?_map, hi]; exact congrArg some hk
          have n2 : (es.toList.map (·.key))[j]? = some (Xr.wk f0 v00) := by rw [List.getElem?_map, h2]; exact congrArg some z1
          obtain ⟨hi1, n3⟩ := List.getElem?_eq_some_iff.1 n1
          obtain ⟨hj1, n4⟩ := List.getElem?_eq_some_iff.1 n2
          have hpw := List.pairwise_iff_getElem.1 s3
          rcases Nat.lt_or_gt_of_ne hij with h8 | h8
          · exact hpw i j hi1 hj1 h8 (n3.trans n4.symm)
          · exact hpw j i hj1 hi1 h8 (n4.trans n3.symm)
        have vb : ∀ (i : Nat) e, i ≠ j → es.toList[i]? = some e → e.val.ownBlock ≠ v'.ownBlock := by
          intro i e hij hi
          rcases hat with h5 | h5
          · rw [h5]; exact hL.apart i j e e0 hi h2 hij
          · rw [h5]
            obtain ⟨_, _, _, _, _, _, e5⟩ := hL.each i e hi
            intro hh
            have h6 := (e5.lt _ hh).2
            have h7 : (setBlock W b (.map es clock)).heap.size = W.heap.size := by unfold setBlock; simp
            omega
        refine ⟨fun i e hi => ?_, fun f' v'' hne => ?_, fun i k a c hi hk hik => ?_⟩
        · rcases cases_ i e hi with ⟨hij, h5⟩ | ⟨_, rfl⟩
          · obtain ⟨f', v'', e1, e2, e3, e4, e5⟩ := hL.each i e h5
            have hnn : ¬ (f' = f0 ∧ v'' = v00) := fun hh => kne i e hij h5 (by rw [e1, hh.1, hh.2])
            have e6 := (e5.kept hgr (kept _ _ _ e5)).kept hg2 (Or.inr (hL.apart i j e e0 h5 h2 hij))
            refine ⟨f', v'', e1, e2, e3, ?_, ?_⟩
            · rw [if_neg hnn]; exact e4
            · rw [if_neg hnn]; exact e6.kept hg3 (ob _ _ _ e6)
          · refine ⟨f0, v00, z1, hf, hv, ?_, ?_⟩
            · rw [if_pos ⟨rfl, rfl⟩, List.length_append]; show 0 < _ + 1; omega
            · rw [if_pos ⟨rfl, rfl⟩, List.length_append, Xr.vlC_snoc]
              exact ho.kept hg3 (ob _ _ _ ho)
        · by_cases hfv : f' = f0 ∧ v'' = v00
          · exact ⟨j, { e0 with val := v' }, by rw [htl, List.getElem?_set, if_pos rfl, if_pos (List.getElem?_eq_some_iff.1 h2).1], by rw [hfv.1, hfv.2]; exact z1⟩
          · rw [if_neg hfv] at hne
            obtain ⟨i, e, hi, hk⟩ := hL.has f' v'' hne
            have hij : i ≠ j := fun hh => by
              subst hh
              rw [h2] at hi
              cases hi
              exact hfv (Xr.wk_inj (hk.symm.trans z1))
            exact ⟨i, e, by rw [htl, List.getElem?_set, if_neg (fun hh => hij hh.symm)]; exact hi, hk⟩
        · rcases cases_ i a hi with ⟨hij, h5⟩ | ⟨h5, rfl⟩
          · rcases cases_ k c hk with ⟨hkj, h6⟩ | ⟨h6, rfl⟩
            · exact hL.apart i k a c h5 h6 hik
            · exact vb i a hij h5
          · rcases cases_ k c hk with ⟨hkj, h6⟩ | ⟨h6, rfl⟩
            · exact fun hh => vb k c hkj h6 hh.symm
            · omega
/-- A row is looked up. -/
theorem Xr.WM.look {W : World} {base b : Nat} {g : Int → Int → List Xr.Vl} (h : Xr.WM W base b g) {f v : Int} (hf : Xr.wf f) (hv : Xr.wf v) :
    ∃ v0 : Value, (Instr.lookup 79 (.map (some b)) (.agg #[.int .i64 f, .int .i64 v]) false).run Try.prog W = .ok v0 W ∧ W.ownsRow base 48 4 v0 (g f v).length (Xr.vlC (g f v)) := by
  obtain ⟨h0, es, clock, hb, hst, hL⟩ := h
  obtain ⟨l, hkey⟩ := Xr.wk_key hf hv
  have K := Try.lawVar
  have ht := Try.underlying79
  show ∃ v0 : Value, (Instr.lookup 79 (.map (some b)) (Xr.wk f v) false).run Try.prog W = _ ∧ _
  rcases K.find W hkey es.toList hL.keys with ⟨h1, h2⟩ | ⟨j, e0, h1, h2, h3⟩
  · have hg0 : g f v = [] := by
      by_cases hg : g f v = []
      · exact hg
      · obtain ⟨i, e, hi, hk⟩ := hL.has f v hg
        exact absurd hk (h2 e (List.mem_of_getElem? hi))
    refine ⟨.slice none 0 0, ?_, by rw [hg0]; exact World.ownsRow_nil _ _ _ _⟩
    simp [Instr.lookup, run_underlying ht, MapKept.run_getObj_map hb, K.check W _ hkey, h1, Result.andThen]
  · obtain ⟨f0, v00, z1, z2, z3, z4, z5⟩ := hL.each j e0 h2
    obtain ⟨rfl, rfl⟩ := Xr.wk_inj (z1.symm.trans h3)
    refine ⟨e0.val, ?_, z5⟩
    simp [Instr.lookup, run_underlying ht, MapKept.run_getObj_map hb, K.check W _ hkey, h1, Result.andThen]
end Go.Proofs.Ytildjlaphkjegaa
namespace Go.Proofs.Ytildjlaphkjegaa
open Go.RowKit Go.Maps
set_option linter.unusedVariables false

theorem Try.infoVl : (Try.prog.info? 48).map (fun i => (i.zero, i.size, i.bytes)) = some (some (.agg #[.int .i64 0, .int .i64 0, .int .i64 0, .int .i64 0]), 4, 32) := by kernel_rfl
/-- The writes of each variable among the first events. -/
def Xr.histTo (main : Int) (l : List Ev) : Nat → Int → Int → List Xr.Vl
  | 0 => fun _ _ => []
  | k + 1 => match l[k]? with
    | none => Xr.histTo main l k
    | some e => if e.n0 = 2 then (fun f u => if f = ((Xr.fnsTo main (l.take k))[e.n1.toNat]?).getD 0 ∧ u = e.n3 then Xr.histTo main l k (((Xr.fnsTo main (l.take k))[e.n1.toNat]?).getD 0) e.n3 ++ [⟨(k : Nat), e.n1, e.n4, e.n5⟩] else Xr.histTo main l k f u) else Xr.histTo main l k
theorem Xr.histTo_len (main : Int) (l : List Ev) : ∀ (k : Nat) (f u : Int), (Xr.histTo main l k f u).length ≤ k
  | 0, f, u => Nat.le_refl _
  | k + 1, f, u => by
    show ((match l[k]? with | none => Xr.histTo main l k | some e => _) f u).length ≤ _
    cases hk : l[k]? with
    | none => exact Nat.le_succ_of_le (Xr.histTo_len main l k f u)
    | some e =>
      dsimp only
      by_cases h2 : e.n0 = 2
      · rw [if_pos h2]
        by_cases h3 : f = ((Xr.fnsTo main (l.take k))[e.n1.toNat]?).getD 0 ∧ u = e.n3
        · rw [if_pos h3, List.length_append]
          exact Nat.succ_le_succ (Xr.histTo_len main l k _ _)
        · rw [if_neg h3]
          exact Nat.le_succ_of_le (Xr.histTo_len main l k f u)
      · rw [if_neg h2]
        exact Nat.le_succ_of_le (Xr.histTo_len main l k f u)
theorem Xr.fnsTo_wf (main : Int) (hm : Xr.wf main) (l : List Ev) (h : ∀ e ∈ l, Xr.evW e) : ∀ z ∈ Xr.fnsTo main l, Xr.wf z := by
  intro z hz
  unfold Xr.fnsTo at hz
  rcases List.mem_cons.1 hz with rfl | hz
  · exact hm
  · obtain ⟨e, he, rfl⟩ := List.mem_map.1 hz
    exact (h e (List.mem_filter.1 he).1).2.2.2.1
theorem Xr.rows_ne {W : World} {b1 b2 : Nat} {t1 t2 : TypeId} {s1 s2 n1 n2 : Nat} {v1 v2 : Value} {x1 x2 : List Value} (h1 : W.ownsRow b1 t1 s1 v1 n1 x1) (h2 : W.ownsRow b2 t2 s2 v2 n2 x2) (ht : t1 ≠ t2) : v2.ownBlock = none ∨ v2.ownBlock ≠ v1.ownBlock := by
  rcases h2.2 with ⟨rfl, _⟩ | ⟨g2, c2, cur2, rfl, _, k2, _⟩
  · exact Or.inl rfl
  · rcases h1.2 with ⟨rfl, _⟩ | ⟨g1, c1, cur1, rfl, _, k1, _⟩
    · exact Or.inr (by simp [Value.ownBlock])
    · refine Or.inr (fun hh => ?_)
      simp [Value.ownBlock] at hh
      subst hh
      rw [k1] at k2
      cases k2
      exact ht rfl
theorem Xr.wp_entry {w : World} {ops : Array Oper} {rest : List Oper} {o : Oper} {ac : Act} {Q : Exit → Act → World → Prop} (hg : o.guard = none) (m x : Operand) (hop : o.op = Op.mapEntry 79 m x) (b base : Nat) (g : Int → Int → List Xr.Vl) (hm : ac.eval m = .map (some b)) (hown : Xr.WM w base b g) (f v : Int) (hf : Xr.wf f) (hv : Xr.wf v) (hx : ac.eval x = .agg #[.int .i64 f, .int .i64 v])
    (hK : ∀ (v0 : Value) (st : Nat) (W1 : World), W1.ownsRow base 48 4 v0 (g f v).length (Xr.vlC (g f v)) → w.grownBy W1 (some b) → W1.heap.size = w.heap.size → (∀ k, v0.ownBlock = some k → base ≤ k) →
      (∀ (W2 : World) (v' : Value) (y : Xr.Vl), W1.grownBy W2 v0.ownBlock → W2.ownsRow base 48 4 v' ((g f v).length + 1) (Xr.vlC (g f v) ++ y.cl) → (v'.ownBlock = v0.ownBlock ∨ v'.ownBlock = some W1.heap.size) →
        ∃ W3, (Instr.entryStore 79 (.map (some b)) (.int .i64 st) v').run Try.prog W2 = .ok () W3 ∧ Xr.WM W3 base b (fun f' u => if f' = f ∧ u = v then g f v ++ [y] else g f' u) ∧ W2.grownBy W3 (some b)) →
      wpList Try.prog ops Q rest (ac.put o.dst (.tuple #[v0, .int .i64 st])) W1) : wpList Try.prog ops Q (o :: rest) ac w := by
  refine wpList_plain hg fun K' hK' => ?_
  obtain ⟨v0, st, W1, hrun, r1, r2, r3, r4, r5⟩ := hown.entry hf hv
  unfold Oper.wp
  simp [execOp, hop, hm, hx, hrun, Result.andThen]
  exact hK' _ _ (hK v0 st W1 r1 r2 r3 r4 r5)
theorem Xr.wp_estore {w : World} {ops : Array Oper} {rest : List Oper} {o : Oper} {ac : Act} {Q : Exit → Act → World → Prop} (hg : o.guard = none) (m s x : Operand) (hop : o.op = Op.entryStore 79 m s x) (b st : Nat) (v' : Value) (W3 : World) (hm : ac.eval m = .map (some b)) (hs : ac.eval s = .int .i64 st) (hx : ac.eval x = v') (hrun : (Instr.entryStore 79 (.map (some b)) (.int .i64 st) v').run Try.prog w = .ok () W3)
    (hK : wpList Try.prog ops Q rest (ac.put o.dst undef) W3) : wpList Try.prog ops Q (o :: rest) ac w := by
  refine wpList_plain hg fun K' hK' => ?_
  unfold Oper.wp
  simp [execOp, hop, hm, hs, hx, hrun, Result.andThen]
  exact hK' _ _ hK

set_option maxRecDepth 100000 in
set_option maxHeartbeats 3200000 in
theorem writesOf_any (qa : Option Addr) (k qc : Nat) (l : List Ev) (ad : Option Addr) (cap : Nat) (w : World) (hk : k ≤ 35184372088832) (hr : Cl.RE w ad l) (hw : ∀ e ∈ l, Xr.evW e) (hl : l.length ≤ 4000) (hN : ∀ (t : Nat) (e : Ev), l[t]? = some e → e.n0 = 2 → ∃ q : Nat, e.n1 = q ∧ q < (Xr.fnsTo (k : Nat) (l.take t)).length) :
    Calls Try.prog 35 #[.agg #[.slice qa (k + 1) qc], .slice ad l.length cap] w fun r w' => ∃ bm, r = .returned (.map (some bm)) ∧ w.heap.size ≤ bm ∧ Xr.WM w' (bm + 1) bm (Xr.histTo (k : Nat) l l.length) ∧ Below w.heap.size w w' := by
  have hb0 := (Below.refl w.heap.size w).alloc (Nat.le_refl _) (Obj.cells #[.slice qa (k + 1) qc] 36)
  have q0 : (w.alloc (Obj.cells #[.slice qa (k + 1) qc] 36)).cell? ⟨w.heap.size, 0, none⟩ = some (.slice qa (k + 1) qc) := by go_simp
  have HR := hide (fun (V : World) (hV : Below w.heap.size w V) => hr.later hV (Nat.le_refl _))
  have HW := hide hw
  have HN := hide hN
  have HB0 := hide hb0
  obtain ⟨i3, hi3, hz3, hz3', hz3''⟩ := info_of Try.infoI3
  have HI := hide hi3
  have HZ0 := hide hz3
  have HZ1 := hide hz3'
  have HZ2 := hide hz3''
  obtain ⟨iv, hiv, hzv, hzv', hzv''⟩ := info_of Try.infoVl
  have HJ := hide hiv
  have HJ0 := hide hzv
  have HJ1 := hide hzv'
  have HJ2 := hide hzv''
  obtain ⟨nl, hnl⟩ : ∃ nl, nl = l.length := ⟨_, rfl⟩
  rw [← hnl] at hl ⊢
  have HNL := hide hnl
  have HMAIN := hide (show Xr.wf (k : Nat) from WalkArith.wf_i64 (by omega))
  clear hr hw hb0 hi3 hz3 hz3' hz3'' hiv hzv hzv' hzv'' hnl hN
  go_enter Try.func35, Try.ntmps35
  have hmk : ∀ V : World, (Instr.makeMap 79 none).run Try.prog V = .ok (.map (some V.heap.size)) (V.alloc (.map #[] 0)) := fun V => run_makeMap _ V
  have hba := (Below.refl _ (w.alloc (Obj.cells #[.slice qa (k + 1) qc] 36))).alloc (Nat.le_refl _) (.map #[] 0)
  have HM1 := hide (Xr.WM.made (w.alloc (Obj.cells #[.slice qa (k + 1) qc] 36)))
  have HB1 := hide ((unhide HB0).trans (hba.mono (unhide HB0).size))
  have q1 := (hba.cell (p := ⟨w.heap.size, 0, none⟩) (World.block_lt_of_cell? _ _ q0)).trans q0
  have HBM := hide (show w.heap.size ≤ (w.alloc (Obj.cells #[.slice qa (k + 1) qc] 36)).heap.size from (unhide HB0).size)
  clear hba q0
  go_wp2_with fail
  clear hmk
  generalize (w.alloc (Obj.cells #[.slice qa (k + 1) qc] 36)).alloc (.map #[] 0) = W1 at *
  rw [show (w.alloc (Obj.cells #[.slice qa (k + 1) qc] 36)).heap.size = w.heap.size + 1 by simp] at HM1 HBM
  generalize w.heap.size + 1 = bm at *
  refine (mainOf_any _ k qc _ hk).mono ?_
  rintro r w3 ⟨rfl, hb3⟩
  have hal := (Below.refl w3.heap.size w3).alloc (Nat.le_refl _) (Obj.cells #[.int .i64 (k : Nat)] 3)
  have HM3 := hide (((unhide HM1).below hb3).below hal)
  have HB3 := hide (((unhide HB1).trans (hb3.mono (unhide HB1).size)).trans (hal.mono ((unhide HB1).trans (hb3.mono (unhide HB1).size)).size))
  have HS3 := hide ((unhide HM1).below hb3).lt
  have HROW := hide (show (w3.alloc (Obj.cells #[.int .i64 (k : Nat)] 3)).ownsRow (bm + 1) 3 1 (.slice (some ⟨w3.heap.size, 0, none⟩) 1 1) 1 ((Xr.fnsTo (k : Nat) (l.take 0)).map (Value.int .i64)) from ⟨rfl, .inr ⟨w3.heap.size, 1, _, rfl, unhide HS3, heap_alloc_new _ _, Nat.le_refl _, by unfold maxLen; omega, rfl, rfl⟩⟩)
  clear hb3 hal q1
  go_wp2_with fail
  generalize w3.alloc (Obj.cells #[.int .i64 (k : Nat)] 3) = W4 at *
  generalize w3.heap.size = b4 at *
  go_loopw [6, 16] (fun sv iv wr => ∃ (i nf c : Nat) (a : Option Addr), i ≤ nl ∧ iv = .int .i64 i ∧ sv = .slice a nf c ∧ nf ≤ i + 1 ∧ Hid (nf = (Xr.fnsTo (k : Nat) (l.take i)).length) ∧ wr.ownsRow (bm + 1) 3 1 (.slice a nf c) nf ((Xr.fnsTo (k : Nat) (l.take i)).map (Value.int .i64)) ∧ Xr.WM wr (bm + 1) bm (Xr.histTo (k : Nat) l i) ∧ Below w.heap.size w wr) (fun _ iv _ => nl - (intOf iv).toNat)
  case atStart => exact ⟨0, 1, 1, some ⟨b4, 0, none⟩, Nat.zero_le _, rfl, rfl, by omega, by show _ = _; rfl, unhide HROW, unhide HM3, unhide HB3⟩
  case round =>
    obtain ⟨i, nf, c, a, hi, rfl, rfl, hnf, hhid, how, hem, hbe⟩ := hrel
    have HNF := hide (unhide hhid)
    clear hhid
    by_cases hlt : i < nl
    · have hlt2 : i < l.length := by have := unhide HNL; omega
      have hy := List.getElem?_eq_getElem hlt2
      obtain ⟨b, o, had, hb, p0, p1, p2, p3, p4, p5⟩ := ((unhide HR) wr hbe).at_ i _ hy
      have HWE := hide ((unhide HW) l[i] (List.getElem_mem hlt2))
      have HNE := hide (fun (h2 : l[i].n0 = 2) => (unhide HN) i l[i] hy h2)
      have HST := hide (show Xr.histTo (k : Nat) l (i + 1) = if l[i].n0 = 2 then (fun f u => if f = ((Xr.fnsTo (k : Nat) (l.take i))[l[i].n1.toNat]?).getD 0 ∧ u = l[i].n3 then Xr.histTo (k : Nat) l i (((Xr.fnsTo (k : Nat) (l.take i))[l[i].n1.toNat]?).getD 0) l[i].n3 ++ [⟨(i : Nat), l[i].n1, l[i].n4, l[i].n5⟩] else Xr.histTo (k : Nat) l i f u) else Xr.histTo (k : Nat) l i by
        show (match l[i]? with | none => _ | some e => _) = _
        rw [hy])
      have HTK := hide (show l.take (i + 1) = l.take i ++ [l[i]] from List.take_succ_eq_append_getElem hlt2)
      have HFW := hide (Xr.fnsTo_wf (k : Nat) (unhide HMAIN) (l.take i) (fun e he => (unhide HW) e (List.mem_of_mem_take he)))
      generalize l[i] = e at *
      have hal := (Below.refl wr.heap.size wr).alloc (Nat.le_refl _) (Obj.cells #[.int .i64 e.n0, .int .i64 e.n1, .int .i64 e.n2, .int .i64 e.n3, .int .i64 e.n4, .int .i64 e.n5] 100)
      have HOW := hide (Pg.ow_below how hal)
      have HEM := hide (hem.below hal)
      have HBA := hide (hbe.trans (hal.mono hbe.size))
      have had' : ad = some ⟨b, o, none⟩ := had
      subst had'
      have hi0 : (0 : Int) ≤ (i : Int) := by omega
      have hi1 : (i : Int) < (nl : Int) := by omega
      have x0 : (wr.alloc (Obj.cells #[.int .i64 e.n0, .int .i64 e.n1, .int .i64 e.n2, .int .i64 e.n3, .int .i64 e.n4, .int .i64 e.n5] 100)).cell? ⟨wr.heap.size, 0, none⟩ = some (.int .i64 e.n0) := by go_simp
      have x1 : (wr.alloc (Obj.cells #[.int .i64 e.n0, .int .i64 e.n1, .int .i64 e.n2, .int .i64 e.n3, .int .i64 e.n4, .int .i64 e.n5] 100)).cell? ⟨wr.heap.size, 1, none⟩ = some (.int .i64 e.n1) := by go_simp
      have x3 : (wr.alloc (Obj.cells #[.int .i64 e.n0, .int .i64 e.n1, .int .i64 e.n2, .int .i64 e.n3, .int .i64 e.n4, .int .i64 e.n5] 100)).cell? ⟨wr.heap.size, 3, none⟩ = some (.int .i64 e.n3) := by go_simp
      have x4 : (wr.alloc (Obj.cells #[.int .i64 e.n0, .int .i64 e.n1, .int .i64 e.n2, .int .i64 e.n3, .int .i64 e.n4, .int .i64 e.n5] 100)).cell? ⟨wr.heap.size, 4, none⟩ = some (.int .i64 e.n4) := by go_simp
      have x5 : (wr.alloc (Obj.cells #[.int .i64 e.n0, .int .i64 e.n1, .int .i64 e.n2, .int .i64 e.n3, .int .i64 e.n4, .int .i64 e.n5] 100)).cell? ⟨wr.heap.size, 5, none⟩ = some (.int .i64 e.n5) := by go_simp
      clear hy hb had hlt2 hal hem hbe how
      go_upto_region 6 with fail
      generalize wr.alloc (Obj.cells #[.int .i64 e.n0, .int .i64 e.n1, .int .i64 e.n2, .int .i64 e.n3, .int .i64 e.n4, .int .i64 e.n5] 100) = W2 at *
      generalize wr.heap.size = bx at *
      clear p0 p1 p2 p3 p4 p5
      obtain ⟨FS, hFS⟩ : ∃ FS, FS = Xr.fnsTo (k : Nat) (l.take i) := ⟨_, rfl⟩
      rw [← hFS] at HOW HNF HST HNE HFW
      have HFS := hide hFS
      clear hFS
      by_cases k5 : e.n0 = 5
      · have b5' : (e.n0 == 5) = true := by simp [k5]
        have HRP := hide (show Xr.histTo (k : Nat) l (i + 1) = Xr.histTo (k : Nat) l i by rw [unhide HST, if_neg (by omega)])
        have HRF := hide (show Xr.fnsTo (k : Nat) (l.take (i + 1)) = FS ++ [e.n3] by rw [unhide HTK, Xr.fnsTo_yes _ _ k5, ← unhide HFS])
        clear k5
        obtain ⟨XS, hXS⟩ : ∃ XS, XS = FS.map (Value.int .i64) := ⟨_, rfl⟩
        rw [← hXS] at HOW
        have HXS := hide hXS
        clear hXS
        have HBK := hide (heap_alloc_new W2 (Obj.cells #[.int .i64 e.n3] 3))
        have HBD := hide (show Below W2.heap.size W2 (W2.alloc (Obj.cells #[.int .i64 e.n3] 3)) from (Below.refl _ _).alloc (Nat.le_refl _) _)
        have HLT := hide (show ∀ q, (Value.slice a nf c).ownBlock = some q → bm + 1 ≤ q from fun q hq => ((unhide HOW).lt q hq).1)
        have hs7 := (unhide HEM).lt
        go_wp2_with (at_builtin; refine wpList_append_lies _ (by rfl) _ _ _ (by rfl) (bm + 1) 3 i3 _ 1 8 Try.underlying46 (unhide HI) (unhide HZ0) (unhide HZ1) (unhide HZ2) rfl (by omega) (.slice a nf c) nf XS (by rfl) (Pg.ow_below (unhide HOW) (unhide HBD)) ⟨W2.heap.size, 0, none⟩ 1 1 [.int .i64 e.n3] (by rfl) (by rfl) (World.news_of_block (unhide HBK)) (by simp [Value.oneCell']) (by omega) (by unfold maxLen; omega) (by omega) (by simp; omega) (W2.heap.size + 1) (by simp) ?_; intro gA cA w8 hoA hgA hatA hltA; have HOA := hide hoA; have HGA := hide hgA; clear hoA hgA hatA hltA)
        have HE8 := hide (((unhide HEM).below (unhide HBD)).grown (unhide HGA) (fun e => by have := (unhide HLT) bm e.symm; omega) (fun v n xs ho => Xr.rows_ne (Pg.ow_below (unhide HOW) (unhide HBD)) ho (by decide)))
        exact ⟨⟨i + 1, nf + 1, cA, some ⟨gA, 0, none⟩, by omega, by go_num, rfl, by omega, (by show _ = _; rw [unhide HRF, List.length_append, ← unhide HNF]; rfl), (by rw [unhide HRF, List.map_append, ← unhide HXS]; exact unhide HOA), (by rw [unhide HRP]; exact unhide HE8), Below.grown ((unhide HBA).trans ((unhide HBD).mono (unhide HBA).size)) (unhide HGA) (Nat.le_trans (unhide HBA).size (unhide HBD).size) (fun q hq => Nat.le_trans (Nat.le_succ_of_le (unhide HBM)) ((unhide HLT) q hq))⟩, by simp [intOf]; omega⟩
      · have b5' : (e.n0 == 5) = false := by simpa using k5
        have HRF := hide (show Xr.fnsTo (k : Nat) (l.take (i + 1)) = FS by rw [unhide HTK, Xr.fnsTo_no _ _ k5, ← unhide HFS])
        by_cases k2 : e.n0 = 2
        · have b2' : (e.n0 == 2) = true := by simp [k2]
          obtain ⟨q, hq1, hq2⟩ := (unhide HNE) k2
          have hq3 : q < nf := by have := unhide HNF; omega
          have hgq := List.getElem?_eq_getElem hq2
          have HRP := hide (show Xr.histTo (k : Nat) l (i + 1) = fun f u => if f = FS[q] ∧ u = e.n3 then Xr.histTo (k : Nat) l i FS[q] e.n3 ++ [⟨(i : Nat), (q : Nat), e.n4, e.n5⟩] else Xr.histTo (k : Nat) l i f u by
            rw [unhide HST, if_pos k2, hq1, Int.toNat_natCast, hgq]
            rfl)
          obtain ⟨gF, cF, hform, _, hgFl⟩ := (unhide HOW).form (by omega)
          have ha : a = some ⟨gF, 0, none⟩ := by cases hform; rfl
          subst ha
          have y0 := (unhide HOW).cells (g := gF) rfl q (.int .i64 FS[q]) (by rw [List.getElem?_map, hgq]; rfl)
          rw [Xr.add_at] at y0
          have HWF := hide ((unhide HFW) FS[q] (List.getElem_mem hq2))
          generalize FS[q] = fq at *
          rw [hq1] at x1
          have s0 : (0 : Int) ≤ (q : Int) := by omega
          have s1 : (q : Int) < (nf : Int) := by omega
          have HWV := hide (show Xr.wf e.n3 from (unhide HWE).2.2.2.1)
          clear k5 k2 hform hgq
          go_upto_region 10 with fail
          have hzb := (Below.refl W2.heap.size W2).alloc (Nat.le_refl _) (Obj.cells #[.int .i64 0, .int .i64 0] 82)
          have z1 := (hzb.cell (p := ⟨bx, 1, none⟩) (World.block_lt_of_cell? _ _ x1)).trans x1
          have z3 := (hzb.cell (p := ⟨bx, 3, none⟩) (World.block_lt_of_cell? _ _ x3)).trans x3
          have zy := (hzb.cell (p := ⟨gF, q, none⟩) (World.block_lt_of_cell? _ _ y0)).trans y0
          have HZB := hide hzb
          clear hzb
          go_cut [9] (fun v V => ∃ bv, v = .pointer (some ⟨bv, 0, none⟩) ∧ V.cell? ⟨bv, 0, none⟩ = some (.int .i64 fq) ∧ V.cell? ⟨bv, 1, none⟩ = some (.int .i64 e.n3) ∧ Below W2.heap.size W2 V)
          case first =>
            go_region_law (fail)
            all_goals
              go_wp2_with fail
              go_meet
              case rel => exact ⟨W2.heap.size, rfl, by go_simp, by go_simp, ((Below.refl _ _).alloc (Nat.le_refl _) _).drew⟩
          case rest =>
            rename World => V
            obtain ⟨bv, rfl, v0, v1, hbx⟩ := hcut
            have r1 := (hbx.cell (p := ⟨bx, 1, none⟩) (World.block_lt_of_cell? _ _ x1)).trans x1
            have r4 := (hbx.cell (p := ⟨bx, 4, none⟩) (World.block_lt_of_cell? _ _ x4)).trans x4
            have r5 := (hbx.cell (p := ⟨bx, 5, none⟩) (World.block_lt_of_cell? _ _ x5)).trans x5
            have HOV := hide (Pg.ow_below (unhide HOW) hbx)
            have HEV := hide ((unhide HEM).below hbx)
            have HBV := hide ((unhide HBA).trans (hbx.mono (unhide HBA).size))
            have hsv := (unhide HEV).lt
            have HBK := hide (heap_alloc_new V (Obj.cells #[.int .i64 (i : Nat), .int .i64 (q : Nat), .int .i64 e.n4, .int .i64 e.n5] 48))
            have HBD := hide (show Below V.heap.size V (V.alloc (Obj.cells #[.int .i64 (i : Nat), .int .i64 (q : Nat), .int .i64 e.n4, .int .i64 e.n5] 48)) from (Below.refl _ _).alloc (Nat.le_refl _) _)
            have HEW := hide ((unhide HEV).below (unhide HBD))
            have HOX := hide (Pg.ow_below (unhide HOV) (unhide HBD))
            have HBX := hide ((unhide HBV).trans ((unhide HBD).mono (unhide HBV).size))
            have hsx : V.heap.size < (V.alloc (Obj.cells #[.int .i64 (i : Nat), .int .i64 (q : Nat), .int .i64 e.n4, .int .i64 e.n5] 48)).heap.size := by simp
            have HLN := hide (Xr.histTo_len (k : Nat) l i fq e.n3)
            clear hbx x0 x1 x3 x4 x5 y0 z1 z3 zy
            have tok1 : True := trivial
            have tok2 : True := trivial
            have tok3 : True := trivial
            go_wp2_with (first
              | (refine Xr.wp_entry rfl _ _ rfl bm (bm + 1) (Xr.histTo (k : Nat) l i) rfl (unhide HEW) fq e.n3 (unhide HWF) (unhide HWV) rfl ?_; have _t := tok1; clear tok1 _t; intro v0' st W5 ho5 hg5 hs5 hb5 hback; have HO5 := hide ho5; have HG5 := hide hg5; have HS5 := hide hs5; have HB5 := hide hb5; have HBACK := hide hback; clear ho5 hg5 hs5 hb5 hback)
              | (at_builtin; have _t := tok2; clear tok2 _t; refine wpList_append_own_at _ rfl _ _ 41 rfl (bm + 1) 48 iv _ 4 32 Try.underlying41 (unhide HJ) (unhide HJ0) (unhide HJ1) (unhide HJ2) rfl (by decide) v0' _ _ rfl (unhide HO5) ⟨V.heap.size, 0, none⟩ 1 1 [.int .i64 (i : Nat), .int .i64 (q : Nat), .int .i64 e.n4, .int .i64 e.n5] rfl rfl (World.news_of_block (((unhide HG5).block V.heap.size (by simp) (fun e => by cases e; omega)).trans (unhide HBK))) (by simp [Value.oneCell']) (by have := unhide HLN; unfold maxLen; omega) (by have := unhide HLN; omega) (by rw [unhide HS5]; omega) ?_; intro v' w6 hown' hgrow hnil hloc; obtain ⟨W7, hrun7, hwm7, hg7⟩ := (unhide HBACK) w6 v' ⟨(i : Nat), (q : Nat), e.n4, e.n5⟩ hgrow hown' hloc; have HRUN := hide hrun7; have HWM := hide hwm7; have HG7 := hide hg7; have HG6 := hide hgrow; clear hrun7 hwm7 hg7 hgrow hown' hnil hloc)
              | (have _t := tok3; refine Xr.wp_estore rfl _ _ _ rfl bm st v' W7 rfl rfl rfl (unhide HRUN) ?_; clear tok3 _t))
            have r5 := (unhide HOX).kept (unhide HG5) (Or.inr (fun h => by have := ((unhide HOX).lt bm h).1; omega))
            have r6 := r5.kept (unhide HG6) (Xr.rows_ne (unhide HO5) r5 (by decide))
            have r7 := r6.kept (unhide HG7) (Or.inr (fun h => by have := (r6.lt bm h).1; omega))
            have g5 := Below.grown (unhide HBX) (unhide HG5) (unhide HBX).size (fun q hq => by cases hq; exact unhide HBM)
            have g6 := Below.grown g5 (unhide HG6) g5.size (fun q hq => Nat.le_trans (Nat.le_succ_of_le (unhide HBM)) ((unhide HB5) q hq))
            have g7 := Below.grown g6 (unhide HG7) g6.size (fun q hq => by cases hq; exact unhide HBM)
            exact ⟨⟨i + 1, nf, c, some ⟨gF, 0, none⟩, by omega, by go_num, rfl, by omega, by show _ = _; rw [unhide HRF]; exact unhide HNF, by rw [unhide HRF]; exact r7, by rw [unhide HRP]; exact unhide HWM, g7⟩, by simp [intOf]; omega⟩
        · have b2' : (e.n0 == 2) = false := by simpa using k2
          have HRP := hide (show Xr.histTo (k : Nat) l (i + 1) = Xr.histTo (k : Nat) l i by rw [unhide HST, if_neg k2])
          clear k5 k2
          go_wp2_with fail
          exact ⟨⟨i + 1, nf, c, a, by omega, by go_num, rfl, by omega, by show _ = _; rw [unhide HRF]; exact unhide HNF, by rw [unhide HRF]; exact unhide HOW, by rw [unhide HRP]; exact unhide HEM, unhide HBA⟩, by simp [intOf]; omega⟩
    · have hie : i = nl := by omega
      subst hie
      have HO := hide hem
      have HB := hide hbe
      clear how hem hbe
      go_wp2_with fail
      go_ret
      exact ⟨bm, rfl, unhide HBM, unhide HO, unhide HB⟩
end Go.Proofs.Ytildjlaphkjegaa
namespace Go.Proofs.Ytildjlaphkjegaa
open Go.RowKit Go.Maps
set_option linter.unusedVariables false

/-- Is there such a variable? -/
def Xr.hasV {m n : Nat} (p : List (Pg.FT m n)) (fn v : Int) : Bool := decide (0 ≤ fn) && decide (fn < (p.length : Int)) && decide (0 ≤ v) && decide (v < ((Xr.szOf p fn).length : Int))
/-- The errno of History. -/
def Xr.hiE {m n : Nat} (p : List (Pg.FT m n)) (l : List Ev) (fn v : Int) : Nat := if Xr.stE p l = 0 then (if Xr.hasV p fn v = true then 0 else 5) else Xr.stE p l
/-- The writes of a variable. -/
def Xr.hiAll {m n : Nat} (p : List (Pg.FT m n)) (l : List Ev) (fn v : Int) : List Xr.Vl := Xr.histTo ((p.length - 1 : Nat) : Int) l l.length fn v
/-- What History answers. -/
structure Xr.HiIs {m n : Nat} (p : List (Pg.FT m n)) (l : List Ev) (fn v : Int) (w w' : World) (a : Option Addr) (nf c : Nat) : Prop where
  no : Xr.hiE p l fn v ≠ 0 → nf = 0
  yes : Xr.hiE p l fn v = 0 → nf = (Xr.hiAll p l fn v).length ∧ w'.ownsRow w.heap.size 48 4 (.slice a nf c) nf (Xr.vlC (Xr.hiAll p l fn v))
theorem Xr.row_slice {W : World} {base : Nat} {t : TypeId} {s k : Nat} {v : Value} {xs : List Value} (h : W.ownsRow base t s v k xs) : ∃ a c, v = .slice a k c := by
  rcases h.2 with ⟨rfl, hk⟩ | ⟨g, cap, cur, rfl, _⟩
  · exact ⟨none, 0, by rw [hk]⟩
  · exact ⟨_, _, rfl⟩

set_option maxRecDepth 100000 in
set_option maxHeartbeats 1600000 in
theorem History_any {m n : Nat} (qa : Option Addr) (ql qc : Nat) (p : List (Pg.FT m n)) (l : List Ev) (ad : Option Addr) (cap : Nat) (fn v : Int) (w : World) (hp : Pg.RP w m n ⟨qa, ql, qc⟩ p) (hpf : Pg.parFit p) (hr : Cl.RE w ad l) (hl : l.length ≤ 35184372088832) (hw : ∀ e ∈ l, Xr.evW e) :
    Calls Try.prog 12 #[.agg #[.slice qa ql qc], .slice ad l.length cap, .int .i64 fn, .int .i64 v] w fun r w' => ∃ a nf c, r = .returned (.tuple #[.slice a nf c, .int .i64 (Xr.hiE p l fn v : Nat)]) ∧ Xr.HiIs p l fn v w w' a nf c ∧ Below w.heap.size w w' := by
  have hb0 := (Below.refl w.heap.size w).alloc (Nat.le_refl _) (Obj.cells #[.slice qa ql qc] 36)
  have q0 : (w.alloc (Obj.cells #[.slice qa ql qc] 36)).cell? ⟨w.heap.size, 0, none⟩ = some (.slice qa ql qc) := by go_simp
  have HWI := hide (stWrong_any qa ql qc p l ad cap _ (Pg.RP.later hp hb0 (Nat.le_refl _)) hpf (hr.later hb0 (Nat.le_refl _)) hl)
  have HRP := hide (fun (V : World) (hV : Below w.heap.size w V) => Pg.RP.later hp hV (Nat.le_refl _))
  have hpl : ql = p.length := hp.len
  have hqf : ql ≤ 35184372088832 := by have h2 : p.length ≤ 35184372088832 := hp.few; omega
  have HSA := hide (fun (V : World) (hV : Below w.heap.size w V) (h0 : Xr.stE p l = 0) (hf : Xr.wf fn) (hv : Xr.wf v) => show Calls Try.prog 35 #[.agg #[.slice qa ql qc], .slice ad l.length cap] V fun r w' => ∃ bm a c, r = .returned (.map (some bm)) ∧ (Instr.lookup 79 (.map (some bm)) (.agg #[.int .i64 fn, .int .i64 v]) false).run Try.prog w' = .ok (.slice a (Xr.hiAll p l fn v).length c) w' ∧ w'.ownsRow V.heap.size 48 4 (.slice a (Xr.hiAll p l fn v).length c) (Xr.hiAll p l fn v).length (Xr.vlC (Xr.hiAll p l fn v)) ∧ Below V.heap.size V w' from by
    have hok := Xr.StOk.of h0
    obtain ⟨x, hx, _⟩ := hok.last
    have hpos : 0 < p.length := by have := (List.getElem?_eq_some_iff.1 hx).1; omega
    have h1 := writesOf_any qa (ql - 1) qc l ad cap V (by omega) (hr.later hV (Nat.le_refl _)) hw hok.few (fun t e he h2 => by rw [hpl]; exact hok.wrote_in he h2)
    rw [show ql - 1 + 1 = ql by omega] at h1
    refine h1.mono ?_
    rintro r w' ⟨bm, rfl, e1, e2, e3⟩
    rw [hpl] at e2
    obtain ⟨v0, e4, e5⟩ := e2.look hf hv
    obtain ⟨a, c, rfl⟩ := Xr.row_slice e5
    exact ⟨bm, a, c, rfl, e4, Pg.ow_base e5 (by omega), e3⟩)
  have HB0 := hide hb0
  have HHE := hide (show Xr.hiE p l fn v = if Xr.stE p l = 0 then (if Xr.hasV p fn v = true then 0 else 5) else Xr.stE p l from rfl)
  have HHV := hide (show Xr.hasV p fn v = (decide (0 ≤ fn) && decide (fn < (p.length : Int)) && decide (0 ≤ v) && decide (v < ((Xr.szOf p fn).length : Int))) from rfl)
  have HNO := hide (fun (V : World) (h : Xr.hiE p l fn v ≠ 0) => show Xr.HiIs p l fn v w V none 0 0 from ⟨fun _ => rfl, fun h2 => absurd h2 h⟩)
  have HYES := hide (fun (V V' : World) (a : Option Addr) (c : Nat) (hV : Below w.heap.size w V) (h0 : Xr.hiE p l fn v = 0) (h : V'.ownsRow V.heap.size 48 4 (.slice a (Xr.hiAll p l fn v).length c) (Xr.hiAll p l fn v).length (Xr.vlC (Xr.hiAll p l fn v))) => show Xr.HiIs p l fn v w V' a (Xr.hiAll p l fn v).length c from ⟨fun h1 => absurd h0 h1, fun h0 => ⟨rfl, Pg.ow_base h hV.size⟩⟩)
  generalize Xr.hiE p l fn v = HE at *
  generalize Xr.hiAll p l fn v = HL at *
  generalize HL.length = hn at *
  generalize Xr.stE p l = SE at *
  obtain ⟨nl, hnl⟩ : ∃ nl, nl = l.length := ⟨_, rfl⟩
  rw [← hnl] at hl HWI HSA ⊢
  have HPL := hide hpl
  clear hp hpf hr hb0 hnl hw hpl
  go_enter Try.func12, Try.ntmps12
  go_wp2_with fail
  generalize w.alloc (Obj.cells #[.slice qa ql qc] 36) = W0 at *
  refine (unhide HWI).mono ?_
  rintro r w1 ⟨rfl, hb1⟩
  have q1 := (hb1.cell (p := ⟨w.heap.size, 0, none⟩) (World.block_lt_of_cell? _ _ q0)).trans q0
  have hlt1 := World.block_lt_of_cell? _ _ q1
  have HB1 := hide ((unhide HB0).trans (hb1.mono (unhide HB0).size))
  clear hb1 q0
  by_cases hS : SE = 0
  case neg =>
    have HF := hide (show HE = SE by rw [unhide HHE, if_neg hS])
    have HN := hide (show SE ≠ 0 from hS)
    have bS : (((SE : Nat) : Int) != 0) = true := by simp; exact hS
    clear hS
    go_wp2_with fail
    refine bodyPost_ret (v := .tuple #[.slice none 0 0, .int .i64 (SE : Nat)]) (by simp [results, Try.results12, go_sem]) rfl ?_
    exact ⟨none, 0, 0, by rw [unhide HF], (unhide HNO) _ (by rw [unhide HF]; exact unhide HN), unhide HB1⟩
  case pos =>
    have HS2 := hide (fun hf hv => (unhide HSA) w1 (unhide HB1) hS hf hv)
    have HHE2 := hide (show HE = if Xr.hasV p fn v = true then 0 else 5 by rw [unhide HHE, if_pos hS])
    subst hS
    have HBAD := hide (fun (h : Xr.hasV p fn v = false) => show HE = 5 by rw [unhide HHE2, h]; rfl)
    by_cases f0 : fn < 0
    · have HF := hide ((unhide HBAD) (by rw [unhide HHV]; simp; omega))
      go_wp2_with fail
      refine bodyPost_ret (v := .tuple #[.slice none 0 0, .int .i64 5]) (by simp [results, Try.results12, go_sem]) rfl ?_
      exact ⟨none, 0, 0, by rw [unhide HF]; rfl, (unhide HNO) _ (by rw [unhide HF]; decide), unhide HB1⟩
    obtain ⟨q, rfl⟩ : ∃ q : Nat, fn = q := ⟨fn.toNat, by omega⟩
    by_cases f1 : q < ql
    case neg =>
      have HF := hide ((unhide HBAD) (by rw [unhide HHV]; have := unhide HPL; simp; omega))
      have g1 : (ql : Int) ≤ (q : Int) := by omega
      go_wp2_with fail
      refine bodyPost_ret (v := .tuple #[.slice none 0 0, .int .i64 5]) (by simp [results, Try.results12, go_sem]) rfl ?_
      exact ⟨none, 0, 0, by rw [unhide HF]; rfl, (unhide HNO) _ (by rw [unhide HF]; decide), unhide HB1⟩
    case pos =>
      have g1 : ¬ (ql : Int) ≤ (q : Int) := by omega
      have g2 : (0 : Int) ≤ (q : Int) := by omega
      have g3 : (q : Int) < (ql : Int) := by omega
      by_cases v0 : v < 0
      · have HF := hide ((unhide HBAD) (by rw [unhide HHV]; simp; omega))
        go_wp2_with fail
        refine bodyPost_ret (v := .tuple #[.slice none 0 0, .int .i64 5]) (by simp [results, Try.results12, go_sem]) rfl ?_
        exact ⟨none, 0, 0, by rw [unhide HF]; rfl, (unhide HNO) _ (by rw [unhide HF]; decide), unhide HB1⟩
      obtain ⟨u, rfl⟩ : ∃ u : Nat, v = u := ⟨v.toNat, by omega⟩
      have hqp : q < p.length := by have := unhide HPL; omega
      have hpx := List.getElem?_eq_getElem hqp
      have HSZ := hide (show Xr.szOf p (q : Nat) = p[q].sizes by unfold Xr.szOf; rw [Int.toNat_natCast, hpx]; rfl)
      obtain ⟨b, o, ⟨fp, ⟨sa, sn, sc⟩, fc, fr⟩, hda, hbl, hLF, hRF⟩ := ((unhide HRP) w1 (unhide HB1)).at_ q _ hpx
      have c1 := hLF.c1
      have hda' : qa = some ⟨b, o, none⟩ := hda
      subst hda'
      have hsn : sn = p[q].sizes.length := hRF.sizes.len
      have hsf : sn ≤ 35184372088832 := by have := hRF.sizes.few; omega
      have HSN := hide (show (Xr.szOf p (q : Nat)).length = sn by rw [unhide HSZ, ← hsn])
      dsimp only at c1
      clear hpx hda hLF hRF hsn f0 v0
      by_cases f2 : u < sn
      case neg =>
        have HF := hide ((unhide HBAD) (by rw [unhide HHV, unhide HSN]; simp; omega))
        have g4 : (sn : Int) ≤ (u : Int) := by omega
        go_wp2_with fail
        refine bodyPost_ret (v := .tuple #[.slice none 0 0, .int .i64 5]) (by simp [results, Try.results12, go_sem]) rfl ?_
        exact ⟨none, 0, 0, by rw [unhide HF]; rfl, (unhide HNO) _ (by rw [unhide HF]; decide), unhide HB1⟩
      case pos =>
        have HF := hide (show HE = 0 by rw [unhide HHE2, unhide HHV, unhide HSN, ← unhide HPL]; simp [f1, f2])
        have g4 : ¬ (sn : Int) ≤ (u : Int) := by omega
        have g5 : ¬ ql ≤ q := by omega
        have g6 : ¬ sn ≤ u := by omega
        have g7 : decide (ql ≤ q) = false := decide_eq_false g5
        have g8 : decide (sn ≤ u) = false := decide_eq_false g6
        have HWO := hide ((unhide HS2) (WalkArith.wf_i64 (by omega)) (WalkArith.wf_i64 (by omega)))
        go_wp2_with fail
        refine (unhide HWO).mono ?_
        rintro r w2 ⟨bm, a, c, rfl, hlk, hown, hb2⟩
        have HR := hide ((unhide HYES) w1 w2 a c (unhide HB1) (unhide HF) hown)
        have HB2 := hide ((unhide HB1).trans (hb2.mono (unhide HB1).size))
        clear hown hb2
        go_wp2_with fail
        refine bodyPost_ret (v := .tuple #[.slice a hn c, .int .i64 0]) (by simp [results, Try.results12, go_sem]) rfl ?_
        exact ⟨a, hn, c, by rw [unhide HF]; rfl, unhide HR, unhide HB2⟩
end Go.Proofs.Ytildjlaphkjegaa
