/-
  Several texts in one: XEv, XEq, XInp. By the verifier.
-/
import Derived.Test.YtildjlaphkjegaaXRu
import Derived.BigQuiet
namespace Go.Proofs.Ytildjlaphkjegaa
open Go.RowKit
set_option linter.unusedVariables false

/-- Events of a kind. -/
def Xr.that (k : Int) (l : List Ev) : List Ev := l.filter fun e => e.n0 == k
theorem Xr.that_step {k : Int} {l : List Ev} {i : Nat} {e : Ev} (h : l[i]? = some e) : Xr.that k (l.take (i + 1)) = if e.n0 == k then Xr.that k (l.take i) ++ [e] else Xr.that k (l.take i) := by
  obtain ⟨hlt, he⟩ := List.getElem?_eq_some_iff.1 h
  unfold Xr.that
  rw [List.take_succ_eq_append_getElem hlt, he, List.filter_append]
  by_cases hk : e.n0 == k
  · rw [if_pos hk]; simp [hk]
  · rw [if_neg hk]; simp [hk]
theorem Xr.that_le (k : Int) (l : List Ev) : (Xr.that k l).length ≤ l.length := List.length_filter_le _ _
theorem Xr.re_own {W : World} {B n c : Nat} {a : Option Addr} {l : List Ev} (hl : l.length = n) (h : W.ownsRow B 100 6 (.slice a n c) n (Xr.evC l)) : Cl.RE W a l := by
  refine ⟨fun i x hi => ?_⟩
  obtain ⟨g, cap, hv, _, _⟩ := h.form (by have := (List.getElem?_eq_some_iff.1 hi).1; omega)
  cases hv
  have cc : ∀ j v, x.cells[j]? = some v → W.cell? ⟨g, 0 + i * 6 + j, none⟩ = some v := fun j v hv => by
    have := h.cells (g := g) rfl (i * 6 + j) v (Xr.evC_at l i x j v hi hv)
    rw [Xr.add_at] at this
    rw [Nat.zero_add]
    exact this
  have c0 := cc 0 _ rfl
  exact ⟨g, 0, rfl, World.block_lt_of_cell? W _ c0, by simpa using c0, cc 1 _ rfl, cc 2 _ rfl, cc 3 _ rfl, cc 4 _ rfl, cc 5 _ rfl⟩

set_option maxHeartbeats 400000 in
theorem stepsIs_any (e : Ev) (W : World) : Calls Try.prog 49 #[.agg #[.int .i64 e.n0, .int .i64 e.n1, .int .i64 e.n2, .int .i64 e.n3, .int .i64 e.n4, .int .i64 e.n5]] W fun r w' => r = .returned (.bool (e.n0 == 1)) ∧ Below W.heap.size W w' := by
  have HB := hide ((Below.refl W.heap.size W).alloc (Nat.le_refl _) (Obj.cells #[.int .i64 e.n0, .int .i64 e.n1, .int .i64 e.n2, .int .i64 e.n3, .int .i64 e.n4, .int .i64 e.n5] 100))
  go_enter Try.func49, Try.ntmps49
  go_wp2_with fail
  go_ret
  exact ⟨rfl, unhide HB⟩

set_option maxRecDepth 100000 in
set_option maxHeartbeats 1600000 in
theorem steps_any (l : List Ev) (ad : Option Addr) (cap : Nat) (w : World) (hr : Cl.RE w ad l) (hl : l.length ≤ 4000) :
    Calls Try.prog 48 #[.slice ad l.length cap, .func (.func 49) #[] #[]] w fun r w' => ∃ a c, r = .returned (.slice a (Xr.that 1 l).length c) ∧ w'.ownsRow w.heap.size 100 6 (.slice a (Xr.that 1 l).length c) (Xr.that 1 l).length (Xr.evC (Xr.that 1 l)) ∧ Below w.heap.size w w' := by
  obtain ⟨i0, hi0, hz0, hz1', hz2⟩ := info_of Try.infoEv
  have HI := hide hi0
  have HZ0 := hide hz0
  have HZ1 := hide hz1'
  have HZ2 := hide hz2
  obtain ⟨M, hM⟩ : ∃ M, M = Xr.that 1 l := ⟨_, rfl⟩
  rw [← hM]
  have HM := hide hM
  have HR := hide hr
  obtain ⟨nl, hnl⟩ : ∃ nl, nl = l.length := ⟨_, rfl⟩
  rw [← hnl] at hl ⊢
  have HNL := hide hnl
  clear hi0 hz0 hz1' hz2 hM hr hnl
  go_enter Try.func48, Try.ntmps48
  go_wp2_with fail
  go_loopw [5, 10] (fun mv iv wr => ∃ (i k c : Nat) (a : Option Addr), i ≤ nl ∧ iv = .int .i64 i ∧ mv = .slice a k c ∧ k ≤ i ∧ Hid (k = (Xr.that 1 (l.take i)).length) ∧ wr.ownsRow w.heap.size 100 6 (.slice a k c) k (Xr.evC (Xr.that 1 (l.take i))) ∧ Below w.heap.size w wr) (fun _ iv _ => nl - (intOf iv).toNat)
  case atStart => exact ⟨0, 0, 0, none, Nat.zero_le _, rfl, rfl, Nat.le_refl _, by show _ = _; rfl, ⟨rfl, .inl ⟨rfl, rfl⟩⟩, Below.refl _ _⟩
  case round =>
    obtain ⟨i, k, c, a, hi, rfl, rfl, hki, hkk, how, hbe⟩ := hrel
    have HK := hide (unhide hkk)
    clear hkk
    by_cases hlt : i < nl
    · have hlt2 : i < l.length := by have := unhide HNL; omega
      have hy := List.getElem?_eq_getElem hlt2
      obtain ⟨b, o, had, hb, p0, p1, p2, p3, p4, p5⟩ := (unhide HR).at_ i _ hy
      have HST := hide (Xr.that_step (k := 1) hy)
      generalize l[i] = e at *
      have hcl : ∀ jj, wr.cell? ⟨b, jj, none⟩ = w.cell? ⟨b, jj, none⟩ := fun jj => hbe.cell (p := ⟨b, jj, none⟩) hb
      replace p0 := (hcl _).trans p0
      replace p1 := (hcl _).trans p1
      replace p2 := (hcl _).trans p2
      replace p3 := (hcl _).trans p3
      replace p4 := (hcl _).trans p4
      replace p5 := (hcl _).trans p5
      have hal := (Below.refl wr.heap.size wr).alloc (Nat.le_refl _) (Obj.cells #[.int .i64 e.n0, .int .i64 e.n1, .int .i64 e.n2, .int .i64 e.n3, .int .i64 e.n4, .int .i64 e.n5] 100)
      have HCE := hide (show ∀ V : World, V.heap[wr.heap.size]? = (wr.alloc (Obj.cells #[.int .i64 e.n0, .int .i64 e.n1, .int .i64 e.n2, .int .i64 e.n3, .int .i64 e.n4, .int .i64 e.n5] 100)).heap[wr.heap.size]? → V.cell? ⟨wr.heap.size, 0, none⟩ = some (.int .i64 e.n0) ∧ V.cell? ⟨wr.heap.size, 1, none⟩ = some (.int .i64 e.n1) ∧ V.cell? ⟨wr.heap.size, 2, none⟩ = some (.int .i64 e.n2) ∧ V.cell? ⟨wr.heap.size, 3, none⟩ = some (.int .i64 e.n3) ∧ V.cell? ⟨wr.heap.size, 4, none⟩ = some (.int .i64 e.n4) ∧ V.cell? ⟨wr.heap.size, 5, none⟩ = some (.int .i64 e.n5) from fun V hV => by
        refine ⟨?_, ?_, ?_, ?_, ?_, ?_⟩
        · rw [Xr.cell_kept hV 0]; go_simp
        · rw [Xr.cell_kept hV 1]; go_simp
        · rw [Xr.cell_kept hV 2]; go_simp
        · rw [Xr.cell_kept hV 3]; go_simp
        · rw [Xr.cell_kept hV 4]; go_simp
        · rw [Xr.cell_kept hV 5]; go_simp)
      have HOW := hide (Pg.ow_below how hal)
      have HBA := hide (hbe.trans (hal.mono hbe.size))
      have hbz := hbe.size
      have HIS := hide (fun V => stepsIs_any e V)
      have had' : ad = some ⟨b, o, none⟩ := had
      subst had'
      have hi0' : (0 : Int) ≤ (i : Int) := by omega
      have hi1' : (i : Int) < (nl : Int) := by omega
      clear hy hb hcl hal how hbe had hlt2
      go_wp2_with fail
      generalize hW1 : wr.alloc (Obj.cells #[.int .i64 e.n0, .int .i64 e.n1, .int .i64 e.n2, .int .i64 e.n3, .int .i64 e.n4, .int .i64 e.n5] 100) = W1 at *
      have hwl : wr.heap.size < W1.heap.size := by rw [← hW1]; simp
      clear hW1 p0 p1 p2 p3 p4 p5
      refine ((unhide HIS) _).mono ?_
      rintro r w5 ⟨rfl, hb5⟩
      obtain ⟨s0, s1, s2, s3, s4, s5⟩ := (unhide HCE) w5 (hb5.block _ hwl)
      have HOW5 := hide (Pg.ow_below (unhide HOW) hb5)
      have HB5 := hide ((unhide HBA).trans (hb5.mono (unhide HBA).size))
      have hs5 : w.heap.size ≤ w5.heap.size := (unhide HB5).size
      clear hb5
      by_cases hk1 : e.n0 = 1
      · have bk : (e.n0 == 1) = true := by simp [hk1]
        have HS2 := hide (show Xr.that 1 (l.take (i + 1)) = Xr.that 1 (l.take i) ++ [e] by rw [unhide HST, if_pos bk])
        clear hk1
        obtain ⟨xs, hxs⟩ : ∃ xs, xs = Xr.evC (Xr.that 1 (l.take i)) := ⟨_, rfl⟩
        rw [← hxs] at HOW5
        have HXS := hide hxs
        clear hxs
        have HBK := hide (heap_alloc_new w5 (Obj.cells #[.int .i64 e.n0, .int .i64 e.n1, .int .i64 e.n2, .int .i64 e.n3, .int .i64 e.n4, .int .i64 e.n5] 100))
        have HBD := hide (show Below w5.heap.size w5 (w5.alloc (Obj.cells #[.int .i64 e.n0, .int .i64 e.n1, .int .i64 e.n2, .int .i64 e.n3, .int .i64 e.n4, .int .i64 e.n5] 100)) from (Below.refl _ _).alloc (Nat.le_refl _) _)
        have HLT := hide (show ∀ q, (Value.slice a k c).ownBlock = some q → w.heap.size ≤ q from fun q hq => ((unhide HOW5).lt q hq).1)
        go_wp2_with (at_builtin; refine wpList_append_lies _ (by rfl) _ _ _ (by rfl) w.heap.size 100 i0 _ 6 48 Try.underlying37 (unhide HI) (unhide HZ0) (unhide HZ1) (unhide HZ2) rfl (by omega) (.slice a k c) k xs (by rfl) (Pg.ow_below (unhide HOW5) (unhide HBD)) ⟨w5.heap.size, 0, none⟩ 1 1 [.int .i64 e.n0, .int .i64 e.n1, .int .i64 e.n2, .int .i64 e.n3, .int .i64 e.n4, .int .i64 e.n5] (by rfl) (by rfl) (World.news_of_block (unhide HBK)) (by simp [Value.oneCell']) (by omega) (by unfold maxLen; omega) (by omega) (by simp; omega) (w5.heap.size + 1) (by simp) ?_; intro gA cA w6 hoA hgA hatA hltA; have HOA := hide hoA; have HGA := hide hgA; clear hoA hgA hatA hltA)
        refine ⟨⟨i + 1, k + 1, cA, some ⟨gA, 0, none⟩, by omega, by go_num, rfl, by omega, ?_, ?_, ?_⟩, by simp [intOf]; omega⟩
        · show _ = _
          rw [unhide HS2, List.length_append, unhide HK]
          rfl
        · rw [unhide HS2, Xr.evC_snoc]
          rw [← unhide HXS]
          exact unhide HOA
        · exact Below.grown ((unhide HB5).trans ((unhide HBD).mono (unhide HB5).size)) (unhide HGA) (Nat.le_trans (unhide HB5).size (unhide HBD).size) (unhide HLT)
      · have bk : (e.n0 == 1) = false := by simpa using hk1
        have HS2 := hide (show Xr.that 1 (l.take (i + 1)) = Xr.that 1 (l.take i) by rw [unhide HST, if_neg (by rw [bk]; decide)])
        clear hk1
        go_wp2_with fail
        exact ⟨⟨i + 1, k, c, a, by omega, by go_num, rfl, by omega, by show _ = _; rw [unhide HS2]; exact unhide HK, by rw [unhide HS2]; exact unhide HOW5, unhide HB5⟩, by simp [intOf]; omega⟩
    · have HF := hide (show M = Xr.that 1 (l.take i) by rw [unhide HM, List.take_of_length_le (by have := unhide HNL; omega)])
      have HOW := hide how
      have HBE := hide hbe
      clear how hbe
      go_wp2_with fail
      go_ret
      have hk2 := unhide HK
      have ho := unhide HOW
      rw [← unhide HF] at hk2 ho
      subst hk2
      exact ⟨a, c, rfl, ho, unhide HBE⟩

set_option maxHeartbeats 400000 in
theorem readsIs_any (e : Ev) (W : World) : Calls Try.prog 50 #[.agg #[.int .i64 e.n0, .int .i64 e.n1, .int .i64 e.n2, .int .i64 e.n3, .int .i64 e.n4, .int .i64 e.n5]] W fun r w' => r = .returned (.bool (e.n0 == 3)) ∧ Below W.heap.size W w' := by
  have HB := hide ((Below.refl W.heap.size W).alloc (Nat.le_refl _) (Obj.cells #[.int .i64 e.n0, .int .i64 e.n1, .int .i64 e.n2, .int .i64 e.n3, .int .i64 e.n4, .int .i64 e.n5] 100))
  go_enter Try.func50, Try.ntmps50
  go_wp2_with fail
  go_ret
  exact ⟨rfl, unhide HB⟩

set_option maxRecDepth 100000 in
set_option maxHeartbeats 1600000 in
theorem reads_any (l : List Ev) (ad : Option Addr) (cap : Nat) (w : World) (hr : Cl.RE w ad l) (hl : l.length ≤ 4000) :
    Calls Try.prog 48 #[.slice ad l.length cap, .func (.func 50) #[] #[]] w fun r w' => ∃ a c, r = .returned (.slice a (Xr.that 3 l).length c) ∧ w'.ownsRow w.heap.size 100 6 (.slice a (Xr.that 3 l).length c) (Xr.that 3 l).length (Xr.evC (Xr.that 3 l)) ∧ Below w.heap.size w w' := by
  obtain ⟨i0, hi0, hz0, hz1', hz2⟩ := info_of Try.infoEv
  have HI := hide hi0
  have HZ0 := hide hz0
  have HZ1 := hide hz1'
  have HZ2 := hide hz2
  obtain ⟨M, hM⟩ : ∃ M, M = Xr.that 3 l := ⟨_, rfl⟩
  rw [← hM]
  have HM := hide hM
  have HR := hide hr
  obtain ⟨nl, hnl⟩ : ∃ nl, nl = l.length := ⟨_, rfl⟩
  rw [← hnl] at hl ⊢
  have HNL := hide hnl
  clear hi0 hz0 hz1' hz2 hM hr hnl
  go_enter Try.func48, Try.ntmps48
  go_wp2_with fail
  go_loopw [5, 10] (fun mv iv wr => ∃ (i k c : Nat) (a : Option Addr), i ≤ nl ∧ iv = .int .i64 i ∧ mv = .slice a k c ∧ k ≤ i ∧ Hid (k = (Xr.that 3 (l.take i)).length) ∧ wr.ownsRow w.heap.size 100 6 (.slice a k c) k (Xr.evC (Xr.that 3 (l.take i))) ∧ Below w.heap.size w wr) (fun _ iv _ => nl - (intOf iv).toNat)
  case atStart => exact ⟨0, 0, 0, none, Nat.zero_le _, rfl, rfl, Nat.le_refl _, by show _ = _; rfl, ⟨rfl, .inl ⟨rfl, rfl⟩⟩, Below.refl _ _⟩
  case round =>
    obtain ⟨i, k, c, a, hi, rfl, rfl, hki, hkk, how, hbe⟩ := hrel
    have HK := hide (unhide hkk)
    clear hkk
    by_cases hlt : i < nl
    · have hlt2 : i < l.length := by have := unhide HNL; omega
      have hy := List.getElem?_eq_getElem hlt2
      obtain ⟨b, o, had, hb, p0, p1, p2, p3, p4, p5⟩ := (unhide HR).at_ i _ hy
      have HST := hide (Xr.that_step (k := 3) hy)
      generalize l[i] = e at *
      have hcl : ∀ jj, wr.cell? ⟨b, jj, none⟩ = w.cell? ⟨b, jj, none⟩ := fun jj => hbe.cell (p := ⟨b, jj, none⟩) hb
      replace p0 := (hcl _).trans p0
      replace p1 := (hcl _).trans p1
      replace p2 := (hcl _).trans p2
      replace p3 := (hcl _).trans p3
      replace p4 := (hcl _).trans p4
      replace p5 := (hcl _).trans p5
      have hal := (Below.refl wr.heap.size wr).alloc (Nat.le_refl _) (Obj.cells #[.int .i64 e.n0, .int .i64 e.n1, .int .i64 e.n2, .int .i64 e.n3, .int .i64 e.n4, .int .i64 e.n5] 100)
      have HCE := hide (show ∀ V : World, V.heap[wr.heap.size]? = (wr.alloc (Obj.cells #[.int .i64 e.n0, .int .i64 e.n1, .int .i64 e.n2, .int .i64 e.n3, .int .i64 e.n4, .int .i64 e.n5] 100)).heap[wr.heap.size]? → V.cell? ⟨wr.heap.size, 0, none⟩ = some (.int .i64 e.n0) ∧ V.cell? ⟨wr.heap.size, 1, none⟩ = some (.int .i64 e.n1) ∧ V.cell? ⟨wr.heap.size, 2, none⟩ = some (.int .i64 e.n2) ∧ V.cell? ⟨wr.heap.size, 3, none⟩ = some (.int .i64 e.n3) ∧ V.cell? ⟨wr.heap.size, 4, none⟩ = some (.int .i64 e.n4) ∧ V.cell? ⟨wr.heap.size, 5, none⟩ = some (.int .i64 e.n5) from fun V hV => by
        refine ⟨?_, ?_, ?_, ?_, ?_, ?_⟩
        · rw [Xr.cell_kept hV 0]; go_simp
        · rw [Xr.cell_kept hV 1]; go_simp
        · rw [Xr.cell_kept hV 2]; go_simp
        · rw [Xr.cell_kept hV 3]; go_simp
        · rw [Xr.cell_kept hV 4]; go_simp
        · rw [Xr.cell_kept hV 5]; go_simp)
      have HOW := hide (Pg.ow_below how hal)
      have HBA := hide (hbe.trans (hal.mono hbe.size))
      have hbz := hbe.size
      have HIS := hide (fun V => readsIs_any e V)
      have had' : ad = some ⟨b, o, none⟩ := had
      subst had'
      have hi0' : (0 : Int) ≤ (i : Int) := by omega
      have hi1' : (i : Int) < (nl : Int) := by omega
      clear hy hb hcl hal how hbe had hlt2
      go_wp2_with fail
      generalize hW1 : wr.alloc (Obj.cells #[.int .i64 e.n0, .int .i64 e.n1, .int .i64 e.n2, .int .i64 e.n3, .int .i64 e.n4, .int .i64 e.n5] 100) = W1 at *
      have hwl : wr.heap.size < W1.heap.size := by rw [← hW1]; simp
      clear hW1 p0 p1 p2 p3 p4 p5
      refine ((unhide HIS) _).mono ?_
      rintro r w5 ⟨rfl, hb5⟩
      obtain ⟨s0, s1, s2, s3, s4, s5⟩ := (unhide HCE) w5 (hb5.block _ hwl)
      have HOW5 := hide (Pg.ow_below (unhide HOW) hb5)
      have HB5 := hide ((unhide HBA).trans (hb5.mono (unhide HBA).size))
      have hs5 : w.heap.size ≤ w5.heap.size := (unhide HB5).size
      clear hb5
      by_cases hk1 : e.n0 = 3
      · have bk : (e.n0 == 3) = true := by simp [hk1]
        have HS2 := hide (show Xr.that 3 (l.take (i + 1)) = Xr.that 3 (l.take i) ++ [e] by rw [unhide HST, if_pos bk])
        clear hk1
        obtain ⟨xs, hxs⟩ : ∃ xs, xs = Xr.evC (Xr.that 3 (l.take i)) := ⟨_, rfl⟩
        rw [← hxs] at HOW5
        have HXS := hide hxs
        clear hxs
        have HBK := hide (heap_alloc_new w5 (Obj.cells #[.int .i64 e.n0, .int .i64 e.n1, .int .i64 e.n2, .int .i64 e.n3, .int .i64 e.n4, .int .i64 e.n5] 100))
        have HBD := hide (show Below w5.heap.size w5 (w5.alloc (Obj.cells #[.int .i64 e.n0, .int .i64 e.n1, .int .i64 e.n2, .int .i64 e.n3, .int .i64 e.n4, .int .i64 e.n5] 100)) from (Below.refl _ _).alloc (Nat.le_refl _) _)
        have HLT := hide (show ∀ q, (Value.slice a k c).ownBlock = some q → w.heap.size ≤ q from fun q hq => ((unhide HOW5).lt q hq).1)
        go_wp2_with (at_builtin; refine wpList_append_lies _ (by rfl) _ _ _ (by rfl) w.heap.size 100 i0 _ 6 48 Try.underlying37 (unhide HI) (unhide HZ0) (unhide HZ1) (unhide HZ2) rfl (by omega) (.slice a k c) k xs (by rfl) (Pg.ow_below (unhide HOW5) (unhide HBD)) ⟨w5.heap.size, 0, none⟩ 1 1 [.int .i64 e.n0, .int .i64 e.n1, .int .i64 e.n2, .int .i64 e.n3, .int .i64 e.n4, .int .i64 e.n5] (by rfl) (by rfl) (World.news_of_block (unhide HBK)) (by simp [Value.oneCell']) (by omega) (by unfold maxLen; omega) (by omega) (by simp; omega) (w5.heap.size + 1) (by simp) ?_; intro gA cA w6 hoA hgA hatA hltA; have HOA := hide hoA; have HGA := hide hgA; clear hoA hgA hatA hltA)
        refine ⟨⟨i + 1, k + 1, cA, some ⟨gA, 0, none⟩, by omega, by go_num, rfl, by omega, ?_, ?_, ?_⟩, by simp [intOf]; omega⟩
        · show _ = _
          rw [unhide HS2, List.length_append, unhide HK]
          rfl
        · rw [unhide HS2, Xr.evC_snoc]
          rw [← unhide HXS]
          exact unhide HOA
        · exact Below.grown ((unhide HB5).trans ((unhide HBD).mono (unhide HB5).size)) (unhide HGA) (Nat.le_trans (unhide HB5).size (unhide HBD).size) (unhide HLT)
      · have bk : (e.n0 == 3) = false := by simpa using hk1
        have HS2 := hide (show Xr.that 3 (l.take (i + 1)) = Xr.that 3 (l.take i) by rw [unhide HST, if_neg (by rw [bk]; decide)])
        clear hk1
        go_wp2_with fail
        exact ⟨⟨i + 1, k, c, a, by omega, by go_num, rfl, by omega, by show _ = _; rw [unhide HS2]; exact unhide HK, by rw [unhide HS2]; exact unhide HOW5, unhide HB5⟩, by simp [intOf]; omega⟩
    · have HF := hide (show M = Xr.that 3 (l.take i) by rw [unhide HM, List.take_of_length_le (by have := unhide HNL; omega)])
      have HOW := hide how
      have HBE := hide hbe
      clear how hbe
      go_wp2_with fail
      go_ret
      have hk2 := unhide HK
      have ho := unhide HOW
      rw [← unhide HF] at hk2 ho
      subst hk2
      exact ⟨a, c, rfl, ho, unhide HBE⟩
end Go.Proofs.Ytildjlaphkjegaa
namespace Go.Proofs.Ytildjlaphkjegaa
open Go.RowKit
set_option linter.unusedVariables false

/-- The same event? -/
def Ev.same (a b : Ev) : Bool := a.n0 == b.n0 && a.n1 == b.n1 && a.n2 == b.n2 && a.n3 == b.n3 && a.n4 == b.n4 && a.n5 == b.n5
theorem Ev.same_iff (a b : Ev) : Ev.same a b = true ↔ a = b := by
  obtain ⟨a0, a1, a2, a3, a4, a5⟩ := a
  obtain ⟨b0, b1, b2, b3, b4, b5⟩ := b
  simp [Ev.same, and_assoc]
theorem Xr.eq6 (x y : Ev) (W : World) : (Op.equalIn 10000 100 (.agg #[.int .i64 x.n0, .int .i64 x.n1, .int .i64 x.n2, .int .i64 x.n3, .int .i64 x.n4, .int .i64 x.n5]) (.agg #[.int .i64 y.n0, .int .i64 y.n1, .int .i64 y.n2, .int .i64 y.n3, .int .i64 y.n4, .int .i64 y.n5])).run Try.prog W = .ok (Ev.same x y) W := by
  have p0 : ∀ a b c d e f : Int, (part 3 #[.int .i64 a, .int .i64 b, .int .i64 c, .int .i64 d, .int .i64 e, .int .i64 f] 0).run Try.prog W = .ok (.int .i64 a) W := fun a b c d e f => by kernel_rfl
  have p1 : ∀ a b c d e f : Int, (part 3 #[.int .i64 a, .int .i64 b, .int .i64 c, .int .i64 d, .int .i64 e, .int .i64 f] 1).run Try.prog W = .ok (.int .i64 b) W := fun a b c d e f => by kernel_rfl
  have p2 : ∀ a b c d e f : Int, (part 3 #[.int .i64 a, .int .i64 b, .int .i64 c, .int .i64 d, .int .i64 e, .int .i64 f] 2).run Try.prog W = .ok (.int .i64 c) W := fun a b c d e f => by kernel_rfl
  have p3 : ∀ a b c d e f : Int, (part 3 #[.int .i64 a, .int .i64 b, .int .i64 c, .int .i64 d, .int .i64 e, .int .i64 f] 3).run Try.prog W = .ok (.int .i64 d) W := fun a b c d e f => by kernel_rfl
  have p4 : ∀ a b c d e f : Int, (part 3 #[.int .i64 a, .int .i64 b, .int .i64 c, .int .i64 d, .int .i64 e, .int .i64 f] 4).run Try.prog W = .ok (.int .i64 e) W := fun a b c d e f => by kernel_rfl
  have p5 : ∀ a b c d e f : Int, (part 3 #[.int .i64 a, .int .i64 b, .int .i64 c, .int .i64 d, .int .i64 e, .int .i64 f] 5).run Try.prog W = .ok (.int .i64 f) W := fun a b c d e f => by kernel_rfl
  have e : ∀ x y : Int, (Op.equalIn 9999 3 (.int .i64 x) (.int .i64 y)).run Try.prog W = .ok (x == y) W := fun x y => by
    rw [Op.equalIn]
    simp [run_underlying Try.underlying3]
  have hst : Try.prog.stoodInHeld 100 = false := by kernel_rfl
  rw [Op.equalIn]
  simp only [Sem.run_bind, run_underlying Try.underlying100, Result.andThen]
  simp [hst, p0, p1, p2, p3, p4, p5, e, Ev.same]
  by_cases h0 : x.n0 = y.n0
  · by_cases h1 : x.n1 = y.n1
    · by_cases h2 : x.n2 = y.n2
      · by_cases h3 : x.n3 = y.n3
        · by_cases h4 : x.n4 = y.n4
          · by_cases h5 : x.n5 = y.n5
            · simp [h0, h1, h2, h3, h4, h5]
            · simp [h0, h1, h2, h3, h4, h5]
          · simp [h0, h1, h2, h3, h4]
        · simp [h0, h1, h2, h3]
      · simp [h0, h1, h2]
    · simp [h0, h1]
  · simp [h0]
/-- The same events? -/
def Xr.sameL : List Ev → List Ev → Bool
  | [], [] => true
  | a :: r, b :: t => Ev.same a b && Xr.sameL r t
  | _, _ => false
theorem Xr.sameL_iff : ∀ (a b : List Ev), Xr.sameL a b = true ↔ a = b
  | [], [] => by simp [Xr.sameL]
  | a :: r, b :: t => by simp [Xr.sameL, Ev.same_iff, Xr.sameL_iff r t]
  | [], b :: t => by simp [Xr.sameL]
  | a :: r, [] => by simp [Xr.sameL]
theorem Xr.sameL_len {a b : List Ev} (h : a.length ≠ b.length) : Xr.sameL a b = false := by
  cases hs : Xr.sameL a b with
  | false => rfl
  | true => exact absurd (congrArg List.length ((Xr.sameL_iff a b).1 hs)) h
theorem Xr.sameL_drop {a b : List Ev} {i : Nat} {x y : Ev} (hx : a[i]? = some x) (hy : b[i]? = some y) : Xr.sameL (a.drop i) (b.drop i) = (Ev.same x y && Xr.sameL (a.drop (i + 1)) (b.drop (i + 1))) := by
  obtain ⟨h1, h2⟩ := List.getElem?_eq_some_iff.1 hx
  obtain ⟨h3, h4⟩ := List.getElem?_eq_some_iff.1 hy
  rw [List.drop_eq_getElem_cons h1, List.drop_eq_getElem_cons h3, h2, h4]
  rfl

set_option maxRecDepth 100000 in
set_option maxHeartbeats 1600000 in
theorem Equal_any (l1 l2 : List Ev) (ad bd : Option Addr) (cap dap : Nat) (w : World) (hr : Cl.RE w ad l1) (hr2 : Cl.RE w bd l2) (hl : l1.length ≤ 4000) (hl2 : l2.length ≤ 4000) :
    Calls Try.prog 52 #[.slice ad l1.length cap, .slice bd l2.length dap] w fun e w' => e = .returned (.bool (Xr.sameL l1 l2)) ∧ Below w.heap.size w w' := by
  obtain ⟨R, hR⟩ : ∃ R, R = Xr.sameL l1 l2 := ⟨_, rfl⟩
  rw [← hR]
  have HR := hide hr
  have HR2 := hide hr2
  by_cases hll : l1.length = l2.length
  · have HN1 := hide (Eq.refl l1.length)
    obtain ⟨nl, hnl⟩ : ∃ nl, nl = l1.length := ⟨_, rfl⟩
    rw [← hll, ← hnl]
    have HL1 := hide hnl
    have HL2 := hide (hnl.trans hll)
    have hn4 : nl ≤ 4000 := by omega
    have HRR := hide hR
    have gll : ((nl : Int) != (nl : Int)) = false := by simp
    clear hr hr2 hll hnl hl hl2 hR HN1
    go_enter Try.func52, Try.ntmps52
    go_wp2_with fail
    go_loopw [13] (fun v wr => ∃ k : Nat, k ≤ nl ∧ v = .int .i64 (k : Nat) ∧ Hid (R = Xr.sameL (l1.drop k) (l2.drop k)) ∧ Below w.heap.size w wr) (fun v _ => nl - (intOf v).toNat)
    case atStart => exact ⟨0, by omega, rfl, by show _ = _; rw [List.drop_zero, List.drop_zero]; exact unhide HRR, Below.refl _ _⟩
    case round =>
      obtain ⟨k, hk, rfl, hrel2, hbe⟩ := hrel
      have HRK := hide (unhide hrel2)
      have HBE := hide hbe
      clear hbe hrel2
      by_cases hlt : k < nl
      · obtain ⟨x, hx⟩ : ∃ x, l1[k]? = some x := ⟨_, List.getElem?_eq_getElem (by have := unhide HL1; omega)⟩
        obtain ⟨y, hy⟩ : ∃ y, l2[k]? = some y := ⟨_, List.getElem?_eq_getElem (by have := unhide HL2; omega)⟩
        obtain ⟨b, o, had, hb, c0, c1, c2, c3, c4, c5⟩ := ((unhide HR).later (unhide HBE) (Nat.le_refl _)).at_ k x hx
        obtain ⟨b', o', hbd, hb', d0, d1, d2, d3, d4, d5⟩ := ((unhide HR2).later (unhide HBE) (Nat.le_refl _)).at_ k y hy
        have HDR := hide (Xr.sameL_drop hx hy)
        subst had
        subst hbd
        clear hx hy
        have hk1 : (0 : Int) ≤ (k : Int) := by omega
        have hk2 : (k : Int) < (nl : Int) := by omega
        cases hsame : Ev.same x y
        · have HN := hide (show R = false by rw [unhide HRK, unhide HDR, hsame]; rfl)
          have heq : ∀ V : World, (Op.equalIn 10000 100 (.agg #[.int .i64 x.n0, .int .i64 x.n1, .int .i64 x.n2, .int .i64 x.n3, .int .i64 x.n4, .int .i64 x.n5]) (.agg #[.int .i64 y.n0, .int .i64 y.n1, .int .i64 y.n2, .int .i64 y.n3, .int .i64 y.n4, .int .i64 y.n5])).run Try.prog V = .ok false V := fun V => by rw [Xr.eq6, hsame]
          clear hsame
          go_wp2_with fail
          go_quiet (fail)
          go_wp2_with fail
          go_ret
          exact ⟨ret_bool (by rw [unhide HN]), below_drewN (unhide HBE) _⟩
        · have HN := hide (show R = Xr.sameL (l1.drop (k + 1)) (l2.drop (k + 1)) by rw [unhide HRK, unhide HDR, hsame]; rfl)
          have hxy := (Ev.same_iff x y).1 hsame
          subst hxy
          clear hsame
          go_wp2_with fail
          go_quiet (fail)
          go_wp2_with fail
          exact ⟨⟨k + 1, by omega, by go_num, by show _ = _; exact unhide HN, below_drewN (unhide HBE) _⟩, by simp [intOf]; omega⟩
      · have HN := hide (show R = true by rw [unhide HRK, List.drop_of_length_le (by have := unhide HL1; omega), List.drop_of_length_le (by have := unhide HL2; omega)]; rfl)
        go_wp2_with fail
        go_ret
        exact ⟨ret_bool (by rw [unhide HN]), unhide HBE⟩
  · have HN := hide (show R = false by rw [hR]; exact Xr.sameL_len hll)
    have gll : ((l1.length : Int) != (l2.length : Int)) = true := by simp; omega
    clear hr hr2 hll hR
    generalize l1.length = n1 at *
    generalize l2.length = n2 at *
    go_enter Try.func52, Try.ntmps52
    go_wp2_with fail
    go_ret
    exact ⟨ret_bool (by rw [unhide HN]), Below.refl _ _⟩
end Go.Proofs.Ytildjlaphkjegaa
namespace Go.Proofs.Ytildjlaphkjegaa
open Go.RowKit
set_option linter.unusedVariables false

theorem Xr.rn_own {W : World} {B n c : Nat} {a : Option Addr} {l : List Int} (hl : l.length = n) (hn : n ≤ 4000) (h : W.ownsRow B 3 1 (.slice a n c) n (l.map (Value.int .i64))) : Pg.RN W ⟨a, n, c⟩ l := by
  refine ⟨hl.symm, ?_, by omega, fun i z hz => ?_⟩
  · rcases h.2 with ⟨h1, h2⟩ | ⟨g, cap, cur, hv, _, _, hc, _⟩
    · show n ≤ c
      omega
    · cases hv
      exact hc
  · obtain ⟨g, cap, hv, _, hlt⟩ := h.form (by have := (List.getElem?_eq_some_iff.1 hz).1; omega)
    cases hv
    have hc := h.cells (g := g) rfl i (.int .i64 z) (by rw [List.getElem?_map, hz]; rfl)
    rw [Xr.add_at] at hc
    exact ⟨g, 0, rfl, hlt, by rw [Nat.zero_add]; exact hc⟩

set_option maxRecDepth 100000 in
set_option maxHeartbeats 1600000 in
theorem inputOf_any (l : List Ev) (ad : Option Addr) (cap : Nat) (w : World) (hr : Cl.RE w ad l) (hl : l.length ≤ 4000) (hcap : l.length ≤ cap) :
    Calls Try.prog 51 #[.slice ad l.length cap] w fun r w' => ∃ a n c, r = .returned (.slice a n c) ∧ Pg.RN w' ⟨a, n, c⟩ ((l.take 50).map (fun e => e.n5)) ∧ Below w.heap.size w w' := by
  obtain ⟨i3, hi3, hz3, hz3', hz3''⟩ := info_of Try.infoI3
  have HI := hide hi3
  have HZ0 := hide hz3
  have HZ1 := hide hz3'
  have HZ2 := hide hz3''
  have HR := hide hr
  obtain ⟨nl, hnl⟩ : ∃ nl, nl = l.length := ⟨_, rfl⟩
  rw [← hnl] at hl hcap ⊢
  have HNL := hide hnl
  obtain ⟨nm, hnm⟩ : ∃ nm, nm = min nl 50 := ⟨_, rfl⟩
  have hmn : nm ≤ nl := by omega
  have hm5 : nm ≤ 50 := by omega
  have HNM := hide hnm
  obtain ⟨M, hM⟩ : ∃ M, M = (l.take 50).map (fun e => e.n5) := ⟨_, rfl⟩
  rw [← hM]
  have HM := hide (show M = (l.take nm).map (fun e => e.n5) by
    rw [hM, hnm, hnl]
    rcases Nat.le_total l.length 50 with h | h
    · rw [Nat.min_eq_left h, List.take_of_length_le h, List.take_of_length_le (Nat.le_refl _)]
    · rw [Nat.min_eq_right h])
  clear hi3 hz3 hz3' hz3'' hr hnl hM
  have hmc : (nm : Int) ≤ (cap : Int) := by omega
  have hm0 : (0 : Int) ≤ (nm : Int) := by omega
  have hsl : (if (50 : Int) < (nl : Int) then (50 : Int) else (nl : Int)) = (nm : Int) := by rw [hnm]; split <;> omega
  have hsl2 : (if (nl : Int) < (50 : Int) then (nl : Int) else (50 : Int)) = (nm : Int) := by rw [hnm]; split <;> omega
  clear hnm
  go_enter Try.func51, Try.ntmps51
  go_wp2_with fail
  clear hsl hsl2
  go_loopw [3, 12] (fun mv iv wr => ∃ (i c : Nat) (a : Option Addr), i ≤ nm ∧ iv = .int .i64 i ∧ mv = .slice a i c ∧ wr.ownsRow w.heap.size 3 1 (.slice a i c) i (((l.take i).map (fun e => e.n5)).map (Value.int .i64)) ∧ Below w.heap.size w wr) (fun _ iv _ => nm - (intOf iv).toNat)
  case atStart => exact ⟨0, 0, none, Nat.zero_le _, rfl, rfl, ⟨rfl, .inl ⟨rfl, rfl⟩⟩, Below.refl _ _⟩
  case round =>
    obtain ⟨i, c, a, hi, rfl, rfl, how, hbe⟩ := hrel
    by_cases hlt : i < nm
    · have hlt2 : i < l.length := by have := unhide HNL; omega
      have hy := List.getElem?_eq_getElem hlt2
      obtain ⟨b, o, had, hb, p0, p1, p2, p3, p4, p5⟩ := (unhide HR).at_ i _ hy
      have HST := hide (show (l.take (i + 1)).map (fun e => e.n5) = (l.take i).map (fun e => e.n5) ++ [l[i].n5] by rw [List.take_succ_eq_append_getElem hlt2, List.map_append]; rfl)
      generalize l[i] = e at *
      have hcl : ∀ jj, wr.cell? ⟨b, jj, none⟩ = w.cell? ⟨b, jj, none⟩ := fun jj => hbe.cell (p := ⟨b, jj, none⟩) hb
      replace p0 := (hcl _).trans p0
      replace p1 := (hcl _).trans p1
      replace p2 := (hcl _).trans p2
      replace p3 := (hcl _).trans p3
      replace p4 := (hcl _).trans p4
      replace p5 := (hcl _).trans p5
      have hal := (Below.refl wr.heap.size wr).alloc (Nat.le_refl _) (Obj.cells #[.int .i64 e.n0, .int .i64 e.n1, .int .i64 e.n2, .int .i64 e.n3, .int .i64 e.n4, .int .i64 e.n5] 100)
      have q5 : (wr.alloc (Obj.cells #[.int .i64 e.n0, .int .i64 e.n1, .int .i64 e.n2, .int .i64 e.n3, .int .i64 e.n4, .int .i64 e.n5] 100)).cell? ⟨wr.heap.size, 5, none⟩ = some (.int .i64 e.n5) := by go_simp
      have HOW := hide (Pg.ow_below how hal)
      have HBA := hide (hbe.trans (hal.mono hbe.size))
      have hwz : w.heap.size ≤ (wr.alloc (Obj.cells #[.int .i64 e.n0, .int .i64 e.n1, .int .i64 e.n2, .int .i64 e.n3, .int .i64 e.n4, .int .i64 e.n5] 100)).heap.size := (hbe.trans (hal.mono hbe.size)).size
      have had' : ad = some ⟨b, o, none⟩ := had
      subst had'
      have hi0' : (0 : Int) ≤ (i : Int) := by omega
      have hi1' : (i : Int) < (nm : Int) := by omega
      clear hy hb hcl hal how hbe had hlt2
      obtain ⟨xs, hxs⟩ : ∃ xs, xs = (((l.take i).map (fun e => e.n5)).map (Value.int .i64)) := ⟨_, rfl⟩
      rw [← hxs] at HOW
      have HXS := hide hxs
      clear hxs
      go_upto_region 5 with fail
      generalize wr.alloc (Obj.cells #[.int .i64 e.n0, .int .i64 e.n1, .int .i64 e.n2, .int .i64 e.n3, .int .i64 e.n4, .int .i64 e.n5] 100) = W1 at *
      clear p0 p1 p2 p3 p4 p5
      have HBK := hide (heap_alloc_new W1 (Obj.cells #[.int .i64 e.n5] 3))
      have HBD := hide (show Below W1.heap.size W1 (W1.alloc (Obj.cells #[.int .i64 e.n5] 3)) from (Below.refl _ _).alloc (Nat.le_refl _) _)
      have HLT := hide (show ∀ q, (Value.slice a i c).ownBlock = some q → w.heap.size ≤ q from fun q hq => ((unhide HOW).lt q hq).1)
      go_wp2_with (at_builtin; refine wpList_append_lies _ (by rfl) _ _ _ (by rfl) w.heap.size 3 i3 _ 1 8 Try.underlying46 (unhide HI) (unhide HZ0) (unhide HZ1) (unhide HZ2) rfl (by omega) (.slice a i c) i xs (by rfl) (Pg.ow_below (unhide HOW) (unhide HBD)) ⟨W1.heap.size, 0, none⟩ 1 1 [.int .i64 e.n5] (by rfl) (by rfl) (World.news_of_block (unhide HBK)) (by simp [Value.oneCell']) (by omega) (by unfold maxLen; omega) (by omega) (by simp; omega) (W1.heap.size + 1) (by simp) ?_; intro gA cA w6 hoA hgA hatA hltA; have HOA := hide hoA; have HGA := hide hgA; clear hoA hgA hatA hltA)
      refine ⟨⟨i + 1, cA, some ⟨gA, 0, none⟩, by omega, by go_num, rfl, ?_, ?_⟩, by simp [intOf]; omega⟩
      · rw [unhide HST, List.map_append, ← unhide HXS]
        exact unhide HOA
      · exact Below.grown ((unhide HBA).trans ((unhide HBD).mono (unhide HBA).size)) (unhide HGA) (Nat.le_trans (unhide HBA).size (unhide HBD).size) (unhide HLT)
    · have hie : i = nm := by omega
      subst hie
      have HOW := hide how
      have HBE := hide hbe
      clear how hbe
      go_wp2_with fail
      go_ret
      refine ⟨a, i, c, rfl, ?_, unhide HBE⟩
      rw [unhide HM]
      exact Xr.rn_own (by rw [List.length_map, List.length_take]; have := unhide HNL; omega) (by omega) (unhide HOW)
end Go.Proofs.Ytildjlaphkjegaa
