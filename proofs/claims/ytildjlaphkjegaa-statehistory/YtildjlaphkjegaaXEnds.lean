/-
  The contract of state's endsOf: a map of ends. By the verifier.
-/
import Derived.Test.YtildjlaphkjegaaXAtF
import Derived.Test.YtildjlaphkjegaaXArg
import Derived.Maps.Own
import Derived.Maps.Views
import Derived.Carry
namespace Go.Proofs.Ytildjlaphkjegaa
open Go.RowKit Go.Maps
open Go.ChangeMaps Go.MapKept
set_option linter.unusedVariables false

theorem Try.xkeyed : Keyed Try.prog 3 := int_keyed Try.underlying3
theorem Try.zeroEnd (w : World) : (zeroValue 122).run Try.prog w = .ok (.agg #[.int .i64 0, .int .i64 0]) w := by kernel_rfl
/-- How an end reads. -/
def Xr.dEnd (t a : Int) : DataW Empty := .agg [.lit (.int .i64 t), .lit (.int .i64 a)]
def Xr.rEnd : Value → Option (DataW Empty × List MemPlace)
  | .agg cs => match cs.toList with
    | [.int .i64 t, .int .i64 a] => some (Xr.dEnd t a, [])
    | _ => none
  | _ => none
theorem Xr.rEnd_inv {v : Value} {y : DataW Empty × List MemPlace} (h : Xr.rEnd v = some y) : ∃ t a, v = .agg #[.int .i64 t, .int .i64 a] ∧ y.1 = Xr.dEnd t a := by
  unfold Xr.rEnd at h
  split at h
  · rename_i cs
    split at h
    · rename_i t a hcs
      cases h
      exact ⟨t, a, by rw [show cs = #[.int .i64 t, .int .i64 a] from Array.ext' hcs], rfl⟩
    · cases h
  · cases h
/-- A block is a map of ends, told by a function. -/
def Xr.EM (W : World) (b n : Nat) (g : Int → Option (Int × Int)) : Prop :=
  ∃ D : DataW Empty, W.ownsMap Try.prog 3 Xr.rEnd b n D ∧ IsMap D ∧ ∀ (f : Int) (zd : DataW Empty), D.atKey (.int .i64 f) zd = match g f with | none => zd | some p => Xr.dEnd p.1 p.2
theorem Xr.EM.lt {W : World} {b n : Nat} {g : Int → Option (Int × Int)} (h : Xr.EM W b n g) : b < W.heap.size := by
  obtain ⟨D, h1, _⟩ := h
  exact h1.lt
theorem Xr.EM.kept {W W' : World} {b n : Nat} {g : Int → Option (Int × Int)} (h : Xr.EM W b n g) (hk : W'.heap[b]? = W.heap[b]?) : Xr.EM W' b n g := by
  obtain ⟨D, ⟨es, clock, h1, h2⟩, h3⟩ := h
  exact ⟨D, ⟨es, clock, hk.trans h1, h2⟩, h3⟩
theorem Xr.EM.made (W : World) : Xr.EM (W.alloc (.map #[] 0)) W.heap.size 0 (fun _ => none) :=
  ⟨.map [], World.ownsMap_made W Try.prog 3 Xr.rEnd, isMap_empty, fun f zd => rfl⟩
theorem Xr.EM.put {W : World} {b n : Nat} {g : Int → Option (Int × Int)} (h : Xr.EM W b n g) (hn : n < maxLen) (f t a : Int) (hf : (Lit.int .i64 f).wf = true) :
    ∃ W', (Instr.mapUpdate 107 (.map (some b)) (.int .i64 f) (.agg #[.int .i64 t, .int .i64 a])).run Try.prog W = .ok () W' ∧ Xr.EM W' b (n + 1) (fun x => if x = f then some (t, a) else g x) ∧ W.grownBy W' (some b) := by
  obtain ⟨D, h1, h2, h3⟩ := h
  obtain ⟨W', hrun, ho, hg⟩ := h1.update (t := 107) (e := 122) Try.xkeyed Try.underlying107 hn (keyOf_int_mk Try.underlying3 hf) (show Xr.rEnd (.agg #[.int .i64 t, .int .i64 a]) = some (Xr.dEnd t a, []) from rfl)
  refine ⟨W', hrun, ⟨_, ho, h2.put _ _, fun x zd => ?_⟩, hg⟩
  by_cases hx : x = f
  · subst hx
    rw [atKey_put_same (k := .int .i64 x) h2 True.intro]
    dsimp only
    rw [if_pos rfl]
  · rw [atKey_put_other (k := .int .i64 f) (k' := .int .i64 x) (fun e => hx (by cases e; rfl)), h3]
    dsimp only
    rw [if_neg hx]
theorem Xr.EM.look {W : World} {b n : Nat} {g : Int → Option (Int × Int)} (h : Xr.EM W b n g) (f : Int) (hf : (Lit.int .i64 f).wf = true) :
    (Instr.lookup 107 (.map (some b)) (.int .i64 f) true).run Try.prog W = .ok (match g f with | none => .tuple #[.agg #[.int .i64 0, .int .i64 0], .bool false] | some p => .tuple #[.agg #[.int .i64 p.1, .int .i64 p.2], .bool true]) W := by
  obtain ⟨D, ⟨es, clock, hb, F, _, rfl⟩, _, h3⟩ := h
  rcases fit_look (t := 107) (e := 122) true Try.xkeyed Try.underlying107 (Try.zeroEnd W) hb F (keyOf_int_mk Try.underlying3 hf) with ⟨hrun, _, hat⟩ | ⟨e0, y, _, _, hrun, hR, hat, _⟩
  · cases hg : g f with
    | none => rw [hrun]; rfl
    | some p =>
      have h4 := h3 f .nil
      rw [hat, hg] at h4
      cases h4
  · obtain ⟨t, a, hv, hy⟩ := Xr.rEnd_inv hR
    cases hg : g f with
    | none =>
      have h4 := h3 f .nil
      rw [hat, hg, hy] at h4
      cases h4
    | some p =>
      have h4 := h3 f .nil
      rw [hat, hg, hy] at h4
      have h5 : t = p.1 ∧ a = p.2 := by
        unfold Xr.dEnd at h4
        simp at h4
        exact h4
      rw [hrun, hv, h5.1, h5.2]
      rfl
/-- The ends that events tell. -/
def Xr.end1 (g : Int → Option (Int × Int)) (t : Int) (e : Ev) : Int → Option (Int × Int) :=
  if e.n0 = 6 then (fun x => if x = e.n1 then some (t, e.n5) else g x) else if e.n0 = 7 ∧ e.n5 = 0 then (fun x => if x = 0 then some (t, 0) else g x) else g
def Xr.endsTo (l : List Ev) : Nat → Int → Option (Int × Int)
  | 0 => fun _ => none
  | k + 1 => match l[k]? with
    | none => Xr.endsTo l k
    | some e => Xr.end1 (Xr.endsTo l k) (k : Nat) e
/-- A store into a map of ends, at the operation. -/
theorem Xr.wp_end {w : World} {ops : Array Oper} {rest : List Oper} {o : Oper} {ac : Act} {Q : Exit → Act → World → Prop} (hg : o.guard = none) (m x v : Operand) (hop : o.op = Op.mapUpdate 107 m x v) (b n : Nat) (g : Int → Option (Int × Int)) (hm : ac.eval m = .map (some b)) (hown : Xr.EM w b n g) (hn : n < maxLen) (f t a : Int) (hf : (Lit.int .i64 f).wf = true) (hx : ac.eval x = .int .i64 f) (hv : ac.eval v = .agg #[.int .i64 t, .int .i64 a])
    (hK : ∀ w', Xr.EM w' b (n + 1) (fun x => if x = f then some (t, a) else g x) → w.grownBy w' (some b) → wpList Try.prog ops Q rest (ac.put o.dst undef) w') : wpList Try.prog ops Q (o :: rest) ac w := by
  refine wpList_plain hg fun K' hK' => ?_
  obtain ⟨w', hrun, r1, r2⟩ := hown.put hn f t a hf
  unfold Oper.wp
  simp [execOp, hop, hm, hx, hv, hrun, Result.andThen]
  exact hK' _ _ (hK w' r1 r2)

set_option maxRecDepth 100000 in
set_option maxHeartbeats 1600000 in
theorem endsOf_any (l : List Ev) (ad : Option Addr) (cap : Nat) (w : World) (hr : Cl.RE w ad l) (hw : ∀ e ∈ l, Xr.evW e) (hl : l.length ≤ 4000) :
    Calls Try.prog 56 #[.slice ad l.length cap] w fun r w' => ∃ n, r = .returned (.map (some w.heap.size)) ∧ Xr.EM w' w.heap.size n (Xr.endsTo l l.length) ∧ Below w.heap.size w w' := by
  have HR := hide hr
  have HW := hide hw
  obtain ⟨nl, hnl⟩ : ∃ nl, nl = l.length := ⟨_, rfl⟩
  rw [← hnl] at hl ⊢
  have HNL := hide hnl
  have HM0 := hide (Xr.EM.made w)
  have HB0 := hide ((Below.refl w.heap.size w).alloc (Nat.le_refl _) (.map #[] 0))
  clear hr hw hnl
  go_enter Try.func56, Try.ntmps56
  have hmk : (Instr.makeMap 107 none).run Try.prog w = .ok (.map (some w.heap.size)) (w.alloc (.map #[] 0)) := run_makeMap _ w
  go_wp2_with fail
  clear hmk
  generalize w.alloc (.map #[] 0) = W1 at *
  go_loopw [9] (fun iv wr => ∃ (i n : Nat), i ≤ nl ∧ iv = .int .i64 i ∧ n ≤ i ∧ Xr.EM wr w.heap.size n (Xr.endsTo l i) ∧ Below w.heap.size w wr) (fun iv _ => nl - (intOf iv).toNat)
  case atStart => exact ⟨0, 0, Nat.zero_le _, rfl, Nat.le_refl _, unhide HM0, unhide HB0⟩
  case round =>
    obtain ⟨i, n, hi, rfl, hni, hem, hbe⟩ := hrel
    by_cases hlt : i < nl
    · have hlt2 : i < l.length := by have := unhide HNL; omega
      have hy := List.getElem?_eq_getElem hlt2
      obtain ⟨b, o, had, hb, p0, p1, p2, p3, p4, p5⟩ := ((unhide HR).later hbe (Nat.le_refl _)).at_ i _ hy
      have HW1 := hide ((unhide HW) l[i] (List.getElem_mem hlt2)).2.1
      have HST := hide (show Xr.endsTo l (i + 1) = Xr.end1 (Xr.endsTo l i) (i : Nat) l[i] by
        show (match l[i]? with | none => Xr.endsTo l i | some e => Xr.end1 (Xr.endsTo l i) (i : Nat) e) = _
        rw [hy])
      generalize l[i] = e at *
      have hal := (Below.refl wr.heap.size wr).alloc (Nat.le_refl _) (Obj.cells #[.int .i64 e.n0, .int .i64 e.n1, .int .i64 e.n2, .int .i64 e.n3, .int .i64 e.n4, .int .i64 e.n5] 100)
      have hlt0 := hem.lt
      have HEM := hide (hem.kept (hal.block w.heap.size hlt0))
      have HBA := hide (hbe.trans (hal.mono hbe.size))
      have hsA : w.heap.size ≤ (wr.alloc (Obj.cells #[.int .i64 e.n0, .int .i64 e.n1, .int .i64 e.n2, .int .i64 e.n3, .int .i64 e.n4, .int .i64 e.n5] 100)).heap.size := (hbe.trans (hal.mono hbe.size)).size
      have had' : ad = some ⟨b, o, none⟩ := had
      subst had'
      have hi0 : (0 : Int) ≤ (i : Int) := by omega
      have hi1 : (i : Int) < (nl : Int) := by omega
      have x0 : (wr.alloc (Obj.cells #[.int .i64 e.n0, .int .i64 e.n1, .int .i64 e.n2, .int .i64 e.n3, .int .i64 e.n4, .int .i64 e.n5] 100)).cell? ⟨wr.heap.size, 0, none⟩ = some (.int .i64 e.n0) := by go_simp
      have x1 : (wr.alloc (Obj.cells #[.int .i64 e.n0, .int .i64 e.n1, .int .i64 e.n2, .int .i64 e.n3, .int .i64 e.n4, .int .i64 e.n5] 100)).cell? ⟨wr.heap.size, 1, none⟩ = some (.int .i64 e.n1) := by go_simp
      have x5 : (wr.alloc (Obj.cells #[.int .i64 e.n0, .int .i64 e.n1, .int .i64 e.n2, .int .i64 e.n3, .int .i64 e.n4, .int .i64 e.n5] 100)).cell? ⟨wr.heap.size, 5, none⟩ = some (.int .i64 e.n5) := by go_simp
      clear hy hb had hlt2 hal hem hbe
      go_upto_region 5 with fail
      generalize wr.alloc (Obj.cells #[.int .i64 e.n0, .int .i64 e.n1, .int .i64 e.n2, .int .i64 e.n3, .int .i64 e.n4, .int .i64 e.n5] 100) = W2 at *
      generalize wr.heap.size = bx at *
      clear p0 p1 p2 p3 p4 p5
      have hfin : ∀ (w' : World), W2.grownBy w' (some w.heap.size) → Below w.heap.size w w' := fun w' hg => (unhide HBA).grown hg hsA (fun q hq => by cases hq; exact Nat.le_refl _)
      have HFIN := hide hfin
      clear hfin
      by_cases k6 : e.n0 = 6
      · have b6 : (e.n0 == 6) = true := by simp [k6]
        have HRP := hide (show Xr.endsTo l (i + 1) = fun x => if x = e.n1 then some (((i : Nat) : Int), e.n5) else Xr.endsTo l i x by rw [unhide HST]; unfold Xr.end1; rw [if_pos k6])
        clear k6
        go_wp2_with (at_mapUpdate; refine Xr.wp_end rfl _ _ _ rfl w.heap.size n (Xr.endsTo l i) rfl (unhide HEM) (by unfold maxLen; omega) e.n1 (i : Nat) e.n5 (unhide HW1) rfl rfl ?_; intro w6 hem6 hg6; have HE6 := hide hem6; have HB6 := hide ((unhide HFIN) w6 hg6); clear hem6 hg6)
        exact ⟨⟨i + 1, n + 1, by omega, by go_num, by omega, by rw [unhide HRP]; exact unhide HE6, unhide HB6⟩, by simp [intOf]; omega⟩
      · have b6 : (e.n0 == 6) = false := by simpa using k6
        by_cases k7 : e.n0 = 7
        · have b7 : (e.n0 == 7) = true := by simp [k7]
          by_cases k0 : e.n5 = 0
          · have b0 : (e.n5 == 0) = true := by simp [k0]
            have HRP := hide (show Xr.endsTo l (i + 1) = fun x => if x = 0 then some (((i : Nat) : Int), 0) else Xr.endsTo l i x by rw [unhide HST]; unfold Xr.end1; rw [if_neg k6, if_pos ⟨k7, k0⟩])
            clear k6 k7 k0
            go_wp2_with (at_mapUpdate; refine Xr.wp_end rfl _ _ _ rfl w.heap.size n (Xr.endsTo l i) rfl (unhide HEM) (by unfold maxLen; omega) 0 (i : Nat) 0 rfl rfl rfl ?_; intro w6 hem6 hg6; have HE6 := hide hem6; have HB6 := hide ((unhide HFIN) w6 hg6); clear hem6 hg6)
            exact ⟨⟨i + 1, n + 1, by omega, by go_num, by omega, by rw [unhide HRP]; exact unhide HE6, unhide HB6⟩, by simp [intOf]; omega⟩
          · have b0 : (e.n5 == 0) = false := by simpa using k0
            have HRP := hide (show Xr.endsTo l (i + 1) = Xr.endsTo l i by rw [unhide HST]; unfold Xr.end1; rw [if_neg k6, if_neg (fun h => k0 h.2)])
            clear k6 k7 k0
            go_wp2_with fail
            exact ⟨⟨i + 1, n, by omega, by go_num, by omega, by rw [unhide HRP]; exact unhide HEM, unhide HBA⟩, by simp [intOf]; omega⟩
        · have b7 : (e.n0 == 7) = false := by simpa using k7
          have HRP := hide (show Xr.endsTo l (i + 1) = Xr.endsTo l i by rw [unhide HST]; unfold Xr.end1; rw [if_neg k6, if_neg (fun h => k7 h.1)])
          clear k6 k7
          go_wp2_with fail
          exact ⟨⟨i + 1, n, by omega, by go_num, by omega, by rw [unhide HRP]; exact unhide HEM, unhide HBA⟩, by simp [intOf]; omega⟩
    · have hie : i = nl := by omega
      subst hie
      have HE := hide hem
      have HB := hide hbe
      clear hem hbe
      go_wp2_with fail
      go_ret
      first | exact ⟨n, rfl, unhide HE, unhide HB⟩ | exact ⟨rfl, ⟨n, unhide HE⟩, unhide HB⟩ | exact ⟨rfl, n, unhide HE, unhide HB⟩
end Go.Proofs.Ytildjlaphkjegaa
