/-
  A program, an expression, variables that came in, as they are read, at any depth. By the verifier.
-/
import Derived.Test.YtpfogjplnodacaaGreatLC
import Derived.Deep.Slices
import Derived.Deep.Strs
import Derived.SizedLaws
namespace Go.Proofs.YtpfogjplnodacaaGreat
open Go.RowKit Go.Deep Go.ChangeShapes
set_option linter.unusedVariables false
theorem Tryz.pcells3 : Tryz.prog.cellsOf 3 = 1 := by kernel_rfl
theorem Tryz.pcellsIs : Tryz.prog.cellsOf 23 = 1 := by kernel_rfl
theorem Tryz.pbytes3 : Tryz.prog.bytesOf 3 = 8 := by kernel_rfl
theorem Tryz.pbytesIs : Tryz.prog.bytesOf 23 = 24 := by kernel_rfl
theorem Pg.len1 {α : Type} : ∀ {cs : List α}, cs.length = 1 → ∃ a, cs = [a]
 | [a], _ => ⟨a, rfl⟩
theorem Pg.len3 {α : Type} : ∀ {cs : List α}, cs.length = 3 → ∃ a b c, cs = [a, b, c]
 | [a, b, c], _ => ⟨a, b, c, rfl⟩
theorem Pg.choose {β : Type} {n : Nat} {Q : Nat → β → Prop} (h : ∀ i, i < n → ∃ y, Q i y) : ∃ l : List β, l.length = n ∧ ∀ i y, l[i]? = some y → Q i y := by
 obtain ⟨F, hF⟩ := Classical.axiomOfChoice (show ∀ i : Fin n, ∃ y, Q i.1 y from fun i => h i.1 i.2)
 refine ⟨List.ofFn F, List.length_ofFn, fun i y hy => ?_⟩
 rw [List.getElem?_ofFn] at hy
 by_cases hlt : i < n
 · rw [dif_pos hlt] at hy
   cases hy
   exact hF ⟨i, hlt⟩
 · rw [dif_neg hlt] at hy
   cases hy
theorem Pg.weights_all {H : Type} {P : Program} {e : TypeId} : ∀ {ds : List (DataW H)} {d : DataW H}, d ∈ ds → ∀ n ∈ d.weights P e, n ∈ DataW.weightsAll P e ds
 | d0 :: ds, d, hd, n, hn => by
  unfold DataW.weightsAll
  rcases List.mem_cons.1 hd with rfl | h
  · exact List.mem_append_left _ hn
  · exact List.mem_append_right _ (Pg.weights_all h n hn)
section
variable {H : Type} {enc : TypeId × Value → H} {W : World}
def Pg.Lt (t : TypeId) (d : DataW H) : Prop := ∀ k ∈ d.weights Tryz.prog t, k ≤ reachBytes
theorem Pg.open_rows {t e : TypeId} {wide : Nat} (ht : Tryz.prog.underlying t = some (.slice e)) (hc : Tryz.prog.cellsOf e = wide) (hw : 0 < wide) (hby : 4 ≤ Tryz.prog.bytesOf e) {fuel : Nat} {v : Value} {d : DataW H} {p : List MemPlace} (h : DataW.trod enc Tryz.prog W 0 (fun _ => true) true fuel t [v] = some (d, p)) (hwt : Pg.Lt t d) :
  ∃ (s : Pg.Sl) (n : Nat), n < fuel ∧ v = .slice s.ad s.len s.cap ∧ s.len ≤ s.cap ∧ s.len ≤ 35184372088832 ∧ s.len * Tryz.prog.bytesOf e ≤ reachBytes ∧ ∀ i, i < s.len → ∃ (b o : Nat) (cs : List Value) (d' : DataW H) (p' : List MemPlace), s.ad = some ⟨b, o, none⟩ ∧ b < W.heap.size ∧ cs.length = wide ∧ (∀ j u, cs[j]? = some u → W.cell? ⟨b, o + i * wide + j, none⟩ = some u) ∧ DataW.trod enc Tryz.prog W 0 (fun _ => true) true n e cs = some (d', p') ∧ Pg.Lt e d' := by
 have hfu : 0 < fuel := by
  cases fuel with
  | zero => simp [DataW.trod] at h
  | succ n => omega
 rcases DataW.trod_slice ht h with ⟨hcs, hx⟩ | ⟨a, len, cap, elems, rest, m, hfm, hcs, hx, hb, hle, hm, hlen2, hel, hsp, hns⟩
 · simp at hcs
   subst hcs
   exact ⟨⟨none, 0, 0⟩, 0, hfu, rfl, Nat.le_refl _, by simp, by show 0 * _ ≤ _; omega, fun i hi => absurd hi (by simp)⟩
 · simp at hcs
   subst hcs hfm
   have hd : d = .slice (elems.map (·.1)) (rest.map (·.1)) := (Prod.mk.inj hx).1
   have hws : ∀ k ∈ ((elems.map (·.1)).length + (rest.map (·.1)).length) * Tryz.prog.bytesOf e :: (DataW.weightsAll Tryz.prog e (elems.map (·.1)) ++ DataW.weightsAll Tryz.prog e (rest.map (·.1))), k ≤ reachBytes := by
    have h1 := hwt
    rw [hd] at h1
    unfold Pg.Lt DataW.weights at h1
    rw [ht] at h1
    exact h1
   have hlong : len ≤ 35184372088832 := by
    have h1 := hws _ List.mem_cons_self
    rw [List.length_map, List.length_map, hlen2] at h1
    have h2 : len * 4 ≤ (len + rest.length) * Tryz.prog.bytesOf e := Nat.mul_le_mul (by omega) hby
    have e1 : reachBytes = 140737488351232 := rfl
    omega
   have hall : len * Tryz.prog.bytesOf e ≤ reachBytes := by
    have h1 := hws _ List.mem_cons_self
    rw [List.length_map, List.length_map, hlen2] at h1
    exact Nat.le_trans (Nat.mul_le_mul (by omega) (Nat.le_refl _)) h1
   refine ⟨⟨some a, len, cap⟩, m, by omega, rfl, hle, hlong, hall, fun i hi => ?_⟩
   have cell : ∀ i, i < len → ∃ (cs : List Value) (d' : DataW H) (p' : List MemPlace), cs.length = wide ∧ (∀ j u, cs[j]? = some u → W.cell? (a.add (i * wide + j)) = some u) ∧ DataW.trod enc Tryz.prog W 0 (fun _ => true) true m e cs = some (d', p') ∧ Pg.Lt e d' := by
    intro i hi
    have h1 := hel i hi
    rw [hc, List.getElem?_eq_getElem (by omega)] at h1
    cases hcc : W.cells? 0 (a.add (i * wide)) wide with
    | none => rw [hcc] at h1; cases h1
    | some cs' =>
     rw [hcc] at h1
     obtain ⟨_, hl', hcell⟩ := World.cells?_some hcc
     refine ⟨cs', (elems[i]'(by omega)).1, (elems[i]'(by omega)).2, hl', fun j u hu => ?_, h1, fun k hk => ?_⟩
     · have hj : j < wide := by rw [← hl']; exact (List.getElem?_eq_some_iff.1 hu).1
       have e0 := hcell j hj
       rw [add_add] at e0
       rw [e0]
       exact hu
     · exact hws k (List.mem_cons_of_mem _ (List.mem_append_left _ (Pg.weights_all (List.mem_map_of_mem (List.getElem_mem (by omega))) k hk)))
   obtain ⟨cs, d', p', g1, g2, g3, g4⟩ := cell i hi
   obtain ⟨b, off, spot⟩ := a
   obtain ⟨u, hu⟩ : ∃ u, cs[0]? = some u := ⟨cs[0]'(by omega), List.getElem?_eq_getElem (by omega)⟩
   obtain ⟨cs0, _, _, k1, k2, _⟩ := cell 0 (by have : i < len := hi; omega)
   have hspot : spot = none := by simpa [Addr.add] using World.cell?_spot (k2 0 (cs0[0]'(by omega)) (List.getElem?_eq_getElem (by omega)))
   subst hspot
   have hbl := World.block_lt_of_cell? W _ (g2 0 u hu)
   rw [Go.WideShapes.add_plain] at hbl
   refine ⟨b, off, cs, d', p', rfl, hbl, g1, fun j u hu => ?_, g3, g4⟩
   have := g2 j u hu
   rw [Go.WideShapes.add_plain] at this
   rw [Nat.add_assoc]
   exact this
theorem Pg.open_rs {α β : Type} {lies : Nat → Nat → α → Prop} {reads : α → β → Prop} {cl : α → List Value} {t e : TypeId} {wide : Nat} (ht : Tryz.prog.underlying t = some (.slice e)) (hc : Tryz.prog.cellsOf e = wide) (hw : 0 < wide) (hby : 4 ≤ Tryz.prog.bytesOf e)
  (hl : ∀ b o c, (∀ j u, (cl c)[j]? = some u → W.cell? ⟨b, o + j, none⟩ = some u) → lies b o c) {fuel : Nat} {v : Value} {d : DataW H} {p : List MemPlace} (h : DataW.trod enc Tryz.prog W 0 (fun _ => true) true fuel t [v] = some (d, p)) (hwt : Pg.Lt t d)
  (hel : ∀ n cs d' p', n < fuel → DataW.trod enc Tryz.prog W 0 (fun _ => true) true n e cs = some (d', p') → Pg.Lt e d' → ∃ c y, cs = cl c ∧ reads c y) : ∃ (s : Pg.Sl) (l : List β), v = .slice s.ad s.len s.cap ∧ s.len * Tryz.prog.bytesOf e ≤ reachBytes ∧ Pg.RS W wide lies reads s l := by
 obtain ⟨s, n, hn, hv, h1, h2, hby2, h3⟩ := Pg.open_rows ht hc hw hby h hwt
 obtain ⟨l, h4, h5⟩ := Pg.choose (n := s.len) (Q := fun i (y : β) => ∃ (b o : Nat) (c : α), s.ad = some ⟨b, o, none⟩ ∧ b < W.heap.size ∧ lies b (o + i * wide) c ∧ reads c y) (fun i hi => by
  obtain ⟨b, o, cs, d', p', q1, q2, q3, q4, q5, q6⟩ := h3 i hi
  obtain ⟨c, y, rfl, hy⟩ := hel n cs d' p' hn q5 q6
  exact ⟨y, b, o, c, q1, q2, hl _ _ _ q4, hy⟩)
 exact ⟨s, l, hv, hby2, h4.symm, h1, by rw [h4]; exact h2, h5⟩
theorem Pg.open_ints {fuel : Nat} {v : Value} {d : DataW H} {p : List MemPlace} (h : DataW.trod enc Tryz.prog W 0 (fun _ => true) true fuel 23 [v] = some (d, p)) (hwt : Pg.Lt 23 d) : ∃ (s : Pg.Sl) (l : List Int), v = .slice s.ad s.len s.cap ∧ Pg.RN W s l := by
 obtain ⟨s, l, hv, hby2, hs⟩ := Pg.open_rs (lies := fun b o (z : Int) => W.cell? ⟨b, o, none⟩ = some (.int .i64 z)) (reads := fun z y => z = y) (cl := fun z => [.int .i64 z]) Tryz.underlying23 Tryz.pcells3 (by omega) (by rw [Tryz.pbytes3]; omega) (fun b o c hc => hc 0 _ rfl) h hwt (fun n cs d' p' hn ht hl => by
  obtain ⟨z, e0, _, _⟩ := DataW.trod_int Tryz.underlying3 ht
  exact ⟨z, z, e0, rfl⟩)
 refine ⟨s, l, hv, hs.len, hs.cap, hs.few, fun i z hz => ?_⟩
 obtain ⟨b, o, c, h1, h2, h3, h4⟩ := hs.at_ i z hz
 subst h4
 exact ⟨b, o, h1, h2, by rw [Nat.mul_one] at h3; exact h3⟩
theorem Pg.open_vars {fuel : Nat} {v : Value} {d : DataW H} {p : List MemPlace} (h : DataW.trod enc Tryz.prog W 0 (fun _ => true) true fuel 24 [v] = some (d, p)) (hwt : Pg.Lt 24 d) : ∃ (s : Pg.Sl) (l : List (List Int)), v = .slice s.ad s.len s.cap ∧ s.len ≤ 5864062014634 ∧ Pg.RV W s l := by
 obtain ⟨s, l, hv, hby2, hs⟩ := Pg.open_rs (lies := fun b o (z : Pg.Sl) => W.cell? ⟨b, o, none⟩ = some (.slice z.ad z.len z.cap)) (reads := fun z (y : List Int) => Pg.RN W z y) (cl := fun z => [.slice z.ad z.len z.cap]) Tryz.underlying24 Tryz.pcellsIs (by omega) (by rw [Tryz.pbytesIs]; omega) (fun b o c hc => hc 0 _ rfl) h hwt (fun n cs d' p' hn ht hl => by
  rcases DataW.trod_slice Tryz.underlying23 ht with ⟨hcs, _⟩ | ⟨a, len, cap, elems, rest, m, _, hcs, _⟩
  · rw [hcs] at ht
    obtain ⟨s, l, e1, e2⟩ := Pg.open_ints ht hl
    exact ⟨s, l, by rw [hcs, e1], e2⟩
  · rw [hcs] at ht
    obtain ⟨s, l, e1, e2⟩ := Pg.open_ints ht hl
    exact ⟨s, l, by rw [hcs, e1], e2⟩)
 rw [Tryz.pbytesIs] at hby2
 have e1 : reachBytes = 140737488351232 := rfl
 refine ⟨s, l, hv, by omega, hs.len, hs.cap, hs.few, fun i z hz => ?_⟩
 obtain ⟨b, o, c, h1, h2, h3, h4⟩ := hs.at_ i z hz
 exact ⟨b, o, c, h1, h2, by rw [Nat.mul_one] at h3; exact h3, h4⟩
def Pg.E.cl (e : Pg.E) : List Value := [.int .i64 e.k, .int .i64 e.n, .slice e.args.ad e.args.len e.args.cap]
def Pg.C.cl (c : Pg.C) : List Value := [.int .i64 c.k, .int .i64 c.v, .int .i64 c.f, .int .i64 c.ix.k, .int .i64 c.ix.n, .slice c.ix.args.ad c.ix.args.len c.ix.args.cap, .int .i64 c.ex.k, .int .i64 c.ex.n, .slice c.ex.args.ad c.ex.args.len c.ex.args.cap, .slice c.args.ad c.args.len c.args.cap, .slice c.thn.ad c.thn.len c.thn.cap, .slice c.els.ad c.els.len c.els.cap]
def Pg.F.cl (f : Pg.F) : List Value := [.int .i64 f.params, .slice f.sizes.ad f.sizes.len f.sizes.cap, .slice f.cmds.ad f.cmds.len f.cmds.cap, .int .i64 f.res.k, .int .i64 f.res.n, .slice f.res.args.ad f.res.args.len f.res.args.cap]
end
end Go.Proofs.YtpfogjplnodacaaGreat
