/-
  A program, an expression, variables that came in, as they are read, at any depth. By the verifier.
-/
import Derived.Test.YtpfogjplnodacaaGreatLC
import Derived.Deep.Slices
import Derived.Deep.Strs
import Derived.SizedLaws
namespace Go.Proofs.YtpfogjplnodacaaGreat
open Go.RowKit Go.Deep Go.ChangeShapes
set_option linter.unusedVariables false
theorem Tryz.pcellsX : Tryz.prog.cellsOf 69 = 3 := by kernel_rfl
theorem Tryz.pcellsXs : Tryz.prog.cellsOf 67 = 1 := by kernel_rfl
theorem Tryz.pcellsC : Tryz.prog.cellsOf 107 = 12 := by kernel_rfl
theorem Tryz.pcellsCs : Tryz.prog.cellsOf 76 = 1 := by kernel_rfl
theorem Tryz.pcellsF : Tryz.prog.cellsOf 78 = 6 := by kernel_rfl
theorem Tryz.pcellsFs : Tryz.prog.cellsOf 38 = 1 := by kernel_rfl
theorem Tryz.pcellsP : Tryz.prog.cellsOf 40 = 1 := by kernel_rfl
theorem Tryz.pcells3 : Tryz.prog.cellsOf 3 = 1 := by kernel_rfl
theorem Tryz.pcellsIs : Tryz.prog.cellsOf 23 = 1 := by kernel_rfl
theorem Tryz.pbytesX : Tryz.prog.bytesOf 69 = 40 := by kernel_rfl
theorem Tryz.pbytesC : 4 ≤ Tryz.prog.bytesOf 107 := of_decide_eq_true (by kernel_rfl)
theorem Tryz.pbytesF : 4 ≤ Tryz.prog.bytesOf 78 := of_decide_eq_true (by kernel_rfl)
theorem Tryz.pbytes3 : Tryz.prog.bytesOf 3 = 8 := by kernel_rfl
theorem Tryz.pbytesIs : Tryz.prog.bytesOf 23 = 24 := by kernel_rfl
theorem Pg.len1 {α : Type} : ∀ {cs : List α}, cs.length = 1 → ∃ a, cs = [a]
 | [a], _ => ⟨a, rfl⟩
theorem Pg.len3 {α : Type} : ∀ {cs : List α}, cs.length = 3 → ∃ a b c, cs = [a, b, c]
 | [a, b, c], _ => ⟨a, b, c, rfl⟩
theorem Pg.len4 {α : Type} : ∀ {cs : List α}, cs.length = 4 → ∃ a b c d, cs = [a, b, c, d]
 | [a, b, c, d], _ => ⟨a, b, c, d, rfl⟩
theorem Pg.len6 {α : Type} : ∀ {cs : List α}, cs.length = 6 → ∃ a b c d e f, cs = [a, b, c, d, e, f]
 | [a, b, c, d, e, f], _ => ⟨a, b, c, d, e, f, rfl⟩
theorem Pg.len8 {α : Type} : ∀ {cs : List α}, cs.length = 8 → ∃ a b c d e f g h, cs = [a, b, c, d, e, f, g, h]
 | [a, b, c, d, e, f, g, h], _ => ⟨a, b, c, d, e, f, g, h, rfl⟩
theorem Pg.len12 {α : Type} : ∀ {cs : List α}, cs.length = 12 → ∃ a b c d e f g h i j k l, cs = [a, b, c, d, e, f, g, h, i, j, k, l]
 | [a, b, c, d, e, f, g, h, i, j, k, l], _ => ⟨a, b, c, d, e, f, g, h, i, j, k, l, rfl⟩
theorem Pg.choose {β : Type} {n : Nat} {Q : Nat → β → Prop} (h : ∀ i, i < n → ∃ y, Q i y) : ∃ l : List β, l.length = n ∧ ∀ i y, l[i]? = some y → Q i y := by
 obtain ⟨F, hF⟩ := Classical.axiomOfChoice (show ∀ i : Fin n, ∃ y, Q i.1 y from fun i => h i.1 i.2)
 refine ⟨List.ofFn F, List.length_ofFn, fun i y hy => ?_⟩
 rw [List.getElem?_ofFn] at hy
 by_cases hlt : i < n
 · rw [dif_pos hlt] at hy
   cases hy
   exact hF ⟨i, hlt⟩
 · rw [dif_neg hlt] at hy
   cases hy
theorem Pg.weights_all {H : Type} {P : Program} {e : TypeId} : ∀ {ds : List (DataW H)} {d : DataW H}, d ∈ ds → ∀ n ∈ d.weights P e, n ∈ DataW.weightsAll P e ds
 | d0 :: ds, d, hd, n, hn => by
  unfold DataW.weightsAll
  rcases List.mem_cons.1 hd with rfl | h
  · exact List.mem_append_left _ hn
  · exact List.mem_append_right _ (Pg.weights_all h n hn)
theorem Pg.RS.swap {α β γ : Type} {w : World} {wide : Nat} {lies : Nat → Nat → α → Prop} {reads : α → β → Prop} {reads' : α → γ → Prop} {s : Pg.Sl} {l : List β} (h : Pg.RS w wide lies reads s l) (hr : ∀ c y, y ∈ l → reads c y → ∃ z, reads' c z) : ∃ l', Pg.RS w wide lies reads' s l' := by
 obtain ⟨l', h1, h2⟩ := Pg.choose (n := l.length) (Q := fun i (z : γ) => ∃ (b o : Nat) (c : α), s.ad = some ⟨b, o, none⟩ ∧ b < w.heap.size ∧ lies b (o + i * wide) c ∧ reads' c z) (fun i hi => by
  obtain ⟨b, o, c, q1, q2, q3, q4⟩ := h.at_ i l[i] (List.getElem?_eq_getElem hi)
  obtain ⟨z, hz⟩ := hr c l[i] (List.getElem_mem hi) q4
  exact ⟨z, b, o, c, q1, q2, q3, hz⟩)
 exact ⟨l', h.len.trans h1.symm, h.cap, by rw [h1]; exact h.few, h2⟩
theorem Pg.RX.lift {w : World} : ∀ (n m : Nat), n ≤ m → ∀ {e : Pg.E} {x : Pg.XT n}, Pg.RX w n e x → ∃ y : Pg.XT m, Pg.RX w m e y
 | 0, _, _, _, _, h => absurd h id
 | n + 1, 0, hm, _, _, _ => by omega
 | n + 1, m + 1, hm, e, x, h => by
  obtain ⟨l, hl⟩ := h.2.swap (reads' := Pg.RX w m) (fun c y _ hy => Pg.RX.lift n m (by omega) hy)
  exact ⟨((x.1.1, x.1.2), l), h.1, hl⟩
theorem Pg.RC.lift {w : World} {M : Nat} : ∀ (n m : Nat), n ≤ m → ∀ {c : Pg.C} {x : Pg.CT M n}, Pg.RC w M n c x → ∃ y : Pg.CT M m, Pg.RC w M m c y
 | 0, _, _, _, _, h => absurd h id
 | n + 1, 0, hm, _, _, _ => by omega
 | n + 1, m + 1, hm, c, x, h => by
  obtain ⟨l1, h1⟩ := h.2.2.1.swap (reads' := Pg.RC w M m) (fun c y _ hy => Pg.RC.lift n m (by omega) hy)
  obtain ⟨l2, h2⟩ := h.2.2.2.swap (reads' := Pg.RC w M m) (fun c y _ hy => Pg.RC.lift n m (by omega) hy)
  exact ⟨(x.1, x.2.1, l1, l2), h.1, h.2.1, h1, h2⟩
section
variable {H : Type} {enc : TypeId × Value → H} {W : World}
def Pg.Lt (t : TypeId) (d : DataW H) : Prop := ∀ k ∈ d.weights Tryz.prog t, k ≤ reachBytes
theorem Pg.open_rows {t e : TypeId} {wide : Nat} (ht : Tryz.prog.underlying t = some (.slice e)) (hc : Tryz.prog.cellsOf e = wide) (hw : 0 < wide) (hby : 4 ≤ Tryz.prog.bytesOf e) {fuel : Nat} {v : Value} {d : DataW H} {p : List MemPlace} (h : DataW.trod enc Tryz.prog W 0 (fun _ => true) true fuel t [v] = some (d, p)) (hwt : Pg.Lt t d) :
  ∃ (s : Pg.Sl) (n : Nat), n < fuel ∧ v = .slice s.ad s.len s.cap ∧ s.len ≤ s.cap ∧ s.len ≤ 35184372088832 ∧ s.len * Tryz.prog.bytesOf e ≤ reachBytes ∧ ∀ i, i < s.len → ∃ (b o : Nat) (cs : List Value) (d' : DataW H) (p' : List MemPlace), s.ad = some ⟨b, o, none⟩ ∧ b < W.heap.size ∧ cs.length = wide ∧ (∀ j u, cs[j]? = some u → W.cell? ⟨b, o + i * wide + j, none⟩ = some u) ∧ DataW.trod enc Tryz.prog W 0 (fun _ => true) true n e cs = some (d', p') ∧ Pg.Lt e d' := by
 have hfu : 0 < fuel := by
  cases fuel with
  | zero => simp [DataW.trod] at h
  | succ n => omega
 rcases DataW.trod_slice ht h with ⟨hcs, hx⟩ | ⟨a, len, cap, elems, rest, m, hfm, hcs, hx, hb, hle, hm, hlen2, hel, hsp, hns⟩
 · simp at hcs
   subst hcs
   exact ⟨⟨none, 0, 0⟩, 0, hfu, rfl, Nat.le_refl _, by simp, by show 0 * _ ≤ _; omega, fun i hi => absurd hi (by simp)⟩
 · simp at hcs
   subst hcs hfm
   have hd : d = .slice (elems.map (·.1)) (rest.map (·.1)) := (Prod.mk.inj hx).1
   have hws : ∀ k ∈ ((elems.map (·.1)).length + (rest.map (·.1)).length) * Tryz.prog.bytesOf e :: (DataW.weightsAll Tryz.prog e (elems.map (·.1)) ++ DataW.weightsAll Tryz.prog e (rest.map (·.1))), k ≤ reachBytes := by
    have h1 := hwt
    rw [hd] at h1
    unfold Pg.Lt DataW.weights at h1
    rw [ht] at h1
    exact h1
   have hlong : len ≤ 35184372088832 := by
    have h1 := hws _ List.mem_cons_self
    rw [List.length_map, List.length_map, hlen2] at h1
    have h2 : len * 4 ≤ (len + rest.length) * Tryz.prog.bytesOf e := Nat.mul_le_mul (by omega) hby
    have e1 : reachBytes = 140737488351232 := rfl
    omega
   have hall : len * Tryz.prog.bytesOf e ≤ reachBytes := by
    have h1 := hws _ List.mem_cons_self
    rw [List.length_map, List.length_map, hlen2] at h1
    exact Nat.le_trans (Nat.mul_le_mul (by omega) (Nat.le_refl _)) h1
   refine ⟨⟨some a, len, cap⟩, m, by omega, rfl, hle, hlong, hall, fun i hi => ?_⟩
   have cell : ∀ i, i < len → ∃ (cs : List Value) (d' : DataW H) (p' : List MemPlace), cs.length = wide ∧ (∀ j u, cs[j]? = some u → W.cell? (a.add (i * wide + j)) = some u) ∧ DataW.trod enc Tryz.prog W 0 (fun _ => true) true m e cs = some (d', p') ∧ Pg.Lt e d' := by
    intro i hi
    have h1 := hel i hi
    rw [hc, List.getElem?_eq_getElem (by omega)] at h1
    cases hcc : W.cells? 0 (a.add (i * wide)) wide with
    | none => rw [hcc] at h1; cases h1
    | some cs' =>
     rw [hcc] at h1
     obtain ⟨_, hl', hcell⟩ := World.cells?_some hcc
     refine ⟨cs', (elems[i]'(by omega)).1, (elems[i]'(by omega)).2, hl', fun j u hu => ?_, h1, fun k hk => ?_⟩
     · have hj : j < wide := by rw [← hl']; exact (List.getElem?_eq_some_iff.1 hu).1
       have e0 := hcell j hj
       rw [add_add] at e0
       rw [e0]
       exact hu
     · exact hws k (List.mem_cons_of_mem _ (List.mem_append_left _ (Pg.weights_all (List.mem_map_of_mem (List.getElem_mem (by omega))) k hk)))
   obtain ⟨cs, d', p', g1, g2, g3, g4⟩ := cell i hi
   obtain ⟨b, off, spot⟩ := a
   obtain ⟨u, hu⟩ : ∃ u, cs[0]? = some u := ⟨cs[0]'(by omega), List.getElem?_eq_getElem (by omega)⟩
   obtain ⟨cs0, _, _, k1, k2, _⟩ := cell 0 (by have : i < len := hi; omega)
   have hspot : spot = none := by simpa [Addr.add] using World.cell?_spot (k2 0 (cs0[0]'(by omega)) (List.getElem?_eq_getElem (by omega)))
   subst hspot
   have hbl := World.block_lt_of_cell? W _ (g2 0 u hu)
   rw [Go.WideShapes.add_plain] at hbl
   refine ⟨b, off, cs, d', p', rfl, hbl, g1, fun j u hu => ?_, g3, g4⟩
   have := g2 j u hu
   rw [Go.WideShapes.add_plain] at this
   rw [Nat.add_assoc]
   exact this
theorem Pg.open_rs {α β : Type} {lies : Nat → Nat → α → Prop} {reads : α → β → Prop} {cl : α → List Value} {t e : TypeId} {wide : Nat} (ht : Tryz.prog.underlying t = some (.slice e)) (hc : Tryz.prog.cellsOf e = wide) (hw : 0 < wide) (hby : 4 ≤ Tryz.prog.bytesOf e)
  (hl : ∀ b o c, (∀ j u, (cl c)[j]? = some u → W.cell? ⟨b, o + j, none⟩ = some u) → lies b o c) {fuel : Nat} {v : Value} {d : DataW H} {p : List MemPlace} (h : DataW.trod enc Tryz.prog W 0 (fun _ => true) true fuel t [v] = some (d, p)) (hwt : Pg.Lt t d)
  (hel : ∀ n cs d' p', n < fuel → DataW.trod enc Tryz.prog W 0 (fun _ => true) true n e cs = some (d', p') → Pg.Lt e d' → ∃ c y, cs = cl c ∧ reads c y) : ∃ (s : Pg.Sl) (l : List β), v = .slice s.ad s.len s.cap ∧ s.len * Tryz.prog.bytesOf e ≤ reachBytes ∧ Pg.RS W wide lies reads s l := by
 obtain ⟨s, n, hn, hv, h1, h2, hby2, h3⟩ := Pg.open_rows ht hc hw hby h hwt
 obtain ⟨l, h4, h5⟩ := Pg.choose (n := s.len) (Q := fun i (y : β) => ∃ (b o : Nat) (c : α), s.ad = some ⟨b, o, none⟩ ∧ b < W.heap.size ∧ lies b (o + i * wide) c ∧ reads c y) (fun i hi => by
  obtain ⟨b, o, cs, d', p', q1, q2, q3, q4, q5, q6⟩ := h3 i hi
  obtain ⟨c, y, rfl, hy⟩ := hel n cs d' p' hn q5 q6
  exact ⟨y, b, o, c, q1, q2, hl _ _ _ q4, hy⟩)
 exact ⟨s, l, hv, hby2, h4.symm, h1, by rw [h4]; exact h2, h5⟩
theorem Pg.open_ints {fuel : Nat} {v : Value} {d : DataW H} {p : List MemPlace} (h : DataW.trod enc Tryz.prog W 0 (fun _ => true) true fuel 23 [v] = some (d, p)) (hwt : Pg.Lt 23 d) : ∃ (s : Pg.Sl) (l : List Int), v = .slice s.ad s.len s.cap ∧ Pg.RN W s l := by
 obtain ⟨s, l, hv, hby2, hs⟩ := Pg.open_rs (lies := fun b o (z : Int) => W.cell? ⟨b, o, none⟩ = some (.int .i64 z)) (reads := fun z y => z = y) (cl := fun z => [.int .i64 z]) Tryz.underlying23 Tryz.pcells3 (by omega) (by rw [Tryz.pbytes3]; omega) (fun b o c hc => hc 0 _ rfl) h hwt (fun n cs d' p' hn ht hl => by
  obtain ⟨z, e0, _, _⟩ := DataW.trod_int Tryz.underlying3 ht
  exact ⟨z, z, e0, rfl⟩)
 refine ⟨s, l, hv, hs.len, hs.cap, hs.few, fun i z hz => ?_⟩
 obtain ⟨b, o, c, h1, h2, h3, h4⟩ := hs.at_ i z hz
 subst h4
 exact ⟨b, o, h1, h2, by rw [Nat.mul_one] at h3; exact h3⟩
theorem Pg.open_vars {fuel : Nat} {v : Value} {d : DataW H} {p : List MemPlace} (h : DataW.trod enc Tryz.prog W 0 (fun _ => true) true fuel 24 [v] = some (d, p)) (hwt : Pg.Lt 24 d) : ∃ (s : Pg.Sl) (l : List (List Int)), v = .slice s.ad s.len s.cap ∧ s.len ≤ 5864062014634 ∧ Pg.RV W s l := by
 obtain ⟨s, l, hv, hby2, hs⟩ := Pg.open_rs (lies := fun b o (z : Pg.Sl) => W.cell? ⟨b, o, none⟩ = some (.slice z.ad z.len z.cap)) (reads := fun z (y : List Int) => Pg.RN W z y) (cl := fun z => [.slice z.ad z.len z.cap]) Tryz.underlying24 Tryz.pcellsIs (by omega) (by rw [Tryz.pbytesIs]; omega) (fun b o c hc => hc 0 _ rfl) h hwt (fun n cs d' p' hn ht hl => by
  rcases DataW.trod_slice Tryz.underlying23 ht with ⟨hcs, _⟩ | ⟨a, len, cap, elems, rest, m, _, hcs, _⟩
  · rw [hcs] at ht
    obtain ⟨s, l, e1, e2⟩ := Pg.open_ints ht hl
    exact ⟨s, l, by rw [hcs, e1], e2⟩
  · rw [hcs] at ht
    obtain ⟨s, l, e1, e2⟩ := Pg.open_ints ht hl
    exact ⟨s, l, by rw [hcs, e1], e2⟩)
 rw [Tryz.pbytesIs] at hby2
 have e1 : reachBytes = 140737488351232 := rfl
 refine ⟨s, l, hv, by omega, hs.len, hs.cap, hs.few, fun i z hz => ?_⟩
 obtain ⟨b, o, c, h1, h2, h3, h4⟩ := hs.at_ i z hz
 exact ⟨b, o, c, h1, h2, by rw [Nat.mul_one] at h3; exact h3, h4⟩
def Pg.E.cl (e : Pg.E) : List Value := [.int .i64 e.k, .int .i64 e.n, .slice e.args.ad e.args.len e.args.cap]
def Pg.C.cl (c : Pg.C) : List Value := [.int .i64 c.k, .int .i64 c.v, .int .i64 c.f, .int .i64 c.ix.k, .int .i64 c.ix.n, .slice c.ix.args.ad c.ix.args.len c.ix.args.cap, .int .i64 c.ex.k, .int .i64 c.ex.n, .slice c.ex.args.ad c.ex.args.len c.ex.args.cap, .slice c.args.ad c.args.len c.args.cap, .slice c.thn.ad c.thn.len c.thn.cap, .slice c.els.ad c.els.len c.els.cap]
def Pg.F.cl (f : Pg.F) : List Value := [.int .i64 f.params, .slice f.sizes.ad f.sizes.len f.sizes.cap, .slice f.cmds.ad f.cmds.len f.cmds.cap, .int .i64 f.res.k, .int .i64 f.res.n, .slice f.res.args.ad f.res.args.len f.res.args.cap]
theorem Pg.lieE (b o : Nat) (c : Pg.E) (h : ∀ j u, c.cl[j]? = some u → W.cell? ⟨b, o + j, none⟩ = some u) : Pg.LE W b o c := ⟨h 0 _ rfl, h 1 _ rfl, h 2 _ rfl⟩
theorem Pg.lieC (b o : Nat) (c : Pg.C) (h : ∀ j u, c.cl[j]? = some u → W.cell? ⟨b, o + j, none⟩ = some u) : Pg.LC W b o c := ⟨h 0 _ rfl, h 1 _ rfl, h 2 _ rfl, h 3 _ rfl, h 4 _ rfl, h 5 _ rfl, h 6 _ rfl, h 7 _ rfl, h 8 _ rfl, h 9 _ rfl, h 10 _ rfl, h 11 _ rfl⟩
theorem Pg.lieF (b o : Nat) (c : Pg.F) (h : ∀ j u, c.cl[j]? = some u → W.cell? ⟨b, o + j, none⟩ = some u) : Pg.LF W b o c := ⟨h 0 _ rfl, h 1 _ rfl, h 2 _ rfl, h 3 _ rfl, h 4 _ rfl, h 5 _ rfl⟩
theorem Pg.open_x : ∀ (fuel : Nat) {cs : List Value} {d : DataW H} {p : List MemPlace}, DataW.trod enc Tryz.prog W 0 (fun _ => true) true fuel 69 cs = some (d, p) → Pg.Lt 69 d →
  ∃ (e : Pg.E) (x : Pg.XT fuel), cs = e.cl ∧ Pg.RX W fuel e x := by
 intro fuel
 induction fuel using Nat.strongRecOn with
 | _ fuel ih =>
  intro cs d p h hwt
  obtain ⟨xs, n, hfu, hx, hl, hlen, hf⟩ := DataW.trod_struct Tryz.underlying69 h
  have hd : d = .agg (xs.map (·.1)) := (Prod.mk.inj hx).1
  rw [Tryz.pcellsX] at hl
  obtain ⟨v0, v1, v2, rfl⟩ := Pg.len3 hl
  obtain ⟨x0, x1, x2, rfl⟩ := Pg.len3 (show xs.length = 3 from hlen)
  have f0 : DataW.trod enc Tryz.prog W 0 (fun _ => true) true n 3 (([v0, v1, v2].drop 0).take (Tryz.prog.cellsOf 3)) = some x0 := hf 0 _ rfl
  have f1 : DataW.trod enc Tryz.prog W 0 (fun _ => true) true n 3 (([v0, v1, v2].drop 1).take (Tryz.prog.cellsOf 3)) = some x1 := hf 1 _ rfl
  have f2 : DataW.trod enc Tryz.prog W 0 (fun _ => true) true n 67 (([v0, v1, v2].drop 2).take (Tryz.prog.cellsOf 67)) = some x2 := hf 2 _ rfl
  rw [Tryz.pcells3] at f0 f1
  rw [Tryz.pcellsXs] at f2
  obtain ⟨z0, e0, _, _⟩ := DataW.trod_int Tryz.underlying3 f0
  obtain ⟨z1, e1, _, _⟩ := DataW.trod_int Tryz.underlying3 f1
  simp at e0 e1
  subst e0 e1 hfu
  have hw2 : Pg.Lt 67 x2.1 := fun k hk => hwt k (by
   rw [hd]
   unfold DataW.weights
   rw [Tryz.underlying69]
   exact DataW.weights_mem_each (j := 2) rfl rfl k hk)
  obtain ⟨s, l, hv, hby2, hs⟩ := Pg.open_rs (reads := Pg.RX W n) (cl := Pg.E.cl) Tryz.underlying67 Tryz.pcellsX (by omega) (by rw [Tryz.pbytesX]; omega) Pg.lieE (show DataW.trod enc Tryz.prog W 0 (fun _ => true) true n 67 [v2] = some (x2.1, x2.2) from f2) hw2 (fun m cs' d' p' hm ht hlt => by
   obtain ⟨c, y, h1, h2⟩ := ih m (by omega) ht hlt
   obtain ⟨y', h3⟩ := Pg.RX.lift m n (by omega) h2
   exact ⟨c, y', h1, h3⟩)
  subst hv
  exact ⟨⟨z0, z1, s⟩, ((z0, z1), l), rfl, ⟨rfl, rfl⟩, hs⟩
theorem Pg.open_xs {fuel : Nat} {v : Value} {d : DataW H} {p : List MemPlace} (M : Nat) (hM : fuel ≤ M) (h : DataW.trod enc Tryz.prog W 0 (fun _ => true) true fuel 67 [v] = some (d, p)) (hwt : Pg.Lt 67 d) : ∃ (s : Pg.Sl) (l : List (Pg.XT M)), v = .slice s.ad s.len s.cap ∧ Pg.RS W 3 (Pg.LE W) (Pg.RX W M) s l := by
 obtain ⟨s, l, hv, _, hs⟩ := Pg.open_rs (reads := Pg.RX W M) (cl := Pg.E.cl) Tryz.underlying67 Tryz.pcellsX (by omega) (by rw [Tryz.pbytesX]; omega) Pg.lieE h hwt (fun m cs' d' p' hm ht hlt => by
  obtain ⟨c, y, h1, h2⟩ := Pg.open_x m ht hlt
  obtain ⟨y', h3⟩ := Pg.RX.lift m M (by omega) h2
  exact ⟨c, y', h1, h3⟩)
 exact ⟨s, l, hv, hs⟩
theorem Pg.open_c (M : Nat) : ∀ (fuel : Nat) {cs : List Value} {d : DataW H} {p : List MemPlace}, fuel ≤ M → DataW.trod enc Tryz.prog W 0 (fun _ => true) true fuel 107 cs = some (d, p) → Pg.Lt 107 d →
  ∃ (c : Pg.C) (x : Pg.CT M fuel), cs = c.cl ∧ Pg.RC W M fuel c x := by
 intro fuel
 induction fuel using Nat.strongRecOn with
 | _ fuel ih =>
  intro cs d p hM h hwt
  obtain ⟨xs, n, hfu, hx, hl, hlen, hf⟩ := DataW.trod_struct Tryz.underlying107 h
  have hd : d = .agg (xs.map (·.1)) := (Prod.mk.inj hx).1
  rw [Tryz.pcellsC] at hl
  obtain ⟨v0, v1, v2, v3, v4, v5, v6, v7, v8, v9, v10, v11, rfl⟩ := Pg.len12 hl
  obtain ⟨x0, x1, x2, x3, x4, x5, x6, x7, rfl⟩ := Pg.len8 (show xs.length = 8 from hlen)
  have f0 : DataW.trod enc Tryz.prog W 0 (fun _ => true) true n 3 (([v0, v1, v2, v3, v4, v5, v6, v7, v8, v9, v10, v11].drop 0).take (Tryz.prog.cellsOf 3)) = some x0 := hf 0 _ rfl
  have f1 : DataW.trod enc Tryz.prog W 0 (fun _ => true) true n 3 (([v0, v1, v2, v3, v4, v5, v6, v7, v8, v9, v10, v11].drop 1).take (Tryz.prog.cellsOf 3)) = some x1 := hf 1 _ rfl
  have f2 : DataW.trod enc Tryz.prog W 0 (fun _ => true) true n 3 (([v0, v1, v2, v3, v4, v5, v6, v7, v8, v9, v10, v11].drop 2).take (Tryz.prog.cellsOf 3)) = some x2 := hf 2 _ rfl
  have f3 : DataW.trod enc Tryz.prog W 0 (fun _ => true) true n 69 (([v0, v1, v2, v3, v4, v5, v6, v7, v8, v9, v10, v11].drop 3).take (Tryz.prog.cellsOf 69)) = some x3 := hf 3 _ rfl
  have f4 : DataW.trod enc Tryz.prog W 0 (fun _ => true) true n 69 (([v0, v1, v2, v3, v4, v5, v6, v7, v8, v9, v10, v11].drop 6).take (Tryz.prog.cellsOf 69)) = some x4 := hf 4 _ rfl
  have f5 : DataW.trod enc Tryz.prog W 0 (fun _ => true) true n 67 (([v0, v1, v2, v3, v4, v5, v6, v7, v8, v9, v10, v11].drop 9).take (Tryz.prog.cellsOf 67)) = some x5 := hf 5 _ rfl
  have f6 : DataW.trod enc Tryz.prog W 0 (fun _ => true) true n 76 (([v0, v1, v2, v3, v4, v5, v6, v7, v8, v9, v10, v11].drop 10).take (Tryz.prog.cellsOf 76)) = some x6 := hf 6 _ rfl
  have f7 : DataW.trod enc Tryz.prog W 0 (fun _ => true) true n 76 (([v0, v1, v2, v3, v4, v5, v6, v7, v8, v9, v10, v11].drop 11).take (Tryz.prog.cellsOf 76)) = some x7 := hf 7 _ rfl
  rw [Tryz.pcells3] at f0 f1 f2
  rw [Tryz.pcellsX] at f3 f4
  rw [Tryz.pcellsXs] at f5
  rw [Tryz.pcellsCs] at f6 f7
  obtain ⟨z0, e0, _, _⟩ := DataW.trod_int Tryz.underlying3 f0
  obtain ⟨z1, e1, _, _⟩ := DataW.trod_int Tryz.underlying3 f1
  obtain ⟨z2, e2, _, _⟩ := DataW.trod_int Tryz.underlying3 f2
  simp at e0 e1 e2
  subst e0 e1 e2 hfu
  have hw : ∀ (j : Nat) (t : TypeId) (y : DataW H × List MemPlace), [3, 3, 3, 69, 69, 67, 76, 76][j]? = some t → ([x0, x1, x2, x3, x4, x5, x6, x7].map (·.1))[j]? = some y.1 → Pg.Lt t y.1 := fun j t y hj hy k hk => hwt k (by
   rw [hd]
   unfold DataW.weights
   rw [Tryz.underlying107]
   exact DataW.weights_mem_each (j := j) hj hy k hk)
  obtain ⟨ei, yi, ci, ri⟩ := Pg.open_x n (show DataW.trod enc Tryz.prog W 0 (fun _ => true) true n 69 [v3, v4, v5] = some (x3.1, x3.2) from f3) (hw 3 _ x3 rfl rfl)
  obtain ⟨ee, ye, ce, re⟩ := Pg.open_x n (show DataW.trod enc Tryz.prog W 0 (fun _ => true) true n 69 [v6, v7, v8] = some (x4.1, x4.2) from f4) (hw 4 _ x4 rfl rfl)
  obtain ⟨yi', ri'⟩ := Pg.RX.lift n M (by omega) ri
  obtain ⟨ye', re'⟩ := Pg.RX.lift n M (by omega) re
  obtain ⟨sa, la, ca, ra⟩ := Pg.open_xs M (by omega) (show DataW.trod enc Tryz.prog W 0 (fun _ => true) true n 67 [v9] = some (x5.1, x5.2) from f5) (hw 5 _ x5 rfl rfl)
  have sub : ∀ (v : Value) (y : DataW H × List MemPlace), DataW.trod enc Tryz.prog W 0 (fun _ => true) true n 76 [v] = some (y.1, y.2) → Pg.Lt 76 y.1 → ∃ (s : Pg.Sl) (l : List (Pg.CT M n)), v = .slice s.ad s.len s.cap ∧ Pg.RS W 12 (Pg.LC W) (Pg.RC W M n) s l := fun v y hy hlt => by
   obtain ⟨s, l, hv, _, hs⟩ := Pg.open_rs (reads := Pg.RC W M n) (cl := Pg.C.cl) Tryz.underlying76 Tryz.pcellsC (by omega) Tryz.pbytesC Pg.lieC hy hlt (fun m cs' d' p' hm ht hlt => by
    obtain ⟨c, y, h1, h2⟩ := ih m (by omega) (by omega) ht hlt
    obtain ⟨y', h3⟩ := Pg.RC.lift m n (by omega) h2
    exact ⟨c, y', h1, h3⟩)
   exact ⟨s, l, hv, hs⟩
  obtain ⟨st, lt, ct, rt⟩ := sub v10 x6 f6 (hw 6 _ x6 rfl rfl)
  obtain ⟨sl, ll, cl, rl⟩ := sub v11 x7 f7 (hw 7 _ x7 rfl rfl)
  subst ca ct cl
  cases ci
  cases ce
  exact ⟨⟨z0, z1, z2, ei, ee, sa, st, sl⟩, ((z0, z1, z2), (yi', ye', la), (lt, ll)), rfl, ⟨rfl, rfl, rfl⟩, ⟨ri', re', ra⟩, rt, rl⟩
theorem Pg.open_p {fuel : Nat} {cs : List Value} {d : DataW H} {p : List MemPlace} (h : DataW.trod enc Tryz.prog W 0 (fun _ => true) true fuel 40 cs = some (d, p)) (hwt : Pg.Lt 40 d) :
  ∃ (s : Pg.Sl) (l : List (Pg.FT fuel fuel)), cs = [.slice s.ad s.len s.cap] ∧ Pg.RP W fuel fuel s l ∧ Pg.parFit l := by
 obtain ⟨xs, n, hfu, hx, hl, hlen, hf⟩ := DataW.trod_struct Tryz.underlying40 h
 have hd : d = .agg (xs.map (·.1)) := (Prod.mk.inj hx).1
 rw [Tryz.pcellsP] at hl
 obtain ⟨v0, rfl⟩ := Pg.len1 hl
 obtain ⟨x0, rfl⟩ := Pg.len1 (show xs.length = 1 from hlen)
 have f0 : DataW.trod enc Tryz.prog W 0 (fun _ => true) true n 38 (([v0].drop 0).take (Tryz.prog.cellsOf 38)) = some x0 := hf 0 _ rfl
 rw [Tryz.pcellsFs] at f0
 have hw0 : Pg.Lt 38 x0.1 := fun k hk => hwt k (by
  rw [hd]
  unfold DataW.weights
  rw [Tryz.underlying40]
  exact DataW.weights_mem_each (j := 0) rfl rfl k hk)
 obtain ⟨s, l, hv, hby2, hs⟩ := Pg.open_rs (lies := Pg.LF W) (reads := fun c (y : Pg.FT fuel fuel) => Pg.RF W fuel fuel c y ∧ y.params ≤ 9223372036854775807) (cl := Pg.F.cl) Tryz.underlying38 Tryz.pcellsF (by omega) Tryz.pbytesF Pg.lieF (show DataW.trod enc Tryz.prog W 0 (fun _ => true) true n 38 [v0] = some (x0.1, x0.2) from f0) hw0 (fun m cs' d' p' hm ht hlt => by
  obtain ⟨ys, k, hfk, hy, hl', hlen', hf'⟩ := DataW.trod_struct Tryz.underlying78 ht
  have hd' : d' = .agg (ys.map (·.1)) := (Prod.mk.inj hy).1
  rw [Tryz.pcellsF] at hl'
  obtain ⟨u0, u1, u2, u3, u4, u5, rfl⟩ := Pg.len6 hl'
  obtain ⟨y0, y1, y2, y3, rfl⟩ := Pg.len4 (show ys.length = 4 from hlen')
  have g0 : DataW.trod enc Tryz.prog W 0 (fun _ => true) true k 3 (([u0, u1, u2, u3, u4, u5].drop 0).take (Tryz.prog.cellsOf 3)) = some y0 := hf' 0 _ rfl
  have g1 : DataW.trod enc Tryz.prog W 0 (fun _ => true) true k 23 (([u0, u1, u2, u3, u4, u5].drop 1).take (Tryz.prog.cellsOf 23)) = some y1 := hf' 1 _ rfl
  have g2 : DataW.trod enc Tryz.prog W 0 (fun _ => true) true k 76 (([u0, u1, u2, u3, u4, u5].drop 2).take (Tryz.prog.cellsOf 76)) = some y2 := hf' 2 _ rfl
  have g3 : DataW.trod enc Tryz.prog W 0 (fun _ => true) true k 69 (([u0, u1, u2, u3, u4, u5].drop 3).take (Tryz.prog.cellsOf 69)) = some y3 := hf' 3 _ rfl
  rw [Tryz.pcells3] at g0
  rw [Tryz.pcellsIs] at g1
  rw [Tryz.pcellsCs] at g2
  rw [Tryz.pcellsX] at g3
  obtain ⟨z0, e0, _, hwf⟩ := DataW.trod_int Tryz.underlying3 g0
  simp at e0
  subst e0
  have hw : ∀ (j : Nat) (t : TypeId) (y : DataW H × List MemPlace), [3, 23, 76, 69][j]? = some t → ([y0, y1, y2, y3].map (·.1))[j]? = some y.1 → Pg.Lt t y.1 := fun j t y hj hy k hk => hlt k (by
   rw [hd']
   unfold DataW.weights
   rw [Tryz.underlying78]
   exact DataW.weights_mem_each (j := j) hj hy k hk)
  obtain ⟨ss, ls, cs1, rs⟩ := Pg.open_ints (show DataW.trod enc Tryz.prog W 0 (fun _ => true) true k 23 [u1] = some (y1.1, y1.2) from g1) (hw 1 _ y1 rfl rfl)
  obtain ⟨sc, lc, cs2, _, rc⟩ := Pg.open_rs (reads := Pg.RC W fuel fuel) (cl := Pg.C.cl) Tryz.underlying76 Tryz.pcellsC (by omega) Tryz.pbytesC Pg.lieC (show DataW.trod enc Tryz.prog W 0 (fun _ => true) true k 76 [u2] = some (y2.1, y2.2) from g2) (hw 2 _ y2 rfl rfl) (fun m' cs' d' p' hm' ht' hlt' => by
    obtain ⟨c, y, h1, h2⟩ := Pg.open_c fuel m' (by omega) ht' hlt'
    obtain ⟨y', h3⟩ := Pg.RC.lift m' fuel (by omega) h2
    exact ⟨c, y', h1, h3⟩)
  obtain ⟨er, yr, cr, rr⟩ := Pg.open_x k (show DataW.trod enc Tryz.prog W 0 (fun _ => true) true k 69 [u3, u4, u5] = some (y3.1, y3.2) from g3) (hw 3 _ y3 rfl rfl)
  obtain ⟨yr', rr'⟩ := Pg.RX.lift k fuel (by omega) rr
  subst cs1 cs2
  cases cr
  have hz : z0 ≤ 9223372036854775807 := by
   have h1 : (decide (IntKind.i64.min ≤ z0) && decide (z0 ≤ IntKind.i64.max)) = true := hwf
   have h2 : z0 ≤ IntKind.i64.max := of_decide_eq_true (Bool.and_eq_true_iff.1 h1).2
   have h3 : IntKind.i64.max = 9223372036854775807 := rfl
   omega
  exact ⟨⟨z0, ss, sc, er⟩, ⟨z0, ls, lc, yr'⟩, rfl, ⟨rfl, rs, rc, rr'⟩, hz⟩)
 subst hv
 refine ⟨s, l, rfl, ⟨hs.len, hs.cap, hs.few, fun i y hy => ?_⟩, fun y hy => ?_⟩
 · obtain ⟨b, o, c, h1, h2, h3, h4⟩ := hs.at_ i y hy
   exact ⟨b, o, c, h1, h2, h3, h4.1⟩
 · obtain ⟨i, hi⟩ := List.getElem?_of_mem hy
   obtain ⟨b, o, c, h1, h2, h3, h4⟩ := hs.at_ i y hi
   exact h4.2
end
end Go.Proofs.YtpfogjplnodacaaGreat
