/- By the verifier. -/
import Derived.Test.YtfccpddehpgfoaaGreatDoorXQ
import Derived.Deep.Slices
import Derived.Deep.Strs
import Derived.SizedLaws
namespace Go.Proofs.YtfccpddehpgfoaaGreatDoor
open Go.RowKit Go.Deep Go.ChangeShapes
set_option linter.unusedVariables false
theorem ZbZ : Tryz.prog.cellsOf 52 = 5 := by kernel_rfl
theorem Zej : Tryz.prog.cellsOf 50 = 1 := by kernel_rfl
theorem Zdg : Tryz.prog.cellsOf 56 = 17 := by kernel_rfl
theorem Zc1 : Tryz.prog.cellsOf 49 = 1 := by kernel_rfl
theorem ZeO : Tryz.prog.cellsOf 54 = 10 := by kernel_rfl
theorem Zd1 : Tryz.prog.cellsOf 22 = 1 := by kernel_rfl
theorem ZhN : Tryz.prog.cellsOf 24 = 1 := by kernel_rfl
theorem Ze6 : Tryz.prog.cellsOf 59 = 2 := by kernel_rfl
theorem Zhg : Tryz.prog.cellsOf 48 = 1 := by kernel_rfl
theorem Zhv : Tryz.prog.cellsOf 47 = 1 := by kernel_rfl
theorem ZbE : Tryz.prog.cellsOf 3 = 1 := by kernel_rfl
theorem ZbW : Tryz.prog.cellsOf 9 = 1 := by kernel_rfl
theorem ZeR : 4 ≤ Tryz.prog.bytesOf 52 := of_decide_eq_true (by kernel_rfl)
theorem Ze5 : 4 ≤ Tryz.prog.bytesOf 56 := of_decide_eq_true (by kernel_rfl)
theorem Zij : 4 ≤ Tryz.prog.bytesOf 54 := of_decide_eq_true (by kernel_rfl)
theorem Zin : 4 ≤ Tryz.prog.bytesOf 59 := of_decide_eq_true (by kernel_rfl)
theorem ZhZ : 4 ≤ Tryz.prog.bytesOf 9 := of_decide_eq_true (by kernel_rfl)
theorem Zi3 {α : Type} : ∀ {cs : List α}, cs.length = 1 → ∃ a0, cs = [a0]
 | [a0], _ => ⟨a0, rfl⟩
theorem Zk6 {α : Type} : ∀ {cs : List α}, cs.length = 2 → ∃ a0 a1, cs = [a0, a1]
 | [a0, a1], _ => ⟨a0, a1, rfl⟩
theorem Zlb {α : Type} : ∀ {cs : List α}, cs.length = 5 → ∃ a0 a1 a2 a3 a4, cs = [a0, a1, a2, a3, a4]
 | [a0, a1, a2, a3, a4], _ => ⟨a0, a1, a2, a3, a4, rfl⟩
theorem Zl8 {α : Type} : ∀ {cs : List α}, cs.length = 6 → ∃ a0 a1 a2 a3 a4 a5, cs = [a0, a1, a2, a3, a4, a5]
 | [a0, a1, a2, a3, a4, a5], _ => ⟨a0, a1, a2, a3, a4, a5, rfl⟩
theorem ZlV {α : Type} : ∀ {cs : List α}, cs.length = 9 → ∃ a0 a1 a2 a3 a4 a5 a6 a7 a8, cs = [a0, a1, a2, a3, a4, a5, a6, a7, a8]
 | [a0, a1, a2, a3, a4, a5, a6, a7, a8], _ => ⟨a0, a1, a2, a3, a4, a5, a6, a7, a8, rfl⟩
theorem ZlE {α : Type} : ∀ {cs : List α}, cs.length = 10 → ∃ a0 a1 a2 a3 a4 a5 a6 a7 a8 a9, cs = [a0, a1, a2, a3, a4, a5, a6, a7, a8, a9]
 | [a0, a1, a2, a3, a4, a5, a6, a7, a8, a9], _ => ⟨a0, a1, a2, a3, a4, a5, a6, a7, a8, a9, rfl⟩
theorem ZlN {α : Type} : ∀ {cs : List α}, cs.length = 17 → ∃ a0 a1 a2 a3 a4 a5 a6 a7 a8 a9 a10 a11 a12 a13 a14 a15 a16, cs = [a0, a1, a2, a3, a4, a5, a6, a7, a8, a9, a10, a11, a12, a13, a14, a15, a16]
 | [a0, a1, a2, a3, a4, a5, a6, a7, a8, a9, a10, a11, a12, a13, a14, a15, a16], _ => ⟨a0, a1, a2, a3, a4, a5, a6, a7, a8, a9, a10, a11, a12, a13, a14, a15, a16, rfl⟩
theorem ZhV {β : Type} {n : Nat} {Q : Nat → β → Prop} (h : ∀ i, i < n → ∃ y, Q i y) : ∃ l : List β, l.length = n ∧ ∀ i y, l[i]? = some y → Q i y := by
 obtain ⟨F, hF⟩ := Classical.axiomOfChoice (show ∀ i : Fin n, ∃ y, Q i.1 y from fun i => h i.1 i.2)
 refine ⟨List.ofFn F, List.length_ofFn, fun i y hy => ?_⟩
 rw [List.getElem?_ofFn] at hy
 by_cases hlt : i < n
 · rw [dif_pos hlt] at hy
   cases hy
   exact hF ⟨i, hlt⟩
 rw [dif_neg hlt] at hy
 cases hy
theorem ZdG {H : Type} {P : Program} {e : TypeId} : ∀ {ds : List (DataW H)} {d : DataW H}, d ∈ ds → ∀ n ∈ d.weights P e, n ∈ DataW.weightsAll P e ds
 | d0 :: ds, d, hd, n, hn => by
  unfold DataW.weightsAll
  rcases List.mem_cons.1 hd with rfl | h
  · exact List.mem_append_left _ hn
  exact List.mem_append_right _ (ZdG h n hn)
theorem Tk.RS.swap {α β γ : Type} {w : World} {wide : Nat} {lies : Nat → Nat → α → Prop} {reads : α → β → Prop} {reads' : α → γ → Prop} {s : Tk.Sl} {l : List β} (h : Tk.RS w wide lies reads s l) (hr : ∀ c y, y ∈ l → reads c y → ∃ z, reads' c z) : ∃ l', Tk.RS w wide lies reads' s l' := by
 obtain ⟨l', h1, h2⟩ := ZhV (n := l.length) (Q := fun i (z : γ) => ∃ (b o : Nat) (c : α), s.ad = some ⟨b, o, none⟩ ∧ b < w.heap.size ∧ lies b (o + i * wide) c ∧ reads' c z) (fun i hi => by
  obtain ⟨b, o, c, q1, q2, q3, q4⟩ := h.at_ i l[i] (Zg hi)
  obtain ⟨z, hz⟩ := hr c l[i] (List.getElem_mem hi) q4
  exact ⟨z, b, o, c, q1, q2, q3, hz⟩)
 exact ⟨l', h.len.trans h1.symm, by rw [h1]; exact h.few, h2⟩
theorem Tk.RE.lift {w : World} : ∀ (n m : Nat), n ≤ m → ∀ {e : Tk.E} {x : Zat n}, Tk.RE w n e x → ∃ y : Zat m, Tk.RE w m e y
 | 0, _, _, _, _, h => absurd h id
 | n + 1, 0, hm, _, _, _ => by omega
 | n + 1, m + 1, hm, e, x, h => by
  obtain ⟨l, hl⟩ := h.2.swap (reads' := Tk.RE w m) (fun c y _ hy => Tk.RE.lift n m (by omega) hy)
  exact ⟨(x.1, l), h.1, hl⟩
theorem Tk.RC.lift {w : World} {M : Nat} : ∀ (n m : Nat), n ≤ m → ∀ {c : Tk.C} {x : Zap M n}, Tk.RC w M n c x → ∃ y : Zap M m, Tk.RC w M m c y
 | 0, _, _, _, _, h => absurd h id
 | n + 1, 0, hm, _, _, _ => by omega
 | n + 1, m + 1, hm, c, x, h => by
  obtain ⟨l1, h1⟩ := h.2.2.1.swap (reads' := Tk.RC w M m) (fun c y _ hy => Tk.RC.lift n m (by omega) hy)
  obtain ⟨l2, h2⟩ := h.2.2.2.swap (reads' := Tk.RC w M m) (fun c y _ hy => Tk.RC.lift n m (by omega) hy)
  exact ⟨(x.1, x.2.1, l1, l2), h.1, h.2.1, h1, h2⟩
section
variable {H : Type} {enc : TypeId × Value → H} {W : World}
def Zdc (t : TypeId) (d : DataW H) : Prop := ∀ k ∈ d.weights Tryz.prog t, k ≤ reachBytes
theorem ZhM {t e : TypeId} {wide : Nat} (ht : Tryz.prog.underlying t = some (.slice e)) (hc : Tryz.prog.cellsOf e = wide) (hw : 0 < wide) (hby : 4 ≤ Tryz.prog.bytesOf e) {fuel : Nat} {v : Value} {d : DataW H} {p : List MemPlace} (h : DataW.trod enc Tryz.prog W 0 (fun _ => true) true fuel t [v] = some (d, p)) (hwt : Zdc t d) :
  ∃ (s : Tk.Sl) (n : Nat), n < fuel ∧ v = .slice s.ad s.len s.cap ∧ s.len ≤ s.cap ∧ s.len ≤ 35184372088832 ∧ s.len * Tryz.prog.bytesOf e ≤ reachBytes ∧ ∀ i, i < s.len → ∃ (b o : Nat) (cs : List Value) (d' : DataW H) (p' : List MemPlace), s.ad = some ⟨b, o, none⟩ ∧ b < W.heap.size ∧ cs.length = wide ∧ (∀ j u, cs[j]? = some u → W.cell? ⟨b, o + i * wide + j, none⟩ = some u) ∧ DataW.trod enc Tryz.prog W 0 (fun _ => true) true n e cs = some (d', p') ∧ Zdc e d' := by
 have hfu : 0 < fuel := by
  cases fuel with
  | zero => simp [DataW.trod] at h
  | succ n => omega
 rcases DataW.trod_slice ht h with ⟨hcs, hx⟩ | ⟨a, len, cap, elems, rest, m, hfm, hcs, hx, hb, hle, hm, hlen2, hel, hsp, hns⟩
 · simp at hcs
   subst hcs
   exact ⟨⟨none, 0, 0⟩, 0, hfu, rfl, Nat.le_refl _, by simp, by show 0 * _ ≤ _; omega, fun i hi => absurd hi (by simp)⟩
 simp at hcs
 subst hcs hfm
 have hd : d = .slice (elems.map (·.1)) (rest.map (·.1)) := (Prod.mk.inj hx).1
 have hws : ∀ k ∈ ((elems.map (·.1)).length + (rest.map (·.1)).length) * Tryz.prog.bytesOf e :: (DataW.weightsAll Tryz.prog e (elems.map (·.1)) ++ DataW.weightsAll Tryz.prog e (rest.map (·.1))), k ≤ reachBytes := by
  have h1 := hwt
  rw [hd] at h1
  unfold Zdc DataW.weights at h1
  rw [ht] at h1
  exact h1
 have hlong : len ≤ 35184372088832 := by
  have h1 := hws _ List.mem_cons_self
  rw [List.length_map, List.length_map, hlen2] at h1
  have h2 : len * 4 ≤ (len + rest.length) * Tryz.prog.bytesOf e := Nat.mul_le_mul (by omega) hby
  have e1 : reachBytes = 140737488351232 := rfl
  omega
 have hall : len * Tryz.prog.bytesOf e ≤ reachBytes := by
  have h1 := hws _ List.mem_cons_self
  rw [List.length_map, List.length_map, hlen2] at h1
  exact Nat.le_trans (Nat.mul_le_mul (by omega) Zl) h1
 refine ⟨⟨some a, len, cap⟩, m, by omega, rfl, hle, hlong, hall, fun i hi => ?_⟩
 have cell : ∀ i, i < len → ∃ (cs : List Value) (d' : DataW H) (p' : List MemPlace), cs.length = wide ∧ (∀ j u, cs[j]? = some u → W.cell? (a.add (i * wide + j)) = some u) ∧ DataW.trod enc Tryz.prog W 0 (fun _ => true) true m e cs = some (d', p') ∧ Zdc e d' := by
  intro i hi
  have h1 := hel i hi
  rw [hc, Zg (by omega)] at h1
  cases hcc : W.cells? 0 (a.add (i * wide)) wide with
  | none => rw [hcc] at h1; cases h1
  | some cs' =>
   rw [hcc] at h1
   obtain ⟨_, hl', hcell⟩ := World.cells?_some hcc
   refine ⟨cs', (elems[i]'(by omega)).1, (elems[i]'(by omega)).2, hl', fun j u hu => ?_, h1, fun k hk => ?_⟩
   · have hj : j < wide := by rw [← hl']; exact (List.getElem?_eq_some_iff.1 hu).1
     have e0 := hcell j hj
     rw [add_add] at e0
     rw [e0]
     exact hu
   exact hws k (List.mem_cons_of_mem _ (List.mem_append_left _ (ZdG (List.mem_map_of_mem (List.getElem_mem (by omega))) k hk)))
 obtain ⟨cs, d', p', g1, g2, g3, g4⟩ := cell i hi
 obtain ⟨b, off, spot⟩ := a
 obtain ⟨u, hu⟩ : ∃ u, cs[0]? = some u := ⟨cs[0]'(by omega), Zg (by omega)⟩
 obtain ⟨cs0, _, _, k1, k2, _⟩ := cell 0 (by have : i < len := hi; omega)
 have hspot : spot = none := by simpa [Addr.add] using World.cell?_spot (k2 0 (cs0[0]'(by omega)) (Zg (by omega)))
 subst hspot
 have hbl := World.block_lt_of_cell? W _ (g2 0 u hu)
 rw [Go.WideShapes.add_plain] at hbl
 refine ⟨b, off, cs, d', p', rfl, hbl, g1, fun j u hu => ?_, g3, g4⟩
 have := g2 j u hu
 rw [Go.WideShapes.add_plain] at this
 rw [Nat.add_assoc]
 exact this
theorem Zcb {α β : Type} {lies : Nat → Nat → α → Prop} {reads : α → β → Prop} {cl : α → List Value} {t e : TypeId} {wide : Nat} (ht : Tryz.prog.underlying t = some (.slice e)) (hc : Tryz.prog.cellsOf e = wide) (hw : 0 < wide) (hby : 4 ≤ Tryz.prog.bytesOf e)
  (hl : ∀ b o c, (∀ j u, (cl c)[j]? = some u → W.cell? ⟨b, o + j, none⟩ = some u) → lies b o c) {fuel : Nat} {v : Value} {d : DataW H} {p : List MemPlace} (h : DataW.trod enc Tryz.prog W 0 (fun _ => true) true fuel t [v] = some (d, p)) (hwt : Zdc t d)
  (hel : ∀ n cs d' p', n < fuel → DataW.trod enc Tryz.prog W 0 (fun _ => true) true n e cs = some (d', p') → Zdc e d' → ∃ c y, cs = cl c ∧ reads c y) : ∃ (s : Tk.Sl) (l : List β), v = .slice s.ad s.len s.cap ∧ s.len * Tryz.prog.bytesOf e ≤ reachBytes ∧ Tk.RS W wide lies reads s l := by
 obtain ⟨s, n, hn, hv, h1, h2, hby2, h3⟩ := ZhM ht hc hw hby h hwt
 obtain ⟨l, h4, h5⟩ := ZhV (n := s.len) (Q := fun i (y : β) => ∃ (b o : Nat) (c : α), s.ad = some ⟨b, o, none⟩ ∧ b < W.heap.size ∧ lies b (o + i * wide) c ∧ reads c y) (fun i hi => by
  obtain ⟨b, o, cs, d', p', q1, q2, q3, q4, q5, q6⟩ := h3 i hi
  obtain ⟨c, y, rfl, hy⟩ := hel n cs d' p' hn q5 q6
  exact ⟨y, b, o, c, q1, q2, hl _ _ _ q4, hy⟩)
 exact ⟨s, l, hv, hby2, h4.symm, by rw [h4]; exact h2, h5⟩
def Tk.E.tcl (e : Tk.E) : List Value := [.int .i64 e.k, .int .i64 e.a, .int .i64 e.n, .string e.nm, .slice e.args.ad e.args.len e.args.cap]
def Tk.C.tcl (c : Tk.C) : List Value := [.int .i64 c.k, .int .i64 c.a, .string c.nm, .string c.ot, .int .i64 c.ix.k, .int .i64 c.ix.a, .int .i64 c.ix.n, .string c.ix.nm, .slice c.ix.args.ad c.ix.args.len c.ix.args.cap, .int .i64 c.ex.k, .int .i64 c.ex.a, .int .i64 c.ex.n, .string c.ex.nm, .slice c.ex.args.ad c.ex.args.len c.ex.args.cap, .slice c.args.ad c.args.len c.args.cap, .slice c.th.ad c.th.len c.th.cap, .slice c.el.ad c.el.len c.el.cap]
def Tk.F.tcl (f : Tk.F) : List Value := [.int .i64 f.a, .string f.nm, .slice f.ps.ad f.ps.len f.ps.cap, .slice f.vs.ad f.vs.len f.vs.cap, .slice f.cs.ad f.cs.len f.cs.cap, .int .i64 f.re.k, .int .i64 f.re.a, .int .i64 f.re.n, .string f.re.nm, .slice f.re.args.ad f.re.args.len f.re.args.cap]
theorem Zlq (b o : Nat) (c : Tk.E) (h : ∀ j u, c.tcl[j]? = some u → W.cell? ⟨b, o + j, none⟩ = some u) : Tk.ELies W b o c := ⟨h 0 _ rfl, h 1 _ rfl, h 2 _ rfl, h 3 _ rfl, h 4 _ rfl⟩
theorem Zk7 (b o : Nat) (c : Tk.C) (h : ∀ j u, c.tcl[j]? = some u → W.cell? ⟨b, o + j, none⟩ = some u) : Tk.LC W b o c := ⟨h 0 _ rfl, h 1 _ rfl, h 2 _ rfl, h 3 _ rfl, ⟨h 4 _ rfl, h 5 _ rfl, h 6 _ rfl, h 7 _ rfl, h 8 _ rfl⟩, ⟨h 9 _ rfl, h 10 _ rfl, h 11 _ rfl, h 12 _ rfl, h 13 _ rfl⟩, h 14 _ rfl, h 15 _ rfl, h 16 _ rfl⟩
theorem ZlU (b o : Nat) (c : Tk.F) (h : ∀ j u, c.tcl[j]? = some u → W.cell? ⟨b, o + j, none⟩ = some u) : Tk.LF W b o c := ⟨h 0 _ rfl, h 1 _ rfl, h 2 _ rfl, h 3 _ rfl, h 4 _ rfl, ⟨h 5 _ rfl, h 6 _ rfl, h 7 _ rfl, h 8 _ rfl, h 9 _ rfl⟩⟩
theorem Zd4 : ∀ (fuel : Nat) {cs : List Value} {d : DataW H} {p : List MemPlace}, DataW.trod enc Tryz.prog W 0 (fun _ => true) true fuel 52 cs = some (d, p) → Zdc 52 d →
  ∃ (e : Tk.E) (x : Zat fuel), cs = e.tcl ∧ Tk.RE W fuel e x := by
 intro fuel
 induction fuel using Nat.strongRecOn with
 | _ fuel ih =>
  intro cs d p h hwt
  obtain ⟨xs, n, hfu, hx, hl, hlen, hf⟩ := DataW.trod_struct Tryz.underlying52 h
  have hd : d = .agg (xs.map (·.1)) := (Prod.mk.inj hx).1
  rw [ZbZ] at hl
  obtain ⟨v0, v1, v2, v3, v4, rfl⟩ := Zlb hl
  obtain ⟨x0, x1, x2, x3, x4, rfl⟩ := Zlb (show xs.length = 5 from hlen)
  have f0 : DataW.trod enc Tryz.prog W 0 (fun _ => true) true n 3 (([v0, v1, v2, v3, v4].drop 0).take (Tryz.prog.cellsOf 3)) = some x0 := hf 0 _ rfl
  rw [ZbE] at f0
  have f1 : DataW.trod enc Tryz.prog W 0 (fun _ => true) true n 3 (([v0, v1, v2, v3, v4].drop 1).take (Tryz.prog.cellsOf 3)) = some x1 := hf 1 _ rfl
  rw [ZbE] at f1
  have f2 : DataW.trod enc Tryz.prog W 0 (fun _ => true) true n 3 (([v0, v1, v2, v3, v4].drop 2).take (Tryz.prog.cellsOf 3)) = some x2 := hf 2 _ rfl
  rw [ZbE] at f2
  have f3 : DataW.trod enc Tryz.prog W 0 (fun _ => true) true n 9 (([v0, v1, v2, v3, v4].drop 3).take (Tryz.prog.cellsOf 9)) = some x3 := hf 3 _ rfl
  rw [ZbW] at f3
  have f4 : DataW.trod enc Tryz.prog W 0 (fun _ => true) true n 50 (([v0, v1, v2, v3, v4].drop 4).take (Tryz.prog.cellsOf 50)) = some x4 := hf 4 _ rfl
  rw [Zej] at f4
  have hw : ∀ (j : Nat) (t : TypeId) (y : DataW H × List MemPlace), [3, 3, 3, 9, 50][j]? = some t → ([x0, x1, x2, x3, x4].map (·.1))[j]? = some y.1 → Zdc t y.1 := fun j t y hj hy k hk => hwt k (by
   rw [hd]
   unfold DataW.weights
   rw [Tryz.underlying52]
   exact DataW.weights_mem_each (j := j) hj hy k hk)
  obtain ⟨zf0, ef0, _, _⟩ := DataW.trod_int Tryz.underlying3 f0
  simp at ef0
  obtain ⟨zf1, ef1, _, _⟩ := DataW.trod_int Tryz.underlying3 f1
  simp at ef1
  obtain ⟨zf2, ef2, _, _⟩ := DataW.trod_int Tryz.underlying3 f2
  simp at ef2
  obtain ⟨zf3, ef3, _, mf3⟩ := DataW.trod_string Tryz.underlying9 f3
  simp at ef3
  subst ef0 ef1 ef2 ef3
  subst hfu
  obtain ⟨s, l, hv, hby2, hs⟩ := Zcb (reads := Tk.RE W n) (cl := Tk.E.tcl) Tryz.underlying50 ZbZ (by omega) ZeR Zlq (show DataW.trod enc Tryz.prog W 0 (fun _ => true) true n 50 [v4] = some (x4.1, x4.2) from f4) (hw 4 _ x4 rfl rfl) (fun m cs' d' p' hm ht hlt => by
   obtain ⟨c, y, h1, h2⟩ := ih m (by omega) ht hlt
   obtain ⟨y', h3⟩ := Tk.RE.lift m n (by omega) h2
   exact ⟨c, y', h1, h3⟩)
  subst hv
  exact ⟨⟨zf0, zf1, zf2, zf3, s⟩, ((zf0, zf1, zf2, zf3), l), rfl, ⟨rfl, rfl, rfl, rfl, mf3⟩, hs⟩
theorem ZjR {fuel : Nat} {v : Value} {d : DataW H} {p : List MemPlace} (M : Nat) (hM : fuel ≤ M) (h : DataW.trod enc Tryz.prog W 0 (fun _ => true) true fuel 50 [v] = some (d, p)) (hwt : Zdc 50 d) : ∃ (s : Tk.Sl) (l : List (Zat M)), v = .slice s.ad s.len s.cap ∧ Tk.RS W 5 (Tk.ELies W) (Tk.RE W M) s l := by
 obtain ⟨s, l, hv, _, hs⟩ := Zcb (reads := Tk.RE W M) (cl := Tk.E.tcl) Tryz.underlying50 ZbZ (by omega) ZeR Zlq h hwt (fun m cs' d' p' hm ht hlt => by
  obtain ⟨c, y, h1, h2⟩ := Zd4 m ht hlt
  obtain ⟨y', h3⟩ := Tk.RE.lift m M (by omega) h2
  exact ⟨c, y', h1, h3⟩)
 exact ⟨s, l, hv, hs⟩
theorem Zkx {fuel : Nat} {v : Value} {d : DataW H} {p : List MemPlace} (h : DataW.trod enc Tryz.prog W 0 (fun _ => true) true fuel 47 [v] = some (d, p)) (hwt : Zdc 47 d) : ∃ (s : Tk.Sl) (l : List ByteArray), v = .slice s.ad s.len s.cap ∧ Tk.RS W 1 (ZeF W) Zcv s l := by
 obtain ⟨s, l, hv, _, hs⟩ := Zcb (lies := ZeF W) (reads := Zcv) (cl := fun z => [.string z]) Tryz.underlying47 ZbW (by omega) ZhZ (fun b o c hc => hc 0 _ rfl) h hwt (fun m cs' d' p' hm ht hlt => by
  obtain ⟨z, e0, _, hz⟩ := DataW.trod_string Tryz.underlying9 ht
  exact ⟨z, z, e0, rfl, hz⟩)
 exact ⟨s, l, hv, hs⟩
theorem Zkg {fuel : Nat} {v : Value} {d : DataW H} {p : List MemPlace} (h : DataW.trod enc Tryz.prog W 0 (fun _ => true) true fuel 48 [v] = some (d, p)) (hwt : Zdc 48 d) : ∃ (s : Tk.Sl) (l : List (ByteArray × Int)), v = .slice s.ad s.len s.cap ∧ Tk.RS W 2 (Zew W) Zfe s l := by
 obtain ⟨s, l, hv, _, hs⟩ := Zcb (lies := Zew W) (reads := Zfe) (cl := fun z => [.string z.1, .int .i64 z.2]) Tryz.underlying48 Ze6 (by omega) Zin (fun b o c hc => ⟨hc 0 _ rfl, hc 1 _ rfl⟩) h hwt (fun m cs' d' p' hm ht hlt => by
  obtain ⟨xs, n, hfu, hx, hl, hlen, hf⟩ := DataW.trod_struct Tryz.underlying59 ht
  have hd : d' = .agg (xs.map (·.1)) := (Prod.mk.inj hx).1
  rw [Ze6] at hl
  obtain ⟨v0, v1, rfl⟩ := Zk6 hl
  obtain ⟨x0, x1, rfl⟩ := Zk6 (show xs.length = 2 from hlen)
  have f0 : DataW.trod enc Tryz.prog W 0 (fun _ => true) true n 9 (([v0, v1].drop 0).take (Tryz.prog.cellsOf 9)) = some x0 := hf 0 _ rfl
  rw [ZbW] at f0
  have f1 : DataW.trod enc Tryz.prog W 0 (fun _ => true) true n 3 (([v0, v1].drop 1).take (Tryz.prog.cellsOf 3)) = some x1 := hf 1 _ rfl
  rw [ZbE] at f1
  have hw : ∀ (j : Nat) (t : TypeId) (y : DataW H × List MemPlace), [9, 3][j]? = some t → ([x0, x1].map (·.1))[j]? = some y.1 → Zdc t y.1 := fun j t y hj hy k hk => hlt k (by
   rw [hd]
   unfold DataW.weights
   rw [Tryz.underlying59]
   exact DataW.weights_mem_each (j := j) hj hy k hk)
  obtain ⟨zf0, ef0, _, mf0⟩ := DataW.trod_string Tryz.underlying9 f0
  simp at ef0
  obtain ⟨zf1, ef1, _, _⟩ := DataW.trod_int Tryz.underlying3 f1
  simp at ef1
  subst ef0 ef1
  exact ⟨(zf0, zf1), (zf0, zf1), rfl, rfl, mf0⟩)
 exact ⟨s, l, hv, hs⟩
theorem Zlf (M : Nat) : ∀ (fuel : Nat) {cs : List Value} {d : DataW H} {p : List MemPlace}, fuel ≤ M → DataW.trod enc Tryz.prog W 0 (fun _ => true) true fuel 56 cs = some (d, p) → Zdc 56 d →
  ∃ (c : Tk.C) (x : Zap M fuel), cs = c.tcl ∧ Tk.RC W M fuel c x := by
 intro fuel
 induction fuel using Nat.strongRecOn with
 | _ fuel ih =>
  intro cs d p hM h hwt
  obtain ⟨xs, n, hfu, hx, hl, hlen, hf⟩ := DataW.trod_struct Tryz.underlying56 h
  have hd : d = .agg (xs.map (·.1)) := (Prod.mk.inj hx).1
  rw [Zdg] at hl
  obtain ⟨v0, v1, v2, v3, v4, v5, v6, v7, v8, v9, v10, v11, v12, v13, v14, v15, v16, rfl⟩ := ZlN hl
  obtain ⟨x0, x1, x2, x3, x4, x5, x6, x7, x8, rfl⟩ := ZlV (show xs.length = 9 from hlen)
  have f0 : DataW.trod enc Tryz.prog W 0 (fun _ => true) true n 3 (([v0, v1, v2, v3, v4, v5, v6, v7, v8, v9, v10, v11, v12, v13, v14, v15, v16].drop 0).take (Tryz.prog.cellsOf 3)) = some x0 := hf 0 _ rfl
  rw [ZbE] at f0
  have f1 : DataW.trod enc Tryz.prog W 0 (fun _ => true) true n 3 (([v0, v1, v2, v3, v4, v5, v6, v7, v8, v9, v10, v11, v12, v13, v14, v15, v16].drop 1).take (Tryz.prog.cellsOf 3)) = some x1 := hf 1 _ rfl
  rw [ZbE] at f1
  have f2 : DataW.trod enc Tryz.prog W 0 (fun _ => true) true n 9 (([v0, v1, v2, v3, v4, v5, v6, v7, v8, v9, v10, v11, v12, v13, v14, v15, v16].drop 2).take (Tryz.prog.cellsOf 9)) = some x2 := hf 2 _ rfl
  rw [ZbW] at f2
  have f3 : DataW.trod enc Tryz.prog W 0 (fun _ => true) true n 9 (([v0, v1, v2, v3, v4, v5, v6, v7, v8, v9, v10, v11, v12, v13, v14, v15, v16].drop 3).take (Tryz.prog.cellsOf 9)) = some x3 := hf 3 _ rfl
  rw [ZbW] at f3
  have f4 : DataW.trod enc Tryz.prog W 0 (fun _ => true) true n 52 (([v0, v1, v2, v3, v4, v5, v6, v7, v8, v9, v10, v11, v12, v13, v14, v15, v16].drop 4).take (Tryz.prog.cellsOf 52)) = some x4 := hf 4 _ rfl
  rw [ZbZ] at f4
  have f5 : DataW.trod enc Tryz.prog W 0 (fun _ => true) true n 52 (([v0, v1, v2, v3, v4, v5, v6, v7, v8, v9, v10, v11, v12, v13, v14, v15, v16].drop 9).take (Tryz.prog.cellsOf 52)) = some x5 := hf 5 _ rfl
  rw [ZbZ] at f5
  have f6 : DataW.trod enc Tryz.prog W 0 (fun _ => true) true n 50 (([v0, v1, v2, v3, v4, v5, v6, v7, v8, v9, v10, v11, v12, v13, v14, v15, v16].drop 14).take (Tryz.prog.cellsOf 50)) = some x6 := hf 6 _ rfl
  rw [Zej] at f6
  have f7 : DataW.trod enc Tryz.prog W 0 (fun _ => true) true n 49 (([v0, v1, v2, v3, v4, v5, v6, v7, v8, v9, v10, v11, v12, v13, v14, v15, v16].drop 15).take (Tryz.prog.cellsOf 49)) = some x7 := hf 7 _ rfl
  rw [Zc1] at f7
  have f8 : DataW.trod enc Tryz.prog W 0 (fun _ => true) true n 49 (([v0, v1, v2, v3, v4, v5, v6, v7, v8, v9, v10, v11, v12, v13, v14, v15, v16].drop 16).take (Tryz.prog.cellsOf 49)) = some x8 := hf 8 _ rfl
  rw [Zc1] at f8
  have hw : ∀ (j : Nat) (t : TypeId) (y : DataW H × List MemPlace), [3, 3, 9, 9, 52, 52, 50, 49, 49][j]? = some t → ([x0, x1, x2, x3, x4, x5, x6, x7, x8].map (·.1))[j]? = some y.1 → Zdc t y.1 := fun j t y hj hy k hk => hwt k (by
   rw [hd]
   unfold DataW.weights
   rw [Tryz.underlying56]
   exact DataW.weights_mem_each (j := j) hj hy k hk)
  obtain ⟨zf0, ef0, _, _⟩ := DataW.trod_int Tryz.underlying3 f0
  simp at ef0
  obtain ⟨zf1, ef1, _, _⟩ := DataW.trod_int Tryz.underlying3 f1
  simp at ef1
  obtain ⟨zf2, ef2, _, mf2⟩ := DataW.trod_string Tryz.underlying9 f2
  simp at ef2
  obtain ⟨zf3, ef3, _, mf3⟩ := DataW.trod_string Tryz.underlying9 f3
  simp at ef3
  subst ef0 ef1 ef2 ef3
  subst hfu
  obtain ⟨ei, yi, ci, ri⟩ := Zd4 n (show DataW.trod enc Tryz.prog W 0 (fun _ => true) true n 52 [v4, v5, v6, v7, v8] = some (x4.1, x4.2) from f4) (hw 4 _ x4 rfl rfl)
  obtain ⟨ee, ye, ce, re⟩ := Zd4 n (show DataW.trod enc Tryz.prog W 0 (fun _ => true) true n 52 [v9, v10, v11, v12, v13] = some (x5.1, x5.2) from f5) (hw 5 _ x5 rfl rfl)
  obtain ⟨yi', ri'⟩ := Tk.RE.lift n M (by omega) ri
  obtain ⟨ye', re'⟩ := Tk.RE.lift n M (by omega) re
  obtain ⟨sa, la, ca, ra⟩ := ZjR M (by omega) (show DataW.trod enc Tryz.prog W 0 (fun _ => true) true n 50 [v14] = some (x6.1, x6.2) from f6) (hw 6 _ x6 rfl rfl)
  have sub : ∀ (v : Value) (y : DataW H × List MemPlace), DataW.trod enc Tryz.prog W 0 (fun _ => true) true n 49 [v] = some (y.1, y.2) → Zdc 49 y.1 → ∃ (s : Tk.Sl) (l : List (Zap M n)), v = .slice s.ad s.len s.cap ∧ Tk.RS W 17 (Tk.LC W) (Tk.RC W M n) s l := fun v y hy hlt => by
   obtain ⟨s, l, hv, _, hs⟩ := Zcb (reads := Tk.RC W M n) (cl := Tk.C.tcl) Tryz.underlying49 Zdg (by omega) Ze5 Zk7 hy hlt (fun m cs' d' p' hm ht hlt => by
    obtain ⟨c, y, h1, h2⟩ := ih m (by omega) (by omega) ht hlt
    obtain ⟨y', h3⟩ := Tk.RC.lift m n (by omega) h2
    exact ⟨c, y', h1, h3⟩)
   exact ⟨s, l, hv, hs⟩
  obtain ⟨st, lt, ct, rt⟩ := sub v15 x7 f7 (hw 7 _ x7 rfl rfl)
  obtain ⟨sl, ll, cl, rl⟩ := sub v16 x8 f8 (hw 8 _ x8 rfl rfl)
  subst ca ct cl
  cases ci
  cases ce
  exact ⟨⟨zf0, zf1, zf2, zf3, ei, ee, sa, st, sl⟩, ((zf0, zf1, zf2, zf3), (yi', ye', la), (lt, ll)), rfl, ⟨⟨rfl, rfl, rfl, rfl⟩, mf2, mf3⟩, ⟨ri', re', ra⟩, rt, rl⟩
theorem Zk0 {fuel : Nat} {cs : List Value} {d : DataW H} {p : List MemPlace} (h : DataW.trod enc Tryz.prog W 0 (fun _ => true) true fuel 24 cs = some (d, p)) (hwt : Zdc 24 d) :
  ∃ (s : Tk.Sl) (l : List (Tk.FT fuel fuel)), cs = [.slice s.ad s.len s.cap] ∧ Tk.RT W fuel fuel s l := by
 obtain ⟨xs, n, hfu, hx, hl, hlen, hf⟩ := DataW.trod_struct Tryz.underlying24 h
 have hd : d = .agg (xs.map (·.1)) := (Prod.mk.inj hx).1
 rw [ZhN] at hl
 obtain ⟨v0, rfl⟩ := Zi3 hl
 obtain ⟨x0, rfl⟩ := Zi3 (show xs.length = 1 from hlen)
 have f0 : DataW.trod enc Tryz.prog W 0 (fun _ => true) true n 22 (([v0].drop 0).take (Tryz.prog.cellsOf 22)) = some x0 := hf 0 _ rfl
 rw [Zd1] at f0
 have hw0 : Zdc 22 x0.1 := fun k hk => hwt k (by
  rw [hd]
  unfold DataW.weights
  rw [Tryz.underlying24]
  exact DataW.weights_mem_each (j := 0) rfl rfl k hk)
 obtain ⟨s, l, hv, hby2, hs⟩ := Zcb (lies := Tk.LF W) (reads := Tk.RF W fuel fuel) (cl := Tk.F.tcl) Tryz.underlying22 ZeO (by omega) Zij ZlU (show DataW.trod enc Tryz.prog W 0 (fun _ => true) true n 22 [v0] = some (x0.1, x0.2) from f0) hw0 (fun m cs' d' p' hm ht hlt => by
  obtain ⟨ys, k, hfk, hy, hl', hlen', hf'⟩ := DataW.trod_struct Tryz.underlying54 ht
  have hd' : d' = .agg (ys.map (·.1)) := (Prod.mk.inj hy).1
  rw [ZeO] at hl'
  obtain ⟨u0, u1, u2, u3, u4, u5, u6, u7, u8, u9, rfl⟩ := ZlE hl'
  obtain ⟨y0, y1, y2, y3, y4, y5, rfl⟩ := Zl8 (show ys.length = 6 from hlen')
  have g0 : DataW.trod enc Tryz.prog W 0 (fun _ => true) true k 3 (([u0, u1, u2, u3, u4, u5, u6, u7, u8, u9].drop 0).take (Tryz.prog.cellsOf 3)) = some y0 := hf' 0 _ rfl
  rw [ZbE] at g0
  have g1 : DataW.trod enc Tryz.prog W 0 (fun _ => true) true k 9 (([u0, u1, u2, u3, u4, u5, u6, u7, u8, u9].drop 1).take (Tryz.prog.cellsOf 9)) = some y1 := hf' 1 _ rfl
  rw [ZbW] at g1
  have g2 : DataW.trod enc Tryz.prog W 0 (fun _ => true) true k 47 (([u0, u1, u2, u3, u4, u5, u6, u7, u8, u9].drop 2).take (Tryz.prog.cellsOf 47)) = some y2 := hf' 2 _ rfl
  rw [Zhv] at g2
  have g3 : DataW.trod enc Tryz.prog W 0 (fun _ => true) true k 48 (([u0, u1, u2, u3, u4, u5, u6, u7, u8, u9].drop 3).take (Tryz.prog.cellsOf 48)) = some y3 := hf' 3 _ rfl
  rw [Zhg] at g3
  have g4 : DataW.trod enc Tryz.prog W 0 (fun _ => true) true k 49 (([u0, u1, u2, u3, u4, u5, u6, u7, u8, u9].drop 4).take (Tryz.prog.cellsOf 49)) = some y4 := hf' 4 _ rfl
  rw [Zc1] at g4
  have g5 : DataW.trod enc Tryz.prog W 0 (fun _ => true) true k 52 (([u0, u1, u2, u3, u4, u5, u6, u7, u8, u9].drop 5).take (Tryz.prog.cellsOf 52)) = some y5 := hf' 5 _ rfl
  rw [ZbZ] at g5
  have hw : ∀ (j : Nat) (t : TypeId) (y : DataW H × List MemPlace), [3, 9, 47, 48, 49, 52][j]? = some t → ([y0, y1, y2, y3, y4, y5].map (·.1))[j]? = some y.1 → Zdc t y.1 := fun j t y hj hy k hk => hlt k (by
   rw [hd']
   unfold DataW.weights
   rw [Tryz.underlying54]
   exact DataW.weights_mem_each (j := j) hj hy k hk)
  obtain ⟨zg0, eg0, _, _⟩ := DataW.trod_int Tryz.underlying3 g0
  simp at eg0
  obtain ⟨zg1, eg1, _, mg1⟩ := DataW.trod_string Tryz.underlying9 g1
  simp at eg1
  subst eg0 eg1
  obtain ⟨ss, ls, cs1, rs⟩ := Zkx (show DataW.trod enc Tryz.prog W 0 (fun _ => true) true k 47 [u2] = some (y2.1, y2.2) from g2) (hw 2 _ y2 rfl rfl)
  obtain ⟨sv, lv, cs3, rv⟩ := Zkg (show DataW.trod enc Tryz.prog W 0 (fun _ => true) true k 48 [u3] = some (y3.1, y3.2) from g3) (hw 3 _ y3 rfl rfl)
  obtain ⟨sc, lc, cs2, _, rc⟩ := Zcb (reads := Tk.RC W fuel fuel) (cl := Tk.C.tcl) Tryz.underlying49 Zdg (by omega) Ze5 Zk7 (show DataW.trod enc Tryz.prog W 0 (fun _ => true) true k 49 [u4] = some (y4.1, y4.2) from g4) (hw 4 _ y4 rfl rfl) (fun m' cs' d' p' hm' ht' hlt' => by
    obtain ⟨c, y, h1, h2⟩ := Zlf fuel m' (by omega) ht' hlt'
    obtain ⟨y', h3⟩ := Tk.RC.lift m' fuel (by omega) h2
    exact ⟨c, y', h1, h3⟩)
  obtain ⟨er, yr, cr, rr⟩ := Zd4 k (show DataW.trod enc Tryz.prog W 0 (fun _ => true) true k 52 [u5, u6, u7, u8, u9] = some (y5.1, y5.2) from g5) (hw 5 _ y5 rfl rfl)
  obtain ⟨yr', rr'⟩ := Tk.RE.lift k fuel (by omega) rr
  subst cs1 cs2 cs3
  cases cr
  exact ⟨⟨zg0, zg1, ss, sv, sc, er⟩, ⟨zg0, zg1, ls, lv, lc, yr'⟩, rfl, ⟨rfl, rfl, mg1, rs, rv, rc, rr'⟩⟩)
 subst hv
 exact ⟨s, l, rfl, hs⟩
end
end Go.Proofs.YtfccpddehpgfoaaGreatDoor
