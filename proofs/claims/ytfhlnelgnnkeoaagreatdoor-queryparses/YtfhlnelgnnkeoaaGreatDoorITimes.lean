/-
  The contract of timesOf: a map of times. By the verifier.
-/
import Derived.Test.YtfhlnelgnnkeoaaGreatDoorISearch
import Derived.Deep.AppendLies
namespace Go.Proofs.YtfhlnelgnnkeoaaGreatDoor
open Go.RowKit Go.Maps
open Go.ChangeMaps Go.MapKept Go.ChangeShapes
open Go.WideElems (Fit rd rg pl rd_val elemAt)
set_option linter.unusedVariables false

theorem Tryz.info3 : (Tryz.prog.info? 3).map (fun i => (i.zero, i.size, i.bytes)) = some (some (.int .i64 0), 1, 8) := by kernel_rfl
theorem Tryz.zeroInts (w : World) : (zeroValue 109).run Tryz.prog w = .ok (.slice none 0 0) w := by kernel_rfl
theorem Tryz.keyed : Keyed Tryz.prog 3 := int_keyed Tryz.underlying3

theorem Ix.ow_below {W w' : World} {B : Nat} {e : TypeId} {size : Nat} {v : Value} {n : Nat} {xs : List Value} (h : W.ownsRow B e size v n xs) (hb : Below W.heap.size W w') : w'.ownsRow B e size v n xs := by
  obtain ⟨h1, h2⟩ := h
  refine ⟨h1, ?_⟩
  rcases h2 with h2 | ⟨g, cap, cur, hv, hB, hg, rest⟩
  · exact Or.inl h2
  · exact Or.inr ⟨g, cap, cur, hv, hB, (hb.block g (Array.getElem?_eq_some_iff.1 hg).1).trans hg, rest⟩

theorem Ix.groups_below {H : Type} {P : Program} {k e : TypeId} {q : IntKind} {base b n : Nat} {D : DataW H} {w w' : World} (h : w.ownsGroups P k base e q b n D) (hb : Below w.heap.size w w') : w'.ownsGroups P k base e q b n D := by
  obtain ⟨es, clock, hm, F, hs, rfl, hbb, hlen, hap⟩ := h
  have keep : ∀ v zs, w.ownsInts base e q v zs → w'.ownsInts base e q v zs := fun v zs ho => ⟨Ix.ow_below ho.1 hb, ho.2⟩
  have hs2 : ∀ x ∈ es.toList, ∀ z, rowElem (H := H) w base e q x.val = some z → rowElem w' base e q x.val = some z := by
    intro x _ z hz
    obtain ⟨ys, ho, rfl⟩ := rowElem_inv hz
    exact rowElem_mk (keep _ _ ho)
  obtain ⟨F2, hmap2, _⟩ := F.stay hs2
  refine ⟨es, clock, (hb.block b (Array.getElem?_eq_some_iff.1 hm).1).trans hm, F2, hs, by rw [hmap2], hbb, ?_, hap⟩
  intro x hx zs ho
  obtain ⟨y, hy⟩ := F.reads x hx
  obtain ⟨z, hz, _⟩ := rd_val hy
  obtain ⟨zs0, ho0, _⟩ := rowElem_inv hz
  rw [ho.unique (keep _ _ ho0)]
  exact hlen x hx zs0 ho0
theorem Ix.groups_mono {H : Type} {P : Program} {k e : TypeId} {q : IntKind} {base b n m : Nat} {D : DataW H} {w : World} (h : w.ownsGroups P k base e q b n D) (hn : n ≤ m) : w.ownsGroups P k base e q b m D := by
  obtain ⟨es, clock, hm, F, hs, hD, hbb, hlen, hap⟩ := h
  exact ⟨es, clock, hm, F, by omega, hD, hbb, fun x hx zs ho => Nat.le_trans (hlen x hx zs ho) hn, hap⟩

/-- What a reading of a slice has. -/
def Ix.items : DataW Unit → List (DataW Unit)
  | .slice es _ => es
  | _ => []
theorem Ix.items_row {w : World} {base : Nat} {e : TypeId} {v : Value} {zs : List Int} (h : w.ownsInts base e .i64 v zs) : Ix.items (rowDatum .i64 v zs) = lits .i64 zs := by
  rcases h.datum (H := Unit) with ⟨h1, rfl⟩ | h1
  · rw [h1]; rfl
  · rw [h1]; rfl
theorem Ix.lits_inj {a b : List Int} (h : (lits .i64 a : List (DataW Unit)) = lits .i64 b) : a = b := by
  unfold lits at h
  exact (List.map_inj_right (fun x y hxy => by simpa using hxy)).1 h
def Ix.wf (n : Int) : Prop := (Lit.int .i64 n).wf = true
/-- The map tells the times less than k. -/
def Ix.Tells (D : DataW Unit) (kind : Int) (l : List Ev) (k : Nat) : Prop := IsMap D ∧ ∀ n : Int, Ix.items (D.atKey (.int .i64 n) .nil) = lits .i64 (Ix.T kind n l k)
/-- It tells of all besides of the event at k. -/
def Ix.Mid (D : DataW Unit) (kind : Int) (l : List Ev) (k : Nat) : Prop := IsMap D ∧ ∀ n : Int, Ix.items (D.atKey (.int .i64 n) .nil) = lits .i64 (if n = -1 then Ix.T kind n l k ++ [(k : Int)] else Ix.T kind n l k)

theorem Ix.Tells.zero (kind : Int) (l : List Ev) : Ix.Tells (.map []) kind l 0 := ⟨isMap_empty, fun n => rfl⟩
theorem Ix.Tells.skip {D : DataW Unit} {kind : Int} {l : List Ev} {k : Nat} {e : Ev} (h : Ix.Tells D kind l k) (he : l[k]? = some e) (hk : e.n0 ≠ kind) : Ix.Tells D kind l (k + 1) :=
  ⟨h.1, fun n => by rw [h.2 n, Ix.T_step kind n l k e he, if_neg (by simp [Ix.fits, hk])]⟩
theorem Ix.Tells.first {D : DataW Unit} {kind : Int} {l : List Ev} {k : Nat} {w w1 : World} {base base' : Nat} {t t' : TypeId} {v v' : Value} {zs : List Int} (h : Ix.Tells D kind l k)
    (hat : D.atKey (.int .i64 (-1)) .nil = rowDatum .i64 v zs) (hoi : w.ownsInts base t .i64 v zs) (hoi' : w1.ownsInts base' t' .i64 v' (zs ++ [(k : Int)])) : Ix.Mid (D.put (.int .i64 (-1)) (rowDatum .i64 v' (zs ++ [(k : Int)]))) kind l k := by
  have hz : zs = Ix.T kind (-1) l k := Ix.lits_inj (by rw [← Ix.items_row hoi, ← hat]; exact h.2 (-1))
  refine ⟨h.1.put _ _, fun n => ?_⟩
  by_cases hn : n = -1
  · subst hn
    rw [atKey_put_same h.1 (by trivial), Ix.items_row hoi', if_pos rfl, hz]
  · rw [atKey_put_other (by intro e; cases e; exact hn rfl), h.2 n, if_neg hn]
theorem Ix.Mid.only {D : DataW Unit} {kind : Int} {l : List Ev} {k : Nat} {e : Ev} (h : Ix.Mid D kind l k) (he : l[k]? = some e) (hk : e.n0 = kind) (ha : Ix.about e = -1) : Ix.Tells D kind l (k + 1) :=
  ⟨h.1, fun n => by
    rw [h.2 n, Ix.T_step kind n l k e he]
    by_cases hn : n = -1
    · rw [if_pos hn, if_pos (by simp [Ix.fits, hk, hn])]
    · rw [if_neg hn, if_neg (by simp [Ix.fits, hn, ha])]⟩
theorem Ix.Mid.both {D : DataW Unit} {kind : Int} {l : List Ev} {k : Nat} {e : Ev} {w w1 : World} {base base' : Nat} {t t' : TypeId} {v v' : Value} {zs : List Int} (h : Ix.Mid D kind l k) (he : l[k]? = some e) (hk : e.n0 = kind) (ha : Ix.about e ≠ -1)
    (hat : D.atKey (.int .i64 (Ix.about e)) .nil = rowDatum .i64 v zs) (hoi : w.ownsInts base t .i64 v zs) (hoi' : w1.ownsInts base' t' .i64 v' (zs ++ [(k : Int)])) : Ix.Tells (D.put (.int .i64 (Ix.about e)) (rowDatum .i64 v' (zs ++ [(k : Int)]))) kind l (k + 1) := by
  have hz : zs = Ix.T kind (Ix.about e) l k := Ix.lits_inj (by rw [← Ix.items_row hoi, ← hat, h.2, if_neg ha])
  refine ⟨h.1.put _ _, fun n => ?_⟩
  rw [Ix.T_step kind n l k e he]
  by_cases hn : n = Ix.about e
  · subst hn
    rw [atKey_put_same h.1 (by trivial), Ix.items_row hoi', if_pos (by simp [Ix.fits, hk]), hz]
  · rw [atKey_put_other (by intro e; cases e; exact hn rfl), h.2 n]
    by_cases h1 : n = -1
    · rw [if_pos h1, if_pos (by simp [Ix.fits, hk, h1])]
    · rw [if_neg h1, if_neg (by simp [Ix.fits, h1, hn])]
def Ev.wf (e : Ev) : Prop := Ix.wf e.n0 ∧ Ix.wf e.n1 ∧ Ix.wf e.n2 ∧ Ix.wf e.n3 ∧ Ix.wf e.n4 ∧ Ix.wf e.n5
theorem Ev.wf_about {e : Ev} (h : e.wf) : Ix.wf (Ix.about e) := by
  obtain ⟨h0, h1, h2, h3, h4, h5⟩ := h
  unfold Ix.about
  split
  · exact h2
  · split
    · exact h3
    · exact h5

theorem Ix.cell_grown {w w' : World} {row : Option Nat} (hg : w.grownBy w' row) {b : Nat} (hb : b < w.heap.size) (hne : some b ≠ row) (o : Nat) : w'.cell? ⟨b, o, none⟩ = w.cell? ⟨b, o, none⟩ := by
  simp [World.cell?, hg.block b hb hne]
/-- A row of numbers is no block of another type. -/
theorem Ix.row_ne {w : World} {base : Nat} {e : TypeId} {q : IntKind} {v : Value} {zs : List Int} (h : w.ownsInts base e q v zs) {g : Nat} {cs : Array Value} {t : TypeId} {fz : Nat × Nat} (hg : w.heap[g]? = some (.cells cs t fz)) (ht : t ≠ e) : some g ≠ v.ownBlock := by
  intro hv
  rcases h.1.2 with ⟨rfl, _⟩ | ⟨g', cap, cur, rfl, _, hg', _⟩
  · simp [Value.ownBlock] at hv
  · simp [Value.ownBlock] at hv
    subst hv
    rw [hg] at hg'
    cases hg'
    exact ht rfl

theorem Ix.block_kept {W1 w1 w2 : World} {g b : Nat} {row : Option Nat} {ob : Obj} (hx : W1.heap[g]? = some ob) (hall : W1.grownBy w1 row) (hne : some g ≠ row) (hg2 : w1.grownBy w2 (some b)) (hgb : g ≠ b) : w2.heap[g]? = some ob := by
  have hlt : g < W1.heap.size := (Array.getElem?_eq_some_iff.1 hx).1
  rw [hg2.block g (Nat.lt_of_lt_of_le hlt hall.size) (by intro e; cases e; exact hgb rfl), hall.block g hlt hne]
  exact hx
theorem Ix.ev_cells {w : World} {g : Nat} {t : Ev} (h : w.heap[g]? = some (Obj.cells #[.int .i64 t.n0, .int .i64 t.n1, .int .i64 t.n2, .int .i64 t.n3, .int .i64 t.n4, .int .i64 t.n5] 71)) :
    w.cell? ⟨g, 0, none⟩ = some (.int .i64 t.n0) ∧ w.cell? ⟨g, 1, none⟩ = some (.int .i64 t.n1) ∧ w.cell? ⟨g, 2, none⟩ = some (.int .i64 t.n2) ∧ w.cell? ⟨g, 3, none⟩ = some (.int .i64 t.n3) ∧ w.cell? ⟨g, 4, none⟩ = some (.int .i64 t.n4) ∧ w.cell? ⟨g, 5, none⟩ = some (.int .i64 t.n5) := by
  simp [World.cell?, h]

set_option maxRecDepth 100000 in
set_option maxHeartbeats 1600000 in
theorem timesOf_any (l : List Ev) (ad : Option Addr) (cap : Nat) (kind : Int) (w : World) (hr : Cl.RE w ad l) (hw : ∀ e ∈ l, e.wf) (hl : l.length ≤ 4000) :
    Calls Tryz.prog 104 #[.slice ad l.length cap, .int .i64 kind] w fun e w' => ∃ D : DataW Unit, e = .returned (.map (some w.heap.size)) ∧ w'.ownsGroups Tryz.prog 3 (w.heap.size + 1) 3 .i64 w.heap.size (2 * l.length) D ∧ Ix.Tells D kind l l.length ∧ Below w.heap.size w w' := by
  have hmm := @run_makeMap Tryz.prog
  obtain ⟨i0, hi, hz0, hz1, hz2⟩ := info_parts Tryz.info3
  have HI := hide hi
  have HZ0 := hide hz0
  have HZ1 := hide hz1
  have HZ2 := hide hz2
  have HR := hide hr
  have HW := hide hw
  clear hi hz0 hz1 hz2 hr hw
  go_enter Tryz.func104, Tryz.ntmps104
  go_wp2_with fail
  go_loopw [12] (fun i wr => ∃ (k : Nat) (D : DataW Unit), k ≤ l.length ∧ i = .int .i64 k ∧ wr.ownsGroups Tryz.prog 3 (w.heap.size + 1) 3 .i64 w.heap.size (2 * k) D ∧ Ix.Tells D kind l k ∧ Below w.heap.size w wr ∧ w.heap.size + 1 ≤ wr.heap.size)
    (fun i _ => l.length - (intOf i).toNat)
  case atStart => exact ⟨0, .map [], Nat.zero_le _, rfl, World.ownsGroups_made _ _ _ _ _, Ix.Tells.zero _ _, (Below.refl _ _).alloc (Nat.le_refl _) _, by simp⟩
  case round =>
    obtain ⟨k, D, hk, rfl, hown, htell, hnx, hws⟩ := hrel
    have HOWN := hide hown
    have HTELL := hide htell
    have HNX := hide hnx
    clear hown htell hnx hmm
    by_cases hlt : k < l.length
    · obtain ⟨t, ht⟩ : ∃ t, l[k]? = some t := ⟨l[k], List.getElem?_eq_getElem hlt⟩
      obtain ⟨b, o, rfl, hb, c0, c1, c2, c3, c4, c5⟩ := ((unhide HR).later (unhide HNX) (Nat.le_refl _)).at_ k t ht
      have HT := hide ht
      clear ht
      have hk1 : (0 : Int) ≤ (k : Int) := by omega
      have hk2 : (k : Int) < (l.length : Int) := by omega
      by_cases hkd : t.n0 = kind
      · have hkd' : (t.n0 != kind) = false := by simpa using hkd
        have HKD := hide hkd
        clear hkd
        obtain ⟨W1, hW1⟩ : ∃ W1, W1 = wr.alloc (Obj.cells #[.int .i64 t.n0, .int .i64 t.n1, .int .i64 t.n2, .int .i64 t.n3, .int .i64 t.n4, .int .i64 t.n5] 71) := ⟨_, rfl⟩
        have hB1 : Below wr.heap.size wr W1 := hW1 ▸ (Below.refl _ _).alloc (Nat.le_refl _) _
        have HX := hide (show W1.heap[wr.heap.size]? = some (Obj.cells #[.int .i64 t.n0, .int .i64 t.n1, .int .i64 t.n2, .int .i64 t.n3, .int .i64 t.n4, .int .i64 t.n5] 71) from hW1 ▸ heap_alloc_new wr _)
        have hs1 : wr.heap.size < W1.heap.size := by rw [hW1]; simp
        have HO1 := hide (Ix.groups_below (unhide HOWN) hB1)
        have HN1 := hide ((unhide HNX).trans (hB1.mono (unhide HNX).size))
        have HW1 := hide hW1
        clear hW1 hB1
        have tok1 : True := trivial
        have tok2 : True := trivial
        have tok3 : True := trivial
        go_wp2_with (first
          | (at_lookup; have _t := tok1; clear tok1 _t; rw [← unhide HW1]; refine wpList_lookup_groups _ rfl _ _ 121 rfl 3 109 3 .i64 Tryz.keyed Tryz.underlying121 (Tryz.zeroInts _) (w.heap.size + 1) w.heap.size (2 * k) D rfl (unhide HO1) (by unfold maxLen; omega) _ _ rfl (keyOf_int_mk Tryz.underlying3 (by decide)) ?_; intro v zs hat hoi hzl hback; have HAT := hide hat; have HOI := hide hoi; have HBACK := hide hback; clear hat hoi hback)
          | (at_builtin; have _t := tok2; clear tok2 _t; refine wpList_append_own_at _ rfl _ _ 109 rfl (w.heap.size + 1) 3 i0 (.int .i64 0) 1 8 Tryz.underlying109 (unhide HI) (unhide HZ0) (unhide HZ1) (unhide HZ2) rfl (by decide) _ _ _ rfl ((unhide HOI).1.alloc _) ⟨W1.heap.size, 0, none⟩ 1 1 [.int .i64 k] rfl rfl (cell_one_new _ _ _) (ints_oneCell .i64 [(k : Int)]) (by unfold maxLen; omega) (by omega) (by simp; omega) ?_; intro v' w1 hown' hgrow hnil hloc; have HOWN' := hide hown'; have HALL := hide ((World.grownBy_alloc W1 _ _).trans hgrow); have HLOC := hide hloc; clear hown' hgrow hnil hloc)
          | (at_mapUpdate; have _t := tok3; clear tok3 _t; refine wpList_mapUpdate_back _ rfl _ _ _ 121 rfl (unhide HBACK) rfl rfl rfl (unhide HALL) ((unhide HOI).appended (unhide HOWN') (WalkArith.wf_i64 (by omega))) (by simp; omega) ((unhide HLOC).imp id (fun h => ⟨_, h, by simp⟩)) ?_; intro w2 hown2 hgrow2; have HOWN2 := hide (show w2.ownsGroups Tryz.prog 3 (w.heap.size + 1) 3 .i64 w.heap.size (2 * k + 1) (D.put (Lit.int .i64 (-1)) (rowDatum .i64 v' (zs ++ [(k : Int)]))) from hown2); have HGROW2 := hide hgrow2; have HX2 := hide (Ix.block_kept (unhide HX) (unhide HALL) (Ix.row_ne (unhide HOI) (unhide HX) (by decide)) hgrow2 (by omega)); clear hown2 hgrow2; obtain ⟨d0, d1, d2, d3, d4, d5⟩ := Ix.ev_cells (unhide HX2)))
        have HAP := hide ((unhide HOI).appended (unhide HOWN') (x := (k : Int)) (WalkArith.wf_i64 (by omega)))
        have HN2 := hide ((unhide HN1).groups (unhide HOI) (unhide HALL) (unhide HGROW2) (unhide HN1).size (Nat.le_succ _) (Nat.le_refl _))
        have hs2 : W1.heap.size ≤ w2.heap.size := Nat.le_trans (unhide HALL).size (unhide HGROW2).size
        have HM := hide ((unhide HTELL).first (unhide HAT) (unhide HOI) (unhide HAP))
        generalize D.put (Lit.int .i64 (-1)) (rowDatum .i64 v' (zs ++ [(k : Int)])) = D2 at *
        clear HAT HBACK HOWN' HLOC HAP HOWN HTELL HO1 HW1
        refine (about_any t _).mono ?_
        rintro e w3 ⟨rfl, hb3⟩
        have hz3 := hb3.size
        have HN3 := hide ((unhide HN2).trans (hb3.mono (unhide HN2).size))
        have HO3 := hide (Ix.groups_below (unhide HOWN2) hb3)
        clear hb3 d0 d1 d2 d3 d4 d5
        by_cases hab : Ix.about t = -1
        · have hab' : (Ix.about t != -1) = false := by simpa using hab
          have HAB := hide hab
          clear hab
          go_wp2_with fail
          refine ⟨⟨k + 1, D2, by omega, by go_num, Ix.groups_mono (n := 2 * k + 1) (unhide HO3) (by omega), (unhide HM).only (unhide HT) (unhide HKD) (unhide HAB), unhide HN3, by omega⟩, by simp [intOf]; omega⟩
        · have hab' : (Ix.about t != -1) = true := by simpa using hab
          have HAB := hide hab
          clear hab
          have tok1 : True := trivial
          have tok2 : True := trivial
          have tok3 : True := trivial
          have HKEY := hide (keyOf_int_mk Tryz.underlying3 (Ev.wf_about ((unhide HW) t (List.mem_of_getElem? (unhide HT)))))
          go_wp2_with (first
            | (at_lookup; have _t := tok1; clear tok1 _t; refine wpList_lookup_groups _ rfl _ _ 121 rfl 3 109 3 .i64 Tryz.keyed Tryz.underlying121 (Tryz.zeroInts _) (w.heap.size + 1) w.heap.size (2 * k + 1) D2 rfl (unhide HO3) (by unfold maxLen; omega) _ _ rfl (unhide HKEY) ?_; intro u ys hat hoi hyl hback; have HAT := hide hat; have HOI4 := hide hoi; have HBACK := hide hback; clear hat hoi hback)
            | (at_builtin; have _t := tok2; clear tok2 _t; refine wpList_append_own_at _ rfl _ _ 109 rfl (w.heap.size + 1) 3 i0 (.int .i64 0) 1 8 Tryz.underlying109 (unhide HI) (unhide HZ0) (unhide HZ1) (unhide HZ2) rfl (by decide) _ _ _ rfl ((unhide HOI4).1.alloc _) ⟨w3.heap.size, 0, none⟩ 1 1 [.int .i64 k] rfl rfl (cell_one_new _ _ _) (ints_oneCell .i64 [(k : Int)]) (by unfold maxLen; omega) (by omega) (by simp; omega) ?_; intro u' w5 hown' hgrow hnil hloc; have HOWN' := hide hown'; have HALL4 := hide ((World.grownBy_alloc w3 _ _).trans hgrow); have HLOC := hide hloc; clear hown' hgrow hnil hloc)
            | (at_mapUpdate; have _t := tok3; clear tok3 _t; refine wpList_mapUpdate_back _ rfl _ _ _ 121 rfl (unhide HBACK) rfl rfl rfl (unhide HALL4) ((unhide HOI4).appended (unhide HOWN') (WalkArith.wf_i64 (by omega))) (by simp; omega) ((unhide HLOC).imp id (fun h => ⟨_, h, by simp⟩)) ?_; intro w6 hown6 hgrow6; have HOWN6 := hide (show w6.ownsGroups Tryz.prog 3 (w.heap.size + 1) 3 .i64 w.heap.size (2 * k + 1 + 1) (D2.put (Lit.int .i64 (Ix.about t)) (rowDatum .i64 u' (ys ++ [(k : Int)]))) from hown6); have HGROW6 := hide hgrow6; clear hown6 hgrow6))
          have HAP := hide ((unhide HOI4).appended (unhide HOWN') (x := (k : Int)) (WalkArith.wf_i64 (by omega)))
          have HN6 := hide ((unhide HN3).groups (unhide HOI4) (unhide HALL4) (unhide HGROW6) (unhide HN3).size (Nat.le_succ _) (Nat.le_refl _))
          have hs6 : w3.heap.size ≤ w6.heap.size := Nat.le_trans (unhide HALL4).size (unhide HGROW6).size
          refine ⟨⟨k + 1, _, by omega, by go_num, Ix.groups_mono (n := 2 * k + 1 + 1) (unhide HOWN6) (by omega), (unhide HM).both (unhide HT) (unhide HKD) (unhide HAB) (unhide HAT) (unhide HOI4) (unhide HAP), unhide HN6, by omega⟩, by simp [intOf]; omega⟩
      · have hkd' : (t.n0 != kind) = true := by simpa using hkd
        have HKD := hide hkd
        clear hkd
        go_wp2_with fail
        refine ⟨⟨k + 1, D, by omega, by go_num, Ix.groups_mono (Ix.groups_below (unhide HOWN) ((Below.refl _ _).alloc (Nat.le_refl _) _)) (by omega), (unhide HTELL).skip (unhide HT) (unhide HKD), (unhide HNX).alloc (unhide HNX).size _, by simp; omega⟩, by simp [intOf]; omega⟩
    · have hk2 : ¬ (k : Int) < (l.length : Int) := by omega
      have hkl : k = l.length := by omega
      subst hkl
      go_wp2_with fail
      go_ret
      first | exact ⟨D, rfl, unhide HOWN, unhide HTELL, unhide HNX⟩ | exact ⟨rfl, D, unhide HOWN, unhide HTELL, unhide HNX⟩
end Go.Proofs.YtfhlnelgnnkeoaaGreatDoor
