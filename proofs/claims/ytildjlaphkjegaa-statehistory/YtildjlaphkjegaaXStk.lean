/-
  Several texts in one: XSt, XSk. By the verifier.
-/
import Derived.Test.YtildjlaphkjegaaXIv
namespace Go.Proofs.Ytildjlaphkjegaa
open Go.RowKit
set_option linter.unusedVariables false

/-- A frame that is being made. -/
structure Xr.Nz (W wr : World) (num deep : Int) (sz : List Int) (i : Nat) (rv : Value) (vb : List Nat) (svs : List Value) : Prop where
  bel : Below W.heap.size W wr
  c0 : wr.cell? ⟨W.heap.size, 0, none⟩ = some (.int .i64 num)
  c1 : wr.cell? ⟨W.heap.size, 1, none⟩ = some (.int .i64 deep)
  c3 : wr.cell? ⟨W.heap.size, 2, none⟩ = some rv
  fz : ∀ j, wr.frozen? ⟨W.heap.size, j, none⟩ = false
  vlen : vb.length = i
  row : wr.ownsRow (W.heap.size + 1) 46 1 rv i svs
  at_ : ∀ (k b : Nat), vb[k]? = some b → ∃ z : Int, sz[k]? = some z ∧ svs[k]? = some (Value.slice (some ⟨b, 0, none⟩) (Xr.szN z) (Xr.szN z)) ∧ wr.heap[b]? = some (Obj.cells (madeCells #[.int .i64 0] (Xr.szN z)) 3)
  nd : vb.Nodup
  ge : ∀ b ∈ vb, W.heap.size < b ∧ b < wr.heap.size
  rvn : ∀ q, rv.ownBlock = some q → q ∉ vb
theorem Xr.Nz.ltb {W wr : World} {num deep : Int} {sz : List Int} {i : Nat} {rv : Value} {vb : List Nat} {svs : List Value} (h : Xr.Nz W wr num deep sz i rv vb svs) : W.heap.size < wr.heap.size := World.block_lt_of_cell? wr _ h.c0
theorem Xr.Nz.next {W wr W2 w6 : World} {num deep : Int} {sz : List Int} {i : Nat} {rv : Value} {vb : List Nat} {svs : List Value} (h : Xr.Nz W wr num deep sz i rv vb svs) {z : Int} (hz : sz[i]? = some z) (hb : Below wr.heap.size wr W2) (hnew : W2.heap[wr.heap.size]? = some (Obj.cells (madeCells #[.int .i64 0] (Xr.szN z)) 3)) (hg : W2.grownBy w6 rv.ownBlock) (g c : Nat)
    (ho : w6.ownsRow (W.heap.size + 1) 46 1 (.slice (some ⟨g, 0, none⟩) (i + 1) c) (i + 1) (svs ++ [.slice (some ⟨wr.heap.size, 0, none⟩) (Xr.szN z) (Xr.szN z)])) (hat : rv.ownBlock = some g ∨ g = W2.heap.size) :
    Xr.Nz W (w6.setCell ⟨W.heap.size, 2, none⟩ (.slice (some ⟨g, 0, none⟩) (i + 1) c)) num deep sz (i + 1) (.slice (some ⟨g, 0, none⟩) (i + 1) c) (vb ++ [wr.heap.size]) (svs ++ [.slice (some ⟨wr.heap.size, 0, none⟩) (Xr.szN z) (Xr.szN z)]) := by
  have hl := h.ltb
  have hz2 := hb.size
  have hnl : wr.heap.size < W2.heap.size := (Array.getElem?_eq_some_iff.1 hnew).1
  have hrl : ∀ q, rv.ownBlock = some q → W.heap.size + 1 ≤ q ∧ q < wr.heap.size := fun q hq => h.row.lt q hq
  have hgo := (ho.lt g rfl)
  have kb : w6.heap[W.heap.size]? = wr.heap[W.heap.size]? := (hg.block _ (by omega) (fun e => by have := (hrl _ e.symm).1; omega)).trans (hb.block _ hl)
  have o3 : ∀ j, j ≠ 2 → (w6.setCell ⟨W.heap.size, 2, none⟩ (.slice (some ⟨g, 0, none⟩) (i + 1) c)).cell? ⟨W.heap.size, j, none⟩ = wr.cell? ⟨W.heap.size, j, none⟩ := fun j hj => by
    rw [World.cell?_setCell_other _ _ _ _ (by intro hh; exact hj (congrArg Addr.off hh).symm)]
    exact Xr.cell_kept kb j
  have hsvl : svs.length = i := by have := h.row.1; omega
  have hvo : ∀ b ∈ vb, (w6.setCell ⟨W.heap.size, 2, none⟩ (.slice (some ⟨g, 0, none⟩) (i + 1) c)).heap[b]? = wr.heap[b]? := fun b hbm => by
    have h1 := h.ge b hbm
    exact (Xr.set_other (by omega)).trans ((hg.block b (by omega) (fun e => h.rvn b e.symm hbm)).trans (hb.block b h1.2))
  have hnw : (w6.setCell ⟨W.heap.size, 2, none⟩ (.slice (some ⟨g, 0, none⟩) (i + 1) c)).heap[wr.heap.size]? = some (Obj.cells (madeCells #[.int .i64 0] (Xr.szN z)) 3) :=
    (Xr.set_other (by omega)).trans ((hg.block _ hnl (fun e => by have := (hrl _ e.symm).2; omega)).trans hnew)
  have hgs : w6.heap.size ≥ W2.heap.size := hg.size
  refine ⟨⟨hg.os.trans (hb.os.trans h.bel.os), hg.tape.trans (hb.tape.trans h.bel.tape), hg.output.trans (hb.output.trans h.bel.output), by rw [World.size_setCell]; have := h.bel.size; omega, fun q hq => (Xr.set_other (by omega)).trans ((hg.block q (by omega) (fun e => by have := (hrl _ e.symm).1; omega)).trans ((hb.block q (by omega)).trans (h.bel.block q hq)))⟩, (o3 0 (by omega)).trans h.c0, (o3 1 (by omega)).trans h.c1, World.cell?_setCell_same _ _ _ ((Xr.cell_kept kb 2).trans h.c3), fun j => by rw [World.frozen?_setCell]; exact (Xr.frz_kept kb j).trans (h.fz j), by rw [List.length_append, h.vlen]; rfl, ?_, ?_, ?_, ?_, ?_⟩
  · refine Xr.ow_kept ho (fun q hq => ?_)
    cases hq
    exact Xr.set_other (by have := hgo.1; show g ≠ W.heap.size; omega)
  · intro k b hkb
    by_cases hk : k < i
    · rw [List.getElem?_append_left (by rw [h.vlen]; exact hk)] at hkb
      obtain ⟨y, y1, y2, y3⟩ := h.at_ k b hkb
      exact ⟨y, y1, by rw [List.getElem?_append_left (by omega)]; exact y2, (hvo b (List.mem_of_getElem? hkb)).trans y3⟩
    · have hke : k = i := by
        have := (List.getElem?_eq_some_iff.1 hkb).1
        rw [List.length_append, h.vlen] at this
        simp at this
        omega
      subst hke
      rw [List.getElem?_append_right (by rw [h.vlen]; exact Nat.le_refl _), h.vlen, Nat.sub_self] at hkb
      cases hkb
      exact ⟨z, hz, by rw [List.getElem?_append_right (by omega), hsvl, Nat.sub_self]; rfl, hnw⟩
  · rw [List.nodup_append]
    exact ⟨h.nd, by simp, fun a ha b hb' => by simp at hb'; subst hb'; have := (h.ge a ha).2; omega⟩
  · intro b hbm
    rw [World.size_setCell]
    rcases List.mem_append.1 hbm with hbm | hbm
    · have := h.ge b hbm; omega
    · simp at hbm; subst hbm; omega
  · intro q hq hin
    cases hq
    have hin2 : g ∈ vb ++ [wr.heap.size] := hin
    rcases List.mem_append.1 hin2 with hin2 | hin2
    · rcases hat with e | e
      · exact h.rvn g e hin2
      · have := (h.ge g hin2).2; omega
    · simp at hin2
      rcases hat with e | e
      · have := (hrl g e).2; omega
      · omega
/-- The variables of a frame, in memory: the row of them; each one's row. -/
structure Xr.Zf (W : World) (lo : Nat) (gv : Option Nat) (vb : List Nat) (c : Nat) (vs : List (List Int)) : Prop where
  ge : ∀ q ∈ gv.toList ++ vb, lo ≤ q ∧ q < W.heap.size
  nd : (gv.toList ++ vb).Nodup
  cap : vs.length ≤ c
  len : vb.length = vs.length
  few : vs.length ≤ 100
  at_ : ∀ i b l, vb[i]? = some b → vs[i]? = some l → ∃ g c', gv = some g ∧ W.cell? ⟨g, i, none⟩ = some (.slice (some ⟨b, 0, none⟩) l.length c') ∧ l.length ≤ c' ∧ l.length ≤ 100 ∧ (∀ j z, l[j]? = some z → W.cell? ⟨b, j, none⟩ = some (.int .i64 z)) ∧ ∀ j, W.frozen? ⟨b, j, none⟩ = false
theorem Xr.Zf.kept {W W' : World} {lo : Nat} {gv : Option Nat} {vb : List Nat} {c : Nat} {vs : List (List Int)} (h : Xr.Zf W lo gv vb c vs) (hz : W.heap.size ≤ W'.heap.size) (hk : ∀ q ∈ gv.toList ++ vb, W'.heap[q]? = W.heap[q]?) : Xr.Zf W' lo gv vb c vs := by
  refine ⟨fun q hq => ⟨(h.ge q hq).1, Nat.lt_of_lt_of_le (h.ge q hq).2 hz⟩, h.nd, h.cap, h.len, h.few, fun i b l hb hl => ?_⟩
  obtain ⟨g, c', e1, e2, e3, e4, e5, e6⟩ := h.at_ i b l hb hl
  have kg := hk g (by rw [e1]; simp)
  have kv := hk b (by have := List.mem_of_getElem? hb; simp [this])
  exact ⟨g, c', e1, (Xr.cell_kept kg i).trans e2, e3, e4, fun j z hz => (Xr.cell_kept kv j).trans (e5 j z hz), fun j => (Xr.frz_kept kv j).trans (e6 j)⟩
theorem Xr.Zf.below {W W' : World} {lo : Nat} {gv : Option Nat} {vb : List Nat} {c : Nat} {vs : List (List Int)} (h : Xr.Zf W lo gv vb c vs) (hb : Below W.heap.size W W') : Xr.Zf W' lo gv vb c vs := h.kept hb.size (fun q hq => hb.block q (h.ge q hq).2)
theorem Xr.Zf.lo {W : World} {lo lo' : Nat} {gv : Option Nat} {vb : List Nat} {c : Nat} {vs : List (List Int)} (h : Xr.Zf W lo gv vb c vs) (hl : lo' ≤ lo) : Xr.Zf W lo' gv vb c vs := ⟨fun q hq => ⟨Nat.le_trans hl (h.ge q hq).1, (h.ge q hq).2⟩, h.nd, h.cap, h.len, h.few, h.at_⟩
theorem Xr.Nz.done {W wr : World} {num deep : Int} {sz : List Int} {i : Nat} {ra : Option Addr} {rc : Nat} {vb : List Nat} {svs : List Value} (h : Xr.Nz W wr num deep sz i (.slice ra i rc) vb svs) (hi : i = sz.length) (hi2 : i ≤ 100) (hs : ∀ z ∈ sz, z ≤ 100) :
    ∃ gv, ra = gv.map (fun g => ⟨g, 0, none⟩) ∧ Xr.Zf wr W.heap.size gv vb rc (Xr.zeros sz) := by
  have hl := h.ltb
  have hvl : (Xr.zeros sz).length = i := by unfold Xr.zeros; rw [List.length_map, hi]
  have hat : ∀ (k b : Nat) (l : List Int), vb[k]? = some b → (Xr.zeros sz)[k]? = some l → ∃ z, sz[k]? = some z ∧ l = List.replicate (Xr.szN z) 0 ∧ svs[k]? = some (Value.slice (some ⟨b, 0, none⟩) l.length (Xr.szN z)) ∧ wr.heap[b]? = some (Obj.cells (madeCells #[.int .i64 0] (Xr.szN z)) 3) := by
    intro k b l hb hl'
    obtain ⟨z, z1, z2, z3⟩ := h.at_ k b hb
    have hl2 : (sz.map fun n => List.replicate (max n 1).toNat (0 : Int))[k]? = some l := hl'
    rw [List.getElem?_map, z1] at hl2
    have hl3 : l = List.replicate (Xr.szN z) 0 := by simpa [Xr.szN] using hl2.symm
    exact ⟨z, z1, hl3, by rw [hl3, List.length_replicate]; exact z2, z3⟩
  have hcell : ∀ (b : Nat) (n : Nat), wr.heap[b]? = some (Obj.cells (madeCells #[.int .i64 0] n) 3) → (∀ j y, (List.replicate n (0 : Int))[j]? = some y → wr.cell? ⟨b, j, none⟩ = some (.int .i64 y)) ∧ ∀ j, wr.frozen? ⟨b, j, none⟩ = false := by
    intro b n hb
    constructor
    · intro j y hj
      rw [cell_of_row wr b j _ 3 (0, 0) hb, ← Array.getElem?_toList, toList_madeCells_one]
      obtain ⟨hlt, hy⟩ := List.getElem?_eq_some_iff.1 hj
      rw [List.getElem_replicate] at hy
      rw [List.length_replicate] at hlt
      rw [List.getElem?_replicate, if_pos hlt, ← hy]
    · intro j
      simp [World.frozen?, hb]
  rcases h.row.2 with ⟨hrv, hi0⟩ | ⟨g, cap, cur, hrv, hg1, hg2, hg3, hg4, hg5, hg6⟩
  · have hvb : vb = [] := List.eq_nil_of_length_eq_zero (by rw [h.vlen]; exact hi0)
    subst hvb
    cases hrv
    refine ⟨none, rfl, ⟨fun q hq => by simp at hq, by simp, by rw [hvl]; omega, by rw [hvl, h.vlen], by rw [hvl]; omega, fun k b l hb => by simp at hb⟩⟩
  · cases hrv
    have hown := h.row
    have hgl := hown.lt g rfl
    refine ⟨some g, rfl, ⟨?_, ?_, by rw [hvl]; exact hg3, by rw [hvl, h.vlen], by rw [hvl]; omega, ?_⟩⟩
    · intro q hq
      simp at hq
      rcases hq with hq | hq
      · omega
      · have := h.ge q hq; omega
    · simp
      exact ⟨fun e => h.rvn g rfl e, h.nd⟩
    · intro k b l hb hl'
      obtain ⟨z, z1, z2, z3, z4⟩ := hat k b l hb hl'
      obtain ⟨q1, q2⟩ := hcell b (Xr.szN z) z4
      have hcl := hown.cells (g := g) rfl k _ z3
      rw [Xr.add_at] at hcl
      have hzl := hs z (List.mem_of_getElem? z1)
      have hll : l.length = Xr.szN z := by rw [z2, List.length_replicate]
      have hzn : Xr.szN z ≤ 100 := by unfold Xr.szN; omega
      exact ⟨g, Xr.szN z, rfl, by simpa using hcl, by omega, by omega, fun j y hj => q1 j y (by rw [← z2]; exact hj), q2⟩

set_option maxRecDepth 100000 in
set_option maxHeartbeats 3200000 in
theorem newFrameS_any {m n : Nat} (qa : Option Addr) (ql qc : Nat) (p : List (Pg.FT m n)) (num : Int) (q : Nat) (x : Pg.FT m n) (Wp : World) (hp : Pg.RP Wp m n ⟨qa, ql, qc⟩ p) (hx : p[q]? = some x) (hlen : x.sizes.length ≤ 100) (hs : ∀ z ∈ x.sizes, 0 ≤ z ∧ z ≤ 100) :
    Calls Try.prog 54 #[.agg #[.slice qa ql qc], .int .i64 num, .int .i64 (q : Nat)] Wp fun r W' => ∃ gv vb c, r = .returned (.agg #[.int .i64 num, .int .i64 (q : Nat), .slice (gv.map fun g => ⟨g, 0, none⟩) x.sizes.length c]) ∧ Xr.Zf W' Wp.heap.size gv vb c (Xr.zeros x.sizes) ∧ Below Wp.heap.size Wp W' := by
  have hb2 := ((Below.refl Wp.heap.size Wp).alloc (Nat.le_refl _) (Obj.cells #[.slice qa ql qc] 36)).alloc (by simp) (Obj.cells #[.int .i64 0, .int .i64 0, .slice none 0 0] 45)
  obtain ⟨bq, oq, ff, hqa, hbq, hlf, hrf⟩ := ((Pg.RP.later hp hb2 (Nat.le_refl _))).at_ q x hx
  have hql : q < ql := by have h1 : ql = p.length := hp.len; have := (List.getElem?_eq_some_iff.1 hx).1; omega
  obtain ⟨fpr, ⟨ta, tn, tc⟩, fcm, fre⟩ := ff
  have hlf1 := hlf.c1
  have hr : Pg.RN ((Wp.alloc (Obj.cells #[.slice qa ql qc] 36)).alloc (Obj.cells #[.int .i64 0, .int .i64 0, .slice none 0 0] 45)) ⟨ta, tn, tc⟩ x.sizes := hrf.sizes
  have hqa' : qa = some ⟨bq, oq, none⟩ := hqa
  subst hqa'
  have hb3 := (Below.refl ((Wp.alloc (Obj.cells #[.slice (some ⟨bq, oq, none⟩) ql qc] 36)).alloc (Obj.cells #[.int .i64 0, .int .i64 0, .slice none 0 0] 45)).heap.size ((Wp.alloc (Obj.cells #[.slice (some ⟨bq, oq, none⟩) ql qc] 36)).alloc (Obj.cells #[.int .i64 0, .int .i64 0, .slice none 0 0] 45))).alloc (Nat.le_refl _) (Obj.cells #[.int .i64 num, .int .i64 (q : Nat), .slice none 0 0] 45)
  have hs2 : ((Wp.alloc (Obj.cells #[.slice (some ⟨bq, oq, none⟩) ql qc] 36)).alloc (Obj.cells #[.int .i64 0, .int .i64 0, .slice none 0 0] 45)).heap.size = Wp.heap.size + 2 := by simp
  have hf1 : (((Wp.alloc (Obj.cells #[.slice (some ⟨bq, oq, none⟩) ql qc] 36)).alloc (Obj.cells #[.int .i64 0, .int .i64 0, .slice none 0 0] 45)).alloc (Obj.cells #[.int .i64 num, .int .i64 (q : Nat), .slice none 0 0] 45)).cell? ⟨bq, oq + q * 6 + 1, none⟩ = some (.slice ta tn tc) := (hb3.cell (p := ⟨bq, oq + q * 6 + 1, none⟩) hbq).trans hlf1
  have r0 : ((Wp.alloc (Obj.cells #[.slice (some ⟨bq, oq, none⟩) ql qc] 36)).alloc (Obj.cells #[.int .i64 0, .int .i64 0, .slice none 0 0] 45)).cell? ⟨Wp.heap.size + 1, 0, none⟩ = some (.int .i64 0) := by go_simp
  have r1 : ((Wp.alloc (Obj.cells #[.slice (some ⟨bq, oq, none⟩) ql qc] 36)).alloc (Obj.cells #[.int .i64 0, .int .i64 0, .slice none 0 0] 45)).cell? ⟨Wp.heap.size + 1, 1, none⟩ = some (.int .i64 0) := by go_simp
  have r2 : ((Wp.alloc (Obj.cells #[.slice (some ⟨bq, oq, none⟩) ql qc] 36)).alloc (Obj.cells #[.int .i64 0, .int .i64 0, .slice none 0 0] 45)).cell? ⟨Wp.heap.size + 1, 2, none⟩ = some (.slice none 0 0) := by go_simp
  have HRF := hide (show ∀ j, ((Wp.alloc (Obj.cells #[.slice (some ⟨bq, oq, none⟩) ql qc] 36)).alloc (Obj.cells #[.int .i64 0, .int .i64 0, .slice none 0 0] 45)).frozen? ⟨Wp.heap.size + 1, j, none⟩ = false from fun j => by go_simp)
  have hpc : (((Wp.alloc (Obj.cells #[.slice (some ⟨bq, oq, none⟩) ql qc] 36)).alloc (Obj.cells #[.int .i64 0, .int .i64 0, .slice none 0 0] 45)).alloc (Obj.cells #[.int .i64 num, .int .i64 (q : Nat), .slice none 0 0] 45)).cell? ⟨Wp.heap.size, 0, none⟩ = some (.slice (some ⟨bq, oq, none⟩) ql qc) := by go_simp
  have htn : tn = x.sizes.length := hr.len
  have HB2 := hide hb2
  generalize hszd : x.sizes = sz at *
  have HN0 := hide (show Xr.Nz ((Wp.alloc (Obj.cells #[.slice (some ⟨bq, oq, none⟩) ql qc] 36)).alloc (Obj.cells #[.int .i64 0, .int .i64 0, .slice none 0 0] 45)) (((Wp.alloc (Obj.cells #[.slice (some ⟨bq, oq, none⟩) ql qc] 36)).alloc (Obj.cells #[.int .i64 0, .int .i64 0, .slice none 0 0] 45)).alloc (Obj.cells #[.int .i64 num, .int .i64 (q : Nat), .slice none 0 0] 45)) num (q : Nat) sz 0 (.slice none 0 0) [] [] from ⟨hb3, by go_simp, by go_simp, by go_simp, fun j => by go_simp, rfl, ⟨rfl, .inl ⟨rfl, rfl⟩⟩, fun k b hb => by simp at hb, List.nodup_nil, fun b hb => by simp at hb, fun q hq => by cases hq⟩)
  have hq0 : (0 : Int) ≤ (q : Int) := by omega
  have hq1 : (q : Int) < (ql : Int) := by omega
  clear hp hx hqa hbq hlf hrf hlf1 hb2 hb3
  obtain ⟨i0, hi0, hz0, hz1', hz2⟩ := info_of Try.infoIs
  have HI := hide hi0
  have HZ0 := hide hz0
  have HZ1 := hide hz1'
  have HZ2 := hide hz2
  have HR := hide hr
  have HS := hide hs
  have HTN := hide htn
  have htl : tn ≤ 100 := by omega
  clear hi0 hz0 hz1' hz2 hr hs htn hszd
  go_enter Try.func54, Try.ntmps54
  go_wp2_with fail
  generalize ((Wp.alloc (Obj.cells #[.slice (some ⟨bq, oq, none⟩) ql qc] 36)).alloc (Obj.cells #[.int .i64 0, .int .i64 0, .slice none 0 0] 45)).alloc (Obj.cells #[.int .i64 num, .int .i64 (q : Nat), .slice none 0 0] 45) = W0 at *
  generalize (Wp.alloc (Obj.cells #[.slice (some ⟨bq, oq, none⟩) ql qc] 36)).alloc (Obj.cells #[.int .i64 0, .int .i64 0, .slice none 0 0] 45) = W at *
  rw [← hs2]
  have HS2 := hide hs2
  clear hs2
  go_loopw [20] (fun iv wr => ∃ (i : Nat) (rv : Value) (vb : List Nat) (svs : List Value), i ≤ tn ∧ iv = .int .i64 i ∧ Xr.Nz W wr num (q : Nat) sz i rv vb svs) (fun iv _ => tn - (intOf iv).toNat)
  case atStart => exact ⟨0, _, _, _, Nat.zero_le _, rfl, unhide HN0⟩
  case round =>
    obtain ⟨i, rv, vb, svs, hi, rfl, hnw⟩ := hrel
    by_cases hlt : i < tn
    · have hlt2 : i < sz.length := by have := unhide HTN; omega
      have hy := List.getElem?_eq_getElem hlt2
      obtain ⟨b, o, had, hb, hc⟩ := (unhide HR).at_ i _ hy
      have hzz := (unhide HS) _ (List.getElem_mem hlt2)
      have p0 := (hnw.bel.cell (p := ⟨b, o + i, none⟩) hb).trans hc
      obtain ⟨ra, rc, rfl⟩ : ∃ a c, rv = .slice a i c := by
        rcases hnw.row.2 with ⟨h1, h2⟩ | ⟨g, cap, cur, hv, _⟩
        · exact ⟨none, 0, by rw [h2]; exact h1⟩
        · exact ⟨_, _, hv⟩
      have HROW := hide hnw.row
      have HNX := hide (fun (W2 w6 : World) (h1 : Below wr.heap.size wr W2) (h2 : W2.heap[wr.heap.size]? = some (Obj.cells (madeCells #[.int .i64 0] (Xr.szN sz[i])) 3)) (h3 : W2.grownBy w6 (Value.slice ra i rc).ownBlock) (g c : Nat) (h4 : w6.ownsRow (W.heap.size + 1) 46 1 (.slice (some ⟨g, 0, none⟩) (i + 1) c) (i + 1) (svs ++ [.slice (some ⟨wr.heap.size, 0, none⟩) (Xr.szN sz[i]) (Xr.szN sz[i])])) (h5 : (Value.slice ra i rc).ownBlock = some g ∨ g = W2.heap.size) => hnw.next hy h1 h2 h3 g c h4 h5)
      have k3 := hnw.c3
      have kf := hnw.fz 2
      have hwl := hnw.ltb
      have HEV := hide (show ∀ q, (Value.slice ra i rc).ownBlock = some q → W.heap.size + 1 ≤ q from fun q hq => (hnw.row.lt q hq).1)
      have hsn : ((Xr.szN sz[i] : Nat) : Int) = max sz[i] 1 := by unfold Xr.szN; omega
      have hsb : Xr.szN sz[i] ≤ 100 := by unfold Xr.szN; omega
      generalize Xr.szN sz[i] = n at *
      generalize sz[i] = z at *
      have hmk : ∀ V : World, (Instr.makeSlice 46 (.int .i64 (if z < 1 then 1 else z)) (.int .i64 (if z < 1 then 1 else z))).run Try.prog V = .ok (.slice (some ⟨V.heap.size, 0, none⟩) n n) (V.alloc (.cells (madeCells #[.int .i64 0] n) 3)) := by
        intro V
        have hmx : (if z < 1 then 1 else z) = (n : Int) := by rw [hsn]; split <;> omega
        rw [hmx]
        exact run_make_row' (P := Try.prog) 46 3 (.int .i64 0) 8 Try.underlying46 Try.infoI3 rfl .i64 .i64 n (by omega) (by omega) V
      clear hsn
      have had' : ta = some ⟨b, o, none⟩ := had
      subst had'
      clear had hc hy hnw
      have hi0' : (0 : Int) ≤ (i : Int) := by omega
      have hi1 : (i : Int) < (tn : Int) := by omega
      go_upto_region 5 with fail
      clear p0
      have HBD := hide (show Below wr.heap.size wr ((wr.alloc (Obj.cells (madeCells #[.int .i64 0] n) 3)).alloc (Obj.cells #[.slice (some ⟨wr.heap.size, 0, none⟩) n n] 46)).drew from (((Below.refl wr.heap.size wr).alloc (Nat.le_refl _) _).alloc (by simp) _).drew)
      have HNW := hide (show ∀ j u, [Value.slice (some ⟨wr.heap.size, 0, none⟩) n n][j]? = some u → ((wr.alloc (Obj.cells (madeCells #[.int .i64 0] n) 3)).alloc (Obj.cells #[.slice (some ⟨wr.heap.size, 0, none⟩) n n] 46)).drew.cell? ((⟨wr.heap.size + 1, 0, none⟩ : Addr).add j) = some u from by
        have h1 := heap_alloc_new (wr.alloc (Obj.cells (madeCells #[.int .i64 0] n) 3)) (Obj.cells #[.slice (some ⟨wr.heap.size, 0, none⟩) n n] 46)
        have h2 : (wr.alloc (Obj.cells (madeCells #[.int .i64 0] n) 3)).heap.size = wr.heap.size + 1 := by simp
        rw [h2] at h1
        exact World.news_of_block h1)
      have HM := hide (show ((wr.alloc (Obj.cells (madeCells #[.int .i64 0] n) 3)).alloc (Obj.cells #[.slice (some ⟨wr.heap.size, 0, none⟩) n n] 46)).drew.heap[wr.heap.size]? = some (Obj.cells (madeCells #[.int .i64 0] n) 3) from by
        have h1 := heap_alloc_new wr (Obj.cells (madeCells #[.int .i64 0] n) 3)
        have h2 := ((Below.refl (wr.alloc (Obj.cells (madeCells #[.int .i64 0] n) 3)).heap.size (wr.alloc (Obj.cells (madeCells #[.int .i64 0] n) 3))).alloc (Nat.le_refl _) (Obj.cells #[.slice (some ⟨wr.heap.size, 0, none⟩) n n] 46)).block wr.heap.size (by simp)
        exact h2.trans h1)
      go_region_law (first
        | (refine step_append_lies _ rfl (.tmp 25) (.tmp 29) 25 rfl (W.heap.size + 1) 46 i0 _ 1 24 Try.underlying25 (unhide HI) (unhide HZ0) (unhide HZ1) (unhide HZ2) rfl (by omega) (.slice ra i rc) i svs rfl (Pg.ow_below (unhide HROW) (unhide HBD)) _ 1 1 [.slice (some ⟨wr.heap.size, 0, none⟩) n n] rfl rfl (unhide HNW) (by simp [Value.oneCell']) (by omega) (by unfold maxLen; omega) (by omega) (by simp; omega) _ rfl ?_; intro gA cA w6 hoA hgA hatA hltA; have HGA := hide hgA; have HOA := hide hoA; have HAT := hide hatA; have hbb := (hgA.block W.heap.size (by simp; omega) (fun e => by have := (unhide HEV) _ e.symm; omega)).trans ((unhide HBD).block W.heap.size (by omega)); have z4 := (Xr.cell_kept hbb 2).trans k3; have z5 := (Xr.frz_kept hbb 2).trans kf; clear hatA hltA hoA hgA hbb))
      all_goals
        go_wp2_with fail
        exact ⟨⟨i + 1, _, _, _, by omega, by go_num, (unhide HNX) _ _ (unhide HBD) (unhide HM) (unhide HGA) _ _ (unhide HOA) (unhide HAT)⟩, by simp [intOf]; omega⟩
    · have hie : i = tn := by omega
      subst hie
      obtain ⟨ra, rc, rfl⟩ : ∃ a c, rv = .slice a i c := by
        rcases hnw.row.2 with ⟨h1, h2⟩ | ⟨g, cap, cur, hv, _⟩
        · exact ⟨none, 0, by rw [h2]; exact h1⟩
        · exact ⟨_, _, hv⟩
      obtain ⟨gv, rfl, hzf⟩ := hnw.done (unhide HTN) (by omega) (fun z hz => ((unhide HS) z hz).2)
      have HZF := hide hzf
      have hbb := hnw.bel
      have y0 := hnw.c0
      have y1 := hnw.c1
      have y3 := hnw.c3
      have k0 := (hbb.cell (p := ⟨Wp.heap.size + 1, 0, none⟩) (by show Wp.heap.size + 1 < W.heap.size; have := unhide HS2; omega)).trans r0
      have k1 := (hbb.cell (p := ⟨Wp.heap.size + 1, 1, none⟩) (by show Wp.heap.size + 1 < W.heap.size; have := unhide HS2; omega)).trans r1
      have k2 := (hbb.cell (p := ⟨Wp.heap.size + 1, 2, none⟩) (by show Wp.heap.size + 1 < W.heap.size; have := unhide HS2; omega)).trans r2
      have z0 := (hbb.frozen (p := ⟨Wp.heap.size + 1, 0, none⟩) (by show Wp.heap.size + 1 < W.heap.size; have := unhide HS2; omega)).trans ((unhide HRF) 0)
      have z1 := (hbb.frozen (p := ⟨Wp.heap.size + 1, 1, none⟩) (by show Wp.heap.size + 1 < W.heap.size; have := unhide HS2; omega)).trans ((unhide HRF) 1)
      have z2 := (hbb.frozen (p := ⟨Wp.heap.size + 1, 2, none⟩) (by show Wp.heap.size + 1 < W.heap.size; have := unhide HS2; omega)).trans ((unhide HRF) 2)
      have HRT := hide (Xr.ret3 k0 k1 k2 (.int .i64 num) (.int .i64 (q : Nat)) (.slice (gv.map fun g => ⟨g, 0, none⟩) i rc))
      have HBB := hide hbb
      have hwz := hnw.ltb
      have hi1 : ¬ (i : Int) < (i : Int) := by omega
      clear hnw hzf hbb
      go_wp2_with fail
      obtain ⟨⟨v0, v1, v2⟩, hsS, hkS⟩ := unhide HRT
      have hBel : Below Wp.heap.size Wp (((wr.setCell ⟨Wp.heap.size + 1, 0, none⟩ (.int .i64 num)).setCell ⟨Wp.heap.size + 1, 1, none⟩ (.int .i64 (q : Nat))).setCell ⟨Wp.heap.size + 1, 2, none⟩ (.slice (gv.map fun g => ⟨g, 0, none⟩) i rc)) := (((((unhide HB2).trans ((unhide HBB).mono (unhide HB2).size)).setCell (p := ⟨Wp.heap.size + 1, 0, none⟩) (by show Wp.heap.size ≤ Wp.heap.size + 1; omega) _).setCell (p := ⟨Wp.heap.size + 1, 1, none⟩) (by show Wp.heap.size ≤ Wp.heap.size + 1; omega) _).setCell (p := ⟨Wp.heap.size + 1, 2, none⟩) (by show Wp.heap.size ≤ Wp.heap.size + 1; omega) _)
      have hZ := (unhide HZF).kept (W' := (((wr.setCell ⟨Wp.heap.size + 1, 0, none⟩ (.int .i64 num)).setCell ⟨Wp.heap.size + 1, 1, none⟩ (.int .i64 (q : Nat))).setCell ⟨Wp.heap.size + 1, 2, none⟩ (.slice (gv.map fun g => ⟨g, 0, none⟩) i rc))) (by rw [hsS]; exact Nat.le_refl _) (fun b hb => hkS b (by have := ((unhide HZF).ge b hb).1; have := unhide HS2; omega))
      generalize (((wr.setCell ⟨Wp.heap.size + 1, 0, none⟩ (.int .i64 num)).setCell ⟨Wp.heap.size + 1, 1, none⟩ (.int .i64 (q : Nat))).setCell ⟨Wp.heap.size + 1, 2, none⟩ (.slice (gv.map fun g => ⟨g, 0, none⟩) i rc)) = X at *
      refine bodyPost_ret (v := .agg #[.int .i64 num, .int .i64 (q : Nat), .slice (gv.map fun g => ⟨g, 0, none⟩) i rc]) (by simp [results, Try.results54, go_sem, v0, v1, v2]) rfl ?_
      exact ⟨gv, vb, rc, by rw [← unhide HTN], hZ.lo (by have := unhide HS2; omega), hBel⟩
end Go.Proofs.Ytildjlaphkjegaa
namespace Go.Proofs.Ytildjlaphkjegaa
open Go.RowKit
set_option linter.unusedVariables false

/-- Where a frame's variables lie. -/
structure Xr.Mf where
  gv : Option Nat
  vb : List Nat
  c : Nat
def Xr.Mf.bl (z : Xr.Mf) : List Nat := z.gv.toList ++ z.vb
def Xr.mC (m : Xr.Fr × Xr.Mf) : List Value := [.int .i64 m.1.num, .int .i64 m.1.fn, .slice (m.2.gv.map fun g => ⟨g, 0, none⟩) m.1.vs.length m.2.c]
def Xr.frC (ms : List (Xr.Fr × Xr.Mf)) : List Value := ms.flatMap Xr.mC
def Xr.bls (ms : List (Xr.Fr × Xr.Mf)) : List Nat := ms.flatMap fun m => m.2.bl
theorem Xr.frC_snoc (ms : List (Xr.Fr × Xr.Mf)) (m : Xr.Fr × Xr.Mf) : Xr.frC (ms ++ [m]) = Xr.frC ms ++ Xr.mC m := by unfold Xr.frC; simp
theorem Xr.bls_snoc (ms : List (Xr.Fr × Xr.Mf)) (m : Xr.Fr × Xr.Mf) : Xr.bls (ms ++ [m]) = Xr.bls ms ++ m.2.bl := by unfold Xr.bls; simp
theorem Xr.frC_len : ∀ (ms : List (Xr.Fr × Xr.Mf)), (Xr.frC ms).length = ms.length * 3
  | [] => rfl
  | m :: r => by
    show (Xr.mC m ++ Xr.frC r).length = _
    rw [List.length_append, Xr.frC_len r, List.length_cons]
    show 3 + r.length * 3 = _
    omega
theorem Xr.mem_bls {ms : List (Xr.Fr × Xr.Mf)} {m : Xr.Fr × Xr.Mf} (hm : m ∈ ms) {q : Nat} (hq : q ∈ m.2.bl) : q ∈ Xr.bls ms := List.mem_flatMap.2 ⟨m, hm, hq⟩
structure Xr.Sk (W0 W : World) (rv : Value) (ms : List (Xr.Fr × Xr.Mf)) : Prop where
  bel : Below W0.heap.size W0 W
  row : W.ownsRow W0.heap.size 45 3 rv ms.length (Xr.frC ms)
  zf : ∀ m ∈ ms, Xr.Zf W W0.heap.size m.2.gv m.2.vb m.2.c m.1.vs
  nd : (Xr.bls ms).Nodup
  rvn : ∀ q, rv.ownBlock = some q → q ∉ Xr.bls ms
section
variable {W0 W W' : World} {rv : Value} {ms : List (Xr.Fr × Xr.Mf)}
theorem Xr.Sk.lt (h : Xr.Sk W0 W rv ms) {q : Nat} (hq : q ∈ Xr.bls ms) : W0.heap.size ≤ q ∧ q < W.heap.size := by
  obtain ⟨m, hm, hq'⟩ := List.mem_flatMap.1 hq
  exact (h.zf m hm).ge q hq'
theorem Xr.Sk.kept (h : Xr.Sk W0 W rv ms) (hb : Below W0.heap.size W0 W') (hz : W.heap.size ≤ W'.heap.size) (h1 : ∀ q ∈ Xr.bls ms, W'.heap[q]? = W.heap[q]?) (h2 : ∀ q, rv.ownBlock = some q → W'.heap[q]? = W.heap[q]?) : Xr.Sk W0 W' rv ms :=
  ⟨hb, Xr.ow_kept h.row h2, fun m hm => (h.zf m hm).kept hz (fun q hq => h1 q (Xr.mem_bls hm hq)), h.nd, h.rvn⟩
theorem Xr.Sk.below (h : Xr.Sk W0 W rv ms) (hb : Below W.heap.size W W') : Xr.Sk W0 W' rv ms :=
  h.kept (h.bel.trans (hb.mono h.bel.size)) hb.size (fun q hq => hb.block q (h.lt hq).2) (fun q hq => hb.block q (h.row.lt q hq).2)
/-- A frame more. -/
theorem Xr.Sk.push {W1 W2 w6 : World} {n : Nat} (h : Xr.Sk W0 W rv ms) (hn : ms.length = n) (hb1 : Below W.heap.size W W1) (fr : Xr.Fr) (z : Xr.Mf) (hz : Xr.Zf W1 W.heap.size z.gv z.vb z.c fr.vs) (hb2 : Below W1.heap.size W1 W2) (hg : W2.grownBy w6 rv.ownBlock) (g c : Nat)
    (ho : w6.ownsRow W0.heap.size 45 3 (.slice (some ⟨g, 0, none⟩) (n + 1) c) (n + 1) (Xr.frC ms ++ Xr.mC (fr, z))) (hat : rv.ownBlock = some g ∨ g = W2.heap.size) : Xr.Sk W0 w6 (.slice (some ⟨g, 0, none⟩) (n + 1) c) (ms ++ [(fr, z)]) := by
  have hb12 : Below W.heap.size W W2 := hb1.trans (hb2.mono hb1.size)
  have hrl : ∀ q, rv.ownBlock = some q → W0.heap.size ≤ q ∧ q < W.heap.size := fun q hq => h.row.lt q hq
  have hz0 := h.bel.size
  have e1 := hb1.size
  have e2 := hb2.size
  have e3 := hg.size
  have kold : ∀ q, q < W.heap.size → rv.ownBlock ≠ some q → w6.heap[q]? = W.heap[q]? := fun q h1 h2 => (hg.block q (by omega) (fun e => h2 e.symm)).trans (hb12.block q h1)
  have knew : ∀ q, W.heap.size ≤ q → q < W1.heap.size → w6.heap[q]? = W1.heap[q]? := fun q h1 h2 => (hg.block q (by omega) (fun e => by have := (hrl q e.symm).2; omega)).trans (hb2.block q h2)
  refine ⟨⟨hg.os.trans (hb12.os.trans h.bel.os), hg.tape.trans (hb12.tape.trans h.bel.tape), hg.output.trans (hb12.output.trans h.bel.output), by omega, fun q hq => (kold q (by omega) (fun e => by have := (hrl q e).1; omega)).trans (h.bel.block q hq)⟩, ?_, ?_, ?_, ?_⟩
  · rw [Xr.frC_snoc, List.length_append, hn]
    exact ho
  · intro m hm
    rcases List.mem_append.1 hm with hm | hm
    · exact (h.zf m hm).kept (by omega) (fun q hq => kold q ((h.zf m hm).ge q hq).2 (fun e => h.rvn q e (Xr.mem_bls hm hq)))
    · simp at hm
      subst hm
      exact (hz.kept (by omega) (fun q hq => knew q (hz.ge q hq).1 (hz.ge q hq).2)).lo (by omega)
  · rw [Xr.bls_snoc, List.nodup_append]
    refine ⟨h.nd, hz.nd, fun a ha b hb => ?_⟩
    have h1 := (h.lt ha).2
    have h2 := (hz.ge b hb).1
    omega
  · intro q hq hin
    cases hq
    have hin2 : g ∈ Xr.bls (ms ++ [(fr, z)]) := hin
    rw [Xr.bls_snoc] at hin2
    rcases List.mem_append.1 hin2 with hin2 | hin2
    · rcases hat with e | e
      · exact h.rvn g e hin2
      · have := (h.lt hin2).2; omega
    · have h3 := hz.ge g hin2
      rcases hat with e | e
      · have := (hrl g e).2; omega
      · omega
/-- The last frame goes. -/
theorem Xr.Sk.pop {a : Option Addr} {n c : Nat} {m : Xr.Fr × Xr.Mf} (h : Xr.Sk W0 W (.slice a (n + 1) c) (ms ++ [m])) (hn : ms.length = n) : Xr.Sk W0 W (.slice a n c) ms := by
  refine ⟨h.bel, ?_, fun m' hm => h.zf m' (List.mem_append_left _ hm), ?_, fun q hq hin => ?_⟩
  · have hrow := h.row
    rw [show (ms ++ [m]).length = n + 1 by rw [List.length_append, hn]; rfl, Xr.frC_snoc] at hrow
    rcases hrow.2 with ⟨h1, h2⟩ | ⟨g, cap, cur, hv, hg, hh, hc, hm, hs, ht⟩
    · omega
    · cases hv
      rw [hn]
      have h3 : (Xr.frC ms).length = n * 3 := by rw [Xr.frC_len ms, hn]
      refine ⟨h3, .inr ⟨g, c, cur, rfl, hg, hh, by omega, hm, hs, ?_⟩⟩
      have h4 := congrArg (List.take (n * 3)) ht
      rw [List.take_take, Nat.min_eq_left (by omega), List.take_append_of_le_length (by omega)] at h4
      rw [h4, ← h3, List.take_length]
  · have := h.nd
    rw [Xr.bls_snoc, List.nodup_append] at this
    exact this.1
  · refine h.rvn q (by cases a <;> exact hq) ?_
    rw [Xr.bls_snoc]
    exact List.mem_append_left _ hin
theorem Xr.Zf.set {lo : Nat} {gv : Option Nat} {vb : List Nat} {c : Nat} {vs : List (List Int)} (h : Xr.Zf W lo gv vb c vs) {v b i : Nat} {l : List Int} (hv : vs[v]? = some l) (hb : vb[v]? = some b) (hi : i < l.length) (z : Int) : Xr.Zf (W.setCell ⟨b, i, none⟩ (.int .i64 z)) lo gv vb c (Xr.upd vs v i z) := by
  have hnd := h.nd
  rw [List.nodup_append] at hnd
  obtain ⟨g0, c0, f1, f2, f3, f4, f5, f6⟩ := h.at_ v b l hb hv
  refine ⟨fun q hq => ⟨(h.ge q hq).1, by rw [World.size_setCell]; exact (h.ge q hq).2⟩, h.nd, by rw [Xr.upd_len]; exact h.cap, by rw [Xr.upd_len]; exact h.len, by rw [Xr.upd_len]; exact h.few, fun k b' l' hb' hl' => ?_⟩
  rw [Xr.upd_at hv] at hl'
  by_cases hk : k = v
  · subst hk
    rw [if_pos rfl] at hl'
    cases hl'
    rw [hb] at hb'
    cases hb'
    have hgb : g0 ≠ b := hnd.2.2 g0 (by rw [f1]; simp) b (List.mem_of_getElem? hb)
    refine ⟨g0, c0, f1, ?_, by rw [List.length_set]; exact f3, by rw [List.length_set]; exact f4, fun j y hj => ?_, fun j => by rw [World.frozen?_setCell]; exact f6 j⟩
    · rw [List.length_set, Xr.cell_kept (Xr.set_other hgb)]
      exact f2
    · rw [List.getElem?_set] at hj
      by_cases hji : i = j
      · subst hji
        rw [if_pos rfl, if_pos hi] at hj
        cases hj
        exact World.cell?_setCell_same _ _ _ (f5 i l[i] (List.getElem?_eq_getElem hi))
      · rw [if_neg hji] at hj
        rw [World.cell?_setCell_other _ _ _ _ (by intro hh; exact hji (congrArg Addr.off hh))]
        exact f5 j y hj
  · rw [if_neg hk] at hl'
    obtain ⟨g, c', e1, e2, e3, e4, e5, e6⟩ := h.at_ k b' l' hb' hl'
    have hgb : g ≠ b := hnd.2.2 g (by rw [e1]; simp) b (List.mem_of_getElem? hb)
    have hbb : b' ≠ b := fun e => by
      subst e
      have h1 := (List.getElem?_eq_some_iff.1 hb').1
      have h2 := (List.getElem?_eq_some_iff.1 hb).1
      exact hk ((List.getElem?_inj h1 hnd.2.1).1 (hb'.trans hb.symm))
    exact ⟨g, c', e1, (Xr.cell_kept (Xr.set_other hgb) k).trans e2, e3, e4, fun j y hj => (Xr.cell_kept (Xr.set_other hbb) j).trans (e5 j y hj), fun j => by rw [World.frozen?_setCell]; exact e6 j⟩
/-- A cell of the last frame is written. -/
theorem Xr.Sk.set {fr : Xr.Fr} {z : Xr.Mf} (h : Xr.Sk W0 W rv (ms ++ [(fr, z)])) {v b i : Nat} {l : List Int} (hv : fr.vs[v]? = some l) (hb : z.vb[v]? = some b) (hi : i < l.length) (y : Int) : Xr.Sk W0 (W.setCell ⟨b, i, none⟩ (.int .i64 y)) rv (ms ++ [(⟨fr.num, fr.fn, Xr.upd fr.vs v i y⟩, z)]) := by
  have hbb : b ∈ z.bl := by unfold Xr.Mf.bl; exact List.mem_append_right _ (List.mem_of_getElem? hb)
  have hin : b ∈ Xr.bls (ms ++ [(fr, z)]) := by rw [Xr.bls_snoc]; exact List.mem_append_right _ hbb
  have hnd := h.nd
  rw [Xr.bls_snoc, List.nodup_append] at hnd
  refine ⟨h.bel.setCell (p := ⟨b, i, none⟩) (h.lt hin).1 _, ?_, fun m hm => ?_, ?_, ?_⟩
  · have e1 : Xr.frC (ms ++ [(⟨fr.num, fr.fn, Xr.upd fr.vs v i y⟩, z)]) = Xr.frC (ms ++ [(fr, z)]) := by
      rw [Xr.frC_snoc, Xr.frC_snoc]
      unfold Xr.mC
      rw [Xr.upd_len]
    rw [e1, List.length_append]
    have h1 := h.row
    rw [List.length_append] at h1
    exact Xr.ow_kept h1 (fun q hq => Xr.set_other (fun e => by subst e; exact h.rvn _ hq hin))
  · rcases List.mem_append.1 hm with hm | hm
    · exact (h.zf m (List.mem_append_left _ hm)).kept (by rw [World.size_setCell]; exact Nat.le_refl _) (fun q hq => Xr.set_other (hnd.2.2 q (Xr.mem_bls hm hq) b hbb))
    · simp at hm
      subst hm
      exact (h.zf (fr, z) (by simp)).set hv hb hi y
  · have := h.nd
    rw [Xr.bls_snoc] at this ⊢
    exact this
  · intro q hq
    have := h.rvn q hq
    rw [Xr.bls_snoc] at this ⊢
    exact this
end
end Go.Proofs.Ytildjlaphkjegaa
