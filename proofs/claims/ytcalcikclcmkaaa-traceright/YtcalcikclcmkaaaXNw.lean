/-
  Several texts in one: XNew, XNewF. By the verifier.
-/
import Derived.Test.YtcalcikclcmkaaaXCount
import Derived.Deep.OwnRows
import Derived.Laws.OwnMore
set_option maxRecDepth 100000
set_option maxHeartbeats 3200000
namespace Go.Proofs.Ytcalcikclcmkaaa
open Go.RowKit
set_option linter.unusedVariables false
theorem Try.infoI3 : (Try.prog.info? 3).map (fun i => (i.zero, i.size, i.bytes)) = some (some (.int .i64 0), 1, 8) := by kernel_rfl
theorem Try.infoIs : (Try.prog.info? 37).map (fun i => (i.zero, i.size, i.bytes)) = some (some (.slice none 0 0), 1, 24) := by kernel_rfl
theorem Xr.add_at (g k : Nat) : (⟨g, 0, none⟩ : Addr).add k = ⟨g, k, none⟩ := by unfold Addr.add; split <;> simp_all
def Xr.szN (z : Int) : Nat := (max z 1).toNat
structure Xr.Nw (W wr : World) (num deep : Nat) (sz : List Int) (i : Nat) (rv : Value) (vb : List Nat) (svs : List Value) : Prop where
 bel : Below W.heap.size W wr
 c0 : wr.cell? ⟨W.heap.size, 0, none⟩ = some (.int .i64 (num : Nat))
 c1 : wr.cell? ⟨W.heap.size, 1, none⟩ = some (.int .i64 (deep : Nat))
 c2 : wr.cell? ⟨W.heap.size, 2, none⟩ = some (.int .i64 (-1))
 c3 : wr.cell? ⟨W.heap.size, 3, none⟩ = some rv
 fz : ∀ j, wr.frozen? ⟨W.heap.size, j, none⟩ = false
 vlen : vb.length = i
 row : wr.ownsRow (W.heap.size + 1) 37 1 rv i svs
 at_ : ∀ (k b : Nat), vb[k]? = some b → ∃ z : Int, sz[k]? = some z ∧ svs[k]? = some (Value.slice (some ⟨b, 0, none⟩) (Xr.szN z) (Xr.szN z)) ∧ wr.heap[b]? = some (Obj.cells (madeCells #[.int .i64 0] (Xr.szN z)) 3)
 nd : vb.Nodup
 ge : ∀ b ∈ vb, W.heap.size < b ∧ b < wr.heap.size
 rvn : ∀ q, rv.ownBlock = some q → q ∉ vb
theorem Xr.Nw.ltb {W wr : World} {num deep : Nat} {sz : List Int} {i : Nat} {rv : Value} {vb : List Nat} {svs : List Value} (h : Xr.Nw W wr num deep sz i rv vb svs) : W.heap.size < wr.heap.size := World.block_lt_of_cell? wr _ h.c0
theorem Xr.Nw.next {W wr W2 w6 : World} {num deep : Nat} {sz : List Int} {i : Nat} {rv : Value} {vb : List Nat} {svs : List Value} (h : Xr.Nw W wr num deep sz i rv vb svs) {z : Int} (hz : sz[i]? = some z) (hb : Below wr.heap.size wr W2) (hnew : W2.heap[wr.heap.size]? = some (Obj.cells (madeCells #[.int .i64 0] (Xr.szN z)) 3)) (hg : W2.grownBy w6 rv.ownBlock) (g c : Nat)
  (ho : w6.ownsRow (W.heap.size + 1) 37 1 (.slice (some ⟨g, 0, none⟩) (i + 1) c) (i + 1) (svs ++ [.slice (some ⟨wr.heap.size, 0, none⟩) (Xr.szN z) (Xr.szN z)])) (hat : rv.ownBlock = some g ∨ g = W2.heap.size) :
  Xr.Nw W (w6.setCell ⟨W.heap.size, 3, none⟩ (.slice (some ⟨g, 0, none⟩) (i + 1) c)) num deep sz (i + 1) (.slice (some ⟨g, 0, none⟩) (i + 1) c) (vb ++ [wr.heap.size]) (svs ++ [.slice (some ⟨wr.heap.size, 0, none⟩) (Xr.szN z) (Xr.szN z)]) := by
 have hl := h.ltb
 have hz2 := hb.size
 have hnl : wr.heap.size < W2.heap.size := (Array.getElem?_eq_some_iff.1 hnew).1
 have hrl : ∀ q, rv.ownBlock = some q → W.heap.size + 1 ≤ q ∧ q < wr.heap.size := fun q hq => h.row.lt q hq
 have hgo := (ho.lt g rfl)
 have kb : w6.heap[W.heap.size]? = wr.heap[W.heap.size]? := (hg.block _ (by omega) (fun e => by have := (hrl _ e.symm).1; omega)).trans (hb.block _ hl)
 have o3 : ∀ j, j ≠ 3 → (w6.setCell ⟨W.heap.size, 3, none⟩ (.slice (some ⟨g, 0, none⟩) (i + 1) c)).cell? ⟨W.heap.size, j, none⟩ = wr.cell? ⟨W.heap.size, j, none⟩ := fun j hj => by
  rw [World.cell?_setCell_other _ _ _ _ (by intro hh; exact hj (congrArg Addr.off hh).symm)]
  exact Xr.cell_kept kb j
 have hsvl : svs.length = i := by have := h.row.1; omega
 have hvo : ∀ b ∈ vb, (w6.setCell ⟨W.heap.size, 3, none⟩ (.slice (some ⟨g, 0, none⟩) (i + 1) c)).heap[b]? = wr.heap[b]? := fun b hbm => by
  have h1 := h.ge b hbm
  exact (Xr.set_other (by omega)).trans ((hg.block b (by omega) (fun e => h.rvn b e.symm hbm)).trans (hb.block b h1.2))
 have hnw : (w6.setCell ⟨W.heap.size, 3, none⟩ (.slice (some ⟨g, 0, none⟩) (i + 1) c)).heap[wr.heap.size]? = some (Obj.cells (madeCells #[.int .i64 0] (Xr.szN z)) 3) :=
  (Xr.set_other (by omega)).trans ((hg.block _ hnl (fun e => by have := (hrl _ e.symm).2; omega)).trans hnew)
 have hgs : w6.heap.size ≥ W2.heap.size := hg.size
 refine ⟨⟨hg.os.trans (hb.os.trans h.bel.os), hg.tape.trans (hb.tape.trans h.bel.tape), hg.output.trans (hb.output.trans h.bel.output), by rw [World.size_setCell]; have := h.bel.size; omega, fun q hq => (Xr.set_other (by omega)).trans ((hg.block q (by omega) (fun e => by have := (hrl _ e.symm).1; omega)).trans ((hb.block q (by omega)).trans (h.bel.block q hq)))⟩, (o3 0 (by omega)).trans h.c0, (o3 1 (by omega)).trans h.c1, (o3 2 (by omega)).trans h.c2, World.cell?_setCell_same _ _ _ ((Xr.cell_kept kb 3).trans h.c3), fun j => by rw [World.frozen?_setCell]; exact (Xr.frz_kept kb j).trans (h.fz j), by rw [List.length_append, h.vlen]; rfl, ?_, ?_, ?_, ?_, ?_⟩
 · refine Xr.ow_kept ho (fun q hq => ?_)
   cases hq
   exact Xr.set_other (by have := hgo.1; show g ≠ W.heap.size; omega)
 · intro k b hkb
   by_cases hk : k < i
   · rw [List.getElem?_append_left (by rw [h.vlen]; exact hk)] at hkb
     obtain ⟨y, y1, y2, y3⟩ := h.at_ k b hkb
     exact ⟨y, y1, by rw [List.getElem?_append_left (by omega)]; exact y2, (hvo b (List.mem_of_getElem? hkb)).trans y3⟩
   · have hke : k = i := by
      have := (List.getElem?_eq_some_iff.1 hkb).1
      rw [List.length_append, h.vlen] at this
      simp at this
      omega
     subst hke
     rw [List.getElem?_append_right (by rw [h.vlen]; exact Nat.le_refl _), h.vlen, Nat.sub_self] at hkb
     cases hkb
     exact ⟨z, hz, by rw [List.getElem?_append_right (by omega), hsvl, Nat.sub_self]; rfl, hnw⟩
 · rw [List.nodup_append]
   exact ⟨h.nd, by simp, fun a ha b hb' => by simp at hb'; subst hb'; have := (h.ge a ha).2; omega⟩
 · intro b hbm
   rw [World.size_setCell]
   rcases List.mem_append.1 hbm with hbm | hbm
   · have := h.ge b hbm; omega
   · simp at hbm; subst hbm; omega
 · intro q hq hin
   cases hq
   have hin2 : g ∈ vb ++ [wr.heap.size] := hin
   rcases List.mem_append.1 hin2 with hin2 | hin2
   · rcases hat with e | e
     · exact h.rvn g e hin2
     · have := (h.ge g hin2).2; omega
   · simp at hin2
     rcases hat with e | e
     · have := (hrl g e).2; omega
     · omega
theorem Xr.Nw.done {w0 W wr : World} {num deep : Nat} {sz : List Int} {i : Nat} {rv : Value} {vb : List Nat} {svs : List Value} (h : Xr.Nw W wr num deep sz i rv vb svs) (hi : i = sz.length) (hi2 : i ≤ 100) (hs : ∀ z ∈ sz, z ≤ 100) (h0 : w0.heap.size ≤ W.heap.size) :
  ∃ gv, Xr.Fm w0 wr W.heap.size gv vb (Xr.newF num deep sz) ∧ ∀ q ∈ Xr.own W.heap.size gv vb, W.heap.size ≤ q := by
 have hl := h.ltb
 have hvl : (Xr.newF num deep sz).vs.length = i := by show (sz.map _).length = i; rw [List.length_map, hi]
 have hat : ∀ (k b : Nat) (l : List Int), vb[k]? = some b → (Xr.newF num deep sz).vs[k]? = some l → ∃ z, sz[k]? = some z ∧ l = List.replicate (Xr.szN z) 0 ∧ svs[k]? = some (Value.slice (some ⟨b, 0, none⟩) l.length (Xr.szN z)) ∧ wr.heap[b]? = some (Obj.cells (madeCells #[.int .i64 0] (Xr.szN z)) 3) := by
  intro k b l hb hl'
  obtain ⟨z, z1, z2, z3⟩ := h.at_ k b hb
  have hl2 : (sz.map fun n => List.replicate (max n 1).toNat (0 : Int))[k]? = some l := hl'
  rw [List.getElem?_map, z1] at hl2
  have hl3 : l = List.replicate (Xr.szN z) 0 := by simpa [Xr.szN] using hl2.symm
  exact ⟨z, z1, hl3, by rw [hl3, List.length_replicate]; exact z2, z3⟩
 have hcell : ∀ (b : Nat) (n : Nat), wr.heap[b]? = some (Obj.cells (madeCells #[.int .i64 0] n) 3) → (∀ j y, (List.replicate n (0 : Int))[j]? = some y → wr.cell? ⟨b, j, none⟩ = some (.int .i64 y)) ∧ ∀ j, wr.frozen? ⟨b, j, none⟩ = false := by
  intro b n hb
  constructor
  · intro j y hj
    rw [cell_of_row wr b j _ 3 (0, 0) hb, ← Array.getElem?_toList, toList_madeCells_one]
    obtain ⟨hlt, hy⟩ := List.getElem?_eq_some_iff.1 hj
    rw [List.getElem_replicate] at hy
    rw [List.length_replicate] at hlt
    rw [List.getElem?_replicate, if_pos hlt, ← hy]
  · intro j
    simp [World.frozen?, hb]
 rcases h.row.2 with ⟨hrv, hi0⟩ | ⟨g, cap, cur, hrv, hg1, hg2, hg3, hg4, hg5, hg6⟩
 · have hvb : vb = [] := List.eq_nil_of_length_eq_zero (by rw [h.vlen]; exact hi0)
   subst hvb
   refine ⟨none, ⟨?_, ?_, h.c0, h.c1, h.c2, ⟨0, ?_, by rw [hvl]; omega⟩, h.fz, by rw [hvl, h.vlen], by rw [hvl]; omega, fun k b l hb => by simp at hb⟩, ?_⟩
   · intro q hq; unfold Xr.own at hq; simp at hq; omega
   · unfold Xr.own; simp
   · rw [hvl, hi0]; rw [hrv] at h; exact h.c3
   · intro q hq; unfold Xr.own at hq; simp at hq; omega
 · have hown := h.row
   rw [hrv] at hown
   have hgl := hown.lt g rfl
   refine ⟨some g, ⟨?_, ?_, h.c0, h.c1, h.c2, ⟨cap, ?_, by rw [hvl]; exact hg3⟩, h.fz, by rw [hvl, h.vlen], by rw [hvl]; omega, ?_⟩, ?_⟩
   · intro q hq
     unfold Xr.own at hq
     simp at hq
     rcases hq with hq | hq | hq
     · omega
     · omega
     · have := h.ge q hq; omega
   · unfold Xr.own
     simp
     refine ⟨⟨by omega, fun e => by have := (h.ge _ e).1; omega⟩, fun e => h.rvn g (by rw [hrv]; rfl) e, h.nd⟩
   · rw [hvl]; rw [hrv] at h; exact h.c3
   · intro k b l hb hl'
     obtain ⟨z, z1, z2, z3, z4⟩ := hat k b l hb hl'
     obtain ⟨q1, q2⟩ := hcell b (Xr.szN z) z4
     have hcl := hown.cells (g := g) rfl k _ z3
     rw [Xr.add_at] at hcl
     have hzl := hs z (List.mem_of_getElem? z1)
     have hll : l.length = Xr.szN z := by rw [z2, List.length_replicate]
     have hzn : Xr.szN z ≤ 100 := by unfold Xr.szN; omega
     exact ⟨g, Xr.szN z, rfl, by simpa using hcl, by omega, by omega, fun j y hj => q1 j y (by rw [← z2]; exact hj), q2⟩
   · intro q hq
     unfold Xr.own at hq
     simp at hq
     rcases hq with hq | hq | hq
     · omega
     · omega
     · have := h.ge q hq; omega
end Go.Proofs.Ytcalcikclcmkaaa
namespace Go.Proofs.Ytcalcikclcmkaaa
open Go.RowKit
set_option linter.unusedVariables false
theorem newFrame_any {w0 : World} (num deep : Nat) (t : Pg.Sl) (sz : List Int) (W : World) (h0 : w0.heap.size ≤ W.heap.size) (hr : Pg.RN W t sz) (hlen : sz.length ≤ 100) (hs : ∀ z ∈ sz, 0 ≤ z ∧ z ≤ 100) :
  Calls Try.prog 70 #[.int .i64 (num : Nat), .int .i64 (deep : Nat), .slice t.ad t.len t.cap] W fun r W' => ∃ gv vb, r = .returned (.pointer (some ⟨W.heap.size, 0, none⟩)) ∧ Xr.Fm w0 W' W.heap.size gv vb (Xr.newF num deep sz) ∧ (∀ q ∈ Xr.own W.heap.size gv vb, W.heap.size ≤ q) ∧ Below W.heap.size W W' := by
 obtain ⟨ta, tn, tc⟩ := t
 have htn : tn = sz.length := hr.len
 have hb0 := (Below.refl W.heap.size W).alloc (Nat.le_refl _) (Obj.cells #[.int .i64 (num : Nat), .int .i64 (deep : Nat), .int .i64 (-1), .slice none 0 0] 154)
 have HN0 := hide (show Xr.Nw W (W.alloc (Obj.cells #[.int .i64 (num : Nat), .int .i64 (deep : Nat), .int .i64 (-1), .slice none 0 0] 154)) num deep sz 0 (.slice none 0 0) [] [] from ⟨hb0, by go_simp, by go_simp, by go_simp, by go_simp, fun j => by go_simp, rfl, ⟨rfl, .inl ⟨rfl, rfl⟩⟩, fun k b hb => by simp at hb, List.nodup_nil, fun b hb => by simp at hb, fun q hq => by cases hq⟩)
 obtain ⟨i0, hi0, hz0, hz1', hz2⟩ := info_of Try.infoIs
 have HI := hide hi0
 have HZ0 := hide hz0
 have HZ1 := hide hz1'
 have HZ2 := hide hz2
 have HR := hide hr
 have HS := hide hs
 have HTN := hide htn
 have htl : tn ≤ 100 := by omega
 clear hb0 hi0 hz0 hz1' hz2 hr hs htn
 dsimp only
 go_enter Try.func70, Try.ntmps70
 go_wp2_with fail
 generalize W.alloc (Obj.cells #[.int .i64 (num : Nat), .int .i64 (deep : Nat), .int .i64 (-1), .slice none 0 0] 154) = W0 at *
 go_loopw [15] (fun iv wr => ∃ (i : Nat) (rv : Value) (vb : List Nat) (svs : List Value), i ≤ tn ∧ iv = .int .i64 i ∧ Xr.Nw W wr num deep sz i rv vb svs) (fun iv _ => tn - (intOf iv).toNat)
 case atStart => exact ⟨0, _, _, _, Nat.zero_le _, rfl, unhide HN0⟩
 case round =>
  obtain ⟨i, rv, vb, svs, hi, rfl, hnw⟩ := hrel
  by_cases hlt : i < tn
  · have hlt2 : i < sz.length := by have := unhide HTN; omega
    have hy := List.getElem?_eq_getElem hlt2
    obtain ⟨b, o, had, hb, hc⟩ := (unhide HR).at_ i _ hy
    have hzz := (unhide HS) _ (List.getElem_mem hlt2)
    have p0 := (hnw.bel.cell (p := ⟨b, o + i, none⟩) hb).trans hc
    obtain ⟨ra, rc, rfl⟩ : ∃ a c, rv = .slice a i c := by
     rcases hnw.row.2 with ⟨h1, h2⟩ | ⟨g, cap, cur, hv, _⟩
     · exact ⟨none, 0, by rw [h2]; exact h1⟩
     · exact ⟨_, _, hv⟩
    have HROW := hide hnw.row
    have HNX := hide (fun (W2 w6 : World) (h1 : Below wr.heap.size wr W2) (h2 : W2.heap[wr.heap.size]? = some (Obj.cells (madeCells #[.int .i64 0] (Xr.szN sz[i])) 3)) (h3 : W2.grownBy w6 (Value.slice ra i rc).ownBlock) (g c : Nat) (h4 : w6.ownsRow (W.heap.size + 1) 37 1 (.slice (some ⟨g, 0, none⟩) (i + 1) c) (i + 1) (svs ++ [.slice (some ⟨wr.heap.size, 0, none⟩) (Xr.szN sz[i]) (Xr.szN sz[i])])) (h5 : (Value.slice ra i rc).ownBlock = some g ∨ g = W2.heap.size) => hnw.next hy h1 h2 h3 g c h4 h5)
    have k3 := hnw.c3
    have kf := hnw.fz 3
    have hwl := hnw.ltb
    have HEV := hide (show ∀ q, (Value.slice ra i rc).ownBlock = some q → W.heap.size + 1 ≤ q from fun q hq => (hnw.row.lt q hq).1)
    have hsn : ((Xr.szN sz[i] : Nat) : Int) = max sz[i] 1 := by unfold Xr.szN; omega
    have hsb : Xr.szN sz[i] ≤ 100 := by unfold Xr.szN; omega
    generalize Xr.szN sz[i] = n at *
    generalize sz[i] = z at *
    have hmk : ∀ V : World, (Instr.makeSlice 37 (.int .i64 (if z < 1 then 1 else z)) (.int .i64 (if z < 1 then 1 else z))).run Try.prog V = .ok (.slice (some ⟨V.heap.size, 0, none⟩) n n) (V.alloc (.cells (madeCells #[.int .i64 0] n) 3)) := by
     intro V
     have hmx : (if z < 1 then 1 else z) = (n : Int) := by rw [hsn]; split <;> omega
     rw [hmx]
     exact run_make_row' (P := Try.prog) 37 3 (.int .i64 0) 8 Try.underlying37 Try.infoI3 rfl .i64 .i64 n (by omega) (by omega) V
    clear hsn
    have had' : ta = some ⟨b, o, none⟩ := had
    subst had'
    clear had hc hy hnw
    have hi0' : (0 : Int) ≤ (i : Int) := by omega
    have hi1 : (i : Int) < (tn : Int) := by omega
    go_upto_region 5 with fail
    clear p0
    have HBD := hide (show Below wr.heap.size wr ((wr.alloc (Obj.cells (madeCells #[.int .i64 0] n) 3)).alloc (Obj.cells #[.slice (some ⟨wr.heap.size, 0, none⟩) n n] 37)).drew from (((Below.refl wr.heap.size wr).alloc (Nat.le_refl _) _).alloc (by simp) _).drew)
    have HNW := hide (show ∀ j u, [Value.slice (some ⟨wr.heap.size, 0, none⟩) n n][j]? = some u → ((wr.alloc (Obj.cells (madeCells #[.int .i64 0] n) 3)).alloc (Obj.cells #[.slice (some ⟨wr.heap.size, 0, none⟩) n n] 37)).drew.cell? ((⟨wr.heap.size + 1, 0, none⟩ : Addr).add j) = some u from by
     have h1 := heap_alloc_new (wr.alloc (Obj.cells (madeCells #[.int .i64 0] n) 3)) (Obj.cells #[.slice (some ⟨wr.heap.size, 0, none⟩) n n] 37)
     have h2 : (wr.alloc (Obj.cells (madeCells #[.int .i64 0] n) 3)).heap.size = wr.heap.size + 1 := by simp
     rw [h2] at h1
     exact World.news_of_block h1)
    have HM := hide (show ((wr.alloc (Obj.cells (madeCells #[.int .i64 0] n) 3)).alloc (Obj.cells #[.slice (some ⟨wr.heap.size, 0, none⟩) n n] 37)).drew.heap[wr.heap.size]? = some (Obj.cells (madeCells #[.int .i64 0] n) 3) from by
     have h1 := heap_alloc_new wr (Obj.cells (madeCells #[.int .i64 0] n) 3)
     have h2 := ((Below.refl (wr.alloc (Obj.cells (madeCells #[.int .i64 0] n) 3)).heap.size (wr.alloc (Obj.cells (madeCells #[.int .i64 0] n) 3))).alloc (Nat.le_refl _) (Obj.cells #[.slice (some ⟨wr.heap.size, 0, none⟩) n n] 37)).block wr.heap.size (by simp)
     exact h2.trans h1)
    go_region_law (first
     | (refine step_append_lies _ rfl (.tmp 20) (.tmp 24) 25 rfl (W.heap.size + 1) 37 i0 _ 1 24 Try.underlying25 (unhide HI) (unhide HZ0) (unhide HZ1) (unhide HZ2) rfl (by omega) (.slice ra i rc) i svs rfl (Pg.ow_below (unhide HROW) (unhide HBD)) _ 1 1 [.slice (some ⟨wr.heap.size, 0, none⟩) n n] rfl rfl (unhide HNW) (by simp [Value.oneCell']) (by omega) (by unfold maxLen; omega) (by omega) (by simp; omega) _ rfl ?_; intro gA cA w6 hoA hgA hatA hltA; have HGA := hide hgA; have HOA := hide hoA; have HAT := hide hatA; have hbb := (hgA.block W.heap.size (by simp; omega) (fun e => by have := (unhide HEV) _ e.symm; omega)).trans ((unhide HBD).block W.heap.size (by omega)); have z4 := (Xr.cell_kept hbb 3).trans k3; have z5 := (Xr.frz_kept hbb 3).trans kf; clear hatA hltA hoA hgA hbb))
    all_goals
     go_wp2_with fail
     exact ⟨⟨i + 1, _, _, _, by omega, by go_num, (unhide HNX) _ _ (unhide HBD) (unhide HM) (unhide HGA) _ _ (unhide HOA) (unhide HAT)⟩, by simp [intOf]; omega⟩
  · have HD := hide (Xr.Nw.done (w0 := w0) hnw (by have := unhide HTN; omega) (by omega) (fun z hz => ((unhide HS) z hz).2) h0)
    have HB := hide hnw.bel
    clear hnw
    go_wp2_with fail
    go_ret
    obtain ⟨gv, h1, h2⟩ := unhide HD
    exact ⟨gv, vb, rfl, h1, h2, unhide HB⟩
end Go.Proofs.Ytcalcikclcmkaaa
