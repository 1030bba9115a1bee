/-
  XCount, XNw, PForm, XModel, VPure, VOk. By the verifier.
-/
import Derived.Test.YtpfogjplnodacaaGreatXOps
import Derived.Test.YtpfogjplnodacaaGreatLC
import Derived.Deep.OwnRows
import Derived.Laws.OwnMore
import Derived.Test.YtpfogjplnodacaaGreatLD
set_option maxRecDepth 100000
set_option maxHeartbeats 3200000
namespace Go.Proofs.YtpfogjplnodacaaGreat
open Go.RowKit
set_option linter.unusedVariables false
def Xr.inn {m n : Nat} (y : Pg.CT m (n + 1)) : Nat := Pg.cnts y.2.2.1 + Pg.cnts y.2.2.2
theorem Xr.cnts_inn {m n : Nat} (l : List (Pg.CT m (n + 1))) : Pg.cnts l = l.length + (l.map Xr.inn).sum := by
 induction l with
 | nil => rfl
 | cons y r ih =>
  have h1 : Pg.cnts (y :: r) = Pg.cnt (n + 1) y + Pg.cnts r := rfl
  have h2 : ((y :: r).map Xr.inn).sum = Xr.inn y + (r.map Xr.inn).sum := rfl
  rw [h1, h2, Pg.cnt_succ, ih, List.length_cons]
  unfold Xr.inn
  omega
theorem count_any {m : Nat} : ∀ (n : Nat) (s : Pg.Sl) (l : List (Pg.CT m n)) (w : World), Pg.RS w 12 (Pg.LC w) (Pg.RC w m n) s l → Pg.cnts l ≤ 1000 →
  Calls Tryz.prog 105 #[.slice s.ad s.len s.cap] w fun r w' => r = .returned (.int .i64 (Pg.cnts l : Nat)) ∧ Below w.heap.size w w' := by
 intro n
 induction n with
 | zero =>
  intro s l w hs hc
  cases l with
  | cons y r => exact Empty.elim y
  | nil =>
   have hlen := hs.len
   have hl0 : s.len = 0 := by rw [hlen]; rfl
   have HC := hide (show Pg.cnts ([] : List (Pg.CT m 0)) = 0 from rfl)
   generalize Pg.cnts ([] : List (Pg.CT m 0)) = R at *
   clear hs hlen hc
   obtain ⟨sa, sl, sc⟩ := s
   dsimp only at *
   subst hl0
   go_enter Tryz.func105, Tryz.ntmps105
   go_wp2_with fail
   go_loopw [3, 10] (fun nv iv wr => nv = .int .i64 0 ∧ iv = .int .i64 0 ∧ wr = w) (fun _ _ _ => 0)
   case atStart => exact ⟨rfl, rfl, rfl⟩
   case round =>
    obtain ⟨rfl, rfl, rfl⟩ := hrel
    go_wp2_with fail
    go_ret
    exact ⟨ret_int (by rw [unhide HC]; rfl), Below.refl _ _⟩
 | succ n ih =>
  intro s l w hs hc
  have hlen := hs.len
  have hfew := hs.few
  rw [← hlen] at hfew
  have hci := Xr.cnts_inn l
  have HSA := hide (Pg.sumTo_all Xr.inn l)
  have HSL := hide (Pg.sumTo_le Xr.inn l)
  have hll : s.len ≤ 1000 := by omega
  obtain ⟨R, hR⟩ : ∃ R, R = Pg.cnts l := ⟨_, rfl⟩
  rw [← hR]
  have HR := hide (show R = s.len + (l.map Xr.inn).sum by rw [hR, hci, hlen])
  have hRc : R ≤ 1000 := by omega
  have HS := hide hs
  have HLN := hide hlen
  have IH := hide ih
  clear hs hlen ih hc hci hR
  obtain ⟨sa, sl, sc⟩ := s
  dsimp only at *
  go_enter Tryz.func105, Tryz.ntmps105
  go_wp2_with fail
  go_loopw [3, 10] (fun nv iv wr => ∃ (i k : Nat), i ≤ sl ∧ iv = .int .i64 i ∧ nv = .int .i64 ((k : Nat) : Int) ∧ k ≤ 1000 ∧ Hid (k = sl + Pg.sumTo Xr.inn l i) ∧ Below w.heap.size w wr) (fun _ iv _ => sl - (intOf iv).toNat)
  case atStart => exact ⟨0, sl, Nat.zero_le _, rfl, rfl, hll, by show _ = _; rfl, Below.refl _ _⟩
  case round =>
   obtain ⟨i, k, hi, rfl, rfl, hk, hkk, hbe⟩ := hrel
   have hz := hbe.size
   have HBE := hide hbe
   have HK := hide (unhide hkk)
   clear hbe hkk
   by_cases hlt : i < sl
   · have hlt2 : i < l.length := by have := unhide HLN; omega
     have hy := List.getElem?_eq_getElem hlt2
     obtain ⟨b, o, cc, had, hb, hlies, hrd⟩ := (unhide HS).at_ i _ hy
     have HSU := hide (Pg.sumTo_succ Xr.inn l i _ hy)
     have HLE := hide ((unhide HSL) (i + 1) (by omega))
     generalize l[i] = y at *
     have hyi : Xr.inn y = Pg.cnts y.2.2.1 + Pg.cnts y.2.2.2 := rfl
     have hsum : k + (Pg.cnts y.2.2.1 + Pg.cnts y.2.2.2) ≤ R := by
      have h1 := unhide HSU
      have h2 := unhide HLE
      have h3 := unhide HK
      have h4 := unhide HR
      omega
     have HNX := hide (show k + (Pg.cnts y.2.2.1 + Pg.cnts y.2.2.2) = sl + Pg.sumTo Xr.inn l (i + 1) by
      have h1 := unhide HSU
      have h3 := unhide HK
      omega)
     have hll2 := hlies.later (unhide HBE) (Nat.le_refl _) hb
     obtain ⟨p0, p1, p2, p3, p4, p5, p6, p7, p8, p9, p10, p11⟩ := hll2
     have hal := (Below.refl wr.heap.size wr).alloc (Nat.le_refl _) (Obj.cells #[.int .i64 cc.k, .int .i64 cc.v, .int .i64 cc.f, .int .i64 cc.ix.k, .int .i64 cc.ix.n, .slice cc.ix.args.ad cc.ix.args.len cc.ix.args.cap, .int .i64 cc.ex.k, .int .i64 cc.ex.n, .slice cc.ex.args.ad cc.ex.args.len cc.ex.args.cap, .slice cc.args.ad cc.args.len cc.args.cap, .slice cc.thn.ad cc.thn.len cc.thn.cap, .slice cc.els.ad cc.els.len cc.els.cap] 107)
     have hba := (unhide HBE).trans (hal.mono hz)
     have HBA := hide hba
     have HT := hide (fun (W : World) (hW : Below w.heap.size w W) => (unhide IH) cc.thn y.2.2.1 W (hrd.2.2.1.laterC hW (Nat.le_refl _)) (by omega))
     have HE := hide (fun (W : World) (hW : Below w.heap.size w W) => (unhide IH) cc.els y.2.2.2 W (hrd.2.2.2.laterC hW (Nat.le_refl _)) (by omega))
     have s10 : (wr.alloc (Obj.cells #[.int .i64 cc.k, .int .i64 cc.v, .int .i64 cc.f, .int .i64 cc.ix.k, .int .i64 cc.ix.n, .slice cc.ix.args.ad cc.ix.args.len cc.ix.args.cap, .int .i64 cc.ex.k, .int .i64 cc.ex.n, .slice cc.ex.args.ad cc.ex.args.len cc.ex.args.cap, .slice cc.args.ad cc.args.len cc.args.cap, .slice cc.thn.ad cc.thn.len cc.thn.cap, .slice cc.els.ad cc.els.len cc.els.cap] 107)).cell? ⟨wr.heap.size, 10, none⟩ = some (.slice cc.thn.ad cc.thn.len cc.thn.cap) := by go_simp
     have s11 : (wr.alloc (Obj.cells #[.int .i64 cc.k, .int .i64 cc.v, .int .i64 cc.f, .int .i64 cc.ix.k, .int .i64 cc.ix.n, .slice cc.ix.args.ad cc.ix.args.len cc.ix.args.cap, .int .i64 cc.ex.k, .int .i64 cc.ex.n, .slice cc.ex.args.ad cc.ex.args.len cc.ex.args.cap, .slice cc.args.ad cc.args.len cc.args.cap, .slice cc.thn.ad cc.thn.len cc.thn.cap, .slice cc.els.ad cc.els.len cc.els.cap] 107)).cell? ⟨wr.heap.size, 11, none⟩ = some (.slice cc.els.ad cc.els.len cc.els.cap) := by go_simp
     generalize Pg.cnts y.2.2.1 = C1 at *
     generalize Pg.cnts y.2.2.2 = C2 at *
     have hw1 : IntKind.i64.wrap ((C1 : Int) + (C2 : Int)) = (C1 : Int) + (C2 : Int) := Xr.wrap_id (by omega) (by omega)
     have hw2 : IntKind.i64.wrap ((k : Int) + ((C1 : Int) + (C2 : Int))) = (k : Int) + ((C1 : Int) + (C2 : Int)) := Xr.wrap_id (by omega) (by omega)
     clear hlies hrd hy hal hba hyi
     have hi0 : (0 : Int) ≤ (i : Int) := by omega
     have hi1 : (i : Int) < (sl : Int) := by omega
     have had' : sa = some ⟨b, o, none⟩ := had
     subst had'
     clear had
     go_upto_region 5 with fail
     clear p0 p1 p2 p3 p4 p5 p6 p7 p8 p9 p10 p11
     generalize wr.alloc (Obj.cells #[.int .i64 cc.k, .int .i64 cc.v, .int .i64 cc.f, .int .i64 cc.ix.k, .int .i64 cc.ix.n, .slice cc.ix.args.ad cc.ix.args.len cc.ix.args.cap, .int .i64 cc.ex.k, .int .i64 cc.ex.n, .slice cc.ex.args.ad cc.ex.args.len cc.ex.args.cap, .slice cc.args.ad cc.args.len cc.args.cap, .slice cc.thn.ad cc.thn.len cc.thn.cap, .slice cc.els.ad cc.els.len cc.els.cap] 107) = W1 at *
     have hbl := World.block_lt_of_cell? W1 _ s10
     have HKM := hide (show ∀ V : World, Below W1.heap.size W1 V → (V.cell? ⟨wr.heap.size, 10, none⟩ = some (.slice cc.thn.ad cc.thn.len cc.thn.cap) ∧ V.cell? ⟨wr.heap.size, 11, none⟩ = some (.slice cc.els.ad cc.els.len cc.els.cap) ∧ Below W1.heap.size W1 V) from fun V hV => ⟨(hV.cell (p := ⟨wr.heap.size, 10, none⟩) hbl).trans s10, (hV.cell (p := ⟨wr.heap.size, 11, none⟩) hbl).trans s11, hV⟩)
     clear s10 s11
     go_region_held3 (fun V => V.cell? ⟨wr.heap.size, 10, none⟩ = some (.slice cc.thn.ad cc.thn.len cc.thn.cap) ∧ V.cell? ⟨wr.heap.size, 11, none⟩ = some (.slice cc.els.ad cc.els.len cc.els.cap) ∧ Below W1.heap.size W1 V)
      (first | assumption | exact (unhide HKM) _ ((Below.refl _ _).drew) | exact (unhide HKM) _ (Below.trans (And.right (And.right (by assumption))) ((unhide HB5).mono (Below.size (And.right (And.right (by assumption)))))))
      (first
       | (go_at_call_of 105 (Value.slice cc.thn.ad cc.thn.len cc.thn.cap); refine ((unhide HT) _ ?_).mono ?_; exact (unhide HBA).trans (Below.mono (And.right (And.right (by assumption))) (unhide HBA).size); rintro r w5 ⟨rfl, hb5⟩; have HB5 := hide hb5; clear hb5)
       | (go_at_call_of 105 (Value.slice cc.els.ad cc.els.len cc.els.cap); refine ((unhide HE) _ ?_).mono ?_; exact (unhide HBA).trans (Below.mono (And.right (And.right (by assumption))) (unhide HBA).size); rintro r w5 ⟨rfl, hb5⟩; have HB5 := hide hb5; clear hb5))
     all_goals
      go_wp2_with fail
      exact ⟨⟨i + 1, k + (C1 + C2), by omega, by go_num, by go_num, by omega, by show _ = _; exact unhide HNX, (unhide HBA).trans (Below.mono (And.right (And.right (by assumption))) (unhide HBA).size)⟩, by simp [intOf]; omega⟩
   · have HF := hide (show k = R by
      have h1 := unhide HK
      have h2 := unhide HSA
      have e1 : i = l.length := by have := unhide HLN; omega
      rw [e1, h2] at h1
      have h4 := unhide HR
      omega)
     go_wp2_with fail
     go_ret
     exact ⟨ret_int (by rw [unhide HF]), unhide HBE⟩
end Go.Proofs.YtpfogjplnodacaaGreat
namespace Go.Proofs.YtpfogjplnodacaaGreat
open Go.RowKit
set_option linter.unusedVariables false
theorem Tryz.infoI3 : (Tryz.prog.info? 3).map (fun i => (i.zero, i.size, i.bytes)) = some (some (.int .i64 0), 1, 8) := by kernel_rfl
theorem Tryz.infoIs : (Tryz.prog.info? 23).map (fun i => (i.zero, i.size, i.bytes)) = some (some (.slice none 0 0), 1, 24) := by kernel_rfl
theorem Xr.add_at (g k : Nat) : (⟨g, 0, none⟩ : Addr).add k = ⟨g, k, none⟩ := by unfold Addr.add; split <;> simp_all
def Xr.szN (z : Int) : Nat := (max z 1).toNat
structure Xr.Nw (W wr : World) (num deep : Nat) (sz : List Int) (i : Nat) (rv : Value) (vb : List Nat) (svs : List Value) : Prop where
 bel : Below W.heap.size W wr
 c0 : wr.cell? ⟨W.heap.size, 0, none⟩ = some (.int .i64 (num : Nat))
 c1 : wr.cell? ⟨W.heap.size, 1, none⟩ = some (.int .i64 (deep : Nat))
 c2 : wr.cell? ⟨W.heap.size, 2, none⟩ = some (.int .i64 (-1))
 c3 : wr.cell? ⟨W.heap.size, 3, none⟩ = some rv
 fz : ∀ j, wr.frozen? ⟨W.heap.size, j, none⟩ = false
 vlen : vb.length = i
 row : wr.ownsRow (W.heap.size + 1) 23 1 rv i svs
 at_ : ∀ (k b : Nat), vb[k]? = some b → ∃ z : Int, sz[k]? = some z ∧ svs[k]? = some (Value.slice (some ⟨b, 0, none⟩) (Xr.szN z) (Xr.szN z)) ∧ wr.heap[b]? = some (Obj.cells (madeCells #[.int .i64 0] (Xr.szN z)) 3)
 nd : vb.Nodup
 ge : ∀ b ∈ vb, W.heap.size < b ∧ b < wr.heap.size
 rvn : ∀ q, rv.ownBlock = some q → q ∉ vb
theorem Xr.Nw.ltb {W wr : World} {num deep : Nat} {sz : List Int} {i : Nat} {rv : Value} {vb : List Nat} {svs : List Value} (h : Xr.Nw W wr num deep sz i rv vb svs) : W.heap.size < wr.heap.size := World.block_lt_of_cell? wr _ h.c0
theorem Xr.Nw.next {W wr W2 w6 : World} {num deep : Nat} {sz : List Int} {i : Nat} {rv : Value} {vb : List Nat} {svs : List Value} (h : Xr.Nw W wr num deep sz i rv vb svs) {z : Int} (hz : sz[i]? = some z) (hb : Below wr.heap.size wr W2) (hnew : W2.heap[wr.heap.size]? = some (Obj.cells (madeCells #[.int .i64 0] (Xr.szN z)) 3)) (hg : W2.grownBy w6 rv.ownBlock) (g c : Nat)
  (ho : w6.ownsRow (W.heap.size + 1) 23 1 (.slice (some ⟨g, 0, none⟩) (i + 1) c) (i + 1) (svs ++ [.slice (some ⟨wr.heap.size, 0, none⟩) (Xr.szN z) (Xr.szN z)])) (hat : rv.ownBlock = some g ∨ g = W2.heap.size) :
  Xr.Nw W (w6.setCell ⟨W.heap.size, 3, none⟩ (.slice (some ⟨g, 0, none⟩) (i + 1) c)) num deep sz (i + 1) (.slice (some ⟨g, 0, none⟩) (i + 1) c) (vb ++ [wr.heap.size]) (svs ++ [.slice (some ⟨wr.heap.size, 0, none⟩) (Xr.szN z) (Xr.szN z)]) := by
 have hl := h.ltb
 have hz2 := hb.size
 have hnl : wr.heap.size < W2.heap.size := (Array.getElem?_eq_some_iff.1 hnew).1
 have hrl : ∀ q, rv.ownBlock = some q → W.heap.size + 1 ≤ q ∧ q < wr.heap.size := fun q hq => h.row.lt q hq
 have hgo := (ho.lt g rfl)
 have kb : w6.heap[W.heap.size]? = wr.heap[W.heap.size]? := (hg.block _ (by omega) (fun e => by have := (hrl _ e.symm).1; omega)).trans (hb.block _ hl)
 have o3 : ∀ j, j ≠ 3 → (w6.setCell ⟨W.heap.size, 3, none⟩ (.slice (some ⟨g, 0, none⟩) (i + 1) c)).cell? ⟨W.heap.size, j, none⟩ = wr.cell? ⟨W.heap.size, j, none⟩ := fun j hj => by
  rw [World.cell?_setCell_other _ _ _ _ (by intro hh; exact hj (congrArg Addr.off hh).symm)]
  exact Xr.cell_kept kb j
 have hsvl : svs.length = i := by have := h.row.1; omega
 have hvo : ∀ b ∈ vb, (w6.setCell ⟨W.heap.size, 3, none⟩ (.slice (some ⟨g, 0, none⟩) (i + 1) c)).heap[b]? = wr.heap[b]? := fun b hbm => by
  have h1 := h.ge b hbm
  exact (Xr.set_other (by omega)).trans ((hg.block b (by omega) (fun e => h.rvn b e.symm hbm)).trans (hb.block b h1.2))
 have hnw : (w6.setCell ⟨W.heap.size, 3, none⟩ (.slice (some ⟨g, 0, none⟩) (i + 1) c)).heap[wr.heap.size]? = some (Obj.cells (madeCells #[.int .i64 0] (Xr.szN z)) 3) :=
  (Xr.set_other (by omega)).trans ((hg.block _ hnl (fun e => by have := (hrl _ e.symm).2; omega)).trans hnew)
 have hgs : w6.heap.size ≥ W2.heap.size := hg.size
 refine ⟨⟨hg.os.trans (hb.os.trans h.bel.os), hg.tape.trans (hb.tape.trans h.bel.tape), hg.output.trans (hb.output.trans h.bel.output), by rw [World.size_setCell]; have := h.bel.size; omega, fun q hq => (Xr.set_other (by omega)).trans ((hg.block q (by omega) (fun e => by have := (hrl _ e.symm).1; omega)).trans ((hb.block q (by omega)).trans (h.bel.block q hq)))⟩, (o3 0 (by omega)).trans h.c0, (o3 1 (by omega)).trans h.c1, (o3 2 (by omega)).trans h.c2, World.cell?_setCell_same _ _ _ ((Xr.cell_kept kb 3).trans h.c3), fun j => by rw [World.frozen?_setCell]; exact (Xr.frz_kept kb j).trans (h.fz j), by rw [List.length_append, h.vlen]; rfl, ?_, ?_, ?_, ?_, ?_⟩
 · refine Xr.ow_kept ho (fun q hq => ?_)
   cases hq
   exact Xr.set_other (by have := hgo.1; show g ≠ W.heap.size; omega)
 · intro k b hkb
   by_cases hk : k < i
   · rw [List.getElem?_append_left (by rw [h.vlen]; exact hk)] at hkb
     obtain ⟨y, y1, y2, y3⟩ := h.at_ k b hkb
     exact ⟨y, y1, by rw [List.getElem?_append_left (by omega)]; exact y2, (hvo b (List.mem_of_getElem? hkb)).trans y3⟩
   · have hke : k = i := by
      have := (List.getElem?_eq_some_iff.1 hkb).1
      rw [List.length_append, h.vlen] at this
      simp at this
      omega
     subst hke
     rw [List.getElem?_append_right (by rw [h.vlen]; exact Nat.le_refl _), h.vlen, Nat.sub_self] at hkb
     cases hkb
     exact ⟨z, hz, by rw [List.getElem?_append_right (by omega), hsvl, Nat.sub_self]; rfl, hnw⟩
 · rw [List.nodup_append]
   exact ⟨h.nd, by simp, fun a ha b hb' => by simp at hb'; subst hb'; have := (h.ge a ha).2; omega⟩
 · intro b hbm
   rw [World.size_setCell]
   rcases List.mem_append.1 hbm with hbm | hbm
   · have := h.ge b hbm; omega
   · simp at hbm; subst hbm; omega
 · intro q hq hin
   cases hq
   have hin2 : g ∈ vb ++ [wr.heap.size] := hin
   rcases List.mem_append.1 hin2 with hin2 | hin2
   · rcases hat with e | e
     · exact h.rvn g e hin2
     · have := (h.ge g hin2).2; omega
   · simp at hin2
     rcases hat with e | e
     · have := (hrl g e).2; omega
     · omega
theorem Xr.Nw.done {w0 W wr : World} {num deep : Nat} {sz : List Int} {i : Nat} {rv : Value} {vb : List Nat} {svs : List Value} (h : Xr.Nw W wr num deep sz i rv vb svs) (hi : i = sz.length) (hi2 : i ≤ 100) (hs : ∀ z ∈ sz, z ≤ 100) (h0 : w0.heap.size ≤ W.heap.size) :
  ∃ gv, Xr.Fm w0 wr W.heap.size gv vb (Xr.newF num deep sz) ∧ ∀ q ∈ Xr.own W.heap.size gv vb, W.heap.size ≤ q := by
 have hl := h.ltb
 have hvl : (Xr.newF num deep sz).vs.length = i := by show (sz.map _).length = i; rw [List.length_map, hi]
 have hat : ∀ (k b : Nat) (l : List Int), vb[k]? = some b → (Xr.newF num deep sz).vs[k]? = some l → ∃ z, sz[k]? = some z ∧ l = List.replicate (Xr.szN z) 0 ∧ svs[k]? = some (Value.slice (some ⟨b, 0, none⟩) l.length (Xr.szN z)) ∧ wr.heap[b]? = some (Obj.cells (madeCells #[.int .i64 0] (Xr.szN z)) 3) := by
  intro k b l hb hl'
  obtain ⟨z, z1, z2, z3⟩ := h.at_ k b hb
  have hl2 : (sz.map fun n => List.replicate (max n 1).toNat (0 : Int))[k]? = some l := hl'
  rw [List.getElem?_map, z1] at hl2
  have hl3 : l = List.replicate (Xr.szN z) 0 := by simpa [Xr.szN] using hl2.symm
  exact ⟨z, z1, hl3, by rw [hl3, List.length_replicate]; exact z2, z3⟩
 have hcell : ∀ (b : Nat) (n : Nat), wr.heap[b]? = some (Obj.cells (madeCells #[.int .i64 0] n) 3) → (∀ j y, (List.replicate n (0 : Int))[j]? = some y → wr.cell? ⟨b, j, none⟩ = some (.int .i64 y)) ∧ ∀ j, wr.frozen? ⟨b, j, none⟩ = false := by
  intro b n hb
  constructor
  · intro j y hj
    rw [cell_of_row wr b j _ 3 (0, 0) hb, ← Array.getElem?_toList, toList_madeCells_one]
    obtain ⟨hlt, hy⟩ := List.getElem?_eq_some_iff.1 hj
    rw [List.getElem_replicate] at hy
    rw [List.length_replicate] at hlt
    rw [List.getElem?_replicate, if_pos hlt, ← hy]
  · intro j
    simp [World.frozen?, hb]
 rcases h.row.2 with ⟨hrv, hi0⟩ | ⟨g, cap, cur, hrv, hg1, hg2, hg3, hg4, hg5, hg6⟩
 · have hvb : vb = [] := List.eq_nil_of_length_eq_zero (by rw [h.vlen]; exact hi0)
   subst hvb
   refine ⟨none, ⟨?_, ?_, h.c0, h.c1, h.c2, ⟨0, ?_, by rw [hvl]; omega⟩, h.fz, by rw [hvl, h.vlen], by rw [hvl]; omega, fun k b l hb => by simp at hb⟩, ?_⟩
   · intro q hq; unfold Xr.own at hq; simp at hq; omega
   · unfold Xr.own; simp
   · rw [hvl, hi0]; rw [hrv] at h; exact h.c3
   · intro q hq; unfold Xr.own at hq; simp at hq; omega
 · have hown := h.row
   rw [hrv] at hown
   have hgl := hown.lt g rfl
   refine ⟨some g, ⟨?_, ?_, h.c0, h.c1, h.c2, ⟨cap, ?_, by rw [hvl]; exact hg3⟩, h.fz, by rw [hvl, h.vlen], by rw [hvl]; omega, ?_⟩, ?_⟩
   · intro q hq
     unfold Xr.own at hq
     simp at hq
     rcases hq with hq | hq | hq
     · omega
     · omega
     · have := h.ge q hq; omega
   · unfold Xr.own
     simp
     refine ⟨⟨by omega, fun e => by have := (h.ge _ e).1; omega⟩, fun e => h.rvn g (by rw [hrv]; rfl) e, h.nd⟩
   · rw [hvl]; rw [hrv] at h; exact h.c3
   · intro k b l hb hl'
     obtain ⟨z, z1, z2, z3, z4⟩ := hat k b l hb hl'
     obtain ⟨q1, q2⟩ := hcell b (Xr.szN z) z4
     have hcl := hown.cells (g := g) rfl k _ z3
     rw [Xr.add_at] at hcl
     have hzl := hs z (List.mem_of_getElem? z1)
     have hll : l.length = Xr.szN z := by rw [z2, List.length_replicate]
     have hzn : Xr.szN z ≤ 100 := by unfold Xr.szN; omega
     exact ⟨g, Xr.szN z, rfl, by simpa using hcl, by omega, by omega, fun j y hj => q1 j y (by rw [← z2]; exact hj), q2⟩
   · intro q hq
     unfold Xr.own at hq
     simp at hq
     rcases hq with hq | hq | hq
     · omega
     · omega
     · have := h.ge q hq; omega
end Go.Proofs.YtpfogjplnodacaaGreat
namespace Go.Proofs.YtpfogjplnodacaaGreat
open Go.RowKit
set_option linter.unusedVariables false
theorem newFrame_any {w0 : World} (num deep : Nat) (t : Pg.Sl) (sz : List Int) (W : World) (h0 : w0.heap.size ≤ W.heap.size) (hr : Pg.RN W t sz) (hlen : sz.length ≤ 100) (hs : ∀ z ∈ sz, 0 ≤ z ∧ z ≤ 100) :
  Calls Tryz.prog 67 #[.int .i64 (num : Nat), .int .i64 (deep : Nat), .slice t.ad t.len t.cap] W fun r W' => ∃ gv vb, r = .returned (.pointer (some ⟨W.heap.size, 0, none⟩)) ∧ Xr.Fm w0 W' W.heap.size gv vb (Xr.newF num deep sz) ∧ (∀ q ∈ Xr.own W.heap.size gv vb, W.heap.size ≤ q) ∧ Below W.heap.size W W' := by
 obtain ⟨ta, tn, tc⟩ := t
 have htn : tn = sz.length := hr.len
 have hb0 := (Below.refl W.heap.size W).alloc (Nat.le_refl _) (Obj.cells #[.int .i64 (num : Nat), .int .i64 (deep : Nat), .int .i64 (-1), .slice none 0 0] 149)
 have HN0 := hide (show Xr.Nw W (W.alloc (Obj.cells #[.int .i64 (num : Nat), .int .i64 (deep : Nat), .int .i64 (-1), .slice none 0 0] 149)) num deep sz 0 (.slice none 0 0) [] [] from ⟨hb0, by go_simp, by go_simp, by go_simp, by go_simp, fun j => by go_simp, rfl, ⟨rfl, .inl ⟨rfl, rfl⟩⟩, fun k b hb => by simp at hb, List.nodup_nil, fun b hb => by simp at hb, fun q hq => by cases hq⟩)
 obtain ⟨i0, hi0, hz0, hz1', hz2⟩ := info_of Tryz.infoIs
 have HI := hide hi0
 have HZ0 := hide hz0
 have HZ1 := hide hz1'
 have HZ2 := hide hz2
 have HR := hide hr
 have HS := hide hs
 have HTN := hide htn
 have htl : tn ≤ 100 := by omega
 clear hb0 hi0 hz0 hz1' hz2 hr hs htn
 dsimp only
 go_enter Tryz.func67, Tryz.ntmps67
 go_wp2_with fail
 generalize W.alloc (Obj.cells #[.int .i64 (num : Nat), .int .i64 (deep : Nat), .int .i64 (-1), .slice none 0 0] 149) = W0 at *
 go_loopw [15] (fun iv wr => ∃ (i : Nat) (rv : Value) (vb : List Nat) (svs : List Value), i ≤ tn ∧ iv = .int .i64 i ∧ Xr.Nw W wr num deep sz i rv vb svs) (fun iv _ => tn - (intOf iv).toNat)
 case atStart => exact ⟨0, _, _, _, Nat.zero_le _, rfl, unhide HN0⟩
 case round =>
  obtain ⟨i, rv, vb, svs, hi, rfl, hnw⟩ := hrel
  by_cases hlt : i < tn
  · have hlt2 : i < sz.length := by have := unhide HTN; omega
    have hy := List.getElem?_eq_getElem hlt2
    obtain ⟨b, o, had, hb, hc⟩ := (unhide HR).at_ i _ hy
    have hzz := (unhide HS) _ (List.getElem_mem hlt2)
    have p0 := (hnw.bel.cell (p := ⟨b, o + i, none⟩) hb).trans hc
    obtain ⟨ra, rc, rfl⟩ : ∃ a c, rv = .slice a i c := by
     rcases hnw.row.2 with ⟨h1, h2⟩ | ⟨g, cap, cur, hv, _⟩
     · exact ⟨none, 0, by rw [h2]; exact h1⟩
     · exact ⟨_, _, hv⟩
    have HROW := hide hnw.row
    have HNX := hide (fun (W2 w6 : World) (h1 : Below wr.heap.size wr W2) (h2 : W2.heap[wr.heap.size]? = some (Obj.cells (madeCells #[.int .i64 0] (Xr.szN sz[i])) 3)) (h3 : W2.grownBy w6 (Value.slice ra i rc).ownBlock) (g c : Nat) (h4 : w6.ownsRow (W.heap.size + 1) 23 1 (.slice (some ⟨g, 0, none⟩) (i + 1) c) (i + 1) (svs ++ [.slice (some ⟨wr.heap.size, 0, none⟩) (Xr.szN sz[i]) (Xr.szN sz[i])])) (h5 : (Value.slice ra i rc).ownBlock = some g ∨ g = W2.heap.size) => hnw.next hy h1 h2 h3 g c h4 h5)
    have k3 := hnw.c3
    have kf := hnw.fz 3
    have hwl := hnw.ltb
    have HEV := hide (show ∀ q, (Value.slice ra i rc).ownBlock = some q → W.heap.size + 1 ≤ q from fun q hq => (hnw.row.lt q hq).1)
    have hsn : ((Xr.szN sz[i] : Nat) : Int) = max sz[i] 1 := by unfold Xr.szN; omega
    have hsb : Xr.szN sz[i] ≤ 100 := by unfold Xr.szN; omega
    generalize Xr.szN sz[i] = n at *
    generalize sz[i] = z at *
    have hmk : ∀ V : World, (Instr.makeSlice 23 (.int .i64 (if z < 1 then 1 else z)) (.int .i64 (if z < 1 then 1 else z))).run Tryz.prog V = .ok (.slice (some ⟨V.heap.size, 0, none⟩) n n) (V.alloc (.cells (madeCells #[.int .i64 0] n) 3)) := by
     intro V
     have hmx : (if z < 1 then 1 else z) = (n : Int) := by rw [hsn]; split <;> omega
     rw [hmx]
     exact run_make_row' (P := Tryz.prog) 23 3 (.int .i64 0) 8 Tryz.underlying23 Tryz.infoI3 rfl .i64 .i64 n (by omega) (by omega) V
    clear hsn
    have had' : ta = some ⟨b, o, none⟩ := had
    subst had'
    clear had hc hy hnw
    have hi0' : (0 : Int) ≤ (i : Int) := by omega
    have hi1 : (i : Int) < (tn : Int) := by omega
    go_upto_region 5 with fail
    clear p0
    have HBD := hide (show Below wr.heap.size wr ((wr.alloc (Obj.cells (madeCells #[.int .i64 0] n) 3)).alloc (Obj.cells #[.slice (some ⟨wr.heap.size, 0, none⟩) n n] 23)).drew from (((Below.refl wr.heap.size wr).alloc (Nat.le_refl _) _).alloc (by simp) _).drew)
    have HNW := hide (show ∀ j u, [Value.slice (some ⟨wr.heap.size, 0, none⟩) n n][j]? = some u → ((wr.alloc (Obj.cells (madeCells #[.int .i64 0] n) 3)).alloc (Obj.cells #[.slice (some ⟨wr.heap.size, 0, none⟩) n n] 23)).drew.cell? ((⟨wr.heap.size + 1, 0, none⟩ : Addr).add j) = some u from by
     have h1 := heap_alloc_new (wr.alloc (Obj.cells (madeCells #[.int .i64 0] n) 3)) (Obj.cells #[.slice (some ⟨wr.heap.size, 0, none⟩) n n] 23)
     have h2 : (wr.alloc (Obj.cells (madeCells #[.int .i64 0] n) 3)).heap.size = wr.heap.size + 1 := by simp
     rw [h2] at h1
     exact World.news_of_block h1)
    have HM := hide (show ((wr.alloc (Obj.cells (madeCells #[.int .i64 0] n) 3)).alloc (Obj.cells #[.slice (some ⟨wr.heap.size, 0, none⟩) n n] 23)).drew.heap[wr.heap.size]? = some (Obj.cells (madeCells #[.int .i64 0] n) 3) from by
     have h1 := heap_alloc_new wr (Obj.cells (madeCells #[.int .i64 0] n) 3)
     have h2 := ((Below.refl (wr.alloc (Obj.cells (madeCells #[.int .i64 0] n) 3)).heap.size (wr.alloc (Obj.cells (madeCells #[.int .i64 0] n) 3))).alloc (Nat.le_refl _) (Obj.cells #[.slice (some ⟨wr.heap.size, 0, none⟩) n n] 23)).block wr.heap.size (by simp)
     exact h2.trans h1)
    go_region_law (first
     | (refine step_append_lies _ rfl (.tmp 20) (.tmp 24) 24 rfl (W.heap.size + 1) 23 i0 _ 1 24 Tryz.underlying24 (unhide HI) (unhide HZ0) (unhide HZ1) (unhide HZ2) rfl (by omega) (.slice ra i rc) i svs rfl (Pg.ow_below (unhide HROW) (unhide HBD)) _ 1 1 [.slice (some ⟨wr.heap.size, 0, none⟩) n n] rfl rfl (unhide HNW) (by simp [Value.oneCell']) (by omega) (by unfold maxLen; omega) (by omega) (by simp; omega) _ rfl ?_; intro gA cA w6 hoA hgA hatA hltA; have HGA := hide hgA; have HOA := hide hoA; have HAT := hide hatA; have hbb := (hgA.block W.heap.size (by simp; omega) (fun e => by have := (unhide HEV) _ e.symm; omega)).trans ((unhide HBD).block W.heap.size (by omega)); have z4 := (Xr.cell_kept hbb 3).trans k3; have z5 := (Xr.frz_kept hbb 3).trans kf; clear hatA hltA hoA hgA hbb))
    all_goals
     go_wp2_with fail
     exact ⟨⟨i + 1, _, _, _, by omega, by go_num, (unhide HNX) _ _ (unhide HBD) (unhide HM) (unhide HGA) _ _ (unhide HOA) (unhide HAT)⟩, by simp [intOf]; omega⟩
  · have HD := hide (Xr.Nw.done (w0 := w0) hnw (by have := unhide HTN; omega) (by omega) (fun z hz => ((unhide HS) z hz).2) h0)
    have HB := hide hnw.bel
    clear hnw
    go_wp2_with fail
    go_ret
    obtain ⟨gv, h1, h2⟩ := unhide HD
    exact ⟨gv, vb, rfl, h1, h2, unhide HB⟩
end Go.Proofs.YtpfogjplnodacaaGreat
namespace Go.Proofs.YtpfogjplnodacaaGreat
open Go.RowKit
set_option linter.unusedVariables false
def Pg.sizesOf (vs : List (List Int)) : List Int := vs.map fun l => if l.length = 1 then 0 else (l.length : Int) + 1
def Pg.ren (vs : List (List Int)) : (n : Nat) → Pg.XT n → Pg.XT n
 | 0, x => x
 | n + 1, x => ((x.1.1, if x.1.1 = 2 ∨ x.1.1 = 3 then ((Pg.kindV vs x.1.2 : Nat) : Int) else x.1.2), x.2.map (Pg.ren vs n))
theorem Pg.at_sizes (vs : List (List Int)) (n : Int) : Pg.at? (Pg.sizesOf vs) n = (Pg.var? vs n).map fun l => if l.length = 1 then 0 else (l.length : Int) + 1 := by
 unfold Pg.at? Pg.var? Pg.sizesOf
 split
 · rw [List.getElem?_map]
 · rfl
theorem Pg.parts_ren (vs : List (List Int)) : ∀ (n : Nat) (x : Pg.XT n), Pg.parts n (Pg.ren vs n x) = Pg.parts n x
 | 0, _ => rfl
 | n + 1, x => by
  show 1 + ((x.2.map (Pg.ren vs n)).map (Pg.parts n)).sum = 1 + (x.2.map (Pg.parts n)).sum
  rw [List.map_map]
  congr 2
  exact List.map_congr_left fun y _ => Pg.parts_ren vs n y
theorem Pg.wx0_ren (vs : List (List Int)) (k n : Int) : Pg.wx0 [0, 1] k (if k = 2 ∨ k = 3 then ((Pg.kindV vs n : Nat) : Int) else n) = Pg.wx0 (Pg.sizesOf vs) k n := by
 by_cases h1 : k = 1
 · rw [if_neg (show ¬ (k = 2 ∨ k = 3) by omega)]
   rw [Pg.wx0_num h1, Pg.wx0_num h1]
 · by_cases h2 : k = 2 ∨ k = 3
   · rw [if_pos h2]
     have hs := Pg.at_sizes vs n
     cases hv : Pg.var? vs n with
     | none =>
      rw [hv] at hs
      rw [Pg.kindV_none hv, Pg.wx0_none h2 (show Pg.at? [0, 1] ((2 : Nat) : Int) = none from rfl), Pg.wx0_none h2 hs]
     | some l =>
      rw [hv] at hs
      have hs' : Pg.at? (Pg.sizesOf vs) n = some (if l.length = 1 then 0 else (l.length : Int) + 1) := hs
      rw [Pg.kindV_some hv, Pg.wx0_some h2 hs']
      by_cases hl : l.length = 1
      · rw [if_pos hl, Pg.wx0_some h2 (show Pg.at? [0, 1] ((0 : Nat) : Int) = some 0 from rfl), if_pos hl]
      · rw [if_neg hl, Pg.wx0_some h2 (show Pg.at? [0, 1] ((1 : Nat) : Int) = some 1 from rfl), if_neg hl]
        by_cases h3 : k = 3
        · rw [if_pos (by omega), if_pos (by omega)]
        · rw [if_neg (by omega), if_neg (by omega)]
   · rw [Pg.wx0_op h1 h2, Pg.wx0_op h1 h2, if_neg h2]
theorem Pg.wx_ren (vs : List (List Int)) : ∀ (n : Nat) (x : Pg.XT n), Pg.wx [0, 1] n (Pg.ren vs n x) = Pg.wx (Pg.sizesOf vs) n x
 | 0, _ => rfl
 | n + 1, x => by
  show Pg.orW (Pg.wx1 [0, 1] x.1.1 (if x.1.1 = 2 ∨ x.1.1 = 3 then ((Pg.kindV vs x.1.2 : Nat) : Int) else x.1.2) (x.2.map (Pg.ren vs n)).length) (Pg.first ((x.2.map (Pg.ren vs n)).map (Pg.wx [0, 1] n))) = Pg.orW (Pg.wx1 (Pg.sizesOf vs) x.1.1 x.1.2 x.2.length) (Pg.first (x.2.map (Pg.wx (Pg.sizesOf vs) n)))
  rw [List.length_map, List.map_map, show x.2.map (Pg.wx [0, 1] n ∘ Pg.ren vs n) = x.2.map (Pg.wx (Pg.sizesOf vs) n) from List.map_congr_left fun y _ => Pg.wx_ren vs n y]
  congr 1
  unfold Pg.wx1
  rw [Pg.wx0_ren]
theorem Pg.chkX_ren (vs : List (List Int)) (n : Nat) (x : Pg.XT n) : Pg.chkX [0, 1] n (Pg.ren vs n x) = Pg.chkX (Pg.sizesOf vs) n x := by
 unfold Pg.chkX
 rw [Pg.parts_ren, Pg.wx_ren]
theorem Pg.okV_top {n : Nat} (vs : List (List Int)) (x : Pg.XT (n + 1)) (h : Pg.wx1 (Pg.sizesOf vs) x.1.1 x.1.2 x.2.length = 0) (hs : ∀ y ∈ x.2, Pg.okV vs n y) : Pg.okV vs (n + 1) x := by
 unfold Pg.wx1 at h
 split at h
 · rename_i hK
   split at h
   · rename_i hA
     have key : (x.1.1 = 2 ∨ x.1.1 = 3) → ∃ l, Pg.var? vs x.1.2 = some l ∧ (x.1.1 = 2 → l ≠ []) := fun h2 => by
      cases hv : Pg.var? vs x.1.2 with
      | none =>
       rw [Pg.wx0_none h2 (by rw [Pg.at_sizes, hv]; rfl)] at h
       cases h
      | some l =>
       refine ⟨l, rfl, fun hk hl => ?_⟩
       subst hl
       rw [Pg.wx0_some h2 (by rw [Pg.at_sizes, hv]; rfl), if_neg (by simp; omega)] at h
       cases h
     refine ⟨hK, hA, fun h2 => ?_, fun h3 => ?_, hs⟩
     · obtain ⟨l, hl, hne⟩ := key (Or.inl h2)
       exact ⟨l, hl, hne h2⟩
     · obtain ⟨l, hl, _⟩ := key (Or.inr h3)
       exact ⟨l, hl⟩
   · cases h
 · cases h
theorem Pg.okV_of (vs : List (List Int)) : ∀ (n : Nat) (x : Pg.XT (n + 1)), Pg.wx (Pg.sizesOf vs) (n + 1) x = 0 → Pg.okV vs (n + 1) x := by
 intro n
 induction n with
 | zero =>
  intro x h
  obtain ⟨h1, _⟩ := Pg.orW_zero (show Pg.orW (Pg.wx1 (Pg.sizesOf vs) x.1.1 x.1.2 x.2.length) _ = 0 from h)
  exact Pg.okV_top vs x h1 (fun y _ => Empty.elim y)
 | succ n ih =>
  intro x h
  obtain ⟨h1, h2⟩ := Pg.orW_zero (show Pg.orW (Pg.wx1 (Pg.sizesOf vs) x.1.1 x.1.2 x.2.length) (Pg.first (x.2.map (Pg.wx (Pg.sizesOf vs) (n + 1)))) = 0 from h)
  exact Pg.okV_top vs x h1 (fun y hy => ih y (Pg.first_zero h2 _ (List.mem_map_of_mem hy)))
end Go.Proofs.YtpfogjplnodacaaGreat
namespace Go.Proofs.YtpfogjplnodacaaGreat
open Go.RowKit
set_option linter.unusedVariables false
abbrev Xr.T : Type := Xr.S × Xr.F
def Xr.loop {m : Nat} (body : Xr.S → Xr.F → Xr.T) (ex : Pg.XT m) (a : Int) : Nat → Xr.S → Xr.F → Xr.T
 | 0, s, f => (s, f)
 | k + 1, s, f => if Xr.valV s f ex = 0 then (Xr.valS s f ex, f) else Xr.loop body ex a k (Xr.stepS (body (Xr.valS s f ex) f).1 (body (Xr.valS s f ex) f).2 a) (Xr.stepF (body (Xr.valS s f ex) f).1 (body (Xr.valS s f ex) f).2 a)
def Xr.cmdT {m j : Nat} (hc : Xr.S → Xr.F → Int → Int → List (Pg.XT m) → Xr.T) (cs : List (Pg.CT m j) → Nat → Xr.S → Xr.F → Xr.T) (c : Pg.CT m (j + 1)) (a : Nat) (s : Xr.S) (f : Xr.F) : Xr.T :=
 if c.1.1 = 1 then (Xr.wrS (Xr.valS s f c.2.1.2.1) f f.at_ c.1.2.1 0 (Xr.valV s f c.2.1.2.1), Xr.wrF f c.1.2.1 0 (Xr.valV s f c.2.1.2.1))
 else if c.1.1 = 2 then (Xr.putS s f c.1.2.1 c.2.1.1 c.2.1.2.1, Xr.putF s f c.1.2.1 c.2.1.1 c.2.1.2.1)
 else if c.1.1 = 3 then hc s f c.1.2.1 c.1.2.2 c.2.1.2.2
 else if c.1.1 = 4 then (Xr.readS s f c.1.2.1, Xr.readF s f c.1.2.1)
 else if c.1.1 = 5 then (Xr.tell (Xr.valS s f c.2.1.2.1) ⟨4, f.num, f.at_, 0, 0, Xr.valV s f c.2.1.2.1⟩, f)
 else if c.1.1 = 6 then (if Xr.valV s f c.2.1.2.1 ≠ 0 then cs c.2.2.1 (a + 1) (Xr.valS s f c.2.1.2.1) f else cs c.2.2.2 (a + 1 + Pg.cnts c.2.2.1) (Xr.valS s f c.2.1.2.1) f)
 else Xr.loop (cs c.2.2.1 (a + 1)) c.2.1.2.1 a (s.fuel + 2) s f
def Xr.cmd {m j : Nat} (hc : Xr.S → Xr.F → Int → Int → List (Pg.XT m) → Xr.T) (cs : List (Pg.CT m j) → Nat → Xr.S → Xr.F → Xr.T) (c : Pg.CT m (j + 1)) (a : Nat) (s : Xr.S) (f : Xr.F) : Xr.T :=
 Xr.cmdT hc cs c a (Xr.stepS s f a) (Xr.stepF s f a)
def Xr.walk {α : Type} (g : α → Nat → Xr.S → Xr.F → Xr.T) (cn : α → Nat) : List α → Nat → Xr.S → Xr.F → Xr.T
 | [], _, s, f => (s, f)
 | c :: r, a, s, f => if s.ended then (s, f) else Xr.walk g cn r (a + cn c) (g c a s f).1 (g c a s f).2
def Xr.cmds {m : Nat} (hc : Xr.S → Xr.F → Int → Int → List (Pg.XT m) → Xr.T) : (j : Nat) → List (Pg.CT m j) → Nat → Xr.S → Xr.F → Xr.T
 | 0, _, _, s, f => (s, f)
 | j + 1, l, a, s, f => Xr.walk (Xr.cmd hc (Xr.cmds hc j)) (Pg.cnt (j + 1)) l a s f
def Xr.argS {m : Nat} (f : Xr.F) : List (Pg.XT m) → Xr.S → Xr.S
 | [], s => s
 | x :: r, s => Xr.argS f r (Xr.valS s f x)
def Xr.argV {m : Nat} (f : Xr.F) : List (Pg.XT m) → Xr.S → List Int
 | [], _ => []
 | x :: r, s => Xr.valV s f x :: Xr.argV f r (Xr.valS s f x)
def Xr.parS (g : Xr.F) (a : Int) : Nat → List Int → Xr.S → Xr.S
 | _, [], s => s
 | i, z :: r, s => Xr.parS g a (i + 1) r (Xr.wrS s g a (i : Nat) 0 z)
def Xr.parF : Nat → List Int → Xr.F → Xr.F
 | _, [], g => g
 | i, z :: r, g => Xr.parF (i + 1) r (Xr.wrF g (i : Nat) 0 z)
def Xr.firstOf {m n : Nat} (p : List (Pg.FT m n)) (q : Nat) : Nat := Pg.sumTo (fun x => Pg.cnts x.cmds) p q
def Xr.fn {m n : Nat} (p : List (Pg.FT m n)) (hc : Xr.S → Xr.F → Int → Int → List (Pg.XT m) → Xr.T) (q : Nat) (s : Xr.S) (g : Xr.F) : Xr.T :=
 match p[q]? with
 | none => (s, g)
 | some x => Xr.cmds hc n x.cmds (Xr.firstOf p q) s g
def Xr.callB {m n : Nat} (p : List (Pg.FT m n)) (hc : Xr.S → Xr.F → Int → Int → List (Pg.XT m) → Xr.T) (x : Pg.FT m n) (q : Nat) (zs : List Int) (v : Int) (s : Xr.S) (f : Xr.F) : Xr.T :=
 let s2 : Xr.S := { s with made := s.made + 1 }
 let g := Xr.newF s2.made (f.deep + 1) x.sizes
 let s3 := Xr.tell s2 ⟨5, f.num, f.at_, (q : Nat), 0, g.num⟩
 let t := Xr.fn p hc q (Xr.parS g f.at_ 0 zs s3) (Xr.parF 0 zs g)
 let z := Xr.valV t.1 t.2 x.res
 let s6 := Xr.tell (Xr.valS t.1 t.2 x.res) ⟨6, t.2.num, f.at_, 0, 0, z⟩
 (Xr.wrS s6 f f.at_ v 0 z, Xr.wrF f v 0 z)
def Xr.call {m n : Nat} (p : List (Pg.FT m n)) : Nat → Xr.S → Xr.F → Int → Int → List (Pg.XT m) → Xr.T
 | 0, s, f, _, _, l => (Xr.fin (Xr.argS f l s) f f.at_ 4, f)
 | d + 1, s, f, v, q, l =>
  match p[q.toNat]? with
  | none => (s, f)
  | some x => Xr.callB p (Xr.call p d) x q.toNat (Xr.argV f l s) v (Xr.argS f l s) f
def Xr.main {m n : Nat} (p : List (Pg.FT m n)) (inp : List Int) (fuel : Nat) : List Ev :=
 match p[p.length - 1]? with
 | none => []
 | some x =>
  let t := Xr.fn p (Xr.call p 5) (p.length - 1) ⟨inp, fuel, 0, [], false⟩ (Xr.newF 0 0 x.sizes)
  (Xr.fin t.1 t.2 (-1) 0).evs
structure Xr.Sh (vs : List (List Int)) (sz : List Int) : Prop where
 len : vs.length = sz.length
 pos : ∀ (i : Nat) (l : List Int), vs[i]? = some l → 0 < l.length
theorem Xr.Sh.upd {vs : List (List Int)} {sz : List Int} (h : Xr.Sh vs sz) (v i : Nat) (z : Int) : Xr.Sh (Xr.upd vs v i z) sz := by
 refine ⟨by rw [Xr.upd_len]; exact h.len, fun k l hk => ?_⟩
 cases hv : vs[v]? with
 | none =>
  have : Xr.upd vs v i z = vs := by unfold Xr.upd; exact List.set_eq_of_length_le (List.getElem?_eq_none_iff.1 hv)
  rw [this] at hk
  exact h.pos k l hk
 | some l0 =>
  rw [Xr.upd_at hv] at hk
  split at hk
  · cases hk
    rw [List.length_set]
    exact h.pos v l0 hv
  · exact h.pos k l hk
theorem Xr.Sh.new (num deep : Nat) (sz : List Int) : Xr.Sh (Xr.newF num deep sz).vs sz := by
 refine ⟨by show (sz.map _).length = _; rw [List.length_map], fun i l hl => ?_⟩
 have hl2 : (sz.map fun n => List.replicate (max n 1).toNat (0 : Int))[i]? = some l := hl
 rw [List.getElem?_map] at hl2
 cases hz : sz[i]? with
 | none => rw [hz] at hl2; cases hl2
 | some z =>
  rw [hz] at hl2
  have : l = List.replicate (max z 1).toNat 0 := by simpa using hl2.symm
  rw [this, List.length_replicate]
  omega
theorem Xr.Sh.var {vs : List (List Int)} {sz : List Int} (h : Xr.Sh vs sz) {v z : Int} (hv : Pg.at? sz v = some z) : ∃ (i : Nat) (l : List Int), v = i ∧ vs[i]? = some l ∧ 0 < l.length ∧ sz[i]? = some z := by
 unfold Pg.at? at hv
 split at hv
 · obtain ⟨i, rfl⟩ : ∃ i : Nat, v = i := ⟨v.toNat, by omega⟩
   rw [Int.toNat_natCast] at hv
   have hlt : i < vs.length := by rw [h.len]; exact (List.getElem?_eq_some_iff.1 hv).1
   exact ⟨i, vs[i], rfl, List.getElem?_eq_getElem hlt, h.pos i _ (List.getElem?_eq_getElem hlt), hv⟩
 · cases hv
theorem Xr.Sh.ok {vs : List (List Int)} {sz : List Int} (h : Xr.Sh vs sz) : ∀ (n : Nat) (x : Pg.XT (n + 1)), Pg.wx sz (n + 1) x = 0 → Pg.okV vs (n + 1) x := by
 have top : ∀ (n : Nat) (x : Pg.XT (n + 1)), Pg.wx1 sz x.1.1 x.1.2 x.2.length = 0 → (∀ y ∈ x.2, Pg.okV vs n y) → Pg.okV vs (n + 1) x := by
  intro n x hx hs
  unfold Pg.wx1 at hx
  split at hx
  · rename_i hK
    split at hx
    · rename_i hA
      have key : (x.1.1 = 2 ∨ x.1.1 = 3) → ∃ l, Pg.var? vs x.1.2 = some l ∧ l ≠ [] := fun h2 => by
       cases hv : Pg.at? sz x.1.2 with
       | none => rw [Pg.wx0_none h2 hv] at hx; cases hx
       | some z =>
        obtain ⟨i, l, e1, e2, e3, _⟩ := h.var hv
        refine ⟨l, ?_, fun e => by rw [e] at e3; exact absurd e3 (by simp)⟩
        unfold Pg.var?
        rw [if_pos (by omega), e1, Int.toNat_natCast, e2]
      exact ⟨hK, hA, fun h2 => key (.inl h2), fun h3 => by obtain ⟨l, e, _⟩ := key (.inr h3); exact ⟨l, e⟩, hs⟩
    · cases hx
  · cases hx
 intro n
 induction n with
 | zero => intro x hx; exact top 0 x (Pg.orW_zero (show Pg.orW _ _ = 0 from hx)).1 (fun y _ => Empty.elim y)
 | succ n ih =>
  intro x hx
  obtain ⟨h1, h2⟩ := Pg.orW_zero (show Pg.orW (Pg.wx1 sz x.1.1 x.1.2 x.2.length) (Pg.first (x.2.map (Pg.wx sz (n + 1)))) = 0 from hx)
  exact top (n + 1) x h1 (fun y hy => ih y (Pg.first_zero h2 _ (List.mem_map_of_mem hy)))
theorem Xr.Sh.okX {vs : List (List Int)} {sz : List Int} (h : Xr.Sh vs sz) {w : World} {n : Nat} {e : Pg.E} {x : Pg.XT n} (hr : Pg.RX w n e x) (hx : Pg.chkX sz n x = 0) : Pg.okV vs n x := by
 cases n with
 | zero => exact absurd hr id
 | succ n =>
  refine h.ok n x ?_
  unfold Pg.chkX at hx
  split at hx
  · cases hx
  · exact hx
theorem Xr.wcs_ok {m n j : Nat} {p : List (Pg.FT m n)} {now : Nat} {x : Pg.FT m n} {l : List (Pg.CT m (j + 1))} (h : Pg.wcs p now x (j + 1) l = 0) : ∀ y ∈ l, Pg.wcm p now x y = 0 ∧ Pg.wcs p now x j y.2.2.1 = 0 ∧ Pg.wcs p now x j y.2.2.2 = 0 := by
 intro y hy
 have h1 := Pg.first_zero (show Pg.first (l.map fun y => Pg.orW (Pg.wcm p now x y) (Pg.orW (Pg.wcs p now x j y.2.2.1) (Pg.wcs p now x j y.2.2.2))) = 0 from h) _ (List.mem_map_of_mem hy)
 obtain ⟨a, b⟩ := Pg.orW_zero h1
 exact ⟨a, Pg.orW_zero b⟩
structure Xr.Inv (s : Xr.S) (k : Nat) : Prop where
 fuel : s.fuel ≤ 500
 made : s.made ≤ 700
 go : s.ended = false → s.made + s.fuel ≤ 600 ∧ s.evs.length + 7 * s.fuel + k ≤ 3900
 room : s.evs.length ≤ 3901
theorem Xr.Inv.rm {s : Xr.S} {k : Nat} (h : Xr.Inv s k) : Xr.Rm s 3900 := fun e => by have := (h.go e).2; omega
theorem Xr.Inv.le {s : Xr.S} {k k' : Nat} (h : Xr.Inv s k) (hk : k' ≤ k) : Xr.Inv s k' := ⟨h.fuel, h.made, fun e => ⟨(h.go e).1, by have := (h.go e).2; omega⟩, h.room⟩
theorem Xr.fin_room {s : Xr.S} (f : Xr.F) (a how : Int) (h1 : s.ended = false → s.evs.length ≤ 3900) (h2 : s.evs.length ≤ 3901) : (Xr.fin s f a how).evs.length ≤ 3901 := by
 show (Xr.tell s _).evs.length ≤ 3901
 unfold Xr.tell
 split
 · exact h2
 · rename_i h
   show (s.evs ++ [_]).length ≤ 3901
   rw [List.length_append]
   have := h1 (by simpa using h)
   simp
   omega
theorem Xr.Inv.fin {s : Xr.S} {k' : Nat} (h : Xr.Inv s k') (f : Xr.F) (a how : Int) (k : Nat) : Xr.Inv (Xr.fin s f a how) k := by
 have h1 := h.fuel
 have h2 := h.made
 have e1 : (Xr.fin s f a how).fuel = s.fuel := by unfold Xr.fin Xr.tell; split <;> rfl
 have e2 : (Xr.fin s f a how).made = s.made := by unfold Xr.fin Xr.tell; split <;> rfl
 exact ⟨by rw [e1]; exact h1, by rw [e2]; exact h2, fun e => (by cases e), Xr.fin_room f a how (fun e => by have := (h.go e).2; omega) h.room⟩
theorem Xr.Inv.tell {s : Xr.S} {k : Nat} (h : Xr.Inv s (k + 1)) (e : Ev) : Xr.Inv (Xr.tell s e) k := by
 unfold Xr.tell
 split
 · exact h.le (by omega)
 · rename_i hne
   have hg := (h.go (by simpa using hne)).2
   refine ⟨h.fuel, h.made, fun he => ⟨(h.go he).1, ?_⟩, ?_⟩
   · show (s.evs ++ [e]).length + 7 * s.fuel + k ≤ 3900
     rw [List.length_append]
     simp
     omega
   · show (s.evs ++ [e]).length ≤ 3901
     rw [List.length_append]
     simp
     omega
theorem Xr.Inv.val {s : Xr.S} {k n : Nat} (h : Xr.Inv s k) (f : Xr.F) (x : Pg.XT n) : Xr.Inv (Xr.valS s f x) k := by
 unfold Xr.valS
 split
 · exact h
 · split
   · exact h
   · exact h.fin _ _ _ _
theorem Xr.Inv.wr {s : Xr.S} {k : Nat} (h : Xr.Inv s (k + 1)) (f : Xr.F) (a v i z : Int) : Xr.Inv (Xr.wrS s f a v i z) k := h.tell _
theorem Xr.Inv.put {s : Xr.S} {k m : Nat} (h : Xr.Inv s (k + 1)) (f : Xr.F) (v : Int) (ix ex : Pg.XT m) : Xr.Inv (Xr.putS s f v ix ex) k := by
 unfold Xr.putS
 have h2 := (h.val f ix).val f ex
 split
 · exact h2.wr _ _ _ _ _
 · exact h2.fin _ _ _ _
theorem Xr.Inv.read {s : Xr.S} {k : Nat} (h : Xr.Inv s (k + 2)) (f : Xr.F) (v : Int) : Xr.Inv (Xr.readS s f v) k := by
 unfold Xr.readS
 exact Xr.Inv.wr (Xr.Inv.tell (k := k + 1) (show Xr.Inv (Xr.inS s) (k + 2) from ⟨h.fuel, h.made, h.go, h.room⟩) _) _ _ _ _ _
structure Xr.Inv1 (s : Xr.S) (k : Nat) : Prop where
 fuel : s.fuel ≤ 500
 made : s.made ≤ 600
 go : s.ended = false → s.made + 1 + s.fuel ≤ 600 ∧ s.evs.length + 7 * s.fuel + (k + 6) ≤ 3900
 room : s.evs.length ≤ 3901
theorem Xr.Inv1.inv {s : Xr.S} {k : Nat} (h : Xr.Inv1 s k) : Xr.Inv s (k + 6) := ⟨h.fuel, by have := h.made; omega, fun e => ⟨by have := (h.go e).1; omega, (h.go e).2⟩, h.room⟩
theorem Xr.Inv.step {s : Xr.S} {k : Nat} (h : Xr.Inv s k) (he : s.ended = false) (f : Xr.F) (a : Int) : Xr.Inv1 (Xr.stepS s f a) k := by
 have hg := h.go he
 unfold Xr.stepS
 split
 · rename_i h0
   have e1 : (Xr.fin s f a 1).fuel = s.fuel := by unfold Xr.fin Xr.tell; split <;> rfl
   have e2 : (Xr.fin s f a 1).made = s.made := by unfold Xr.fin Xr.tell; split <;> rfl
   exact ⟨by rw [e1]; exact h.fuel, by rw [e2]; omega, fun e => (by cases e), Xr.fin_room f a 1 (fun _ => by omega) h.room⟩
 · rename_i h0
   unfold Xr.tell
   rw [if_neg (by simp [he])]
   refine ⟨by show s.fuel - 1 ≤ 500; have := h.fuel; omega, by show s.made ≤ 600; omega, fun _ => ⟨by show s.made + 1 + (s.fuel - 1) ≤ 600; omega, ?_⟩, ?_⟩
   · show (s.evs ++ [_]).length + 7 * (s.fuel - 1) + (k + 6) ≤ 3900
     rw [List.length_append]
     simp
     omega
   · show (s.evs ++ [_]).length ≤ 3901
     rw [List.length_append]
     simp
     omega
theorem Xr.Inv.step' {s : Xr.S} {k : Nat} (h : Xr.Inv s k) (f : Xr.F) (a : Int) : Xr.Inv (Xr.stepS s f a) k := by
 cases he : s.ended with
 | false => exact (h.step he f a).inv.le (by omega)
 | true =>
  unfold Xr.stepS
  split
  · exact h.fin _ _ _ _
  · unfold Xr.tell
    rw [if_pos he]
    exact ⟨by show s.fuel - 1 ≤ 500; have := h.fuel; omega, h.made, fun e => by rw [show ({ s with fuel := s.fuel - 1 } : Xr.S).ended = s.ended from rfl, he] at e; exact absurd e (by simp), h.room⟩
end Go.Proofs.YtpfogjplnodacaaGreat
namespace Go.Proofs.YtpfogjplnodacaaGreat
open Go.RowKit
set_option linter.unusedVariables false
structure Vd.F where
 fr : Xr.F
 fn : Nat
 pc : Nat
 pile : List Int
structure Vd.St where
 s : Xr.S
 fs : List Vd.F
 lost : Bool
def Vd.astray (s : Xr.S) : Vd.St := ⟨s, [], true⟩
def Vd.over (s : Xr.S) : Vd.St := ⟨s, [], false⟩
def Vd.plain (sz : List Int) (v : Int) : Bool := sz[v.toNat]? == some 0
def Vd.arr (sz : List Int) (v : Int) : Bool := v.toNat < sz.length && !Vd.plain sz v
def Vd.cellOf (f : Vd.F) (v i : Int) : Int := ((f.fr.vs[v.toNat]?.getD [])[i.toNat]?).getD 0
def Vd.has (sz : List Int) (v i : Int) : Bool := decide (0 ≤ i ∧ i < sz[v.toNat]?.getD 0)
def Vd.call (fs : List Int) (sz : List Int) (q : Nat) (zs : List Int) (s : Xr.S) (f : Vd.F) (r : List Vd.F) : Vd.St :=
 if r.length = 5 then Vd.over (Xr.fin s f.fr f.fr.at_ 4)
 else
  let s2 : Xr.S := { s with made := s.made + 1 }
  let g := Xr.newF s2.made (f.fr.deep + 1) sz
  let s3 := Xr.tell s2 ⟨5, f.fr.num, f.fr.at_, (q : Nat), 0, g.num⟩
  ⟨Xr.parS g f.fr.at_ 0 zs s3, ⟨Xr.parF 0 zs g, q, (fs[q]?.getD 0).toNat, []⟩ :: f :: r, false⟩
def Vd.does (fs : List Int) (ss : List (List Int)) (x : Kd.I) (s : Xr.S) (f : Vd.F) (r : List Vd.F) : Vd.St :=
 let sz := ss[f.fn]?.getD []
 if x.k = 1 then (if s.fuel = 0 then Vd.over (Xr.fin s f.fr x.a 1) else ⟨Xr.stepS s f.fr x.a, { f with fr := Xr.stepF s f.fr x.a } :: r, false⟩)
 else if x.k = 2 then (if f.pile.length < 64 then ⟨s, { f with pile := x.a :: f.pile } :: r, false⟩ else Vd.astray s)
 else if x.k = 3 then (if f.pile.length < 64 ∧ Vd.plain sz x.a then ⟨s, { f with pile := Vd.cellOf f x.a 0 :: f.pile } :: r, false⟩ else Vd.astray s)
 else if x.k = 8 then (if Vd.plain sz x.a then ⟨Xr.readS s f.fr x.a, { f with fr := Xr.readF s f.fr x.a } :: r, false⟩ else Vd.astray s)
 else if x.k = 10 then ⟨s, { f with pc := x.a.toNat } :: r, false⟩
 else if x.k = 12 then
  let to_ := ss[x.a.toNat]?.getD []
  if x.b.toNat ≤ f.pile.length ∧ x.b.toNat ≤ to_.length ∧ (to_.take x.b.toNat).all (· == 0) then
   Vd.call fs to_ x.a.toNat (f.pile.take x.b.toNat).reverse s { f with pile := f.pile.drop x.b.toNat } r
  else Vd.astray s
 else if x.k = 14 then (if r.length = 0 then Vd.over (Xr.fin s f.fr (-1) 0) else Vd.astray s)
 else
  match f.pile with
  | [] => Vd.astray s
  | n :: q =>
   if x.k = 4 then
    (if Vd.arr sz x.a then (if Vd.has sz x.a n then ⟨s, { f with pile := Vd.cellOf f x.a n :: q } :: r, false⟩ else Vd.over (Xr.fin s f.fr f.fr.at_ 3)) else Vd.astray s)
   else if x.k = 6 then
    (if Vd.plain sz x.a then ⟨Xr.wrS s f.fr f.fr.at_ x.a 0 n, { f with fr := Xr.wrF f.fr x.a 0 n, pile := q } :: r, false⟩ else Vd.astray s)
   else if x.k = 9 then ⟨Xr.tell s ⟨4, f.fr.num, f.fr.at_, 0, 0, n⟩, { f with pile := q } :: r, false⟩
   else if x.k = 11 then ⟨s, { f with pile := q, pc := if n = 0 then x.a.toNat else f.pc } :: r, false⟩
   else if x.k = 13 then
    match r with
    | [] => Vd.astray s
    | g :: r2 => if g.pile.length < 64 then ⟨Xr.tell s ⟨6, f.fr.num, g.fr.at_, 0, 0, n⟩, { g with pile := n :: g.pile } :: r2, false⟩ else Vd.astray s
   else
    match q with
    | [] => Vd.astray s
    | i :: q2 =>
     if x.k = 5 then
      (if (Pg.op x.a i n).2 = 0 then ⟨s, { f with pile := (Pg.op x.a i n).1 :: q2 } :: r, false⟩ else Vd.over (Xr.fin s f.fr f.fr.at_ (Pg.op x.a i n).2))
     else
      (if Vd.arr sz x.a then (if Vd.has sz x.a i then ⟨Xr.wrS s f.fr f.fr.at_ x.a i n, { f with fr := Xr.wrF f.fr x.a i n, pile := q2 } :: r, false⟩ else Vd.over (Xr.fin s f.fr f.fr.at_ 3)) else Vd.astray s)
def Vd.do1 (l : List Kd.I) (fs : List Int) (ss : List (List Int)) (t : Vd.St) : Vd.St :=
 match t.fs with
 | [] => t
 | f :: r =>
  match l[f.pc]? with
  | none => Vd.astray t.s
  | some x => Vd.does fs ss x t.s { f with pc := f.pc + 1 } r
def Vd.go (l : List Kd.I) (fs : List Int) (ss : List (List Int)) : Nat → Vd.St → Vd.St
 | 0, t => t
 | k + 1, t => if t.s.ended || t.lost then t else Vd.go l fs ss k (Vd.do1 l fs ss t)
def Vd.start (fs : List Int) (ss : List (List Int)) (inp : List Int) (fuel : Nat) : Vd.St :=
 let q := fs.length - 1
 ⟨⟨inp, fuel, 0, [], false⟩, [⟨Xr.newF 0 0 (ss[q]?.getD []), q, (fs[q]?.getD 0).toNat, []⟩], false⟩
def Vd.main (l : List Kd.I) (fs : List Int) (ss : List (List Int)) (inp : List Int) (fuel : Nat) : Option (List Ev) :=
 let t := Vd.go l fs ss 50000 (Vd.start fs ss inp fuel)
 if t.s.ended then some t.s.evs else none
section
variable {l : List Kd.I} {fs : List Int} {ss : List (List Int)}
theorem Vd.go_stop {t : Vd.St} (h : (t.s.ended || t.lost) = true) : ∀ k, Vd.go l fs ss k t = t
 | 0 => rfl
 | k + 1 => by
  unfold Vd.go
  rw [if_pos h]
theorem Vd.go_more {t : Vd.St} (h : (t.s.ended || t.lost) = false) (k : Nat) : Vd.go l fs ss (k + 1) t = Vd.go l fs ss k (Vd.do1 l fs ss t) := by
 rw [Vd.go, if_neg (by rw [h]; decide)]
theorem Vd.go_add (a b : Nat) : ∀ t : Vd.St, Vd.go l fs ss (a + b) t = Vd.go l fs ss b (Vd.go l fs ss a t) := by
 induction a with
 | zero => intro t; rw [Nat.zero_add]; rfl
 | succ a ih =>
  intro t
  rw [Nat.add_right_comm]
  by_cases h : (t.s.ended || t.lost) = true
  · rw [Vd.go_stop h, Vd.go_stop h, Vd.go_stop h]
  · rw [Bool.not_eq_true] at h
    rw [Vd.go_more h, Vd.go_more h, ih]
end
end Go.Proofs.YtpfogjplnodacaaGreat
namespace Go.Proofs.YtpfogjplnodacaaGreat
open Go.RowKit
set_option linter.unusedVariables false
structure Vd.Cd (l : List Kd.I) (fs : List Int) (ss : List (List Int)) : Prop where
 few : l.length ≤ 3000
 pos : 0 < ss.length
 len : fs.length = ss.length
 fst : ∀ z ∈ fs, 0 ≤ z ∧ z < (l.length : Int)
 siz : ∀ s ∈ ss, ∀ z ∈ s, 0 ≤ z ∧ z ≤ 8
 ins : ∀ x ∈ l, (1 ≤ x.k ∧ x.k ≤ 14) ∧ Kd.inR l.length fs.length x = true
theorem Vd.cd_of {l : List Kd.I} {fs : List Int} {ss : List (List Int)} (h : Kd.chk l fs ss = 0) : Vd.Cd l fs ss := by
 unfold Kd.chk at h
 split at h
 · exact absurd h (by decide)
 split at h
 · exact absurd h (by decide)
 split at h
 · exact absurd h (by decide)
 rename_i h1 h2 h3
 have h3' : fs.any (Kd.noAt l.length) = false ∧ ss.any (fun s => s.any Pg.noSize) = false := by
  rw [Bool.not_eq_true, Bool.or_eq_false_iff] at h3
  exact h3
 refine ⟨by omega, by omega, by omega, fun z hz => ?_, fun s hs z hz => ?_, fun x hx => ?_⟩
 · have := List.any_eq_false.1 h3'.1 z hz
   unfold Kd.noAt at this
   simpa using this
 · have h4 := List.any_eq_false.1 h3'.2 s hs
   rw [Bool.not_eq_true] at h4
   have := List.any_eq_false.1 h4 z hz
   unfold Pg.noSize at this
   simp at this
   omega
 · have h5 : Kd.ck l.length fs.length x = 0 := by
    exact Pg.first_zero h _ (List.mem_map_of_mem hx)
   unfold Kd.ck at h5
   split at h5
   · rename_i hk
     split at h5
     · rename_i hr
       exact ⟨hk, hr⟩
     · exact absurd h5 (by decide)
   · exact absurd h5 (by decide)
def Vd.nm (z : Int) : Prop := Pg.beyond z = false
structure Vd.FOk (l : List Kd.I) (ss : List (List Int)) (f : Vd.F) : Prop where
 fn : f.fn < ss.length
 pc : f.pc ≤ l.length
 top : f.pile.length ≤ 64
 num : ∀ z ∈ f.pile, Vd.nm z
 sh : f.fr.vs.map List.length = (ss[f.fn]?.getD []).map fun n => (max n 1).toNat
 cell : ∀ r ∈ f.fr.vs, ∀ z ∈ r, Vd.nm z
structure Vd.SOk (k : Nat) (s : Xr.S) : Prop where
 go : s.ended = false
 inp : ∀ z ∈ s.inp, Vd.nm z
 evs : s.evs.length ≤ 4 * k
 made : s.made ≤ k
structure Vd.Ok (l : List Kd.I) (ss : List (List Int)) (k : Nat) (t : Vd.St) : Prop where
 s : Vd.SOk k t.s
 on : t.lost = false
 all : ∀ f ∈ t.fs, Vd.FOk l ss f
 few : 0 < t.fs.length ∧ t.fs.length ≤ 6
theorem Vd.upd_len (vs : List (List Int)) (v i : Nat) (z : Int) : (Xr.upd vs v i z).map List.length = vs.map List.length := by
 unfold Xr.upd
 apply List.ext_getElem?
 intro j
 simp only [List.getElem?_map, List.getElem?_set]
 split
 · rename_i h
   subst h
   split
   · rename_i h2
     rw [List.getElem?_eq_getElem h2]
     simp
   · rename_i h2
     rw [List.getElem?_eq_none_iff.2 (by omega)]
 · rfl
theorem Vd.upd_cell {vs : List (List Int)} {v i : Nat} {z : Int} (h : ∀ r ∈ vs, ∀ z ∈ r, Vd.nm z) (hz : Vd.nm z) : ∀ r ∈ Xr.upd vs v i z, ∀ z ∈ r, Vd.nm z := by
 intro r hr y hy
 unfold Xr.upd at hr
 rcases List.mem_or_eq_of_mem_set hr with hr | rfl
 · exact h r hr y hy
 · rcases List.mem_or_eq_of_mem_set hy with hy | rfl
   · cases hv : vs[v]? with
     | none => rw [hv] at hy; simp at hy
     | some q => rw [hv] at hy; exact h q (List.mem_of_getElem? hv) y hy
   · exact hz
theorem Vd.cell_nm {f : Vd.F} (h : ∀ r ∈ f.fr.vs, ∀ z ∈ r, Vd.nm z) (v i : Int) : Vd.nm (Vd.cellOf f v i) := by
 unfold Vd.cellOf
 cases hv : f.fr.vs[v.toNat]? with
 | none => rfl
 | some q =>
  show Vd.nm (q[i.toNat]?.getD 0)
  cases hi : q[i.toNat]? with
  | none => rfl
  | some z => exact h q (List.mem_of_getElem? hv) z (List.mem_of_getElem? hi)
section
variable {fs : List Int} {ss : List (List Int)} {s : Xr.S} {f : Vd.F} {r : List Vd.F}
theorem Vd.d1 (a b : Int) : Vd.does fs ss ⟨1, a, b⟩ s f r = if s.fuel = 0 then Vd.over (Xr.fin s f.fr a 1) else ⟨Xr.stepS s f.fr a, { f with fr := Xr.stepF s f.fr a } :: r, false⟩ := rfl
theorem Vd.d2 (a b : Int) : Vd.does fs ss ⟨2, a, b⟩ s f r = if f.pile.length < 64 then ⟨s, { f with pile := a :: f.pile } :: r, false⟩ else Vd.astray s := rfl
theorem Vd.d3 (a b : Int) : Vd.does fs ss ⟨3, a, b⟩ s f r = if f.pile.length < 64 ∧ Vd.plain (ss[f.fn]?.getD []) a then ⟨s, { f with pile := Vd.cellOf f a 0 :: f.pile } :: r, false⟩ else Vd.astray s := rfl
theorem Vd.d8 (a b : Int) : Vd.does fs ss ⟨8, a, b⟩ s f r = if Vd.plain (ss[f.fn]?.getD []) a then ⟨Xr.readS s f.fr a, { f with fr := Xr.readF s f.fr a } :: r, false⟩ else Vd.astray s := rfl
theorem Vd.d10 (a b : Int) : Vd.does fs ss ⟨10, a, b⟩ s f r = ⟨s, { f with pc := a.toNat } :: r, false⟩ := rfl
theorem Vd.d12 (a b : Int) : Vd.does fs ss ⟨12, a, b⟩ s f r = if b.toNat ≤ f.pile.length ∧ b.toNat ≤ (ss[a.toNat]?.getD []).length ∧ ((ss[a.toNat]?.getD []).take b.toNat).all (· == 0) then
      Vd.call fs (ss[a.toNat]?.getD []) a.toNat (f.pile.take b.toNat).reverse s { f with pile := f.pile.drop b.toNat } r
  else Vd.astray s := rfl
theorem Vd.d14 (a b : Int) : Vd.does fs ss ⟨14, a, b⟩ s f r = if r.length = 0 then Vd.over (Xr.fin s f.fr (-1) 0) else Vd.astray s := rfl
theorem Vd.none {x : Kd.I} (hk : x.k = 4 ∨ x.k = 5 ∨ x.k = 6 ∨ x.k = 7 ∨ x.k = 9 ∨ x.k = 11 ∨ x.k = 13) (h : f.pile = []) : Vd.does fs ss x s f r = Vd.astray s := by
 obtain ⟨k, a, b⟩ := x
 rcases hk with rfl | rfl | rfl | rfl | rfl | rfl | rfl <;> (unfold Vd.does; rw [h]; rfl)
theorem Vd.one {x : Kd.I} {z : Int} (hk : x.k = 5 ∨ x.k = 7) (h : f.pile = [z]) : Vd.does fs ss x s f r = Vd.astray s := by
 obtain ⟨k, a, b⟩ := x
 rcases hk with rfl | rfl <;> (unfold Vd.does; rw [h]; rfl)
theorem Vd.d4 (a b : Int) {n : Int} {q : List Int} (h : f.pile = n :: q) : Vd.does fs ss ⟨4, a, b⟩ s f r = if Vd.arr (ss[f.fn]?.getD []) a then (if Vd.has (ss[f.fn]?.getD []) a n then ⟨s, { f with pile := Vd.cellOf f a n :: q } :: r, false⟩ else Vd.over (Xr.fin s f.fr f.fr.at_ 3)) else Vd.astray s := by
 unfold Vd.does; rw [h]; rfl
theorem Vd.d6 (a b : Int) {n : Int} {q : List Int} (h : f.pile = n :: q) : Vd.does fs ss ⟨6, a, b⟩ s f r = if Vd.plain (ss[f.fn]?.getD []) a then ⟨Xr.wrS s f.fr f.fr.at_ a 0 n, { f with fr := Xr.wrF f.fr a 0 n, pile := q } :: r, false⟩ else Vd.astray s := by
 unfold Vd.does; rw [h]; rfl
theorem Vd.d9 (a b : Int) {n : Int} {q : List Int} (h : f.pile = n :: q) : Vd.does fs ss ⟨9, a, b⟩ s f r = ⟨Xr.tell s ⟨4, f.fr.num, f.fr.at_, 0, 0, n⟩, { f with pile := q } :: r, false⟩ := by
 unfold Vd.does; rw [h]; rfl
theorem Vd.d11 (a b : Int) {n : Int} {q : List Int} (h : f.pile = n :: q) : Vd.does fs ss ⟨11, a, b⟩ s f r = ⟨s, { f with pile := q, pc := if n = 0 then a.toNat else f.pc } :: r, false⟩ := by
 unfold Vd.does; rw [h]; rfl
theorem Vd.d13o (a b : Int) {n : Int} {q : List Int} (h : f.pile = n :: q) : Vd.does fs ss ⟨13, a, b⟩ s f [] = Vd.astray s := by
 unfold Vd.does; rw [h]; rfl
theorem Vd.d13 (a b : Int) {n : Int} {q : List Int} {g : Vd.F} {r2 : List Vd.F} (h : f.pile = n :: q) : Vd.does fs ss ⟨13, a, b⟩ s f (g :: r2) = if g.pile.length < 64 then ⟨Xr.tell s ⟨6, f.fr.num, g.fr.at_, 0, 0, n⟩, { g with pile := n :: g.pile } :: r2, false⟩ else Vd.astray s := by
 unfold Vd.does; rw [h]; rfl
theorem Vd.d5 (a b : Int) {n i : Int} {q : List Int} (h : f.pile = n :: i :: q) : Vd.does fs ss ⟨5, a, b⟩ s f r = if (Pg.op a i n).2 = 0 then ⟨s, { f with pile := (Pg.op a i n).1 :: q } :: r, false⟩ else Vd.over (Xr.fin s f.fr f.fr.at_ (Pg.op a i n).2) := by
 unfold Vd.does; rw [h]; rfl
theorem Vd.d7 (a b : Int) {n i : Int} {q : List Int} (h : f.pile = n :: i :: q) : Vd.does fs ss ⟨7, a, b⟩ s f r = if Vd.arr (ss[f.fn]?.getD []) a then (if Vd.has (ss[f.fn]?.getD []) a i then ⟨Xr.wrS s f.fr f.fr.at_ a i n, { f with fr := Xr.wrF f.fr a i n, pile := q } :: r, false⟩ else Vd.over (Xr.fin s f.fr f.fr.at_ 3)) else Vd.astray s := by
 unfold Vd.does; rw [h]; rfl
end
theorem Vd.tell_evs {s : Xr.S} (h : s.ended = false) (e : Ev) : Xr.tell s e = { s with evs := s.evs ++ [e] } := by
 unfold Xr.tell
 rw [h]
 rfl
theorem Vd.fin_evs {s : Xr.S} (h : s.ended = false) (f : Xr.F) (a how : Int) : (Xr.fin s f a how).evs = s.evs ++ [⟨7, f.num, a, 0, 0, how⟩] := by
 unfold Xr.fin
 rw [Vd.tell_evs h]
theorem Vd.par_evs : ∀ (zs : List Int) (g : Xr.F) (a : Int) (i : Nat) (s : Xr.S), s.ended = false → (Xr.parS g a i zs s).evs.length = s.evs.length + zs.length ∧ (Xr.parS g a i zs s).ended = false ∧ (Xr.parS g a i zs s).inp = s.inp ∧ (Xr.parS g a i zs s).made = s.made ∧ (Xr.parS g a i zs s).fuel = s.fuel
 | [], g, a, i, s, h => ⟨rfl, h, rfl, rfl, rfl⟩
 | z :: r, g, a, i, s, h => by
  have e : Xr.wrS s g a (i : Nat) 0 z = { s with evs := s.evs ++ [⟨2, g.num, a, (i : Nat), 0, z⟩] } := Vd.tell_evs h _
  show (Xr.parS g a (i + 1) r (Xr.wrS s g a (i : Nat) 0 z)).evs.length = _ ∧ (Xr.parS g a (i + 1) r (Xr.wrS s g a (i : Nat) 0 z)).ended = false ∧ (Xr.parS g a (i + 1) r (Xr.wrS s g a (i : Nat) 0 z)).inp = _ ∧ (Xr.parS g a (i + 1) r (Xr.wrS s g a (i : Nat) 0 z)).made = _ ∧ (Xr.parS g a (i + 1) r (Xr.wrS s g a (i : Nat) 0 z)).fuel = _
  rw [e]
  obtain ⟨h1, h2, h3, h4, h5⟩ := Vd.par_evs r g a (i + 1) { s with evs := s.evs ++ [⟨2, g.num, a, (i : Nat), 0, z⟩] } h
  refine ⟨?_, h2, h3, h4, h5⟩
  rw [h1]
  simp
  omega
theorem Vd.par_sh : ∀ (zs : List Int) (i : Nat) (g : Xr.F), (∀ z ∈ zs, Vd.nm z) → (∀ r ∈ g.vs, ∀ z ∈ r, Vd.nm z) → (Xr.parF i zs g).vs.map List.length = g.vs.map List.length ∧ (∀ r ∈ (Xr.parF i zs g).vs, ∀ z ∈ r, Vd.nm z) ∧ (Xr.parF i zs g).num = g.num ∧ (Xr.parF i zs g).at_ = g.at_ ∧ (Xr.parF i zs g).deep = g.deep
 | [], i, g, _, h => ⟨rfl, h, rfl, rfl, rfl⟩
 | z :: r, i, g, hz, h => by
  obtain ⟨h1, h2, h3, h4, h5⟩ := Vd.par_sh r (i + 1) (Xr.wrF g (i : Nat) 0 z) (fun y hy => hz y (List.mem_cons_of_mem _ hy)) (Vd.upd_cell h (hz z List.mem_cons_self))
  exact ⟨h1.trans (Vd.upd_len _ _ _ _), h2, h3, h4, h5⟩
theorem Vd.new_sh (a d : Nat) (sz : List Int) : (Xr.newF a d sz).vs.map List.length = sz.map fun n => (max n 1).toNat := by
 unfold Xr.newF
 simp [Function.comp_def]
theorem Vd.new_cell (a d : Nat) (sz : List Int) : ∀ r ∈ (Xr.newF a d sz).vs, ∀ z ∈ r, Vd.nm z := by
 intro r hr z hz
 unfold Xr.newF at hr
 simp at hr
 obtain ⟨n, _, rfl⟩ := hr
 rw [(List.mem_replicate.1 hz).2]
 rfl
theorem Vd.op_nm (k a b : Int) : Vd.nm (Pg.op k a b).1 := by
 unfold Pg.op
 split
 · rfl
 · generalize (if k = 4 then wrap64 (a + b) else if k = 5 then wrap64 (a - b) else if k = 6 then wrap64 (a * b) else if k = 7 then wrap64 (a.tdiv b) else if k = 8 then a.tmod b else if k = 9 then (if a < b then 1 else 0) else if k = 10 then (if a = b then 1 else 0) else a) = z
   unfold Vd.nm Pg.beyond Pg.w32 wrap32
   exact decide_eq_false (by omega)
def Vd.Nx (l : List Kd.I) (ss : List (List Int)) (k : Nat) (t : Vd.St) : Prop := t.s.evs.length ≤ 4 * (k + 1) ∧ (t.lost = true ∨ (t.s.ended = true ∧ t.lost = false) ∨ Vd.Ok l ss (k + 1) t)
theorem Vd.Nx.lost {l : List Kd.I} {ss : List (List Int)} {k : Nat} {s : Xr.S} (h : Vd.SOk k s) : Vd.Nx l ss k (Vd.astray s) := ⟨by have := h.evs; show s.evs.length ≤ _; omega, .inl rfl⟩
theorem Vd.Nx.over {l : List Kd.I} {ss : List (List Int)} {k : Nat} {s : Xr.S} (h : Vd.SOk k s) (f : Xr.F) (a how : Int) : Vd.Nx l ss k (Vd.over (Xr.fin s f a how)) := by
 refine ⟨?_, .inr (.inl ⟨rfl, rfl⟩)⟩
 have := h.evs
 show (Xr.fin s f a how).evs.length ≤ _
 rw [Vd.fin_evs h.go, List.length_append]
 simp
 omega
theorem Vd.Nx.on {l : List Kd.I} {ss : List (List Int)} {k : Nat} {s : Xr.S} {fs : List Vd.F} (h : Vd.SOk (k + 1) s) (ha : ∀ f ∈ fs, Vd.FOk l ss f) (h0 : 0 < fs.length ∧ fs.length ≤ 6) : Vd.Nx l ss k ⟨s, fs, false⟩ := ⟨h.evs, .inr (.inr ⟨h, rfl, ha, h0⟩)⟩
theorem Vd.SOk.next {k : Nat} {s : Xr.S} (h : Vd.SOk k s) : Vd.SOk (k + 1) s := ⟨h.go, h.inp, by have := h.evs; omega, by have := h.made; omega⟩
theorem Vd.SOk.tell {k : Nat} {s : Xr.S} (h : Vd.SOk k s) (e : Ev) : Vd.SOk (k + 1) (Xr.tell s e) := by
 rw [Vd.tell_evs h.go]
 exact ⟨h.go, h.inp, by have := h.evs; show (s.evs ++ [e]).length ≤ _; rw [List.length_append]; simp; omega, by have := h.made; show s.made ≤ _; omega⟩
theorem Vd.cons_all {l : List Kd.I} {ss : List (List Int)} {f : Vd.F} {r : List Vd.F} (h : Vd.FOk l ss f) (hr : ∀ g ∈ r, Vd.FOk l ss g) : ∀ g ∈ f :: r, Vd.FOk l ss g := by
 intro g hg
 rcases List.mem_cons.1 hg with rfl | hg
 · exact h
 · exact hr g hg
theorem Vd.FOk.pop {l : List Kd.I} {ss : List (List Int)} {f : Vd.F} (h : Vd.FOk l ss f) {q : List Int} (hq : ∃ p, f.pile = p ++ q) : Vd.FOk l ss { f with pile := q } := by
 obtain ⟨p, hp⟩ := hq
 exact ⟨h.fn, h.pc, by have := h.top; rw [hp, List.length_append] at this; show q.length ≤ 64; omega, fun z hz => h.num z (by rw [hp]; exact List.mem_append_right _ hz), h.sh, h.cell⟩
theorem Vd.FOk.push {l : List Kd.I} {ss : List (List Int)} {f : Vd.F} (h : Vd.FOk l ss f) (hl : f.pile.length < 64) {z : Int} (hz : Vd.nm z) : Vd.FOk l ss { f with pile := z :: f.pile } :=
 ⟨h.fn, h.pc, hl, fun y hy => by rcases List.mem_cons.1 hy with rfl | hy; exact hz; exact h.num y hy, h.sh, h.cell⟩
theorem Vd.FOk.wr {l : List Kd.I} {ss : List (List Int)} {f : Vd.F} (h : Vd.FOk l ss f) {z : Int} (hz : Vd.nm z) (v i : Int) : Vd.FOk l ss { f with fr := Xr.wrF f.fr v i z } :=
 ⟨h.fn, h.pc, h.top, h.num, (Vd.upd_len _ _ _ _).trans h.sh, Vd.upd_cell h.cell hz⟩
theorem Vd.FOk.to {l : List Kd.I} {ss : List (List Int)} {f : Vd.F} (h : Vd.FOk l ss f) {n : Nat} (hn : n ≤ l.length) : Vd.FOk l ss { f with pc := n } := ⟨h.fn, hn, h.top, h.num, h.sh, h.cell⟩
theorem Vd.in_nm {k : Nat} {s : Xr.S} (h : Vd.SOk k s) : Vd.nm (Xr.inZ s) := by
 unfold Xr.inZ
 cases hi : s.inp with
 | nil => rfl
 | cons z r => exact h.inp z (by rw [hi]; exact List.mem_cons_self)
section
variable {l : List Kd.I} {fs : List Int} {ss : List (List Int)} {k : Nat} {s : Xr.S} {f : Vd.F} {r : List Vd.F}
theorem Vd.does_ok (hc : Vd.Cd l fs ss) {x : Kd.I} (hx : x ∈ l) (hs : Vd.SOk k s) (hf : Vd.FOk l ss f) (hr : ∀ g ∈ r, Vd.FOk l ss g) (hl : r.length ≤ 5) : Vd.Nx l ss k (Vd.does fs ss x s f r) := by
 obtain ⟨hk, hin⟩ := hc.ins x hx
 obtain ⟨kx, a, b⟩ := x
 dsimp only at hk
 have h6 : 0 < (f :: r).length ∧ (f :: r).length ≤ 6 := by simp; omega
 rcases (show kx = 1 ∨ kx = 2 ∨ kx = 3 ∨ kx = 8 ∨ kx = 10 ∨ kx = 12 ∨ kx = 14 ∨ (kx = 4 ∨ kx = 5 ∨ kx = 6 ∨ kx = 7 ∨ kx = 9 ∨ kx = 11 ∨ kx = 13) by omega) with rfl | rfl | rfl | rfl | rfl | rfl | rfl | hkk
 · rw [Vd.d1]
   split
   · exact Vd.Nx.over hs _ _ _
   · rename_i h0
     have e : Xr.stepS s f.fr a = Xr.tell { s with fuel := s.fuel - 1 } ⟨1, f.fr.num, a, 0, 0, 0⟩ := by unfold Xr.stepS; rw [if_neg h0]
     have e2 : Xr.stepF s f.fr a = { f.fr with at_ := a } := by unfold Xr.stepF; rw [if_neg h0]
     rw [e, e2]
     exact Vd.Nx.on (Vd.SOk.tell (s := { s with fuel := s.fuel - 1 }) ⟨hs.go, hs.inp, hs.evs, hs.made⟩ _) (Vd.cons_all ⟨hf.fn, hf.pc, hf.top, hf.num, hf.sh, hf.cell⟩ hr) h6
 · rw [Vd.d2]
   split
   · rename_i h0
     have : Vd.nm a := by unfold Kd.inR at hin; exact (by simpa using hin : Pg.beyond a = false)
     exact Vd.Nx.on hs.next (Vd.cons_all (hf.push h0 this) hr) h6
   · exact Vd.Nx.lost hs
 · rw [Vd.d3]
   split
   · rename_i h0
     exact Vd.Nx.on hs.next (Vd.cons_all (hf.push h0.1 (Vd.cell_nm hf.cell _ _)) hr) h6
   · exact Vd.Nx.lost hs
 · rw [Vd.d8]
   split
   · have hz := Vd.in_nm hs
     have e1 : Xr.tell (Xr.inS s) ⟨3, f.fr.num, f.fr.at_, 0, 0, Xr.inZ s⟩ = { (Xr.inS s) with evs := (Xr.inS s).evs ++ [⟨3, f.fr.num, f.fr.at_, 0, 0, Xr.inZ s⟩] } := Vd.tell_evs (by unfold Xr.inS; exact hs.go) _
     refine Vd.Nx.on ?_ (Vd.cons_all (hf.wr hz _ _) hr) h6
     unfold Xr.readS Xr.wrS
     rw [e1, Vd.tell_evs (by unfold Xr.inS; exact hs.go)]
     refine ⟨hs.go, fun z hz => hs.inp z (by unfold Xr.inS at hz; exact List.mem_of_mem_tail hz), ?_, by have := hs.made; show s.made ≤ _; omega⟩
     have := hs.evs
     unfold Xr.inS
     simp
     omega
   · exact Vd.Nx.lost hs
 · rw [Vd.d10]
   have ha : 0 ≤ a ∧ a < (l.length : Int) := by unfold Kd.inR at hin; simpa using hin
   exact Vd.Nx.on hs.next (Vd.cons_all (hf.to (by omega)) hr) h6
 · rw [Vd.d12]
   split
   · rename_i h0
     have ha : (0 ≤ a ∧ a < (fs.length : Int)) ∧ 0 ≤ b ∧ b ≤ 3 := by unfold Kd.inR at hin; simpa using hin
     unfold Vd.call
     split
     · exact Vd.Nx.over hs _ _ _
     · rename_i h5
       have hlen := hc.len
       have hz : ∀ z ∈ (f.pile.take b.toNat).reverse, Vd.nm z := fun z hz => hf.num z (List.mem_of_mem_take (List.mem_reverse.1 hz))
       obtain ⟨p1, p2, p3, p4, p5⟩ := Vd.par_evs (f.pile.take b.toNat).reverse (Xr.newF (s.made + 1) (f.fr.deep + 1) (ss[a.toNat]?.getD [])) f.fr.at_ 0 (Xr.tell { s with made := s.made + 1 } ⟨5, f.fr.num, f.fr.at_, (a.toNat : Nat), 0, ((s.made + 1 : Nat) : Int)⟩) (by rw [Vd.tell_evs (by exact hs.go)]; exact hs.go)
       obtain ⟨q1, q2, q3, q4, q5⟩ := Vd.par_sh (f.pile.take b.toNat).reverse 0 (Xr.newF (s.made + 1) (f.fr.deep + 1) (ss[a.toNat]?.getD [])) hz (Vd.new_cell _ _ _)
       have hst : Vd.SOk (k + 1) (Xr.parS (Xr.newF (s.made + 1) (f.fr.deep + 1) (ss[a.toNat]?.getD [])) f.fr.at_ 0 (f.pile.take b.toNat).reverse (Xr.tell { s with made := s.made + 1 } ⟨5, f.fr.num, f.fr.at_, (a.toNat : Nat), 0, ((s.made + 1 : Nat) : Int)⟩)) := by
        have e0 := Vd.tell_evs (s := { s with made := s.made + 1 }) hs.go ⟨5, f.fr.num, f.fr.at_, (a.toNat : Nat), 0, ((s.made + 1 : Nat) : Int)⟩
        refine ⟨p2, by rw [p3, e0]; exact hs.inp, ?_, by rw [p4, e0]; have := hs.made; show s.made + 1 ≤ _; omega⟩
        rw [p1, e0]
        have := hs.evs
        simp
        omega
       refine Vd.Nx.on hst (Vd.cons_all ?_ (Vd.cons_all (hf.pop ⟨_, (List.take_append_drop b.toNat f.pile).symm⟩) hr)) ⟨by simp, by simp; omega⟩
       refine ⟨by show a.toNat < ss.length; omega, ?_, by simp, fun z hz => by simp at hz, q1.trans (Vd.new_sh _ _ _), q2⟩
       show (fs[a.toNat]?.getD 0).toNat ≤ l.length
       have hlt : a.toNat < fs.length := by omega
       rw [List.getElem?_eq_getElem hlt]
       have := hc.fst _ (List.getElem_mem hlt)
       simp
       omega
   · exact Vd.Nx.lost hs
 · rw [Vd.d14]
   split
   · exact Vd.Nx.over hs _ _ _
   · exact Vd.Nx.lost hs
 · cases hp : f.pile with
   | nil => rw [Vd.none hkk hp]; exact Vd.Nx.lost hs
   | cons n q =>
    have hn : Vd.nm n := hf.num n (by rw [hp]; exact List.mem_cons_self)
    have hlq : q.length < 64 := by have := hf.top; rw [hp] at this; simp at this; omega
    have hfq : Vd.FOk l ss { f with pile := q } := hf.pop ⟨[n], by rw [hp]; rfl⟩
    rcases (show kx = 4 ∨ kx = 6 ∨ kx = 9 ∨ kx = 11 ∨ kx = 13 ∨ (kx = 5 ∨ kx = 7) by omega) with rfl | rfl | rfl | rfl | rfl | hk2
    · rw [Vd.d4 a b hp]
      split
      · split
        · exact Vd.Nx.on hs.next (Vd.cons_all (hfq.push hlq (Vd.cell_nm hf.cell _ _)) hr) h6
        · exact Vd.Nx.over hs _ _ _
      · exact Vd.Nx.lost hs
    · rw [Vd.d6 a b hp]
      split
      · exact Vd.Nx.on (hs.tell _) (Vd.cons_all (hfq.wr hn _ _) hr) h6
      · exact Vd.Nx.lost hs
    · rw [Vd.d9 a b hp]
      exact Vd.Nx.on (hs.tell _) (Vd.cons_all hfq hr) h6
    · rw [Vd.d11 a b hp]
      have ha : 0 ≤ a ∧ a < (l.length : Int) := by unfold Kd.inR at hin; simpa using hin
      exact Vd.Nx.on hs.next (Vd.cons_all (hfq.to (by split; omega; exact hf.pc)) hr) h6
    · cases r with
      | nil => rw [Vd.d13o a b hp]; exact Vd.Nx.lost hs
      | cons g r2 =>
       rw [Vd.d13 a b hp]
       split
       · rename_i h0
         exact Vd.Nx.on (hs.tell _) (Vd.cons_all ((hr g List.mem_cons_self).push h0 hn) (fun y hy => hr y (List.mem_cons_of_mem _ hy))) ⟨by simp, by simp at hl ⊢; omega⟩
       · exact Vd.Nx.lost hs
    · cases q with
      | nil =>
       rw [Vd.one (z := n) hk2 hp]
       exact Vd.Nx.lost hs
      | cons i q2 =>
       have hlq2 : q2.length < 64 := by simp at hlq; omega
       have hfq2 : Vd.FOk l ss { f with pile := q2 } := hf.pop ⟨[n, i], by rw [hp]; rfl⟩
       rcases hk2 with rfl | rfl
       · rw [Vd.d5 a b hp]
         split
         · exact Vd.Nx.on hs.next (Vd.cons_all (hfq2.push hlq2 (Vd.op_nm _ _ _)) hr) h6
         · exact Vd.Nx.over hs _ _ _
       · rw [Vd.d7 a b hp]
         split
         · split
           · exact Vd.Nx.on (hs.tell _) (Vd.cons_all (hfq2.wr hn _ _) hr) h6
           · exact Vd.Nx.over hs _ _ _
         · exact Vd.Nx.lost hs
theorem Vd.do_ok (hc : Vd.Cd l fs ss) {t : Vd.St} (h : Vd.Ok l ss k t) : Vd.Nx l ss k (Vd.do1 l fs ss t) := by
 obtain ⟨s, gs, lo⟩ := t
 cases gs with
 | nil => exact absurd h.few.1 (by simp)
 | cons f r =>
  unfold Vd.do1
  dsimp only
  cases hx : l[f.pc]? with
  | none => exact Vd.Nx.lost h.s
  | some x =>
   have hlt := (List.getElem?_eq_some_iff.1 hx).1
   exact Vd.does_ok hc (List.mem_of_getElem? hx) h.s ((h.all f List.mem_cons_self).to (by omega)) (fun g hg => h.all g (List.mem_cons_of_mem _ hg)) (by have := h.few.2; simp at this; omega)
theorem Vd.start_ok (hc : Vd.Cd l fs ss) {inp : List Int} (hi : ∀ z ∈ inp, Vd.nm z) (fuel : Nat) : Vd.Ok l ss 0 (Vd.start fs ss inp fuel) := by
 have h1 := hc.pos
 have h2 := hc.len
 refine ⟨⟨rfl, hi, Nat.zero_le _, Nat.zero_le _⟩, rfl, fun f hf => ?_, by unfold Vd.start; simp⟩
 unfold Vd.start at hf
 simp at hf
 subst hf
 refine ⟨by show fs.length - 1 < _; omega, ?_, by simp, fun z hz => by simp at hz, Vd.new_sh _ _ _, Vd.new_cell _ _ _⟩
 show (fs[fs.length - 1]?.getD 0).toNat ≤ l.length
 have hlt : fs.length - 1 < fs.length := by omega
 rw [List.getElem?_eq_getElem hlt]
 have := hc.fst _ (List.getElem_mem hlt)
 simp
 omega
end
end Go.Proofs.YtpfogjplnodacaaGreat
