/-
  The contract of Compile. By the verifier.
-/
import Derived.Test.YtpfogjplnodacaaKFn
import Derived.Test.YtpfogjplnodacaaKRead
import Derived.Test.YtpfogjplnodacaaPCheck
set_option maxRecDepth 100000
set_option maxHeartbeats 3200000
namespace Go.Proofs.Ytpfogjplnodacaa
open Go.RowKit
set_option linter.unusedVariables false
theorem Kd.ri_own {W : World} {B n c : Nat} {a : Option Addr} {l : List Kd.I} (hl : l.length = n) (hn : n ≤ 100000) (h : W.ownsRow B 55 3 (.slice a n c) n (Kd.cl l)) : Kd.RI W ⟨a, n, c⟩ l := by
 refine ⟨hl.symm, ?_, by omega, fun i x hi => ?_⟩
 · rcases h.2 with ⟨h1, h2⟩ | ⟨g, cap, cur, hv, _, _, hc, _⟩
   · show n ≤ c
     omega
   · cases hv
     exact hc
 · have hin := (List.getElem?_eq_some_iff.1 hi).1
   obtain ⟨g, cap, hv, _, hlt⟩ := h.form (by omega)
   cases hv
   have cc : ∀ j v, x.cl[j]? = some v → W.cell? ⟨g, 0 + i * 3 + j, none⟩ = some v := fun j v hv => by
    have := h.cells (g := g) rfl (i * 3 + j) v (Kd.cl_at l i x j v hi hv)
    rw [Kd.add_at] at this
    rw [Nat.zero_add]
    rw [Nat.zero_add] at this
    exact this
   exact ⟨g, 0, rfl, hlt, cc 0 _ rfl, cc 1 _ rfl, cc 2 _ rfl⟩
theorem Kd.N.code {w0 W W' : World} {bc : Nat} {rv fv gv : Value} {l : List Kd.I} {a : Nat} {fs : List Int} {ts : List Pg.Sl} {ss : List (List Int)} (h : Kd.N w0 W bc rv fv gv l a fs ts ss) (hk : ∀ q, w0.heap.size ≤ q → W'.heap[q]? = W.heap[q]?) (hl : l.length ≤ 100000) (hf : fs.length ≤ 100) (ht : ts.length ≤ 100) (hs : ∀ s ∈ ss, s.length ≤ 600) :
  ∃ si sf sz : Pg.Sl, rv = Kd.sv si ∧ fv = Kd.sv sf ∧ gv = Kd.sv sz ∧ Kd.RCo W' si sf sz l fs ss := by
 obtain ⟨g1, c1, h1⟩ := h.m.slc
 obtain ⟨g2, c2, h2⟩ := Kd.row_slc h.frow
 obtain ⟨g3, c3, h3⟩ := Kd.row_slc h.grow
 subst h1 h2 h3
 have r1 := Kd.ow_kept h.m.row (fun q hq => hk q (h.m.row.lt q hq).1)
 have r2 := Kd.ow_kept h.frow (fun q hq => hk q (h.frow.lt q hq).1)
 have r3 := Kd.ow_kept h.grow (fun q hq => hk q (h.grow.lt q hq).1)
 refine ⟨⟨g1, _, c1⟩, ⟨g2, _, c2⟩, ⟨g3, _, c3⟩, rfl, rfl, rfl, Kd.ri_own rfl (by omega) r1, Kd.rn_own rfl (by omega) r2, h.tl, ?_, by have := h.tl; omega, fun i s hsi => ?_⟩
 · rcases h.grow.2 with ⟨e1, e2⟩ | ⟨g, cap, cur, hv, _, _, hc, _⟩
   · show ts.length ≤ c3
     omega
   · cases hv
     exact hc
 · have hi := (List.getElem?_eq_some_iff.1 hsi).1
   have hti : i < ts.length := by have := h.tl; omega
   obtain ⟨t, htt⟩ : ∃ t, ts[i]? = some t := ⟨_, List.getElem?_eq_getElem hti⟩
   have hz := h.at_ i t s htt hsi
   obtain ⟨g, cap, hv, _, hlt⟩ := r3.form (by omega)
   cases hv
   have hc := r3.cells (g := g) rfl i (Kd.sv t) (by rw [List.getElem?_map, htt]; rfl)
   rw [Kd.add_at] at hc
   have hsl := hs s (List.mem_of_getElem? hsi)
   have hrow := Kd.ow_kept hz.row (fun q hq => hk q (hz.row.lt q hq).1)
   obtain ⟨ta, tn, tc⟩ := t
   have htn : tn = s.length := hz.len
   subst htn
   exact ⟨g, 0, ⟨ta, _, tc⟩, rfl, hlt, hc, Kd.rn_own rfl (by omega) hrow⟩
section
variable {m n : Nat} {p : List (Pg.FT m n)}
def Kd.upto (p : List (Pg.FT m n)) : Nat → List Kd.I
 | 0 => []
 | i + 1 => match p[i]? with
  | none => Kd.upto p i
  | some x => Kd.upto p i ++ Kd.fn (decide (i + 1 = p.length)) x (Kd.upto p i).length (Pg.sumTo (fun f => Pg.cnts f.cmds) p i)
def Kd.fto (p : List (Pg.FT m n)) : Nat → List Int
 | 0 => []
 | i + 1 => Kd.fto p i ++ [((Kd.upto p i).length : Int)]
theorem Kd.upto_succ {i : Nat} {x : Pg.FT m n} (h : p[i]? = some x) : Kd.upto p (i + 1) = Kd.upto p i ++ Kd.fn (decide (i + 1 = p.length)) x (Kd.upto p i).length (Pg.sumTo (fun f => Pg.cnts f.cmds) p i) := by
 show (match p[i]? with | none => _ | some x => _) = _
 rw [h]
theorem Kd.fto_len (i : Nat) : (Kd.fto p i).length = i := by
 induction i with
 | zero => rfl
 | succ i ih => show (Kd.fto p i ++ [_]).length = _; rw [List.length_append, ih]; rfl
theorem Kd.fns_upto : ∀ i, i ≤ p.length → Kd.ins p = Kd.upto p i ++ Kd.fns (p.drop i) (Kd.upto p i).length (Pg.sumTo (fun f => Pg.cnts f.cmds) p i) ∧ Kd.fst p = Kd.fto p i ++ Kd.firsts (p.drop i) (Kd.upto p i).length (Pg.sumTo (fun f => Pg.cnts f.cmds) p i) := by
 intro i
 induction i with
 | zero => intro _; exact ⟨rfl, rfl⟩
 | succ i ih =>
  intro hi
  obtain ⟨h1, h2⟩ := ih (by omega)
  have hx : p[i]? = some p[i] := List.getElem?_eq_getElem (by omega)
  have hd : p.drop i = p[i] :: p.drop (i + 1) := List.drop_eq_getElem_cons (by omega)
  have hl : (p.drop (i + 1)).isEmpty = decide (i + 1 = p.length) := by
   have hlen : (p.drop (i + 1)).length = p.length - (i + 1) := List.length_drop
   cases hr : p.drop (i + 1) with
   | nil => rw [hr] at hlen; simp at hlen; exact (decide_eq_true (by omega)).symm
   | cons y s => rw [hr] at hlen; simp at hlen; exact (decide_eq_false (by omega)).symm
  have hsu := Pg.sumTo_succ (fun f : Pg.FT m n => Pg.cnts f.cmds) p i _ hx
  rw [hd] at h1 h2
  have e1 : Kd.fns (p[i] :: p.drop (i + 1)) (Kd.upto p i).length (Pg.sumTo (fun f => Pg.cnts f.cmds) p i) = Kd.fn (p.drop (i + 1)).isEmpty p[i] (Kd.upto p i).length (Pg.sumTo (fun f => Pg.cnts f.cmds) p i) ++ Kd.fns (p.drop (i + 1)) ((Kd.upto p i).length + (Kd.fn (p.drop (i + 1)).isEmpty p[i] (Kd.upto p i).length (Pg.sumTo (fun f => Pg.cnts f.cmds) p i)).length) (Pg.sumTo (fun f => Pg.cnts f.cmds) p i + Pg.cnts p[i].cmds) := rfl
  have e2 : Kd.firsts (p[i] :: p.drop (i + 1)) (Kd.upto p i).length (Pg.sumTo (fun f => Pg.cnts f.cmds) p i) = (((Kd.upto p i).length : Nat) : Int) :: Kd.firsts (p.drop (i + 1)) ((Kd.upto p i).length + (Kd.fn (p.drop (i + 1)).isEmpty p[i] (Kd.upto p i).length (Pg.sumTo (fun f => Pg.cnts f.cmds) p i)).length) (Pg.sumTo (fun f => Pg.cnts f.cmds) p i + Pg.cnts p[i].cmds) := rfl
  rw [e1, hl] at h1
  rw [e2, hl] at h2
  rw [Kd.upto_succ hx, List.length_append, hsu]
  refine ⟨by rw [h1, List.append_assoc], ?_⟩
  show Kd.fst p = Kd.fto p i ++ [_] ++ _
  rw [h2, List.append_assoc]
  rfl
theorem Kd.ins_all : Kd.ins p = Kd.upto p p.length ∧ Kd.fst p = Kd.fto p p.length := by
 obtain ⟨h1, h2⟩ := Kd.fns_upto (p := p) p.length (Nat.le_refl _)
 rw [List.drop_length] at h1 h2
 exact ⟨h1.trans (List.append_nil _), h2.trans (List.append_nil _)⟩
theorem Kd.upto_le {i : Nat} (hi : i ≤ p.length) : (Kd.upto p i).length ≤ (Kd.ins p).length := by
 rw [(Kd.fns_upto i hi).1, List.length_append]
 omega
theorem Kd.N.new {W : World} (hl : True) : Kd.N W (W.alloc (Obj.cells #[.slice none 0 0, .slice none 0 0, .slice none 0 0, .int .i64 0] 38)) W.heap.size (.slice none 0 0) (.slice none 0 0) (.slice none 0 0) [] 0 [] [] [] := by
 have hn := heap_alloc_new W (Obj.cells #[.slice none 0 0, .slice none 0 0, .slice none 0 0, .int .i64 0] 38)
 have hb := (Below.refl W.heap.size W).alloc (Nat.le_refl _) (Obj.cells #[.slice none 0 0, .slice none 0 0, .slice none 0 0, .int .i64 0] 38)
 have no : ∀ q, (Value.slice none 0 0).ownBlock = some q → False := fun q hq => by cases hq
 exact ⟨⟨hb, Nat.le_refl _, (cell_of_row _ _ 0 _ _ _ hn).trans rfl, (cell_of_row _ _ 3 _ _ _ hn).trans rfl, fun i => frozen_of_row _ _ i _ _ hn, ⟨rfl, .inl ⟨rfl, rfl⟩⟩, fun q hq => (no q hq).elim⟩, (cell_of_row _ _ 1 _ _ _ hn).trans rfl, (cell_of_row _ _ 2 _ _ _ hn).trans rfl, ⟨rfl, .inl ⟨rfl, rfl⟩⟩, ⟨rfl, .inl ⟨rfl, rfl⟩⟩, rfl, fun i t s ht => by simp at ht, fun q hq => (no q hq).elim, fun q hq => (no q hq).elim⟩
structure Kd.Fx (p : List (Pg.FT m n)) (w0 wr : World) (bc i : Nat) : Prop where
 it : ∃ rv fv gv ts, Kd.N w0 wr bc rv fv gv (Kd.upto p i) (Pg.sumTo (fun f => Pg.cnts f.cmds) p i) (Kd.fto p i) ts (Kd.szs (p.take i))
theorem Kd.Fx.next {w0 wr : World} {bc i : Nat} {x : Pg.FT m n} (hx : p[i]? = some x) (h : ∃ rv' fv' gv' ts', Kd.N w0 wr bc rv' fv' gv' (Kd.upto p i ++ Kd.fn (decide (i + 1 = p.length)) x (Kd.upto p i).length (Pg.sumTo (fun f => Pg.cnts f.cmds) p i)) (Pg.sumTo (fun f => Pg.cnts f.cmds) p i + Pg.cnts x.cmds) (Kd.fto p i ++ [((Kd.upto p i).length : Int)]) ts' (Kd.szs (p.take i) ++ [x.sizes])) : Kd.Fx p w0 wr bc (i + 1) := by
 obtain ⟨rv, fv, gv, ts, h1⟩ := h
 refine ⟨rv, fv, gv, ts, ?_⟩
 have e1 : Kd.szs (p.take (i + 1)) = Kd.szs (p.take i) ++ [x.sizes] := by
  obtain ⟨hi, he⟩ := List.getElem?_eq_some_iff.1 hx
  unfold Kd.szs
  rw [List.take_succ_eq_append_getElem hi, he, List.map_append]
  rfl
 rw [Kd.upto_succ hx, Pg.sumTo_succ _ _ _ _ hx, e1]
 exact h1
end
def Kd.CP {m n : Nat} (p : List (Pg.FT m n)) (w : World) : Ending → World → Prop := fun r w' => ∃ si sf sz : Pg.Sl, r = .returned (.tuple #[.agg #[Kd.sv si, Kd.sv sf, Kd.sv sz], .int .i64 (Pg.chkP p : Nat)]) ∧ (Pg.chkP p = 0 → Kd.RCo w' si sf sz (Kd.ins p) (Kd.fst p) (Kd.szs p)) ∧ (Pg.chkP p ≠ 0 → si = ⟨none, 0, 0⟩ ∧ sf = ⟨none, 0, 0⟩ ∧ sz = ⟨none, 0, 0⟩) ∧ Below w.heap.size w w'
theorem Kd.ok_of {m n : Nat} {p : List (Pg.FT m n)} (hc : Pg.chkP p = 0) : (∀ (i : Nat) (x : Pg.FT m n), p[i]? = some x → Pg.wfn p i x = 0) ∧ p.length ≤ 6 ∧ 0 < p.length ∧ (p.map (fun f => Pg.cnts f.cmds)).sum ≤ 40 := by
 unfold Pg.chkP at hc
 split at hc
 · cases hc
 rename_i h1
 split at hc
 · cases hc
 rename_i h2
 split at hc
 · cases hc
 rename_i h3
 refine ⟨fun i x hx => Pg.first_zero hc _ ?_, by omega, by omega, ?_⟩
 · unfold Pg.wfns
   exact List.mem_iff_getElem?.2 ⟨i, by rw [List.getElem?_mapIdx, hx]; rfl⟩
 · unfold Pg.manyP at h3
   rw [Bool.or_eq_true, not_or] at h3
   have := h3.1
   simp at this
   exact this
theorem Kd.sz_le {m n : Nat} {p : List (Pg.FT m n)} (hc : Pg.chkP p = 0) : ∀ s ∈ Kd.szs p, s.length ≤ 600 := by
 intro s hs
 obtain ⟨x, hx, rfl⟩ := List.mem_map.1 hs
 obtain ⟨i, hi⟩ := List.getElem?_of_mem hx
 obtain ⟨w1, _⟩ := Pg.orW_zero (show Pg.orW _ (Pg.orW _ _) = 0 from (Kd.ok_of hc).1 i x hi)
 unfold Pg.whead at w1
 split at w1
 · cases w1
 split at w1
 · cases w1
 omega
theorem Compile_any {m n : Nat} (fs : Pg.Sl) (p : List (Pg.FT m n)) (w : World) (hp : Pg.RP w m n fs p) (hpf : Pg.parFit p) :
  Calls Try.prog 4 #[.agg #[.slice fs.ad fs.len fs.cap]] w (Kd.CP p w) := by
 have hb0 : Below w.heap.size w ((w.alloc (Obj.cells #[.slice fs.ad fs.len fs.cap] 29)).alloc (Obj.cells #[.slice none 0 0, .slice none 0 0, .slice none 0 0] 26)) := ((Below.refl w.heap.size w).alloc (Nat.le_refl _) _).alloc (by simp) _
 have q0 : ((w.alloc (Obj.cells #[.slice fs.ad fs.len fs.cap] 29)).alloc (Obj.cells #[.slice none 0 0, .slice none 0 0, .slice none 0 0] 26)).cell? ⟨w.heap.size, 0, none⟩ = some (.slice fs.ad fs.len fs.cap) := by go_simp
 have hn1 := heap_alloc_new (w.alloc (Obj.cells #[.slice fs.ad fs.len fs.cap] 29)) (Obj.cells #[.slice none 0 0, .slice none 0 0, .slice none 0 0] 26)
 have hsz : (w.alloc (Obj.cells #[.slice fs.ad fs.len fs.cap] 29)).heap.size = w.heap.size + 1 := by simp
 rw [hsz] at hn1
 have HCK := hide (Check_any fs p _ (Pg.RP.later hp hb0 (Nat.le_refl _)) hpf)
 have HB0 := hide hb0
 have HP := hide (fun (V : World) (hV : Below w.heap.size w V) => Pg.RP.later hp hV (Nat.le_refl _))
 have HN1 := hide hn1
 have hlen := hp.len
 have HLN := hide hlen
 clear hp hpf hb0 hsz hn1 hlen
 go_enter Try.func4, Try.ntmps4
 go_wp2_with fail
 generalize ((w.alloc (Obj.cells #[.slice fs.ad fs.len fs.cap] 29)).alloc (Obj.cells #[.slice none 0 0, .slice none 0 0, .slice none 0 0] 26)) = W1 at *
 refine (unhide HCK).mono ?_
 rintro r w2 ⟨rfl, hb2⟩
 have hbl := World.block_lt_of_cell? _ _ q0
 have hl1 : w.heap.size + 1 < W1.heap.size := (Array.getElem?_eq_some_iff.1 (unhide HN1)).1
 have q2 := (hb2.cell (p := ⟨w.heap.size, 0, none⟩) hbl).trans q0
 have hn2 := (hb2.block (w.heap.size + 1) hl1).trans (unhide HN1)
 have u0 := (cell_of_row w2 (w.heap.size + 1) 0 _ _ _ hn2).trans rfl
 have u1 := (cell_of_row w2 (w.heap.size + 1) 1 _ _ _ hn2).trans rfl
 have u2 := (cell_of_row w2 (w.heap.size + 1) 2 _ _ _ hn2).trans rfl
 have v0 := frozen_of_row w2 (w.heap.size + 1) 0 _ _ hn2
 have v1 := frozen_of_row w2 (w.heap.size + 1) 1 _ _ hn2
 have v2 := frozen_of_row w2 (w.heap.size + 1) 2 _ _ hn2
 have HB2 := hide ((unhide HB0).trans (hb2.mono (unhide HB0).size))
 have hl2 : w.heap.size + 1 < w2.heap.size := Nat.lt_of_lt_of_le hl1 hb2.size
 have HN2 := hide hn2
 clear hb2 q0 hbl hl1 hn2 HB0 HN1
 by_cases hc : Pg.chkP p = 0
 case neg =>
  have HPO := hide (show ∀ w' : World, Below w.heap.size w w' → Kd.CP p w (.returned (.tuple #[.agg #[.slice none 0 0, .slice none 0 0, .slice none 0 0], .int .i64 (Pg.chkP p : Nat)])) w' from fun w' h => ⟨⟨none, 0, 0⟩, ⟨none, 0, 0⟩, ⟨none, 0, 0⟩, rfl, fun h => absurd h hc, fun _ => ⟨rfl, rfl, rfl⟩, h⟩)
  generalize Kd.CP p w = PO at *
  generalize Pg.chkP p = CK at *
  have bc0 : (((CK : Nat) : Int) != 0) = true := by simp; exact hc
  clear hc
  go_wp2_with fail
  refine bodyPost_ret (v := .tuple #[.agg #[.slice none 0 0, .slice none 0 0, .slice none 0 0], .int .i64 (CK : Nat)]) (by simp [results, Try.results4, go_sem, *]) rfl ((unhide HPO) _ ?_)
  exact (((unhide HB2).setCell (p := ⟨w.heap.size + 1, 0, none⟩) (Nat.le_succ _) _).setCell (p := ⟨w.heap.size + 1, 1, none⟩) (Nat.le_succ _) _).setCell (p := ⟨w.heap.size + 1, 2, none⟩) (Nat.le_succ _) _
 case pos =>
  obtain ⟨hok, hp6, hp0, hcn⟩ := Kd.ok_of hc
  obtain ⟨hch, hil⟩ := Kd.compiled hc
  have HSZ := hide (Kd.sz_le hc)
  have HRP := hide ((unhide HP) w2 (unhide HB2))
  have HPO := hide (show ∀ (w' : World) (si sf sz : Pg.Sl), Kd.RCo w' si sf sz (Kd.ins p) (Kd.fst p) (Kd.szs p) → Below w.heap.size w w' → Kd.CP p w (.returned (.tuple #[.agg #[Kd.sv si, Kd.sv sf, Kd.sv sz], .int .i64 0])) w' from fun w' si sf sz h1 h2 => ⟨si, sf, sz, by rw [hc]; rfl, fun _ => h1, fun h => absurd hc h, h2⟩)
  have HOK := hide hok
  have HCN := hide hcn
  have HIL := hide hil
  generalize Kd.CP p w = PO at *
  rw [hc, show (((0 : Nat)) : Int) = 0 from rfl]
  have hfl : fs.len ≤ 6 := by have := unhide HLN; omega
  have HF0 := hide (show Kd.Fx p w2 (w2.alloc (Obj.cells #[.slice none 0 0, .slice none 0 0, .slice none 0 0, .int .i64 0] 38)) w2.heap.size 0 from ⟨_, _, _, _, Kd.N.new trivial⟩)
  have q3 : (w2.alloc (Obj.cells #[.slice none 0 0, .slice none 0 0, .slice none 0 0, .int .i64 0] 38)).cell? ⟨w.heap.size, 0, none⟩ = some (.slice fs.ad fs.len fs.cap) := Kd.cell_alloc q2
  have hbl2 := World.block_lt_of_cell? _ _ q2
  have hwl : w.heap.size ≤ w2.heap.size := (unhide HB2).size
  clear hc hok hcn hch hil hp0 u0 u1 u2 v0 v1 v2
  obtain ⟨fa, fl, fc⟩ := fs
  dsimp only at *
  go_wp2_with fail
  go_loopw [17] (fun iv wr => ∃ i : Nat, i ≤ fl ∧ iv = .int .i64 i ∧ Kd.Fx p w2 wr w2.heap.size i) (fun iv _ => fl - (intOf iv).toNat)
  case atStart => exact ⟨0, Nat.zero_le _, rfl, unhide HF0⟩
  case round =>
   obtain ⟨i, hi, rfl, hfx⟩ := hrel
   obtain ⟨rv, fv, gv, ts, hN⟩ := hfx.it
   by_cases hlt : i < fl
   · have hlt2 : i < p.length := by have := unhide HLN; omega
     have hy := List.getElem?_eq_getElem hlt2
     obtain ⟨bb, o, cc, had, hbb, hlies, hrd⟩ := (unhide HRP).at_ i _ hy
     obtain ⟨p0, p1, p2, p3, p4, p5⟩ := hlies.later hN.m.bel (Nat.le_refl _) hbb
     have hwf := (unhide HOK) i _ hy
     have hsu := Pg.sumTo_succ (fun f : Pg.FT m n => Pg.cnts f.cmds) p i _ hy
     have hsa := Pg.sumTo_le (fun f : Pg.FT m n => Pg.cnts f.cmds) p (i + 1) (by omega)
     have hul := Kd.upto_le (p := p) (i := i + 1) (by omega)
     rw [Kd.upto_succ hy, List.length_append] at hul
     have HY := hide hy
     generalize p[i] = y at *
     have hal := (Below.refl wr.heap.size wr).alloc (Nat.le_refl _) (Obj.cells #[.int .i64 cc.params, .slice cc.sizes.ad cc.sizes.len cc.sizes.cap, .slice cc.cmds.ad cc.cmds.len cc.cmds.cap, .int .i64 cc.res.k, .int .i64 cc.res.n, .slice cc.res.args.ad cc.res.args.len cc.res.args.cap] 44)
     have s0 := (hN.m.bel.cell (p := ⟨w.heap.size, 0, none⟩) hbl2).trans q2
     have s1 : (wr.alloc (Obj.cells #[.int .i64 cc.params, .slice cc.sizes.ad cc.sizes.len cc.sizes.cap, .slice cc.cmds.ad cc.cmds.len cc.cmds.cap, .int .i64 cc.res.k, .int .i64 cc.res.n, .slice cc.res.args.ad cc.res.args.len cc.res.args.cap] 44)).cell? ⟨w.heap.size, 0, none⟩ = some (.slice fa fl fc) := Kd.cell_alloc s0
     have htl : ts.length = i := by rw [hN.tl]; unfold Kd.szs; rw [List.length_map, List.length_take]; omega
     have hftl := Kd.fto_len (p := p) i
     have HC := hide (fun (b : Bool) (hb : b = decide (i + 1 = p.length)) => show Calls Try.prog 10 #[.pointer (some ⟨w2.heap.size, 0, none⟩), .agg #[.int .i64 cc.params, .slice cc.sizes.ad cc.sizes.len cc.sizes.cap, .slice cc.cmds.ad cc.cmds.len cc.cmds.cap, .int .i64 cc.res.k, .int .i64 cc.res.n, .slice cc.res.args.ad cc.res.args.len cc.res.args.cap], .bool b] (wr.alloc (Obj.cells #[.int .i64 cc.params, .slice cc.sizes.ad cc.sizes.len cc.sizes.cap, .slice cc.cmds.ad cc.cmds.len cc.cmds.cap, .int .i64 cc.res.k, .int .i64 cc.res.n, .slice cc.res.args.ad cc.res.args.len cc.res.args.cap] 44)) (fun r W' => r = .returned (.tuple #[]) ∧ Kd.Fx p w2 W' w2.heap.size (i + 1)) from by
      subst hb
      refine (kfn_any (p := p) (q := i) hwf cc _ rv fv gv _ _ _ ts _ hrd (hN.below hal) _ rfl (by have := unhide HIL; omega) (by have := unhide HCN; omega) (by omega) (by omega)).mono ?_
      rintro r W' ⟨rfl, h⟩
      exact ⟨rfl, Kd.Fx.next (unhide HY) h⟩)
     have had' : fa = some ⟨bb, o, none⟩ := had
     have HLP := hide (show fl = p.length from unhide HLN)
     have hi0' : (0 : Int) ≤ (i : Int) := by omega
     have hi1' : (i : Int) < (fl : Int) := by omega
     have hw1 : IntKind.i64.wrap ((fl : Int) - 1) = (fl : Int) - 1 := by rw [IntKind.wrap_i64]; omega
     clear hy hbb hlies hrd had hlt2 hal hN hfx hwf hsu hsa hul htl hftl s0
     subst had'
     by_cases hla : i + 1 = fl
     · have HC2 := hide ((unhide HC) true (by rw [← unhide HLP]; exact (decide_eq_true hla).symm))
       have bb0 : ((i : Int) == (fl : Int) - 1) = true := by simp; omega
       have HLA := hide hla
       clear hla HC
       go_wp2_with fail
       refine (unhide HC2).mono ?_
       rintro r w5 ⟨rfl, h5⟩
       have H5 := hide h5
       clear h5
       go_wp2_with fail
       exact ⟨⟨i + 1, by omega, by go_num, unhide H5⟩, by simp [intOf]; omega⟩
     · have HC2 := hide ((unhide HC) false (by rw [← unhide HLP]; exact (decide_eq_false hla).symm))
       have bb0 : ((i : Int) == (fl : Int) - 1) = false := by simp; omega
       have HLA := hide hla
       clear hla HC
       go_wp2_with fail
       refine (unhide HC2).mono ?_
       rintro r w5 ⟨rfl, h5⟩
       have H5 := hide h5
       clear h5
       go_wp2_with fail
       exact ⟨⟨i + 1, by omega, by go_num, unhide H5⟩, by simp [intOf]; omega⟩
   · have hie : i = p.length := by have := unhide HLN; omega
     have hnlt : ¬ (i : Int) < (fl : Int) := by omega
     have g0 := hN.m.c0
     have g1 := hN.c1
     have g2 := hN.c2
     have hbk := (hN.m.bel.block (w.heap.size + 1) hl2).trans (unhide HN2)
     have u0 := (cell_of_row wr (w.heap.size + 1) 0 _ _ _ hbk).trans rfl
     have u1 := (cell_of_row wr (w.heap.size + 1) 1 _ _ _ hbk).trans rfl
     have u2 := (cell_of_row wr (w.heap.size + 1) 2 _ _ _ hbk).trans rfl
     have v0 := frozen_of_row wr (w.heap.size + 1) 0 _ _ hbk
     have v1 := frozen_of_row wr (w.heap.size + 1) 1 _ _ hbk
     have v2 := frozen_of_row wr (w.heap.size + 1) 2 _ _ hbk
     obtain ⟨ga, ca, e1⟩ := hN.m.slc
     obtain ⟨gb, cb, e2⟩ := Kd.row_slc hN.frow
     obtain ⟨gc, cc, e3⟩ := Kd.row_slc hN.grow
     have HBW := hide ((unhide HB2).trans (hN.m.bel.mono (unhide HB2).size))
     have htl : ts.length = i := by rw [hN.tl]; unfold Kd.szs; rw [List.length_map, List.length_take]; omega
     have hftl := Kd.fto_len (p := p) i
     have HEND := hide (fun (W' : World) (hk : ∀ q, w2.heap.size ≤ q → W'.heap[q]? = wr.heap[q]?) (hb : Below w.heap.size w W') => show PO (.returned (.tuple #[.agg #[rv, fv, gv], .int .i64 0])) W' from by
      have hul := Kd.upto_le (p := p) (i := i) (by omega)
      have hsz : Kd.szs (p.take i) = Kd.szs p := by rw [hie, List.take_of_length_le (Nat.le_refl _)]
      obtain ⟨si, sf, sz, f1, f2, f3, hco⟩ := hN.code hk (by have := unhide HIL; omega) (by omega) (by omega) (by rw [hsz]; exact unhide HSZ)
      rw [f1, f2, f3]
      refine (unhide HPO) W' si sf sz ?_ hb
      rw [(Kd.ins_all (p := p)).1, (Kd.ins_all (p := p)).2, ← hie, ← hsz]
      exact hco)
     subst e1 e2 e3
     generalize (Kd.upto p i).length = n1 at *
     generalize (Kd.fto p i).length = n2 at *
     generalize ts.length = n3 at *
     clear hN hfx hbk hie htl hftl hi hlt
     go_wp2_with fail
     refine bodyPost_ret (v := .tuple #[.agg #[.slice ga n1 ca, .slice gb n2 cb, .slice gc n3 cc], .int .i64 0]) (by simp [results, Try.results4, go_sem, *]) rfl ((unhide HEND) _ (fun q hq => ?_) ?_)
     · have hq' : q ≠ w.heap.size + 1 := by omega
       exact (Kd.set_other hq').trans ((Kd.set_other hq').trans (Kd.set_other hq'))
     · exact (((unhide HBW).setCell (p := ⟨w.heap.size + 1, 0, none⟩) (Nat.le_succ _) _).setCell (p := ⟨w.heap.size + 1, 1, none⟩) (Nat.le_succ _) _).setCell (p := ⟨w.heap.size + 1, 2, none⟩) (Nat.le_succ _) _
end Go.Proofs.Ytpfogjplnodacaa
