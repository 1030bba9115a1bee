/-
  KComp, KBegun, XEvN, XBegun, VSl. By the verifier.
-/
import Derived.Test.YtpfogjplnodacaaGreatLV
import Derived.Test.YtpfogjplnodacaaGreatLG
import Derived.Test.YtpfogjplnodacaaGreatLL
import Derived.Test.YtpfogjplnodacaaGreatLQ
import Derived.Test.YtpfogjplnodacaaGreatLN
import Derived.Deep.LoopGhost
import Derived.Test.YtpfogjplnodacaaGreatLR
set_option maxRecDepth 100000
set_option maxHeartbeats 3200000
namespace Go.Proofs.YtpfogjplnodacaaGreat
open Go.RowKit
set_option linter.unusedVariables false
theorem Kd.ri_own {W : World} {B n c : Nat} {a : Option Addr} {l : List Kd.I} (hl : l.length = n) (hn : n ≤ 100000) (h : W.ownsRow B 54 3 (.slice a n c) n (Kd.cl l)) : Kd.RI W ⟨a, n, c⟩ l := by
 refine ⟨hl.symm, ?_, by omega, fun i x hi => ?_⟩
 · rcases h.2 with ⟨h1, h2⟩ | ⟨g, cap, cur, hv, _, _, hc, _⟩
   · show n ≤ c
     omega
   · cases hv
     exact hc
 · have hin := (List.getElem?_eq_some_iff.1 hi).1
   obtain ⟨g, cap, hv, _, hlt⟩ := h.form (by omega)
   cases hv
   have cc : ∀ j v, x.cl[j]? = some v → W.cell? ⟨g, 0 + i * 3 + j, none⟩ = some v := fun j v hv => by
    have := h.cells (g := g) rfl (i * 3 + j) v (Kd.cl_at l i x j v hi hv)
    rw [Kd.add_at] at this
    rw [Nat.zero_add]
    rw [Nat.zero_add] at this
    exact this
   exact ⟨g, 0, rfl, hlt, cc 0 _ rfl, cc 1 _ rfl, cc 2 _ rfl⟩
theorem Kd.N.code {w0 W W' : World} {bc : Nat} {rv fv gv : Value} {l : List Kd.I} {a : Nat} {fs : List Int} {ts : List Pg.Sl} {ss : List (List Int)} (h : Kd.N w0 W bc rv fv gv l a fs ts ss) (hk : ∀ q, w0.heap.size ≤ q → W'.heap[q]? = W.heap[q]?) (hl : l.length ≤ 100000) (hf : fs.length ≤ 100) (ht : ts.length ≤ 100) (hs : ∀ s ∈ ss, s.length ≤ 600) :
  ∃ si sf sz : Pg.Sl, rv = Kd.sv si ∧ fv = Kd.sv sf ∧ gv = Kd.sv sz ∧ Kd.RCo W' si sf sz l fs ss := by
 obtain ⟨g1, c1, h1⟩ := h.m.slc
 obtain ⟨g2, c2, h2⟩ := Kd.row_slc h.frow
 obtain ⟨g3, c3, h3⟩ := Kd.row_slc h.grow
 subst h1 h2 h3
 have r1 := Kd.ow_kept h.m.row (fun q hq => hk q (h.m.row.lt q hq).1)
 have r2 := Kd.ow_kept h.frow (fun q hq => hk q (h.frow.lt q hq).1)
 have r3 := Kd.ow_kept h.grow (fun q hq => hk q (h.grow.lt q hq).1)
 refine ⟨⟨g1, _, c1⟩, ⟨g2, _, c2⟩, ⟨g3, _, c3⟩, rfl, rfl, rfl, Kd.ri_own rfl (by omega) r1, Kd.rn_own rfl (by omega) r2, h.tl, ?_, by have := h.tl; omega, fun i s hsi => ?_⟩
 · rcases h.grow.2 with ⟨e1, e2⟩ | ⟨g, cap, cur, hv, _, _, hc, _⟩
   · show ts.length ≤ c3
     omega
   · cases hv
     exact hc
 · have hi := (List.getElem?_eq_some_iff.1 hsi).1
   have hti : i < ts.length := by have := h.tl; omega
   obtain ⟨t, htt⟩ : ∃ t, ts[i]? = some t := ⟨_, List.getElem?_eq_getElem hti⟩
   have hz := h.at_ i t s htt hsi
   obtain ⟨g, cap, hv, _, hlt⟩ := r3.form (by omega)
   cases hv
   have hc := r3.cells (g := g) rfl i (Kd.sv t) (by rw [List.getElem?_map, htt]; rfl)
   rw [Kd.add_at] at hc
   have hsl := hs s (List.mem_of_getElem? hsi)
   have hrow := Kd.ow_kept hz.row (fun q hq => hk q (hz.row.lt q hq).1)
   obtain ⟨ta, tn, tc⟩ := t
   have htn : tn = s.length := hz.len
   subst htn
   exact ⟨g, 0, ⟨ta, _, tc⟩, rfl, hlt, hc, Kd.rn_own rfl (by omega) hrow⟩
section
variable {m n : Nat} {p : List (Pg.FT m n)}
def Kd.upto (p : List (Pg.FT m n)) : Nat → List Kd.I
 | 0 => []
 | i + 1 => match p[i]? with
  | none => Kd.upto p i
  | some x => Kd.upto p i ++ Kd.fn (decide (i + 1 = p.length)) x (Kd.upto p i).length (Pg.sumTo (fun f => Pg.cnts f.cmds) p i)
def Kd.fto (p : List (Pg.FT m n)) : Nat → List Int
 | 0 => []
 | i + 1 => Kd.fto p i ++ [((Kd.upto p i).length : Int)]
theorem Kd.upto_succ {i : Nat} {x : Pg.FT m n} (h : p[i]? = some x) : Kd.upto p (i + 1) = Kd.upto p i ++ Kd.fn (decide (i + 1 = p.length)) x (Kd.upto p i).length (Pg.sumTo (fun f => Pg.cnts f.cmds) p i) := by
 show (match p[i]? with | none => _ | some x => _) = _
 rw [h]
theorem Kd.fto_len (i : Nat) : (Kd.fto p i).length = i := by
 induction i with
 | zero => rfl
 | succ i ih => show (Kd.fto p i ++ [_]).length = _; rw [List.length_append, ih]; rfl
theorem Kd.fns_upto : ∀ i, i ≤ p.length → Kd.ins p = Kd.upto p i ++ Kd.fns (p.drop i) (Kd.upto p i).length (Pg.sumTo (fun f => Pg.cnts f.cmds) p i) ∧ Kd.fst p = Kd.fto p i ++ Kd.firsts (p.drop i) (Kd.upto p i).length (Pg.sumTo (fun f => Pg.cnts f.cmds) p i) := by
 intro i
 induction i with
 | zero => intro _; exact ⟨rfl, rfl⟩
 | succ i ih =>
  intro hi
  obtain ⟨h1, h2⟩ := ih (by omega)
  have hx : p[i]? = some p[i] := List.getElem?_eq_getElem (by omega)
  have hd : p.drop i = p[i] :: p.drop (i + 1) := List.drop_eq_getElem_cons (by omega)
  have hl : (p.drop (i + 1)).isEmpty = decide (i + 1 = p.length) := by
   have hlen : (p.drop (i + 1)).length = p.length - (i + 1) := List.length_drop
   cases hr : p.drop (i + 1) with
   | nil => rw [hr] at hlen; simp at hlen; exact (decide_eq_true (by omega)).symm
   | cons y s => rw [hr] at hlen; simp at hlen; exact (decide_eq_false (by omega)).symm
  have hsu := Pg.sumTo_succ (fun f : Pg.FT m n => Pg.cnts f.cmds) p i _ hx
  rw [hd] at h1 h2
  have e1 : Kd.fns (p[i] :: p.drop (i + 1)) (Kd.upto p i).length (Pg.sumTo (fun f => Pg.cnts f.cmds) p i) = Kd.fn (p.drop (i + 1)).isEmpty p[i] (Kd.upto p i).length (Pg.sumTo (fun f => Pg.cnts f.cmds) p i) ++ Kd.fns (p.drop (i + 1)) ((Kd.upto p i).length + (Kd.fn (p.drop (i + 1)).isEmpty p[i] (Kd.upto p i).length (Pg.sumTo (fun f => Pg.cnts f.cmds) p i)).length) (Pg.sumTo (fun f => Pg.cnts f.cmds) p i + Pg.cnts p[i].cmds) := rfl
  have e2 : Kd.firsts (p[i] :: p.drop (i + 1)) (Kd.upto p i).length (Pg.sumTo (fun f => Pg.cnts f.cmds) p i) = (((Kd.upto p i).length : Nat) : Int) :: Kd.firsts (p.drop (i + 1)) ((Kd.upto p i).length + (Kd.fn (p.drop (i + 1)).isEmpty p[i] (Kd.upto p i).length (Pg.sumTo (fun f => Pg.cnts f.cmds) p i)).length) (Pg.sumTo (fun f => Pg.cnts f.cmds) p i + Pg.cnts p[i].cmds) := rfl
  rw [e1, hl] at h1
  rw [e2, hl] at h2
  rw [Kd.upto_succ hx, List.length_append, hsu]
  refine ⟨by rw [h1, List.append_assoc], ?_⟩
  show Kd.fst p = Kd.fto p i ++ [_] ++ _
  rw [h2, List.append_assoc]
  rfl
theorem Kd.ins_all : Kd.ins p = Kd.upto p p.length ∧ Kd.fst p = Kd.fto p p.length := by
 obtain ⟨h1, h2⟩ := Kd.fns_upto (p := p) p.length (Nat.le_refl _)
 rw [List.drop_length] at h1 h2
 exact ⟨h1.trans (List.append_nil _), h2.trans (List.append_nil _)⟩
theorem Kd.upto_le {i : Nat} (hi : i ≤ p.length) : (Kd.upto p i).length ≤ (Kd.ins p).length := by
 rw [(Kd.fns_upto i hi).1, List.length_append]
 omega
theorem Kd.N.new {W : World} (hl : True) : Kd.N W (W.alloc (Obj.cells #[.slice none 0 0, .slice none 0 0, .slice none 0 0, .int .i64 0] 75)) W.heap.size (.slice none 0 0) (.slice none 0 0) (.slice none 0 0) [] 0 [] [] [] := by
 have hn := heap_alloc_new W (Obj.cells #[.slice none 0 0, .slice none 0 0, .slice none 0 0, .int .i64 0] 75)
 have hb := (Below.refl W.heap.size W).alloc (Nat.le_refl _) (Obj.cells #[.slice none 0 0, .slice none 0 0, .slice none 0 0, .int .i64 0] 75)
 have no : ∀ q, (Value.slice none 0 0).ownBlock = some q → False := fun q hq => by cases hq
 exact ⟨⟨hb, Nat.le_refl _, (cell_of_row _ _ 0 _ _ _ hn).trans rfl, (cell_of_row _ _ 3 _ _ _ hn).trans rfl, fun i => frozen_of_row _ _ i _ _ hn, ⟨rfl, .inl ⟨rfl, rfl⟩⟩, fun q hq => (no q hq).elim⟩, (cell_of_row _ _ 1 _ _ _ hn).trans rfl, (cell_of_row _ _ 2 _ _ _ hn).trans rfl, ⟨rfl, .inl ⟨rfl, rfl⟩⟩, ⟨rfl, .inl ⟨rfl, rfl⟩⟩, rfl, fun i t s ht => by simp at ht, fun q hq => (no q hq).elim, fun q hq => (no q hq).elim⟩
structure Kd.Fx (p : List (Pg.FT m n)) (w0 wr : World) (bc i : Nat) : Prop where
 it : ∃ rv fv gv ts, Kd.N w0 wr bc rv fv gv (Kd.upto p i) (Pg.sumTo (fun f => Pg.cnts f.cmds) p i) (Kd.fto p i) ts (Kd.szs (p.take i))
theorem Kd.Fx.next {w0 wr : World} {bc i : Nat} {x : Pg.FT m n} (hx : p[i]? = some x) (h : ∃ rv' fv' gv' ts', Kd.N w0 wr bc rv' fv' gv' (Kd.upto p i ++ Kd.fn (decide (i + 1 = p.length)) x (Kd.upto p i).length (Pg.sumTo (fun f => Pg.cnts f.cmds) p i)) (Pg.sumTo (fun f => Pg.cnts f.cmds) p i + Pg.cnts x.cmds) (Kd.fto p i ++ [((Kd.upto p i).length : Int)]) ts' (Kd.szs (p.take i) ++ [x.sizes])) : Kd.Fx p w0 wr bc (i + 1) := by
 obtain ⟨rv, fv, gv, ts, h1⟩ := h
 refine ⟨rv, fv, gv, ts, ?_⟩
 have e1 : Kd.szs (p.take (i + 1)) = Kd.szs (p.take i) ++ [x.sizes] := by
  obtain ⟨hi, he⟩ := List.getElem?_eq_some_iff.1 hx
  unfold Kd.szs
  rw [List.take_succ_eq_append_getElem hi, he, List.map_append]
  rfl
 rw [Kd.upto_succ hx, Pg.sumTo_succ _ _ _ _ hx, e1]
 exact h1
end
def Kd.CP {m n : Nat} (p : List (Pg.FT m n)) (w : World) : Ending → World → Prop := fun r w' => ∃ si sf sz : Pg.Sl, r = .returned (.tuple #[.agg #[Kd.sv si, Kd.sv sf, Kd.sv sz], .int .i64 (Pg.chkP p : Nat)]) ∧ (Pg.chkP p = 0 → Kd.RCo w' si sf sz (Kd.ins p) (Kd.fst p) (Kd.szs p)) ∧ (Pg.chkP p ≠ 0 → si = ⟨none, 0, 0⟩ ∧ sf = ⟨none, 0, 0⟩ ∧ sz = ⟨none, 0, 0⟩) ∧ Below w.heap.size w w'
theorem Kd.ok_of {m n : Nat} {p : List (Pg.FT m n)} (hc : Pg.chkP p = 0) : (∀ (i : Nat) (x : Pg.FT m n), p[i]? = some x → Pg.wfn p i x = 0) ∧ p.length ≤ 6 ∧ 0 < p.length ∧ (p.map (fun f => Pg.cnts f.cmds)).sum ≤ 40 := by
 unfold Pg.chkP at hc
 split at hc
 · cases hc
 rename_i h1
 split at hc
 · cases hc
 rename_i h2
 split at hc
 · cases hc
 rename_i h3
 refine ⟨fun i x hx => Pg.first_zero hc _ ?_, by omega, by omega, ?_⟩
 · unfold Pg.wfns
   exact List.mem_iff_getElem?.2 ⟨i, by rw [List.getElem?_mapIdx, hx]; rfl⟩
 · unfold Pg.manyP at h3
   rw [Bool.or_eq_true, not_or] at h3
   have := h3.1
   simp at this
   exact this
theorem Kd.sz_le {m n : Nat} {p : List (Pg.FT m n)} (hc : Pg.chkP p = 0) : ∀ s ∈ Kd.szs p, s.length ≤ 600 := by
 intro s hs
 obtain ⟨x, hx, rfl⟩ := List.mem_map.1 hs
 obtain ⟨i, hi⟩ := List.getElem?_of_mem hx
 obtain ⟨w1, _⟩ := Pg.orW_zero (show Pg.orW _ (Pg.orW _ _) = 0 from (Kd.ok_of hc).1 i x hi)
 unfold Pg.whead at w1
 split at w1
 · cases w1
 split at w1
 · cases w1
 omega
theorem Compile_any {m n : Nat} (fs : Pg.Sl) (p : List (Pg.FT m n)) (w : World) (hp : Pg.RP w m n fs p) (hpf : Pg.parFit p) :
  Calls Tryz.prog 13 #[.agg #[.slice fs.ad fs.len fs.cap]] w (Kd.CP p w) := by
 have hb0 : Below w.heap.size w ((w.alloc (Obj.cells #[.slice fs.ad fs.len fs.cap] 40)).alloc (Obj.cells #[.slice none 0 0, .slice none 0 0, .slice none 0 0] 26)) := ((Below.refl w.heap.size w).alloc (Nat.le_refl _) _).alloc (by simp) _
 have q0 : ((w.alloc (Obj.cells #[.slice fs.ad fs.len fs.cap] 40)).alloc (Obj.cells #[.slice none 0 0, .slice none 0 0, .slice none 0 0] 26)).cell? ⟨w.heap.size, 0, none⟩ = some (.slice fs.ad fs.len fs.cap) := by go_simp
 have hn1 := heap_alloc_new (w.alloc (Obj.cells #[.slice fs.ad fs.len fs.cap] 40)) (Obj.cells #[.slice none 0 0, .slice none 0 0, .slice none 0 0] 26)
 have hsz : (w.alloc (Obj.cells #[.slice fs.ad fs.len fs.cap] 40)).heap.size = w.heap.size + 1 := by simp
 rw [hsz] at hn1
 have HCK := hide (Check_any fs p _ (Pg.RP.later hp hb0 (Nat.le_refl _)) hpf)
 have HB0 := hide hb0
 have HP := hide (fun (V : World) (hV : Below w.heap.size w V) => Pg.RP.later hp hV (Nat.le_refl _))
 have HN1 := hide hn1
 have hlen := hp.len
 have HLN := hide hlen
 clear hp hpf hb0 hsz hn1 hlen
 go_enter Tryz.func13, Tryz.ntmps13
 go_wp2_with fail
 generalize ((w.alloc (Obj.cells #[.slice fs.ad fs.len fs.cap] 40)).alloc (Obj.cells #[.slice none 0 0, .slice none 0 0, .slice none 0 0] 26)) = W1 at *
 refine (unhide HCK).mono ?_
 rintro r w2 ⟨rfl, hb2⟩
 have hbl := World.block_lt_of_cell? _ _ q0
 have hl1 : w.heap.size + 1 < W1.heap.size := (Array.getElem?_eq_some_iff.1 (unhide HN1)).1
 have q2 := (hb2.cell (p := ⟨w.heap.size, 0, none⟩) hbl).trans q0
 have hn2 := (hb2.block (w.heap.size + 1) hl1).trans (unhide HN1)
 have u0 := (cell_of_row w2 (w.heap.size + 1) 0 _ _ _ hn2).trans rfl
 have u1 := (cell_of_row w2 (w.heap.size + 1) 1 _ _ _ hn2).trans rfl
 have u2 := (cell_of_row w2 (w.heap.size + 1) 2 _ _ _ hn2).trans rfl
 have v0 := frozen_of_row w2 (w.heap.size + 1) 0 _ _ hn2
 have v1 := frozen_of_row w2 (w.heap.size + 1) 1 _ _ hn2
 have v2 := frozen_of_row w2 (w.heap.size + 1) 2 _ _ hn2
 have HB2 := hide ((unhide HB0).trans (hb2.mono (unhide HB0).size))
 have hl2 : w.heap.size + 1 < w2.heap.size := Nat.lt_of_lt_of_le hl1 hb2.size
 have HN2 := hide hn2
 clear hb2 q0 hbl hl1 hn2 HB0 HN1
 by_cases hc : Pg.chkP p = 0
 case neg =>
  have HPO := hide (show ∀ w' : World, Below w.heap.size w w' → Kd.CP p w (.returned (.tuple #[.agg #[.slice none 0 0, .slice none 0 0, .slice none 0 0], .int .i64 (Pg.chkP p : Nat)])) w' from fun w' h => ⟨⟨none, 0, 0⟩, ⟨none, 0, 0⟩, ⟨none, 0, 0⟩, rfl, fun h => absurd h hc, fun _ => ⟨rfl, rfl, rfl⟩, h⟩)
  generalize Kd.CP p w = PO at *
  generalize Pg.chkP p = CK at *
  have bc0 : (((CK : Nat) : Int) != 0) = true := by simp; exact hc
  clear hc
  go_wp2_with fail
  refine bodyPost_ret (v := .tuple #[.agg #[.slice none 0 0, .slice none 0 0, .slice none 0 0], .int .i64 (CK : Nat)]) (by simp [results, Tryz.results13, go_sem, *]) rfl ((unhide HPO) _ ?_)
  exact (((unhide HB2).setCell (p := ⟨w.heap.size + 1, 0, none⟩) (Nat.le_succ _) _).setCell (p := ⟨w.heap.size + 1, 1, none⟩) (Nat.le_succ _) _).setCell (p := ⟨w.heap.size + 1, 2, none⟩) (Nat.le_succ _) _
 case pos =>
  obtain ⟨hok, hp6, hp0, hcn⟩ := Kd.ok_of hc
  obtain ⟨hch, hil⟩ := Kd.compiled hc
  have HSZ := hide (Kd.sz_le hc)
  have HRP := hide ((unhide HP) w2 (unhide HB2))
  have HPO := hide (show ∀ (w' : World) (si sf sz : Pg.Sl), Kd.RCo w' si sf sz (Kd.ins p) (Kd.fst p) (Kd.szs p) → Below w.heap.size w w' → Kd.CP p w (.returned (.tuple #[.agg #[Kd.sv si, Kd.sv sf, Kd.sv sz], .int .i64 0])) w' from fun w' si sf sz h1 h2 => ⟨si, sf, sz, by rw [hc]; rfl, fun _ => h1, fun h => absurd hc h, h2⟩)
  have HOK := hide hok
  have HCN := hide hcn
  have HIL := hide hil
  generalize Kd.CP p w = PO at *
  rw [hc, show (((0 : Nat)) : Int) = 0 from rfl]
  have hfl : fs.len ≤ 6 := by have := unhide HLN; omega
  have HF0 := hide (show Kd.Fx p w2 (w2.alloc (Obj.cells #[.slice none 0 0, .slice none 0 0, .slice none 0 0, .int .i64 0] 75)) w2.heap.size 0 from ⟨_, _, _, _, Kd.N.new trivial⟩)
  have q3 : (w2.alloc (Obj.cells #[.slice none 0 0, .slice none 0 0, .slice none 0 0, .int .i64 0] 75)).cell? ⟨w.heap.size, 0, none⟩ = some (.slice fs.ad fs.len fs.cap) := Kd.cell_alloc q2
  have hbl2 := World.block_lt_of_cell? _ _ q2
  have hwl : w.heap.size ≤ w2.heap.size := (unhide HB2).size
  clear hc hok hcn hch hil hp0 u0 u1 u2 v0 v1 v2
  obtain ⟨fa, fl, fc⟩ := fs
  dsimp only at *
  go_wp2_with fail
  go_loopw [17] (fun iv wr => ∃ i : Nat, i ≤ fl ∧ iv = .int .i64 i ∧ Kd.Fx p w2 wr w2.heap.size i) (fun iv _ => fl - (intOf iv).toNat)
  case atStart => exact ⟨0, Nat.zero_le _, rfl, unhide HF0⟩
  case round =>
   obtain ⟨i, hi, rfl, hfx⟩ := hrel
   obtain ⟨rv, fv, gv, ts, hN⟩ := hfx.it
   by_cases hlt : i < fl
   · have hlt2 : i < p.length := by have := unhide HLN; omega
     have hy := List.getElem?_eq_getElem hlt2
     obtain ⟨bb, o, cc, had, hbb, hlies, hrd⟩ := (unhide HRP).at_ i _ hy
     obtain ⟨p0, p1, p2, p3, p4, p5⟩ := hlies.later hN.m.bel (Nat.le_refl _) hbb
     have hwf := (unhide HOK) i _ hy
     have hsu := Pg.sumTo_succ (fun f : Pg.FT m n => Pg.cnts f.cmds) p i _ hy
     have hsa := Pg.sumTo_le (fun f : Pg.FT m n => Pg.cnts f.cmds) p (i + 1) (by omega)
     have hul := Kd.upto_le (p := p) (i := i + 1) (by omega)
     rw [Kd.upto_succ hy, List.length_append] at hul
     have HY := hide hy
     generalize p[i] = y at *
     have hal := (Below.refl wr.heap.size wr).alloc (Nat.le_refl _) (Obj.cells #[.int .i64 cc.params, .slice cc.sizes.ad cc.sizes.len cc.sizes.cap, .slice cc.cmds.ad cc.cmds.len cc.cmds.cap, .int .i64 cc.res.k, .int .i64 cc.res.n, .slice cc.res.args.ad cc.res.args.len cc.res.args.cap] 78)
     have s0 := (hN.m.bel.cell (p := ⟨w.heap.size, 0, none⟩) hbl2).trans q2
     have s1 : (wr.alloc (Obj.cells #[.int .i64 cc.params, .slice cc.sizes.ad cc.sizes.len cc.sizes.cap, .slice cc.cmds.ad cc.cmds.len cc.cmds.cap, .int .i64 cc.res.k, .int .i64 cc.res.n, .slice cc.res.args.ad cc.res.args.len cc.res.args.cap] 78)).cell? ⟨w.heap.size, 0, none⟩ = some (.slice fa fl fc) := Kd.cell_alloc s0
     have htl : ts.length = i := by rw [hN.tl]; unfold Kd.szs; rw [List.length_map, List.length_take]; omega
     have hftl := Kd.fto_len (p := p) i
     have HC := hide (fun (b : Bool) (hb : b = decide (i + 1 = p.length)) => show Calls Tryz.prog 28 #[.pointer (some ⟨w2.heap.size, 0, none⟩), .agg #[.int .i64 cc.params, .slice cc.sizes.ad cc.sizes.len cc.sizes.cap, .slice cc.cmds.ad cc.cmds.len cc.cmds.cap, .int .i64 cc.res.k, .int .i64 cc.res.n, .slice cc.res.args.ad cc.res.args.len cc.res.args.cap], .bool b] (wr.alloc (Obj.cells #[.int .i64 cc.params, .slice cc.sizes.ad cc.sizes.len cc.sizes.cap, .slice cc.cmds.ad cc.cmds.len cc.cmds.cap, .int .i64 cc.res.k, .int .i64 cc.res.n, .slice cc.res.args.ad cc.res.args.len cc.res.args.cap] 78)) (fun r W' => r = .returned (.tuple #[]) ∧ Kd.Fx p w2 W' w2.heap.size (i + 1)) from by
      subst hb
      refine (kfn_any (p := p) (q := i) hwf cc _ rv fv gv _ _ _ ts _ hrd (hN.below hal) _ rfl (by have := unhide HIL; omega) (by have := unhide HCN; omega) (by omega) (by omega)).mono ?_
      rintro r W' ⟨rfl, h⟩
      exact ⟨rfl, Kd.Fx.next (unhide HY) h⟩)
     have had' : fa = some ⟨bb, o, none⟩ := had
     have HLP := hide (show fl = p.length from unhide HLN)
     have hi0' : (0 : Int) ≤ (i : Int) := by omega
     have hi1' : (i : Int) < (fl : Int) := by omega
     have hw1 : IntKind.i64.wrap ((fl : Int) - 1) = (fl : Int) - 1 := by rw [IntKind.wrap_i64]; omega
     clear hy hbb hlies hrd had hlt2 hal hN hfx hwf hsu hsa hul htl hftl s0
     subst had'
     by_cases hla : i + 1 = fl
     · have HC2 := hide ((unhide HC) true (by rw [← unhide HLP]; exact (decide_eq_true hla).symm))
       have bb0 : ((i : Int) == (fl : Int) - 1) = true := by simp; omega
       have HLA := hide hla
       clear hla HC
       go_wp2_with fail
       refine (unhide HC2).mono ?_
       rintro r w5 ⟨rfl, h5⟩
       have H5 := hide h5
       clear h5
       go_wp2_with fail
       exact ⟨⟨i + 1, by omega, by go_num, unhide H5⟩, by simp [intOf]; omega⟩
     · have HC2 := hide ((unhide HC) false (by rw [← unhide HLP]; exact (decide_eq_false hla).symm))
       have bb0 : ((i : Int) == (fl : Int) - 1) = false := by simp; omega
       have HLA := hide hla
       clear hla HC
       go_wp2_with fail
       refine (unhide HC2).mono ?_
       rintro r w5 ⟨rfl, h5⟩
       have H5 := hide h5
       clear h5
       go_wp2_with fail
       exact ⟨⟨i + 1, by omega, by go_num, unhide H5⟩, by simp [intOf]; omega⟩
   · have hie : i = p.length := by have := unhide HLN; omega
     have hnlt : ¬ (i : Int) < (fl : Int) := by omega
     have g0 := hN.m.c0
     have g1 := hN.c1
     have g2 := hN.c2
     have hbk := (hN.m.bel.block (w.heap.size + 1) hl2).trans (unhide HN2)
     have u0 := (cell_of_row wr (w.heap.size + 1) 0 _ _ _ hbk).trans rfl
     have u1 := (cell_of_row wr (w.heap.size + 1) 1 _ _ _ hbk).trans rfl
     have u2 := (cell_of_row wr (w.heap.size + 1) 2 _ _ _ hbk).trans rfl
     have v0 := frozen_of_row wr (w.heap.size + 1) 0 _ _ hbk
     have v1 := frozen_of_row wr (w.heap.size + 1) 1 _ _ hbk
     have v2 := frozen_of_row wr (w.heap.size + 1) 2 _ _ hbk
     obtain ⟨ga, ca, e1⟩ := hN.m.slc
     obtain ⟨gb, cb, e2⟩ := Kd.row_slc hN.frow
     obtain ⟨gc, cc, e3⟩ := Kd.row_slc hN.grow
     have HBW := hide ((unhide HB2).trans (hN.m.bel.mono (unhide HB2).size))
     have htl : ts.length = i := by rw [hN.tl]; unfold Kd.szs; rw [List.length_map, List.length_take]; omega
     have hftl := Kd.fto_len (p := p) i
     have HEND := hide (fun (W' : World) (hk : ∀ q, w2.heap.size ≤ q → W'.heap[q]? = wr.heap[q]?) (hb : Below w.heap.size w W') => show PO (.returned (.tuple #[.agg #[rv, fv, gv], .int .i64 0])) W' from by
      have hul := Kd.upto_le (p := p) (i := i) (by omega)
      have hsz : Kd.szs (p.take i) = Kd.szs p := by rw [hie, List.take_of_length_le (Nat.le_refl _)]
      obtain ⟨si, sf, sz, f1, f2, f3, hco⟩ := hN.code hk (by have := unhide HIL; omega) (by omega) (by omega) (by rw [hsz]; exact unhide HSZ)
      rw [f1, f2, f3]
      refine (unhide HPO) W' si sf sz ?_ hb
      rw [(Kd.ins_all (p := p)).1, (Kd.ins_all (p := p)).2, ← hie, ← hsz]
      exact hco)
     subst e1 e2 e3
     generalize (Kd.upto p i).length = n1 at *
     generalize (Kd.fto p i).length = n2 at *
     generalize ts.length = n3 at *
     clear hN hfx hbk hie htl hftl hi hlt
     go_wp2_with fail
     refine bodyPost_ret (v := .tuple #[.agg #[.slice ga n1 ca, .slice gb n2 cb, .slice gc n3 cc], .int .i64 0]) (by simp [results, Tryz.results13, go_sem, *]) rfl ((unhide HEND) _ (fun q hq => ?_) ?_)
     · have hq' : q ≠ w.heap.size + 1 := by omega
       exact (Kd.set_other hq').trans ((Kd.set_other hq').trans (Kd.set_other hq'))
     · exact (((unhide HBW).setCell (p := ⟨w.heap.size + 1, 0, none⟩) (Nat.le_succ _) _).setCell (p := ⟨w.heap.size + 1, 1, none⟩) (Nat.le_succ _) _).setCell (p := ⟨w.heap.size + 1, 2, none⟩) (Nat.le_succ _) _
end Go.Proofs.YtpfogjplnodacaaGreat
namespace Go.Proofs.YtpfogjplnodacaaGreat
open Go.RowKit
set_option linter.unusedVariables false
theorem Kd.small_chk : Pg.chkP Xr.small = 0 := by kernel_rfl
theorem Kd.small_fst : (Kd.fst Xr.small).length = 1 := by kernel_rfl
theorem codeBegun_any (w : World) :
  Calls Tryz.prog 11 #[] w fun r w' => r = .returned (.bool true) ∧ Below w.heap.size w w' := by
 go_enter Tryz.func11, Tryz.ntmps11
 go_wp2_with fail
 refine (small_any w).mono ?_
 rintro r w1 ⟨g, rfl, hp, hb1⟩
 have HB1 := hide hb1
 have HCO := hide (Compile_any ⟨some ⟨g, 0, none⟩, 1, 1⟩ Xr.small w1 hp Xr.small_fit)
 clear hp hb1
 go_wp2_with fail
 refine (unhide HCO).mono ?_
 rintro r w2 ⟨si, sf, sz, rfl, hco, _, hb2⟩
 have hco2 := hco Kd.small_chk
 have hf1 : sf.len = 1 := by rw [hco2.fst.len]; exact Kd.small_fst
 obtain ⟨ia, il, ic⟩ := si
 obtain ⟨fa, fl, fc⟩ := sf
 obtain ⟨sa, sl, sc⟩ := sz
 dsimp only at hf1
 subst hf1
 rw [Kd.small_chk, show (((0 : Nat)) : Int) = 0 from rfl]
 have hal := (Below.refl w2.heap.size w2).alloc (Nat.le_refl _) (Obj.cells #[.slice ia il ic, .slice fa 1 fc, .slice sa sl sc] 26)
 have HK := hide (show Calls Tryz.prog 16 #[.agg #[.slice ia il ic, .slice fa 1 fc, .slice sa sl sc]] (w2.alloc (Obj.cells #[.slice ia il ic, .slice fa 1 fc, .slice sa sl sc] 26)) (fun r w' => r = .returned (.int .i64 0) ∧ Below (w2.alloc (Obj.cells #[.slice ia il ic, .slice fa 1 fc, .slice sa sl sc] 26)).heap.size (w2.alloc (Obj.cells #[.slice ia il ic, .slice fa 1 fc, .slice sa sl sc] 26)) w') from by
  have h := kCheck_any ⟨ia, il, ic⟩ ⟨fa, 1, fc⟩ ⟨sa, sl, sc⟩ _ _ _ _ (hco2.later hal (Nat.le_refl _))
  rw [(Kd.compiled Kd.small_chk).1] at h
  exact h)
 have hn := heap_alloc_new w2 (Obj.cells #[.slice ia il ic, .slice fa 1 fc, .slice sa sl sc] 26)
 have HN := hide hn
 have HB2 := hide ((unhide HB1).trans (hb2.mono (unhide HB1).size))
 have HB3 := hide ((unhide HB2).trans (hal.mono (unhide HB2).size))
 have hlt : w2.heap.size < (w2.alloc (Obj.cells #[.slice ia il ic, .slice fa 1 fc, .slice sa sl sc] 26)).heap.size := by simp
 clear hco hco2 hb2 hal hn
 unfold Kd.sv
 go_wp2_with fail
 refine (unhide HK).mono ?_
 rintro r w4 ⟨rfl, hb4⟩
 have hn4 := (hb4.block w2.heap.size hlt).trans (unhide HN)
 have u1 := (cell_of_row w4 w2.heap.size 1 _ _ _ hn4).trans rfl
 have HB4 := hide ((unhide HB3).trans (hb4.mono (unhide HB3).size))
 clear hb4 hn4
 go_wp2_with fail
 go_ret
 exact ⟨rfl, unhide HB4⟩
end Go.Proofs.YtpfogjplnodacaaGreat
namespace Go.Proofs.YtpfogjplnodacaaGreat
open Go.RowKit
set_option linter.unusedVariables false
theorem renamed_four (V : World) (bl : Nat) :
  Calls Tryz.prog 94 #[.agg #[.int .i64 1, .int .i64 4, .slice none 0 0], .slice none 0 0, .pointer (some ⟨bl, 0, none⟩)] V fun r w' => r = .returned (.agg #[.int .i64 1, .int .i64 4, .slice none 0 0]) ∧ Below V.heap.size V w' := by
 have HB := hide ((((Below.refl V.heap.size V).alloc (Nat.le_refl _) (Obj.cells #[.int .i64 1, .int .i64 4, .slice none 0 0] 69)).alloc (by simp) (Obj.cells #[.int .i64 0, .int .i64 0, .slice none 0 0] 69)).alloc (by simp; omega) (Obj.cells #[.int .i64 1, .int .i64 4, .slice none 0 0] 69))
 go_enter Tryz.func94, Tryz.ntmps94
 go_wp2_with fail
 go_loopw [31] (fun iv wr => iv = .int .i64 0 ∧ wr = _) (fun _ _ => 0)
 case atStart => exact ⟨rfl, rfl⟩
 case round =>
  obtain ⟨rfl, rfl⟩ := hrel
  go_wp2_with fail
  refine bodyPost_ret (v := .agg #[.int .i64 1, .int .i64 4, .slice none 0 0]) (by simp [results, Tryz.results94, go_sem]) rfl ⟨rfl, ?_⟩
  exact (((Below.refl V.heap.size V).alloc (Nat.le_refl _) _).alloc (by simp) _).alloc (by simp; omega) _
def Xr.prt4 : List (Pg.FT 1 1) := [⟨0, [0, 1], [((5, 0, 0), (((0, 0), []), ((1, 4), []), []), ([], []))], ((0, 0), [])⟩]
theorem Xr.prt4_chk : Pg.chkP Xr.prt4 = 0 := by kernel_rfl
theorem Xr.prt4_fit : Pg.parFit Xr.prt4 := by
 intro x hx
 simp only [Xr.prt4, List.mem_cons, List.not_mem_nil, or_false] at hx
 subst hx
 show (0 : Int) ≤ 9223372036854775807
 omega
theorem formOf_four (w : World) :
  Calls Tryz.prog 50 #[.agg #[.int .i64 1, .int .i64 4, .slice none 0 0], .slice none 0 0] w fun r w' => r = .returned (.int .i64 ((0 : Nat) : Int)) ∧ Below w.heap.size w w' := by
 have hb3 := (((Below.refl w.heap.size w).alloc (Nat.le_refl _) (Obj.cells #[.int .i64 1, .int .i64 4, .slice none 0 0] 69)).alloc (by simp) (Obj.cells #[.int .i64 15] 3)).alloc (by simp; omega) (Obj.cells #[.int .i64 0, .int .i64 1] 3)
 have hs3 : (((w.alloc (Obj.cells #[.int .i64 1, .int .i64 4, .slice none 0 0] 69)).alloc (Obj.cells #[.int .i64 15] 3)).alloc (Obj.cells #[.int .i64 0, .int .i64 1] 3)).heap.size = w.heap.size + 3 := by simp
 have q0 : (((w.alloc (Obj.cells #[.int .i64 1, .int .i64 4, .slice none 0 0] 69)).alloc (Obj.cells #[.int .i64 15] 3)).alloc (Obj.cells #[.int .i64 0, .int .i64 1] 3)).cell? ⟨w.heap.size + 2, 0, none⟩ = some (.int .i64 0) := by go_simp
 have q1 : (((w.alloc (Obj.cells #[.int .i64 1, .int .i64 4, .slice none 0 0] 69)).alloc (Obj.cells #[.int .i64 15] 3)).alloc (Obj.cells #[.int .i64 0, .int .i64 1] 3)).cell? ⟨w.heap.size + 2, 1, none⟩ = some (.int .i64 1) := by go_simp
 have HRN := hide (renamed_four (((w.alloc (Obj.cells #[.int .i64 1, .int .i64 4, .slice none 0 0] 69)).alloc (Obj.cells #[.int .i64 15] 3)).alloc (Obj.cells #[.int .i64 0, .int .i64 1] 3)) (w.heap.size + 1))
 have HB3 := hide hb3
 clear hb3
 go_enter Tryz.func50, Tryz.ntmps50
 go_wp2_with fail
 generalize (((w.alloc (Obj.cells #[.int .i64 1, .int .i64 4, .slice none 0 0] 69)).alloc (Obj.cells #[.int .i64 15] 3)).alloc (Obj.cells #[.int .i64 0, .int .i64 1] 3)) = W3 at *
 refine (unhide HRN).mono ?_
 rintro r w4 ⟨rfl, hb4⟩
 clear HRN
 have hz4 := hb4.size
 have hbV := (((Below.refl w4.heap.size w4).alloc (Nat.le_refl _) (Obj.cells #[.int .i64 5, .int .i64 0, .int .i64 0, .int .i64 0, .int .i64 0, .slice none 0 0, .int .i64 1, .int .i64 4, .slice none 0 0, .slice none 0 0, .slice none 0 0, .slice none 0 0] 107)).alloc (by simp) (Obj.cells #[.int .i64 0, .slice (some ⟨w.heap.size + 1 + 1, 0, none⟩) 2 2, .slice (some ⟨w4.heap.size, 0, none⟩) 1 1, .int .i64 0, .int .i64 0, .slice none 0 0] 78)).alloc (by simp; omega) (Obj.cells #[.int .i64 0, .slice (some ⟨w.heap.size + 1 + 1, 0, none⟩) 2 2, .slice (some ⟨w4.heap.size, 0, none⟩) 1 1, .int .i64 0, .int .i64 0, .slice none 0 0] 78)
 have hk := hb4.block (w.heap.size + 2) (by omega)
 have r0 := (hbV.cell (p := ⟨w.heap.size + 2, 0, none⟩) (by show w.heap.size + 2 < w4.heap.size; omega)).trans ((Xr.cell_kept hk 0).trans q0)
 have r1 := (hbV.cell (p := ⟨w.heap.size + 2, 1, none⟩) (by show w.heap.size + 2 < w4.heap.size; omega)).trans ((Xr.cell_kept hk 1).trans q1)
 have hsV : (((w4.alloc (Obj.cells #[.int .i64 5, .int .i64 0, .int .i64 0, .int .i64 0, .int .i64 0, .slice none 0 0, .int .i64 1, .int .i64 4, .slice none 0 0, .slice none 0 0, .slice none 0 0, .slice none 0 0] 107)).alloc (Obj.cells #[.int .i64 0, .slice (some ⟨w.heap.size + 1 + 1, 0, none⟩) 2 2, .slice (some ⟨w4.heap.size, 0, none⟩) 1 1, .int .i64 0, .int .i64 0, .slice none 0 0] 78)).alloc (Obj.cells #[.int .i64 0, .slice (some ⟨w.heap.size + 1 + 1, 0, none⟩) 2 2, .slice (some ⟨w4.heap.size, 0, none⟩) 1 1, .int .i64 0, .int .i64 0, .slice none 0 0] 78)).heap.size = w4.heap.size + 3 := by simp
 have HBV := hide (show Below w.heap.size w (((w4.alloc (Obj.cells #[.int .i64 5, .int .i64 0, .int .i64 0, .int .i64 0, .int .i64 0, .slice none 0 0, .int .i64 1, .int .i64 4, .slice none 0 0, .slice none 0 0, .slice none 0 0, .slice none 0 0] 107)).alloc (Obj.cells #[.int .i64 0, .slice (some ⟨w.heap.size + 1 + 1, 0, none⟩) 2 2, .slice (some ⟨w4.heap.size, 0, none⟩) 1 1, .int .i64 0, .int .i64 0, .slice none 0 0] 78)).alloc (Obj.cells #[.int .i64 0, .slice (some ⟨w.heap.size + 1 + 1, 0, none⟩) 2 2, .slice (some ⟨w4.heap.size, 0, none⟩) 1 1, .int .i64 0, .int .i64 0, .slice none 0 0] 78)) from ((unhide HB3).trans (hb4.mono (unhide HB3).size)).trans (hbV.mono (by omega)))
 have HCK := hide (show Calls Tryz.prog 27 #[.agg #[.slice (some ⟨w4.heap.size + 1 + 1, 0, none⟩) 1 1]] (((w4.alloc (Obj.cells #[.int .i64 5, .int .i64 0, .int .i64 0, .int .i64 0, .int .i64 0, .slice none 0 0, .int .i64 1, .int .i64 4, .slice none 0 0, .slice none 0 0, .slice none 0 0, .slice none 0 0] 107)).alloc (Obj.cells #[.int .i64 0, .slice (some ⟨w.heap.size + 1 + 1, 0, none⟩) 2 2, .slice (some ⟨w4.heap.size, 0, none⟩) 1 1, .int .i64 0, .int .i64 0, .slice none 0 0] 78)).alloc (Obj.cells #[.int .i64 0, .slice (some ⟨w.heap.size + 1 + 1, 0, none⟩) 2 2, .slice (some ⟨w4.heap.size, 0, none⟩) 1 1, .int .i64 0, .int .i64 0, .slice none 0 0] 78)) _ from Check_any ⟨some ⟨w4.heap.size + 1 + 1, 0, none⟩, 1, 1⟩ Xr.prt4 (((w4.alloc (Obj.cells #[.int .i64 5, .int .i64 0, .int .i64 0, .int .i64 0, .int .i64 0, .slice none 0 0, .int .i64 1, .int .i64 4, .slice none 0 0, .slice none 0 0, .slice none 0 0, .slice none 0 0] 107)).alloc (Obj.cells #[.int .i64 0, .slice (some ⟨w.heap.size + 1 + 1, 0, none⟩) 2 2, .slice (some ⟨w4.heap.size, 0, none⟩) 1 1, .int .i64 0, .int .i64 0, .slice none 0 0] 78)).alloc (Obj.cells #[.int .i64 0, .slice (some ⟨w.heap.size + 1 + 1, 0, none⟩) 2 2, .slice (some ⟨w4.heap.size, 0, none⟩) 1 1, .int .i64 0, .int .i64 0, .slice none 0 0] 78)) ⟨rfl, Nat.le_refl _, by show 1 ≤ 35184372088832; omega, fun i y hy => by
  match i, hy with
  | 0, hy =>
   cases hy
   refine ⟨w4.heap.size + 1 + 1, 0, ⟨0, ⟨some ⟨w.heap.size + 1 + 1, 0, none⟩, 2, 2⟩, ⟨some ⟨w4.heap.size, 0, none⟩, 1, 1⟩, ⟨0, 0, ⟨none, 0, 0⟩⟩⟩, rfl, by simp, ⟨by go_simp, by go_simp, by go_simp, by go_simp, by go_simp, by go_simp⟩, ⟨rfl, ⟨rfl, Nat.le_refl _, by simp, fun j z hz => ?_⟩, ⟨rfl, Nat.le_refl _, by show 1 ≤ 35184372088832; omega, fun j z hz => ?_⟩, ⟨⟨rfl, rfl⟩, Pg.RS.none _ _ _ _⟩⟩⟩
   · match j, hz with
     | 0, hz => cases hz; exact ⟨w.heap.size + 1 + 1, 0, rfl, by omega, r0⟩
     | 1, hz => cases hz; exact ⟨w.heap.size + 1 + 1, 0, rfl, by omega, r1⟩
     | _ + 2, hz => simp at hz
   · match j, hz with
     | 0, hz =>
      cases hz
      exact ⟨w4.heap.size, 0, ⟨5, 0, 0, ⟨0, 0, ⟨none, 0, 0⟩⟩, ⟨1, 4, ⟨none, 0, 0⟩⟩, ⟨none, 0, 0⟩, ⟨none, 0, 0⟩, ⟨none, 0, 0⟩⟩, rfl, by omega, ⟨by go_simp, by go_simp, by go_simp, by go_simp, by go_simp, by go_simp, by go_simp, by go_simp, by go_simp, by go_simp, by go_simp, by go_simp⟩, ⟨rfl, rfl, rfl⟩, ⟨⟨⟨rfl, rfl⟩, Pg.RS.none _ _ _ _⟩, ⟨⟨rfl, rfl⟩, Pg.RS.none _ _ _ _⟩, Pg.RS.none _ _ _ _⟩, Pg.RS.none _ _ _ _, Pg.RS.none _ _ _ _⟩
     | _ + 1, hz => cases hz
  | _ + 1, hy => simp [Xr.prt4] at hy⟩ Xr.prt4_fit)
 rw [Xr.prt4_chk] at HCK
 clear hk r0 r1 hsV hz4 hbV q0 q1 hs3 HB3 hb4
 go_wp2_with fail
 refine (unhide HCK).mono ?_
 rintro r w5 ⟨rfl, hb5⟩
 have HB5 := hide ((unhide HBV).trans (hb5.mono (unhide HBV).size))
 clear hb5
 go_wp2_with fail
 go_ret
 exact ⟨rfl, unhide HB5⟩
theorem Eval_four (w : World) :
  Calls Tryz.prog 24 #[.agg #[.int .i64 1, .int .i64 4, .slice none 0 0], .slice none 0 0] w fun r w' => r = .returned (.tuple #[.int .i64 4, .int .i64 0, .int .i64 0]) ∧ Below w.heap.size w w' := by
 have hb1 := (Below.refl w.heap.size w).alloc (Nat.le_refl _) (Obj.cells #[.int .i64 1, .int .i64 4, .slice none 0 0] 69)
 have l0 : (w.alloc (Obj.cells #[.int .i64 1, .int .i64 4, .slice none 0 0] 69)).cell? ⟨w.heap.size, 0, none⟩ = some (.int .i64 1) := by go_simp
 have l1 : (w.alloc (Obj.cells #[.int .i64 1, .int .i64 4, .slice none 0 0] 69)).cell? ⟨w.heap.size, 1, none⟩ = some (.int .i64 4) := by go_simp
 have l2 : (w.alloc (Obj.cells #[.int .i64 1, .int .i64 4, .slice none 0 0] 69)).cell? ⟨w.heap.size, 2, none⟩ = some (.slice none 0 0) := by go_simp
 have HB1 := hide hb1
 have HRK := hide (fun (V : World) => show Calls Tryz.prog 53 #[.agg #[.int .i64 1, .int .i64 4, .slice none 0 0], .slice none 0 0] V fun r w' => r = .returned (.tuple #[.int .i64 4, .int .i64 0]) ∧ Below V.heap.size V w' from by
  have h := reckon_any none 0 0 [] 1 ⟨1, 4, ⟨none, 0, 0⟩⟩ ((1, 4), []) V ⟨⟨rfl, rfl⟩, Pg.RS.none _ _ _ _⟩ ⟨rfl, Nat.le_refl _, by simp, fun i l hl => by simp at hl⟩ (by simp [Pg.okV, Pg.argsN])
  rw [show Pg.val ([] : List (List Int)) 1 (((1, 4), []) : Pg.XT 1) = (4, 0) by kernel_rfl] at h
  exact h)
 clear hb1
 go_enter Tryz.func24, Tryz.ntmps24
 go_wp2_with fail
 generalize w.alloc (Obj.cells #[.int .i64 1, .int .i64 4, .slice none 0 0] 69) = W1 at *
 refine (formOf_four _).mono ?_
 rintro r w2 ⟨rfl, hb2⟩
 have hlt := World.block_lt_of_cell? _ _ l0
 have m0 := (hb2.cell (p := ⟨w.heap.size, 0, none⟩) hlt).trans l0
 have m1 := (hb2.cell (p := ⟨w.heap.size, 1, none⟩) hlt).trans l1
 have m2 := (hb2.cell (p := ⟨w.heap.size, 2, none⟩) hlt).trans l2
 have HB2 := hide ((unhide HB1).trans (hb2.mono (unhide HB1).size))
 clear hb2 hlt l0 l1 l2 HB1
 go_wp2_with fail
 refine (show Calls Tryz.prog 51 #[.slice none 0 0, .func (.func 52) #[] #[]] w2 _ from evalBeyond_contains ⟨none, 0, 0⟩ [] w2 ⟨rfl, Nat.le_refl _, by simp, fun i l hl => by simp at hl⟩).mono ?_
 rintro r w3 ⟨rfl, hw3⟩
 obtain rfl : w2 = w3 := hw3.symm
 go_wp2_with fail
 refine ((unhide HRK) _).mono ?_
 rintro r w4 ⟨rfl, hb4⟩
 have HB4 := hide ((unhide HB2).trans (hb4.mono (unhide HB2).size))
 clear hb4
 go_wp2_with fail
 refine bodyPost_ret (v := .tuple #[.int .i64 4, .int .i64 0, .int .i64 0]) (by simp [results, Tryz.results24, go_sem]) rfl ⟨rfl, unhide HB4⟩
end Go.Proofs.YtpfogjplnodacaaGreat
namespace Go.Proofs.YtpfogjplnodacaaGreat
open Go.RowKit
set_option linter.unusedVariables false
theorem Cl.RE.dropN {w : World} {g o : Nat} {l : List Ev} (h : Cl.RE w (some ⟨g, o, none⟩) l) (k : Nat) : Cl.RE w (some ⟨g, o + k * 6, none⟩) (l.drop k) := ⟨fun i x hi => by
 rw [List.getElem?_drop] at hi
 obtain ⟨b, o', h1, h2, h3, h4, h5, h6, h7, h8⟩ := h.at_ _ _ hi
 cases h1
 have e : o + k * 6 + i * 6 = o + (k + i) * 6 := by rw [Nat.add_mul]; omega
 exact ⟨g, o + k * 6, rfl, h2, by rw [e]; exact h3, by rw [e]; exact h4, by rw [e]; exact h5, by rw [e]; exact h6, by rw [e]; exact h7, by rw [e]; exact h8⟩⟩
theorem traceBegun_any (w : World) :
  Calls Tryz.prog 12 #[] w fun r w' => r = .returned (.bool true) ∧ Below w.heap.size w w' := by
 have HSM := hide small_any
 have HST := hide xsmallTrace_any
 have HRUN := hide (fun (V : World) (g b : Nat) (hp : Pg.RP V 1 1 ⟨some ⟨g, 0, none⟩, 1, 1⟩ Xr.small) (hb : b < V.heap.size) (hc : V.cell? ⟨b, 0, none⟩ = some (.int .i64 7)) => show Calls Tryz.prog 14 #[.agg #[.slice (some ⟨g, 0, none⟩) 1 1], .slice (some ⟨b, 0, none⟩) 1 1, .int .i64 9] V fun r w' => ∃ a c, r = .returned (.tuple #[.slice a 6 c, .int .i64 0]) ∧ Cl.RE w' a Xr.tr ∧ Below V.heap.size V w' from by
  have h1 := Run_any ⟨some ⟨g, 0, none⟩, 1, 1⟩ Xr.small ⟨some ⟨b, 0, none⟩, 1, 1⟩ [7] 9 V hp Xr.small_fit ⟨rfl, Nat.le_refl _, by simp, fun i z hz => by
   match i, hz with
   | 0, hz => cases hz; exact ⟨b, 0, rfl, hb, hc⟩
   | _ + 1, hz => simp at hz⟩
  rw [Xr.small_ok, Xr.small_out] at h1
  refine h1.mono ?_
  rintro r w' ⟨a, c, h2, h3, h4⟩
  exact ⟨a, c, h2, Xr.re_own rfl h3, h4⟩)
 have HEV := hide (fun (V : World) => show Calls Tryz.prog 24 #[.agg #[.int .i64 1, .int .i64 4, .slice none 0 0], .slice none 0 0] V fun r w' => r = .returned (.tuple #[.int .i64 4, .int .i64 0, .int .i64 0]) ∧ Below V.heap.size V w' from Eval_four V)
 have HR3 := hide (fun (V : World) (g b : Nat) (hp : Pg.RP V 1 1 ⟨some ⟨g, 0, none⟩, 1, 1⟩ Xr.small) (hr : Cl.RE V (some ⟨b, 0, none⟩) Xr.tr) => show Calls Tryz.prog 25 #[.agg #[.slice (some ⟨g, 0, none⟩) 1 1], .slice (some ⟨b, 0, none⟩) 3 6] V fun r w' => r = .returned (.tuple #[.bool true, .int .i64 0]) ∧ Below V.heap.size V w' from by
  have h1 := Right_any ⟨some ⟨g, 0, none⟩, 1, 1⟩ Xr.small (Xr.tr.take 3) (some ⟨b, 0, none⟩) 6 V hp Xr.small_fit (hr.takeN 3) (by show 3 ≤ 35184372088832; omega)
  rw [Xr.small_right, Xr.small_chk _ (by show 3 ≤ 6; omega)] at h1
  exact h1)
 have HR1 := hide (fun (V : World) (g b : Nat) (hp : Pg.RP V 1 1 ⟨some ⟨g, 0, none⟩, 1, 1⟩ Xr.small) (hr : Cl.RE V (some ⟨b, 0, none⟩) Xr.tr) => show Calls Tryz.prog 25 #[.agg #[.slice (some ⟨g, 0, none⟩) 1 1], .slice (some ⟨b, 6, none⟩) 5 5] V fun r w' => r = .returned (.tuple #[.bool false, .int .i64 0]) ∧ Below V.heap.size V w' from by
  have h1 := Right_any ⟨some ⟨g, 0, none⟩, 1, 1⟩ Xr.small (Xr.tr.drop 1) (some ⟨b, 6, none⟩) 5 V hp Xr.small_fit (hr.dropN 1) (by show 5 ≤ 35184372088832; omega)
  rw [Xr.small_wrong, Xr.small_chk _ (by show 5 ≤ 6; omega)] at h1
  exact h1)
 have HSE := hide (fun (V : World) (a b : Option Addr) (c d : Nat) (hr : Cl.RE V a Xr.tr) (hr2 : Cl.RE V b Xr.tr) => show Calls Tryz.prog 15 #[.slice a 6 c, .slice b 6 d] V fun e w' => e = .returned (.bool true) ∧ Below V.heap.size V w' from SameEvents_eq Xr.tr a b c d V hr hr2 (by show 6 ≤ 4000; omega))
 go_enter Tryz.func12, Tryz.ntmps12
 go_wp2_with fail
 refine ((unhide HSM) _).mono ?_
 rintro r w1 ⟨g1, rfl, hp1, hb1⟩
 have HB1 := hide hb1
 have hba := (Below.refl w1.heap.size w1).alloc (Nat.le_refl _) (Obj.cells #[.int .i64 7] 3)
 have HRU := hide ((unhide HRUN) (w1.alloc (Obj.cells #[.int .i64 7] 3)) g1 w1.heap.size (Pg.RP.later hp1 hba (Nat.le_refl _)) (by simp) (by go_simp))
 have HBA := hide ((unhide HB1).trans (hba.mono (unhide HB1).size))
 clear hp1 hb1 hba
 go_wp2_with fail
 generalize w1.alloc (Obj.cells #[.int .i64 7] 3) = V1 at *
 refine (unhide HRU).mono ?_
 rintro r w2 ⟨a2, c2, rfl, hr2, hb2⟩
 have HB2 := hide ((unhide HBA).trans (hb2.mono (unhide HBA).size))
 have HT2 := hide hr2
 clear hb2 hr2 HRU HBA HB1
 go_wp2_with fail
 refine ((unhide HEV) _).mono ?_
 rintro r w3 ⟨rfl, hb3⟩
 have HB3 := hide ((unhide HB2).trans (hb3.mono (unhide HB2).size))
 have HT3 := hide ((unhide HT2).later hb3 (Nat.le_refl _))
 clear hb3 HB2 HT2
 go_wp2_with fail
 refine ((unhide HSM) _).mono ?_
 rintro r w4 ⟨g4, rfl, hp4, hb4⟩
 have HB4 := hide ((unhide HB3).trans (hb4.mono (unhide HB3).size))
 have HT4 := hide ((unhide HT3).later hb4 (Nat.le_refl _))
 have HP4 := hide hp4
 clear hb4 hp4 HB3 HT3
 go_wp2_with fail
 refine ((unhide HST) _).mono ?_
 rintro r w5 ⟨g5, rfl, _, hs5, hb5⟩
 have HB5 := hide ((unhide HB4).trans (hb5.mono (unhide HB4).size))
 have HT5 := hide ((unhide HT4).later hb5 (Nat.le_refl _))
 have HR5 := hide ((unhide HR3) w5 g4 g5 (Pg.RP.later (unhide HP4) hb5 (Nat.le_refl _)) hs5)
 clear hb5 hs5 HB4 HT4 HP4
 go_wp2_with fail
 refine (unhide HR5).mono ?_
 rintro r w6 ⟨rfl, hb6⟩
 have HB6 := hide ((unhide HB5).trans (hb6.mono (unhide HB5).size))
 have HT6 := hide ((unhide HT5).later hb6 (Nat.le_refl _))
 clear hb6 HB5 HT5 HR5
 go_wp2_with fail
 refine ((unhide HSM) _).mono ?_
 rintro r w7 ⟨g7, rfl, hp7, hb7⟩
 have HB7 := hide ((unhide HB6).trans (hb7.mono (unhide HB6).size))
 have HT7 := hide ((unhide HT6).later hb7 (Nat.le_refl _))
 have HP7 := hide hp7
 clear hb7 hp7 HB6 HT6
 go_wp2_with fail
 refine ((unhide HST) _).mono ?_
 rintro r w8 ⟨g8, rfl, _, hs8, hb8⟩
 have HB8 := hide ((unhide HB7).trans (hb8.mono (unhide HB7).size))
 have HT8 := hide ((unhide HT7).later hb8 (Nat.le_refl _))
 have HR8 := hide ((unhide HR1) w8 g7 g8 (Pg.RP.later (unhide HP7) hb8 (Nat.le_refl _)) hs8)
 clear hb8 hs8 HB7 HT7 HP7
 go_wp2_with fail
 refine (unhide HR8).mono ?_
 rintro r w9 ⟨rfl, hb9⟩
 have HB9 := hide ((unhide HB8).trans (hb9.mono (unhide HB8).size))
 have HT9 := hide ((unhide HT8).later hb9 (Nat.le_refl _))
 clear hb9 HB8 HT8 HR8
 go_wp2_with fail
 refine ((unhide HST) _).mono ?_
 rintro r wa ⟨ga, rfl, _, hsa, hba⟩
 have HBa := hide ((unhide HB9).trans (hba.mono (unhide HB9).size))
 have HSa := hide ((unhide HSE) wa a2 (some ⟨ga, 0, none⟩) c2 6 ((unhide HT9).later hba (Nat.le_refl _)) hsa)
 clear hba hsa HB9 HT9
 go_wp2_with fail
 refine (unhide HSa).mono ?_
 rintro r wb ⟨rfl, hbb⟩
 have HBb := hide ((unhide HBa).trans (hbb.mono (unhide HBa).size))
 clear hbb HBa HSa
 go_wp2_with fail
 go_ret
 exact ⟨rfl, unhide HBb⟩
end Go.Proofs.YtpfogjplnodacaaGreat
namespace Go.Proofs.YtpfogjplnodacaaGreat
open Go.RowKit Go.Maps
set_option linter.unusedVariables false
theorem vsame_any {m n : Nat} (fs : Pg.Sl) (p : List (Pg.FT m n)) (ts : Pg.Sl) (inp : List Int) (fuel : Int) (w : World) (hp : Pg.RP w m n fs p) (hpf : Pg.parFit p) (hin : Pg.RN w ts inp) :
  Calls Tryz.prog 4 #[.agg #[.slice fs.ad fs.len fs.cap], .slice ts.ad ts.len ts.cap, .int .i64 fuel] w fun r w' => r = .returned (.bool true) ∧ Below w.heap.size w w' := by
 have hb0 := (Below.refl w.heap.size w).alloc (Nat.le_refl _) (Obj.cells #[.slice fs.ad fs.len fs.cap] 40)
 have hbx := Vm.Bx.new (heap_alloc_new w (Obj.cells #[.slice fs.ad fs.len fs.cap] 40))
 have HP := hide (fun (V : World) (hV : Below w.heap.size w V) => Pg.RP.later hp hV (Nat.le_refl _))
 have HIN := hide (fun (V : World) (hV : Below w.heap.size w V) => hin.later hV (Nat.le_refl _))
 have HB0 := hide hb0
 have HX0 := hide hbx
 have HPF := hide hpf
 have HVB := hide vmBegun_any
 have HCB := hide codeBegun_any
 have HTB := hide traceBegun_any
 clear hb0 hbx hp hin hpf
 go_enter Tryz.func4, Tryz.ntmps4
 go_wp2_with fail
 refine ((unhide HVB) _).mono ?_
 rintro r1 w1 ⟨rfl, hb1⟩
 have HB1 := hide ((unhide HB0).trans (hb1.mono (unhide HB0).size))
 have HX1 := hide ((unhide HX0).kept hb1.size (hb1.block _ (unhide HX0).lt))
 clear hb1 HB0 HX0 HVB
 go_wp2_with fail
 refine ((unhide HCB) _).mono ?_
 rintro r2 w2 ⟨rfl, hb2⟩
 have HB2 := hide ((unhide HB1).trans (hb2.mono (unhide HB1).size))
 have HX2 := hide ((unhide HX1).kept hb2.size (hb2.block _ (unhide HX1).lt))
 clear hb2 HB1 HX1 HCB
 go_wp2_with fail
 refine ((unhide HTB) _).mono ?_
 rintro r3 w3 ⟨rfl, hb3⟩
 have hB3 := (unhide HB2).trans (hb3.mono (unhide HB2).size)
 have hx3 := (unhide HX2).kept hb3.size (hb3.block _ (unhide HX2).lt)
 have a0 := hx3.at_ 0 _ rfl
 have HCP := hide (Compile_any fs p w3 ((unhide HP) _ hB3) (unhide HPF))
 have HB3 := hide hB3
 have HX3 := hide hx3
 clear hb3 HB2 HX2 HTB hB3 hx3
 go_wp2_with fail
 refine (unhide HCP).mono ?_
 rintro r4 w4 ⟨si, sf, sz, rfl, hco, _, hb4⟩
 unfold Kd.sv
 have hb5 := (Below.refl w4.heap.size w4).alloc (Nat.le_refl _) (Obj.cells #[.slice si.ad si.len si.cap, .slice sf.ad sf.len sf.cap, .slice sz.ad sz.len sz.cap] 26)
 have hx5 := Vm.Bx.new (heap_alloc_new w4 (Obj.cells #[.slice si.ad si.len si.cap, .slice sf.ad sf.len sf.cap, .slice sz.ad sz.len sz.cap] 26))
 have hB4 := (unhide HB3).trans (hb4.mono (unhide HB3).size)
 have hB5 := hB4.trans (hb5.mono hB4.size)
 have hx4 := (unhide HX3).kept hb4.size (hb4.block _ (unhide HX3).lt)
 have hx45 := hx4.kept hb5.size (hb5.block _ hx4.lt)
 have a5 := hx45.at_ 0 _ rfl
 have HRU := hide (Run_len fs p ts inp fuel _ ((unhide HP) _ hB5) (unhide HPF) ((unhide HIN) _ hB5))
 have HCO := hide (fun (e : Pg.chkP p = 0) (V : World) (hV : Below w4.heap.size w4 V) => (hco e).later hV (Nat.le_refl _))
 have HB5 := hide hB5
 have HX5 := hide hx5
 have HW5 := hide hb5
 clear a0 hco hb4 hb5 hx5 hB4 hB5 hx4 hx45 HB3 HX3 HCP
 go_upto_region 4 with fail
 generalize w4.alloc (Obj.cells #[.slice si.ad si.len si.cap, .slice sf.ad sf.len sf.cap, .slice sz.ad sz.len sz.cap] 26) = W5 at *
 go_wp2_with fail
 refine (unhide HRU).mono ?_
 rintro r6 w6 ⟨ea, ec, rfl, hrow, hb6, hlen⟩
 have hB6 := (unhide HB5).trans (hb6.mono (unhide HB5).size)
 have hx6 := (unhide HX5).kept hb6.size (hb6.block _ (unhide HX5).lt)
 have hW6 := (unhide HW5).trans (hb6.mono (unhide HW5).size)
 clear a5 HRU HX5 HW5 HB5 hb6
 by_cases h1 : Pg.chkP p = 0
 · have hcR : Xr.chkR p inp fuel = Pg.chkIn inp fuel := by unfold Xr.chkR; rw [if_pos h1]
   have hrun := vRun_any si sf sz _ _ _ ts inp fuel w6 ((unhide HCO) h1 _ hW6) ((unhide HIN) _ hB6)
   rw [Vm.ans_same h1] at hrun
   have b0 := hx6.at_ 0 _ rfl
   have b1 := hx6.at_ 1 _ rfl
   have b2 := hx6.at_ 2 _ rfl
   rw [h1, hcR]
   by_cases h2 : Pg.chkIn inp fuel = 0
   · have hout : Xr.out p inp fuel = Xr.main p inp fuel.toNat := by unfold Xr.out; rw [if_pos (hcR.trans h2)]
     rw [if_pos h2] at hrun
     rw [hout] at hrow hlen ⊢
     rw [h2]
     generalize Xr.main p inp fuel.toNat = l at *
     have HRN := hide hrun
     have HRE := hide (Xr.re_own rfl hrow)
     have HB6 := hide hB6
     clear hx6 hW6 hcR hrun hrow hB6 hout
     go_wp2_with fail
     refine (unhide HRN).mono ?_
     rintro r7 w7 ⟨a7, c7, rfl, hrow7, hb7⟩
     have HS := hide (SameEvents_long l ea a7 ec c7 w7 ((unhide HRE).later hb7 (Nat.le_refl _)) (Xr.re_own rfl hrow7) (by omega))
     have HB7 := hide ((unhide HB6).trans (hb7.mono (unhide HB6).size))
     clear hrow7 hb7 b0 b1 b2
     dsimp only
     go_wp2_with fail
     refine (unhide HS).mono ?_
     rintro r8 w8 ⟨rfl, hb8⟩
     have HB8 := hide ((unhide HB7).trans (hb8.mono (unhide HB7).size))
     clear hb8
     go_wp2_with fail
     go_ret
     exact ⟨rfl, unhide HB8⟩
   · rw [if_neg h2] at hrun
     have HRN := hide hrun
     have HB6 := hide hB6
     generalize (Xr.out p inp fuel).length = ol at *
     generalize Pg.chkIn inp fuel = E at *
     have g1 : (((E : Nat) : Int) != 0) = true := by simpa using h2
     clear hx6 hW6 hcR hrun hrow hB6
     go_wp2_with fail
     refine (unhide HRN).mono ?_
     rintro r7 w7 ⟨a7, c7, rfl, hrow7, hb7⟩
     have HB7 := hide ((unhide HB6).trans (hb7.mono (unhide HB6).size))
     clear hrow7 hb7 b0 b1 b2
     dsimp only
     go_wp2_with fail
     go_ret
     exact ⟨by simp, unhide HB7⟩
 · have hcR : Xr.chkR p inp fuel = Pg.chkP p := by unfold Xr.chkR; rw [if_neg h1]
   rw [hcR]
   have HB6 := hide hB6
   generalize (Xr.out p inp fuel).length = ol at *
   generalize Pg.chkP p = E at *
   have g1 : (((E : Nat) : Int) != 0) = true := by simpa using h1
   clear hx6 hW6 hcR hrow hB6
   go_wp2_with fail
   go_ret
   exact ⟨by simp, unhide HB6⟩
end Go.Proofs.YtpfogjplnodacaaGreat
