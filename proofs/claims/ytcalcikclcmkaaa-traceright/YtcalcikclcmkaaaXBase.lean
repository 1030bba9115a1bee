/-
  A run of a program as plain functions; how a runner and its frames lie. By the verifier.
-/
import Derived.Test.YtcalcikclcmkaaaPReckon
import Derived.Test.YtcalcikclcmkaaaPAll
import Derived.Deep.AppendLies
namespace Go.Proofs.Ytcalcikclcmkaaa
open Go.RowKit
set_option linter.unusedVariables false
structure Xr.S where
 inp : List Int
 fuel : Nat
 made : Nat
 evs : List Ev
 ended : Bool
structure Xr.F where
 num : Nat
 deep : Nat
 at_ : Int
 vs : List (List Int)
def Xr.tell (s : Xr.S) (e : Ev) : Xr.S := if s.ended then s else { s with evs := s.evs ++ [e] }
def Xr.fin (s : Xr.S) (f : Xr.F) (a how : Int) : Xr.S := { Xr.tell s ⟨7, f.num, a, 0, 0, how⟩ with ended := true }
def Xr.stepS (s : Xr.S) (f : Xr.F) (a : Int) : Xr.S := if s.fuel = 0 then Xr.fin s f a 1 else Xr.tell { s with fuel := s.fuel - 1 } ⟨1, f.num, a, 0, 0, 0⟩
def Xr.stepF (s : Xr.S) (f : Xr.F) (a : Int) : Xr.F := if s.fuel = 0 then f else { f with at_ := a }
def Xr.valV {n : Nat} (s : Xr.S) (f : Xr.F) (x : Pg.XT n) : Int := if s.ended then 0 else (Pg.val f.vs n x).1
def Xr.valS {n : Nat} (s : Xr.S) (f : Xr.F) (x : Pg.XT n) : Xr.S := if s.ended then s else if (Pg.val f.vs n x).2 = 0 then s else Xr.fin s f f.at_ (Pg.val f.vs n x).2
def Xr.upd (vs : List (List Int)) (v i : Nat) (z : Int) : List (List Int) := vs.set v ((vs[v]?.getD []).set i z)
def Xr.wrS (s : Xr.S) (f : Xr.F) (a v i z : Int) : Xr.S := Xr.tell s ⟨2, f.num, a, v, i, z⟩
def Xr.wrF (f : Xr.F) (v i z : Int) : Xr.F := { f with vs := Xr.upd f.vs v.toNat i.toNat z }
def Xr.newF (num deep : Nat) (sz : List Int) : Xr.F := ⟨num, deep, -1, sz.map fun n => List.replicate (max n 1).toNat 0⟩
theorem Try.infoEv : (Try.prog.info? 50).map (fun i => (i.zero, i.size, i.bytes)) = some (some (.agg #[.int .i64 0, .int .i64 0, .int .i64 0, .int .i64 0, .int .i64 0, .int .i64 0]), 6, 48) := by kernel_rfl
def Xr.evC (l : List Ev) : List Value := l.flatMap Ev.cells
theorem Xr.evC_length : ∀ l : List Ev, (Xr.evC l).length = l.length * 6
 | [] => rfl
 | e :: r => by
  show (e.cells ++ Xr.evC r).length = _
  rw [List.length_append, Xr.evC_length r, List.length_cons]
  show 6 + r.length * 6 = _
  omega
theorem Xr.evC_at : ∀ (l : List Ev) (i : Nat) (x : Ev) (j : Nat) (v : Value), l[i]? = some x → x.cells[j]? = some v → (Xr.evC l)[i * 6 + j]? = some v
 | [], i, x, j, v, h, _ => by simp at h
 | e :: r, 0, x, j, v, h, hv => by
  simp at h
  subst h
  show (e.cells ++ Xr.evC r)[0 * 6 + j]? = _
  have hj := (List.getElem?_eq_some_iff.1 hv).1
  rw [Nat.zero_mul, Nat.zero_add, List.getElem?_append_left hj]
  exact hv
 | e :: r, i + 1, x, j, v, h, hv => by
  show (e.cells ++ Xr.evC r)[(i + 1) * 6 + j]? = _
  have e6 : e.cells.length = 6 := rfl
  rw [List.getElem?_append_right (by rw [e6]; omega), e6, show (i + 1) * 6 + j - 6 = i * 6 + j by omega]
  exact Xr.evC_at r i x j v (by simpa using h) hv
theorem Xr.evC_snoc (l : List Ev) (e : Ev) : Xr.evC (l ++ [e]) = Xr.evC l ++ e.cells := by
 unfold Xr.evC
 simp
theorem Xr.ow_kept {W W' : World} {B : Nat} {e : TypeId} {size : Nat} {v : Value} {n : Nat} {xs : List Value} (h : W.ownsRow B e size v n xs) (hb : ∀ q, v.ownBlock = some q → W'.heap[q]? = W.heap[q]?) : W'.ownsRow B e size v n xs := by
 obtain ⟨h1, h2⟩ := h
 refine ⟨h1, ?_⟩
 rcases h2 with h2 | ⟨g, cap, cur, hv, hg, hh, r⟩
 · exact .inl h2
 · exact .inr ⟨g, cap, cur, hv, hg, (hb g (by rw [hv]; rfl)).trans hh, r⟩
theorem Xr.cell_kept {W W' : World} {q : Nat} (h : W'.heap[q]? = W.heap[q]?) (i : Nat) : W'.cell? ⟨q, i, none⟩ = W.cell? ⟨q, i, none⟩ := World.cell?_of_block (a := ⟨q, i, none⟩) h
theorem Xr.frz_kept {W W' : World} {q : Nat} (h : W'.heap[q]? = W.heap[q]?) (i : Nat) : W'.frozen? ⟨q, i, none⟩ = W.frozen? ⟨q, i, none⟩ := World.frozen?_of_block (a := ⟨q, i, none⟩) h
theorem Xr.set_other {W : World} {b q o : Nat} {v : Value} (h : q ≠ b) : (W.setCell ⟨b, o, none⟩ v).heap[q]? = W.heap[q]? := Below.heap_setCell _ _ _ _ h
structure Xr.M (w0 W : World) (br : Nat) (fs : Pg.Sl) (s : Xr.S) (ev : Value) : Prop where
 bel : Below w0.heap.size w0 W
 hbr : w0.heap.size ≤ br
 c0 : W.cell? ⟨br, 0, none⟩ = some (.slice fs.ad fs.len fs.cap)
 c1 : ∃ t : Pg.Sl, W.cell? ⟨br, 1, none⟩ = some (.slice t.ad t.len t.cap) ∧ Pg.RN w0 t s.inp
 c2 : W.cell? ⟨br, 2, none⟩ = some (.int .i64 (s.fuel : Nat))
 c3 : W.cell? ⟨br, 3, none⟩ = some (.int .i64 (s.made : Nat))
 c4 : W.cell? ⟨br, 4, none⟩ = some ev
 c5 : W.cell? ⟨br, 5, none⟩ = some (.bool s.ended)
 fz : ∀ i, W.frozen? ⟨br, i, none⟩ = false
 row : W.ownsRow w0.heap.size 50 6 ev s.evs.length (Xr.evC s.evs)
 apart : ∀ q, ev.ownBlock = some q → q ≠ br
theorem Xr.M.lt {w0 W : World} {br : Nat} {fs : Pg.Sl} {s : Xr.S} {ev : Value} (h : Xr.M w0 W br fs s ev) : br < W.heap.size := World.block_lt_of_cell? W _ h.c0
theorem Xr.M.form {w0 W : World} {br : Nat} {fs : Pg.Sl} {s : Xr.S} {ev : Value} (h : Xr.M w0 W br fs s ev) : ∃ a c, ev = .slice a s.evs.length c := by
 rcases h.row.2 with ⟨h1, h2⟩ | ⟨g, cap, cur, hv, _⟩
 · exact ⟨none, 0, by rw [h2]; exact h1⟩
 · exact ⟨_, _, hv⟩
theorem Xr.M.kept {w0 W W' : World} {br : Nat} {fs : Pg.Sl} {s : Xr.S} {ev : Value} (h : Xr.M w0 W br fs s ev) (hb : Below w0.heap.size w0 W') (h1 : W'.heap[br]? = W.heap[br]?) (h2 : ∀ q, ev.ownBlock = some q → W'.heap[q]? = W.heap[q]?) : Xr.M w0 W' br fs s ev := by
 obtain ⟨t, ht, hn⟩ := h.c1
 exact ⟨hb, h.hbr, (Xr.cell_kept h1 0).trans h.c0, ⟨t, (Xr.cell_kept h1 1).trans ht, hn⟩, (Xr.cell_kept h1 2).trans h.c2, (Xr.cell_kept h1 3).trans h.c3, (Xr.cell_kept h1 4).trans h.c4, (Xr.cell_kept h1 5).trans h.c5, fun i => (Xr.frz_kept h1 i).trans (h.fz i), Xr.ow_kept h.row h2, h.apart⟩
theorem Xr.M.ev_lt {w0 W : World} {br : Nat} {fs : Pg.Sl} {s : Xr.S} {ev : Value} (h : Xr.M w0 W br fs s ev) (q : Nat) (hq : ev.ownBlock = some q) : w0.heap.size ≤ q ∧ q < W.heap.size := h.row.lt q hq
theorem Xr.M.below {w0 W W' : World} {br : Nat} {fs : Pg.Sl} {s : Xr.S} {ev : Value} (h : Xr.M w0 W br fs s ev) (hb : Below W.heap.size W W') : Xr.M w0 W' br fs s ev :=
 h.kept (h.bel.trans (hb.mono h.bel.size)) (hb.block br h.lt) (fun q hq => hb.block q (h.ev_lt q hq).2)
def Xr.own (bf : Nat) (gv : Option Nat) (vb : List Nat) : List Nat := bf :: (gv.toList ++ vb)
structure Xr.Fm (w0 W : World) (bf : Nat) (gv : Option Nat) (vb : List Nat) (f : Xr.F) : Prop where
 hge : ∀ q ∈ Xr.own bf gv vb, w0.heap.size ≤ q ∧ q < W.heap.size
 nd : (Xr.own bf gv vb).Nodup
 c0 : W.cell? ⟨bf, 0, none⟩ = some (.int .i64 (f.num : Nat))
 c1 : W.cell? ⟨bf, 1, none⟩ = some (.int .i64 (f.deep : Nat))
 c2 : W.cell? ⟨bf, 2, none⟩ = some (.int .i64 f.at_)
 c3 : ∃ c, W.cell? ⟨bf, 3, none⟩ = some (.slice (gv.map fun g => ⟨g, 0, none⟩) f.vs.length c) ∧ f.vs.length ≤ c
 fz : ∀ i, W.frozen? ⟨bf, i, none⟩ = false
 len : vb.length = f.vs.length
 few : f.vs.length ≤ 1000
 at_ : ∀ i b l, vb[i]? = some b → f.vs[i]? = some l → ∃ g c, gv = some g ∧ W.cell? ⟨g, i, none⟩ = some (.slice (some ⟨b, 0, none⟩) l.length c) ∧ l.length ≤ c ∧ l.length ≤ 1000 ∧ (∀ j z, l[j]? = some z → W.cell? ⟨b, j, none⟩ = some (.int .i64 z)) ∧ ∀ j, W.frozen? ⟨b, j, none⟩ = false
theorem Xr.Fm.kept {w0 W W' : World} {bf : Nat} {gv : Option Nat} {vb : List Nat} {f : Xr.F} (h : Xr.Fm w0 W bf gv vb f) (hz : W.heap.size ≤ W'.heap.size) (hk : ∀ q ∈ Xr.own bf gv vb, W'.heap[q]? = W.heap[q]?) : Xr.Fm w0 W' bf gv vb f := by
 have kb : W'.heap[bf]? = W.heap[bf]? := hk bf (by unfold Xr.own; simp)
 obtain ⟨c, h3, h3'⟩ := h.c3
 refine ⟨fun q hq => ⟨(h.hge q hq).1, Nat.lt_of_lt_of_le (h.hge q hq).2 hz⟩, h.nd, (Xr.cell_kept kb 0).trans h.c0, (Xr.cell_kept kb 1).trans h.c1, (Xr.cell_kept kb 2).trans h.c2, ⟨c, (Xr.cell_kept kb 3).trans h3, h3'⟩, fun i => (Xr.frz_kept kb i).trans (h.fz i), h.len, h.few, fun i b l hb hl => ?_⟩
 obtain ⟨g, c', e1, e2, e3, e4, e5, e6⟩ := h.at_ i b l hb hl
 have kg : W'.heap[g]? = W.heap[g]? := hk g (by unfold Xr.own; rw [e1]; simp)
 have kv : W'.heap[b]? = W.heap[b]? := hk b (by unfold Xr.own; have := List.mem_of_getElem? hb; simp [this])
 exact ⟨g, c', e1, (Xr.cell_kept kg i).trans e2, e3, e4, fun j z hz => (Xr.cell_kept kv j).trans (e5 j z hz), fun j => (Xr.frz_kept kv j).trans (e6 j)⟩
theorem Xr.Fm.below {w0 W W' : World} {bf : Nat} {gv : Option Nat} {vb : List Nat} {f : Xr.F} (h : Xr.Fm w0 W bf gv vb f) (hb : Below W.heap.size W W') : Xr.Fm w0 W' bf gv vb f :=
 h.kept hb.size (fun q hq => hb.block q (h.hge q hq).2)
theorem Xr.Fm.ltf {w0 W : World} {bf : Nat} {gv : Option Nat} {vb : List Nat} {f : Xr.F} (h : Xr.Fm w0 W bf gv vb f) : bf < W.heap.size := (h.hge bf (by unfold Xr.own; simp)).2
theorem Xr.Fm.rv {w0 W : World} {bf : Nat} {gv : Option Nat} {vb : List Nat} {f : Xr.F} (h : Xr.Fm w0 W bf gv vb f) : ∃ c, W.cell? ⟨bf, 3, none⟩ = some (.slice (gv.map fun g => ⟨g, 0, none⟩) f.vs.length c) ∧ Pg.RV W ⟨gv.map fun g => ⟨g, 0, none⟩, f.vs.length, c⟩ f.vs := by
 obtain ⟨c, h3, h4⟩ := h.c3
 refine ⟨c, h3, ⟨rfl, h4, by have := h.few; omega, fun i l hl => ?_⟩⟩
 have hi : i < vb.length := by rw [h.len]; exact (List.getElem?_eq_some_iff.1 hl).1
 obtain ⟨g, c', e1, e2, e3, e4, e5, e6⟩ := h.at_ i vb[i] l (List.getElem?_eq_getElem hi) hl
 have hbl := (h.hge vb[i] (by unfold Xr.own; simp)).2
 refine ⟨g, 0, ⟨some ⟨vb[i], 0, none⟩, l.length, c'⟩, by rw [e1]; rfl, World.block_lt_of_cell? W _ e2, by rw [Nat.zero_add]; exact e2, ⟨rfl, e3, by omega, fun j z hz => ⟨vb[i], 0, rfl, hbl, by rw [Nat.zero_add]; exact e5 j z hz⟩⟩⟩
structure Xr.Kp (br : Nat) (ev ev' : Value) (ws : List Nat) (W W' : World) : Prop where
 os : W'.os = W.os
 tape : W'.tape = W.tape
 output : W'.output = W.output
 size : W.heap.size ≤ W'.heap.size
 block : ∀ q, q < W.heap.size → q ≠ br → ev.ownBlock ≠ some q → q ∉ ws → W'.heap[q]? = W.heap[q]?
 evs : ev'.ownBlock = ev.ownBlock ∨ ∀ q, ev'.ownBlock = some q → W.heap.size ≤ q
theorem Xr.Kp.refl (br : Nat) (ev : Value) (ws : List Nat) (W : World) : Xr.Kp br ev ev ws W W := ⟨rfl, rfl, rfl, Nat.le_refl _, fun _ _ _ _ _ => rfl, .inl rfl⟩
theorem Xr.Kp.below {br : Nat} {ev : Value} {ws : List Nat} {W W' : World} (h : Below W.heap.size W W') : Xr.Kp br ev ev ws W W' := ⟨h.os, h.tape, h.output, h.size, fun q h1 _ _ _ => h.block q h1, .inl rfl⟩
theorem Xr.Kp.trans {br : Nat} {e1 e2 e3 : Value} {ws : List Nat} {W1 W2 W3 : World} (h : Xr.Kp br e1 e2 ws W1 W2) (k : Xr.Kp br e2 e3 ws W2 W3) : Xr.Kp br e1 e3 ws W1 W3 := by
 refine ⟨k.os.trans h.os, k.tape.trans h.tape, k.output.trans h.output, Nat.le_trans h.size k.size, fun q h1 h2 h3 h4 => ?_, ?_⟩
 · have he : e2.ownBlock ≠ some q := by
    rcases h.evs with e | e
    · rw [e]; exact h3
    · intro hq; have := e q hq; omega
   exact (k.block q (Nat.lt_of_lt_of_le h1 h.size) h2 he h4).trans (h.block q h1 h2 h3 h4)
 · rcases k.evs with e | e
   · rcases h.evs with f | f
     · exact .inl (e.trans f)
     · exact .inr fun q hq => f q (by rw [← e]; exact hq)
   · exact .inr fun q hq => Nat.le_trans h.size (e q hq)
theorem Xr.Kp.more {br : Nat} {ev ev' : Value} {ws ws' : List Nat} {W W' : World} (h : Xr.Kp br ev ev' ws W W') (hs : ∀ q ∈ ws, q < W.heap.size → q ∈ ws') : Xr.Kp br ev ev' ws' W W' :=
 ⟨h.os, h.tape, h.output, h.size, fun q h1 h2 h3 h4 => h.block q h1 h2 h3 (fun hq => h4 (hs q hq h1)), h.evs⟩
theorem Xr.Kp.set {br : Nat} {ev ev' : Value} {ws : List Nat} {W W' : World} (h : Xr.Kp br ev ev' ws W W') (b o : Nat) (v : Value) (hb : b = br ∨ b ∈ ws) : Xr.Kp br ev ev' ws W (W'.setCell ⟨b, o, none⟩ v) :=
 ⟨h.os, h.tape, h.output, by rw [World.size_setCell]; exact h.size, fun q h1 h2 h3 h4 => (Xr.set_other (by rintro rfl; rcases hb with hb | hb; exact h2 hb; exact h4 hb)).trans (h.block q h1 h2 h3 h4), h.evs⟩
theorem Xr.Kp.bel {br : Nat} {ev ev' : Value} {ws : List Nat} {w0 W W' : World} (h : Xr.Kp br ev ev' ws W W') (hb : Below w0.heap.size w0 W) (h1 : w0.heap.size ≤ br) (h2 : ∀ q, ev.ownBlock = some q → w0.heap.size ≤ q) (h3 : ∀ q ∈ ws, w0.heap.size ≤ q) : Below w0.heap.size w0 W' :=
 ⟨h.os.trans hb.os, h.tape.trans hb.tape, h.output.trans hb.output, Nat.le_trans hb.size h.size, fun q hq => (h.block q (Nat.lt_of_lt_of_le hq hb.size) (by omega) (fun e => by have := h2 q e; omega) (fun e => by have := h3 q e; omega)).trans (hb.block q hq)⟩
structure Xr.J (w0 W : World) (br : Nat) (fs : Pg.Sl) (s : Xr.S) (ev : Value) (bf : Nat) (gv : Option Nat) (vb : List Nat) (f : Xr.F) : Prop where
 m : Xr.M w0 W br fs s ev
 fm : Xr.Fm w0 W bf gv vb f
 nbr : br ∉ Xr.own bf gv vb
 nev : ∀ q, ev.ownBlock = some q → q ∉ Xr.own bf gv vb
def Xr.ws (bf : Nat) (vb : List Nat) : List Nat := bf :: vb
theorem Xr.ws_own {bf : Nat} {gv : Option Nat} {vb : List Nat} {q : Nat} (h : q ∈ Xr.ws bf vb) : q ∈ Xr.own bf gv vb := by
 unfold Xr.ws at h
 unfold Xr.own
 simp at h ⊢
 rcases h with h | h
 · exact .inl h
 · exact .inr (.inr h)
theorem Xr.J.told {w0 W W' : World} {br : Nat} {fs : Pg.Sl} {s s' : Xr.S} {ev ev' : Value} {bf : Nat} {gv : Option Nat} {vb : List Nat} {f : Xr.F} {ws : List Nat} (h : Xr.J w0 W br fs s ev bf gv vb f) (hm : Xr.M w0 W' br fs s' ev') (hk : Xr.Kp br ev ev' ws W W') (hw : ∀ q ∈ ws, q ∉ Xr.own bf gv vb) : Xr.J w0 W' br fs s' ev' bf gv vb f := by
 refine ⟨hm, h.fm.kept hk.size (fun q hq => hk.block q (h.fm.hge q hq).2 (fun e => h.nbr (e ▸ hq)) (fun e => h.nev q e hq) (fun e => hw q e hq)), h.nbr, fun q hq hin => ?_⟩
 rcases hk.evs with e | e
 · exact h.nev q (by rw [← e]; exact hq) hin
 · have h1 := e q hq
   have h2 := (h.fm.hge q hin).2
   omega
theorem Xr.J.below {w0 W W' : World} {br : Nat} {fs : Pg.Sl} {s : Xr.S} {ev : Value} {bf : Nat} {gv : Option Nat} {vb : List Nat} {f : Xr.F} (h : Xr.J w0 W br fs s ev bf gv vb f) (hb : Below W.heap.size W W') : Xr.J w0 W' br fs s ev bf gv vb f := ⟨h.m.below hb, h.fm.below hb, h.nbr, h.nev⟩
theorem Xr.ret3 {W : World} {b : Nat} {a0 a1 a2 : Value} (h0 : W.cell? ⟨b, 0, none⟩ = some a0) (h1 : W.cell? ⟨b, 1, none⟩ = some a1) (h2 : W.cell? ⟨b, 2, none⟩ = some a2) (u0 u1 u2 : Value) :
  let S := ((W.setCell ⟨b, 0, none⟩ u0).setCell ⟨b, 1, none⟩ u1).setCell ⟨b, 2, none⟩ u2
  (S.cell? ⟨b, 0, none⟩ = some u0 ∧ S.cell? ⟨b, 1, none⟩ = some u1 ∧ S.cell? ⟨b, 2, none⟩ = some u2) ∧ S.heap.size = W.heap.size ∧ ∀ q, q ≠ b → S.heap[q]? = W.heap[q]? := by
 have d : ∀ i j : Nat, i ≠ j → (⟨b, i, none⟩ : Addr) ≠ ⟨b, j, none⟩ := fun i j hij hh => hij (congrArg Addr.off hh)
 refine ⟨⟨?_, ?_, ?_⟩, by simp [World.setCell], fun q hq => ((Below.heap_setCell _ _ _ _ hq).trans (Below.heap_setCell _ _ _ _ hq)).trans (Below.heap_setCell _ _ _ _ hq)⟩
 · rw [World.cell?_setCell_other _ _ _ _ (d 2 0 (by omega)), World.cell?_setCell_other _ _ _ _ (d 1 0 (by omega))]
   exact World.cell?_setCell_same _ _ _ h0
 · rw [World.cell?_setCell_other _ _ _ _ (d 2 1 (by omega))]
   exact World.cell?_setCell_same _ _ _ (by rw [World.cell?_setCell_other _ _ _ _ (d 0 1 (by omega))]; exact h1)
 · exact World.cell?_setCell_same _ _ _ (by rw [World.cell?_setCell_other _ _ _ _ (d 1 2 (by omega)), World.cell?_setCell_other _ _ _ _ (d 0 2 (by omega))]; exact h2)
end Go.Proofs.Ytcalcikclcmkaaa
