/-
  TF1, TFn, TTr, TPp, TPz, TSm, TBg. By the verifier.
-/
import Derived.Test.YtfccpddehpgfoaaGreatDoorUG
import Derived.Test.YtfccpddehpgfoaaGreatDoorXM
import Derived.Deep.LoopGhost
import Derived.Deep.QuietTactic
import Derived.BigQuiet
import Derived.Test.YtfccpddehpgfoaaGreatDoorUA
import Derived.Test.YtfccpddehpgfoaaGreatDoorXK
import Derived.Test.YtfccpddehpgfoaaGreatDoorUB
set_option maxRecDepth 100000
set_option maxHeartbeats 3200000
namespace Go.Proofs.YtfccpddehpgfoaaGreatDoor
open Go.RowKit
set_option linter.unusedVariables false
section
variable (l : List Tp.T) (ta : Option Addr) (c bp : Nat) (e : Int)
end
end Go.Proofs.YtfccpddehpgfoaaGreatDoor
namespace Go.Proofs.YtfccpddehpgfoaaGreatDoor
open Go.RowKit
set_option linter.unusedVariables false
def Tk.F.new (a : Int) : Tk.F := ⟨a, ⟨#[]⟩, ⟨none, 0, 0⟩, ⟨none, 0, 0⟩, ⟨none, 0, 0⟩, Tk.E.zero⟩
section
variable (l : List Tp.T) (ta : Option Addr) (c bp : Nat) (e : Int)
end
end Go.Proofs.YtfccpddehpgfoaaGreatDoor
namespace Go.Proofs.YtfccpddehpgfoaaGreatDoor
open Go.RowKit
set_option linter.unusedVariables false
theorem Tryz.infoTF : (Tryz.prog.info? 54).map (fun i => (i.zero, i.size, i.bytes)) = some (some (.agg #[.int .i64 0, .string ⟨#[]⟩, .slice none 0 0, .slice none 0 0, .slice none 0 0, .int .i64 0, .int .i64 0, .int .i64 0, .string ⟨#[]⟩, .slice none 0 0]), 10, 160) := by kernel_rfl
structure Tp.Fs (l : List Tp.T) (ta : Option Addr) (c bp : Nat) (e : Int) (w0 : World) (cb n : Nat) (v : Value) (es : List Tk.F) (acc : List (Tk.FT 61 n)) (i : Nat) (W : World) : Prop where
 at_ : Tp.J l ta c bp e W i 0
 tu : Tp.Tu (fun q => q = bp ∨ q = cb) w0.heap.size w0 W
 box : W.cell? ⟨cb, 0, none⟩ = some v
 fz : ∀ j, W.frozen? ⟨cb, j, none⟩ = false
 row : Tp.Rw w0.heap.size bp W 54 10 (fun E : Tk.F => E.cells.toList) (fun W => Tk.RF W 61 n) v es acc
 pos : bp < cb ∧ cb < w0.heap.size
section
variable {l : List Tp.T} {ta : Option Addr} {c bp : Nat} {e : Int} {w0 W W1 : World} {cb n : Nat} {v : Value} {es : List Tk.F} {acc : List (Tk.FT 61 n)} {i j : Nat}
theorem Tp.Fs.step (h : Tp.Fs l ta c bp e w0 cb n v es acc i W) (hj : Tp.J l ta c bp e W1 j 0) (ht : Tp.Tu (Tp.D1 bp) W.heap.size W W1) : Tp.Fs l ta c bp e w0 cb n v es acc j W1 := by
 obtain ⟨p1, p2⟩ := h.pos
 have hz := h.tu.size
 have hb : W1.heap[cb]? = W.heap[cb]? := ht.block cb (by omega) (by show ¬ cb = bp; omega)
 exact ⟨hj, h.tu.then ht hz (fun q _ hq => Or.inl hq), (World.cell?_of_block (a := ⟨cb, 0, none⟩) hb).trans h.box, fun k => (World.frozen?_of_block (a := ⟨cb, k, none⟩) hb).trans (h.fz k),
  h.row.kept ht.size (by omega) (fun q h1 h2 => ht.block q h2 (by show ¬ q = bp; omega)), h.pos⟩
theorem Tp.Fs.app (h : Tp.Fs l ta c bp e w0 cb n v es acc i W) {E : Tk.F} {x : Tk.FT 61 n} {W6 : World} (hE : Tp.Ow w0.heap.size (Tp.blk bp v) W (fun W => Tk.RF W 61 n E x)) (hg : W.grownBy W6 v.ownBlock) {g cc : Nat}
  (ho : W6.ownsRow w0.heap.size 54 10 (.slice (some ⟨g, 0, none⟩) (es.length + 1) cc) (es.length + 1) (es.flatMap (fun E : Tk.F => E.cells.toList) ++ E.cells.toList)) (hat : v.ownBlock = some g ∨ W.heap.size ≤ g) :
  Tp.Fs l ta c bp e w0 cb n (.slice (some ⟨g, 0, none⟩) (es.length + 1) cc) (es ++ [E]) (acc ++ [x]) i (W6.setCell ⟨cb, 0, none⟩ (.slice (some ⟨g, 0, none⟩) (es.length + 1) cc)) := by
 obtain ⟨p1, p2⟩ := h.pos
 have hz := h.tu.size
 have hlow : ∀ q, q < w0.heap.size → W6.heap[q]? = W.heap[q]? := fun q hq => hg.block q (by omega) (fun e => by have := (h.row.row.lt q e.symm).1; omega)
 have hS : ∀ q, q ≠ cb → (W6.setCell ⟨cb, 0, none⟩ (.slice (some ⟨g, 0, none⟩) (es.length + 1) cc)).heap[q]? = W6.heap[q]? := fun q hq => Below.heap_setCell _ _ _ _ hq
 have hsz : (W6.setCell ⟨cb, 0, none⟩ (.slice (some ⟨g, 0, none⟩) (es.length + 1) cc)).heap.size = W6.heap.size := by simp [World.setCell]
 have hrow := h.row.app hE hg.size (by omega) (fun q _ h2 h3 => hg.block q h2 (fun e => h3 e.symm)) ho hat
 refine ⟨?_, ?_, ?_, fun j => ?_, hrow.kept (by omega) (by omega) (fun q h1 _ => hS q (by omega)), h.pos⟩
 · exact h.at_.kept (by have := hg.size; omega) (fun q hq => (hS q (by omega)).trans (hlow q (by omega)))
 · exact (h.tu.trans ⟨hg.os, hg.tape, hg.output, hg.size, fun q h1 _ => hlow q h1⟩).set (b := cb) (o := 0) _ (fun _ => Or.inr rfl)
 · exact World.cell?_setCell_same _ _ _ ((World.cell?_of_block (a := ⟨cb, 0, none⟩) (hlow cb p2)).trans h.box)
 · rw [World.frozen?_setCell]
   exact (World.frozen?_of_block (a := ⟨cb, j, none⟩) (hlow cb p2)).trans (h.fz j)
end
section
variable (l : List Tp.T) (ta : Option Addr) (c bp : Nat) (e : Int)
end
end Go.Proofs.YtfccpddehpgfoaaGreatDoor
namespace Go.Proofs.YtfccpddehpgfoaaGreatDoor
open Go.RowKit
set_option linter.unusedVariables false
structure Tp.Z1 (W : World) (b : Nat) : Prop where
 c0 : ∃ v, W.cell? ⟨b, 0, none⟩ = some v
 f0 : W.frozen? ⟨b, 0, none⟩ = false
theorem Tp.Z1.lt {W : World} {b : Nat} (h : Tp.Z1 W b) : b < W.heap.size := by
 obtain ⟨v, hv⟩ := h.c0
 exact World.block_lt_of_cell? W _ hv
theorem Tp.Z1.kept {W W' : World} {b : Nat} (h : Tp.Z1 W b) (hb : W'.heap[b]? = W.heap[b]?) : Tp.Z1 W' b :=
 ⟨by rw [World.cell?_of_block (a := ⟨b, 0, none⟩) hb]; exact h.c0, by rw [World.frozen?_of_block (a := ⟨b, 0, none⟩) hb]; exact h.f0⟩
end Go.Proofs.YtfccpddehpgfoaaGreatDoor
namespace Go.Proofs.YtfccpddehpgfoaaGreatDoor
open Go.RowKit
set_option linter.unusedVariables false
def Tp.toks (s : ByteArray) (l : List (Nat × Nat × Nat)) : List Tp.T := l.map fun t => ⟨(t.1 : Int), (t.2.1 : Int), s.extract t.2.1 (t.2.1 + t.2.2)⟩
theorem Tp.cells_at (s : ByteArray) (l : List (Nat × Nat × Nat)) : ∀ (i : Nat) (t : Nat × Nat × Nat), l[i]? = some t →
  (Tk.cells s l)[i * 3]? = some (.int .i64 (t.1 : Int)) ∧ (Tk.cells s l)[i * 3 + 1]? = some (.int .i64 (t.2.1 : Int)) ∧ (Tk.cells s l)[i * 3 + 2]? = some (.string (s.extract t.2.1 (t.2.1 + t.2.2))) := by
 induction l with
 | nil => intro i t h; simp at h
 | cons x r ih =>
  intro i t h
  cases i with
  | zero => simp at h; subst h; simp [Tk.cells]
  | succ i =>
   rw [List.getElem?_cons_succ] at h
   obtain ⟨h1, h2, h3⟩ := ih i t h
   have e : Tk.cells s (x :: r) = .int .i64 (x.1 : Int) :: .int .i64 (x.2.1 : Int) :: .string (s.extract x.2.1 (x.2.1 + x.2.2)) :: Tk.cells s r := rfl
   have e0 : (i + 1) * 3 = i * 3 + 1 + 1 + 1 := by omega
   rw [e, e0]
   exact ⟨h1, h2, h3⟩
theorem Tp.add_at (g j : Nat) : (⟨g, 0, none⟩ : Addr).add j = ⟨g, j, none⟩ := by unfold Addr.add; split <;> simp_all
theorem Tp.rt_own {w : World} {base : Nat} {ad : Option Addr} {n cap : Nat} {s : ByteArray} {l : List (Nat × Nat × Nat)} (h : w.ownsRow base 63 3 (.slice ad n cap) l.length (Tk.cells s l)) :
  Tp.RT w ad (Tp.toks s l) := by
 refine ⟨fun i t hi => ?_⟩
 unfold Tp.toks at hi
 rw [List.getElem?_map] at hi
 cases hx : l[i]? with
 | none => rw [hx] at hi; cases hi
 | some x =>
  rw [hx] at hi
  simp at hi
  subst hi
  have hn : 0 < l.length := by
   have := (List.getElem?_eq_some_iff.1 hx).1; omega
  obtain ⟨g, cap', hv, hg1, hg2⟩ := h.form hn
  have hc := h.cells (g := g) (by rw [hv]; rfl)
  obtain ⟨h1, h2, h3⟩ := Tp.cells_at s l i x hx
  cases hv
  refine ⟨g, 0, rfl, hg2, ?_, ?_, ?_⟩
  · have := hc _ _ h1; rw [Nat.zero_add]; rw [Tp.add_at] at this; exact this
  · have := hc _ _ h2; rw [Nat.zero_add]; rw [Tp.add_at] at this; exact this
  · have := hc _ _ h3; rw [Nat.zero_add]; rw [Tp.add_at] at this; exact this
theorem Tp.scan_small (t : ByteArray) (h : t.size ≤ 6000) : Tk.scanR t = Tk.scl (Tk.B t) 0 0 false [] := by
 unfold Tk.scanR
 rw [if_neg (by omega)]
theorem Tp.scan_6000 (s : ByteArray) (h : (Tk.scanR s).2.2 = 0) : s.size ≤ 6000 := by
 apply Classical.byContradiction; intro hh
 have : Tk.scanR s = ([], 0, 2) := by unfold Tk.scanR; rw [if_pos (by omega)]
 rw [this] at h; cases h
theorem Tp.scan_ord (s : ByteArray) (h : (Tk.scanR s).2.2 = 0) : Tk.ordd s.size 0 (Tk.scanR s).1 := by
 have hs := Tp.scan_6000 s h
 rw [Tp.scan_small s hs] at h ⊢
 obtain ⟨m, h1, h2⟩ := Tk.scl_ord (Tk.B s) 0 0 false [] (Nat.zero_le _) h
 rw [h1]
 simpa [Tk.B_length] using h2
theorem Tp.B_extract (s : ByteArray) (a n : Nat) : Tk.B (s.extract a (a + n)) = ((Tk.B s).drop a).take n := by
 unfold Tk.B
 rw [Lib.extract_data, List.map_take, List.map_drop]
 congr 1
 omega
def Tp.Good (l : List Tp.T) : Prop := ∀ x ∈ l, Tk.isTok x.k (Tk.B x.t) = true
theorem Tp.good (s : ByteArray) (h : (Tk.scanR s).2.2 = 0) : Tp.Good (Tp.toks s (Tk.scanR s).1) := by
 have hs := Tp.scan_6000 s h
 rw [Tp.scan_small s hs] at h ⊢
 obtain ⟨m, h1, h2⟩ := Tk.scl_toks (Tk.B s) 0 0 false [] h
 rw [h1, List.nil_append]
 intro x hx
 unfold Tp.toks at hx
 obtain ⟨t, ht, rfl⟩ := List.mem_map.1 hx
 obtain ⟨j, h3, h4⟩ := h2 t ht
 rw [Nat.zero_add] at h3
 show Tk.isTok (t.1 : Int) (Tk.B (s.extract t.2.1 (t.2.1 + t.2.2))) = true
 rw [Tp.B_extract, h3]
 exact h4
theorem Tp.toks_len (s : ByteArray) (h : (Tk.scanR s).2.2 = 0) : (Tp.toks s (Tk.scanR s).1).length ≤ 6000 := by
 have h1 := Tk.ordd_length s.size _ 0 (Nat.zero_le _) (Tp.scan_ord s h)
 have h2 := Tp.scan_6000 s h
 unfold Tp.toks
 rw [List.length_map]
 omega
theorem Tp.all_run (p : Int → Bool) : ∀ l : List Int, Tk.run p l = l.length → ∀ c ∈ l, p c = true
 | [], _, c, h => by cases h
 | a :: r, h, c, hc => by
  cases ha : p a
  · simp [Tk.run, ha] at h
  · simp [Tk.run, ha] at h
    rcases List.mem_cons.1 hc with rfl | hc
    · exact ha
    · exact Tp.all_run p r h c hc
theorem Tp.isTok_num {l : List Int} (h : Tk.isTok 2 l = true) : (∀ c ∈ l, Tk.isD c = true) ∧ l.length ≤ 7 ∧ l ≠ [] := by
 obtain ⟨_, _, hb, hk, hn⟩ := (Tk.isTok_iff 2 l).1 h
 cases l with
 | nil => simp [Tk.bad] at hb
 | cons c r =>
  rw [Tk.bad_cons] at hb
  rw [Tk.tokK_cons] at hk
  rw [Tk.tokN_cons] at hn
  cases hl : Tk.isL c
  · cases hd : Tk.isD c
    · exfalso
      simp only [hl, hd, Bool.false_eq_true, if_false] at hk
      split at hk
      · simp at hk
      · split at hk <;> simp at hk
    · simp only [hl, hd, Bool.false_eq_true, if_false, if_true] at hb hn
      have hr : Tk.run Tk.isD r = r.length := by simpa using hn
      refine ⟨fun x hx => ?_, ?_, by simp⟩
      · rcases List.mem_cons.1 hx with rfl | hx
        · exact hd
        · exact Tp.all_run _ r hr x hx
      · by_cases h7 : 7 < Tk.run Tk.isD r + 1
        · simp [h7] at hb
        · rw [List.length_cons]; omega
  · simp [hl] at hk
theorem Tp.dec_of : ∀ (l : List UInt8) (acc : Nat), (∀ b ∈ l, Tk.isD (b.toNat : Int) = true) → ∃ n, Lib.decFrom acc l = some n
 | [], acc, _ => ⟨acc, rfl⟩
 | b :: r, acc, h => by
  have hb : 48 ≤ b.toNat ∧ b.toNat ≤ 57 := by
   have := h b (List.mem_cons_self ..)
   simp [Tk.isD] at this
   omega
  have hd : Lib.digitVal b = some (b.toNat - 48) := by unfold Lib.digitVal; rw [if_pos hb]
  obtain ⟨n, hn⟩ := Tp.dec_of r (acc * 10 + (b.toNat - 48)) fun x hx => h x (List.mem_cons_of_mem _ hx)
  exact ⟨n, by unfold Lib.decFrom; rw [hd]; exact hn⟩
theorem Tp.num_tok {t : ByteArray} (h : Tk.isTok 2 (Tk.B t) = true) : ∃ n : Nat, Lib.decFrom 0 t.data.toList = some n ∧ Lib.atoi t.data.toList = some (n : Int) ∧ n < 100000000 ∧ t.size ≤ 7 ∧ 0 < t.size := by
 obtain ⟨h1, h2, h3⟩ := Tp.isTok_num h
 have hlen : t.size ≤ 7 := by rw [Tk.B_length] at h2; exact h2
 have hall : ∀ b ∈ t.data.toList, Tk.isD (b.toNat : Int) = true := fun b hb => h1 _ (List.mem_map_of_mem hb)
 obtain ⟨n, hn⟩ := Tp.dec_of t.data.toList 0 hall
 have hlt := Lib.decFrom_lt _ 0 n hn
 have hl : t.data.toList.length ≤ 7 := by rw [← Lib.size_eq]; exact hlen
 have hpow := Nat.pow_le_pow_right (n := 10) (by decide) hl
 have e7 : (10 : Nat) ^ 7 = 10000000 := by decide
 have hpos : 0 < t.size := by
  have : (Tk.B t).length ≠ 0 := by intro hh; exact h3 (List.length_eq_zero_iff.1 hh)
  rw [Tk.B_length] at this
  omega
 refine ⟨n, hn, ?_, by omega, hlen, hpos⟩
 cases hL : t.data.toList with
 | nil =>
  rw [Lib.size_eq, hL] at hpos
  cases hpos
 | cons b r =>
  rw [hL] at hall hn
  have hb := hall b (List.mem_cons_self ..)
  have hb1 : 48 ≤ b.toNat ∧ b.toNat ≤ 57 := by simp [Tk.isD] at hb; omega
  have n45 : (b == 45) = false := by
   cases h : (b == 45)
   · rfl
   · have : b = 45 := by simpa using h
     subst this
     exact absurd hb1.1 (by decide)
  have n43 : (b == 43) = false := by
   cases h : (b == 43)
   · rfl
   · have : b = 43 := by simpa using h
     subst this
     exact absurd hb1.1 (by decide)
  unfold Lib.atoi
  simp only [n45, n43, Bool.false_eq_true, if_false, Lib.decNat, List.isEmpty_cons, hn, Option.map_some]
theorem Tp.fine (s : ByteArray) (h : (Tk.scanR s).2.2 = 0) : Tp.Fine (Tp.toks s (Tk.scanR s).1) := by
 have hm := Tp.scan_6000 s h
 refine ⟨by have := Tp.toks_len s h; omega, fun i hi => ?_, fun i => ?_⟩
 · by_cases hl : i < (Tp.toks s (Tk.scanR s).1).length
   · have hx := List.getElem?_eq_getElem hl
     rw [Tp.tk_some hx] at hi ⊢
     have hg := Tp.good s h _ (List.getElem_mem hl)
     rw [hi] at hg
     obtain ⟨n, _, h2, h3, h4, _⟩ := Tp.num_tok hg
     exact ⟨n, h2, h3, by omega⟩
   · rw [Tp.tk_none (by omega)] at hi
     cases hi
 · by_cases hl : i < (Tp.toks s (Tk.scanR s).1).length
   · have hx := List.getElem?_eq_getElem hl
     rw [Tp.tk_some hx]
     generalize (Tp.toks s (Tk.scanR s).1)[i] = x at *
     unfold Tp.toks at hx
     rw [List.getElem?_map] at hx
     cases hy : (Tk.scanR s).1[i]? with
     | none => rw [hy] at hx; cases hx
     | some y =>
      rw [hy] at hx
      simp at hx
      subst hx
      show (s.extract _ _).size ≤ maxLen
      rw [ByteArray.size_extract]
      unfold maxLen
      omega
   · rw [Tp.tk_none (by omega)]
     show (0 : Nat) ≤ maxLen
     omega
theorem Tp.own_lt {w : World} {base : Nat} {e : TypeId} {size : Nat} {ad : Option Addr} {n m cap : Nat} {xs : List Value} (h : w.ownsRow base e size (.slice ad m cap) n xs) : ∀ b o, ad = some ⟨b, o, none⟩ → b < w.heap.size := by
 intro b o hb
 rcases h.2 with ⟨hv, hn⟩ | ⟨g, cap, cur, hv, hg, hh, r⟩
 · cases hv; cases hb
 · cases hv
   cases hb
   exact (Array.getElem?_eq_some_iff.1 hh).1
def Tp.out (s : ByteArray) : Except (Int × Nat) (List (Tk.FT 61 6000)) :=
 if (Tk.scanR s).2.2 = 0 then
  match Tp.tree (Tp.toks s (Tk.scanR s).1) (s.size : Int) 6000 with
  | .error j => .error (Tp.pl (Tp.toks s (Tk.scanR s).1) (s.size : Int) j, 1)
  | .ok x => if Tk.chkT x = 0 then .ok x else .error (0, Tk.chkT x)
 else .error (((Tk.scanR s).2.1 : Int), (Tk.scanR s).2.2)
end Go.Proofs.YtfccpddehpgfoaaGreatDoor
namespace Go.Proofs.YtfccpddehpgfoaaGreatDoor
open Go.RowKit
set_option linter.unusedVariables false
def Tk.smallT : ByteArray := ⟨#[102, 117, 110, 99, 32, 102, 40, 97, 41, 32, 123, 10, 32, 32, 114, 101, 116, 117, 114, 110, 32, 40, 97, 32, 43, 32, 49, 41, 59, 10, 125, 10, 109, 97, 105, 110, 32, 123, 10, 32, 32, 118, 97, 114, 32, 120, 59, 10, 32, 32, 120, 32, 61, 32, 102, 40, 50, 41, 59, 10, 32, 32, 112, 114, 105, 110, 116, 32, 120, 59, 10, 125, 10]⟩
def Tk.kindC {m : Nat} : (n : Nat) → Tk.CT m n → Int
 | 0, _ => 0
 | _ + 1, c => c.1.1
def Tk.otherC {m : Nat} : (n : Nat) → Tk.CT m n → ByteArray
 | 0, _ => ⟨#[]⟩
 | _ + 1, c => c.1.2.2.2
def Tk.begunL {m n : Nat} (x : List (Tk.FT m n)) : Bool := decide (x.length = 2) && match x[1]? with
 | none => false
 | some f => decide (f.cs.length = 2) && match f.cs[0]? with
  | none => false
  | some c => decide (Tk.kindC n c = 3) && (Tk.otherC n c).toList == [102]
def Tk.smallR : Bool := match Tp.out Tk.smallT with
 | .error _ => false
 | .ok x => Tk.begunL x && decide (Tk.chkT x = 0)
theorem Tk.small_ok : Tk.smallR = true := by decide +kernel
end Go.Proofs.YtfccpddehpgfoaaGreatDoor
namespace Go.Proofs.YtfccpddehpgfoaaGreatDoor
open Go.RowKit
set_option linter.unusedVariables false
theorem Tk.RC.kind {W : World} {m : Nat} : ∀ (n : Nat) {C : Tk.C} {c : Tk.CT m n}, Tk.RC W m n C c → C.k = Tk.kindC n c ∧ C.ot = Tk.otherC n c
 | 0, _, _, h => absurd h id
 | _ + 1, _, _, h => ⟨h.1.1.1, h.1.1.2.2.2⟩
theorem Tk.small_is : ∃ x f c, Tp.out Tk.smallT = .ok x ∧ x.length = 2 ∧ x[1]? = some f ∧ f.cs.length = 2 ∧ f.cs[0]? = some c ∧ Tk.kindC 6000 c = 3 ∧ ((Tk.otherC 6000 c).toList == [102]) = true ∧ Tk.chkT x = 0 := by
 have h := Tk.small_ok
 unfold Tk.smallR at h
 cases ho : Tp.out Tk.smallT with
 | error e => rw [ho] at h; cases h
 | ok x =>
  rw [ho] at h
  dsimp only at h
  rw [Bool.and_eq_true, decide_eq_true_eq] at h
  obtain ⟨h1, h2⟩ := h
  unfold Tk.begunL at h1
  rw [Bool.and_eq_true, decide_eq_true_eq] at h1
  obtain ⟨h3, h4⟩ := h1
  cases hf : x[1]? with
  | none => rw [hf] at h4; cases h4
  | some f =>
   rw [hf] at h4
   dsimp only at h4
   rw [Bool.and_eq_true, decide_eq_true_eq] at h4
   obtain ⟨h5, h6⟩ := h4
   cases hc : f.cs[0]? with
   | none => rw [hc] at h6; cases h6
   | some c =>
    rw [hc] at h6
    dsimp only at h6
    rw [Bool.and_eq_true, decide_eq_true_eq] at h6
    exact ⟨x, f, c, rfl, h3, hf, h5, hc, h6.1, h6.2, h2⟩
end Go.Proofs.YtfccpddehpgfoaaGreatDoor
