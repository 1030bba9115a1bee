/-
  The contract of log's wayTo. By the verifier.
-/
import Derived.Test.YtpabpcojiaklfaaLWay
namespace Go.Proofs.Ytpabpcojiaklfaa
open Go.RowKit
set_option linter.unusedVariables false

/-- A disk of the way, that lies. -/
structure Lg.El (W : World) (bn bw : Nat) (v A0 A1 : Value) (ks : List ByteArray) (ws : List (Int × ByteArray)) : Prop where
  lies : ∃ g c b e, A0 = .slice (some ⟨g, 0, none⟩) ks.length c ∧ A1 = .slice b ws.length e ∧ Dk.RK W (some ⟨g, 0, none⟩) ks ∧ Dk.RW W b ws ∧ ks.length ≤ c ∧ (g < W.heap.size ∧ g ≠ bn ∧ bw < g ∧ v.ownBlock ≠ some g ∧ ∀ j, W.frozen? ⟨g, j, none⟩ = false) ∧ (b = none ∨ ∃ g', b = some ⟨g', 0, none⟩ ∧ g' < W.heap.size ∧ g' ≠ bn ∧ bw < g' ∧ v.ownBlock ≠ some g' ∧ ∀ j, W.frozen? ⟨g', j, none⟩ = false)
theorem Lg.El.but {W W' : World} {bn bw : Nat} {v v' A0 A1 : Value} {ks : List ByteArray} {ws : List (Int × ByteArray)} (h : Lg.El W bn bw v A0 A1 ks ws) (hb : Lg.But bn bw v W W') (hv : ∀ q, v'.ownBlock = some q → v.ownBlock = some q ∨ W.heap.size ≤ q) : Lg.El W' bn bw v' A0 A1 ks ws := by
  obtain ⟨g, c, b, e, h1, h2, h3, h4, h5, ⟨h6, h7, h8, h9, hf⟩, h10⟩ := h.lies
  have hz := hb.size
  have n : ∀ q, q < W.heap.size → v.ownBlock ≠ some q → v'.ownBlock ≠ some q := fun q q1 q2 q3 => by
    rcases hv q q3 with h | h
    · exact q2 h
    · omega
  have hc : ∀ j, W'.cell? ⟨g, j, none⟩ = W.cell? ⟨g, j, none⟩ := fun j => World.cell?_of_block (a := ⟨g, j, none⟩) (hb.block g h6 h7 (Nat.ne_of_gt h8) h9)
  refine ⟨g, c, b, e, h1, h2, ⟨fun i s hi => ?_⟩, ⟨fun i s hi => ?_⟩, h5, ⟨by omega, h7, h8, n g h6 h9, fun j => (World.frozen?_of_block (a := ⟨g, j, none⟩) (hb.block g h6 h7 (Nat.ne_of_gt h8) h9)).trans (hf j)⟩, ?_⟩
  · obtain ⟨b1, o1, k1, k2, k3, k4⟩ := h3.at_ i s hi
    cases k1
    exact ⟨g, 0, rfl, by omega, by rw [hc]; exact k3, k4⟩
  · obtain ⟨b1, o1, k1, k2, k3, k4, k5⟩ := h4.at_ i s hi
    rcases h10 with h0 | ⟨g', h0, m1, m2, m3, m4, _⟩
    · rw [h0] at k1; cases k1
    rw [h0] at k1
    cases k1
    have hc' : ∀ j, W'.cell? ⟨b1, j, none⟩ = W.cell? ⟨b1, j, none⟩ := fun j => World.cell?_of_block (a := ⟨b1, j, none⟩) (hb.block b1 m1 m2 (Nat.ne_of_gt m3) m4)
    exact ⟨b1, 0, h0, by omega, by rw [hc']; exact k3, by rw [hc']; exact k4, k5⟩
  · rcases h10 with h0 | ⟨g', h0, m1, m2, m3, m4, m5⟩
    · exact Or.inl h0
    · exact Or.inr ⟨g', h0, by omega, m2, m3, n g' m1 m4, fun j => (World.frozen?_of_block (a := ⟨g', j, none⟩) (hb.block g' m1 m2 (Nat.ne_of_gt m3) m4)).trans (m5 j)⟩
theorem Lg.El.below {W W' : World} {bn bw : Nat} {v A0 A1 : Value} {ks : List ByteArray} {ws : List (Int × ByteArray)} (h : Lg.El W bn bw v A0 A1 ks ws) (hb : Below W.heap.size W W') : Lg.El W' bn bw v A0 A1 ks ws := h.but (Lg.But.below hb) (fun q hq => Or.inl hq)

theorem Lg.El.set2 {W : World} {bn bw b : Nat} {v A0 A1 : Value} {ks : List ByteArray} {ws : List (Int × ByteArray)} (h : Lg.El W bn bw v A0 A1 ks ws) (hd : Dk.D6 b W) (u0 u1 : Value) : Lg.El ((W.setCell ⟨b, 0, none⟩ u0).setCell ⟨b, 1, none⟩ u1) bn bw v A0 A1 ks ws := by
  obtain ⟨g, c, b', e, h1, h2, h3, h4, h5, ⟨h6, h7, h8, h9, hf⟩, h10⟩ := h.lies
  refine ⟨g, c, b', e, h1, h2, ?_, ?_, h5, ⟨by simpa using h6, h7, h8, h9, fun j => by rw [World.frozen?_setCell, World.frozen?_setCell]; exact hf j⟩, ?_⟩
  · cases ks with
    | nil => exact ⟨fun i s hi => by simp at hi⟩
    | cons t l => exact h3.set2 (Dk.ne_rk hd h3) _ _
  · cases ws with
    | nil => exact ⟨fun i s hi => by simp at hi⟩
    | cons t l =>
      rcases h10 with h0 | ⟨g', h0, _⟩
      · obtain ⟨b1, o1, k1, _⟩ := h4.at_ 0 t rfl
        rw [h0] at k1; cases k1
      · subst h0
        exact h4.set2 (Dk.ne_rw hd h4) _ _
  · rcases h10 with h0 | ⟨g', h0, m1, m2⟩
    · exact Or.inl h0
    · exact Or.inr ⟨g', h0, by simpa using m1, m2.1, m2.2.1, m2.2.2.1, fun j => by rw [World.frozen?_setCell, World.frozen?_setCell]; exact m2.2.2.2 j⟩

/-- A way: its disks, one behind the other. -/
structure Lg.Wy (W : World) (bn bw : Nat) (v : Value) (cs : List Value) (ds : List (List ByteArray × List (Int × ByteArray))) : Prop where
  len : cs.length = ds.length * 2
  at_ : ∀ j d, ds[j]? = some d → ∃ A0 A1, cs[j * 2]? = some A0 ∧ cs[j * 2 + 1]? = some A1 ∧ Lg.El W bn bw v A0 A1 d.1 d.2
theorem Lg.Wy.but {W W' : World} {bn bw : Nat} {v v' : Value} {cs : List Value} {ds : List (List ByteArray × List (Int × ByteArray))} (h : Lg.Wy W bn bw v cs ds) (hb : Lg.But bn bw v W W') (hv : ∀ q, v'.ownBlock = some q → v.ownBlock = some q ∨ W.heap.size ≤ q) : Lg.Wy W' bn bw v' cs ds :=
  ⟨h.len, fun j d hj => by
    obtain ⟨A0, A1, h1, h2, h3⟩ := h.at_ j d hj
    exact ⟨A0, A1, h1, h2, h3.but hb hv⟩⟩
theorem Lg.Wy.below {W W' : World} {bn bw : Nat} {v : Value} {cs : List Value} {ds : List (List ByteArray × List (Int × ByteArray))} (h : Lg.Wy W bn bw v cs ds) (hb : Below W.heap.size W W') : Lg.Wy W' bn bw v cs ds := h.but (Lg.But.below hb) (fun q hq => Or.inl hq)
theorem Lg.Wy.set2 {W : World} {bn bw b : Nat} {v : Value} {cs : List Value} {ds : List (List ByteArray × List (Int × ByteArray))} (h : Lg.Wy W bn bw v cs ds) (hd : Dk.D6 b W) (u0 u1 : Value) : Lg.Wy ((W.setCell ⟨b, 0, none⟩ u0).setCell ⟨b, 1, none⟩ u1) bn bw v cs ds :=
  ⟨h.len, fun j d hj => by
    obtain ⟨A0, A1, h1, h2, h3⟩ := h.at_ j d hj
    exact ⟨A0, A1, h1, h2, h3.set2 hd _ _⟩⟩
theorem Lg.Wy.nil (W : World) (bn bw : Nat) (v : Value) : Lg.Wy W bn bw v [] [] := ⟨rfl, fun j d h => by simp at h⟩
theorem Lg.Wy.snoc {W : World} {bn bw : Nat} {v A0 A1 : Value} {cs : List Value} {ds : List (List ByteArray × List (Int × ByteArray))} {d : List ByteArray × List (Int × ByteArray)} (h : Lg.Wy W bn bw v cs ds) (hd : Lg.El W bn bw v A0 A1 d.1 d.2) : Lg.Wy W bn bw v (cs ++ [A0, A1]) (ds ++ [d]) := by
  have hl := h.len
  refine ⟨by simp [hl]; omega, fun j x hj => ?_⟩
  by_cases hjc : j < ds.length
  · rw [List.getElem?_append_left hjc] at hj
    obtain ⟨B0, B1, h1, h2, h3⟩ := h.at_ j x hj
    exact ⟨B0, B1, by rw [List.getElem?_append_left (by omega)]; exact h1, by rw [List.getElem?_append_left (by omega)]; exact h2, h3⟩
  · rw [List.getElem?_append_right (by omega)] at hj
    have hj0 : j - ds.length = 0 := by
      have := (List.getElem?_eq_some_iff.1 hj).1
      simp at this
      omega
    rw [hj0] at hj
    cases hj
    refine ⟨A0, A1, ?_, ?_, hd⟩
    · rw [List.getElem?_append_right (by omega), show j * 2 - cs.length = 0 by omega]; rfl
    · rw [List.getElem?_append_right (by omega), show j * 2 + 1 - cs.length = 1 by omega]; rfl

/-- The writes of sectors. -/
def Lg.wrs (o : Nat) (ss : List ByteArray) : List (Int × ByteArray) := ss.mapIdx fun i s => (((o + i : Nat) : Int), s)
theorem Lg.wrs_len (o : Nat) (ss : List ByteArray) : (Lg.wrs o ss).length = ss.length := by unfold Lg.wrs; simp
theorem Lg.wrs_at (o : Nat) (ss : List ByteArray) (i : Nat) (s : ByteArray) (h : ss[i]? = some s) : (Lg.wrs o ss).take (i + 1) = (Lg.wrs o ss).take i ++ [(((o + i : Nat) : Int), s)] := by
  rw [List.take_add_one]
  congr 1
  unfold Lg.wrs
  simp [h]
/-- The way's disks up to the first flush. -/
def Lg.wayA (ks : List ByteArray) (o : Nat) (ss : List ByteArray) (i : Nat) : List (List ByteArray × List (Int × ByteArray)) := (List.range i).map fun j => (ks, (Lg.wrs o ss).take (j + 1))
theorem Lg.wayA_succ (ks : List ByteArray) (o : Nat) (ss : List ByteArray) (i : Nat) : Lg.wayA ks o ss (i + 1) = Lg.wayA ks o ss i ++ [(ks, (Lg.wrs o ss).take (i + 1))] := by
  unfold Lg.wayA
  rw [List.range_succ]
  simp
theorem Lg.wayA_len (ks : List ByteArray) (o : Nat) (ss : List ByteArray) (i : Nat) : (Lg.wayA ks o ss i).length = i := by unfold Lg.wayA; simp
/-- What is kept behind the first flush, and at the end. -/
def Lg.ks1 (ks : List ByteArray) (o : Nat) (ss : List ByteArray) : List ByteArray := Dk.keptTo (fun _ => true) ks (Lg.wrs o ss) (Lg.wrs o ss).length
def Lg.ks2 (ks : List ByteArray) (o : Nat) (ss : List ByteArray) (h : ByteArray) : List ByteArray := Dk.keptTo (fun _ => true) (Lg.ks1 ks o ss) [(0, h)] 1
/-- The whole way. -/
def Lg.way (ks : List ByteArray) (o : Nat) (ss : List ByteArray) (h : ByteArray) : List (List ByteArray × List (Int × ByteArray)) :=
  Lg.wayA ks o ss ss.length ++ [(Lg.ks1 ks o ss, [])] ++ [(Lg.ks1 ks o ss, [(0, h)])] ++ [(Lg.ks2 ks o ss h, [])]

theorem Dk.keptTo_none (ks : List ByteArray) (ws : List (Int × ByteArray)) : ∀ k, Dk.keptTo (fun i => (([] : List Bool)[i]?).getD false) ks ws k = ks
  | 0 => rfl
  | k + 1 => by
    cases hx : ws[k]? with
    | none =>
      show (match ws[k]? with | some x => _ | none => _) = _
      rw [hx]
      exact Dk.keptTo_none ks ws k
    | some x =>
      rw [Dk.keptTo_step _ ks ws k x hx, if_neg (by simp)]
      exact Dk.keptTo_none ks ws k

theorem Lg.But.bel {B bn bw : Nat} {v : Value} {w W W' : World} (h : Below B w W) (hb : Lg.But bn bw v W W') (h1 : B ≤ bn) (h2 : B ≤ bw) (h3 : ∀ q, v.ownBlock = some q → B ≤ q) (h4 : B ≤ W.heap.size) : Below B w W' :=
  h.trans ⟨hb.os, hb.tape, hb.output, hb.size, fun q hq => hb.block q (by omega) (by omega) (by omega) (fun e => by have := h3 q e; omega)⟩
theorem Lg.El.new {W W' : World} {B bn bw k : Nat} {N0 N1 v : Value} {cs : List Value} {ks : List ByteArray} {ws : List (Int × ByteArray)} {q1 c1 n1 : Nat} {b : Option Addr} {e : Nat} (hst : Lg.St W B bn bw N0 N1 v k cs) (hk : Dk.RK W' (some ⟨q1, 0, none⟩) ks) (hw : Dk.RW W' b ws) (h1 : W.heap.size ≤ q1) (hq : q1 < W'.heap.size) (hc : ks.length ≤ c1) (hf : ∀ j, W'.frozen? ⟨q1, j, none⟩ = false) (hn : n1 = ws.length) (hb : b = none ∨ ∃ q2, b = some ⟨q2, 0, none⟩ ∧ W.heap.size ≤ q2 ∧ q2 < W'.heap.size ∧ ∀ j, W'.frozen? ⟨q2, j, none⟩ = false) : Lg.El W' bn bw v (.slice (some ⟨q1, 0, none⟩) ks.length c1) (.slice b n1 e) ks ws := by
  have l1 : bn < W.heap.size := World.block_lt_of_cell? W _ hst.c0
  have l2 : bw < W.heap.size := World.block_lt_of_cell? W _ hst.d0
  have l : ∀ q, v.ownBlock = some q → q < W.heap.size := fun q hq => (hst.row.lt q hq).2
  refine ⟨q1, c1, b, e, rfl, by rw [hn], hk, hw, hc, ⟨hq, by omega, by omega, fun e => by have := l _ e; omega, hf⟩, ?_⟩
  rcases hb with h | ⟨q2, h, m1, m2, m3⟩
  · exact Or.inl h
  · exact Or.inr ⟨q2, h, m2, by omega, by omega, fun e => by have := l _ e; omega, m3⟩
theorem Lg.El.rk {W : World} {bn bw n c m e g : Nat} {b : Option Addr} {v : Value} {ks : List ByteArray} {ws : List (Int × ByteArray)} (h : Lg.El W bn bw v (.slice (some ⟨g, 0, none⟩) n c) (.slice b m e) ks ws) : Dk.RK W (some ⟨g, 0, none⟩) ks := by
  obtain ⟨g', c', b', e', h1, h2, h3, _⟩ := h.lies
  cases h1
  exact h3
theorem Lg.El.rw_ {W : World} {bn bw n c m e g : Nat} {b : Option Addr} {v : Value} {ks : List ByteArray} {ws : List (Int × ByteArray)} (h : Lg.El W bn bw v (.slice (some ⟨g, 0, none⟩) n c) (.slice b m e) ks ws) : Dk.RW W b ws := by
  obtain ⟨g', c', b', e', h1, h2, h3, h4, _⟩ := h.lies
  cases h2
  exact h4
theorem Dk.RK.blt {W : World} {g : Nat} {ks : List ByteArray} (h : Dk.RK W (some ⟨g, 0, none⟩) ks) (h1 : 1 ≤ ks.length) : g < W.heap.size := by
  obtain ⟨bb, oo, he, hgw, _, _⟩ := h.at_ 0 (ks[0]'(by omega)) (List.getElem?_eq_getElem (by omega))
  cases he
  exact hgw
theorem Dk.RW.blt {W : World} {g : Nat} {ks : List (Int × ByteArray)} (h : Dk.RW W (some ⟨g, 0, none⟩) ks) (h1 : 1 ≤ ks.length) : g < W.heap.size := by
  obtain ⟨bb, oo, he, hgw, _, _⟩ := h.at_ 0 (ks[0]'(by omega)) (List.getElem?_eq_getElem (by omega))
  cases he
  exact hgw
theorem Dk.chkWs_zero (n : Nat) : ∀ l : List (Int × ByteArray), (∀ x ∈ l, Dk.chkW n x = 0) → Dk.chkWs n l = 0
  | [], _ => rfl
  | x :: r, h => by
    unfold Dk.chkWs
    rw [h x List.mem_cons_self]
    exact Dk.chkWs_zero n r (fun y hy => h y (List.mem_cons_of_mem _ hy))
theorem Dk.chk_of {ks : List ByteArray} {ws : List (Int × ByteArray)} (h1 : 1 ≤ ks.length) (h2 : ks.length ≤ 600) (h3 : ∀ s ∈ ks, s.size = 32) (h4 : ws.length ≤ 600) (h5 : ∀ x ∈ ws, Dk.chkW ks.length x = 0) : Dk.chk ks ws = 0 := by
  unfold Dk.chk
  rw [if_pos ⟨h1, h2⟩, if_pos (List.all_eq_true.2 fun s hs => by simp [Dk.is32, h3 s hs]), if_neg (by omega)]
  exact Dk.chkWs_zero _ _ h5
theorem Dk.chkW_of {n : Nat} {i : Int} {s : ByteArray} (h1 : 0 ≤ i) (h2 : i < n) (h3 : s.size = 32) : Dk.chkW n (i, s) = 0 := by
  unfold Dk.chkW
  rw [if_pos (by simp [Dk.inn]; omega), if_pos (by simp [Dk.is32, h3])]
theorem Lg.wrs_chk (n o : Nat) (ss : List ByteArray) (hss : ∀ s ∈ ss, s.size = 32) (hol : o + ss.length ≤ n) : ∀ x ∈ Lg.wrs o ss, Dk.chkW n x = 0 := by
  intro x hx
  unfold Lg.wrs at hx
  obtain ⟨i, hi, rfl⟩ := List.mem_mapIdx.1 hx
  exact Dk.chkW_of (by omega) (by omega) (hss _ (List.getElem_mem _))

set_option maxRecDepth 100000 in
set_option maxHeartbeats 1600000 in
theorem wayTo_any (ka : Option Addr) (ks : List ByteArray) (kc : Nat) (wa : Option Addr) (ws : List (Int × ByteArray)) (wc : Nat) (o : Nat) (sa : Option Addr) (ss : List ByteArray) (sc : Nat) (h : ByteArray) (w : World)
    (hk : Dk.RK w ka ks) (hw : Dk.RW w wa ws) (hs : Dk.RK w sa ss) (hok : Dk.chk ks ws = 0) (hss : ∀ s ∈ ss, s.size = 32) (hh : h.size = 32) (hol : o + ss.length ≤ ks.length) (hsl : ss.length ≤ 61) :
    Calls Try.prog 42 #[.agg #[.slice ka ks.length kc, .slice wa ws.length wc], .int .i64 o, .slice sa ss.length sc, .string h] w fun e w' => ∃ g c cs bn bw, e = .returned (.slice (some ⟨g, 0, none⟩) (ss.length + 3) c) ∧ w'.ownsRow w.heap.size 29 2 (.slice (some ⟨g, 0, none⟩) (ss.length + 3) c) (ss.length + 3) cs ∧ Lg.Wy w' bn bw (.slice (some ⟨g, 0, none⟩) (ss.length + 3) c) cs (Lg.way ks o ss h) ∧ Below w.heap.size w w' ∧ w.heap.size ≤ bw := by
  obtain ⟨g1, g2, g3, _, _⟩ := Dk.chk_ok hok
  have h32 := Dk.all32 g3
  have HCR := hide (show ∀ W : World, Dk.RK W ka ks → Dk.RW W wa ws → Calls Try.prog 15 #[.agg #[.slice ka ks.length kc, .slice wa ws.length wc], .slice none 0 0] W fun e w' => ∃ g c, e = .returned (.tuple #[.agg #[.slice (some ⟨g, 0, none⟩) ks.length c, .slice none 0 0], .int .i64 0]) ∧ Dk.RK w' (some ⟨g, 0, none⟩) ks ∧ Below W.heap.size W w' ∧ W.heap.size ≤ g ∧ ks.length ≤ c ∧ (∀ j, w'.frozen? ⟨g, j, none⟩ = false) from fun W k1 k2 => by
    have := Crash_wr ka ks kc wa ws wc [] none 0 W k1 k2 ⟨fun i s hi => by simp at hi⟩ hok
    rw [Dk.keptTo_none] at this
    exact this.mono fun e w' ⟨g, c, h1, h2, h3, h4, h5, h6⟩ => ⟨g, c, h1, h2, h3, h4, h5, h6.fr⟩)
  have HWR := hide (show ∀ (i : Nat) (s : ByteArray) (g c : Nat) (b : Option Addr) (e : Nat) (W : World), ss[i]? = some s → Dk.RK W (some ⟨g, 0, none⟩) ks → Dk.RW W b ((Lg.wrs o ss).take i) → Calls Try.prog 32 #[.agg #[.slice (some ⟨g, 0, none⟩) ks.length c, .slice b i e], .int .i64 ((o : Int) + (i : Int)), .string s] W fun r w' => ∃ q1 c1 q2 c2, r = .returned (.tuple #[.agg #[.slice (some ⟨q1, 0, none⟩) ks.length c1, .slice (some ⟨q2, 0, none⟩) (i + 1) c2], .int .i64 0]) ∧ Dk.RK w' (some ⟨q1, 0, none⟩) ks ∧ Dk.RW w' (some ⟨q2, 0, none⟩) ((Lg.wrs o ss).take (i + 1)) ∧ Below W.heap.size W w' ∧ W.heap.size ≤ q1 ∧ W.heap.size ≤ q2 ∧ ks.length ≤ c1 ∧ (∀ j, w'.frozen? ⟨q1, j, none⟩ = false) ∧ (∀ j, w'.frozen? ⟨q2, j, none⟩ = false) from fun i s g c b e W hi k1 k2 => by
    have hil := (List.getElem?_eq_some_iff.1 hi).1
    have hlen : ((Lg.wrs o ss).take i).length = i := by rw [List.length_take, Lg.wrs_len]; omega
    have s32 := hss s (List.mem_of_getElem? hi)
    have hwe : Dk.wrE ks ((Lg.wrs o ss).take i) ((o : Int) + (i : Int)) s = 0 := by
      unfold Dk.wrE
      rw [if_pos (Dk.chk_of g1 g2 h32 (by omega) (fun x hx => Lg.wrs_chk _ o ss hss hol x (List.mem_of_mem_take hx))), if_pos (Dk.chkW_of (by omega) (by omega) s32), if_neg (by omega)]
    have := Write_wr (some ⟨g, 0, none⟩) ks c b ((Lg.wrs o ss).take i) e ((o : Int) + (i : Int)) s W k1 k2 hwe (by unfold maxLen; omega)
    rw [hlen, show ((o : Int) + (i : Int)) = ((o + i : Nat) : Int) by omega, ← Lg.wrs_at o ss i s hi] at this
    rw [show ((o : Int) + (i : Int)) = ((o + i : Nat) : Int) by omega]
    exact this)
  have hwl : (Lg.wrs o ss).take ss.length = Lg.wrs o ss := List.take_of_length_le (by rw [Lg.wrs_len]; omega)
  have hck : Dk.chk ks (Lg.wrs o ss) = 0 := Dk.chk_of g1 g2 h32 (by rw [Lg.wrs_len]; omega) (Lg.wrs_chk _ o ss hss hol)
  obtain ⟨K1, hK1⟩ : ∃ K1, Lg.ks1 ks o ss = K1 := ⟨_, rfl⟩
  obtain ⟨K2, hK2⟩ : ∃ K2, Lg.ks2 ks o ss h = K2 := ⟨_, rfl⟩
  have hK1l : K1.length = ks.length := by rw [← hK1]; exact Dk.keptTo_length _ _ _ _
  have hK2l : K2.length = ks.length := by rw [← hK2]; exact (Dk.keptTo_length _ _ _ _).trans (Dk.keptTo_length _ _ _ _)
  have hK132 : ∀ s ∈ K1, s.size = 32 := by rw [← hK1]; exact Dk.keptTo_32 _ hck _
  have HFL := hide (show ∀ (g c : Nat) (b : Option Addr) (e : Nat) (W : World), Dk.RK W (some ⟨g, 0, none⟩) ks → Dk.RW W b ((Lg.wrs o ss).take ss.length) → Calls Try.prog 26 #[.agg #[.slice (some ⟨g, 0, none⟩) ks.length c, .slice b ss.length e]] W fun r w' => ∃ q c1, r = .returned (.tuple #[.agg #[.slice (some ⟨q, 0, none⟩) K1.length c1, .slice none 0 0], .int .i64 0]) ∧ Dk.RK w' (some ⟨q, 0, none⟩) K1 ∧ Below W.heap.size W w' ∧ W.heap.size ≤ q ∧ K1.length ≤ c1 ∧ (∀ j, w'.frozen? ⟨q, j, none⟩ = false) from fun g c b e W k1 k2 => by
    rw [hwl] at k2
    have := Flush_wr (some ⟨g, 0, none⟩) ks c b (Lg.wrs o ss) e W k1 k2 hck
    rw [show Dk.keptTo (fun _ => true) ks (Lg.wrs o ss) (Lg.wrs o ss).length = K1 from hK1, Lg.wrs_len] at this
    rw [hK1l]
    exact this.mono fun e w' ⟨g, c, h1, h2, h3, h4, h5, h6⟩ => ⟨g, c, h1, h2, h3, h4, h5, h6.fr⟩)
  have HW0 := hide (show ∀ (g c : Nat) (W : World), Dk.RK W (some ⟨g, 0, none⟩) K1 → Calls Try.prog 32 #[.agg #[.slice (some ⟨g, 0, none⟩) K1.length c, .slice none 0 0], .int .i64 0, .string h] W fun r w' => ∃ q1 c1 q2 c2, r = .returned (.tuple #[.agg #[.slice (some ⟨q1, 0, none⟩) K1.length c1, .slice (some ⟨q2, 0, none⟩) 1 c2], .int .i64 0]) ∧ Dk.RK w' (some ⟨q1, 0, none⟩) K1 ∧ Dk.RW w' (some ⟨q2, 0, none⟩) [(0, h)] ∧ Below W.heap.size W w' ∧ W.heap.size ≤ q1 ∧ W.heap.size ≤ q2 ∧ K1.length ≤ c1 ∧ (∀ j, w'.frozen? ⟨q1, j, none⟩ = false) ∧ (∀ j, w'.frozen? ⟨q2, j, none⟩ = false) from fun g c W k1 => by
    have hwe : Dk.wrE K1 [] 0 h = 0 := by
      unfold Dk.wrE
      rw [if_pos (Dk.chk_of (by omega) (by omega) hK132 (by simp) (fun x hx => by simp at hx)), if_pos (Dk.chkW_of (by omega) (by omega) hh)]
      rfl
    exact Write_wr (some ⟨g, 0, none⟩) K1 c none [] 0 0 h W k1 (Dk.RW.nil _ _) hwe (by unfold maxLen; omega))
  have HF2 := hide (show ∀ (g c g' c' : Nat) (W : World), Dk.RK W (some ⟨g, 0, none⟩) K1 → Dk.RW W (some ⟨g', 0, none⟩) [(0, h)] → Calls Try.prog 26 #[.agg #[.slice (some ⟨g, 0, none⟩) K1.length c, .slice (some ⟨g', 0, none⟩) 1 c']] W fun r w' => ∃ q c1, r = .returned (.tuple #[.agg #[.slice (some ⟨q, 0, none⟩) K2.length c1, .slice none 0 0], .int .i64 0]) ∧ Dk.RK w' (some ⟨q, 0, none⟩) K2 ∧ Below W.heap.size W w' ∧ W.heap.size ≤ q ∧ K2.length ≤ c1 ∧ (∀ j, w'.frozen? ⟨q, j, none⟩ = false) from fun g c g' c' W k1 k2 => by
    have := Flush_wr (some ⟨g, 0, none⟩) K1 c (some ⟨g', 0, none⟩) [(0, h)] c' W k1 k2 (Dk.chk_of (by omega) (by omega) hK132 (by simp) (fun x hx => by simp at hx; subst hx; exact Dk.chkW_of (by omega) (by omega) hh))
    rw [show Dk.keptTo (fun _ => true) K1 [(0, h)] [((0 : Int), h)].length = K2 by rw [← hK2, ← hK1]; rfl] at this
    rw [show K2.length = K1.length by omega]
    exact this.mono fun e w' ⟨g, c, h1, h2, h3, h4, h5, h6⟩ => ⟨g, c, h1, h2, h3, h4, h5, h6.fr⟩)
  have HWAY := hide (show Lg.way ks o ss h = Lg.wayA ks o ss ss.length ++ [(K1, [])] ++ [(K1, [(0, h)])] ++ [(K2, [])] by rw [← hK1, ← hK2]; rfl)
  have HK := hide hk
  have HW := hide hw
  have HS := hide hs
  have HSS := hide hss
  have hK1p : 1 ≤ K1.length := by omega
  have hK2p : 1 ≤ K2.length := by omega
  clear hK1 hK2 hK132 hck hwl hK1l hK2l
  clear hk hw hs hok hss h32 g3
  go_enter Try.func42, Try.ntmps42
  go_wp2_with fail
  have hb0 := ((Below.refl w.heap.size w).alloc (Nat.le_refl _) (Obj.cells #[.slice ka ks.length kc, .slice wa ws.length wc] 29)).alloc (by simp only [World.size_alloc]; omega) (Obj.cells #[.slice none 0 0] 36)
  refine ((unhide HCR) _ ((unhide HK).later hb0 (Nat.le_refl _)) ((unhide HW).later hb0 (Nat.le_refl _))).mono ?_
  rintro e w1 ⟨g, c, rfl, hrk1, hb1, hg1, hc1, hfr1⟩
  have hz1 := hb1.size
  simp at hz1 hg1
  have HB1 := hide (hb0.trans (hb1.mono (by simp; omega)))
  have hd0 : w1.cell? ⟨w.heap.size + 1, 0, none⟩ = some (.slice none 0 0) := (hb1.cell (p := ⟨w.heap.size + 1, 0, none⟩) (by simp)).trans (by go_simp)
  have hdf : w1.frozen? ⟨w.heap.size + 1, 0, none⟩ = false := (hb1.frozen (p := ⟨w.heap.size + 1, 0, none⟩) (by simp)).trans (by go_simp)
  obtain ⟨s0, hs0⟩ : ∃ s0, ks[0]? = some s0 := ⟨ks[0]'(by omega), List.getElem?_eq_getElem (by omega)⟩
  obtain ⟨bb, oo, he, hgw, _, _⟩ := hrk1.at_ 0 s0 hs0
  cases he
  have HRK1 := hide hrk1
  have HST := hide (show Lg.St (w1.alloc (Obj.cells #[.slice (some ⟨g, 0, none⟩) ks.length c, .slice none 0 0] 29)) (w1.heap.size + 1) w1.heap.size (w.heap.size + 1) (.slice (some ⟨g, 0, none⟩) ks.length c) (.slice none 0 0) (.slice none 0 0) 0 [] from
    ⟨by go_simp, by go_simp, by go_simp, by go_simp, Dk.cell_alloc hd0, by rw [World.frozen?_of_block (w := w1) (a := ⟨w.heap.size + 1, 0, none⟩)]; exact hdf; exact (((Below.refl w1.heap.size w1).alloc (Nat.le_refl _) _).block _ (by show w.heap.size + 1 < _; omega)), World.ownsRow_nil _ _ _ _⟩)
  have HEL := hide (show Lg.El (w1.alloc (Obj.cells #[.slice (some ⟨g, 0, none⟩) ks.length c, .slice none 0 0] 29)) w1.heap.size (w.heap.size + 1) (.slice none 0 0) (.slice (some ⟨g, 0, none⟩) ks.length c) (.slice none 0 0) ks [] from
    ⟨g, c, none, 0, rfl, rfl, hrk1.alloc _, Dk.RW.nil _ _, hc1, ⟨by simp; omega, by omega, by omega, by simp [Value.ownBlock], fun j => (((Below.refl w1.heap.size w1).alloc (Nat.le_refl _) _).frozen (p := ⟨g, j, none⟩) (by show g < _; omega)).trans (hfr1 j)⟩, Or.inl rfl⟩)
  clear hb1 hb0 hs0 hrk1 hfr1
  go_wp2_with fail
  go_loopw [23] (fun v wr => ∃ (i : Nat) (N0 N1 : Value) (av : Option Addr) (cv : Nat) (cs : List Value), i ≤ ss.length ∧ v = .int .i64 (i : Nat) ∧ Lg.St wr (w1.heap.size + 1) w1.heap.size (w.heap.size + 1) N0 N1 (.slice av i cv) i cs ∧ Lg.Wy wr w1.heap.size (w.heap.size + 1) (.slice av i cv) cs (Lg.wayA ks o ss i) ∧ Lg.El wr w1.heap.size (w.heap.size + 1) (.slice av i cv) N0 N1 ks ((Lg.wrs o ss).take i) ∧ Below w.heap.size w wr ∧ w1.heap.size + 1 ≤ wr.heap.size) (fun v _ => ss.length - (intOf v).toNat)
  case atStart => exact ⟨0, _, _, none, 0, [], Nat.zero_le _, rfl, unhide HST, Lg.Wy.nil _ _ _ _, unhide HEL, (unhide HB1).alloc (by omega) _, by simp⟩
  case round =>
    obtain ⟨i, N0, N1, av, cv, cs, hi, rfl, hst, hwy, hel, hbe, hzr⟩ := hrel
    have hel' := hel
    obtain ⟨gg, cg, bg, eg, rfl, rfl, hrk, hrw, hcg, _, _⟩ := hel.lies
    have hlen : ((Lg.wrs o ss).take i).length = i := by rw [List.length_take, Lg.wrs_len]; omega
    have hown : ∀ q, (Value.slice av i cv).ownBlock = some q → w1.heap.size + 1 ≤ q := fun q hq => (hst.row.lt q hq).1
    rw [hlen] at hst hel
    have x0 := hst.c0
    have x1 := hst.c1
    have HOWN := hide hown
    have HSTR := hide hst
    have HWY := hide hwy
    have HEL2 := hide hel
    have HRK := hide hrk
    have HRW := hide hrw
    have HBE := hide hbe
    have HLEN := hide hlen
    clear hst hwy hel hel' hrk hrw hbe hown hlen
    by_cases hin : i < ss.length
    · obtain ⟨s, hs⟩ : ∃ s, ss[i]? = some s := ⟨ss[i], List.getElem?_eq_getElem hin⟩
      obtain ⟨b, oo, rfl, hb, d0, _⟩ := ((unhide HS).later (unhide HBE) (Nat.le_refl _)).at_ i s hs
      have HSI := hide hs
      clear hs
      have hk1 : (0 : Int) ≤ (i : Int) := by omega
      have hk2 : (i : Int) < (ss.length : Int) := by omega
      go_wp2_with fail
      refine ((unhide HWR) i s gg cg bg eg _ (unhide HSI) (unhide HRK) (unhide HRW)).mono ?_
      rintro r w3 ⟨q1, c1, q2, c2, rfl, hrk3, hrw3, hb3, hq1, hq2, hc3, hfa, hfb⟩
      have hz3 := hb3.size
      have HEN := hide (Lg.El.new (e := c2) (n1 := i + 1) (unhide HSTR) hrk3 hrw3 hq1 (hrk3.blt g1) hc3 hfa (by rw [List.length_take, Lg.wrs_len]; omega) (Or.inr ⟨q2, rfl, hq2, hrw3.blt (by rw [List.length_take, Lg.wrs_len]; omega), hfb⟩))
      have HST3 := hide ((unhide HSTR).below hb3)
      have HWY3 := hide ((unhide HWY).below hb3)
      have HB3 := hide ((unhide HBE).trans (hb3.mono (unhide HBE).size))
      have hzz := (unhide HBE).size
      clear hb3 hrk3 hrw3 x0 x1 d0 hfa hfb
      go_wp2_with fail
      refine (step_any (some ⟨q1, 0, none⟩) (some ⟨q2, 0, none⟩) ks.length (i + 1) c1 c2 0 w1.heap.size (w.heap.size + 1) (w1.heap.size + 1) i _ _ av cv cs _ (unhide HST3) (by omega) (by omega) (by omega) (by omega) (by omega)).mono ?_
      rintro r w4 ⟨g4, c4, rfl, hst4, hor, hbut⟩
      have hv : ∀ q, (Value.slice (some ⟨g4, 0, none⟩) (i + 1) c4).ownBlock = some q → (Value.slice av i cv).ownBlock = some q ∨ w3.heap.size ≤ q := fun q hq => by cases hq; exact hor
      have HWY4 := hide (((unhide HWY3).but hbut hv).snoc (d := (ks, (Lg.wrs o ss).take (i + 1))) ((unhide HEN).but hbut hv))
      have HEL4 := hide ((unhide HEN).but hbut hv)
      have HB4 := hide (Lg.But.bel (unhide HB3) hbut (by omega) (by omega) (fun q hq => by have := (unhide HOWN) q hq; omega) (by omega))
      have HST4 := hide hst4
      have hz4 := hbut.size
      clear hst4 hor hbut hv
      go_wp2_with fail
      refine ⟨⟨i + 1, _, _, some ⟨g4, 0, none⟩, c4, _, by omega, by go_num, unhide HST4, ?_, unhide HEL4, unhide HB4, by omega⟩, by simp [intOf]; omega⟩
      rw [Lg.wayA_succ]
      exact unhide HWY4
    · have hil : i = ss.length := by omega
      subst hil
      go_wp2_with fail
      refine ((unhide HFL) gg cg bg eg _ (unhide HRK) (unhide HRW)).mono ?_
      rintro r w3 ⟨q1, c1, rfl, hrk3, hb3, hq1, hc3, hfa⟩
      have hz3 := hb3.size
      have hzz := (unhide HBE).size
      have HEN := hide (Lg.El.new (e := 0) (n1 := 0) (b := none) (ws := []) (unhide HSTR) hrk3 (Dk.RW.nil _ _) hq1 (hrk3.blt (by omega)) hc3 hfa rfl (Or.inl rfl))
      have HST3 := hide ((unhide HSTR).below hb3)
      have HWY3 := hide ((unhide HWY).below hb3)
      have HB3 := hide ((unhide HBE).trans (hb3.mono hzz))
      clear hb3 hrk3 x0 x1 hfa
      go_wp2_with fail
      refine (step_any (some ⟨q1, 0, none⟩) none K1.length 0 c1 0 0 w1.heap.size (w.heap.size + 1) (w1.heap.size + 1) ss.length _ _ av cv cs _ (unhide HST3) (by omega) (by omega) (by omega) (by omega) (by omega)).mono ?_
      rintro r w4 ⟨g4, c4, rfl, hst4, hor, hbut⟩
      have hv : ∀ q, (Value.slice (some ⟨g4, 0, none⟩) (ss.length + 1) c4).ownBlock = some q → (Value.slice av ss.length cv).ownBlock = some q ∨ w3.heap.size ≤ q := fun q hq => by cases hq; exact hor
      have HWY4 := hide (((unhide HWY3).but hbut hv).snoc (d := (K1, [])) ((unhide HEN).but hbut hv))
      have HEL4 := hide ((unhide HEN).but hbut hv)
      have HB4 := hide (Lg.But.bel (unhide HB3) hbut (by omega) (by omega) (fun q hq => by have := (unhide HOWN) q hq; omega) (by omega))
      have HOW4 := hide (show ∀ q, (Value.slice (some ⟨g4, 0, none⟩) (ss.length + 1) c4).ownBlock = some q → w1.heap.size + 1 ≤ q from fun q hq => (hst4.row.lt q hq).1)
      have HST4 := hide hst4
      have hz4 := hbut.size
      have y0 := hst4.c0
      have y1 := hst4.c1
      clear hst4 hor hbut hv
      go_wp2_with fail
      refine ((unhide HW0) q1 c1 _ ?_).mono ?_
      · exact (unhide HEL4).rk
      rintro r w5 ⟨q5, c5, q6, c6, rfl, hrk5, hrw5, hb5, hq5, hq6, hc5, hfa, hfb⟩
      have hz5 := hb5.size
      have hzw4 := (unhide HB4).size
      have HEN5 := hide (Lg.El.new (e := c6) (n1 := 1) (unhide HST4) hrk5 hrw5 hq5 (hrk5.blt hK1p) hc5 hfa rfl (Or.inr ⟨q6, rfl, hq6, hrw5.blt (by simp), hfb⟩))
      have HST5 := hide ((unhide HST4).below hb5)
      have HWY5 := hide ((unhide HWY4).below hb5)
      have HB5 := hide ((unhide HB4).trans (hb5.mono hzw4))
      clear hb5 hrk5 hrw5 y0 y1 hfa hfb
      go_wp2_with fail
      refine (step_any (some ⟨q5, 0, none⟩) (some ⟨q6, 0, none⟩) K1.length 1 c5 c6 0 w1.heap.size (w.heap.size + 1) (w1.heap.size + 1) (ss.length + 1) _ _ (some ⟨g4, 0, none⟩) c4 _ _ (unhide HST5) (by omega) (by omega) (by omega) (by omega) (by omega)).mono ?_
      rintro r w6 ⟨g6, c7, rfl, hst6, hor, hbut⟩
      have hv : ∀ q, (Value.slice (some ⟨g6, 0, none⟩) (ss.length + 1 + 1) c7).ownBlock = some q → (Value.slice (some ⟨g4, 0, none⟩) (ss.length + 1) c4).ownBlock = some q ∨ w5.heap.size ≤ q := fun q hq => by cases hq; exact hor
      have HWY6 := hide (((unhide HWY5).but hbut hv).snoc (d := (K1, [(0, h)])) ((unhide HEN5).but hbut hv))
      have HEL6 := hide ((unhide HEN5).but hbut hv)
      have HB6 := hide (Lg.But.bel (unhide HB5) hbut (by omega) (by omega) (fun q hq => by have := (unhide HOW4) q hq; omega) (by omega))
      have HOW6 := hide (show ∀ q, (Value.slice (some ⟨g6, 0, none⟩) (ss.length + 1 + 1) c7).ownBlock = some q → w1.heap.size + 1 ≤ q from fun q hq => (hst6.row.lt q hq).1)
      have HST6 := hide hst6
      have hz6 := hbut.size
      have y0 := hst6.c0
      have y1 := hst6.c1
      clear hst6 hor hbut hv
      go_wp2_with fail
      refine ((unhide HF2) q5 c5 q6 c6 _ ?_ ?_).mono ?_
      · exact (unhide HEL6).rk
      · exact (unhide HEL6).rw_
      rintro r w7 ⟨q7, c8, rfl, hrk7, hb7, hq7, hc7, hfa⟩
      have hz7 := hb7.size
      have hzw6 := (unhide HB6).size
      have HEN7 := hide (Lg.El.new (e := 0) (n1 := 0) (b := none) (ws := []) (unhide HST6) hrk7 (Dk.RW.nil _ _) hq7 (hrk7.blt hK2p) hc7 hfa rfl (Or.inl rfl))
      have HST7 := hide ((unhide HST6).below hb7)
      have HWY7 := hide ((unhide HWY6).below hb7)
      have HB7 := hide ((unhide HB6).trans (hb7.mono hzw6))
      clear hb7 hrk7 y0 y1 hfa
      go_wp2_with fail
      refine (step_any (some ⟨q7, 0, none⟩) none K2.length 0 c8 0 0 w1.heap.size (w.heap.size + 1) (w1.heap.size + 1) (ss.length + 1 + 1) _ _ (some ⟨g6, 0, none⟩) c7 _ _ (unhide HST7) (by omega) (by omega) (by omega) (by omega) (by omega)).mono ?_
      rintro r w8 ⟨g8, c9, rfl, hst8, hor, hbut⟩
      have hv : ∀ q, (Value.slice (some ⟨g8, 0, none⟩) (ss.length + 1 + 1 + 1) c9).ownBlock = some q → (Value.slice (some ⟨g6, 0, none⟩) (ss.length + 1 + 1) c7).ownBlock = some q ∨ w7.heap.size ≤ q := fun q hq => by cases hq; exact hor
      have HWY8 := hide (((unhide HWY7).but hbut hv).snoc (d := (K2, [])) ((unhide HEN7).but hbut hv))
      have HB8 := hide (Lg.But.bel (unhide HB7) hbut (by omega) (by omega) (fun q hq => by have := (unhide HOW6) q hq; omega) (by omega))
      have HST8 := hide hst8
      have y0 := hst8.d0
      clear hst8 hor hbut hv
      go_wp2_with fail
      go_ret
      exact ⟨g8, c9, _, w1.heap.size, w.heap.size + 1, rfl, Dk.ow_base (unhide HST8).row (by omega), by rw [unhide HWAY]; exact unhide HWY8, unhide HB8, by omega⟩
end Go.Proofs.Ytpabpcojiaklfaa
