/-
  What LogOpens wants besides: lists of batches as rows of slices, and appends to them; Append on what lies there. By the verifier.
-/
import Derived.Test.YtpabpcojiaklfaaLIsStep
import Derived.Test.YtpabpcojiaklfaaLBegun
import Derived.Test.YtpabpcojiaklfaaDBegun
import Derived.Maps.AppendAt
import Derived.Deep.AppendSrc
namespace Go.Proofs.Ytpabpcojiaklfaa
open Go.RowKit
set_option linter.unusedVariables false

/-- Slices of batches, as they are read. -/
structure Lg.BE (W : World) (svs : List Value) (ls : List (List Ev)) : Prop where
  len : svs.length = ls.length
  one : ∀ u ∈ svs, u.oneCell' = true
  at_ : ∀ (j : Nat) (l : List Ev), ls[j]? = some l → ∃ a c, svs[j]? = some (Value.slice a l.length c) ∧ Cl.RE W a l
theorem Lg.BE.nil (W : World) : Lg.BE W [] [] := ⟨rfl, (fun u h => by simp at h), (fun j l h => by simp at h)⟩
theorem Lg.BE.snoc {W : World} {svs : List Value} {ls : List (List Ev)} (h : Lg.BE W svs ls) (a : Option Addr) (l : List Ev) (c : Nat) (hr : Cl.RE W a l) : Lg.BE W (svs ++ [.slice a l.length c]) (ls ++ [l]) := by
  have hl := h.len
  refine ⟨by simp [hl], fun u hu => ?_, fun j x hj => ?_⟩
  · rcases List.mem_append.1 hu with hu | hu
    · exact h.one u hu
    · simp at hu
      subst hu
      rfl
  · by_cases hjc : j < ls.length
    · rw [List.getElem?_append_left hjc] at hj
      obtain ⟨a', c', h1, h2⟩ := h.at_ j x hj
      exact ⟨a', c', by rw [List.getElem?_append_left (by omega)]; exact h1, h2⟩
    · rw [List.getElem?_append_right (by omega)] at hj
      have hj0 : j - ls.length = 0 := by
        have := (List.getElem?_eq_some_iff.1 hj).1
        simp at this
        omega
      rw [hj0] at hj
      simp at hj
      subst hj
      exact ⟨a, c, by rw [List.getElem?_append_right (by omega), show j - svs.length = 0 by omega]; rfl, hr⟩
/-- A row of them is a list of batches. -/
theorem Lg.BE.rl {W w : World} {B : Nat} {ad : Option Addr} {n c : Nat} {svs : List Value} {ls : List (List Ev)} (h : Lg.BE w svs ls) (hb : Below w.heap.size w W) (ho : W.ownsRow B 34 1 (.slice ad n c) n svs) : Lg.RL W ad ls := by
  refine ⟨fun i l hi => ?_⟩
  obtain ⟨a, k, h1, h2⟩ := h.at_ i l hi
  have hlen := ho.1
  have hil := (List.getElem?_eq_some_iff.1 h1).1
  obtain ⟨g, cap, hv, _, _⟩ := ho.form (by omega)
  cases hv
  have hc := ho.cells (g := g) rfl i _ h1
  rw [Dk.add_at, Nat.zero_add] at hc
  exact ⟨g, 0, a, k, rfl, World.block_lt_of_cell? W _ hc, by rw [Nat.zero_add]; exact hc, h2.later hb (Nat.le_refl _)⟩

theorem Lg.run_append_vals (ty : TypeId) (w : World) (base : Nat) (v : Value) (xs : List Value) (ho : w.ownsRow base 34 1 v xs.length xs) (ad : Option Addr) (c : Nat) (ys : List Value) (hr : ∀ (j : Nat) (y : Value), ys[j]? = some y → ∃ b o, ad = some ⟨b, o, none⟩ ∧ w.cell? ⟨b, o + j, none⟩ = some y) (hy : ∀ u ∈ ys, u.oneCell' = true) (hs : xs.length + ys.length ≤ 1000) (hbase : base ≤ w.heap.size) :
    ∃ v' w', (Builtin.append_ #[22, 22] ty #[v, .slice ad ys.length c]).run Try.prog w = .ok v' w' ∧ w'.ownsRow base 34 1 v' (xs ++ ys).length (xs ++ ys) ∧ w.grownBy w' v.ownBlock := by
  obtain ⟨i0, hi, hz0, hz1, hz2⟩ := info_of Try.infoBs
  cases ad with
  | none =>
    have hy0 : ys = [] := by
      cases ys with
      | nil => rfl
      | cons y r => obtain ⟨b, o, h, _⟩ := hr 0 y rfl; cases h
    subst hy0
    refine ⟨v, w, ?_, by simpa using ho, ⟨rfl, rfl, rfl, Nat.le_refl _, fun _ _ _ => rfl⟩⟩
    rcases ho.2 with ⟨rfl, _⟩ | ⟨g, cap, cur, rfl, _, hg, hn, _⟩
    · simp [Builtin.append_, run_underlying Try.underlying22, sizeOf, typeInfo, hi, Builtin.lenOf, Builtin.firstCells]
    · have := run_append_room_src (P := Try.prog) w 22 22 ty 34 i0 Try.underlying22 hi g 0 xs.length cap (.slice none 0 c) 0 [] (Src.ofNil w Try.underlying22 c) (by omega) (by simp) (by simp)
      simpa [World.setCells] using this
  | some a =>
    have hnews : ∀ j u, ys[j]? = some u → w.cell? (a.add j) = some u := fun j u hj => by
      obtain ⟨b, o, he, hc⟩ := hr j u hj
      cases he
      rw [Go.WideShapes.add_plain]
      exact hc
    obtain ⟨v', w', h1, h2, h3, _⟩ := run_append_own_at (P := Try.prog) w base 22 ty 34 i0 _ 1 24 Try.underlying22 hi hz0 hz1 hz2 rfl (by decide) v xs.length xs ho a ys.length c ys (by simp) hnews hy (by unfold maxLen; omega) (by omega) hbase
    exact ⟨v', w', h1, by rw [List.length_append]; exact h2, h3⟩
theorem Lg.owns_empty (w : World) : (w.alloc (Obj.cells #[] 34)).ownsRow w.heap.size 34 1 (.slice (some ⟨w.heap.size, 0, none⟩) 0 0) 0 [] :=
  ⟨rfl, .inr ⟨w.heap.size, 0, #[], rfl, Nat.le_refl _, heap_alloc_new w _, Nat.le_refl _, Nat.zero_le _, rfl, rfl⟩⟩
/-- An append, by what it does. -/
theorem Lg.wp_append_run {P : Program} {w w' : World} {ops : Array Oper} {rest : List Oper} {o : Oper} {a : Act} {Q : Exit → Act → World → Prop} (hg : o.guard = none) (s x : Operand) (t : TypeId)
    (ho : o.op = .call { callee := .builtin .append, args := #[s, x], argTypes := #[t, t] }) (v u v' : Value) (hs : a.eval s = v) (hx : a.eval x = u) (hr : (Builtin.append_ #[t, t] o.type #[v, u]).run P w = .ok v' w')
    (h : wpList P ops Q rest (a.put o.dst v') w') : wpList P ops Q (o :: rest) a w := by
  refine wpList_plain hg fun K hK => ?_
  unfold Oper.wp execOp
  simp only [ho, resolve, invoke, builtin, Sem.run_bind, Sem.run_pure, Result.andThen_ok, List.map_toArray, List.map_cons, List.map_nil, hs, hx, hr]
  exact hK _ _ h

theorem Lg.app_img (there : List (List Ev)) (free : List ByteArray) (l : List Ev) (hg : ∀ x ∈ there, Lg.Good x) (hn : there.length ≤ 1000) (hl : Lg.Good l) (hok : Dk.chk (Lg.img there free) [] = 0) : Lg.app (Lg.img there free) [] l = if free.length < l.length + 1 then .error 8 else .ok (there, free) := by
  unfold Lg.app
  rw [if_pos hok, if_neg (by have := hl.len; omega), if_pos hl.ok, Lg.batchesOf_img there free hg hn]

/-- Two lists of batches of which one is longer are not the same. -/
theorem SameBatches_no (ad bd : Option Addr) (n m cap dap : Nat) (w : World) (hn : n ≤ 1000) (hm : m ≤ 1000) (h : n ≠ m) :
    Calls Try.prog 17 #[.slice ad n cap, .slice bd m dap] w fun e w' => e = .returned (.bool false) ∧ w' = w := by
  have g : ((n : Int) != (m : Int)) = true := by simp; omega
  go_enter Try.func17, Try.ntmps17
  go_wp2_with fail
  go_ret
  exact ⟨rfl, rfl⟩

/-- What stands at the beginning of a round. -/
structure Lg.Rd (w : World) (n b9 k : Nat) (there : List (List Ev)) (free : List ByteArray) (svs : List Value) (g c : Nat) (tv : Value) (nd : Int) (wr : World) : Prop where
  len : there.length ≤ k
  good : ∀ l ∈ there, Lg.Good l
  free32 : ∀ s ∈ free, s.size = 32
  img : Lg.used there + free.length = n
  need : (Lg.used there : Int) + 3 ≤ nd
  needM : nd ≤ 4 + 62 * (k : Int)
  be : Lg.BE w svs there
  row : wr.ownsRow (b9 + 1) 34 1 tv there.length svs
  tva : ∃ a cc, tv = .slice a there.length cc
  var : Lg.Vr b9 (.slice (some ⟨g, 0, none⟩) n c) (.slice none 0 0) wr
  rk : Dk.RK wr (some ⟨g, 0, none⟩) (Lg.img there free)
  cap : n ≤ c
  b9lt : w.heap.size ≤ b9
  bel : Below w.heap.size w wr

theorem Lg.hd_size (n : Nat) : (Lg.hd n).size = 32 := Lg.sc_size _ _ rfl
theorem Lg.img32 {there : List (List Ev)} {free : List ByteArray} (h : ∀ s ∈ free, s.size = 32) : ∀ s ∈ Lg.img there free, s.size = 32 := by
  intro s hs
  unfold Lg.img at hs
  cases hs with
  | head => exact Lg.hd_size _
  | tail _ hs =>
    rcases List.mem_append.1 hs with hs | hs
    · obtain ⟨l, _, hs⟩ := List.mem_flatMap.1 hs
      exact Lg.laid_32 l s hs
    · exact h s hs
theorem Lg.img_chk {there : List (List Ev)} {free : List ByteArray} {n : Nat} (h : ∀ s ∈ free, s.size = 32) (hn : Lg.used there + free.length = n) (h6 : n ≤ 600) : Dk.chk (Lg.img there free) [] = 0 :=
  Dk.chk_of (by rw [Lg.img_len]; unfold Lg.used; omega) (by rw [Lg.img_len]; omega) (Lg.img32 h) (by simp) (by simp)

theorem Lg.Rd.next {w : World} {n b9 k : Nat} {there : List (List Ev)} {free : List ByteArray} {svs : List Value} {g c : Nat} {tv : Value} {nd : Int} {wr W : World} (h : Lg.Rd w n b9 k there free svs g c tv nd wr) (hb : Below wr.heap.size wr W) : Lg.Rd w n b9 (k + 1) there free svs g c tv nd W :=
  ⟨Nat.le_succ_of_le h.len, h.good, h.free32, h.img, h.need, by have := h.needM; omega, h.be, Cl.ow_below h.row hb, h.tva, h.var.below hb, h.rk.later hb (Nat.le_refl _), h.cap, h.b9lt, h.bel.trans (hb.mono h.bel.size)⟩

/-- What Append answers where there is room. -/
theorem lappend_ok {w : World} {n b9 k : Nat} {there : List (List Ev)} {free : List ByteArray} {svs : List Value} {g c : Nat} {tv : Value} {nd : Int} {wr : World} (h : Lg.Rd w n b9 k there free svs g c tv nd wr) (hk : k ≤ 1000) (h6 : n ≤ 600) (l : List Ev) (hl : Lg.Good l) (la : Option Addr) (lc : Nat) (hroom : l.length + 1 ≤ free.length) (W : World) (hb : Below wr.heap.size wr W) (hr : Cl.RE W la l) :
    Calls Try.prog 13 #[.agg #[.slice (some ⟨g, 0, none⟩) n c, .slice none 0 0], .slice la l.length lc] W fun e w' => ∃ g0 c0 gw cw, e = .returned (.tuple #[.agg #[.slice (some ⟨g0, 0, none⟩) n c0, .slice none 0 0], .slice (some ⟨gw, 0, none⟩) (l.length + 4) cw, .int .i64 0]) ∧
      Dk.RK w' (some ⟨g0, 0, none⟩) (Lg.img (there ++ [l]) (free.drop (Lg.laid l).length)) ∧ n ≤ c0 ∧ Lg.RD w' (some ⟨gw, 0, none⟩) (Lg.way (Lg.img there free) (Lg.used there) (Lg.laid l) (Lg.hd (there.length + 1))) ∧ Below W.heap.size W w' := by
  have hlen := Lg.img_len there free
  rw [h.img] at hlen
  have hn : there.length ≤ 1000 := by have := h.len; omega
  have hap := Lg.app_img there free l h.good hn hl (Lg.img_chk h.free32 h.img h6)
  rw [if_neg (by omega)] at hap
  have := Append_any (some ⟨g, 0, none⟩) (Lg.img there free) c none [] 0 l la lc W (h.rk.later hb (Nat.le_refl _)) (Dk.RW.nil _ _) (by rw [hlen]; exact h.cap) hr
  rw [hap, hlen] at this
  refine this.mono ?_
  rintro e w' ⟨hv, hbe⟩
  obtain ⟨g0, c0, gw, cw, cs, bn, bw, he, h1, h2, h3, h4, h5⟩ := hv
  have hu : n - free.length = Lg.used there := by have := h.img; omega
  have hll := Lg.laid_len l
  simp only [hlen, hu] at h1 h2 h5 he
  rw [hll] at h4 h5 he
  refine ⟨g0, c0, gw, cw, he, ?_, h2, ?_, hbe⟩
  · rw [← Lg.ks2_img there l free (by rw [hll]; exact hroom)]
    exact h1
  · exact Lg.RD.of h4 h5
theorem lappend_no {w : World} {n b9 k : Nat} {there : List (List Ev)} {free : List ByteArray} {svs : List Value} {g c : Nat} {tv : Value} {nd : Int} {wr : World} (h : Lg.Rd w n b9 k there free svs g c tv nd wr) (hk : k ≤ 1000) (h6 : n ≤ 600) (l : List Ev) (hl : Lg.Good l) (la : Option Addr) (lc : Nat) (hroom : free.length < l.length + 1) (W : World) (hb : Below wr.heap.size wr W) (hr : Cl.RE W la l) :
    Calls Try.prog 13 #[.agg #[.slice (some ⟨g, 0, none⟩) n c, .slice none 0 0], .slice la l.length lc] W fun e w' => e = .returned (.tuple #[.agg #[.slice none 0 0, .slice none 0 0], .slice none 0 0, .int .i64 8]) ∧ Below W.heap.size W w' := by
  have hlen := Lg.img_len there free
  rw [h.img] at hlen
  have hn : there.length ≤ 1000 := by have := h.len; omega
  have hap := Lg.app_img there free l h.good hn hl (Lg.img_chk h.free32 h.img h6)
  rw [if_pos hroom] at hap
  have := Append_any (some ⟨g, 0, none⟩) (Lg.img there free) c none [] 0 l la lc W (h.rk.later hb (Nat.le_refl _)) (Dk.RW.nil _ _) (by rw [hlen]; exact h.cap) hr
  rw [hap, hlen] at this
  exact this
theorem lwayIs_ok {w : World} {n b9 k : Nat} {there : List (List Ev)} {free : List ByteArray} {svs : List Value} {g c : Nat} {tv : Value} {nd : Int} {wr : World} (h : Lg.Rd w n b9 k there free svs g c tv nd wr) (h6 : n ≤ 600) (l : List Ev) (hl : Lg.Good l) (hroom : l.length + 1 ≤ free.length) (g0 c0 gw cw : Nat) (W : World) (hb : Below wr.heap.size wr W)
    (hx : Dk.RK W (some ⟨g0, 0, none⟩) (Lg.img (there ++ [l]) (free.drop (Lg.laid l).length))) (hc0 : n ≤ c0) (hd : Lg.RD W (some ⟨gw, 0, none⟩) (Lg.way (Lg.img there free) (Lg.used there) (Lg.laid l) (Lg.hd (there.length + 1)))) :
    Calls Try.prog 14 #[.agg #[.slice (some ⟨g, 0, none⟩) n c, .slice none 0 0], .slice (some ⟨gw, 0, none⟩) (l.length + 4) cw, .agg #[.slice (some ⟨g0, 0, none⟩) n c0, .slice none 0 0]] W fun e w' => e = .returned (.bool true) ∧ Below W.heap.size W w' := by
  have hlen := Lg.img_len there free
  rw [h.img] at hlen
  have hll := Lg.laid_len l
  have hl6 := hl.len
  have hlen2 : (Lg.img (there ++ [l]) (free.drop (Lg.laid l).length)).length = n := by
    rw [Lg.img_len, Lg.used_snoc, List.length_drop, hll]
    have := h.img
    omega
  have hwl := Lg.way_len (Lg.img there free) (Lg.used there) (Lg.laid l) (Lg.hd (there.length + 1))
  rw [hll] at hwl
  have h1 : 1 ≤ (Lg.img there free).length := by rw [hlen]; have := h.img; unfold Lg.used at this; omega
  have := wayIs_any (some ⟨g, 0, none⟩) (Lg.img there free) c (.slice none 0 0) (Lg.way (Lg.img there free) (Lg.used there) (Lg.laid l) (Lg.hd (there.length + 1))) (some ⟨gw, 0, none⟩) cw (Lg.img (there ++ [l]) (free.drop (Lg.laid l).length)) (.slice (some ⟨g0, 0, none⟩) n c0) none 0 W
    ⟨_, _, _, _, rfl, rfl, h.rk.later hb (Nat.le_refl _), Dk.RW.nil _ _, by rw [hlen]; exact h.cap⟩ hd ⟨_, _, _, _, by rw [hlen2], rfl, hx, Dk.RW.nil _ _, by rw [hlen2]; exact hc0⟩ (by rw [hlen2]; exact h6) (by rw [hwl]; omega) (by rw [hwl]; omega)
    (fun j d d' h2 h3 => Lg.way_step h1 (by rw [hlen]; exact h6) (Lg.img32 h.free32) (Lg.laid_32 l) (Lg.hd_size _) (by rw [hlen, hll]; have := h.img; omega) (by rw [hll]; omega) j d d' h2 h3)
    (by
      rw [hwl]
      have := Lg.way_last (Lg.img there free) (Lg.used there) (Lg.laid l) (Lg.hd (there.length + 1))
      rw [hll, Lg.ks2_img there l free (by rw [hll]; exact hroom)] at this
      exact this)
  rw [hlen, hwl] at this
  exact this
/-- Which disk of the way crashes. -/
def Lg.selB (zs : List Int) (k m : Nat) : Bool := match zs[k]? with
  | some x => decide (0 ≤ x) && decide (x < m)
  | none => false


theorem lcrash_ok {w : World} {n b9 k : Nat} {there : List (List Ev)} {free : List ByteArray} {svs : List Value} {g c : Nat} {tv : Value} {nd : Int} {wr : World} (h : Lg.Rd w n b9 k there free svs g c tv nd wr) (h6 : n ≤ 600) (l : List Ev) (hl : Lg.Good l) (hroom : l.length + 1 ≤ free.length) (j : Nat) (d : List ByteArray × List (Int × ByteArray))
    (hj : (Lg.way (Lg.img there free) (Lg.used there) (Lg.laid l) (Lg.hd (there.length + 1)))[j]? = some d) (B0 B1 : Value) (ps : List Bool) (ka : Option Addr) (kc : Nat) (W : World) (hd : Lg.DR W B0 B1 d) (hp : Dk.RB W ka ps) :
    Calls Try.prog 15 #[.agg #[B0, B1], .slice ka ps.length kc] W fun e w' => ∃ gy cy f, e = .returned (.tuple #[.agg #[.slice (some ⟨gy, 0, none⟩) n cy, .slice none 0 0], .int .i64 0]) ∧ W.heap.size ≤ gy ∧ n ≤ cy ∧ (∀ s ∈ f, s.size = 32) ∧
      ((Dk.RK w' (some ⟨gy, 0, none⟩) (Lg.img there f) ∧ f.length = free.length ∧ j < l.length + 3) ∨ (Dk.RK w' (some ⟨gy, 0, none⟩) (Lg.img (there ++ [l]) f) ∧ f.length + (l.length + 1) = free.length)) ∧ Below W.heap.size W w' := by
  have hlen := Lg.img_len there free
  rw [h.img] at hlen
  have hll := Lg.laid_len l
  have h1 : 1 ≤ (Lg.img there free).length := by rw [hlen]; have := h.img; unfold Lg.used at this; omega
  obtain ⟨hok, hdl⟩ := Lg.way_ok h1 (by rw [hlen]; exact h6) (Lg.img32 h.free32) (Lg.laid_32 l) (Lg.hd_size _) (by rw [hlen, hll]; have := h.img; omega) j d hj
  rw [hlen] at hdl
  obtain ⟨qa, qc, qb, qd, rfl, rfl, q1, q2, q3⟩ := hd.lies
  have hc := Lg.way_crash (fun i => (ps[i]?).getD false) there free l (by rw [hll]; exact hroom) h.free32 j d hj
  obtain ⟨f, f1, f2⟩ := hc
  have := Crash_own qa d.1 qc qb d.2 qd ps ka kc W q1 q2 hp hok
  rw [hdl] at this
  rw [hdl]
  refine this.mono ?_
  rintro e w' ⟨gy, cy, he, hr, hb, hg, hcy⟩
  refine ⟨gy, cy, f, he, hg, hcy, f1, ?_, hb⟩
  rcases f2 with ⟨f2, f3, f4⟩ | ⟨f2, f3⟩
  · exact Or.inl ⟨f2 ▸ hr, f3, by omega⟩
  · exact Or.inr ⟨f2 ▸ hr, by omega⟩
theorem lopen_ok (n : Nat) (h6 : n ≤ 600) (ths : List (List Ev)) (f : List ByteArray) (hg : ∀ l ∈ ths, Lg.Good l) (m : Nat) (hm : ths.length = m) (hn : m ≤ 1000) (hf : ∀ s ∈ f, s.size = 32) (hu : Lg.used ths + f.length = n) (gy cy : Nat) (hcy : n ≤ cy) (W : World) (hr : Dk.RK W (some ⟨gy, 0, none⟩) (Lg.img ths f)) :
    Calls Try.prog 16 #[.agg #[.slice (some ⟨gy, 0, none⟩) n cy, .slice none 0 0]] W fun e w' => ∃ a c, e = .returned (.tuple #[.slice a m c, .int .i64 0]) ∧ Lg.RL w' a ths ∧ Below W.heap.size W w' := by
  subst hm
  have hlen := Lg.img_len ths f
  rw [hu] at hlen
  have := Open_any (some ⟨gy, 0, none⟩) (Lg.img ths f) cy none [] 0 W hr (Dk.RW.nil _ _) (by rw [hlen]; exact hcy)
  rw [show Lg.opened (Lg.img ths f) [] = .ok ths by unfold Lg.opened; rw [if_pos (Lg.img_chk hf hu h6), Lg.batchesOf_img ths f hg hn], hlen] at this
  refine this.mono ?_
  rintro e w' ⟨⟨v, he, ⟨a, c, rfl⟩, hbb⟩, hb⟩
  exact ⟨a, c, he, hbb.rl, hb⟩
theorem lsame_eq (ls : List (List Ev)) (m : Nat) (hm : ls.length = m) (hn : m ≤ 1000) (hg : ∀ l ∈ ls, Lg.Good l) (ad bd : Option Addr) (cap dap : Nat) (w : World) (hr : Lg.RL w ad ls) (hr2 : Lg.RL w bd ls) :
    Calls Try.prog 17 #[.slice ad m cap, .slice bd m dap] w fun e w' => e = .returned (.bool true) ∧ Below w.heap.size w w' := by
  subst hm
  exact SameBatches_eq ls ad bd cap dap w hr hr2 (by omega) (fun l hl => by have := (hg l hl).len; omega)
/-- The list of batches with one more behind it, in a row of its own. -/
theorem lwhole {w : World} {n b9 k : Nat} {there : List (List Ev)} {free : List ByteArray} {svs : List Value} {g c : Nat} {ta : Option Addr} {tc : Nat} {nd : Int} {wr : World} (h : Lg.Rd w n b9 k there free svs g c (.slice ta there.length tc) nd wr) (hk : k ≤ 40) (l : List Ev) (la : Option Addr) (lc : Nat) (hl : Cl.RE w la l) (ty ty' : TypeId) (W : World) (hb : Below wr.heap.size wr W) :
    ∃ v1 w1 g2 c2 w2, (Builtin.append_ #[22, 22] ty #[.slice (some ⟨W.heap.size, 0, none⟩) 0 0, .slice ta there.length tc]).run Try.prog (W.alloc (Obj.cells #[] 34)) = .ok v1 w1 ∧
      (Builtin.append_ #[22, 22] ty' #[v1, .slice (some ⟨w1.heap.size, 0, none⟩) 1 1]).run Try.prog (w1.alloc (Obj.cells #[.slice la l.length lc] 34)) = .ok (.slice (some ⟨g2, 0, none⟩) (there.length + 1) c2) w2 ∧
      w2.ownsRow (b9 + 1) 34 1 (.slice (some ⟨g2, 0, none⟩) (there.length + 1) c2) (there.length + 1) (svs ++ [.slice la l.length lc]) ∧ Below W.heap.size W w2 := by
  have hbl := h.be.len
  have hrow : W.ownsRow (b9 + 1) 34 1 (.slice ta there.length tc) there.length svs := Cl.ow_below h.row hb
  have hb9 := (h.var.below hb).lt
  have hA := (Below.refl W.heap.size W).alloc (Nat.le_refl _) (Obj.cells #[] 34)
  have htl := h.len
  obtain ⟨v1, w1, r1, o1, g1⟩ := Lg.run_append_vals ty (W.alloc (Obj.cells #[] 34)) W.heap.size (.slice (some ⟨W.heap.size, 0, none⟩) 0 0) [] (Lg.owns_empty W) ta tc svs (fun j y hj => by
    have hjl := (List.getElem?_eq_some_iff.1 hj).1
    obtain ⟨g', cap', hv, _, _⟩ := hrow.form (by omega)
    cases hv
    have hc := hrow.cells (g := g') rfl j _ hj
    rw [Dk.add_at, Nat.zero_add] at hc
    exact ⟨g', 0, rfl, by rw [Nat.zero_add]; exact (hA.cell (World.block_lt_of_cell? W _ hc)).trans hc⟩) h.be.one (by simp; omega) (by simp)
  rw [List.nil_append] at o1
  rw [hbl] at r1
  have hB1 : Below W.heap.size W w1 := hA.grown g1 (by simp) (fun q hq => by cases hq; exact Nat.le_refl _)
  have o1' := o1.alloc (Obj.cells #[.slice la l.length lc] 34)
  obtain ⟨v2, w2, r2, o2, g2⟩ := Lg.run_append_vals ty' (w1.alloc (Obj.cells #[.slice la l.length lc] 34)) W.heap.size v1 svs o1' (some ⟨w1.heap.size, 0, none⟩) 1 [.slice la l.length lc] (fun j y hj => by
    match j, hj with
    | 0, hj => cases hj; exact ⟨w1.heap.size, 0, rfl, by go_simp⟩
    | j + 1, hj => simp at hj) (by simp [Value.oneCell']) (by simp; omega) (by have := hB1.size; simp; omega)
  rw [show (svs ++ [Value.slice la l.length lc]).length = there.length + 1 by simp [hbl]] at o2
  obtain ⟨q2, c2, hv, _, _⟩ := o2.form (by omega)
  subst hv
  have hlt1 := o1.lt
  have hB2 : Below W.heap.size W w2 := (hB1.alloc hB1.size _).grown g2 (by have := hB1.size; simp; omega) (fun q hq => (hlt1 q hq).1)
  refine ⟨v1, w1, q2, c2, w2, r1, r2, ?_, hB2⟩
  obtain ⟨p1, p2⟩ := o2
  refine ⟨p1, ?_⟩
  rcases p2 with ⟨hv, _⟩ | ⟨q, cap, cur, hv, hq, r⟩
  · cases hv
  · exact .inr ⟨q, cap, cur, hv, by omega, r⟩
theorem Lg.row_set {W : World} {b9 : Nat} {v : Value} {n : Nat} {xs : List Value} (h : W.ownsRow (b9 + 1) 34 1 v n xs) (u u' : Value) : ((W.setCell ⟨b9, 0, none⟩ u).setCell ⟨b9, 1, none⟩ u').ownsRow (b9 + 1) 34 1 v n xs := by
  have hne : v.ownBlock ≠ some b9 := fun e => by have := (h.lt b9 e).1; omega
  obtain ⟨p1, p2⟩ := h
  refine ⟨p1, ?_⟩
  rcases p2 with p2 | ⟨q, cap, cur, hv, hq, hg, r⟩
  · exact .inl p2
  · refine .inr ⟨q, cap, cur, hv, hq, ?_, r⟩
    rw [heap_setCell_other _ _ _ _ (by show q ≠ b9; omega), heap_setCell_other _ _ _ _ (by show q ≠ b9; omega)]
    exact hg
theorem Lg.Rd.turn {w : World} {n b9 k : Nat} {there : List (List Ev)} {free : List ByteArray} {svs : List Value} {g c : Nat} {tv : Value} {nd : Int} {wr W : World} (h : Lg.Rd w n b9 k there free svs g c tv nd wr) (hb : Below wr.heap.size wr W)
    {ths : List (List Ev)} {f : List ByteArray} {svs' : List Value} {gy cy : Nat} {tv' : Value} {nd' : Int} (hlen : ths.length ≤ k + 1) (hgood : ∀ l ∈ ths, Lg.Good l) (hf : ∀ s ∈ f, s.size = 32) (himg : Lg.used ths + f.length = n) (hneed : (Lg.used ths : Int) + 3 ≤ nd') (hneedM : nd' ≤ 4 + 62 * ((k : Int) + 1))
    (hbe : Lg.BE w svs' ths) (hrow : W.ownsRow (b9 + 1) 34 1 tv' ths.length svs') (htva : ∃ a cc, tv' = .slice a ths.length cc) (hrk : Dk.RK W (some ⟨gy, 0, none⟩) (Lg.img ths f)) (hcy : n ≤ cy) (hgy : b9 < gy) :
    Lg.Rd w n b9 (k + 1) ths f svs' gy cy tv' nd' ((W.setCell ⟨b9, 0, none⟩ (.slice (some ⟨gy, 0, none⟩) n cy)).setCell ⟨b9, 1, none⟩ (.slice none 0 0)) := by
  have hbw := h.bel.trans (hb.mono h.bel.size)
  have h9 := h.b9lt
  refine ⟨hlen, hgood, hf, himg, hneed, by omega, hbe, Lg.row_set hrow _ _, htva, (h.var.below hb).stored _ _, hrk.set2 (fun q o e => by cases e; omega) _ _, hcy, h9, (hbw.setCell (by simpa using h9) _).setCell (by simpa using h9) _⟩
end Go.Proofs.Ytpabpcojiaklfaa
