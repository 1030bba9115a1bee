/-
  The contract of the document's allParts. By the verifier.
-/
import Derived.Test.YtpfogjplnodacaaPRef
import Derived.Maps.AppendAt
import Derived.Deep.AppendLies
set_option maxRecDepth 100000
set_option maxHeartbeats 1600000
namespace Go.Proofs.Ytpfogjplnodacaa
open Go.RowKit
set_option linter.unusedVariables false
theorem Try.infoX : (Try.prog.info? 42).map (fun i => (i.zero, i.size, i.bytes)) = some (some (.agg #[.int .i64 0, .int .i64 0, .slice none 0 0]), 3, 40) := by kernel_rfl
theorem info_of {P : Program} {t : TypeId} {z : Option Value} {s b : Nat} (h : (P.info? t).map (fun i => (i.zero, i.size, i.bytes)) = some (z, s, b)) : ∃ i, P.info? t = some i ∧ i.zero = z ∧ i.size = s ∧ i.bytes = b := by
 cases hi : P.info? t with
 | none => rw [hi] at h; cases h
 | some i => rw [hi] at h; simp at h; exact ⟨i, rfl, h.1, h.2.1, h.2.2⟩
theorem Pg.ow_below {W W' : World} {B : Nat} {e : TypeId} {size : Nat} {v : Value} {n : Nat} {xs : List Value} (h : W.ownsRow B e size v n xs) (hb : Below W.heap.size W W') : W'.ownsRow B e size v n xs := by
 obtain ⟨h1, h2⟩ := h
 refine ⟨h1, ?_⟩
 rcases h2 with h2 | ⟨g, cap, cur, hv, hg, hh, r⟩
 · exact .inl h2
 · exact .inr ⟨g, cap, cur, hv, hg, (hb.block g (Array.getElem?_eq_some_iff.1 hh).1).trans hh, r⟩
theorem Pg.ow_base {W : World} {B B' : Nat} {e : TypeId} {size : Nat} {v : Value} {n : Nat} {xs : List Value} (h : W.ownsRow B e size v n xs) (hB : B' ≤ B) : W.ownsRow B' e size v n xs := by
 obtain ⟨h1, h2⟩ := h
 refine ⟨h1, ?_⟩
 rcases h2 with h2 | ⟨g, cap, cur, hv, hg, r⟩
 · exact .inl h2
 · exact .inr ⟨g, cap, cur, hv, by omega, r⟩
theorem Pg.wp_append_run {P : Program} {w w' : World} {ops : Array Oper} {rest : List Oper} {o : Oper} {a : Act} {Q : Exit → Act → World → Prop} (hg : o.guard = none) (s x : Operand) (t : TypeId)
  (ho : o.op = .call { callee := .builtin .append, args := #[s, x], argTypes := #[t, t] }) (v u v' : Value) (hs : a.eval s = v) (hx : a.eval x = u) (hr : (Builtin.append_ #[t, t] o.type #[v, u]).run P w = .ok v' w')
  (h : wpList P ops Q rest (a.put o.dst v') w') : wpList P ops Q (o :: rest) a w := by
 refine wpList_plain hg fun K hK => ?_
 unfold Oper.wp execOp
 simp only [ho, resolve, invoke, builtin, Sem.run_bind, Sem.run_pure, Result.andThen_ok, List.map_toArray, List.map_cons, List.map_nil, hs, hx, hr]
 exact hK _ _ h
def Pg.E.cells (e : Pg.E) : List Value := [.int .i64 e.k, .int .i64 e.n, .slice e.args.ad e.args.len e.args.cap]
def Pg.exC (l : List Pg.E) : List Value := l.flatMap Pg.E.cells
theorem Pg.exC_length : ∀ l : List Pg.E, (Pg.exC l).length = l.length * 3
 | [] => rfl
 | e :: r => by
  show (e.cells ++ Pg.exC r).length = _
  rw [List.length_append, Pg.exC_length r, List.length_cons]
  show 3 + r.length * 3 = _
  omega
theorem Pg.exC_app (l m : List Pg.E) : Pg.exC (l ++ m) = Pg.exC l ++ Pg.exC m := by unfold Pg.exC; simp
theorem Pg.one_x (l : List Pg.E) : ∀ u ∈ Pg.exC l, u.oneCell' = true := by
 intro u hu
 obtain ⟨e, _, he⟩ := List.mem_flatMap.1 hu
 simp [Pg.E.cells] at he
 rcases he with rfl | rfl | rfl <;> rfl
theorem Pg.exC_at : ∀ (l : List Pg.E) (i : Nat) (x : Pg.E) (j : Nat) (v : Value), l[i]? = some x → x.cells[j]? = some v → (Pg.exC l)[i * 3 + j]? = some v
 | [], i, x, j, v, h, _ => by simp at h
 | e :: r, 0, x, j, v, h, hv => by
  simp at h
  subst h
  show (e.cells ++ Pg.exC r)[0 * 3 + j]? = _
  have hj := (List.getElem?_eq_some_iff.1 hv).1
  rw [Nat.zero_mul, Nat.zero_add, List.getElem?_append_left hj]
  exact hv
 | e :: r, i + 1, x, j, v, h, hv => by
  show (e.cells ++ Pg.exC r)[(i + 1) * 3 + j]? = _
  have e3 : e.cells.length = 3 := rfl
  rw [List.getElem?_append_right (by rw [e3]; omega), e3, show (i + 1) * 3 + j - 3 = i * 3 + j by omega]
  exact Pg.exC_at r i x j v (by simpa using h) hv
def Pg.tri (e : Pg.E) : Int × Int × Nat := (e.k, e.n, e.args.len)
def Pg.flat : (n : Nat) → Pg.XT n → List (Int × Int × Nat)
 | 0, _ => []
 | n + 1, x => (x.1.1, x.1.2, x.2.length) :: x.2.flatMap (Pg.flat n)
theorem Pg.flat_length : ∀ (n : Nat) (x : Pg.XT n), (Pg.flat n x).length = Pg.parts n x
 | 0, _ => rfl
 | n + 1, x => by
  show (x.2.flatMap (Pg.flat n)).length + 1 = 1 + (x.2.map (Pg.parts n)).sum
  rw [List.length_flatMap, show (fun y => (Pg.flat n y).length) = Pg.parts n from funext (Pg.flat_length n)]
  omega
theorem Pg.first_app : ∀ (a b : List Nat), Pg.first (a ++ b) = Pg.orW (Pg.first a) (Pg.first b)
 | [], b => rfl
 | x :: r, b => by
  show (if x = 0 then Pg.first (r ++ b) else x) = Pg.orW (if x = 0 then Pg.first r else x) (Pg.first b)
  by_cases h : x = 0
  · rw [if_pos h, if_pos h]; exact Pg.first_app r b
  · rw [if_neg h, if_neg h]; unfold Pg.orW; rw [if_neg h]
theorem Pg.wx_flat (sz : List Int) : ∀ (n : Nat) (x : Pg.XT n), Pg.wx sz n x = Pg.first ((Pg.flat n x).map fun t => Pg.wx1 sz t.1 t.2.1 t.2.2)
 | 0, _ => rfl
 | n + 1, x => by
  show Pg.orW (Pg.wx1 sz x.1.1 x.1.2 x.2.length) (Pg.first (x.2.map (Pg.wx sz n))) = (if Pg.wx1 sz x.1.1 x.1.2 x.2.length = 0 then _ else _)
  have h : ∀ l : List (Pg.XT n), Pg.first (l.map (Pg.wx sz n)) = Pg.first ((l.flatMap (Pg.flat n)).map fun t => Pg.wx1 sz t.1 t.2.1 t.2.2) := by
   intro l
   induction l with
   | nil => rfl
   | cons y r ih =>
    rw [List.flatMap_cons, List.map_append, Pg.first_app, ← Pg.wx_flat sz n y, ← ih]
    rfl
  rw [h]
  rfl
theorem allParts_any : ∀ (n : Nat) (e : Pg.E) (x : Pg.XT n) (w : World), Pg.RX w n e x → Pg.parts n x ≤ 1000 →
  Calls Try.prog 32 #[e.val] w fun r w' => ∃ g c es, r = .returned (.slice (some ⟨g, 0, none⟩) (Pg.parts n x) c) ∧ w'.ownsRow w.heap.size 42 3 (.slice (some ⟨g, 0, none⟩) (Pg.parts n x) c) (Pg.parts n x) (Pg.exC es) ∧ es.map Pg.tri = Pg.flat n x ∧ Below w.heap.size w w' := by
 intro n
 induction n with
 | zero => intro e x w h; exact absurd h id
 | succ n ih =>
  intro e x w hre hpl
  obtain ⟨⟨hk, hn⟩, hs⟩ := hre
  have hlen := hs.len
  have hfew := hs.few
  rw [← hlen] at hfew
  have HFL := hide (show Pg.flat (n + 1) x = Pg.tri e :: x.2.flatMap (Pg.flat n) by unfold Pg.tri; rw [hk, hn, hlen]; rfl)
  have hpar : Pg.parts (n + 1) x = 1 + (x.2.map (Pg.parts n)).sum := rfl
  have HSA := hide (Pg.sumTo_all (Pg.parts n) x.2)
  have HSL := hide (Pg.sumTo_le (Pg.parts n) x.2)
  obtain ⟨P, hP⟩ : ∃ P, Pg.parts (n + 1) x = P := ⟨_, rfl⟩
  rw [hP] at hpl ⊢
  have HP := hide (show P = 1 + (x.2.map (Pg.parts n)).sum from hP.symm.trans hpar)
  have HS := hide hs
  have HLN := hide hlen
  have IH := hide ih
  clear hs hlen ih hk hn hpar hP
  have hb0 := ((Below.refl w.heap.size w).alloc (Nat.le_refl _) (Obj.cells #[.int .i64 e.k, .int .i64 e.n, .slice e.args.ad e.args.len e.args.cap] 42)).alloc (by simp) (Obj.cells #[.int .i64 e.k, .int .i64 e.n, .slice e.args.ad e.args.len e.args.cap] 42)
  have HB0 := hide hb0
  clear hb0
  unfold Pg.E.val
  go_enter Try.func32, Try.ntmps32
  go_wp2_with fail
  go_loopw [3, 4] (fun sv iv wr => ∃ (i k : Nat) (es : List Pg.E) (g c : Nat), i ≤ e.args.len ∧ iv = .int .i64 i ∧ sv = .slice (some ⟨g, 0, none⟩) k c ∧ Hid (k = 1 + Pg.sumTo (Pg.parts n) x.2 i ∧ es.map Pg.tri = Pg.tri e :: (x.2.take i).flatMap (Pg.flat n)) ∧ k ≤ 1000 ∧ wr.ownsRow (w.heap.size + 1) 42 3 (.slice (some ⟨g, 0, none⟩) k c) k (Pg.exC es) ∧ w.heap.size + 1 ≤ wr.heap.size ∧ wr.cell? ⟨w.heap.size, 2, none⟩ = some (.slice e.args.ad e.args.len e.args.cap) ∧ Below w.heap.size w wr) (fun _ iv _ => e.args.len - (intOf iv).toNat)
  case atStart =>
   refine ⟨0, 1, [e], w.heap.size + 1, 1, Nat.zero_le _, rfl, rfl, ⟨rfl, rfl⟩, by omega, ?_, by simp, by go_simp, unhide HB0⟩
   exact ⟨rfl, .inr ⟨w.heap.size + 1, 1, #[.int .i64 e.k, .int .i64 e.n, .slice e.args.ad e.args.len e.args.cap], rfl, Nat.le_refl _, by
    have := heap_alloc_new (w.alloc (Obj.cells #[.int .i64 e.k, .int .i64 e.n, .slice e.args.ad e.args.len e.args.cap] 42)) (Obj.cells #[.int .i64 e.k, .int .i64 e.n, .slice e.args.ad e.args.len e.args.cap] 42)
    simp only [World.size_alloc] at this
    exact this, Nat.le_refl _, by unfold maxLen; omega, rfl, rfl⟩⟩
  case round =>
   obtain ⟨i, k, es, g, c, hi, rfl, rfl, hrel, hk1, hrow, hsz, hc2, hbe⟩ := hrel
   have HRL := hide (unhide hrel)
   have HRW := hide hrow
   have HBE := hide hbe
   have hz := hbe.size
   clear hrel hrow hbe
   by_cases hlt : i < e.args.len
   · have hlt2 : i < x.2.length := by have := unhide HLN; omega
     have hy := List.getElem?_eq_getElem hlt2
     obtain ⟨b, o, cc, had, hb, hlies, hrd⟩ := (unhide HS).at_ i _ hy
     have HSU := hide (Pg.sumTo_succ (Pg.parts n) x.2 i _ hy)
     have HLE := hide ((unhide HSL) (i + 1) (by omega))
     have HTK := hide (show x.2.take (i + 1) = x.2.take i ++ [x.2[i]] by rw [List.take_add_one, hy]; rfl)
     generalize x.2[i] = y at *
     have hpy : Pg.parts n y ≤ 1000 := by
      have a := unhide HP
      have b := unhide HSU
      have d := unhide HLE
      omega
     have hkn : k + Pg.parts n y ≤ 1000 := by
      have a := unhide HP
      have b := unhide HSU
      have d := unhide HLE
      have e1 := (unhide HRL).1
      omega
     have hll := hlies.later (unhide HBE) (Nat.le_refl _) hb
     obtain ⟨p0, p1, p2⟩ := hll
     have HIC := hide ((unhide IH) cc y wr (hrd.later (unhide HBE) (Nat.le_refl _)) hpy)
     clear hlies hrd hy
     have hi0 : (0 : Int) ≤ (i : Int) := by omega
     have hi1 : (i : Int) < (e.args.len : Int) := by omega
     rw [had] at hc2
     rw [had]
     unfold Pg.E.val at HIC
     go_wp2_with fail
     refine (unhide HIC).mono ?_
     rintro r w1 ⟨g2, c2, es2, rfl, hrow2, htri, hb1⟩
     have hz1 := hb1.size
     obtain ⟨i0, hi', hz0, hz1', hz2⟩ := info_of Try.infoX
     have hlen2 : (Pg.exC es2).length = Pg.parts n y * 3 := by
      have h1 := congrArg List.length htri
      rw [List.length_map, Pg.flat_length] at h1
      rw [Pg.exC_length, h1]
     have hrow1 := Pg.ow_below (unhide HRW) hb1
     obtain ⟨v', w2, hrun, hown, hgr, _, _⟩ := run_append_own_at (P := Try.prog) w1 (w.heap.size + 1) 40 40 42 i0 _ 3 40 Try.underlying40 hi' hz0 hz1' hz2 rfl (by decide) (.slice (some ⟨g, 0, none⟩) k c) k (Pg.exC es) hrow1 ⟨g2, 0, none⟩ (Pg.parts n y) c2 (Pg.exC es2) hlen2 (fun j u hj => hrow2.cells (g := g2) rfl j u hj) (Pg.one_x es2) (by unfold maxLen; omega) (by omega) (by omega)
     have hne : some w.heap.size ≠ (Value.slice (some ⟨g, 0, none⟩) k c).ownBlock := fun e => by have := (hrow1.lt _ e.symm).1; omega
     have hcw := (hb1.cell (p := ⟨w.heap.size, 2, none⟩) (World.block_lt_of_cell? _ _ hc2)).trans hc2
     have hc3 := (World.cell?_of_block (a := ⟨w.heap.size, 2, none⟩) (hgr.block w.heap.size (World.block_lt_of_cell? _ _ hcw) hne)).trans hcw
     have hk2 : 1 ≤ k := by have := (unhide HRL).1; omega
     obtain ⟨g3, c3, rfl, _, _⟩ := hown.form (by omega)
     have HB1 := hide ((unhide HBE).trans (hb1.mono hz))
     have HB2 := hide ((unhide HB1).grown hgr (by omega) (fun q hq => by have := (hrow1.lt _ hq).1; omega))
     have hgs := hgr.size
     have HRN := hide hrun
     have HOW := hide (show w2.ownsRow (w.heap.size + 1) 42 3 (.slice (some ⟨g3, 0, none⟩) (k + Pg.parts n y) c3) (k + Pg.parts n y) (Pg.exC (es ++ es2)) by rw [Pg.exC_app]; exact hown)
     have HNL := hide (show k + Pg.parts n y = 1 + Pg.sumTo (Pg.parts n) x.2 (i + 1) ∧ (es ++ es2).map Pg.tri = Pg.tri e :: (x.2.take (i + 1)).flatMap (Pg.flat n) by
      refine ⟨by rw [unhide HSU, (unhide HRL).1]; omega, ?_⟩
      rw [List.map_append, (unhide HRL).2, htri, unhide HTK, List.flatMap_append]
      simp)
     clear hrun hown hgr hne hrow1 hrow2 htri hlen2 hb1 hcw hi' hz0 hz1' hz2 hc2 p0 p1 p2
     have hc2 := hc3
     clear hc3
     generalize Pg.parts n y = PY at *
     go_wp2_with (at_builtin; refine Pg.wp_append_run rfl _ _ 40 rfl _ _ _ rfl rfl (unhide HRN) ?_)
     exact ⟨⟨i + 1, k + PY, es ++ es2, g3, c3, by omega, by go_num, rfl, unhide HNL, hkn, unhide HOW, by omega, hc2, unhide HB2⟩, by simp [intOf]; omega⟩
   · have hki : i = x.2.length := by have := unhide HLN; omega
     have HK := hide (show k = P by
      have a := (unhide HRL).1
      have b := unhide HSA
      have d := unhide HP
      rw [hki, b] at a
      omega)
     have HT := hide (show es.map Pg.tri = Pg.flat (n + 1) x by
      have a := (unhide HRL).2
      rw [hki, List.take_length] at a
      rw [a, unhide HFL])
     clear hki
     go_wp2_with fail
     go_ret
     have hK := unhide HK
     subst hK
     exact ⟨g, c, es, rfl, Pg.ow_base (unhide HRW) (by omega), unhide HT, unhide HBE⟩
end Go.Proofs.Ytpfogjplnodacaa
