/-
  The contracts of state's wrongIn and At. By the verifier.
-/
import Derived.Test.YtildjlaphkjegaaXFb
namespace Go.Proofs.Ytildjlaphkjegaa
open Go.RowKit
set_option linter.unusedVariables false

/-- What is wrong with a program and a list that must be the beginning of a trace of it. -/
def Xr.stE {m n : Nat} (p : List (Pg.FT m n)) (l : List Ev) : Nat := if Xr.chkL p l = 0 then (if Xr.right p l then 0 else 4) else Xr.chkL p l
/-- The first frame. -/
def Xr.ini {m n : Nat} (p : List (Pg.FT m n)) : List Xr.Fr := [⟨0, ((p.length - 1 : Nat) : Int), Xr.zeros (Xr.szOf p ((p.length - 1 : Nat) : Int))⟩]
theorem Xr.good_pre {m n : Nat} {p : List (Pg.FT m n)} {s0 : List Xr.Fr} {l r : List Ev} (h : Xr.good p s0 r) (hl : l <+: r) : Xr.good p s0 l := by
  obtain ⟨t, rfl⟩ := hl
  intro l1 e l2 hh
  exact h l1 e (l2 ++ t) (by rw [hh, List.append_assoc]; rfl)
structure Xr.StOk {m n : Nat} (p : List (Pg.FT m n)) (l : List Ev) : Prop where
  chk : Pg.chkP p = 0
  few : l.length ≤ 4000
  last : ∃ x, p[p.length - 1]? = some x ∧ Xr.szOf p ((p.length - 1 : Nat) : Int) = x.sizes
  ok : Xr.Ok p (Xr.inOf l) ((Xr.stp l : Nat) : Int)
  pre : l <+: Xr.main p (Xr.inOf l) (Xr.stp l)
  good : Xr.good p (Xr.ini p) l
theorem Xr.StOk.of {m n : Nat} {p : List (Pg.FT m n)} {l : List Ev} (h : Xr.stE p l = 0) : Xr.StOk p l := by
  unfold Xr.stE at h
  split at h
  · rename_i h0
    split at h
    · rename_i hr
      have hc : Pg.chkP p = 0 ∧ l.length ≤ 4000 := by
        unfold Xr.chkL at h0
        split at h0
        · rename_i h1
          split at h0
          · cases h0
          · rename_i h2
            exact ⟨h1, by omega⟩
        · rename_i h1
          exact absurd h0 h1
      obtain ⟨x, hx⟩ := Xr.last_of hc.1
      have hsz : Xr.szOf p ((p.length - 1 : Nat) : Int) = x.sizes := by unfold Xr.szOf; rw [Int.toNat_natCast, hx]; rfl
      unfold Xr.right at hr
      simp only [Bool.and_eq_true, decide_eq_true_eq] at hr
      obtain ⟨⟨⟨_, h1⟩, h2⟩, h3⟩ := hr
      have hok : Xr.Ok p (Xr.inOf l) ((Xr.stp l : Nat) : Int) := Xr.Ok.of h1
      have hpre : l <+: Xr.main p (Xr.inOf l) (Xr.stp l) := by
        have h4 := List.prefix_iff_eq_take.2 ((Xr.sameL_iff _ _).1 h3)
        rw [show Xr.out p (Xr.inOf l) (((Xr.that 1 l).length : Nat) : Int) = Xr.main p (Xr.inOf l) (Xr.stp l) from hok.out] at h4
        exact h4
      refine ⟨hc.1, hc.2, ⟨x, hx, hsz⟩, hok, hpre, ?_⟩
      unfold Xr.ini
      rw [hsz]
      exact Xr.good_pre (Xr.main_good hc.1 hx _ _) hpre
    · cases h
  · rename_i h0
    exact absurd h h0

set_option maxRecDepth 100000 in
set_option maxHeartbeats 1600000 in
theorem stWrong_any {m n : Nat} (qa : Option Addr) (ql qc : Nat) (p : List (Pg.FT m n)) (l : List Ev) (ad : Option Addr) (cap : Nat) (w : World) (hp : Pg.RP w m n ⟨qa, ql, qc⟩ p) (hpf : Pg.parFit p) (hr : Cl.RE w ad l) (hl : l.length ≤ 35184372088832) :
    Calls Try.prog 33 #[.agg #[.slice qa ql qc], .slice ad l.length cap] w fun r w' => r = .returned (.int .i64 (Xr.stE p l : Nat)) ∧ Below w.heap.size w w' := by
  have hb0 := (Below.refl w.heap.size w).alloc (Nat.le_refl _) (Obj.cells #[.slice qa ql qc] 36)
  have HRT := hide (Right_any ⟨qa, ql, qc⟩ p l ad cap _ (Pg.RP.later hp hb0 (Nat.le_refl _)) hpf (hr.later hb0 (Nat.le_refl _)) hl)
  have HB0 := hide hb0
  have HE := hide (show Xr.stE p l = if Xr.chkL p l = 0 then (if Xr.right p l then 0 else 4) else Xr.chkL p l from rfl)
  generalize Xr.stE p l = E at *
  generalize Xr.chkL p l = C at *
  generalize Xr.right p l = B at *
  clear hp hpf hr hb0
  dsimp only at *
  go_enter Try.func33, Try.ntmps33
  go_wp2_with fail
  generalize w.alloc (Obj.cells #[.slice qa ql qc] 36) = W0 at *
  refine (unhide HRT).mono ?_
  rintro r w1 ⟨rfl, hb1⟩
  have HB1 := hide ((unhide HB0).trans (hb1.mono (unhide HB0).size))
  clear hb1
  by_cases hC : C = 0
  · subst hC
    cases B
    · have HF := hide (show E = 4 by rw [unhide HE]; rfl)
      go_wp2_with fail
      go_ret
      exact ⟨by rw [unhide HF]; rfl, unhide HB1⟩
    · have HF := hide (show E = 0 by rw [unhide HE]; rfl)
      go_wp2_with fail
      go_ret
      exact ⟨by rw [unhide HF]; rfl, unhide HB1⟩
  · have HF := hide (show E = C by rw [unhide HE, if_neg hC])
    have bC : (((C : Nat) : Int) == 0) = false := by simp; exact hC
    clear hC
    go_wp2_with fail
    go_ret
    exact ⟨by rw [unhide HF]; rfl, unhide HB1⟩

/-- What is wrong with a time. -/
def Xr.atE {m n : Nat} (p : List (Pg.FT m n)) (l : List Ev) (time : Int) : Nat := if Xr.stE p l = 0 then (if time < 0 ∨ (l.length : Int) < time then 3 else 0) else Xr.stE p l
/-- What At answers. -/
structure Xr.AtIs {m n : Nat} (p : List (Pg.FT m n)) (l : List Ev) (time : Int) (w w' : World) (a : Option Addr) (nf c : Nat) : Prop where
  no : Xr.atE p l time ≠ 0 → nf = 0
  yes : Xr.atE p l time = 0 → ∃ ms, Xr.Sk w w' (.slice a nf c) ms ∧ ms.length = nf ∧ ms.map Prod.fst = Xr.reps p (Xr.ini p) (l.take time.toNat)

set_option maxRecDepth 100000 in
set_option maxHeartbeats 1600000 in
theorem At_any {m n : Nat} (qa : Option Addr) (ql qc : Nat) (p : List (Pg.FT m n)) (l : List Ev) (ad : Option Addr) (cap : Nat) (time : Int) (w : World) (hp : Pg.RP w m n ⟨qa, ql, qc⟩ p) (hpf : Pg.parFit p) (hr : Cl.RE w ad l) (hl : l.length ≤ 35184372088832) (hcap : l.length ≤ cap) :
    Calls Try.prog 11 #[.agg #[.slice qa ql qc], .slice ad l.length cap, .int .i64 time] w fun r w' => ∃ a nf c, r = .returned (.tuple #[.slice a nf c, .int .i64 (Xr.atE p l time : Nat)]) ∧ Xr.AtIs p l time w w' a nf c ∧ Below w.heap.size w w' := by
  have hb0 := (Below.refl w.heap.size w).alloc (Nat.le_refl _) (Obj.cells #[.slice qa ql qc] 36)
  have q0 : (w.alloc (Obj.cells #[.slice qa ql qc] 36)).cell? ⟨w.heap.size, 0, none⟩ = some (.slice qa ql qc) := by go_simp
  have HWI := hide (stWrong_any qa ql qc p l ad cap _ (Pg.RP.later hp hb0 (Nat.le_refl _)) hpf (hr.later hb0 (Nat.le_refl _)) hl)
  have HFB := hide (fun (V : World) (hV : Below w.heap.size w V) (h0 : Xr.stE p l = 0) (t : Nat) (ht : t ≤ l.length) => show Calls Try.prog 34 #[.agg #[.slice qa ql qc], .slice ad t cap] V fun r w' => ∃ a nf c ms, r = .returned (.slice a nf c) ∧ Xr.Sk V w' (.slice a nf c) ms ∧ ms.length = nf ∧ ms.map Prod.fst = Xr.reps p (Xr.ini p) (l.take t) from by
    have hok := Xr.StOk.of h0
    obtain ⟨x, hx, hsz⟩ := hok.last
    have hini : Xr.ini p = [⟨0, ((p.length - 1 : Nat) : Int), Xr.zeros x.sizes⟩] := by unfold Xr.ini; rw [hsz]
    have htl : (l.take t).length = t := by rw [List.length_take]; omega
    have h1 := framesBehind_any qa ql qc p x (l.take t) ad cap V (Pg.RP.later hp hV (Nat.le_refl _)) hok.chk hx ((hr.later hV (Nat.le_refl _)).takeN t) (by have := hok.few; omega) (by rw [← hini]; exact Xr.good_pre hok.good (List.take_prefix _ _))
    rw [htl, ← hini] at h1
    refine h1.mono ?_
    rintro r w' ⟨rv, ms, rfl, hsk, hm⟩
    obtain ⟨a, c, rfl⟩ : ∃ a c, rv = .slice a ms.length c := by
      rcases hsk.row.2 with ⟨e1, e2⟩ | ⟨g, cap, cur, hv, _⟩
      · exact ⟨none, 0, by rw [e2]; exact e1⟩
      · exact ⟨_, _, hv⟩
    exact ⟨a, ms.length, c, ms, rfl, hsk, rfl, hm⟩)
  have HB0 := hide hb0
  have HAE := hide (show Xr.atE p l time = if Xr.stE p l = 0 then (if time < 0 ∨ (l.length : Int) < time then 3 else 0) else Xr.stE p l from rfl)
  have HNO := hide (fun (V : World) (h : Xr.atE p l time ≠ 0) => show Xr.AtIs p l time w V none 0 0 from ⟨fun _ => rfl, fun h2 => absurd h2 h⟩)
  have HYES := hide (fun (V : World) (a : Option Addr) (nf c : Nat) (ms : List (Xr.Fr × Xr.Mf)) (h : Xr.atE p l time = 0) (h1 : Xr.Sk w V (.slice a nf c) ms) (h2 : ms.length = nf) (h3 : ms.map Prod.fst = Xr.reps p (Xr.ini p) (l.take time.toNat)) => show Xr.AtIs p l time w V a nf c from ⟨fun h4 => absurd h h4, fun _ => ⟨ms, h1, h2, h3⟩⟩)
  generalize Xr.atE p l time = AE at *
  generalize Xr.stE p l = SE at *
  obtain ⟨nl, hnl⟩ : ∃ nl, nl = l.length := ⟨_, rfl⟩
  rw [← hnl] at hl hcap HWI HAE HFB ⊢
  clear hp hpf hr hb0 hnl
  go_enter Try.func11, Try.ntmps11
  go_wp2_with fail
  generalize w.alloc (Obj.cells #[.slice qa ql qc] 36) = W0 at *
  refine (unhide HWI).mono ?_
  rintro r w1 ⟨rfl, hb1⟩
  have q1 := (hb1.cell (p := ⟨w.heap.size, 0, none⟩) (World.block_lt_of_cell? _ _ q0)).trans q0
  have hlt1 := World.block_lt_of_cell? _ _ q1
  have HB1 := hide ((unhide HB0).trans (hb1.mono (unhide HB0).size))
  clear hb1 q0
  by_cases hS : SE = 0
  case neg =>
    have HF := hide (show AE = SE by rw [unhide HAE, if_neg hS])
    have HN := hide (show SE ≠ 0 from hS)
    have bS : (((SE : Nat) : Int) != 0) = true := by simp; exact hS
    clear hS
    go_wp2_with fail
    refine bodyPost_ret (v := .tuple #[.slice none 0 0, .int .i64 (SE : Nat)]) (by simp [results, Try.results11, go_sem]) rfl ?_
    exact ⟨none, 0, 0, by rw [unhide HF], (unhide HNO) _ (by rw [unhide HF]; exact unhide HN), unhide HB1⟩
  case pos =>
    have HFB2 := hide (fun V hV t ht => (unhide HFB) V hV hS t ht)
    subst hS
    by_cases ht0 : time < 0
    · have HF := hide (show AE = 3 by rw [unhide HAE, if_pos rfl, if_pos (Or.inl ht0)])
      go_wp2_with fail
      refine bodyPost_ret (v := .tuple #[.slice none 0 0, .int .i64 3]) (by simp [results, Try.results11, go_sem]) rfl ?_
      exact ⟨none, 0, 0, by rw [unhide HF]; rfl, (unhide HNO) _ (by rw [unhide HF]; decide), unhide HB1⟩
    · by_cases ht1 : (nl : Int) < time
      · have HF := hide (show AE = 3 by rw [unhide HAE, if_pos rfl, if_pos (Or.inr ht1)])
        go_wp2_with fail
        refine bodyPost_ret (v := .tuple #[.slice none 0 0, .int .i64 3]) (by simp [results, Try.results11, go_sem]) rfl ?_
        exact ⟨none, 0, 0, by rw [unhide HF]; rfl, (unhide HNO) _ (by rw [unhide HF]; decide), unhide HB1⟩
      · have HF := hide (show AE = 0 by rw [unhide HAE, if_pos rfl, if_neg (by omega)])
        obtain ⟨t, rfl⟩ : ∃ t : Nat, time = t := ⟨time.toNat, by omega⟩
        have htn : t ≤ nl := by omega
        have s0 : (0 : Int) ≤ (t : Int) := by omega
        have s1 : (t : Int) ≤ (cap : Int) := by omega
        have s2 : ¬ (nl : Int) < (t : Int) := by omega
        have HKM := hide (show ∀ V : World, Below w1.heap.size w1 V → (V.cell? ⟨w.heap.size, 0, none⟩ = some (.slice qa ql qc) ∧ Below w1.heap.size w1 V) from fun V hV => ⟨(hV.cell (p := ⟨w.heap.size, 0, none⟩) hlt1).trans q1, hV⟩)
        have HFB3 := hide (fun (V : World) (hV : Below w1.heap.size w1 V) => (unhide HFB2) V ((unhide HB1).trans (hV.mono (unhide HB1).size)) t htn)
        clear ht0 ht1
        go_upto_region 6 with fail
        go_cut [6, 7] (fun v6 v7 V => v7 = .int .i64 0 ∧ ∃ a nf c ms, v6 = .slice a nf c ∧ Xr.Sk w1 V (.slice a nf c) ms ∧ ms.length = nf ∧ ms.map Prod.fst = Xr.reps p (Xr.ini p) (l.take t))
        case first =>
          go_region_held3 (fun V => V.cell? ⟨w.heap.size, 0, none⟩ = some (.slice qa ql qc) ∧ Below w1.heap.size w1 V)
            (first | assumption | exact (unhide HKM) _ ((Below.refl _ _).drew) | exact (unhide HKM) _ (unhide HSK6).bel)
            (first
              | (go_at_call 34; refine ((unhide HFB3) _ ?_).mono ?_; exact (Below.refl _ _).drew; rintro r w6 ⟨a6, n6, c6, ms6, rfl, hsk6, hl6, hm6⟩; have HSK6 := hide (hsk6.base ((Below.refl w1.heap.size w1).drew)); have HL6 := hide hl6; have HM6 := hide hm6; clear hsk6 hl6 hm6))
          all_goals
            go_wp2_with fail
            go_meet
            case rel => exact ⟨rfl, a6, n6, c6, ms6, rfl, unhide HSK6, unhide HL6, unhide HM6⟩
        case rest =>
          obtain ⟨rfl, a6, n6, c6, ms6, rfl, hsk6, hl6, hm6⟩ := hcut
          have HR := hide ((unhide HYES) _ a6 n6 c6 ms6 (unhide HF) (hsk6.base (unhide HB1)) hl6 (by rw [Int.toNat_natCast]; exact hm6))
          have HBX := hide ((unhide HB1).trans (hsk6.bel.mono (unhide HB1).size))
          clear hsk6 hl6 hm6
          go_wp2_with fail
          refine bodyPost_ret (v := .tuple #[.slice a6 n6 c6, .int .i64 0]) (by simp [results, Try.results11, go_sem]) rfl ?_
          exact ⟨a6, n6, c6, by rw [unhide HF]; rfl, unhide HR, unhide HBX⟩
end Go.Proofs.Ytildjlaphkjegaa
