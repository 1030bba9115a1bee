/-
  The contract of scope's countCmds. By the verifier.
-/
import Derived.Test.YtpfogjplnodacaaPLeaf
set_option maxRecDepth 100000
set_option maxHeartbeats 3200000
namespace Go.Proofs.Ytpfogjplnodacaa
open Go.RowKit
set_option linter.unusedVariables false
theorem Pg.foldmax_le : ∀ (l : List Nat) (d : Nat), (∀ a ∈ l, a ≤ d) → l.foldr max 0 ≤ d
 | [], d, _ => Nat.zero_le _
 | a :: r, d, h => Nat.max_le.2 ⟨h a List.mem_cons_self, Pg.foldmax_le r d (fun b hb => h b (List.mem_cons_of_mem _ hb))⟩
theorem Pg.le_foldmax : ∀ (l : List Nat) (a : Nat), a ∈ l → a ≤ l.foldr max 0
 | [], a, h => by cases h
 | b :: r, a, h => by
  cases h with
  | head => exact Nat.le_max_left _ _
  | tail _ h => exact Nat.le_trans (Pg.le_foldmax r a h) (Nat.le_max_right _ _)
theorem Pg.dep_le {m n : Nat} {l : List (Pg.CT m n)} {y : Pg.CT m n} (h : y ∈ l) : Pg.dep n y ≤ Pg.deps l := Pg.le_foldmax _ _ (List.mem_map_of_mem h)
theorem Pg.deps_le {m n : Nat} {l : List (Pg.CT m n)} {d : Nat} (h : ∀ y ∈ l, Pg.dep n y ≤ d) : Pg.deps l ≤ d :=
 Pg.foldmax_le _ _ (fun a ha => by obtain ⟨y, hy, rfl⟩ := List.mem_map.1 ha; exact h y hy)
theorem Pg.cnt_succ {m n : Nat} (y : Pg.CT m (n + 1)) : Pg.cnt (n + 1) y = 1 + Pg.cnts y.2.2.1 + Pg.cnts y.2.2.2 := rfl
theorem Pg.dep_succ {m n : Nat} (y : Pg.CT m (n + 1)) : Pg.dep (n + 1) y = 1 + max (Pg.deps y.2.2.1) (Pg.deps y.2.2.2) := rfl
def Pg.over {m n : Nat} (c deep : Nat) (l : List (Pg.CT m n)) : Nat := if 40 < c + Pg.cnts l ∨ 6 < deep + Pg.deps l then 2 else 0
theorem Pg.over_yes {m n : Nat} {c deep : Nat} {l : List (Pg.CT m n)} (h : 40 < c + Pg.cnts l ∨ 6 < deep + Pg.deps l) : Pg.over c deep l = 2 := if_pos h
theorem Pg.over_no {m n : Nat} {c deep : Nat} {l : List (Pg.CT m n)} (h : ¬ (40 < c + Pg.cnts l ∨ 6 < deep + Pg.deps l)) : Pg.over c deep l = 0 := if_neg h
structure Pg.Far {m n : Nat} (c deep : Nat) (l : List (Pg.CT m n)) (i k : Nat) : Prop where
 cnt : k = c + Pg.sumTo (Pg.cnt n) l i
 dep : ∀ y ∈ l.take i, deep + Pg.dep n y ≤ 6
theorem Pg.Far.yes {m n : Nat} {c deep : Nat} {l : List (Pg.CT m (n + 1))} {i k : Nat} (h : Pg.Far c deep l i k) {y : Pg.CT m (n + 1)} (hy : l[i]? = some y) (ho : 40 < k + Pg.cnt (n + 1) y ∨ 6 < deep + Pg.dep (n + 1) y) : Pg.over c deep l = 2 := by
 refine Pg.over_yes ?_
 rcases ho with ho | ho
 · have h1 := h.cnt
   have h2 := Pg.sumTo_succ (Pg.cnt (n + 1)) l i y hy
   have h3 := Pg.sumTo_le (Pg.cnt (n + 1)) l (i + 1) (List.getElem?_eq_some_iff.1 hy).1
   left
   show 40 < c + (l.map (Pg.cnt (n + 1))).sum
   omega
 · have := Pg.dep_le (List.mem_of_getElem? hy)
   right
   omega
theorem Pg.Far.next {m n : Nat} {c deep : Nat} {l : List (Pg.CT m n)} {i k : Nat} (h : Pg.Far c deep l i k) {y : Pg.CT m n} (hy : l[i]? = some y) (hd : deep + Pg.dep n y ≤ 6) : Pg.Far c deep l (i + 1) (k + Pg.cnt n y) := by
 refine ⟨by rw [Pg.sumTo_succ _ _ _ _ hy, h.cnt]; omega, fun z hz => ?_⟩
 rw [List.take_add_one, hy] at hz
 rcases List.mem_append.1 hz with hz | hz
 · exact h.dep z hz
 · simp at hz
   subst hz
   exact hd
theorem Pg.Far.done {m n : Nat} {c deep : Nat} {l : List (Pg.CT m n)} {i k : Nat} (h : Pg.Far c deep l i k) (hi : i = l.length) (hk : k ≤ 40) (hd : deep ≤ 6) : Pg.over c deep l = 0 ∧ k = c + Pg.cnts l := by
 subst hi
 have h1 := h.cnt
 rw [Pg.sumTo_all] at h1
 have h2 := h.dep
 rw [List.take_length] at h2
 have h3 : Pg.deps l ≤ 6 - deep := Pg.deps_le (fun y hy => by have := h2 y hy; omega)
 refine ⟨Pg.over_no ?_, h1⟩
 have h4 : k = c + Pg.cnts l := h1
 omega
theorem countCmds_any {m : Nat} : ∀ (n : Nat) (s : Pg.Sl) (l : List (Pg.CT m n)) (w : World) (deep c : Nat), Pg.RS w 12 (Pg.LC w) (Pg.RC w m n) s l → 1 ≤ deep → deep ≤ 6 → c ≤ 40 →
  Calls Try.prog 44 #[.slice s.ad s.len s.cap, .int .i64 (deep : Nat), .int .i64 (c : Nat)] w fun r w' => r = Pg.ends (Pg.over c deep l) (.int .i64 ((c + Pg.cnts l : Nat) : Int)) ∧ Below w.heap.size w w' := by
 intro n
 induction n with
 | zero =>
  intro s l w deep c hs h1 h6 h40
  cases l with
  | cons y r => exact Empty.elim y
  | nil =>
   have hlen := hs.len
   have HO := hide (show Pg.over c deep ([] : List (Pg.CT m 0)) = 0 from Pg.over_no (by show ¬ (40 < c + 0 ∨ 6 < deep + 0); omega))
   have HC := hide (show c + Pg.cnts ([] : List (Pg.CT m 0)) = c from rfl)
   generalize Pg.over c deep ([] : List (Pg.CT m 0)) = Y at *
   generalize c + Pg.cnts ([] : List (Pg.CT m 0)) = T at *
   have hl0 : ¬ (0 : Int) < (s.len : Int) := by rw [hlen]; simp
   have hl1 : s.len ≤ 10 := by rw [hlen]; simp
   clear hs hlen
   go_enter Try.func44, Try.ntmps44
   go_wp2_with fail
   go_loopw [2, 11] (fun cv iv wr => cv = .int .i64 (c : Nat) ∧ iv = .int .i64 0 ∧ wr = w) (fun _ _ _ => 0)
   case atStart => exact ⟨rfl, rfl, rfl⟩
   case round =>
    obtain ⟨rfl, rfl, rfl⟩ := hrel
    go_wp2_with fail
    go_ret
    refine ⟨?_, Below.refl _ _⟩
    rw [unhide HO, unhide HC, Pg.ends_ok rfl]
    rfl
 | succ n ih =>
  intro s l w deep c hs h1 h6 h40
  have hlen := hs.len
  have hfew := hs.few
  rw [← hlen] at hfew
  have HYS := hide (fun (i k : Nat) (h : Pg.Far c deep l i k) (y : Pg.CT m (n + 1)) (hy : l[i]? = some y) (ho : 40 < k + Pg.cnt (n + 1) y ∨ 6 < deep + Pg.dep (n + 1) y) => h.yes hy ho)
  have HDN := hide (fun (i k : Nat) (h : Pg.Far c deep l i k) (hi : i = l.length) (hk : k ≤ 40) => h.done hi hk h6)
  obtain ⟨T, hT⟩ : ∃ T, c + Pg.cnts l = T := ⟨_, rfl⟩
  rw [hT]
  simp only [hT] at HDN
  clear hT
  generalize Pg.over c deep l = Y at *
  have HS := hide hs
  have HLN := hide hlen
  have IH := hide ih
  clear hs hlen ih
  go_enter Try.func44, Try.ntmps44
  go_wp2_with fail
  go_loopw [2, 11] (fun cv iv wr => ∃ (i k : Nat), i ≤ s.len ∧ iv = .int .i64 i ∧ cv = .int .i64 ((k : Nat) : Int) ∧ k ≤ 40 ∧ Pg.Far c deep l i k ∧ Below w.heap.size w wr) (fun _ iv _ => s.len - (intOf iv).toNat)
  case atStart => exact ⟨0, c, Nat.zero_le _, rfl, rfl, h40, ⟨rfl, fun y hy => by simp at hy⟩, Below.refl _ _⟩
  case round =>
   obtain ⟨i, k, hi, rfl, rfl, hk, hfar, hbe⟩ := hrel
   have hz := hbe.size
   have HBE := hide hbe
   have HF := hide hfar
   clear hbe hfar
   by_cases hlt : i < s.len
   · have hlt2 : i < l.length := by have := unhide HLN; omega
     have hy := List.getElem?_eq_getElem hlt2
     obtain ⟨b, o, cc, had, hb, hlies, hrd⟩ := (unhide HS).at_ i _ hy
     have HY := hide (fun ho => (unhide HYS) i k (unhide HF) _ hy ho)
     have HNX := hide (fun hd => (unhide HF).next hy hd)
     generalize l[i] = y at *
     rw [Pg.cnt_succ, Pg.dep_succ] at HY HNX
     have hll := hlies.later (unhide HBE) (Nat.le_refl _) hb
     obtain ⟨p0, p1, p2, p3, p4, p5, p6, p7, p8, p9, p10, p11⟩ := hll
     have hal := (Below.refl wr.heap.size wr).alloc (Nat.le_refl _) (Obj.cells #[.int .i64 cc.k, .int .i64 cc.v, .int .i64 cc.f, .int .i64 cc.ix.k, .int .i64 cc.ix.n, .slice cc.ix.args.ad cc.ix.args.len cc.ix.args.cap, .int .i64 cc.ex.k, .int .i64 cc.ex.n, .slice cc.ex.args.ad cc.ex.args.len cc.ex.args.cap, .slice cc.args.ad cc.args.len cc.args.cap, .slice cc.thn.ad cc.thn.len cc.thn.cap, .slice cc.els.ad cc.els.len cc.els.cap] 70)
     have hba := (unhide HBE).trans (hal.mono hz)
     have HBA := hide hba
     have hrd0 := hrd
     have HI1 := hide (fun (W : World) (hW : Below w.heap.size w W) (hd : deep ≤ 5) (hk1 : k + 1 ≤ 40) => (show Calls Try.prog 44 #[.slice cc.thn.ad cc.thn.len cc.thn.cap, .int .i64 ((deep : Int) + 1), .int .i64 ((k : Int) + 1)] W fun r w' => r = Pg.ends (Pg.over (k + 1) (deep + 1) y.2.2.1) (.int .i64 ((k + 1 + Pg.cnts y.2.2.1 : Nat) : Int)) ∧ Below W.heap.size W w' from (unhide IH) cc.thn y.2.2.1 W (deep + 1) (k + 1) (hrd0.2.2.1.laterC hW (Nat.le_refl _)) (by omega) (by omega) hk1))
     have HI2 := hide (fun (W : World) (K : Nat) (hW : Below w.heap.size w W) (hd : deep ≤ 5) (hk1 : K ≤ 40) => (show Calls Try.prog 44 #[.slice cc.els.ad cc.els.len cc.els.cap, .int .i64 ((deep : Int) + 1), .int .i64 (K : Int)] W fun r w' => r = Pg.ends (Pg.over K (deep + 1) y.2.2.2) (.int .i64 ((K + Pg.cnts y.2.2.2 : Nat) : Int)) ∧ Below W.heap.size W w' from (unhide IH) cc.els y.2.2.2 W (deep + 1) K (hrd0.2.2.2.laterC hW (Nat.le_refl _)) (by omega) (by omega) hk1))
     have HO1 := hide (fun (h : 40 < k + 1 + Pg.cnts y.2.2.1 ∨ 6 < deep + 1 + Pg.deps y.2.2.1) => Pg.over_yes (c := k + 1) (deep := deep + 1) h)
     have HN1 := hide (fun (h : ¬ (40 < k + 1 + Pg.cnts y.2.2.1 ∨ 6 < deep + 1 + Pg.deps y.2.2.1)) => Pg.over_no (c := k + 1) (deep := deep + 1) h)
     have HO2 := hide (fun (K : Nat) (h : 40 < K + Pg.cnts y.2.2.2 ∨ 6 < deep + 1 + Pg.deps y.2.2.2) => Pg.over_yes (c := K) (deep := deep + 1) h)
     have HN2 := hide (fun (K : Nat) (h : ¬ (40 < K + Pg.cnts y.2.2.2 ∨ 6 < deep + 1 + Pg.deps y.2.2.2)) => Pg.over_no (c := K) (deep := deep + 1) h)
     clear hlies hrd hrd0 hy hba
     generalize Pg.over (k + 1) (deep + 1) y.2.2.1 = O1 at *
     generalize Pg.cnts y.2.2.1 = C1 at *
     generalize Pg.cnts y.2.2.2 = C2 at *
     generalize Pg.deps y.2.2.1 = D1 at *
     generalize Pg.deps y.2.2.2 = D2 at *
     have hi0 : (0 : Int) ≤ (i : Int) := by omega
     have hi1 : (i : Int) < (s.len : Int) := by omega
     rw [had]
     by_cases hk40 : k + 1 > 40
     · have g40 : (k : Int) + 1 > 40 := by omega
       have HR := hide (show Y = 2 from (unhide HY) (Or.inl (by omega)))
       go_wp2_with fail
       refine (refuse_yes 2 _).mono ?_
       rintro r w1 ⟨rfl, hw1⟩
       subst hw1
       go_wp2_with fail
       exact ⟨rfl, by rw [unhide HR]; exact (Pg.ends_no (by decide)).symm, unhide HBA⟩
     · have g40 : ¬ (k : Int) + 1 > 40 := by omega
       by_cases hd5 : deep > 5
       · have g5 : (deep : Int) > 5 := by omega
         have HR := hide (show Y = 2 from (unhide HY) (Or.inr (by omega)))
         go_wp2_with fail
         refine (refuse_yes 2 _).mono ?_
         rintro r w1 ⟨rfl, hw1⟩
         subst hw1
         go_wp2_with fail
         exact ⟨rfl, by rw [unhide HR]; exact (Pg.ends_no (by decide)).symm, unhide HBA⟩
       · have g5 : ¬ (deep : Int) > 5 := by omega
         go_wp2_with fail
         refine (refuse_no 2 _).mono ?_
         rintro r w1 ⟨rfl, hw1⟩
         have q10 : w1.cell? ⟨wr.heap.size, 10, none⟩ = some (.slice cc.thn.ad cc.thn.len cc.thn.cap) := by rw [hw1]; go_simp
         have q11 : w1.cell? ⟨wr.heap.size, 11, none⟩ = some (.slice cc.els.ad cc.els.len cc.els.cap) := by rw [hw1]; go_simp
         have HB1 := hide (show Below w.heap.size w w1 by rw [hw1]; exact unhide HBA)
         clear hw1 p0 p1 p2 p3 p4 p5 p6 p7 p8 p9 p10 p11
         go_wp2_with fail
         refine ((unhide HI1) _ (unhide HB1) (by omega) (by omega)).mono ?_
         rintro r w2 ⟨hr2, hb2⟩
         have HB2 := hide ((unhide HB1).trans (hb2.mono (unhide HB1).size))
         have s11 := (hb2.cell (p := ⟨wr.heap.size, 11, none⟩) (World.block_lt_of_cell? _ _ q11)).trans q11
         clear hb2 q10 q11
         by_cases ho1 : 40 < k + 1 + C1 ∨ 6 < deep + 1 + D1
         · rw [(unhide HO1) ho1, Pg.ends_no (by decide)] at hr2
           subst hr2
           have HR := hide (show Y = 2 from (unhide HY) (by omega))
           clear ho1
           go_wp2_with fail
           exact ⟨rfl, by rw [unhide HR]; exact (Pg.ends_no (by decide)).symm, unhide HB2⟩
         · rw [(unhide HN1) ho1, Pg.ends_ok rfl] at hr2
           subst hr2
           generalize hKK : k + 1 + C1 = K at *
           have HKK := hide hKK
           have hK40 : K ≤ 40 := by omega
           have HD1 := hide (show deep + 1 + D1 ≤ 6 by omega)
           clear ho1 hKK
           go_wp2_with fail
           refine ((unhide HI2) _ K (unhide HB2) (by omega) hK40).mono ?_
           rintro r w3 ⟨hr3, hb3⟩
           have HB3 := hide ((unhide HB2).trans (hb3.mono (unhide HB2).size))
           clear hb3 s11
           by_cases ho2 : 40 < K + C2 ∨ 6 < deep + 1 + D2
           · rw [(unhide HO2) K ho2, Pg.ends_no (by decide)] at hr3
             subst hr3
             have HR := hide (show Y = 2 from (unhide HY) (by have := unhide HKK; omega))
             clear ho2
             go_wp2_with fail
             exact ⟨rfl, by rw [unhide HR]; exact (Pg.ends_no (by decide)).symm, unhide HB3⟩
           · rw [(unhide HN2) K ho2, Pg.ends_ok rfl] at hr3
             subst hr3
             have hfar := (unhide HNX) (by have := unhide HD1; omega)
             rw [show k + (1 + C1 + C2) = K + C2 by have := unhide HKK; omega] at hfar
             have HFA := hide hfar
             generalize hKL : K + C2 = L at *
             have hL40 : L ≤ 40 := by omega
             clear ho2 hfar hKL
             go_wp2_with fail
             exact ⟨⟨i + 1, L, by omega, by go_num, rfl, hL40, unhide HFA, unhide HB3⟩, by simp [intOf]; omega⟩
   · have hdn := (unhide HDN) i k (unhide HF) (by have := unhide HLN; omega) hk
     have HD := hide hdn
     clear hdn
     go_wp2_with fail
     go_ret
     refine ⟨?_, unhide HBE⟩
     rw [(unhide HD).1, Pg.ends_ok rfl, ← (unhide HD).2]
     rfl
theorem Xr.wrap_id {z : Int} (h0 : 0 ≤ z) (h1 : z ≤ 1000000) : IntKind.i64.wrap z = z := by
 rw [IntKind.wrap_i64]
 omega
end Go.Proofs.Ytpfogjplnodacaa
