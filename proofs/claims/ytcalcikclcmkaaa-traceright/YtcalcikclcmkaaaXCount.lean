/-
  The contract of trace's count. By the verifier.
-/
import Derived.Test.YtcalcikclcmkaaaXOps
import Derived.Test.YtcalcikclcmkaaaPCount
set_option maxRecDepth 100000
set_option maxHeartbeats 3200000
namespace Go.Proofs.Ytcalcikclcmkaaa
open Go.RowKit
set_option linter.unusedVariables false
def Xr.inn {m n : Nat} (y : Pg.CT m (n + 1)) : Nat := Pg.cnts y.2.2.1 + Pg.cnts y.2.2.2
theorem Xr.cnts_inn {m n : Nat} (l : List (Pg.CT m (n + 1))) : Pg.cnts l = l.length + (l.map Xr.inn).sum := by
 induction l with
 | nil => rfl
 | cons y r ih =>
  have h1 : Pg.cnts (y :: r) = Pg.cnt (n + 1) y + Pg.cnts r := rfl
  have h2 : ((y :: r).map Xr.inn).sum = Xr.inn y + (r.map Xr.inn).sum := rfl
  rw [h1, h2, Pg.cnt_succ, ih, List.length_cons]
  unfold Xr.inn
  omega
theorem Xr.wrap_id {z : Int} (h0 : 0 ≤ z) (h1 : z ≤ 1000000) : IntKind.i64.wrap z = z := by
 rw [IntKind.wrap_i64]
 omega
theorem count_any {m : Nat} : ∀ (n : Nat) (s : Pg.Sl) (l : List (Pg.CT m n)) (w : World), Pg.RS w 12 (Pg.LC w) (Pg.RC w m n) s l → Pg.cnts l ≤ 1000 →
  Calls Try.prog 94 #[.slice s.ad s.len s.cap] w fun r w' => r = .returned (.int .i64 (Pg.cnts l : Nat)) ∧ Below w.heap.size w w' := by
 intro n
 induction n with
 | zero =>
  intro s l w hs hc
  cases l with
  | cons y r => exact Empty.elim y
  | nil =>
   have hlen := hs.len
   have hl0 : s.len = 0 := by rw [hlen]; rfl
   have HC := hide (show Pg.cnts ([] : List (Pg.CT m 0)) = 0 from rfl)
   generalize Pg.cnts ([] : List (Pg.CT m 0)) = R at *
   clear hs hlen hc
   obtain ⟨sa, sl, sc⟩ := s
   dsimp only at *
   subst hl0
   go_enter Try.func94, Try.ntmps94
   go_wp2_with fail
   go_loopw [3, 10] (fun nv iv wr => nv = .int .i64 0 ∧ iv = .int .i64 0 ∧ wr = w) (fun _ _ _ => 0)
   case atStart => exact ⟨rfl, rfl, rfl⟩
   case round =>
    obtain ⟨rfl, rfl, rfl⟩ := hrel
    go_wp2_with fail
    go_ret
    exact ⟨ret_int (by rw [unhide HC]; rfl), Below.refl _ _⟩
 | succ n ih =>
  intro s l w hs hc
  have hlen := hs.len
  have hfew := hs.few
  rw [← hlen] at hfew
  have hci := Xr.cnts_inn l
  have HSA := hide (Pg.sumTo_all Xr.inn l)
  have HSL := hide (Pg.sumTo_le Xr.inn l)
  have hll : s.len ≤ 1000 := by omega
  obtain ⟨R, hR⟩ : ∃ R, R = Pg.cnts l := ⟨_, rfl⟩
  rw [← hR]
  have HR := hide (show R = s.len + (l.map Xr.inn).sum by rw [hR, hci, hlen])
  have hRc : R ≤ 1000 := by omega
  have HS := hide hs
  have HLN := hide hlen
  have IH := hide ih
  clear hs hlen ih hc hci hR
  obtain ⟨sa, sl, sc⟩ := s
  dsimp only at *
  go_enter Try.func94, Try.ntmps94
  go_wp2_with fail
  go_loopw [3, 10] (fun nv iv wr => ∃ (i k : Nat), i ≤ sl ∧ iv = .int .i64 i ∧ nv = .int .i64 ((k : Nat) : Int) ∧ k ≤ 1000 ∧ Hid (k = sl + Pg.sumTo Xr.inn l i) ∧ Below w.heap.size w wr) (fun _ iv _ => sl - (intOf iv).toNat)
  case atStart => exact ⟨0, sl, Nat.zero_le _, rfl, rfl, hll, by show _ = _; rfl, Below.refl _ _⟩
  case round =>
   obtain ⟨i, k, hi, rfl, rfl, hk, hkk, hbe⟩ := hrel
   have hz := hbe.size
   have HBE := hide hbe
   have HK := hide (unhide hkk)
   clear hbe hkk
   by_cases hlt : i < sl
   · have hlt2 : i < l.length := by have := unhide HLN; omega
     have hy := List.getElem?_eq_getElem hlt2
     obtain ⟨b, o, cc, had, hb, hlies, hrd⟩ := (unhide HS).at_ i _ hy
     have HSU := hide (Pg.sumTo_succ Xr.inn l i _ hy)
     have HLE := hide ((unhide HSL) (i + 1) (by omega))
     generalize l[i] = y at *
     have hyi : Xr.inn y = Pg.cnts y.2.2.1 + Pg.cnts y.2.2.2 := rfl
     have hsum : k + (Pg.cnts y.2.2.1 + Pg.cnts y.2.2.2) ≤ R := by
      have h1 := unhide HSU
      have h2 := unhide HLE
      have h3 := unhide HK
      have h4 := unhide HR
      omega
     have HNX := hide (show k + (Pg.cnts y.2.2.1 + Pg.cnts y.2.2.2) = sl + Pg.sumTo Xr.inn l (i + 1) by
      have h1 := unhide HSU
      have h3 := unhide HK
      omega)
     have hll2 := hlies.later (unhide HBE) (Nat.le_refl _) hb
     obtain ⟨p0, p1, p2, p3, p4, p5, p6, p7, p8, p9, p10, p11⟩ := hll2
     have hal := (Below.refl wr.heap.size wr).alloc (Nat.le_refl _) (Obj.cells #[.int .i64 cc.k, .int .i64 cc.v, .int .i64 cc.f, .int .i64 cc.ix.k, .int .i64 cc.ix.n, .slice cc.ix.args.ad cc.ix.args.len cc.ix.args.cap, .int .i64 cc.ex.k, .int .i64 cc.ex.n, .slice cc.ex.args.ad cc.ex.args.len cc.ex.args.cap, .slice cc.args.ad cc.args.len cc.args.cap, .slice cc.thn.ad cc.thn.len cc.thn.cap, .slice cc.els.ad cc.els.len cc.els.cap] 80)
     have hba := (unhide HBE).trans (hal.mono hz)
     have HBA := hide hba
     have HT := hide (fun (W : World) (hW : Below w.heap.size w W) => (unhide IH) cc.thn y.2.2.1 W (hrd.2.2.1.laterC hW (Nat.le_refl _)) (by omega))
     have HE := hide (fun (W : World) (hW : Below w.heap.size w W) => (unhide IH) cc.els y.2.2.2 W (hrd.2.2.2.laterC hW (Nat.le_refl _)) (by omega))
     have s10 : (wr.alloc (Obj.cells #[.int .i64 cc.k, .int .i64 cc.v, .int .i64 cc.f, .int .i64 cc.ix.k, .int .i64 cc.ix.n, .slice cc.ix.args.ad cc.ix.args.len cc.ix.args.cap, .int .i64 cc.ex.k, .int .i64 cc.ex.n, .slice cc.ex.args.ad cc.ex.args.len cc.ex.args.cap, .slice cc.args.ad cc.args.len cc.args.cap, .slice cc.thn.ad cc.thn.len cc.thn.cap, .slice cc.els.ad cc.els.len cc.els.cap] 80)).cell? ⟨wr.heap.size, 10, none⟩ = some (.slice cc.thn.ad cc.thn.len cc.thn.cap) := by go_simp
     have s11 : (wr.alloc (Obj.cells #[.int .i64 cc.k, .int .i64 cc.v, .int .i64 cc.f, .int .i64 cc.ix.k, .int .i64 cc.ix.n, .slice cc.ix.args.ad cc.ix.args.len cc.ix.args.cap, .int .i64 cc.ex.k, .int .i64 cc.ex.n, .slice cc.ex.args.ad cc.ex.args.len cc.ex.args.cap, .slice cc.args.ad cc.args.len cc.args.cap, .slice cc.thn.ad cc.thn.len cc.thn.cap, .slice cc.els.ad cc.els.len cc.els.cap] 80)).cell? ⟨wr.heap.size, 11, none⟩ = some (.slice cc.els.ad cc.els.len cc.els.cap) := by go_simp
     generalize Pg.cnts y.2.2.1 = C1 at *
     generalize Pg.cnts y.2.2.2 = C2 at *
     have hw1 : IntKind.i64.wrap ((C1 : Int) + (C2 : Int)) = (C1 : Int) + (C2 : Int) := Xr.wrap_id (by omega) (by omega)
     have hw2 : IntKind.i64.wrap ((k : Int) + ((C1 : Int) + (C2 : Int))) = (k : Int) + ((C1 : Int) + (C2 : Int)) := Xr.wrap_id (by omega) (by omega)
     clear hlies hrd hy hal hba hyi
     have hi0 : (0 : Int) ≤ (i : Int) := by omega
     have hi1 : (i : Int) < (sl : Int) := by omega
     have had' : sa = some ⟨b, o, none⟩ := had
     subst had'
     clear had
     go_upto_region 5 with fail
     clear p0 p1 p2 p3 p4 p5 p6 p7 p8 p9 p10 p11
     generalize wr.alloc (Obj.cells #[.int .i64 cc.k, .int .i64 cc.v, .int .i64 cc.f, .int .i64 cc.ix.k, .int .i64 cc.ix.n, .slice cc.ix.args.ad cc.ix.args.len cc.ix.args.cap, .int .i64 cc.ex.k, .int .i64 cc.ex.n, .slice cc.ex.args.ad cc.ex.args.len cc.ex.args.cap, .slice cc.args.ad cc.args.len cc.args.cap, .slice cc.thn.ad cc.thn.len cc.thn.cap, .slice cc.els.ad cc.els.len cc.els.cap] 80) = W1 at *
     have hbl := World.block_lt_of_cell? W1 _ s10
     have HKM := hide (show ∀ V : World, Below W1.heap.size W1 V → (V.cell? ⟨wr.heap.size, 10, none⟩ = some (.slice cc.thn.ad cc.thn.len cc.thn.cap) ∧ V.cell? ⟨wr.heap.size, 11, none⟩ = some (.slice cc.els.ad cc.els.len cc.els.cap) ∧ Below W1.heap.size W1 V) from fun V hV => ⟨(hV.cell (p := ⟨wr.heap.size, 10, none⟩) hbl).trans s10, (hV.cell (p := ⟨wr.heap.size, 11, none⟩) hbl).trans s11, hV⟩)
     clear s10 s11
     go_region_held3 (fun V => V.cell? ⟨wr.heap.size, 10, none⟩ = some (.slice cc.thn.ad cc.thn.len cc.thn.cap) ∧ V.cell? ⟨wr.heap.size, 11, none⟩ = some (.slice cc.els.ad cc.els.len cc.els.cap) ∧ Below W1.heap.size W1 V)
      (first | assumption | exact (unhide HKM) _ ((Below.refl _ _).drew) | exact (unhide HKM) _ (Below.trans (And.right (And.right (by assumption))) ((unhide HB5).mono (Below.size (And.right (And.right (by assumption)))))))
      (first
       | (go_at_call_of 94 (Value.slice cc.thn.ad cc.thn.len cc.thn.cap); refine ((unhide HT) _ ?_).mono ?_; exact (unhide HBA).trans (Below.mono (And.right (And.right (by assumption))) (unhide HBA).size); rintro r w5 ⟨rfl, hb5⟩; have HB5 := hide hb5; clear hb5)
       | (go_at_call_of 94 (Value.slice cc.els.ad cc.els.len cc.els.cap); refine ((unhide HE) _ ?_).mono ?_; exact (unhide HBA).trans (Below.mono (And.right (And.right (by assumption))) (unhide HBA).size); rintro r w5 ⟨rfl, hb5⟩; have HB5 := hide hb5; clear hb5))
     all_goals
      go_wp2_with fail
      exact ⟨⟨i + 1, k + (C1 + C2), by omega, by go_num, by go_num, by omega, by show _ = _; exact unhide HNX, (unhide HBA).trans (Below.mono (And.right (And.right (by assumption))) (unhide HBA).size)⟩, by simp [intOf]; omega⟩
   · have HF := hide (show k = R by
      have h1 := unhide HK
      have h2 := unhide HSA
      have e1 : i = l.length := by have := unhide HLN; omega
      rw [e1, h2] at h1
      have h4 := unhide HR
      omega)
     go_wp2_with fail
     go_ret
     exact ⟨ret_int (by rw [unhide HF]), unhide HBE⟩
end Go.Proofs.Ytcalcikclcmkaaa
