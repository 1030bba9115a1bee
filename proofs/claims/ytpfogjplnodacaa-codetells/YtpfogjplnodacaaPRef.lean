/-
  Contracts of the document's between, exprParts, ArgsOf, noneExpr. By the verifier.
-/
import Derived.Test.YtpfogjplnodacaaPLeaf
set_option maxHeartbeats 1600000
namespace Go.Proofs.Ytpfogjplnodacaa
open Go.RowKit
set_option linter.unusedVariables false
theorem between_any (n a b : Int) (w : World) :
  Calls Try.prog 12 #[.int .i64 n, .int .i64 a, .int .i64 b] w fun e w' => e = .returned (.bool (decide (a ≤ n ∧ n ≤ b))) ∧ w' = w := by
 by_cases h1 : a ≤ n
 · by_cases h2 : n ≤ b
   · have hh : decide (a ≤ n ∧ n ≤ b) = true := by simp [h1, h2]
     rw [hh]; clear hh
     go_enter Try.func12, Try.ntmps12
     go_wp2
     go_ret
     exact ⟨rfl, rfl⟩
   · have hh : decide (a ≤ n ∧ n ≤ b) = false := by simp [h2]
     rw [hh]; clear hh
     go_enter Try.func12, Try.ntmps12
     go_wp2
     go_ret
     exact ⟨rfl, rfl⟩
 · have hh : decide (a ≤ n ∧ n ≤ b) = false := by simp [h1]
   rw [hh]; clear hh
   go_enter Try.func12, Try.ntmps12
   go_wp2
   go_ret
   exact ⟨rfl, rfl⟩
def Pg.capP (enough : Int) (p : Nat) : Int := if (p : Int) ≤ enough then p else enough + 1
theorem exprParts_any : ∀ (n : Nat) (e : Pg.E) (x : Pg.XT n) (w : World) (enough : Int), Pg.RX w n e x → 0 ≤ enough → enough ≤ 1000 →
  Calls Try.prog 31 #[e.val, .int .i64 enough] w fun r w' => r = .returned (.int .i64 (Pg.capP enough (Pg.parts n x))) ∧ Below w.heap.size w w' := by
 intro n
 induction n with
 | zero => intro e x w enough h; exact absurd h id
 | succ n ih =>
  intro e x w enough hre h0 h1
  obtain ⟨hf, hs⟩ := hre
  have hlen := hs.len
  have hfew := hs.few
  rw [← hlen] at hfew
  have HS := hide hs
  have HLN := hide hlen
  have IH := hide ih
  clear hs hf hlen ih
  unfold Pg.E.val
  go_enter Try.func31, Try.ntmps31
  go_wp2_with fail
  go_loopw [5, 6] (fun nv iv wr => ∃ (i : Nat) (l : Int), i ≤ e.args.len ∧ iv = .int .i64 i ∧ nv = .int .i64 l ∧ l = Pg.capP enough (1 + Pg.sumTo (Pg.parts n) x.2 i) ∧ w.heap.size + 1 ≤ wr.heap.size ∧
   Below (w.heap.size + 1) (w.alloc (.cells #[.int .i64 e.k, .int .i64 e.n, .slice e.args.ad e.args.len e.args.cap] 42)) wr) (fun _ iv _ => e.args.len - (intOf iv).toNat)
  case atStart =>
   refine ⟨0, 1, Nat.zero_le _, rfl, rfl, ?_, by simp, Below.refl _ _⟩
   show _ = Pg.capP enough 1
   unfold Pg.capP; split <;> omega
  case round =>
   obtain ⟨i, l, hi, rfl, rfl, hl, hz, hbe⟩ := hrel
   have hl1 : 0 ≤ l := by rw [hl]; unfold Pg.capP; split <;> omega
   have hl2 : l ≤ 1001 := by rw [hl]; unfold Pg.capP; split <;> omega
   have b2 : wr.cell? ⟨w.heap.size, 2, none⟩ = some (.slice e.args.ad e.args.len e.args.cap) := (hbe.cell (p := ⟨w.heap.size, 2, none⟩) (by show w.heap.size < _; omega)).trans (by simp)
   have HL := hide hl
   have hbw : Below w.heap.size w wr := ((Below.refl _ _).alloc (Nat.le_refl _) _).trans (hbe.mono (by omega))
   have HBW := hide hbw
   have HBE := hide hbe
   clear hl hbe hbw
   by_cases hlt : i < e.args.len
   · have hlt2 : i < x.2.length := by have := unhide HLN; omega
     have hy := List.getElem?_eq_getElem hlt2
     obtain ⟨b, o, c, had, hb, hlies, hrd⟩ := (unhide HS).at_ i _ hy
     have hsum := Pg.sumTo_succ (Pg.parts n) x.2 i _ hy
     have hpar : Pg.parts (n + 1) x = 1 + (x.2.map (Pg.parts n)).sum := rfl
     have hsle := Pg.sumTo_le (Pg.parts n) x.2 i (by omega)
     have hsle2 := Pg.sumTo_le (Pg.parts n) x.2 (i + 1) hlt2
     generalize x.2[i] = y at *
     have hll := hlies.later (unhide HBW) (Nat.le_refl _) hb
     obtain ⟨p0, p1, p2⟩ := hll
     have HRD := hide (hrd.later (unhide HBW) (Nat.le_refl _))
     have HSU := hide hsum
     clear hlies hrd hsum hy
     have hi0 : (0 : Int) ≤ (i : Int) := by omega
     have hi1 : (i : Int) < (e.args.len : Int) := by omega
     rw [had] at b2
     rw [had]
     by_cases hle : l ≤ enough
     · have hnew : Hid (l + Pg.capP (enough - l) (Pg.parts n y) = Pg.capP enough (1 + Pg.sumTo (Pg.parts n) x.2 (i + 1))) := by
        show _ = _
        have a := unhide HL
        have b := unhide HSU
        rw [b]
        unfold Pg.capP at a ⊢
        split at a
        · by_cases hc : ((Pg.parts n y : Nat) : Int) ≤ enough - l
          · rw [if_pos hc, if_pos (by omega)]; omega
          · rw [if_neg hc, if_neg (by omega)]; omega
        · omega
       have hcb : 0 ≤ Pg.capP (enough - l) (Pg.parts n y) ∧ Pg.capP (enough - l) (Pg.parts n y) ≤ 1001 := by unfold Pg.capP; split <;> omega
       have HCB := hide hcb
       clear hpar hsle hsle2 hcb
       go_wp2_with fail
       refine ((unhide IH) c y _ (enough - l) (unhide HRD) (by omega) (by omega)).mono ?_
       rintro r w1 ⟨rfl, hb1⟩
       have hz1 := hb1.size
       have HB1 := hide ((unhide HBE).trans (hb1.mono (by omega)))
       clear hb1
       obtain ⟨hcb1, hcb2⟩ := unhide HCB
       have HNW := hnew
       clear hnew
       go_wp2_with fail
       exact ⟨⟨i + 1, l + Pg.capP (enough - l) (Pg.parts n y), by omega, by go_num, rfl, unhide HNW, by omega, by have := unhide HB1; rw [had] at this; exact this⟩, by simp [intOf]; omega⟩
     · have hfin : Hid (l = Pg.capP enough (Pg.parts (n + 1) x)) := by
        show _ = _
        have a := unhide HL
        unfold Pg.capP at a ⊢
        rw [hpar]
        split at a
        · omega
        · rw [if_neg (by omega)]; omega
       clear hpar hsle hsle2
       go_wp2_with fail
       go_ret
       exact ⟨ret_int (unhide hfin), unhide HBW⟩
   · have hfin : Hid (l = Pg.capP enough (Pg.parts (n + 1) x)) := by
      show _ = _
      have a := unhide HL
      have e1 : i = x.2.length := by have := unhide HLN; omega
      rw [a, e1, Pg.sumTo_all]; rfl
     go_wp2_with fail
     go_ret
     exact ⟨ret_int (unhide hfin), unhide HBW⟩
theorem ArgsOf_any (k : Int) (w : World) : Calls Try.prog 33 #[.int .i64 k] w fun r w' => r = .returned (.int .i64 (if 1 ≤ k ∧ k ≤ 10 then ((Pg.argsN k : Nat) : Int) else -1)) ∧ Below w.heap.size w w' := by
 by_cases hK : 1 ≤ k ∧ k ≤ 10
 · have HD := hide (show decide (1 ≤ k ∧ k ≤ 10) = true by simpa using hK)
   rw [if_pos hK]
   obtain ⟨n, rfl⟩ : ∃ n : Nat, k = n := ⟨k.toNat, by omega⟩
   have h : n = 1 ∨ n = 2 ∨ n = 3 ∨ n = 4 ∨ n = 5 ∨ n = 6 ∨ n = 7 ∨ n = 8 ∨ n = 9 ∨ n = 10 := by omega
   clear hK
   rcases h with rfl | rfl | rfl | rfl | rfl | rfl | rfl | rfl | rfl | rfl
   all_goals
    go_enter Try.func33, Try.ntmps33
    go_wp2_with fail
    refine (between_any _ _ _ _).mono ?_
    rintro r w1 ⟨rfl, rfl⟩
    go_wp2_with fail
    go_ret
    exact ⟨rfl, (Below.refl _ _).alloc (Nat.le_refl _) _⟩
 · have HD := hide (show decide (1 ≤ k ∧ k ≤ 10) = false by simpa using hK)
   rw [if_neg hK]
   clear hK
   go_enter Try.func33, Try.ntmps33
   go_wp2_with fail
   refine (between_any _ _ _ _).mono ?_
   rintro r w1 ⟨rfl, rfl⟩
   rw [unhide HD]
   go_wp2_with fail
   go_ret
   exact ⟨rfl, Below.refl _ _⟩
end Go.Proofs.Ytpfogjplnodacaa
