/-
  The contract of scope's (checker).head. By the verifier.
-/
import Derived.Test.YtpfogjplnodacaaPExpr
import Derived.Test.YtpfogjplnodacaaPHas
set_option maxRecDepth 100000
set_option maxHeartbeats 3200000
namespace Go.Proofs.Ytpfogjplnodacaa
open Go.RowKit
set_option linter.unusedVariables false
def Pg.whead (last : Bool) (params : Int) (sz : List Int) : Nat :=
 if params < 0 ∨ (sz.length : Int) < params then 3
 else if 3 < params ∨ 6 < (sz.length : Int) - params then 2
 else if sz.any Pg.noSize then 3
 else if (sz.take params.toNat).any Pg.notNought then 1
 else if last = true ∧ 0 < params then 1 else 0
theorem Pg.RN.take {w : World} {a : Option Addr} {n c : Nat} {l : List Int} (h : Pg.RN w ⟨a, n, c⟩ l) (k : Nat) (hk : k ≤ n) : Pg.RN w ⟨a, k, c⟩ (l.take k) := by
 have h1 : n = l.length := h.len
 have h2 : n ≤ c := h.cap
 refine ⟨by show k = _; rw [List.length_take]; omega, by show k ≤ c; omega, by rw [List.length_take]; have := h.few; omega, fun i z hz => ?_⟩
 rw [List.getElem?_take] at hz
 split at hz
 · exact h.at_ i z hz
 · cases hz
abbrev Pg.S8 (b : Nat) (A0 A1 E0 E1 E2 E3 E4 E5 : Value) (w W : World) : Prop := W.cell? ⟨b, 0, none⟩ = some A0 ∧ W.cell? ⟨b, 1, none⟩ = some A1 ∧ W.cell? ⟨b + 1, 0, none⟩ = some E0 ∧ W.cell? ⟨b + 1, 1, none⟩ = some E1 ∧ W.cell? ⟨b + 1, 2, none⟩ = some E2 ∧ W.cell? ⟨b + 1, 3, none⟩ = some E3 ∧ W.cell? ⟨b + 1, 4, none⟩ = some E4 ∧ W.cell? ⟨b + 1, 5, none⟩ = some E5 ∧ Below w.heap.size w W
section
variable {m n : Nat} {s : Pg.Sl} {p : List (Pg.FT m n)} {now : Nat} {f : Pg.F} {x : Pg.FT m n}
theorem head_any (w : World) (h : Pg.Cx w m n s p now f x) (hpb : x.params ≤ 9223372036854775807) :
  Calls Try.prog 45 #[.agg #[.slice s.ad s.len s.cap, .int .i64 (now : Nat)]] w fun r w' => r = Pg.ends (Pg.whead (decide (now + 1 = s.len)) x.params x.sizes) (.tuple #[]) ∧ Below w.heap.size w w' := by
 obtain ⟨h1, h2, h3⟩ := h.few
 have hb0 := (Below.refl w.heap.size w).alloc (Nat.le_refl _) (Obj.cells #[.slice s.ad s.len s.cap, .int .i64 (now : Nat)] 79)
 have hb1 := hb0.alloc (by simp) (Obj.cells #[.int .i64 f.params, .slice f.sizes.ad f.sizes.len f.sizes.cap, .slice f.cmds.ad f.cmds.len f.cmds.cap, .int .i64 f.res.k, .int .i64 f.res.n, .slice f.res.args.ad f.res.args.len f.res.args.cap] 44)
 have HS8 := hide (show Pg.S8 w.heap.size (.slice s.ad s.len s.cap) (.int .i64 (now : Nat)) (.int .i64 f.params) (.slice f.sizes.ad f.sizes.len f.sizes.cap) (.slice f.cmds.ad f.cmds.len f.cmds.cap) (.int .i64 f.res.k) (.int .i64 f.res.n) (.slice f.res.args.ad f.res.args.len f.res.args.cap) w ((w.alloc (Obj.cells #[.slice s.ad s.len s.cap, .int .i64 (now : Nat)] 79)).alloc (Obj.cells #[.int .i64 f.params, .slice f.sizes.ad f.sizes.len f.sizes.cap, .slice f.cmds.ad f.cmds.len f.cmds.cap, .int .i64 f.res.k, .int .i64 f.res.n, .slice f.res.args.ad f.res.args.len f.res.args.cap] 44)) from ⟨by go_simp, by go_simp, by go_simp, by go_simp, by go_simp, by go_simp, by go_simp, by go_simp, hb1⟩)
 obtain ⟨b, o, had, hb, hl⟩ := (h.later hb0 (Nat.le_refl _)).lies
 have hi0 : (0 : Int) ≤ (now : Int) := by omega
 have hi1 : (now : Int) < (s.len : Int) := by omega
 have hl6 : s.len ≤ 35184372088832 := by omega
 have l0 := hl.c0
 have l1 := hl.c1
 have l2 := hl.c2
 have l3 := hl.c3
 have l4 := hl.c4
 have l5 := hl.c5
 have HLA := hide (fun (W : World) => isLast_any (s := s) (now := now) W hl6)
 have HRS := hide (fun (W : World) (hW : Below w.heap.size w W) => h.rf.sizes.later hW (Nat.le_refl _))
 rw [← h.rf.params] at hpb
 have hlen := h.rf.sizes.len
 have hcap := h.rf.sizes.cap
 have hfew := h.rf.sizes.few
 rw [← hlen] at hfew
 have HC := hide (show Pg.whead (decide (now + 1 = s.len)) x.params x.sizes = if f.params < 0 ∨ (f.sizes.len : Int) < f.params then 3 else if 3 < f.params ∨ 6 < (f.sizes.len : Int) - f.params then 2 else if x.sizes.any Pg.noSize then 3 else if (x.sizes.take f.params.toNat).any Pg.notNought then 1 else if decide (now + 1 = s.len) = true ∧ 0 < f.params then 1 else 0 by rw [h.rf.params, hlen]; rfl)
 generalize Pg.whead (decide (now + 1 = s.len)) x.params x.sizes = R at *
 generalize decide (now + 1 = s.len) = L at *
 clear h h1 h2 h3 hb0 hb1 hl hlen
 obtain ⟨sa, sl, sc⟩ := s
 obtain ⟨fp, ⟨za, zl, zc⟩, fc, fr⟩ := f
 dsimp only at *
 subst had
 go_enter Try.func45, Try.ntmps45
 go_upto_region 2 with fail
 clear l0 l1 l2 l3 l4 l5 hb
 generalize ((w.alloc (Obj.cells #[.slice (some ⟨b, o, none⟩) sl sc, .int .i64 (now : Nat)] 79)).alloc (Obj.cells #[.int .i64 fp, .slice za zl zc, .slice fc.ad fc.len fc.cap, .int .i64 fr.k, .int .i64 fr.n, .slice fr.args.ad fr.args.len fr.args.cap] 44)) = W0 at *
 obtain ⟨a0, a1, e0, e1, e2, e3, e4, e5, hbw⟩ := unhide HS8
 have HBW := hide hbw
 clear hbw
 by_cases hp0 : fp < 0
 · have HR := hide (show R = 3 by rw [unhide HC, if_pos (Or.inl hp0)])
   go_wp2_with fail
   refine (refuse_yes 3 _).mono ?_
   rintro r w1 ⟨rfl, hw1⟩
   subst hw1
   go_wp2_with fail
   exact ⟨rfl, by rw [unhide HR]; exact (Pg.ends_no (by decide)).symm, unhide HBW⟩
 · by_cases hp1 : (zl : Int) - fp < 0
   · have HR := hide (show R = 3 by rw [unhide HC, if_pos (Or.inr (by omega))])
     go_wp2_with fail
     refine (refuse_yes 3 _).mono ?_
     rintro r w1 ⟨rfl, hw1⟩
     subst hw1
     go_wp2_with fail
     exact ⟨rfl, by rw [unhide HR]; exact (Pg.ends_no (by decide)).symm, unhide HBW⟩
   · have HR1 := hide (show R = if 3 < fp ∨ 6 < (zl : Int) - fp then 2 else if x.sizes.any Pg.noSize then 3 else if (x.sizes.take fp.toNat).any Pg.notNought then 1 else if L = true ∧ 0 < fp then 1 else 0 by rw [unhide HC, if_neg (by omega)])
     clear HC
     go_wp2_with fail
     refine (refuse_no 3 _).mono ?_
     rintro r w1 ⟨rfl, hw1⟩
     subst hw1
     by_cases hp2 : fp > 3
     · have HR := hide (show R = 2 by rw [unhide HR1, if_pos (Or.inl hp2)])
       go_wp2_with fail
       refine (refuse_yes 2 _).mono ?_
       rintro r w1 ⟨rfl, hw1⟩
       subst hw1
       go_wp2_with fail
       exact ⟨rfl, by rw [unhide HR]; exact (Pg.ends_no (by decide)).symm, unhide HBW⟩
     · by_cases hp3 : (zl : Int) - fp > 6
       · have HR := hide (show R = 2 by rw [unhide HR1, if_pos (Or.inr hp3)])
         go_wp2_with fail
         refine (refuse_yes 2 _).mono ?_
         rintro r w1 ⟨rfl, hw1⟩
         subst hw1
         go_wp2_with fail
         exact ⟨rfl, by rw [unhide HR]; exact (Pg.ends_no (by decide)).symm, unhide HBW⟩
       · have hp2' : (3 < fp) = False := by simp; omega
         have hp3' : (6 < (zl : Int) - fp) = False := by simp; omega
         have HR2 := hide (show R = if x.sizes.any Pg.noSize then 3 else if (x.sizes.take fp.toNat).any Pg.notNought then 1 else if L = true ∧ 0 < fp then 1 else 0 by rw [unhide HR1, if_neg (by omega)])
         clear HR1
         go_wp2_with fail
         refine (refuse_no 2 _).mono ?_
         rintro r w1 ⟨rfl, hw1⟩
         subst hw1
         obtain ⟨np, rfl⟩ : ∃ np : Nat, fp = np := ⟨fp.toNat, by omega⟩
         rw [Int.toNat_natCast] at HR2
         have hnp : np ≤ zl := by omega
         have hnp3 : np ≤ 3 := by omega
         have HH1 := hide (fun (W : World) (hW : Below w.heap.size w W) => hasSize_contains ⟨za, zl, zc⟩ x.sizes W ((unhide HRS) W hW))
         have HH2 := hide (fun (W : World) (hW : Below w.heap.size w W) => hasNought_contains ⟨za, np, zc⟩ (x.sizes.take np) W (((unhide HRS) W hW).take np hnp))
         generalize x.sizes.any Pg.noSize = Z1 at *
         generalize (x.sizes.take np).any Pg.notNought = Z2 at *
         clear hp0 hp1 hp2 hp3
         have hp9 : ¬ (np : Int) < 0 := by omega
         have hp8 : (np : Int) ≤ (zl : Int) := by omega
         have hp7 : (np : Int) ≤ (zc : Int) := by omega
         go_wp2_with fail
         refine ((unhide HH1) _ (unhide HBW)).mono ?_
         rintro r w1 ⟨rfl, hw1⟩
         subst hw1
         cases Z1
         case true =>
          have HR := hide (show R = 3 by rw [unhide HR2]; rfl)
          go_wp2_with fail
          refine (refuse_yes 3 _).mono ?_
          rintro r w1 ⟨rfl, hw1⟩
          subst hw1
          go_wp2_with fail
          exact ⟨rfl, by rw [unhide HR]; exact (Pg.ends_no (by decide)).symm, unhide HBW⟩
         case false =>
          have HR3 := hide (show R = if Z2 then 1 else if L = true ∧ 0 < (np : Int) then 1 else 0 by rw [unhide HR2]; rfl)
          clear HR2
          go_wp2_with fail
          refine (refuse_no 3 _).mono ?_
          rintro r w1 ⟨rfl, hw1⟩
          subst hw1
          go_wp2_with fail
          refine ((unhide HH2) _ (unhide HBW)).mono ?_
          rintro r w1 ⟨rfl, hw1⟩
          subst hw1
          cases Z2
          case true =>
           have HR := hide (show R = 1 by rw [unhide HR3]; rfl)
           go_wp2_with fail
           refine (refuse_yes 1 _).mono ?_
           rintro r w1 ⟨rfl, hw1⟩
           subst hw1
           go_wp2_with fail
           exact ⟨rfl, by rw [unhide HR]; exact (Pg.ends_no (by decide)).symm, unhide HBW⟩
          case false =>
           have HR4 := hide (show R = if L = true ∧ 0 < (np : Int) then 1 else 0 by rw [unhide HR3]; rfl)
           clear HR3
           go_wp2_with fail
           refine (refuse_no 1 _).mono ?_
           rintro r w1 ⟨rfl, hw1⟩
           subst hw1
           go_wp2_with fail
           refine ((unhide HLA) _).mono ?_
           rintro r w2 ⟨rfl, hb2⟩
           have f0 := (hb2.cell (p := ⟨w.heap.size + 1, 0, none⟩) (World.block_lt_of_cell? _ _ e0)).trans e0
           have HB2 := hide ((unhide HBW).trans (hb2.mono (unhide HBW).size))
           clear hb2 a0 a1 e0 e1 e2 e3 e4 e5
           cases L
           case false =>
            have HR := hide (show R = 0 by rw [unhide HR4, if_neg (by simp)])
            go_wp2_with fail
            refine (refuse_no 1 _).mono ?_
            rintro r w1 ⟨rfl, hw1⟩
            subst hw1
            go_wp2_with fail
            go_end0
            exact ⟨(Pg.ends_ok (unhide HR)).symm, unhide HB2⟩
           case true =>
            by_cases hp5 : 0 < np
            · have HR := hide (show R = 1 by rw [unhide HR4, if_pos ⟨rfl, by omega⟩])
              go_wp2_with fail
              refine (refuse_yes 1 _).mono ?_
              rintro r w1 ⟨rfl, hw1⟩
              subst hw1
              go_wp2_with fail
              exact ⟨rfl, by rw [unhide HR]; exact (Pg.ends_no (by decide)).symm, unhide HB2⟩
            · have HR := hide (show R = 0 by rw [unhide HR4, if_neg (fun h => hp5 (by omega))])
              go_wp2_with fail
              refine (refuse_no 1 _).mono ?_
              rintro r w1 ⟨rfl, hw1⟩
              subst hw1
              go_wp2_with fail
              go_end0
              exact ⟨(Pg.ends_ok (unhide HR)).symm, unhide HB2⟩
end
end Go.Proofs.Ytpfogjplnodacaa
