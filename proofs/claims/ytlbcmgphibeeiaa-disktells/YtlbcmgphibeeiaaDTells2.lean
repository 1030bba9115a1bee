/-
  DiskTells: the walk of the law, one way through its ifs each. By the verifier.
-/
import Derived.Test.YtlbcmgphibeeiaaDTellLem
import Derived.Test.YtlbcmgphibeeiaaDKeeps
namespace Go.Proofs.Ytlbcmgphibeeiaa
open Go.RowKit
set_option linter.unusedVariables false

set_option maxRecDepth 100000 in
set_option maxHeartbeats 3200000 in
theorem tells_a4 (HBG : Dk.Begun) (ka : Option Addr) (ks : List ByteArray) (kc : Nat) (wa : Option Addr) (ws : List (Int × ByteArray)) (wq : Nat) (sec n : Int) (s : ByteArray) (l : List Bool) (ad : Option Addr) (cap : Nat) (w : World) (hk : Dk.RK w ka ks) (hw : Dk.RW w wa ws) (hl : Dk.RB w ad l) (hsm : s.size ≤ maxLen) (hs0 : sec < 1) (hd0 : Dk.chk ks ws = 0) (hd1 : 0 ≤ n) (hd2 : n < (ks.length : Int)) (hd3 : s.size ≠ 32) :
    Calls Try.prog 3 #[.agg #[.slice ka ks.length kc, .slice wa ws.length wq], .int .i64 sec, .int .i64 n, .string s, .slice ad l.length cap] w fun e w' => e = .returned (.bool true) ∧ Below w.heap.size w w' := by
  have HB0 := hide ((Below.refl w.heap.size w).alloc (Nat.le_refl _) (Obj.cells #[.slice ka ks.length kc, .slice wa ws.length wq] 25))
  have K := hide (hk.alloc (Obj.cells #[.slice ka ks.length kc, .slice wa ws.length wq] 25))
  have W := hide (hw.alloc (Obj.cells #[.slice ka ks.length kc, .slice wa ws.length wq] 25))
  have L := hide (hl.alloc (Obj.cells #[.slice ka ks.length kc, .slice wa ws.length wq] 25))
  have B5 := hide (Dk.Bx.made w (.slice ka ks.length kc) (.slice wa ws.length wq) 25)
  have HSM := hide hsm
  have HBN := hide HBG
  have hcn : Dk.cnt sec = false := by simp [Dk.cnt]; omega
  have HE := hide (show Dk.newE sec = 3 by unfold Dk.newE; rw [hcn]; rfl)
  have HNL := hide (show Dk.newL sec = [] by unfold Dk.newL; rw [hcn]; rfl)
  have HCN := hide hcn
  have hin : Dk.inn ks.length n = true := by simp [Dk.inn]; omega
  have hlt : n.toNat < (Dk.keptTo (fun _ => true) ks ws ws.length).length := by rw [Dk.keptTo_length]; omega
  obtain ⟨t, ht⟩ : ∃ t, (Dk.keptTo (fun _ => true) ks ws ws.length)[n.toNat]? = some t := ⟨_, List.getElem?_eq_getElem hlt⟩
  have hrd : Dk.rd ks ws n = (t, 0) := by unfold Dk.rd; rw [if_pos hd0, hin, ht]; rfl
  have g9 : (t.toList == t.toList) = true := by simp
  have HT := hide ht
  have HIN := hide hin
  have hcw : Dk.chkW ks.length (n, s) = 1 := by unfold Dk.chkW; rw [show Dk.inn ks.length (n, s).1 = true from hin]; simp [Dk.is32, hd3]
  have hwe : Dk.wrE ks ws n s = 1 := by unfold Dk.wrE; rw [if_pos hd0, hcw]; rfl
  have HD0 := hide hd0
  have hok := Dk.chk_ok hd0
  have HFX := hide (show (Dk.flL (fun _ => true) ks ws).length ≤ 600 by unfold Dk.flL; rw [if_pos hd0, Dk.keptTo_length]; exact hok.2.1)
  have HFY := hide (show (Dk.flL (fun i => (l[i]?).getD false) ks ws).length ≤ 600 by unfold Dk.flL; rw [if_pos hd0, Dk.keptTo_length]; exact hok.2.1)
  have g3 : ((s.size : Int) == 32) = false := by rw [beq_eq_false_iff_ne]; omega
  have g3n : ((s.size : Int) != 32) = true := by simp [bne, g3]
  have HRD := hide hrd
  have HWE := hide hwe
  clear hcn hrd hwe hk hw hl hsm HBG hin hcw hok ht hlt
  clear hd0
  clear hd3
  go_enter Try.func3, Try.ntmps3
  go_wp2_with fail
  refine (New_err sec _ (unhide HCN)).mono ?_
  rintro e w1 ⟨rfl, hb1⟩
  replace K := hide ((unhide K).later hb1 (Nat.le_refl _))
  replace W := hide ((unhide W).later hb1 (Nat.le_refl _))
  replace L := hide ((unhide L).later hb1 (Nat.le_refl _))
  replace B5 := hide ((unhide B5).below hb1)
  have HBa := hide ((unhide HB0).trans (hb1.mono (unhide HB0).size))
  have B11 := hide (Dk.Bx.made w1 (.slice none 0 0) (.slice none 0 0) 25)
  replace K := hide ((unhide K).alloc (Obj.cells #[.slice none 0 0, .slice none 0 0] 25))
  replace W := hide ((unhide W).alloc (Obj.cells #[.slice none 0 0, .slice none 0 0] 25))
  replace L := hide ((unhide L).alloc (Obj.cells #[.slice none 0 0, .slice none 0 0] 25))
  replace B5 := hide ((unhide B5).alloc (Obj.cells #[.slice none 0 0, .slice none 0 0] 25))
  replace HBa := hide ((unhide HBa).alloc (unhide HBa).size (Obj.cells #[.slice none 0 0, .slice none 0 0] 25))
  clear hb1
  have x0 := (unhide B5).c0
  have x1 := (unhide B5).c1
  go_wp2_with fail
  refine (Read_any ka ks kc wa ws wq n _ (unhide K) (unhide W)).mono ?_
  rw [unhide HRD]
  rintro e w2 ⟨rfl, hb2⟩
  replace K := hide ((unhide K).later hb2 (Nat.le_refl _))
  replace W := hide ((unhide W).later hb2 (Nat.le_refl _))
  replace L := hide ((unhide L).later hb2 (Nat.le_refl _))
  replace B5 := hide ((unhide B5).below hb2)
  replace B11 := hide ((unhide B11).below hb2)
  replace HBa := hide ((unhide HBa).trans (hb2.mono (unhide HBa).size))
  clear hb2 x0 x1
  have x0 := (unhide B5).c0
  have x1 := (unhide B5).c1
  go_wp2_with fail
  refine (Write_err ka ks kc wa ws wq n s _ (unhide K) (unhide W) (by rw [unhide HWE]; decide) (unhide HSM)).mono ?_
  rw [unhide HWE]
  rintro e w3 ⟨rfl, hb3⟩
  replace K := hide ((unhide K).later hb3 (Nat.le_refl _))
  replace W := hide ((unhide W).later hb3 (Nat.le_refl _))
  replace L := hide ((unhide L).later hb3 (Nat.le_refl _))
  replace B5 := hide ((unhide B5).below hb3)
  replace B11 := hide ((unhide B11).below hb3)
  replace HBa := hide ((unhide HBa).trans (hb3.mono (unhide HBa).size))
  have B15 := hide (Dk.Bx.made w3 (.slice none 0 0) (.slice none 0 0) 25)
  replace K := hide ((unhide K).alloc (Obj.cells #[.slice none 0 0, .slice none 0 0] 25))
  replace W := hide ((unhide W).alloc (Obj.cells #[.slice none 0 0, .slice none 0 0] 25))
  replace L := hide ((unhide L).alloc (Obj.cells #[.slice none 0 0, .slice none 0 0] 25))
  replace B5 := hide ((unhide B5).alloc (Obj.cells #[.slice none 0 0, .slice none 0 0] 25))
  replace B11 := hide ((unhide B11).alloc (Obj.cells #[.slice none 0 0, .slice none 0 0] 25))
  replace HBa := hide ((unhide HBa).alloc (unhide HBa).size (Obj.cells #[.slice none 0 0, .slice none 0 0] 25))
  clear hb3 x0 x1
  have x0 := (unhide B5).c0
  have x1 := (unhide B5).c1
  go_wp2_with fail
  refine (Flush_gen ka ks kc wa ws wq _ (unhide K) (unhide W)).mono ?_
  rw [unhide HD0]
  rintro e w4 ⟨a4, c4, b4, d4, rfl, hk4, hw4, hb4, _⟩
  replace K := hide ((unhide K).later hb4 (Nat.le_refl _))
  replace W := hide ((unhide W).later hb4 (Nat.le_refl _))
  replace L := hide ((unhide L).later hb4 (Nat.le_refl _))
  replace B5 := hide ((unhide B5).below hb4)
  replace B11 := hide ((unhide B11).below hb4)
  replace B15 := hide ((unhide B15).below hb4)
  replace HBa := hide ((unhide HBa).trans (hb4.mono (unhide HBa).size))
  have KX := hide hk4
  clear hk4 hw4
  have B17 := hide (Dk.Bx.made w4 (.slice a4 (Dk.flL (fun _ => true) ks ws).length c4) (.slice b4 0 d4) 25)
  replace K := hide ((unhide K).alloc (Obj.cells #[.slice a4 (Dk.flL (fun _ => true) ks ws).length c4, .slice b4 0 d4] 25))
  replace W := hide ((unhide W).alloc (Obj.cells #[.slice a4 (Dk.flL (fun _ => true) ks ws).length c4, .slice b4 0 d4] 25))
  replace L := hide ((unhide L).alloc (Obj.cells #[.slice a4 (Dk.flL (fun _ => true) ks ws).length c4, .slice b4 0 d4] 25))
  replace B5 := hide ((unhide B5).alloc (Obj.cells #[.slice a4 (Dk.flL (fun _ => true) ks ws).length c4, .slice b4 0 d4] 25))
  replace B11 := hide ((unhide B11).alloc (Obj.cells #[.slice a4 (Dk.flL (fun _ => true) ks ws).length c4, .slice b4 0 d4] 25))
  replace B15 := hide ((unhide B15).alloc (Obj.cells #[.slice a4 (Dk.flL (fun _ => true) ks ws).length c4, .slice b4 0 d4] 25))
  replace KX := hide ((unhide KX).alloc (Obj.cells #[.slice a4 (Dk.flL (fun _ => true) ks ws).length c4, .slice b4 0 d4] 25))
  replace HBa := hide ((unhide HBa).alloc (unhide HBa).size (Obj.cells #[.slice a4 (Dk.flL (fun _ => true) ks ws).length c4, .slice b4 0 d4] 25))
  clear hb4 x0 x1
  have x0 := (unhide B5).c0
  have x1 := (unhide B5).c1
  go_wp2_with fail
  refine (Crash_gen ka ks kc wa ws wq l ad cap _ (unhide K) (unhide W) (unhide L)).mono ?_
  rw [unhide HD0]
  rintro e w5 ⟨a5, c5, b5, d5, rfl, hk5, hw5, hb5, _⟩
  replace K := hide ((unhide K).later hb5 (Nat.le_refl _))
  replace W := hide ((unhide W).later hb5 (Nat.le_refl _))
  replace L := hide ((unhide L).later hb5 (Nat.le_refl _))
  replace B5 := hide ((unhide B5).below hb5)
  replace B11 := hide ((unhide B11).below hb5)
  replace B15 := hide ((unhide B15).below hb5)
  replace KX := hide ((unhide KX).later hb5 (Nat.le_refl _))
  replace B17 := hide ((unhide B17).below hb5)
  replace HBa := hide ((unhide HBa).trans (hb5.mono (unhide HBa).size))
  have KY := hide hk5
  clear hk5 hw5
  have B19 := hide (Dk.Bx.made w5 (.slice a5 (Dk.flL (fun i => (l[i]?).getD false) ks ws).length c5) (.slice b5 0 d5) 25)
  replace K := hide ((unhide K).alloc (Obj.cells #[.slice a5 (Dk.flL (fun i => (l[i]?).getD false) ks ws).length c5, .slice b5 0 d5] 25))
  replace W := hide ((unhide W).alloc (Obj.cells #[.slice a5 (Dk.flL (fun i => (l[i]?).getD false) ks ws).length c5, .slice b5 0 d5] 25))
  replace L := hide ((unhide L).alloc (Obj.cells #[.slice a5 (Dk.flL (fun i => (l[i]?).getD false) ks ws).length c5, .slice b5 0 d5] 25))
  replace B5 := hide ((unhide B5).alloc (Obj.cells #[.slice a5 (Dk.flL (fun i => (l[i]?).getD false) ks ws).length c5, .slice b5 0 d5] 25))
  replace B11 := hide ((unhide B11).alloc (Obj.cells #[.slice a5 (Dk.flL (fun i => (l[i]?).getD false) ks ws).length c5, .slice b5 0 d5] 25))
  replace B15 := hide ((unhide B15).alloc (Obj.cells #[.slice a5 (Dk.flL (fun i => (l[i]?).getD false) ks ws).length c5, .slice b5 0 d5] 25))
  replace KX := hide ((unhide KX).alloc (Obj.cells #[.slice a5 (Dk.flL (fun i => (l[i]?).getD false) ks ws).length c5, .slice b5 0 d5] 25))
  replace B17 := hide ((unhide B17).alloc (Obj.cells #[.slice a5 (Dk.flL (fun i => (l[i]?).getD false) ks ws).length c5, .slice b5 0 d5] 25))
  replace KY := hide ((unhide KY).alloc (Obj.cells #[.slice a5 (Dk.flL (fun i => (l[i]?).getD false) ks ws).length c5, .slice b5 0 d5] 25))
  replace HBa := hide ((unhide HBa).alloc (unhide HBa).size (Obj.cells #[.slice a5 (Dk.flL (fun i => (l[i]?).getD false) ks ws).length c5, .slice b5 0 d5] 25))
  clear hb5 x0 x1
  have HP := hide ((Below.refl (w5.alloc (Obj.cells #[.slice a5 (Dk.flL (fun i => (l[i]?).getD false) ks ws).length c5, .slice b5 0 d5] 25)).heap.size (w5.alloc (Obj.cells #[.slice a5 (Dk.flL (fun i => (l[i]?).getD false) ks ws).length c5, .slice b5 0 d5] 25))).alloc (Nat.le_refl _) (Obj.cells #[.slice none 0 0, .slice none 0 0] 25))
  have hp22 : (w5.alloc (Obj.cells #[.slice a5 (Dk.flL (fun i => (l[i]?).getD false) ks ws).length c5, .slice b5 0 d5] 25)).heap.size = w5.heap.size + 1 := World.size_alloc _ _
  have D22 := hide (hp22 ▸ Dk.D6.laid (w5.alloc (Obj.cells #[.slice a5 (Dk.flL (fun i => (l[i]?).getD false) ks ws).length c5, .slice b5 0 d5] 25)) 25 : Dk.D6 (w5.heap.size + 1) ((w5.alloc (Obj.cells #[.slice a5 (Dk.flL (fun i => (l[i]?).getD false) ks ws).length c5, .slice b5 0 d5] 25)).alloc (Obj.cells #[.slice none 0 0, .slice none 0 0] 25)))
  have x0 := ((unhide B5).below (unhide HP)).c0
  have x1 := ((unhide B5).below (unhide HP)).c1
  go_wp2_with fail
  refine (CheckDisk_any ka ks kc wa ws wq _ ((unhide K).later (unhide HP) (Nat.le_refl _)) ((unhide W).later (unhide HP) (Nat.le_refl _))).mono ?_
  rw [unhide HD0]
  rintro e w7 ⟨rfl, hb7⟩
  replace HP := hide ((unhide HP).trans (hb7.mono (unhide HP).size))
  replace D22 := hide ((unhide D22).below hb7)
  clear hb7 x0 x1
  have hl22 : w5.heap.size + 1 < w7.heap.size := World.block_lt_of_cell? _ _ (unhide D22).c0
  generalize w5.alloc (Obj.cells #[.slice a5 (Dk.flL (fun i => (l[i]?).getD false) ks ws).length c5, .slice b5 0 d5] 25) = P at *
  have x0 := ((unhide B5).below (unhide HP)).c0
  have x1 := ((unhide B5).below (unhide HP)).c1
  have HPz := (unhide HP).size
  replace HP := hide ((unhide HP).alloc (unhide HP).size (Obj.cells #[.slice none 0 0, .slice none 0 0] 25))
  replace D22 := hide ((unhide D22).alloc (Obj.cells #[.slice none 0 0, .slice none 0 0] 25))
  have D27 := hide (Dk.D6.laid w7 25)
  replace HP := hide ((unhide HP).alloc (unhide HP).size (Obj.cells #[.slice none 0 0, .slice none 0 0] 25))
  replace D22 := hide ((unhide D22).alloc (Obj.cells #[.slice none 0 0, .slice none 0 0] 25))
  replace D27 := hide ((unhide D27).alloc (Obj.cells #[.slice none 0 0, .slice none 0 0] 25))
  have D28 := hide (World.size_alloc w7 _ ▸ Dk.D6.laid (w7.alloc (Obj.cells #[.slice none 0 0, .slice none 0 0] 25)) 25 : Dk.D6 (w7.heap.size + 1) ((w7.alloc (Obj.cells #[.slice none 0 0, .slice none 0 0] 25)).alloc (Obj.cells #[.slice none 0 0, .slice none 0 0] 25)))
  replace HP := hide ((unhide HP).alloc (unhide HP).size (Obj.cells #[.slice none 0 0, .slice none 0 0] 25))
  replace D22 := hide ((unhide D22).alloc (Obj.cells #[.slice none 0 0, .slice none 0 0] 25))
  replace D27 := hide ((unhide D27).alloc (Obj.cells #[.slice none 0 0, .slice none 0 0] 25))
  replace D28 := hide ((unhide D28).alloc (Obj.cells #[.slice none 0 0, .slice none 0 0] 25))
  have hq29 : ((w7.alloc (Obj.cells #[.slice none 0 0, .slice none 0 0] 25)).alloc (Obj.cells #[.slice none 0 0, .slice none 0 0] 25)).heap.size = w7.heap.size + 1 + 1 := by rw [World.size_alloc, World.size_alloc]
  have D29 := hide (hq29 ▸ Dk.D6.laid ((w7.alloc (Obj.cells #[.slice none 0 0, .slice none 0 0] 25)).alloc (Obj.cells #[.slice none 0 0, .slice none 0 0] 25)) 25 : Dk.D6 (w7.heap.size + 1 + 1) (((w7.alloc (Obj.cells #[.slice none 0 0, .slice none 0 0] 25)).alloc (Obj.cells #[.slice none 0 0, .slice none 0 0] 25)).alloc (Obj.cells #[.slice none 0 0, .slice none 0 0] 25)))
  have q0 := ((unhide B5).below (unhide HP)).c0
  have q1 := ((unhide B5).below (unhide HP)).c1
  go_wp2_with fail
  refine (ReadOf_any ka ks kc wa ws wq n t _ ((unhide K).later (unhide HP) (Nat.le_refl _)) ((unhide W).later (unhide HP) (Nat.le_refl _)) (unhide HD0) (unhide HIN) (unhide HT)).mono ?_
  rintro e w8 ⟨rfl, hb8⟩
  replace HP := hide ((unhide HP).trans (hb8.mono (unhide HP).size))
  replace D22 := hide ((unhide D22).below hb8)
  replace D27 := hide ((unhide D27).below hb8)
  replace D28 := hide ((unhide D28).below hb8)
  replace D29 := hide ((unhide D29).below hb8)
  clear hb8 x0 x1 q0 q1
  have x0 := ((unhide B5).below (unhide HP)).c0
  have x1 := ((unhide B5).below (unhide HP)).c1
  go_wp2_with fail
  have HS := hide (show Dk.S5 P w.heap.size (.slice ka ks.length kc) (.slice wa ws.length wq) _ from ⟨((unhide B5).below (unhide HP)).c0, ((unhide B5).below (unhide HP)).c1, unhide HP⟩)
  replace D22 := hide (unhide D22).drew
  replace D27 := hide (unhide D27).drew
  replace D28 := hide (unhide D28).drew
  replace D29 := hide (unhide D29).drew
  clear x0 x1
  go_cut [10] (fun rv wx => rv = .bool false ∧ ∃ (gX cX gY cY : Nat), Dk.Bx (w7.heap.size + 1) (.slice (some ⟨gX, 0, none⟩) (Dk.flL (fun _ => true) ks ws).length cX) (.slice none 0 0) wx ∧ Dk.Bx (w7.heap.size + 1 + 1) (.slice (some ⟨gY, 0, none⟩) (Dk.flL (fun i => (l[i]?).getD false) ks ws).length cY) (.slice none 0 0) wx ∧ Dk.RK wx (some ⟨gX, 0, none⟩) (Dk.flL (fun _ => true) ks ws) ∧ Dk.RK wx (some ⟨gY, 0, none⟩) (Dk.flL (fun i => (l[i]?).getD false) ks ws) ∧ Below P.heap.size P wx ∧ Dk.D6 (w5.heap.size + 1) wx ∧ Dk.D6 w7.heap.size wx)
  case first =>
    go_region_held3 (fun W => W.cell? ⟨w.heap.size, 0, none⟩ = some (.slice ka ks.length kc) ∧ W.cell? ⟨w.heap.size, 1, none⟩ = some (.slice wa ws.length wq) ∧ Below P.heap.size P W)
      (first
        | with_reducible exact Dk.S5.drew (unhide HS)
        | with_reducible exact Dk.S5.put (by assumption) (show w.heap.size < P.heap.size from (unhide B5).lt) (by omega) _ _
        | exact Dk.S5.below (by assumption) (unhide HBC))
      (first
        | (go_at_call 14; with_reducible (show Calls _ _ #[_, _, Value.bool true] _ _); refine (CrashOf_all2 ka ks kc wa ws wq _ ?_ ?_ (unhide HD0)).mono ?_; exact (unhide K).later (Dk.S5.bel (by assumption)) (Nat.le_refl _); exact (unhide W).later (Dk.S5.bel (by assumption)) (Nat.le_refl _); rintro e wC ⟨gX, cX, rfl, hkC, hbC⟩; have HBC := hide hbC; have HKX := hide hkC; replace D22 := hide ((unhide D22).below hbC); replace D27 := hide ((unhide D27).below hbC); replace D28 := hide ((unhide D28).below hbC); replace D29 := hide ((unhide D29).below hbC); (first | replace HKY := hide ((unhide HKY).later hbC (Nat.le_refl _)) | skip); have y0 := (unhide D28).c0; have y1 := (unhide D28).c1; have y2 := (unhide D28).f0; have y3 := (unhide D28).f1; have z0 := (unhide D29).c0; have z1 := (unhide D29).c1; have z2 := (unhide D29).f0; have z3 := (unhide D29).f1; (first | (have HZ := hide ((unhide D29).put (b := w7.heap.size + 1) (by omega) (.slice (some ⟨gX, 0, none⟩) (Dk.flL (fun _ => true) ks ws).length cX) (.slice none 0 0)); have v0 := (unhide HZ).c0; have v1 := (unhide HZ).c1; have v2 := (unhide HZ).f0; have v3 := (unhide HZ).f1; have HY := hide ((unhide D28).put (b := w7.heap.size + 1 + 1) (by omega) (.slice (some ⟨gY, 0, none⟩) (Dk.flL (fun i => (l[i]?).getD false) ks ws).length cY) (.slice none 0 0)); have t0 := (unhide HY).c0; have t1 := (unhide HY).c1; have t2 := (unhide HY).f0; have t3 := (unhide HY).f1) | skip); clear hbC hkC)
        | (go_at_call 14; refine (CrashOf_some2 ka ks kc wa ws wq l ad cap _ ?_ ?_ ?_ (unhide HD0)).mono ?_; exact (unhide K).later (Dk.S5.bel (by assumption)) (Nat.le_refl _); exact (unhide W).later (Dk.S5.bel (by assumption)) (Nat.le_refl _); exact (unhide L).later (Dk.S5.bel (by assumption)) (Nat.le_refl _); rintro e wC ⟨gY, cY, rfl, hkC, hbC⟩; have HBC := hide hbC; have HKY := hide hkC; replace D22 := hide ((unhide D22).below hbC); replace D27 := hide ((unhide D27).below hbC); replace D28 := hide ((unhide D28).below hbC); replace D29 := hide ((unhide D29).below hbC); (first | replace HKX := hide ((unhide HKX).later hbC (Nat.le_refl _)) | skip); have y0 := (unhide D28).c0; have y1 := (unhide D28).c1; have y2 := (unhide D28).f0; have y3 := (unhide D28).f1; have z0 := (unhide D29).c0; have z1 := (unhide D29).c1; have z2 := (unhide D29).f0; have z3 := (unhide D29).f1; (first | (have HZ := hide ((unhide D29).put (b := w7.heap.size + 1) (by omega) (.slice (some ⟨gX, 0, none⟩) (Dk.flL (fun _ => true) ks ws).length cX) (.slice none 0 0)); have v0 := (unhide HZ).c0; have v1 := (unhide HZ).c1; have v2 := (unhide HZ).f0; have v3 := (unhide HZ).f1; have HY := hide ((unhide D28).put (b := w7.heap.size + 1 + 1) (by omega) (.slice (some ⟨gY, 0, none⟩) (Dk.flL (fun i => (l[i]?).getD false) ks ws).length cY) (.slice none 0 0)); have t0 := (unhide HY).c0; have t1 := (unhide HY).c1; have t2 := (unhide HY).f0; have t3 := (unhide HY).f1) | skip); clear hbC hkC))
    all_goals
      go_wp2_with fail
      go_meet
      case rel => first
        | exact ⟨rfl, gX, cX, gY, cY, (Dk.D6.stored (unhide D28) _ _).put (by omega) _ _, Dk.D6.stored (unhide HZ) _ _, ((unhide HKX).put (unhide D28) _ _).put (unhide HZ) _ _, ((unhide HKY).put (unhide D28) _ _).put (unhide HZ) _ _, Dk.S5.bel (by assumption), ((unhide D22).put (by omega) _ _).put (by omega) _ _, ((unhide D27).put (by omega) _ _).put (by omega) _ _⟩
        | exact ⟨rfl, gX, cX, gY, cY, Dk.D6.stored (unhide HY) _ _, (Dk.D6.stored (unhide D29) _ _).put (by omega) _ _, ((unhide HKX).put (unhide D29) _ _).put (unhide HY) _ _, ((unhide HKY).put (unhide D29) _ _).put (unhide HY) _ _, Dk.S5.bel (by assumption), ((unhide D22).put (by omega) _ _).put (by omega) _ _, ((unhide D27).put (by omega) _ _).put (by omega) _ _⟩
  case rest =>
    obtain ⟨rfl, gX, cX, gY, cY, hB28, hB29, hkX, hkY, hp, hD22, hD27⟩ := hcut
    have B28 := hide hB28
    have B29 := hide hB29
    have KXX := hide hkX
    have KYY := hide hkY
    have HPC := hide hp
    have D22c := hide hD22
    have D27c := hide hD27
    clear hB28 hB29 hkX hkY hp hD22 hD27 HP D22 D27 D28 D29
    have HP := hide (unhide HPC)
    clear HPC
    go_wp2_with fail
    refine ((unhide HBN) _).mono ?_
    rintro e v1 ⟨rfl, hv1⟩
    replace HP := hide ((unhide HP).trans (hv1.mono (unhide HP).size))
    replace B28 := hide ((unhide B28).below hv1)
    replace B29 := hide ((unhide B29).below hv1)
    replace KXX := hide ((unhide KXX).later hv1 (Nat.le_refl _))
    replace KYY := hide ((unhide KYY).later hv1 (Nat.le_refl _))
    replace D22c := hide ((unhide D22c).below hv1)
    replace D27c := hide ((unhide D27c).below hv1)
    clear hv1
    have x0 := ((unhide B5).below (unhide HP)).c0
    have x1 := ((unhide B5).below (unhide HP)).c1
    go_wp2_with fail
    refine (Check_any ka ks kc wa ws wq _ ((unhide K).later (unhide HP) (Nat.le_refl _)) ((unhide W).later (unhide HP) (Nat.le_refl _))).mono ?_
    rw [unhide HD0]
    rintro e v2 ⟨rfl, hv2⟩
    replace HP := hide ((unhide HP).trans (hv2.mono (unhide HP).size))
    replace B28 := hide ((unhide B28).below hv2)
    replace B29 := hide ((unhide B29).below hv2)
    replace KXX := hide ((unhide KXX).later hv2 (Nat.le_refl _))
    replace KYY := hide ((unhide KYY).later hv2 (Nat.le_refl _))
    replace D22c := hide ((unhide D22c).below hv2)
    replace D27c := hide ((unhide D27c).below hv2)
    clear hv2 x0 x1
    have x0 := ((unhide B11).below (unhide HP)).c0
    have x1 := ((unhide B11).below (unhide HP)).c1
    have x2 := (unhide D22c).c0
    have x3 := (unhide D22c).c1
    go_wp2_with fail
    refine (diskIs_err2 3 3 rfl (by decide) none 0 0 none 0 0 _).mono ?_
    rintro e v3 ⟨rfl, hv3⟩
    replace HP := hide ((unhide HP).trans (hv3.mono (unhide HP).size))
    replace B28 := hide ((unhide B28).below hv3)
    replace B29 := hide ((unhide B29).below hv3)
    replace KXX := hide ((unhide KXX).later hv3 (Nat.le_refl _))
    replace KYY := hide ((unhide KYY).later hv3 (Nat.le_refl _))
    replace D22c := hide ((unhide D22c).below hv3)
    replace D27c := hide ((unhide D27c).below hv3)
    clear hv3 x0 x1 x2 x3
    have x0 := ((unhide B15).below (unhide HP)).c0
    have x1 := ((unhide B15).below (unhide HP)).c1
    have x2 := (unhide D27c).c0
    have x3 := (unhide D27c).c1
    go_wp2_with fail
    refine (diskIs_err2 1 1 rfl (by decide) none 0 0 none 0 0 _).mono ?_
    rintro e v4 ⟨rfl, hv4⟩
    replace HP := hide ((unhide HP).trans (hv4.mono (unhide HP).size))
    replace B28 := hide ((unhide B28).below hv4)
    replace B29 := hide ((unhide B29).below hv4)
    replace KXX := hide ((unhide KXX).later hv4 (Nat.le_refl _))
    replace KYY := hide ((unhide KYY).later hv4 (Nat.le_refl _))
    replace D22c := hide ((unhide D22c).below hv4)
    replace D27c := hide ((unhide D27c).below hv4)
    clear hv4 x0 x1 x2 x3
    have x0 := ((unhide B17).below (unhide HP)).c0
    have x1 := ((unhide B17).below (unhide HP)).c1
    have x2 := (unhide B28).c0
    have x3 := (unhide B28).c1
    go_wp2_with fail
    refine (diskIs_ok a4 (some ⟨gX, 0, none⟩) (Dk.flL (fun _ => true) ks ws) c4 cX b4 none [] d4 0 _ ((unhide KX).later (unhide HP) (Nat.le_refl _)) (unhide KXX) (Dk.RW.nil _ _) (Dk.RW.nil _ _) (unhide HFX) (by simp)).mono ?_
    rintro e v5 ⟨rfl, hv5⟩
    replace HP := hide ((unhide HP).trans (hv5.mono (unhide HP).size))
    replace B28 := hide ((unhide B28).below hv5)
    replace B29 := hide ((unhide B29).below hv5)
    replace KXX := hide ((unhide KXX).later hv5 (Nat.le_refl _))
    replace KYY := hide ((unhide KYY).later hv5 (Nat.le_refl _))
    replace D22c := hide ((unhide D22c).below hv5)
    replace D27c := hide ((unhide D27c).below hv5)
    clear hv5 x0 x1 x2 x3
    have x0 := ((unhide B19).below (unhide HP)).c0
    have x1 := ((unhide B19).below (unhide HP)).c1
    have x2 := (unhide B29).c0
    have x3 := (unhide B29).c1
    go_wp2_with fail
    refine (diskIs_ok a5 (some ⟨gY, 0, none⟩) (Dk.flL (fun i => (l[i]?).getD false) ks ws) c5 cY b5 none [] d5 0 _ ((unhide KY).later (unhide HP) (Nat.le_refl _)) (unhide KYY) (Dk.RW.nil _ _) (Dk.RW.nil _ _) (unhide HFY) (by simp)).mono ?_
    rintro e v6 ⟨rfl, hv6⟩
    replace HP := hide ((unhide HP).trans (hv6.mono (unhide HP).size))
    replace B28 := hide ((unhide B28).below hv6)
    replace B29 := hide ((unhide B29).below hv6)
    replace KXX := hide ((unhide KXX).later hv6 (Nat.le_refl _))
    replace KYY := hide ((unhide KYY).later hv6 (Nat.le_refl _))
    replace D22c := hide ((unhide D22c).below hv6)
    replace D27c := hide ((unhide D27c).below hv6)
    clear hv6 x0 x1 x2 x3
    go_wp2_with fail
    go_ret
    exact ⟨rfl, (unhide HBa).trans ((unhide HP).mono (unhide HBa).size)⟩

set_option maxRecDepth 100000 in
set_option maxHeartbeats 3200000 in
theorem tells_a5 (HBG : Dk.Begun) (ka : Option Addr) (ks : List ByteArray) (kc : Nat) (wa : Option Addr) (ws : List (Int × ByteArray)) (wq : Nat) (sec n : Int) (s : ByteArray) (l : List Bool) (ad : Option Addr) (cap : Nat) (w : World) (hk : Dk.RK w ka ks) (hw : Dk.RW w wa ws) (hl : Dk.RB w ad l) (hsm : s.size ≤ maxLen) (hs0 : sec < 1) (hd0 : Dk.chk ks ws = 0) (hd1 : 0 ≤ n) (hd2 : n < (ks.length : Int)) (hd3 : s.size = 32) (hd4 : ws.length = 600) :
    Calls Try.prog 3 #[.agg #[.slice ka ks.length kc, .slice wa ws.length wq], .int .i64 sec, .int .i64 n, .string s, .slice ad l.length cap] w fun e w' => e = .returned (.bool true) ∧ Below w.heap.size w w' := by
  have HB0 := hide ((Below.refl w.heap.size w).alloc (Nat.le_refl _) (Obj.cells #[.slice ka ks.length kc, .slice wa ws.length wq] 25))
  have K := hide (hk.alloc (Obj.cells #[.slice ka ks.length kc, .slice wa ws.length wq] 25))
  have W := hide (hw.alloc (Obj.cells #[.slice ka ks.length kc, .slice wa ws.length wq] 25))
  have L := hide (hl.alloc (Obj.cells #[.slice ka ks.length kc, .slice wa ws.length wq] 25))
  have B5 := hide (Dk.Bx.made w (.slice ka ks.length kc) (.slice wa ws.length wq) 25)
  have HSM := hide hsm
  have HBN := hide HBG
  have hcn : Dk.cnt sec = false := by simp [Dk.cnt]; omega
  have HE := hide (show Dk.newE sec = 3 by unfold Dk.newE; rw [hcn]; rfl)
  have HNL := hide (show Dk.newL sec = [] by unfold Dk.newL; rw [hcn]; rfl)
  have HCN := hide hcn
  have hin : Dk.inn ks.length n = true := by simp [Dk.inn]; omega
  have hlt : n.toNat < (Dk.keptTo (fun _ => true) ks ws ws.length).length := by rw [Dk.keptTo_length]; omega
  obtain ⟨t, ht⟩ : ∃ t, (Dk.keptTo (fun _ => true) ks ws ws.length)[n.toNat]? = some t := ⟨_, List.getElem?_eq_getElem hlt⟩
  have hrd : Dk.rd ks ws n = (t, 0) := by unfold Dk.rd; rw [if_pos hd0, hin, ht]; rfl
  have g9 : (t.toList == t.toList) = true := by simp
  have HT := hide ht
  have HIN := hide hin
  have hcw : Dk.chkW ks.length (n, s) = 0 := by unfold Dk.chkW; rw [show Dk.inn ks.length (n, s).1 = true from hin]; simp [Dk.is32, hd3]
  have hwe : Dk.wrE ks ws n s = 2 := by unfold Dk.wrE; rw [if_pos hd0, hcw]; simp [hd4]
  have HD0 := hide hd0
  have hok := Dk.chk_ok hd0
  have HFX := hide (show (Dk.flL (fun _ => true) ks ws).length ≤ 600 by unfold Dk.flL; rw [if_pos hd0, Dk.keptTo_length]; exact hok.2.1)
  have HFY := hide (show (Dk.flL (fun i => (l[i]?).getD false) ks ws).length ≤ 600 by unfold Dk.flL; rw [if_pos hd0, Dk.keptTo_length]; exact hok.2.1)
  have g3 : ((s.size : Int) == 32) = true := by rw [hd3]; rfl
  have g3n : ((s.size : Int) != 32) = false := by simp [bne, g3]
  have g4 : ((ws.length : Int) == 600) = true := by rw [hd4]; rfl
  have HRD := hide hrd
  have HWE := hide hwe
  clear hcn hrd hwe hk hw hl hsm HBG hin hcw hok ht hlt
  clear hd0
  clear hd3
  clear hd4
  go_enter Try.func3, Try.ntmps3
  go_wp2_with fail
  refine (New_err sec _ (unhide HCN)).mono ?_
  rintro e w1 ⟨rfl, hb1⟩
  replace K := hide ((unhide K).later hb1 (Nat.le_refl _))
  replace W := hide ((unhide W).later hb1 (Nat.le_refl _))
  replace L := hide ((unhide L).later hb1 (Nat.le_refl _))
  replace B5 := hide ((unhide B5).below hb1)
  have HBa := hide ((unhide HB0).trans (hb1.mono (unhide HB0).size))
  have B11 := hide (Dk.Bx.made w1 (.slice none 0 0) (.slice none 0 0) 25)
  replace K := hide ((unhide K).alloc (Obj.cells #[.slice none 0 0, .slice none 0 0] 25))
  replace W := hide ((unhide W).alloc (Obj.cells #[.slice none 0 0, .slice none 0 0] 25))
  replace L := hide ((unhide L).alloc (Obj.cells #[.slice none 0 0, .slice none 0 0] 25))
  replace B5 := hide ((unhide B5).alloc (Obj.cells #[.slice none 0 0, .slice none 0 0] 25))
  replace HBa := hide ((unhide HBa).alloc (unhide HBa).size (Obj.cells #[.slice none 0 0, .slice none 0 0] 25))
  clear hb1
  have x0 := (unhide B5).c0
  have x1 := (unhide B5).c1
  go_wp2_with fail
  refine (Read_any ka ks kc wa ws wq n _ (unhide K) (unhide W)).mono ?_
  rw [unhide HRD]
  rintro e w2 ⟨rfl, hb2⟩
  replace K := hide ((unhide K).later hb2 (Nat.le_refl _))
  replace W := hide ((unhide W).later hb2 (Nat.le_refl _))
  replace L := hide ((unhide L).later hb2 (Nat.le_refl _))
  replace B5 := hide ((unhide B5).below hb2)
  replace B11 := hide ((unhide B11).below hb2)
  replace HBa := hide ((unhide HBa).trans (hb2.mono (unhide HBa).size))
  clear hb2 x0 x1
  have x0 := (unhide B5).c0
  have x1 := (unhide B5).c1
  go_wp2_with fail
  refine (Write_err ka ks kc wa ws wq n s _ (unhide K) (unhide W) (by rw [unhide HWE]; decide) (unhide HSM)).mono ?_
  rw [unhide HWE]
  rintro e w3 ⟨rfl, hb3⟩
  replace K := hide ((unhide K).later hb3 (Nat.le_refl _))
  replace W := hide ((unhide W).later hb3 (Nat.le_refl _))
  replace L := hide ((unhide L).later hb3 (Nat.le_refl _))
  replace B5 := hide ((unhide B5).below hb3)
  replace B11 := hide ((unhide B11).below hb3)
  replace HBa := hide ((unhide HBa).trans (hb3.mono (unhide HBa).size))
  have B15 := hide (Dk.Bx.made w3 (.slice none 0 0) (.slice none 0 0) 25)
  replace K := hide ((unhide K).alloc (Obj.cells #[.slice none 0 0, .slice none 0 0] 25))
  replace W := hide ((unhide W).alloc (Obj.cells #[.slice none 0 0, .slice none 0 0] 25))
  replace L := hide ((unhide L).alloc (Obj.cells #[.slice none 0 0, .slice none 0 0] 25))
  replace B5 := hide ((unhide B5).alloc (Obj.cells #[.slice none 0 0, .slice none 0 0] 25))
  replace B11 := hide ((unhide B11).alloc (Obj.cells #[.slice none 0 0, .slice none 0 0] 25))
  replace HBa := hide ((unhide HBa).alloc (unhide HBa).size (Obj.cells #[.slice none 0 0, .slice none 0 0] 25))
  clear hb3 x0 x1
  have x0 := (unhide B5).c0
  have x1 := (unhide B5).c1
  go_wp2_with fail
  refine (Flush_gen ka ks kc wa ws wq _ (unhide K) (unhide W)).mono ?_
  rw [unhide HD0]
  rintro e w4 ⟨a4, c4, b4, d4, rfl, hk4, hw4, hb4, _⟩
  replace K := hide ((unhide K).later hb4 (Nat.le_refl _))
  replace W := hide ((unhide W).later hb4 (Nat.le_refl _))
  replace L := hide ((unhide L).later hb4 (Nat.le_refl _))
  replace B5 := hide ((unhide B5).below hb4)
  replace B11 := hide ((unhide B11).below hb4)
  replace B15 := hide ((unhide B15).below hb4)
  replace HBa := hide ((unhide HBa).trans (hb4.mono (unhide HBa).size))
  have KX := hide hk4
  clear hk4 hw4
  have B17 := hide (Dk.Bx.made w4 (.slice a4 (Dk.flL (fun _ => true) ks ws).length c4) (.slice b4 0 d4) 25)
  replace K := hide ((unhide K).alloc (Obj.cells #[.slice a4 (Dk.flL (fun _ => true) ks ws).length c4, .slice b4 0 d4] 25))
  replace W := hide ((unhide W).alloc (Obj.cells #[.slice a4 (Dk.flL (fun _ => true) ks ws).length c4, .slice b4 0 d4] 25))
  replace L := hide ((unhide L).alloc (Obj.cells #[.slice a4 (Dk.flL (fun _ => true) ks ws).length c4, .slice b4 0 d4] 25))
  replace B5 := hide ((unhide B5).alloc (Obj.cells #[.slice a4 (Dk.flL (fun _ => true) ks ws).length c4, .slice b4 0 d4] 25))
  replace B11 := hide ((unhide B11).alloc (Obj.cells #[.slice a4 (Dk.flL (fun _ => true) ks ws).length c4, .slice b4 0 d4] 25))
  replace B15 := hide ((unhide B15).alloc (Obj.cells #[.slice a4 (Dk.flL (fun _ => true) ks ws).length c4, .slice b4 0 d4] 25))
  replace KX := hide ((unhide KX).alloc (Obj.cells #[.slice a4 (Dk.flL (fun _ => true) ks ws).length c4, .slice b4 0 d4] 25))
  replace HBa := hide ((unhide HBa).alloc (unhide HBa).size (Obj.cells #[.slice a4 (Dk.flL (fun _ => true) ks ws).length c4, .slice b4 0 d4] 25))
  clear hb4 x0 x1
  have x0 := (unhide B5).c0
  have x1 := (unhide B5).c1
  go_wp2_with fail
  refine (Crash_gen ka ks kc wa ws wq l ad cap _ (unhide K) (unhide W) (unhide L)).mono ?_
  rw [unhide HD0]
  rintro e w5 ⟨a5, c5, b5, d5, rfl, hk5, hw5, hb5, _⟩
  replace K := hide ((unhide K).later hb5 (Nat.le_refl _))
  replace W := hide ((unhide W).later hb5 (Nat.le_refl _))
  replace L := hide ((unhide L).later hb5 (Nat.le_refl _))
  replace B5 := hide ((unhide B5).below hb5)
  replace B11 := hide ((unhide B11).below hb5)
  replace B15 := hide ((unhide B15).below hb5)
  replace KX := hide ((unhide KX).later hb5 (Nat.le_refl _))
  replace B17 := hide ((unhide B17).below hb5)
  replace HBa := hide ((unhide HBa).trans (hb5.mono (unhide HBa).size))
  have KY := hide hk5
  clear hk5 hw5
  have B19 := hide (Dk.Bx.made w5 (.slice a5 (Dk.flL (fun i => (l[i]?).getD false) ks ws).length c5) (.slice b5 0 d5) 25)
  replace K := hide ((unhide K).alloc (Obj.cells #[.slice a5 (Dk.flL (fun i => (l[i]?).getD false) ks ws).length c5, .slice b5 0 d5] 25))
  replace W := hide ((unhide W).alloc (Obj.cells #[.slice a5 (Dk.flL (fun i => (l[i]?).getD false) ks ws).length c5, .slice b5 0 d5] 25))
  replace L := hide ((unhide L).alloc (Obj.cells #[.slice a5 (Dk.flL (fun i => (l[i]?).getD false) ks ws).length c5, .slice b5 0 d5] 25))
  replace B5 := hide ((unhide B5).alloc (Obj.cells #[.slice a5 (Dk.flL (fun i => (l[i]?).getD false) ks ws).length c5, .slice b5 0 d5] 25))
  replace B11 := hide ((unhide B11).alloc (Obj.cells #[.slice a5 (Dk.flL (fun i => (l[i]?).getD false) ks ws).length c5, .slice b5 0 d5] 25))
  replace B15 := hide ((unhide B15).alloc (Obj.cells #[.slice a5 (Dk.flL (fun i => (l[i]?).getD false) ks ws).length c5, .slice b5 0 d5] 25))
  replace KX := hide ((unhide KX).alloc (Obj.cells #[.slice a5 (Dk.flL (fun i => (l[i]?).getD false) ks ws).length c5, .slice b5 0 d5] 25))
  replace B17 := hide ((unhide B17).alloc (Obj.cells #[.slice a5 (Dk.flL (fun i => (l[i]?).getD false) ks ws).length c5, .slice b5 0 d5] 25))
  replace KY := hide ((unhide KY).alloc (Obj.cells #[.slice a5 (Dk.flL (fun i => (l[i]?).getD false) ks ws).length c5, .slice b5 0 d5] 25))
  replace HBa := hide ((unhide HBa).alloc (unhide HBa).size (Obj.cells #[.slice a5 (Dk.flL (fun i => (l[i]?).getD false) ks ws).length c5, .slice b5 0 d5] 25))
  clear hb5 x0 x1
  have HP := hide ((Below.refl (w5.alloc (Obj.cells #[.slice a5 (Dk.flL (fun i => (l[i]?).getD false) ks ws).length c5, .slice b5 0 d5] 25)).heap.size (w5.alloc (Obj.cells #[.slice a5 (Dk.flL (fun i => (l[i]?).getD false) ks ws).length c5, .slice b5 0 d5] 25))).alloc (Nat.le_refl _) (Obj.cells #[.slice none 0 0, .slice none 0 0] 25))
  have hp22 : (w5.alloc (Obj.cells #[.slice a5 (Dk.flL (fun i => (l[i]?).getD false) ks ws).length c5, .slice b5 0 d5] 25)).heap.size = w5.heap.size + 1 := World.size_alloc _ _
  have D22 := hide (hp22 ▸ Dk.D6.laid (w5.alloc (Obj.cells #[.slice a5 (Dk.flL (fun i => (l[i]?).getD false) ks ws).length c5, .slice b5 0 d5] 25)) 25 : Dk.D6 (w5.heap.size + 1) ((w5.alloc (Obj.cells #[.slice a5 (Dk.flL (fun i => (l[i]?).getD false) ks ws).length c5, .slice b5 0 d5] 25)).alloc (Obj.cells #[.slice none 0 0, .slice none 0 0] 25)))
  have x0 := ((unhide B5).below (unhide HP)).c0
  have x1 := ((unhide B5).below (unhide HP)).c1
  go_wp2_with fail
  refine (CheckDisk_any ka ks kc wa ws wq _ ((unhide K).later (unhide HP) (Nat.le_refl _)) ((unhide W).later (unhide HP) (Nat.le_refl _))).mono ?_
  rw [unhide HD0]
  rintro e w7 ⟨rfl, hb7⟩
  replace HP := hide ((unhide HP).trans (hb7.mono (unhide HP).size))
  replace D22 := hide ((unhide D22).below hb7)
  clear hb7 x0 x1
  have hl22 : w5.heap.size + 1 < w7.heap.size := World.block_lt_of_cell? _ _ (unhide D22).c0
  generalize w5.alloc (Obj.cells #[.slice a5 (Dk.flL (fun i => (l[i]?).getD false) ks ws).length c5, .slice b5 0 d5] 25) = P at *
  have x0 := ((unhide B5).below (unhide HP)).c0
  have x1 := ((unhide B5).below (unhide HP)).c1
  have HPz := (unhide HP).size
  replace HP := hide ((unhide HP).alloc (unhide HP).size (Obj.cells #[.slice none 0 0, .slice none 0 0] 25))
  replace D22 := hide ((unhide D22).alloc (Obj.cells #[.slice none 0 0, .slice none 0 0] 25))
  have D27 := hide (Dk.D6.laid w7 25)
  replace HP := hide ((unhide HP).alloc (unhide HP).size (Obj.cells #[.slice none 0 0, .slice none 0 0] 25))
  replace D22 := hide ((unhide D22).alloc (Obj.cells #[.slice none 0 0, .slice none 0 0] 25))
  replace D27 := hide ((unhide D27).alloc (Obj.cells #[.slice none 0 0, .slice none 0 0] 25))
  have D28 := hide (World.size_alloc w7 _ ▸ Dk.D6.laid (w7.alloc (Obj.cells #[.slice none 0 0, .slice none 0 0] 25)) 25 : Dk.D6 (w7.heap.size + 1) ((w7.alloc (Obj.cells #[.slice none 0 0, .slice none 0 0] 25)).alloc (Obj.cells #[.slice none 0 0, .slice none 0 0] 25)))
  replace HP := hide ((unhide HP).alloc (unhide HP).size (Obj.cells #[.slice none 0 0, .slice none 0 0] 25))
  replace D22 := hide ((unhide D22).alloc (Obj.cells #[.slice none 0 0, .slice none 0 0] 25))
  replace D27 := hide ((unhide D27).alloc (Obj.cells #[.slice none 0 0, .slice none 0 0] 25))
  replace D28 := hide ((unhide D28).alloc (Obj.cells #[.slice none 0 0, .slice none 0 0] 25))
  have hq29 : ((w7.alloc (Obj.cells #[.slice none 0 0, .slice none 0 0] 25)).alloc (Obj.cells #[.slice none 0 0, .slice none 0 0] 25)).heap.size = w7.heap.size + 1 + 1 := by rw [World.size_alloc, World.size_alloc]
  have D29 := hide (hq29 ▸ Dk.D6.laid ((w7.alloc (Obj.cells #[.slice none 0 0, .slice none 0 0] 25)).alloc (Obj.cells #[.slice none 0 0, .slice none 0 0] 25)) 25 : Dk.D6 (w7.heap.size + 1 + 1) (((w7.alloc (Obj.cells #[.slice none 0 0, .slice none 0 0] 25)).alloc (Obj.cells #[.slice none 0 0, .slice none 0 0] 25)).alloc (Obj.cells #[.slice none 0 0, .slice none 0 0] 25)))
  have q0 := ((unhide B5).below (unhide HP)).c0
  have q1 := ((unhide B5).below (unhide HP)).c1
  go_wp2_with fail
  refine (ReadOf_any ka ks kc wa ws wq n t _ ((unhide K).later (unhide HP) (Nat.le_refl _)) ((unhide W).later (unhide HP) (Nat.le_refl _)) (unhide HD0) (unhide HIN) (unhide HT)).mono ?_
  rintro e w8 ⟨rfl, hb8⟩
  replace HP := hide ((unhide HP).trans (hb8.mono (unhide HP).size))
  replace D22 := hide ((unhide D22).below hb8)
  replace D27 := hide ((unhide D27).below hb8)
  replace D28 := hide ((unhide D28).below hb8)
  replace D29 := hide ((unhide D29).below hb8)
  clear hb8 x0 x1 q0 q1
  have x0 := ((unhide B5).below (unhide HP)).c0
  have x1 := ((unhide B5).below (unhide HP)).c1
  go_wp2_with fail
  have HS := hide (show Dk.S5 P w.heap.size (.slice ka ks.length kc) (.slice wa ws.length wq) _ from ⟨((unhide B5).below (unhide HP)).c0, ((unhide B5).below (unhide HP)).c1, unhide HP⟩)
  replace D22 := hide (unhide D22).drew
  replace D27 := hide (unhide D27).drew
  replace D28 := hide (unhide D28).drew
  replace D29 := hide (unhide D29).drew
  clear x0 x1
  go_cut [10] (fun rv wx => rv = .bool false ∧ ∃ (gX cX gY cY : Nat), Dk.Bx (w7.heap.size + 1) (.slice (some ⟨gX, 0, none⟩) (Dk.flL (fun _ => true) ks ws).length cX) (.slice none 0 0) wx ∧ Dk.Bx (w7.heap.size + 1 + 1) (.slice (some ⟨gY, 0, none⟩) (Dk.flL (fun i => (l[i]?).getD false) ks ws).length cY) (.slice none 0 0) wx ∧ Dk.RK wx (some ⟨gX, 0, none⟩) (Dk.flL (fun _ => true) ks ws) ∧ Dk.RK wx (some ⟨gY, 0, none⟩) (Dk.flL (fun i => (l[i]?).getD false) ks ws) ∧ Below P.heap.size P wx ∧ Dk.D6 (w5.heap.size + 1) wx ∧ Dk.D6 w7.heap.size wx)
  case first =>
    go_region_held3 (fun W => W.cell? ⟨w.heap.size, 0, none⟩ = some (.slice ka ks.length kc) ∧ W.cell? ⟨w.heap.size, 1, none⟩ = some (.slice wa ws.length wq) ∧ Below P.heap.size P W)
      (first
        | with_reducible exact Dk.S5.drew (unhide HS)
        | with_reducible exact Dk.S5.put (by assumption) (show w.heap.size < P.heap.size from (unhide B5).lt) (by omega) _ _
        | exact Dk.S5.below (by assumption) (unhide HBC))
      (first
        | (go_at_call 14; with_reducible (show Calls _ _ #[_, _, Value.bool true] _ _); refine (CrashOf_all2 ka ks kc wa ws wq _ ?_ ?_ (unhide HD0)).mono ?_; exact (unhide K).later (Dk.S5.bel (by assumption)) (Nat.le_refl _); exact (unhide W).later (Dk.S5.bel (by assumption)) (Nat.le_refl _); rintro e wC ⟨gX, cX, rfl, hkC, hbC⟩; have HBC := hide hbC; have HKX := hide hkC; replace D22 := hide ((unhide D22).below hbC); replace D27 := hide ((unhide D27).below hbC); replace D28 := hide ((unhide D28).below hbC); replace D29 := hide ((unhide D29).below hbC); (first | replace HKY := hide ((unhide HKY).later hbC (Nat.le_refl _)) | skip); have y0 := (unhide D28).c0; have y1 := (unhide D28).c1; have y2 := (unhide D28).f0; have y3 := (unhide D28).f1; have z0 := (unhide D29).c0; have z1 := (unhide D29).c1; have z2 := (unhide D29).f0; have z3 := (unhide D29).f1; (first | (have HZ := hide ((unhide D29).put (b := w7.heap.size + 1) (by omega) (.slice (some ⟨gX, 0, none⟩) (Dk.flL (fun _ => true) ks ws).length cX) (.slice none 0 0)); have v0 := (unhide HZ).c0; have v1 := (unhide HZ).c1; have v2 := (unhide HZ).f0; have v3 := (unhide HZ).f1; have HY := hide ((unhide D28).put (b := w7.heap.size + 1 + 1) (by omega) (.slice (some ⟨gY, 0, none⟩) (Dk.flL (fun i => (l[i]?).getD false) ks ws).length cY) (.slice none 0 0)); have t0 := (unhide HY).c0; have t1 := (unhide HY).c1; have t2 := (unhide HY).f0; have t3 := (unhide HY).f1) | skip); clear hbC hkC)
        | (go_at_call 14; refine (CrashOf_some2 ka ks kc wa ws wq l ad cap _ ?_ ?_ ?_ (unhide HD0)).mono ?_; exact (unhide K).later (Dk.S5.bel (by assumption)) (Nat.le_refl _); exact (unhide W).later (Dk.S5.bel (by assumption)) (Nat.le_refl _); exact (unhide L).later (Dk.S5.bel (by assumption)) (Nat.le_refl _); rintro e wC ⟨gY, cY, rfl, hkC, hbC⟩; have HBC := hide hbC; have HKY := hide hkC; replace D22 := hide ((unhide D22).below hbC); replace D27 := hide ((unhide D27).below hbC); replace D28 := hide ((unhide D28).below hbC); replace D29 := hide ((unhide D29).below hbC); (first | replace HKX := hide ((unhide HKX).later hbC (Nat.le_refl _)) | skip); have y0 := (unhide D28).c0; have y1 := (unhide D28).c1; have y2 := (unhide D28).f0; have y3 := (unhide D28).f1; have z0 := (unhide D29).c0; have z1 := (unhide D29).c1; have z2 := (unhide D29).f0; have z3 := (unhide D29).f1; (first | (have HZ := hide ((unhide D29).put (b := w7.heap.size + 1) (by omega) (.slice (some ⟨gX, 0, none⟩) (Dk.flL (fun _ => true) ks ws).length cX) (.slice none 0 0)); have v0 := (unhide HZ).c0; have v1 := (unhide HZ).c1; have v2 := (unhide HZ).f0; have v3 := (unhide HZ).f1; have HY := hide ((unhide D28).put (b := w7.heap.size + 1 + 1) (by omega) (.slice (some ⟨gY, 0, none⟩) (Dk.flL (fun i => (l[i]?).getD false) ks ws).length cY) (.slice none 0 0)); have t0 := (unhide HY).c0; have t1 := (unhide HY).c1; have t2 := (unhide HY).f0; have t3 := (unhide HY).f1) | skip); clear hbC hkC))
    all_goals
      go_wp2_with fail
      go_meet
      case rel => first
        | exact ⟨rfl, gX, cX, gY, cY, (Dk.D6.stored (unhide D28) _ _).put (by omega) _ _, Dk.D6.stored (unhide HZ) _ _, ((unhide HKX).put (unhide D28) _ _).put (unhide HZ) _ _, ((unhide HKY).put (unhide D28) _ _).put (unhide HZ) _ _, Dk.S5.bel (by assumption), ((unhide D22).put (by omega) _ _).put (by omega) _ _, ((unhide D27).put (by omega) _ _).put (by omega) _ _⟩
        | exact ⟨rfl, gX, cX, gY, cY, Dk.D6.stored (unhide HY) _ _, (Dk.D6.stored (unhide D29) _ _).put (by omega) _ _, ((unhide HKX).put (unhide D29) _ _).put (unhide HY) _ _, ((unhide HKY).put (unhide D29) _ _).put (unhide HY) _ _, Dk.S5.bel (by assumption), ((unhide D22).put (by omega) _ _).put (by omega) _ _, ((unhide D27).put (by omega) _ _).put (by omega) _ _⟩
  case rest =>
    obtain ⟨rfl, gX, cX, gY, cY, hB28, hB29, hkX, hkY, hp, hD22, hD27⟩ := hcut
    have B28 := hide hB28
    have B29 := hide hB29
    have KXX := hide hkX
    have KYY := hide hkY
    have HPC := hide hp
    have D22c := hide hD22
    have D27c := hide hD27
    clear hB28 hB29 hkX hkY hp hD22 hD27 HP D22 D27 D28 D29
    have HP := hide (unhide HPC)
    clear HPC
    go_wp2_with fail
    refine ((unhide HBN) _).mono ?_
    rintro e v1 ⟨rfl, hv1⟩
    replace HP := hide ((unhide HP).trans (hv1.mono (unhide HP).size))
    replace B28 := hide ((unhide B28).below hv1)
    replace B29 := hide ((unhide B29).below hv1)
    replace KXX := hide ((unhide KXX).later hv1 (Nat.le_refl _))
    replace KYY := hide ((unhide KYY).later hv1 (Nat.le_refl _))
    replace D22c := hide ((unhide D22c).below hv1)
    replace D27c := hide ((unhide D27c).below hv1)
    clear hv1
    have x0 := ((unhide B5).below (unhide HP)).c0
    have x1 := ((unhide B5).below (unhide HP)).c1
    go_wp2_with fail
    refine (Check_any ka ks kc wa ws wq _ ((unhide K).later (unhide HP) (Nat.le_refl _)) ((unhide W).later (unhide HP) (Nat.le_refl _))).mono ?_
    rw [unhide HD0]
    rintro e v2 ⟨rfl, hv2⟩
    replace HP := hide ((unhide HP).trans (hv2.mono (unhide HP).size))
    replace B28 := hide ((unhide B28).below hv2)
    replace B29 := hide ((unhide B29).below hv2)
    replace KXX := hide ((unhide KXX).later hv2 (Nat.le_refl _))
    replace KYY := hide ((unhide KYY).later hv2 (Nat.le_refl _))
    replace D22c := hide ((unhide D22c).below hv2)
    replace D27c := hide ((unhide D27c).below hv2)
    clear hv2 x0 x1
    have x0 := ((unhide B11).below (unhide HP)).c0
    have x1 := ((unhide B11).below (unhide HP)).c1
    have x2 := (unhide D22c).c0
    have x3 := (unhide D22c).c1
    go_wp2_with fail
    refine (diskIs_err2 3 3 rfl (by decide) none 0 0 none 0 0 _).mono ?_
    rintro e v3 ⟨rfl, hv3⟩
    replace HP := hide ((unhide HP).trans (hv3.mono (unhide HP).size))
    replace B28 := hide ((unhide B28).below hv3)
    replace B29 := hide ((unhide B29).below hv3)
    replace KXX := hide ((unhide KXX).later hv3 (Nat.le_refl _))
    replace KYY := hide ((unhide KYY).later hv3 (Nat.le_refl _))
    replace D22c := hide ((unhide D22c).below hv3)
    replace D27c := hide ((unhide D27c).below hv3)
    clear hv3 x0 x1 x2 x3
    have x0 := ((unhide B15).below (unhide HP)).c0
    have x1 := ((unhide B15).below (unhide HP)).c1
    have x2 := (unhide D27c).c0
    have x3 := (unhide D27c).c1
    go_wp2_with fail
    refine (diskIs_err2 2 2 rfl (by decide) none 0 0 none 0 0 _).mono ?_
    rintro e v4 ⟨rfl, hv4⟩
    replace HP := hide ((unhide HP).trans (hv4.mono (unhide HP).size))
    replace B28 := hide ((unhide B28).below hv4)
    replace B29 := hide ((unhide B29).below hv4)
    replace KXX := hide ((unhide KXX).later hv4 (Nat.le_refl _))
    replace KYY := hide ((unhide KYY).later hv4 (Nat.le_refl _))
    replace D22c := hide ((unhide D22c).below hv4)
    replace D27c := hide ((unhide D27c).below hv4)
    clear hv4 x0 x1 x2 x3
    have x0 := ((unhide B17).below (unhide HP)).c0
    have x1 := ((unhide B17).below (unhide HP)).c1
    have x2 := (unhide B28).c0
    have x3 := (unhide B28).c1
    go_wp2_with fail
    refine (diskIs_ok a4 (some ⟨gX, 0, none⟩) (Dk.flL (fun _ => true) ks ws) c4 cX b4 none [] d4 0 _ ((unhide KX).later (unhide HP) (Nat.le_refl _)) (unhide KXX) (Dk.RW.nil _ _) (Dk.RW.nil _ _) (unhide HFX) (by simp)).mono ?_
    rintro e v5 ⟨rfl, hv5⟩
    replace HP := hide ((unhide HP).trans (hv5.mono (unhide HP).size))
    replace B28 := hide ((unhide B28).below hv5)
    replace B29 := hide ((unhide B29).below hv5)
    replace KXX := hide ((unhide KXX).later hv5 (Nat.le_refl _))
    replace KYY := hide ((unhide KYY).later hv5 (Nat.le_refl _))
    replace D22c := hide ((unhide D22c).below hv5)
    replace D27c := hide ((unhide D27c).below hv5)
    clear hv5 x0 x1 x2 x3
    have x0 := ((unhide B19).below (unhide HP)).c0
    have x1 := ((unhide B19).below (unhide HP)).c1
    have x2 := (unhide B29).c0
    have x3 := (unhide B29).c1
    go_wp2_with fail
    refine (diskIs_ok a5 (some ⟨gY, 0, none⟩) (Dk.flL (fun i => (l[i]?).getD false) ks ws) c5 cY b5 none [] d5 0 _ ((unhide KY).later (unhide HP) (Nat.le_refl _)) (unhide KYY) (Dk.RW.nil _ _) (Dk.RW.nil _ _) (unhide HFY) (by simp)).mono ?_
    rintro e v6 ⟨rfl, hv6⟩
    replace HP := hide ((unhide HP).trans (hv6.mono (unhide HP).size))
    replace B28 := hide ((unhide B28).below hv6)
    replace B29 := hide ((unhide B29).below hv6)
    replace KXX := hide ((unhide KXX).later hv6 (Nat.le_refl _))
    replace KYY := hide ((unhide KYY).later hv6 (Nat.le_refl _))
    replace D22c := hide ((unhide D22c).below hv6)
    replace D27c := hide ((unhide D27c).below hv6)
    clear hv6 x0 x1 x2 x3
    go_wp2_with fail
    go_ret
    exact ⟨rfl, (unhide HBa).trans ((unhide HP).mono (unhide HBa).size)⟩

set_option maxRecDepth 100000 in
set_option maxHeartbeats 3200000 in
theorem tells_a6 (HBG : Dk.Begun) (ka : Option Addr) (ks : List ByteArray) (kc : Nat) (wa : Option Addr) (ws : List (Int × ByteArray)) (wq : Nat) (sec n : Int) (s : ByteArray) (l : List Bool) (ad : Option Addr) (cap : Nat) (w : World) (hk : Dk.RK w ka ks) (hw : Dk.RW w wa ws) (hl : Dk.RB w ad l) (hsm : s.size ≤ maxLen) (hs0 : sec < 1) (hd0 : Dk.chk ks ws = 0) (hd1 : 0 ≤ n) (hd2 : n < (ks.length : Int)) (hd3 : s.size = 32) (hd4 : ws.length ≠ 600) :
    Calls Try.prog 3 #[.agg #[.slice ka ks.length kc, .slice wa ws.length wq], .int .i64 sec, .int .i64 n, .string s, .slice ad l.length cap] w fun e w' => e = .returned (.bool true) ∧ Below w.heap.size w w' := by
  have HB0 := hide ((Below.refl w.heap.size w).alloc (Nat.le_refl _) (Obj.cells #[.slice ka ks.length kc, .slice wa ws.length wq] 25))
  have K := hide (hk.alloc (Obj.cells #[.slice ka ks.length kc, .slice wa ws.length wq] 25))
  have W := hide (hw.alloc (Obj.cells #[.slice ka ks.length kc, .slice wa ws.length wq] 25))
  have L := hide (hl.alloc (Obj.cells #[.slice ka ks.length kc, .slice wa ws.length wq] 25))
  have B5 := hide (Dk.Bx.made w (.slice ka ks.length kc) (.slice wa ws.length wq) 25)
  have HSM := hide hsm
  have HBN := hide HBG
  have hcn : Dk.cnt sec = false := by simp [Dk.cnt]; omega
  have HE := hide (show Dk.newE sec = 3 by unfold Dk.newE; rw [hcn]; rfl)
  have HNL := hide (show Dk.newL sec = [] by unfold Dk.newL; rw [hcn]; rfl)
  have HCN := hide hcn
  have hin : Dk.inn ks.length n = true := by simp [Dk.inn]; omega
  have hlt : n.toNat < (Dk.keptTo (fun _ => true) ks ws ws.length).length := by rw [Dk.keptTo_length]; omega
  obtain ⟨t, ht⟩ : ∃ t, (Dk.keptTo (fun _ => true) ks ws ws.length)[n.toNat]? = some t := ⟨_, List.getElem?_eq_getElem hlt⟩
  have hrd : Dk.rd ks ws n = (t, 0) := by unfold Dk.rd; rw [if_pos hd0, hin, ht]; rfl
  have g9 : (t.toList == t.toList) = true := by simp
  have HT := hide ht
  have HIN := hide hin
  have hcw : Dk.chkW ks.length (n, s) = 0 := by unfold Dk.chkW; rw [show Dk.inn ks.length (n, s).1 = true from hin]; simp [Dk.is32, hd3]
  have hwe : Dk.wrE ks ws n s = 0 := by unfold Dk.wrE; rw [if_pos hd0, hcw]; simp [hd4]
  have HD0 := hide hd0
  have hok := Dk.chk_ok hd0
  have HFX := hide (show (Dk.flL (fun _ => true) ks ws).length ≤ 600 by unfold Dk.flL; rw [if_pos hd0, Dk.keptTo_length]; exact hok.2.1)
  have HFY := hide (show (Dk.flL (fun i => (l[i]?).getD false) ks ws).length ≤ 600 by unfold Dk.flL; rw [if_pos hd0, Dk.keptTo_length]; exact hok.2.1)
  obtain ⟨M, hM⟩ : ∃ M, M = ws ++ [(n, s)] := ⟨_, rfl⟩
  have HM := hide hM
  have HWK := hide (show Dk.wrK ks ws n s = ks by unfold Dk.wrK; rw [if_pos hwe])
  have HWW := hide (show Dk.wrW ks ws n s = M by unfold Dk.wrW; rw [if_pos hwe, hM])
  have HLE := hide (show ks.length ≤ 600 ∧ ws.length ≤ 600 ∧ M.length ≤ 600 from ⟨hok.2.1, hok.2.2.2.1, by rw [hM, List.length_append]; have := hok.2.2.2.1; simp; omega⟩)
  have HWS := hide (show ∀ y ∈ ws, y.2.size ≤ maxLen from fun y hy => by have := (Dk.chkWs_mem _ _ hok.2.2.2.2 y hy).2.2; unfold maxLen; omega)
  have g3 : ((s.size : Int) == 32) = true := by rw [hd3]; rfl
  have g3n : ((s.size : Int) != 32) = false := by simp [bne, g3]
  have g4 : ((ws.length : Int) == 600) = false := by rw [beq_eq_false_iff_ne]; omega
  have HRD := hide hrd
  have HWE := hide hwe
  clear hM hcn hrd hwe hk hw hl hsm HBG hin hcw hok ht hlt
  clear hd0
  clear hd3
  clear hd4
  go_enter Try.func3, Try.ntmps3
  go_wp2_with fail
  refine (New_err sec _ (unhide HCN)).mono ?_
  rintro e w1 ⟨rfl, hb1⟩
  replace K := hide ((unhide K).later hb1 (Nat.le_refl _))
  replace W := hide ((unhide W).later hb1 (Nat.le_refl _))
  replace L := hide ((unhide L).later hb1 (Nat.le_refl _))
  replace B5 := hide ((unhide B5).below hb1)
  have HBa := hide ((unhide HB0).trans (hb1.mono (unhide HB0).size))
  have B11 := hide (Dk.Bx.made w1 (.slice none 0 0) (.slice none 0 0) 25)
  replace K := hide ((unhide K).alloc (Obj.cells #[.slice none 0 0, .slice none 0 0] 25))
  replace W := hide ((unhide W).alloc (Obj.cells #[.slice none 0 0, .slice none 0 0] 25))
  replace L := hide ((unhide L).alloc (Obj.cells #[.slice none 0 0, .slice none 0 0] 25))
  replace B5 := hide ((unhide B5).alloc (Obj.cells #[.slice none 0 0, .slice none 0 0] 25))
  replace HBa := hide ((unhide HBa).alloc (unhide HBa).size (Obj.cells #[.slice none 0 0, .slice none 0 0] 25))
  clear hb1
  have x0 := (unhide B5).c0
  have x1 := (unhide B5).c1
  go_wp2_with fail
  refine (Read_any ka ks kc wa ws wq n _ (unhide K) (unhide W)).mono ?_
  rw [unhide HRD]
  rintro e w2 ⟨rfl, hb2⟩
  replace K := hide ((unhide K).later hb2 (Nat.le_refl _))
  replace W := hide ((unhide W).later hb2 (Nat.le_refl _))
  replace L := hide ((unhide L).later hb2 (Nat.le_refl _))
  replace B5 := hide ((unhide B5).below hb2)
  replace B11 := hide ((unhide B11).below hb2)
  replace HBa := hide ((unhide HBa).trans (hb2.mono (unhide HBa).size))
  clear hb2 x0 x1
  have x0 := (unhide B5).c0
  have x1 := (unhide B5).c1
  go_wp2_with fail
  refine (Write_gen ka ks kc wa ws wq n s _ (unhide K) (unhide W) (unhide HSM)).mono ?_
  rw [unhide HWE, unhide HWK, unhide HWW]
  rintro e w3 ⟨a3, c3, b3, d3, rfl, hk3, hw3, hb3, _⟩
  replace K := hide ((unhide K).later hb3 (Nat.le_refl _))
  replace W := hide ((unhide W).later hb3 (Nat.le_refl _))
  replace L := hide ((unhide L).later hb3 (Nat.le_refl _))
  replace B5 := hide ((unhide B5).below hb3)
  replace B11 := hide ((unhide B11).below hb3)
  replace HBa := hide ((unhide HBa).trans (hb3.mono (unhide HBa).size))
  have KC := hide hk3
  have WC := hide hw3
  clear hk3 hw3
  have B15 := hide (Dk.Bx.made w3 (.slice a3 ks.length c3) (.slice b3 M.length d3) 25)
  replace K := hide ((unhide K).alloc (Obj.cells #[.slice a3 ks.length c3, .slice b3 M.length d3] 25))
  replace W := hide ((unhide W).alloc (Obj.cells #[.slice a3 ks.length c3, .slice b3 M.length d3] 25))
  replace L := hide ((unhide L).alloc (Obj.cells #[.slice a3 ks.length c3, .slice b3 M.length d3] 25))
  replace B5 := hide ((unhide B5).alloc (Obj.cells #[.slice a3 ks.length c3, .slice b3 M.length d3] 25))
  replace B11 := hide ((unhide B11).alloc (Obj.cells #[.slice a3 ks.length c3, .slice b3 M.length d3] 25))
  replace KC := hide ((unhide KC).alloc (Obj.cells #[.slice a3 ks.length c3, .slice b3 M.length d3] 25))
  replace WC := hide ((unhide WC).alloc (Obj.cells #[.slice a3 ks.length c3, .slice b3 M.length d3] 25))
  replace HBa := hide ((unhide HBa).alloc (unhide HBa).size (Obj.cells #[.slice a3 ks.length c3, .slice b3 M.length d3] 25))
  clear hb3 x0 x1
  have x0 := (unhide B5).c0
  have x1 := (unhide B5).c1
  go_wp2_with fail
  refine (Flush_gen ka ks kc wa ws wq _ (unhide K) (unhide W)).mono ?_
  rw [unhide HD0]
  rintro e w4 ⟨a4, c4, b4, d4, rfl, hk4, hw4, hb4, _⟩
  replace K := hide ((unhide K).later hb4 (Nat.le_refl _))
  replace W := hide ((unhide W).later hb4 (Nat.le_refl _))
  replace L := hide ((unhide L).later hb4 (Nat.le_refl _))
  replace B5 := hide ((unhide B5).below hb4)
  replace B11 := hide ((unhide B11).below hb4)
  replace KC := hide ((unhide KC).later hb4 (Nat.le_refl _))
  replace WC := hide ((unhide WC).later hb4 (Nat.le_refl _))
  replace B15 := hide ((unhide B15).below hb4)
  replace HBa := hide ((unhide HBa).trans (hb4.mono (unhide HBa).size))
  have KX := hide hk4
  clear hk4 hw4
  have B17 := hide (Dk.Bx.made w4 (.slice a4 (Dk.flL (fun _ => true) ks ws).length c4) (.slice b4 0 d4) 25)
  replace K := hide ((unhide K).alloc (Obj.cells #[.slice a4 (Dk.flL (fun _ => true) ks ws).length c4, .slice b4 0 d4] 25))
  replace W := hide ((unhide W).alloc (Obj.cells #[.slice a4 (Dk.flL (fun _ => true) ks ws).length c4, .slice b4 0 d4] 25))
  replace L := hide ((unhide L).alloc (Obj.cells #[.slice a4 (Dk.flL (fun _ => true) ks ws).length c4, .slice b4 0 d4] 25))
  replace B5 := hide ((unhide B5).alloc (Obj.cells #[.slice a4 (Dk.flL (fun _ => true) ks ws).length c4, .slice b4 0 d4] 25))
  replace B11 := hide ((unhide B11).alloc (Obj.cells #[.slice a4 (Dk.flL (fun _ => true) ks ws).length c4, .slice b4 0 d4] 25))
  replace KC := hide ((unhide KC).alloc (Obj.cells #[.slice a4 (Dk.flL (fun _ => true) ks ws).length c4, .slice b4 0 d4] 25))
  replace WC := hide ((unhide WC).alloc (Obj.cells #[.slice a4 (Dk.flL (fun _ => true) ks ws).length c4, .slice b4 0 d4] 25))
  replace B15 := hide ((unhide B15).alloc (Obj.cells #[.slice a4 (Dk.flL (fun _ => true) ks ws).length c4, .slice b4 0 d4] 25))
  replace KX := hide ((unhide KX).alloc (Obj.cells #[.slice a4 (Dk.flL (fun _ => true) ks ws).length c4, .slice b4 0 d4] 25))
  replace HBa := hide ((unhide HBa).alloc (unhide HBa).size (Obj.cells #[.slice a4 (Dk.flL (fun _ => true) ks ws).length c4, .slice b4 0 d4] 25))
  clear hb4 x0 x1
  have x0 := (unhide B5).c0
  have x1 := (unhide B5).c1
  go_wp2_with fail
  refine (Crash_gen ka ks kc wa ws wq l ad cap _ (unhide K) (unhide W) (unhide L)).mono ?_
  rw [unhide HD0]
  rintro e w5 ⟨a5, c5, b5, d5, rfl, hk5, hw5, hb5, _⟩
  replace K := hide ((unhide K).later hb5 (Nat.le_refl _))
  replace W := hide ((unhide W).later hb5 (Nat.le_refl _))
  replace L := hide ((unhide L).later hb5 (Nat.le_refl _))
  replace B5 := hide ((unhide B5).below hb5)
  replace B11 := hide ((unhide B11).below hb5)
  replace KC := hide ((unhide KC).later hb5 (Nat.le_refl _))
  replace WC := hide ((unhide WC).later hb5 (Nat.le_refl _))
  replace B15 := hide ((unhide B15).below hb5)
  replace KX := hide ((unhide KX).later hb5 (Nat.le_refl _))
  replace B17 := hide ((unhide B17).below hb5)
  replace HBa := hide ((unhide HBa).trans (hb5.mono (unhide HBa).size))
  have KY := hide hk5
  clear hk5 hw5
  have B19 := hide (Dk.Bx.made w5 (.slice a5 (Dk.flL (fun i => (l[i]?).getD false) ks ws).length c5) (.slice b5 0 d5) 25)
  replace K := hide ((unhide K).alloc (Obj.cells #[.slice a5 (Dk.flL (fun i => (l[i]?).getD false) ks ws).length c5, .slice b5 0 d5] 25))
  replace W := hide ((unhide W).alloc (Obj.cells #[.slice a5 (Dk.flL (fun i => (l[i]?).getD false) ks ws).length c5, .slice b5 0 d5] 25))
  replace L := hide ((unhide L).alloc (Obj.cells #[.slice a5 (Dk.flL (fun i => (l[i]?).getD false) ks ws).length c5, .slice b5 0 d5] 25))
  replace B5 := hide ((unhide B5).alloc (Obj.cells #[.slice a5 (Dk.flL (fun i => (l[i]?).getD false) ks ws).length c5, .slice b5 0 d5] 25))
  replace B11 := hide ((unhide B11).alloc (Obj.cells #[.slice a5 (Dk.flL (fun i => (l[i]?).getD false) ks ws).length c5, .slice b5 0 d5] 25))
  replace KC := hide ((unhide KC).alloc (Obj.cells #[.slice a5 (Dk.flL (fun i => (l[i]?).getD false) ks ws).length c5, .slice b5 0 d5] 25))
  replace WC := hide ((unhide WC).alloc (Obj.cells #[.slice a5 (Dk.flL (fun i => (l[i]?).getD false) ks ws).length c5, .slice b5 0 d5] 25))
  replace B15 := hide ((unhide B15).alloc (Obj.cells #[.slice a5 (Dk.flL (fun i => (l[i]?).getD false) ks ws).length c5, .slice b5 0 d5] 25))
  replace KX := hide ((unhide KX).alloc (Obj.cells #[.slice a5 (Dk.flL (fun i => (l[i]?).getD false) ks ws).length c5, .slice b5 0 d5] 25))
  replace B17 := hide ((unhide B17).alloc (Obj.cells #[.slice a5 (Dk.flL (fun i => (l[i]?).getD false) ks ws).length c5, .slice b5 0 d5] 25))
  replace KY := hide ((unhide KY).alloc (Obj.cells #[.slice a5 (Dk.flL (fun i => (l[i]?).getD false) ks ws).length c5, .slice b5 0 d5] 25))
  replace HBa := hide ((unhide HBa).alloc (unhide HBa).size (Obj.cells #[.slice a5 (Dk.flL (fun i => (l[i]?).getD false) ks ws).length c5, .slice b5 0 d5] 25))
  clear hb5 x0 x1
  have HP := hide ((Below.refl (w5.alloc (Obj.cells #[.slice a5 (Dk.flL (fun i => (l[i]?).getD false) ks ws).length c5, .slice b5 0 d5] 25)).heap.size (w5.alloc (Obj.cells #[.slice a5 (Dk.flL (fun i => (l[i]?).getD false) ks ws).length c5, .slice b5 0 d5] 25))).alloc (Nat.le_refl _) (Obj.cells #[.slice none 0 0, .slice none 0 0] 25))
  have hp22 : (w5.alloc (Obj.cells #[.slice a5 (Dk.flL (fun i => (l[i]?).getD false) ks ws).length c5, .slice b5 0 d5] 25)).heap.size = w5.heap.size + 1 := World.size_alloc _ _
  have D22 := hide (hp22 ▸ Dk.D6.laid (w5.alloc (Obj.cells #[.slice a5 (Dk.flL (fun i => (l[i]?).getD false) ks ws).length c5, .slice b5 0 d5] 25)) 25 : Dk.D6 (w5.heap.size + 1) ((w5.alloc (Obj.cells #[.slice a5 (Dk.flL (fun i => (l[i]?).getD false) ks ws).length c5, .slice b5 0 d5] 25)).alloc (Obj.cells #[.slice none 0 0, .slice none 0 0] 25)))
  have x0 := ((unhide B5).below (unhide HP)).c0
  have x1 := ((unhide B5).below (unhide HP)).c1
  go_wp2_with fail
  refine (CheckDisk_any ka ks kc wa ws wq _ ((unhide K).later (unhide HP) (Nat.le_refl _)) ((unhide W).later (unhide HP) (Nat.le_refl _))).mono ?_
  rw [unhide HD0]
  rintro e w7 ⟨rfl, hb7⟩
  replace HP := hide ((unhide HP).trans (hb7.mono (unhide HP).size))
  replace D22 := hide ((unhide D22).below hb7)
  clear hb7 x0 x1
  have hl22 : w5.heap.size + 1 < w7.heap.size := World.block_lt_of_cell? _ _ (unhide D22).c0
  generalize w5.alloc (Obj.cells #[.slice a5 (Dk.flL (fun i => (l[i]?).getD false) ks ws).length c5, .slice b5 0 d5] 25) = P at *
  have x0 := ((unhide B5).below (unhide HP)).c0
  have x1 := ((unhide B5).below (unhide HP)).c1
  have HPz := (unhide HP).size
  replace HP := hide ((unhide HP).alloc (unhide HP).size (Obj.cells #[.slice none 0 0, .slice none 0 0] 25))
  replace D22 := hide ((unhide D22).alloc (Obj.cells #[.slice none 0 0, .slice none 0 0] 25))
  have D27 := hide (Dk.D6.laid w7 25)
  replace HP := hide ((unhide HP).alloc (unhide HP).size (Obj.cells #[.slice none 0 0, .slice none 0 0] 25))
  replace D22 := hide ((unhide D22).alloc (Obj.cells #[.slice none 0 0, .slice none 0 0] 25))
  replace D27 := hide ((unhide D27).alloc (Obj.cells #[.slice none 0 0, .slice none 0 0] 25))
  have D28 := hide (World.size_alloc w7 _ ▸ Dk.D6.laid (w7.alloc (Obj.cells #[.slice none 0 0, .slice none 0 0] 25)) 25 : Dk.D6 (w7.heap.size + 1) ((w7.alloc (Obj.cells #[.slice none 0 0, .slice none 0 0] 25)).alloc (Obj.cells #[.slice none 0 0, .slice none 0 0] 25)))
  replace HP := hide ((unhide HP).alloc (unhide HP).size (Obj.cells #[.slice none 0 0, .slice none 0 0] 25))
  replace D22 := hide ((unhide D22).alloc (Obj.cells #[.slice none 0 0, .slice none 0 0] 25))
  replace D27 := hide ((unhide D27).alloc (Obj.cells #[.slice none 0 0, .slice none 0 0] 25))
  replace D28 := hide ((unhide D28).alloc (Obj.cells #[.slice none 0 0, .slice none 0 0] 25))
  have hq29 : ((w7.alloc (Obj.cells #[.slice none 0 0, .slice none 0 0] 25)).alloc (Obj.cells #[.slice none 0 0, .slice none 0 0] 25)).heap.size = w7.heap.size + 1 + 1 := by rw [World.size_alloc, World.size_alloc]
  have D29 := hide (hq29 ▸ Dk.D6.laid ((w7.alloc (Obj.cells #[.slice none 0 0, .slice none 0 0] 25)).alloc (Obj.cells #[.slice none 0 0, .slice none 0 0] 25)) 25 : Dk.D6 (w7.heap.size + 1 + 1) (((w7.alloc (Obj.cells #[.slice none 0 0, .slice none 0 0] 25)).alloc (Obj.cells #[.slice none 0 0, .slice none 0 0] 25)).alloc (Obj.cells #[.slice none 0 0, .slice none 0 0] 25)))
  have q0 := ((unhide B5).below (unhide HP)).c0
  have q1 := ((unhide B5).below (unhide HP)).c1
  go_wp2_with fail
  refine (ReadOf_any ka ks kc wa ws wq n t _ ((unhide K).later (unhide HP) (Nat.le_refl _)) ((unhide W).later (unhide HP) (Nat.le_refl _)) (unhide HD0) (unhide HIN) (unhide HT)).mono ?_
  rintro e w8 ⟨rfl, hb8⟩
  replace HP := hide ((unhide HP).trans (hb8.mono (unhide HP).size))
  replace D22 := hide ((unhide D22).below hb8)
  replace D27 := hide ((unhide D27).below hb8)
  replace D28 := hide ((unhide D28).below hb8)
  replace D29 := hide ((unhide D29).below hb8)
  clear hb8 x0 x1 q0 q1
  have x0 := ((unhide B5).below (unhide HP)).c0
  have x1 := ((unhide B5).below (unhide HP)).c1
  go_wp2_with fail
  have WO := WriteOf_gen ka ks kc wa ws wq n s _ ((unhide W).later (unhide HP) (Nat.le_refl _)) (unhide HLE).2.1 (unhide HWS) (unhide HSM)
  rw [← unhide HM] at WO
  refine WO.mono ?_
  rintro e w9 ⟨g10, c10, rfl, hw10, hb10⟩
  replace HP := hide ((unhide HP).trans (hb10.mono (unhide HP).size))
  replace D22 := hide ((unhide D22).below hb10)
  replace D27 := hide ((unhide D27).below hb10)
  replace D28 := hide ((unhide D28).below hb10)
  replace D29 := hide ((unhide D29).below hb10)
  clear WO x0 x1
  have y0 := (unhide D27).c0
  have y1 := (unhide D27).c1
  have y2 := (unhide D27).f0
  have y3 := (unhide D27).f1
  have WF := hide (Dk.RW.put hw10 (unhide D27) (.slice ka ks.length kc) (.slice (some ⟨g10, 0, none⟩) M.length c10))
  replace D22 := hide ((unhide D22).put (show w5.heap.size + 1 ≠ w7.heap.size by omega) (.slice ka ks.length kc) (.slice (some ⟨g10, 0, none⟩) M.length c10))
  replace D28 := hide ((unhide D28).put (b := w7.heap.size) (by omega) (.slice ka ks.length kc) (.slice (some ⟨g10, 0, none⟩) M.length c10))
  replace D29 := hide ((unhide D29).put (b := w7.heap.size) (by omega) (.slice ka ks.length kc) (.slice (some ⟨g10, 0, none⟩) M.length c10))
  have B27 := hide ((unhide D27).stored (.slice ka ks.length kc) (.slice (some ⟨g10, 0, none⟩) M.length c10))
  replace HP := hide (Dk.below_put (b := w7.heap.size) (unhide HP) (by omega) (.slice ka ks.length kc) (.slice (some ⟨g10, 0, none⟩) M.length c10))
  clear hw10 hb10 D27
  have x0 := ((unhide B5).below (unhide HP)).c0
  have x1 := ((unhide B5).below (unhide HP)).c1
  go_wp2_with fail
  have HS := hide (show Dk.S5 P w.heap.size (.slice ka ks.length kc) (.slice wa ws.length wq) _ from ⟨((unhide B5).below (unhide HP)).c0, ((unhide B5).below (unhide HP)).c1, unhide HP⟩)
  replace D22 := hide (unhide D22).drew
  replace D28 := hide (unhide D28).drew
  replace D29 := hide (unhide D29).drew
  replace B27 := hide (unhide B27).drew
  replace WF := hide (unhide WF).drew
  clear x0 x1 y0 y1 y2 y3
  go_cut [10] (fun rv wx => rv = .bool false ∧ ∃ (gX cX gY cY : Nat), Dk.Bx (w7.heap.size + 1) (.slice (some ⟨gX, 0, none⟩) (Dk.flL (fun _ => true) ks ws).length cX) (.slice none 0 0) wx ∧ Dk.Bx (w7.heap.size + 1 + 1) (.slice (some ⟨gY, 0, none⟩) (Dk.flL (fun i => (l[i]?).getD false) ks ws).length cY) (.slice none 0 0) wx ∧ Dk.RK wx (some ⟨gX, 0, none⟩) (Dk.flL (fun _ => true) ks ws) ∧ Dk.RK wx (some ⟨gY, 0, none⟩) (Dk.flL (fun i => (l[i]?).getD false) ks ws) ∧ Below P.heap.size P wx ∧ Dk.D6 (w5.heap.size + 1) wx ∧ Dk.Bx w7.heap.size (.slice ka ks.length kc) (.slice (some ⟨g10, 0, none⟩) M.length c10) wx ∧ Dk.RW wx (some ⟨g10, 0, none⟩) M)
  case first =>
    go_region_held3 (fun W => W.cell? ⟨w.heap.size, 0, none⟩ = some (.slice ka ks.length kc) ∧ W.cell? ⟨w.heap.size, 1, none⟩ = some (.slice wa ws.length wq) ∧ Below P.heap.size P W)
      (first
        | with_reducible exact Dk.S5.drew (unhide HS)
        | with_reducible exact Dk.S5.put (by assumption) (show w.heap.size < P.heap.size from (unhide B5).lt) (by omega) _ _
        | exact Dk.S5.below (by assumption) (unhide HBC))
      (first
        | (go_at_call 14; with_reducible (show Calls _ _ #[_, _, Value.bool true] _ _); refine (CrashOf_all2 ka ks kc wa ws wq _ ?_ ?_ (unhide HD0)).mono ?_; exact (unhide K).later (Dk.S5.bel (by assumption)) (Nat.le_refl _); exact (unhide W).later (Dk.S5.bel (by assumption)) (Nat.le_refl _); rintro e wC ⟨gX, cX, rfl, hkC, hbC⟩; have HBC := hide hbC; have HKX := hide hkC; replace D22 := hide ((unhide D22).below hbC); replace D28 := hide ((unhide D28).below hbC); replace D29 := hide ((unhide D29).below hbC); replace B27 := hide ((unhide B27).below hbC); replace WF := hide ((unhide WF).later hbC (Nat.le_refl _)); (first | replace HKY := hide ((unhide HKY).later hbC (Nat.le_refl _)) | skip); have y0 := (unhide D28).c0; have y1 := (unhide D28).c1; have y2 := (unhide D28).f0; have y3 := (unhide D28).f1; have z0 := (unhide D29).c0; have z1 := (unhide D29).c1; have z2 := (unhide D29).f0; have z3 := (unhide D29).f1; (first | (have HZ := hide ((unhide D29).put (b := w7.heap.size + 1) (by omega) (.slice (some ⟨gX, 0, none⟩) (Dk.flL (fun _ => true) ks ws).length cX) (.slice none 0 0)); have v0 := (unhide HZ).c0; have v1 := (unhide HZ).c1; have v2 := (unhide HZ).f0; have v3 := (unhide HZ).f1; have HY := hide ((unhide D28).put (b := w7.heap.size + 1 + 1) (by omega) (.slice (some ⟨gY, 0, none⟩) (Dk.flL (fun i => (l[i]?).getD false) ks ws).length cY) (.slice none 0 0)); have t0 := (unhide HY).c0; have t1 := (unhide HY).c1; have t2 := (unhide HY).f0; have t3 := (unhide HY).f1) | skip); clear hbC hkC)
        | (go_at_call 14; refine (CrashOf_some2 ka ks kc wa ws wq l ad cap _ ?_ ?_ ?_ (unhide HD0)).mono ?_; exact (unhide K).later (Dk.S5.bel (by assumption)) (Nat.le_refl _); exact (unhide W).later (Dk.S5.bel (by assumption)) (Nat.le_refl _); exact (unhide L).later (Dk.S5.bel (by assumption)) (Nat.le_refl _); rintro e wC ⟨gY, cY, rfl, hkC, hbC⟩; have HBC := hide hbC; have HKY := hide hkC; replace D22 := hide ((unhide D22).below hbC); replace D28 := hide ((unhide D28).below hbC); replace D29 := hide ((unhide D29).below hbC); replace B27 := hide ((unhide B27).below hbC); replace WF := hide ((unhide WF).later hbC (Nat.le_refl _)); (first | replace HKX := hide ((unhide HKX).later hbC (Nat.le_refl _)) | skip); have y0 := (unhide D28).c0; have y1 := (unhide D28).c1; have y2 := (unhide D28).f0; have y3 := (unhide D28).f1; have z0 := (unhide D29).c0; have z1 := (unhide D29).c1; have z2 := (unhide D29).f0; have z3 := (unhide D29).f1; (first | (have HZ := hide ((unhide D29).put (b := w7.heap.size + 1) (by omega) (.slice (some ⟨gX, 0, none⟩) (Dk.flL (fun _ => true) ks ws).length cX) (.slice none 0 0)); have v0 := (unhide HZ).c0; have v1 := (unhide HZ).c1; have v2 := (unhide HZ).f0; have v3 := (unhide HZ).f1; have HY := hide ((unhide D28).put (b := w7.heap.size + 1 + 1) (by omega) (.slice (some ⟨gY, 0, none⟩) (Dk.flL (fun i => (l[i]?).getD false) ks ws).length cY) (.slice none 0 0)); have t0 := (unhide HY).c0; have t1 := (unhide HY).c1; have t2 := (unhide HY).f0; have t3 := (unhide HY).f1) | skip); clear hbC hkC))
    all_goals
      go_wp2_with fail
      go_meet
      case rel => first
        | exact ⟨rfl, gX, cX, gY, cY, (Dk.D6.stored (unhide D28) _ _).put (by omega) _ _, Dk.D6.stored (unhide HZ) _ _, ((unhide HKX).put (unhide D28) _ _).put (unhide HZ) _ _, ((unhide HKY).put (unhide D28) _ _).put (unhide HZ) _ _, Dk.S5.bel (by assumption), ((unhide D22).put (by omega) _ _).put (by omega) _ _, ((unhide B27).put (by omega) _ _).put (by omega) _ _, ((unhide WF).put (unhide D28) _ _).put (unhide HZ) _ _⟩
        | exact ⟨rfl, gX, cX, gY, cY, Dk.D6.stored (unhide HY) _ _, (Dk.D6.stored (unhide D29) _ _).put (by omega) _ _, ((unhide HKX).put (unhide D29) _ _).put (unhide HY) _ _, ((unhide HKY).put (unhide D29) _ _).put (unhide HY) _ _, Dk.S5.bel (by assumption), ((unhide D22).put (by omega) _ _).put (by omega) _ _, ((unhide B27).put (by omega) _ _).put (by omega) _ _, ((unhide WF).put (unhide D29) _ _).put (unhide HY) _ _⟩
  case rest =>
    obtain ⟨rfl, gX, cX, gY, cY, hB28, hB29, hkX, hkY, hp, hD22, hB27, hWF⟩ := hcut
    have B28 := hide hB28
    have B29 := hide hB29
    have KXX := hide hkX
    have KYY := hide hkY
    have HPC := hide hp
    have D22c := hide hD22
    have B27c := hide hB27
    have WFc := hide hWF
    clear hB28 hB29 hkX hkY hp hD22 hB27 hWF HP D22 D28 D29 B27 WF
    have HP := hide (unhide HPC)
    clear HPC
    go_wp2_with fail
    refine ((unhide HBN) _).mono ?_
    rintro e v1 ⟨rfl, hv1⟩
    replace HP := hide ((unhide HP).trans (hv1.mono (unhide HP).size))
    replace B28 := hide ((unhide B28).below hv1)
    replace B29 := hide ((unhide B29).below hv1)
    replace KXX := hide ((unhide KXX).later hv1 (Nat.le_refl _))
    replace KYY := hide ((unhide KYY).later hv1 (Nat.le_refl _))
    replace D22c := hide ((unhide D22c).below hv1)
    replace B27c := hide ((unhide B27c).below hv1)
    replace WFc := hide ((unhide WFc).later hv1 (Nat.le_refl _))
    clear hv1
    have x0 := ((unhide B5).below (unhide HP)).c0
    have x1 := ((unhide B5).below (unhide HP)).c1
    go_wp2_with fail
    refine (Check_any ka ks kc wa ws wq _ ((unhide K).later (unhide HP) (Nat.le_refl _)) ((unhide W).later (unhide HP) (Nat.le_refl _))).mono ?_
    rw [unhide HD0]
    rintro e v2 ⟨rfl, hv2⟩
    replace HP := hide ((unhide HP).trans (hv2.mono (unhide HP).size))
    replace B28 := hide ((unhide B28).below hv2)
    replace B29 := hide ((unhide B29).below hv2)
    replace KXX := hide ((unhide KXX).later hv2 (Nat.le_refl _))
    replace KYY := hide ((unhide KYY).later hv2 (Nat.le_refl _))
    replace D22c := hide ((unhide D22c).below hv2)
    replace B27c := hide ((unhide B27c).below hv2)
    replace WFc := hide ((unhide WFc).later hv2 (Nat.le_refl _))
    clear hv2 x0 x1
    have x0 := ((unhide B11).below (unhide HP)).c0
    have x1 := ((unhide B11).below (unhide HP)).c1
    have x2 := (unhide D22c).c0
    have x3 := (unhide D22c).c1
    go_wp2_with fail
    refine (diskIs_err2 3 3 rfl (by decide) none 0 0 none 0 0 _).mono ?_
    rintro e v3 ⟨rfl, hv3⟩
    replace HP := hide ((unhide HP).trans (hv3.mono (unhide HP).size))
    replace B28 := hide ((unhide B28).below hv3)
    replace B29 := hide ((unhide B29).below hv3)
    replace KXX := hide ((unhide KXX).later hv3 (Nat.le_refl _))
    replace KYY := hide ((unhide KYY).later hv3 (Nat.le_refl _))
    replace D22c := hide ((unhide D22c).below hv3)
    replace B27c := hide ((unhide B27c).below hv3)
    replace WFc := hide ((unhide WFc).later hv3 (Nat.le_refl _))
    clear hv3 x0 x1 x2 x3
    have x0 := ((unhide B15).below (unhide HP)).c0
    have x1 := ((unhide B15).below (unhide HP)).c1
    have x2 := (unhide B27c).c0
    have x3 := (unhide B27c).c1
    go_wp2_with fail
    refine (diskIs_ok a3 ka ks c3 kc b3 (some ⟨g10, 0, none⟩) M d3 c10 _ ((unhide KC).later (unhide HP) (Nat.le_refl _)) ((unhide K).later (unhide HP) (Nat.le_refl _)) ((unhide WC).later (unhide HP) (Nat.le_refl _)) (unhide WFc) (unhide HLE).1 (unhide HLE).2.2).mono ?_
    rintro e v4 ⟨rfl, hv4⟩
    replace HP := hide ((unhide HP).trans (hv4.mono (unhide HP).size))
    replace B28 := hide ((unhide B28).below hv4)
    replace B29 := hide ((unhide B29).below hv4)
    replace KXX := hide ((unhide KXX).later hv4 (Nat.le_refl _))
    replace KYY := hide ((unhide KYY).later hv4 (Nat.le_refl _))
    replace D22c := hide ((unhide D22c).below hv4)
    replace B27c := hide ((unhide B27c).below hv4)
    replace WFc := hide ((unhide WFc).later hv4 (Nat.le_refl _))
    clear hv4 x0 x1 x2 x3
    have x0 := ((unhide B17).below (unhide HP)).c0
    have x1 := ((unhide B17).below (unhide HP)).c1
    have x2 := (unhide B28).c0
    have x3 := (unhide B28).c1
    go_wp2_with fail
    refine (diskIs_ok a4 (some ⟨gX, 0, none⟩) (Dk.flL (fun _ => true) ks ws) c4 cX b4 none [] d4 0 _ ((unhide KX).later (unhide HP) (Nat.le_refl _)) (unhide KXX) (Dk.RW.nil _ _) (Dk.RW.nil _ _) (unhide HFX) (by simp)).mono ?_
    rintro e v5 ⟨rfl, hv5⟩
    replace HP := hide ((unhide HP).trans (hv5.mono (unhide HP).size))
    replace B28 := hide ((unhide B28).below hv5)
    replace B29 := hide ((unhide B29).below hv5)
    replace KXX := hide ((unhide KXX).later hv5 (Nat.le_refl _))
    replace KYY := hide ((unhide KYY).later hv5 (Nat.le_refl _))
    replace D22c := hide ((unhide D22c).below hv5)
    replace B27c := hide ((unhide B27c).below hv5)
    replace WFc := hide ((unhide WFc).later hv5 (Nat.le_refl _))
    clear hv5 x0 x1 x2 x3
    have x0 := ((unhide B19).below (unhide HP)).c0
    have x1 := ((unhide B19).below (unhide HP)).c1
    have x2 := (unhide B29).c0
    have x3 := (unhide B29).c1
    go_wp2_with fail
    refine (diskIs_ok a5 (some ⟨gY, 0, none⟩) (Dk.flL (fun i => (l[i]?).getD false) ks ws) c5 cY b5 none [] d5 0 _ ((unhide KY).later (unhide HP) (Nat.le_refl _)) (unhide KYY) (Dk.RW.nil _ _) (Dk.RW.nil _ _) (unhide HFY) (by simp)).mono ?_
    rintro e v6 ⟨rfl, hv6⟩
    replace HP := hide ((unhide HP).trans (hv6.mono (unhide HP).size))
    replace B28 := hide ((unhide B28).below hv6)
    replace B29 := hide ((unhide B29).below hv6)
    replace KXX := hide ((unhide KXX).later hv6 (Nat.le_refl _))
    replace KYY := hide ((unhide KYY).later hv6 (Nat.le_refl _))
    replace D22c := hide ((unhide D22c).below hv6)
    replace B27c := hide ((unhide B27c).below hv6)
    replace WFc := hide ((unhide WFc).later hv6 (Nat.le_refl _))
    clear hv6 x0 x1 x2 x3
    go_wp2_with fail
    go_ret
    exact ⟨rfl, (unhide HBa).trans ((unhide HP).mono (unhide HBa).size)⟩
end Go.Proofs.Ytlbcmgphibeeiaa
