/-
  stateBegun of the laws. By the verifier.
-/
import Derived.Test.YtildjlaphkjegaaXHi
import Derived.Test.YtildjlaphkjegaaXAtF
namespace Go.Proofs.Ytildjlaphkjegaa
open Go.RowKit
set_option linter.unusedVariables false

def Xr.fr7 : List Xr.Fr := [⟨0, 0, [[7]]⟩]
def Xr.vl7 : List Xr.Vl := [⟨2, 0, 0, 7⟩]
def Xr.sp7 : List Xr.Sp := [⟨0, 0, -1, 0, 5, 0⟩]
theorem Xr.small_hiE : Xr.hiE Xr.small Xr.tr 0 0 = 0 := by kernel_rfl
theorem Xr.small_hi : Xr.hiAll Xr.small Xr.tr 0 0 = Xr.vl7 := by kernel_rfl
theorem Xr.small_sp : Xr.spAll Xr.small Xr.tr = Xr.sp7 := by kernel_rfl
theorem Xr.tr_w : ∀ e ∈ Xr.tr, Xr.evW e := by
  intro e he
  simp only [Xr.tr, List.mem_cons, List.not_mem_nil, or_false] at he
  rcases he with rfl | rfl | rfl | rfl | rfl | rfl <;> exact ⟨rfl, rfl, rfl, rfl, rfl, rfl⟩

set_option maxRecDepth 100000 in
set_option maxHeartbeats 3200000 in
theorem stateBegun_any (w : World) :
    Calls Try.prog 10 #[] w fun r w' => r = .returned (.bool true) ∧ Below w.heap.size w w' := by
  have HSM := hide small_any
  have HST := hide xsmallTrace_any
  have HAT := hide (fun (V : World) (g b : Nat) (hp : Pg.RP V 1 1 ⟨some ⟨g, 0, none⟩, 1, 1⟩ Xr.small) (hr : Cl.RE V (some ⟨b, 0, none⟩) Xr.tr) => show Calls Try.prog 11 #[.agg #[.slice (some ⟨g, 0, none⟩) 1 1], .slice (some ⟨b, 0, none⟩) 6 6, .int .i64 3] V fun r w' => ∃ a c, r = .returned (.tuple #[.slice a 1 c, .int .i64 0]) ∧ Xr.RFr w' ⟨a, 1, c⟩ Xr.fr7 ∧ Below V.heap.size V w' from by
    have h1 := At_any (some ⟨g, 0, none⟩) 1 1 Xr.small Xr.tr (some ⟨b, 0, none⟩) 6 3 V hp Xr.small_fit hr (by show 6 ≤ 35184372088832; omega) (Nat.le_refl _)
    rw [Xr.small_atE] at h1
    refine h1.mono ?_
    rintro r w' ⟨a, nf, c, rfl, h2, h3⟩
    obtain ⟨ms, e1, e2, e3⟩ := h2.yes Xr.small_atE
    have e4 : ms.map Prod.fst = Xr.fr7 := e3.trans Xr.small_at
    have e5 : nf = 1 := by rw [← e2, ← List.length_map (f := Prod.fst), e4]; rfl
    subst e5
    exact ⟨a, c, rfl, by rw [← e4]; exact e1.rd e2 (by omega), h3⟩)
  have HHI := hide (fun (V : World) (g b : Nat) (hp : Pg.RP V 1 1 ⟨some ⟨g, 0, none⟩, 1, 1⟩ Xr.small) (hr : Cl.RE V (some ⟨b, 0, none⟩) Xr.tr) => show Calls Try.prog 12 #[.agg #[.slice (some ⟨g, 0, none⟩) 1 1], .slice (some ⟨b, 0, none⟩) 6 6, .int .i64 0, .int .i64 0] V fun r w' => ∃ a c, r = .returned (.tuple #[.slice a 1 c, .int .i64 0]) ∧ Xr.RVl w' a Xr.vl7 ∧ Below V.heap.size V w' from by
    have h1 := History_any (some ⟨g, 0, none⟩) 1 1 Xr.small Xr.tr (some ⟨b, 0, none⟩) 6 0 0 V hp Xr.small_fit hr (by show 6 ≤ 35184372088832; omega) Xr.tr_w
    rw [Xr.small_hiE] at h1
    refine h1.mono ?_
    rintro r w' ⟨a, nf, c, rfl, h2, h3⟩
    obtain ⟨e1, e2⟩ := h2.yes Xr.small_hiE
    rw [Xr.small_hi] at e1 e2
    have e5 : nf = 1 := e1
    subst e5
    exact ⟨a, c, rfl, Xr.RVl.own rfl e2, h3⟩)
  have HCA := hide (fun (V : World) (g b : Nat) (hp : Pg.RP V 1 1 ⟨some ⟨g, 0, none⟩, 1, 1⟩ Xr.small) (hr : Cl.RE V (some ⟨b, 0, none⟩) Xr.tr) => show Calls Try.prog 14 #[.agg #[.slice (some ⟨g, 0, none⟩) 1 1], .slice (some ⟨b, 0, none⟩) 6 6] V fun r w' => ∃ a c, r = .returned (.tuple #[.slice a 1 c, .int .i64 0]) ∧ Xr.RSp w' a Xr.sp7 ∧ Below V.heap.size V w' from by
    have h1 := Calls_any (some ⟨g, 0, none⟩) 1 1 Xr.small Xr.tr (some ⟨b, 0, none⟩) 6 V hp Xr.small_fit hr (by show 6 ≤ 35184372088832; omega) Xr.tr_w
    rw [Xr.small_st] at h1
    refine h1.mono ?_
    rintro r w' ⟨a, nf, c, rfl, h2, h3⟩
    obtain ⟨e1, e2⟩ := h2.yes Xr.small_st
    rw [Xr.small_sp] at e1 e2
    have e5 : nf = 1 := e1
    subst e5
    exact ⟨a, c, rfl, Xr.RSp.own rfl e2, h3⟩)
  have HSF := hide (fun (V : World) (a b : Option Addr) (c d : Nat) (hr : Xr.RFr V ⟨a, 1, c⟩ Xr.fr7) (hr2 : Xr.RFr V ⟨b, 1, d⟩ Xr.fr7) => show Calls Try.prog 30 #[.slice a 1 c, .slice b 1 d] V fun e w' => e = .returned (.bool true) ∧ Below V.heap.size V w' from SameFrames_eq Xr.fr7 ⟨a, 1, c⟩ ⟨b, 1, d⟩ V hr hr2)
  have HSV := hide (fun (V : World) (a b : Option Addr) (c d : Nat) (hr : Xr.RVl V a Xr.vl7) (hr2 : Xr.RVl V b Xr.vl7) => show Calls Try.prog 31 #[.slice a 1 c, .slice b 1 d] V fun e w' => e = .returned (.bool true) ∧ Below V.heap.size V w' from SameValues_eq Xr.vl7 a b c d V hr hr2 (by show 1 ≤ 35184372088832; omega))
  have HSS := hide (fun (V : World) (a b : Option Addr) (c d : Nat) (hr : Xr.RSp V a Xr.sp7) (hr2 : Xr.RSp V b Xr.sp7) => show Calls Try.prog 32 #[.slice a 1 c, .slice b 1 d] V fun e w' => e = .returned (.bool true) ∧ Below V.heap.size V w' from SameSpans_eq Xr.sp7 a b c d V hr hr2 (by show 1 ≤ 35184372088832; omega))
  go_enter Try.func10, Try.ntmps10
  go_wp2_with fail
  refine ((unhide HSM) _).mono ?_
  rintro r w1 ⟨g1, rfl, hp1, hb1⟩
  have HB1 := hide hb1
  have HP1 := hide hp1
  clear hb1 hp1
  go_wp2_with fail
  refine ((unhide HST) _).mono ?_
  rintro r w2 ⟨g2, rfl, _, hs2, hb2⟩
  have HB2 := hide ((unhide HB1).trans (hb2.mono (unhide HB1).size))
  have HA2 := hide ((unhide HAT) w2 g1 g2 (Pg.RP.later (unhide HP1) hb2 (Nat.le_refl _)) hs2)
  clear hb2 hs2 HB1 HP1
  go_wp2_with fail
  refine (unhide HA2).mono ?_
  rintro r w3 ⟨a3, c3, rfl, hr3, hb3⟩
  have HB3 := hide ((unhide HB2).trans (hb3.mono (unhide HB2).size))
  have HR3 := hide hr3
  clear hb3 hr3 HB2 HA2
  go_wp2_with fail
  refine ((unhide HSM) _).mono ?_
  rintro r w4 ⟨g4, rfl, hp4, hb4⟩
  have HB4 := hide ((unhide HB3).trans (hb4.mono (unhide HB3).size))
  have HR4 := hide ((unhide HR3).later hb4 (Nat.le_refl _))
  have HP4 := hide hp4
  clear hb4 hp4 HB3 HR3
  go_wp2_with fail
  refine ((unhide HST) _).mono ?_
  rintro r w5 ⟨g5, rfl, _, hs5, hb5⟩
  have HB5 := hide ((unhide HB4).trans (hb5.mono (unhide HB4).size))
  have HR5 := hide ((unhide HR4).later hb5 (Nat.le_refl _))
  have HH5 := hide ((unhide HHI) w5 g4 g5 (Pg.RP.later (unhide HP4) hb5 (Nat.le_refl _)) hs5)
  clear hb5 hs5 HB4 HR4 HP4
  go_wp2_with fail
  refine (unhide HH5).mono ?_
  rintro r w6 ⟨a6, c6, rfl, hr6, hb6⟩
  have HB6 := hide ((unhide HB5).trans (hb6.mono (unhide HB5).size))
  have HR6 := hide ((unhide HR5).later hb6 (Nat.le_refl _))
  have HV6 := hide hr6
  clear hb6 hr6 HB5 HR5 HH5
  go_wp2_with fail
  refine ((unhide HSM) _).mono ?_
  rintro r w7 ⟨g7, rfl, hp7, hb7⟩
  have HB7 := hide ((unhide HB6).trans (hb7.mono (unhide HB6).size))
  have HR7 := hide ((unhide HR6).later hb7 (Nat.le_refl _))
  have HV7 := hide ((unhide HV6).later hb7 (Nat.le_refl _))
  have HP7 := hide hp7
  clear hb7 hp7 HB6 HR6 HV6
  go_wp2_with fail
  refine ((unhide HST) _).mono ?_
  rintro r w8 ⟨g8, rfl, _, hs8, hb8⟩
  have HB8 := hide ((unhide HB7).trans (hb8.mono (unhide HB7).size))
  have HR8 := hide ((unhide HR7).later hb8 (Nat.le_refl _))
  have HV8 := hide ((unhide HV7).later hb8 (Nat.le_refl _))
  have HC8 := hide ((unhide HCA) w8 g7 g8 (Pg.RP.later (unhide HP7) hb8 (Nat.le_refl _)) hs8)
  clear hb8 hs8 HB7 HR7 HV7 HP7
  go_wp2_with fail
  refine (unhide HC8).mono ?_
  rintro r w9 ⟨a9, c9, rfl, hr9, hb9⟩
  have HB9 := hide ((unhide HB8).trans (hb9.mono (unhide HB8).size))
  have HR9 := hide ((unhide HR8).later hb9 (Nat.le_refl _))
  have HV9 := hide ((unhide HV8).later hb9 (Nat.le_refl _))
  have HS9 := hide hr9
  clear hb9 hr9 HB8 HR8 HV8 HC8
  have hba := (((Below.refl w9.heap.size w9).alloc (Nat.le_refl _) (Obj.cells #[.int .i64 7] 3)).alloc (by simp) (Obj.cells #[.slice (some ⟨w9.heap.size, 0, none⟩) 1 1] 46)).alloc (by simp; omega) (Obj.cells #[.int .i64 0, .int .i64 0, .slice (some ⟨w9.heap.size + 1, 0, none⟩) 1 1] 45)
  have HFA := hide ((unhide HSF) (((w9.alloc (Obj.cells #[.int .i64 7] 3)).alloc (Obj.cells #[.slice (some ⟨w9.heap.size, 0, none⟩) 1 1] 46)).alloc (Obj.cells #[.int .i64 0, .int .i64 0, .slice (some ⟨w9.heap.size + 1, 0, none⟩) 1 1] 45)) a3 (some ⟨w9.heap.size + 1 + 1, 0, none⟩) c3 1 ((unhide HR9).later hba (Nat.le_refl _)) ⟨rfl, by show 1 ≤ 35184372088832; omega, fun i fr hi => by
    match i, hi with
    | 0, hi =>
      cases hi
      exact ⟨w9.heap.size + 1 + 1, 0, ⟨some ⟨w9.heap.size + 1, 0, none⟩, 1, 1⟩, rfl, by simp, by go_simp, by go_simp, by go_simp, ⟨rfl, Nat.le_refl _, by show 1 ≤ 35184372088832; omega, fun k z hz => by
        match k, hz with
        | 0, hz =>
          cases hz
          exact ⟨w9.heap.size + 1, 0, ⟨some ⟨w9.heap.size, 0, none⟩, 1, 1⟩, rfl, by simp <;> omega, by go_simp, ⟨rfl, Nat.le_refl _, by show 1 ≤ 35184372088832; omega, fun j y hy => by
            match j, hy with
            | 0, hy => cases hy; exact ⟨w9.heap.size, 0, rfl, by simp <;> omega, by go_simp⟩
            | _ + 1, hy => simp at hy⟩⟩
        | _ + 1, hz => simp at hz⟩⟩
    | _ + 1, hi => simp [Xr.fr7] at hi⟩)
  have HBa := hide ((unhide HB9).trans (hba.mono (unhide HB9).size))
  have HVa := hide ((unhide HV9).later hba (Nat.le_refl _))
  have HSa := hide ((unhide HS9).later hba (Nat.le_refl _))
  clear hba HB9 HR9 HV9 HS9
  go_wp2_with fail
  generalize ((w9.alloc (Obj.cells #[.int .i64 7] 3)).alloc (Obj.cells #[.slice (some ⟨w9.heap.size, 0, none⟩) 1 1] 46)).alloc (Obj.cells #[.int .i64 0, .int .i64 0, .slice (some ⟨w9.heap.size + 1, 0, none⟩) 1 1] 45) = Wa at *
  refine (unhide HFA).mono ?_
  rintro r wb ⟨rfl, hbb⟩
  have hbc := (Below.refl wb.heap.size wb).alloc (Nat.le_refl _) (Obj.cells #[.int .i64 2, .int .i64 0, .int .i64 0, .int .i64 7] 48)
  have HBb := hide (((unhide HBa).trans (hbb.mono (unhide HBa).size)).trans (hbc.mono ((unhide HBa).trans (hbb.mono (unhide HBa).size)).size))
  have HVb := hide ((unhide HSV) (wb.alloc (Obj.cells #[.int .i64 2, .int .i64 0, .int .i64 0, .int .i64 7] 48)) a6 (some ⟨wb.heap.size, 0, none⟩) c6 1 (((unhide HVa).later hbb (Nat.le_refl _)).later hbc (Nat.le_refl _)) ⟨fun i x hi => by
    match i, hi with
    | 0, hi => cases hi; exact ⟨wb.heap.size, 0, rfl, by simp, by go_simp, by go_simp, by go_simp, by go_simp⟩
    | _ + 1, hi => simp [Xr.vl7] at hi⟩)
  have HSb := hide (((unhide HSa).later hbb (Nat.le_refl _)).later hbc (Nat.le_refl _))
  clear hbb hbc HBa HVa HSa HFA
  go_wp2_with fail
  generalize wb.alloc (Obj.cells #[.int .i64 2, .int .i64 0, .int .i64 0, .int .i64 7] 48) = Wb at *
  refine (unhide HVb).mono ?_
  rintro r wc ⟨rfl, hbd⟩
  have hbe := (Below.refl wc.heap.size wc).alloc (Nat.le_refl _) (Obj.cells #[.int .i64 0, .int .i64 0, .int .i64 (-1), .int .i64 0, .int .i64 5, .int .i64 0] 55)
  have HBc := hide (((unhide HBb).trans (hbd.mono (unhide HBb).size)).trans (hbe.mono ((unhide HBb).trans (hbd.mono (unhide HBb).size)).size))
  have HSc := hide ((unhide HSS) (wc.alloc (Obj.cells #[.int .i64 0, .int .i64 0, .int .i64 (-1), .int .i64 0, .int .i64 5, .int .i64 0] 55)) a9 (some ⟨wc.heap.size, 0, none⟩) c9 1 (((unhide HSb).later hbd (Nat.le_refl _)).later hbe (Nat.le_refl _)) ⟨fun i x hi => by
    match i, hi with
    | 0, hi => cases hi; exact ⟨wc.heap.size, 0, rfl, by simp, by go_simp, by go_simp, by go_simp, by go_simp, by go_simp, by go_simp⟩
    | _ + 1, hi => simp [Xr.sp7] at hi⟩)
  clear hbd hbe HBb HVb HSb
  go_wp2_with fail
  generalize wc.alloc (Obj.cells #[.int .i64 0, .int .i64 0, .int .i64 (-1), .int .i64 0, .int .i64 5, .int .i64 0] 55) = Wc at *
  refine (unhide HSc).mono ?_
  rintro r wd ⟨rfl, hbf⟩
  have HBd := hide ((unhide HBc).trans (hbf.mono (unhide HBc).size))
  clear hbf HBc HSc
  go_wp2_with fail
  go_ret
  exact ⟨rfl, unhide HBd⟩
end Go.Proofs.Ytildjlaphkjegaa
