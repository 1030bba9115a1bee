/-
  The contract of package code's Check. By the verifier.
-/
import Derived.Test.YtpfogjplnodacaaKHall
import Derived.Test.YtpfogjplnodacaaKRead
set_option maxRecDepth 100000
set_option maxHeartbeats 3200000
namespace Go.Proofs.Ytpfogjplnodacaa
open Go.RowKit
set_option linter.unusedVariables false
theorem kCheck_any (si sf sz : Pg.Sl) (l : List Kd.I) (fs : List Int) (ss : List (List Int)) (w : World) (h : Kd.RCo w si sf sz l fs ss) :
  Calls Try.prog 7 #[.agg #[.slice si.ad si.len si.cap, .slice sf.ad sf.len sf.cap, .slice sz.ad sz.len sz.cap]] w fun r w' => r = .returned (.int .i64 (Kd.chk l fs ss : Nat)) ∧ Below w.heap.size w w' := by
 obtain ⟨D, hD⟩ : ∃ D, D = Kd.chk l fs ss := ⟨_, rfl⟩
 rw [← hD]
 obtain ⟨ia, il, ic⟩ := si
 dsimp only at *
 have hil : il = l.length := h.ins.len
 have hifew := h.ins.few
 rw [← hil] at hifew
 have hfl := h.fst.len
 have hffew := h.fst.few
 rw [← hfl] at hffew
 have hsl := h.szs.len
 have hsfew := h.szs.few
 rw [← hsl] at hsfew
 have hb0 := (Below.refl w.heap.size w).alloc (Nat.le_refl _) (Obj.cells #[.slice ia il ic, .slice sf.ad sf.len sf.cap, .slice sz.ad sz.len sz.cap] 26)
 have hx := heap_alloc_new w (Obj.cells #[.slice ia il ic, .slice sf.ad sf.len sf.cap, .slice sz.ad sz.len sz.cap] 26)
 have hlt : w.heap.size < (w.alloc (Obj.cells #[.slice ia il ic, .slice sf.ad sf.len sf.cap, .slice sz.ad sz.len sz.cap] 26)).heap.size := by simp
 have HCL := hide (show ∀ V : World, Below (w.alloc (Obj.cells #[.slice ia il ic, .slice sf.ad sf.len sf.cap, .slice sz.ad sz.len sz.cap] 26)).heap.size (w.alloc (Obj.cells #[.slice ia il ic, .slice sf.ad sf.len sf.cap, .slice sz.ad sz.len sz.cap] 26)) V → (V.cell? ⟨w.heap.size, 0, none⟩ = some (.slice ia il ic) ∧ V.cell? ⟨w.heap.size, 1, none⟩ = some (.slice sf.ad sf.len sf.cap) ∧ V.cell? ⟨w.heap.size, 2, none⟩ = some (.slice sz.ad sz.len sz.cap) ∧ Below w.heap.size w V ∧ Kd.RCo V ⟨ia, il, ic⟩ sf sz l fs ss) from fun V hV => by
  have hh := (hV.block w.heap.size hlt).trans hx
  have hbb := hb0.trans (hV.mono hb0.size)
  exact ⟨(cell_of_row V _ 0 _ _ _ hh).trans rfl, (cell_of_row V _ 1 _ _ _ hh).trans rfl, (cell_of_row V _ 2 _ _ _ hh).trans rfl, hbb, h.later hbb (Nat.le_refl _)⟩)
 have HD := hide (show D = if 3000 < il then 2 else if sz.len = 0 ∨ sf.len ≠ sz.len then 1 else if fs.any (Kd.noAt il) || ss.any (fun s => s.any Pg.noSize) then 3 else Pg.first (l.map (Kd.ck il sf.len)) by rw [hD, hil, hfl, hsl]; rfl)
 have HIL := hide hil
 clear hD h hb0 hx hil hfl hsl
 go_enter Try.func7, Try.ntmps7
 go_upto_region 1 with fail
 generalize w.alloc (Obj.cells #[.slice ia il ic, .slice sf.ad sf.len sf.cap, .slice sz.ad sz.len sz.cap] 26) = W1 at *
 obtain ⟨c0, c1, c2, hbw, hco⟩ := (unhide HCL) W1 (Below.refl _ _)
 have HBW := hide hbw
 have HCO := hide hco
 clear hbw hco
 by_cases h3 : 3000 < il
 · have HE := hide (show D = 2 by rw [unhide HD, if_pos h3])
   have g3 : (il : Int) > 3000 := by omega
   go_wp2_with fail
   go_ret
   exact ⟨ret_int (by rw [unhide HE]; rfl), unhide HBW⟩
 have g3 : ¬ (il : Int) > 3000 := by omega
 have HD2 := hide (show D = if sz.len = 0 ∨ sf.len ≠ sz.len then 1 else if fs.any (Kd.noAt il) || ss.any (fun s => s.any Pg.noSize) then 3 else Pg.first (l.map (Kd.ck il sf.len)) by rw [unhide HD, if_neg h3])
 by_cases hz : sz.len = 0 ∨ sf.len ≠ sz.len
 · have HE := hide (show D = 1 by rw [unhide HD2, if_pos hz])
   by_cases h0 : sz.len = 0
   · have b0 : ((sz.len : Int) == 0) = true := by simp; exact h0
     clear hz h0 HD HD2
     go_wp2_with fail
     go_ret
     exact ⟨ret_int (by rw [unhide HE]; rfl), unhide HBW⟩
   · have b0 : ((sz.len : Int) == 0) = false := by simp; exact h0
     have b1 : ((sf.len : Int) != (sz.len : Int)) = true := by simp; omega
     clear hz h0 HD HD2
     go_wp2_with fail
     go_ret
     exact ⟨ret_int (by rw [unhide HE]; rfl), unhide HBW⟩
 have b0 : ((sz.len : Int) == 0) = false := by simp; omega
 have b1 : ((sf.len : Int) != (sz.len : Int)) = false := by simp; omega
 have HD3 := hide (show D = if fs.any (Kd.noAt il) || ss.any (fun s => s.any Pg.noSize) then 3 else Pg.first (l.map (Kd.ck il sf.len)) by rw [unhide HD2, if_neg hz])
 have HHA := hide (hallA w.heap.size ⟨ia, il, ic⟩ sf fs W1 (unhide HCO).fst c0 hifew)
 have HHV := hide (fun V hV => hallV sz ss V ((unhide HCL) V hV).2.2.2.2.szs)
 clear hz h3 HD HD2
 generalize fs.any (Kd.noAt il) = A1 at *
 generalize ss.any (fun s => s.any Pg.noSize) = A2 at *
 go_wp2_with fail
 refine (unhide HHA).mono ?_
 rintro r w2 ⟨rfl, hb2⟩
 obtain ⟨d0, d1, d2, hbw2, hco2⟩ := (unhide HCL) w2 hb2
 have HBW2 := hide hbw2
 have HB2 := hide hb2
 clear hbw2 hco2 c0 c1 c2 hb2
 cases A1 with
 | true =>
  have HE := hide (show D = 3 by rw [unhide HD3]; rfl)
  go_wp2_with fail
  go_ret
  exact ⟨ret_int (by rw [unhide HE]; rfl), unhide HBW2⟩
 | false =>
  go_wp2_with fail
  refine ((unhide HHV) w2 (unhide HB2)).mono ?_
  rintro r w3 ⟨rfl, hb3⟩
  have hb13 := (unhide HB2).trans (hb3.mono (unhide HB2).size)
  obtain ⟨e0, e1, e2, hbw3, hco3⟩ := (unhide HCL) w3 hb13
  have HBW3 := hide hbw3
  have HB3 := hide hb13
  clear hbw3 hco3 d0 d1 d2 hb3 hb13
  cases A2 with
  | true =>
   have HE := hide (show D = 3 by rw [unhide HD3]; rfl)
   go_wp2_with fail
   go_ret
   exact ⟨ret_int (by rw [unhide HE]; rfl), unhide HBW3⟩
  | false =>
   have HE := hide (show D = Pg.first (l.map (Kd.ck il sf.len)) by rw [unhide HD3]; rfl)
   have HCI := hide (fun (x : Kd.I) (V : World) => checkInstr_any ⟨ia, il, ic⟩ sf sz x V hifew hffew)
   clear HD3
   go_wp2_with fail
   go_loopw [37] (fun iv wr => ∃ i : Nat, i ≤ il ∧ iv = .int .i64 i ∧ Hid (D = Pg.first ((l.drop i).map (Kd.ck il sf.len))) ∧ Below W1.heap.size W1 wr) (fun iv _ => il - (intOf iv).toNat)
   case atStart => exact ⟨0, Nat.zero_le _, rfl, by show _ = _; rw [List.drop_zero]; exact unhide HE, unhide HB3⟩
   case round =>
    obtain ⟨i, hi, rfl, hdd, hbe⟩ := hrel
    have HDD := hide (unhide hdd)
    obtain ⟨f0, f1, f2, hbw4, hco4⟩ := (unhide HCL) wr hbe
    have HBW4 := hide hbw4
    have HBE := hide hbe
    by_cases hlt2 : i < il
    · have hlt3 : i < l.length := by have := unhide HIL; omega
      have hy := List.getElem?_eq_getElem hlt3
      obtain ⟨b, o, had, hb, p0, p1, p2⟩ := hco4.ins.at_ i _ hy
      have HFD := hide (Pg.first_drop (Kd.ck il sf.len) l i _ hy)
      generalize l[i] = x at *
      have hal := (Below.refl wr.heap.size wr).alloc (Nat.le_refl _) (Obj.cells #[.int .i64 x.k, .int .i64 x.a, .int .i64 x.b] 55)
      have hb5 := hbe.trans (hal.mono hbe.size)
      obtain ⟨m0, m1, m2, hbw5, hco5⟩ := (unhide HCL) _ hb5
      have HB5 := hide hb5
      have HBW5 := hide hbw5
      have hi0' : (0 : Int) ≤ (i : Int) := by omega
      have hi1' : (i : Int) < (il : Int) := by omega
      have HCX := hide (show ∀ V : World, Calls Try.prog 22 #[.agg #[.slice ia il ic, .slice sf.ad sf.len sf.cap, .slice sz.ad sz.len sz.cap], .agg #[.int .i64 x.k, .int .i64 x.a, .int .i64 x.b]] V (fun r w' => r = .returned (.int .i64 (Kd.ck il sf.len x : Nat)) ∧ Below V.heap.size V w') from fun V => (unhide HCI) x V)
      generalize Kd.ck il sf.len x = K at *
      have had' : ia = some ⟨b, o, none⟩ := had
      clear hy hb hal hb5 hbw5 hco5 hco4 hbe hbw4 hdd hlt3 had
      subst had'
      go_wp2_with fail
      refine ((unhide HCX) _).mono ?_
      rintro r w6 ⟨rfl, hb6⟩
      have hb7 := (unhide HB5).trans (hb6.mono (unhide HB5).size)
      have HB7 := hide hb7
      have HBW7 := hide ((unhide HCL) w6 hb7).2.2.2.1
      clear hb6 hb7
      by_cases hK0 : K = 0
      · have HN := hide (show D = Pg.first ((l.drop (i + 1)).map (Kd.ck il sf.len)) by rw [unhide HDD, unhide HFD, if_pos hK0])
        subst hK0
        go_wp2_with fail
        exact ⟨⟨i + 1, by omega, by go_num, unhide HN, unhide HB7⟩, by simp [intOf]; omega⟩
      · have HN := hide (show D = K by rw [unhide HDD, unhide HFD, if_neg hK0])
        have bk : (((K : Nat) : Int) != 0) = true := by simp; exact hK0
        clear hK0
        go_wp2_with fail
        go_ret
        exact ⟨ret_int (by rw [unhide HN]), unhide HBW7⟩
    · have HN := hide (show D = 0 by rw [unhide HDD, List.drop_of_length_le (by have := unhide HIL; omega)]; rfl)
      have hi2 : ¬ (i : Int) < (il : Int) := by omega
      clear hbe hbw4 hco4 hdd
      go_wp2_with fail
      go_ret
      exact ⟨ret_int (by rw [unhide HN]; rfl), unhide HBW4⟩
end Go.Proofs.Ytpfogjplnodacaa
