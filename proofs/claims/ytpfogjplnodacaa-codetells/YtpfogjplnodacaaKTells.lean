/-
  The law CodeTells, walked. By the verifier.
-/
import Derived.Test.YtpfogjplnodacaaKBegun
set_option maxRecDepth 100000
set_option maxHeartbeats 3200000
namespace Go.Proofs.Ytpfogjplnodacaa
open Go.RowKit
set_option linter.unusedVariables false
theorem ctells_any {m n : Nat} (si sf sz : Pg.Sl) (l : List Kd.I) (is : List Int) (ss : List (List Int)) (fs : Pg.Sl) (p : List (Pg.FT m n)) (w : World) (hc : Kd.RCo w si sf sz l is ss) (hp : Pg.RP w m n fs p) (hpf : Pg.parFit p) :
  Calls Try.prog 3 #[.agg #[.slice si.ad si.len si.cap, .slice sf.ad sf.len sf.cap, .slice sz.ad sz.len sz.cap], .agg #[.slice fs.ad fs.len fs.cap]] w fun r w' => r = .returned (.bool true) ∧ Below w.heap.size w w' := by
 have hb0 : Below w.heap.size w ((w.alloc (Obj.cells #[.slice si.ad si.len si.cap, .slice sf.ad sf.len sf.cap, .slice sz.ad sz.len sz.cap] 26)).alloc (Obj.cells #[.slice fs.ad fs.len fs.cap] 29)) := ((Below.refl w.heap.size w).alloc (Nat.le_refl _) _).alloc (by simp) _
 have q0 : ((w.alloc (Obj.cells #[.slice si.ad si.len si.cap, .slice sf.ad sf.len sf.cap, .slice sz.ad sz.len sz.cap] 26)).alloc (Obj.cells #[.slice fs.ad fs.len fs.cap] 29)).cell? ⟨w.heap.size + 1, 0, none⟩ = some (.slice fs.ad fs.len fs.cap) := by go_simp
 have c0 : ((w.alloc (Obj.cells #[.slice si.ad si.len si.cap, .slice sf.ad sf.len sf.cap, .slice sz.ad sz.len sz.cap] 26)).alloc (Obj.cells #[.slice fs.ad fs.len fs.cap] 29)).cell? ⟨w.heap.size, 0, none⟩ = some (.slice si.ad si.len si.cap) := by go_simp
 have c1 : ((w.alloc (Obj.cells #[.slice si.ad si.len si.cap, .slice sf.ad sf.len sf.cap, .slice sz.ad sz.len sz.cap] 26)).alloc (Obj.cells #[.slice fs.ad fs.len fs.cap] 29)).cell? ⟨w.heap.size, 1, none⟩ = some (.slice sf.ad sf.len sf.cap) := by go_simp
 have c2 : ((w.alloc (Obj.cells #[.slice si.ad si.len si.cap, .slice sf.ad sf.len sf.cap, .slice sz.ad sz.len sz.cap] 26)).alloc (Obj.cells #[.slice fs.ad fs.len fs.cap] 29)).cell? ⟨w.heap.size, 2, none⟩ = some (.slice sz.ad sz.len sz.cap) := by go_simp
 have HCO := hide (Compile_any fs p _ (Pg.RP.later hp hb0 (Nat.le_refl _)) hpf)
 have HCP := hide (fun (V : World) (hV : Below w.heap.size w V) => CheckProgram_any fs p V (Pg.RP.later hp hV (Nat.le_refl _)))
 have HK7 := hide (fun (V : World) (hV : Below w.heap.size w V) => kCheck_any si sf sz l is ss V (hc.later hV (Nat.le_refl _)))
 have HK8 := hide (fun (V : World) (hV : Below w.heap.size w V) => CheckCode_any si sf sz l is ss V (hc.later hV (Nat.le_refl _)))
 have HKX := hide (fun (a b c : Pg.Sl) (V : World) (h0 : Pg.chkP p = 0) (h : Kd.RCo V a b c (Kd.ins p) (Kd.fst p) (Kd.szs p)) => show Calls Try.prog 8 #[.agg #[.slice a.ad a.len a.cap, .slice b.ad b.len b.cap, .slice c.ad c.len c.cap]] V (fun r w' => r = .returned (.int .i64 0) ∧ Below V.heap.size V w') from by
  have h1 := CheckCode_any a b c _ _ _ V h
  rw [(Kd.compiled h0).1] at h1
  exact h1)
 have HB0 := hide hb0
 generalize Kd.chk l is ss = K at *
 clear hc hp hpf hb0
 go_enter Try.func3, Try.ntmps3
 go_wp2_with fail
 generalize ((w.alloc (Obj.cells #[.slice si.ad si.len si.cap, .slice sf.ad sf.len sf.cap, .slice sz.ad sz.len sz.cap] 26)).alloc (Obj.cells #[.slice fs.ad fs.len fs.cap] 29)) = W1 at *
 refine (unhide HCO).mono ?_
 rintro r w2 ⟨xi, xf, xz, rfl, hco, hno, hb2⟩
 obtain ⟨ia, il, ic⟩ := xi
 obtain ⟨fa, fl, fc⟩ := xf
 obtain ⟨sa, sl, sc⟩ := xz
 unfold Kd.sv
 dsimp only
 have hal := (Below.refl w2.heap.size w2).alloc (Nat.le_refl _) (Obj.cells #[.slice ia il ic, .slice fa fl fc, .slice sa sl sc] 26)
 have hb3 := (unhide HB0).trans ((hb2.trans (hal.mono hb2.size)).mono (unhide HB0).size)
 have hb13 := hb2.trans (hal.mono hb2.size)
 have q3 := (hb13.cell (p := ⟨w.heap.size + 1, 0, none⟩) (World.block_lt_of_cell? _ _ q0)).trans q0
 have d0 := (hb13.cell (p := ⟨w.heap.size, 0, none⟩) (World.block_lt_of_cell? _ _ c0)).trans c0
 have d1 := (hb13.cell (p := ⟨w.heap.size, 1, none⟩) (World.block_lt_of_cell? _ _ c1)).trans c1
 have d2 := (hb13.cell (p := ⟨w.heap.size, 2, none⟩) (World.block_lt_of_cell? _ _ c2)).trans c2
 have hn := heap_alloc_new w2 (Obj.cells #[.slice ia il ic, .slice fa fl fc, .slice sa sl sc] 26)
 have hlt : w2.heap.size < (w2.alloc (Obj.cells #[.slice ia il ic, .slice fa fl fc, .slice sa sl sc] 26)).heap.size := by simp
 have HCX := hide (fun (h : Pg.chkP p = 0) (V : World) (hV : Below (w2.alloc (Obj.cells #[.slice ia il ic, .slice fa fl fc, .slice sa sl sc] 26)).heap.size (w2.alloc (Obj.cells #[.slice ia il ic, .slice fa fl fc, .slice sa sl sc] 26)) V) => (unhide HKX) ⟨ia, il, ic⟩ ⟨fa, fl, fc⟩ ⟨sa, sl, sc⟩ V h ((hco h).later (hal.trans (hV.mono hal.size)) (Nat.le_refl _)))
 have HNO := hide hno
 have HN := hide hn
 have HB3 := hide hb3
 clear hco hno hb2 hal hb3 hb13 hn HKX HCO q0 c0 c1 c2
 generalize Pg.chkP p = CP at *
 go_wp2_with fail
 generalize w2.alloc (Obj.cells #[.slice ia il ic, .slice fa fl fc, .slice sa sl sc] 26) = W3 at *
 refine ((unhide HCP) _ (unhide HB3)).mono ?_
 rintro r w4 ⟨rfl, hb4⟩
 have d0' := (hb4.cell (p := ⟨w.heap.size, 0, none⟩) (World.block_lt_of_cell? _ _ d0)).trans d0
 have d1' := (hb4.cell (p := ⟨w.heap.size, 1, none⟩) (World.block_lt_of_cell? _ _ d1)).trans d1
 have d2' := (hb4.cell (p := ⟨w.heap.size, 2, none⟩) (World.block_lt_of_cell? _ _ d2)).trans d2
 have HB4 := hide ((unhide HB3).trans (hb4.mono (unhide HB3).size))
 have HB34 := hide hb4
 clear hb4 d0 d1 d2 q3
 go_upto_region 3 with fail
 have HKP := hide (show ∀ V : World, Below w4.heap.size w4 V → ((V.cell? ⟨w.heap.size, 0, none⟩ = some (.slice si.ad si.len si.cap) ∧ V.cell? ⟨w.heap.size, 1, none⟩ = some (.slice sf.ad sf.len sf.cap) ∧ V.cell? ⟨w.heap.size, 2, none⟩ = some (.slice sz.ad sz.len sz.cap)) ∧ Below w4.heap.size w4 V) from fun V hV => ⟨⟨(hV.cell (p := ⟨w.heap.size, 0, none⟩) (World.block_lt_of_cell? _ _ d0')).trans d0', (hV.cell (p := ⟨w.heap.size, 1, none⟩) (World.block_lt_of_cell? _ _ d1')).trans d1', (hV.cell (p := ⟨w.heap.size, 2, none⟩) (World.block_lt_of_cell? _ _ d2')).trans d2'⟩, hV⟩)
 go_cut [28] (fun v V => v = .bool false ∧ Below w4.heap.size w4 V)
 case first =>
  go_region_held3 (fun V => V.cell? ⟨w.heap.size, 0, none⟩ = some (.slice si.ad si.len si.cap) ∧ V.cell? ⟨w.heap.size, 1, none⟩ = some (.slice sf.ad sf.len sf.cap) ∧ V.cell? ⟨w.heap.size, 2, none⟩ = some (.slice sz.ad sz.len sz.cap)) (first | assumption | exact ((unhide HKP) _ ((Below.refl _ _).drew)).1 | exact ((unhide HKP) _ (unhide HB8)).1 | exact ((unhide HKP) _ (unhide HB7)).1 | exact ((unhide HKP) _ (unhide HB6)).1)
   (first
    | (go_at_call 6; refine (codeBegun_any _).mono ?_; rintro r w6 ⟨rfl, hb6⟩; have HB6 := hide (show Below w4.heap.size w4 w6 from ((Below.refl w4.heap.size w4).drew).trans (hb6.mono (Nat.le_refl _))); clear hb6)
    | (go_at_call 7; refine ((unhide HK7) w6 ((unhide HB4).trans ((unhide HB6).mono (unhide HB4).size))).mono ?_; rintro r w7 ⟨rfl, hb7⟩; have HB7 := hide ((unhide HB6).trans (hb7.mono (unhide HB6).size)); clear hb7)
    | (go_at_call 8; refine ((unhide HK8) w7 ((unhide HB4).trans ((unhide HB7).mono (unhide HB4).size))).mono ?_; rintro r w8 ⟨rfl, hb8⟩; have HB8 := hide ((unhide HB7).trans (hb8.mono (unhide HB7).size)); clear hb8))
  all_goals
   go_wp2_with fail
   go_meet
   case rel => exact ⟨rfl, unhide HB8⟩
 case rest =>
  rename World => w9
  obtain ⟨rfl, hb9⟩ := hcut
  have hb39 := (unhide HB34).trans (hb9.mono (unhide HB34).size)
  have hn9 := (hb39.block w2.heap.size hlt).trans (unhide HN)
  have u0 := (cell_of_row w9 w2.heap.size 0 _ _ _ hn9).trans rfl
  have u1 := (cell_of_row w9 w2.heap.size 1 _ _ _ hn9).trans rfl
  have u2 := (cell_of_row w9 w2.heap.size 2 _ _ _ hn9).trans rfl
  have HB9 := hide ((unhide HB4).trans (hb9.mono (unhide HB4).size))
  have HB39 := hide hb39
  clear hb9 hb39 hn9
  by_cases h0 : CP = 0
  · have HX := hide ((unhide HCX) h0 w9 (unhide HB39))
    subst h0
    go_wp2_with fail
    refine (unhide HX).mono ?_
    rintro r w10 ⟨rfl, hb10⟩
    have HB10 := hide ((unhide HB9).trans (hb10.mono (unhide HB9).size))
    clear hb10
    go_wp2_with fail
    go_ret
    exact ⟨rfl, unhide HB10⟩
  · obtain ⟨e1, e2, e3⟩ := (unhide HNO) h0
    cases e1
    cases e2
    cases e3
    have b0 : (((CP : Nat) : Int) != 0) = true := by simp; exact h0
    clear h0
    go_wp2_with fail
    go_ret
    exact ⟨rfl, unhide HB9⟩
end Go.Proofs.Ytpfogjplnodacaa
