/-
  SS1, SS2, SS3. By the verifier.
-/
import Derived.Test.YtfccpddehpgfoaaGreatDoorYB
import Derived.Test.YtfccpddehpgfoaaGreatDoorYG
import Derived.Test.YtfccpddehpgfoaaGreatDoorXE
import Derived.Test.YtfccpddehpgfoaaGreatDoorUL
import Derived.Test.YtfccpddehpgfoaaGreatDoorTArg
set_option maxRecDepth 100000
set_option maxHeartbeats 800000
namespace Go.Proofs.YtfccpddehpgfoaaGreatDoor
open Go.RowKit
set_option linter.unusedVariables false
def Tt.tx {m n : Nat} : List (Tk.FT m n) → List UInt8
 | [] => []
 | [z] => Tt.fb true z
 | x :: y :: r => Tt.fb false x ++ Tt.tx (y :: r)
theorem Tt.tx_app {m n : Nat} (z : Tk.FT m n) : ∀ (l : List (Tk.FT m n)), Tt.tx (l ++ [z]) = l.flatMap (Tt.fb false) ++ Tt.fb true z
 | [] => rfl
 | [x] => by
  show Tt.fb false x ++ Tt.fb true z = _
  simp
 | x :: y :: r => by
  have ih := Tt.tx_app z (y :: r)
  show Tt.fb false x ++ Tt.tx ((y :: r) ++ [z]) = _
  rw [ih, List.flatMap_cons (x := x), List.append_assoc]
theorem Tt.well_app {m n : Nat} (z : Tk.FT m n) : ∀ (l : List (Tk.FT m n)), Tk.wellL (l ++ [z]) = true → (∀ x ∈ l, Tk.funB x false = true) ∧ Tk.funB z true = true
 | [], h => by
  have h : (Tk.funB z true && true) = true := h
  rw [Bool.and_true] at h
  exact ⟨fun x hx => absurd hx List.not_mem_nil, h⟩
 | x :: r, h => by
  have h : (Tk.funB x (r ++ [z]).isEmpty && Tk.wellL (r ++ [z])) = true := h
  rw [Bool.and_eq_true] at h
  obtain ⟨h1, h2⟩ := h
  obtain ⟨i1, i2⟩ := Tt.well_app z r h2
  have e : (r ++ [z]).isEmpty = false := by cases r <;> rfl
  rw [e] at h1
  refine ⟨fun y hy => ?_, i2⟩
  rcases List.mem_cons.1 hy with rfl | hy
  · exact h1
  · exact i1 y hy
theorem Tt.cs_of {m n : Nat} (f : Tk.FT m n) (b : Bool) (hb : Tk.funB f b = true) : (∀ y ∈ f.cs, Tk.cmdB n y = true) ∧ f.nm.size ≤ 12 ∧ Tk.exprFit m f.re (!b) = true := by
 unfold Tk.funB at hb
 simp only [Bool.and_eq_true] at hb
 exact ⟨List.all_eq_true.1 hb.1.2, Tk.fits_size _ _ hb.1.1.2, hb.2⟩
theorem Tt.fb_nil {m n : Nat} (b : Bool) (x : Tk.FT m n) : Tt.fb b x ≠ [] := by
 intro h
 have h := congrArg List.length h
 unfold Tt.fb at h
 split at h
 · unfold Pr.main at h
   simp only [List.length_append, Sp.ln_len, List.length_nil] at h
   omega
 · unfold Pr.func at h
   simp only [List.length_append, Sp.ln_len, List.length_nil] at h
   omega
structure Tt.Ok {m n : Nat} (l : List (Tk.FT m n)) (z : Tk.FT m n) : Prop where
 fok : ∀ x ∈ l ++ [z], Pr.fok x ∧ ∀ y ∈ x.cs, Tk.cmdB n y = true
 re : ∀ x ∈ l, Pr.eok Pr.NK x.re
 len : (l.flatMap (Tt.fb false)).length + (Tt.fb true z).length ≤ 1000000
 ne : l.flatMap (Tt.fb false) ++ Tt.fb true z ≠ []
theorem Tt.ok_of {m n : Nat} (l : List (Tk.FT m n)) (h : Tk.chkT l = 0) : ∃ r z, l = r ++ [z] ∧ Tt.Ok r z := by
 unfold Tk.chkT at h
 have hmu : Tk.much l = false := by
  cases hm : Tk.much l
  · rfl
  · rw [hm, if_pos rfl] at h
    cases h
 rw [hmu, if_neg (by decide)] at h
 have hw : (Tk.wellL l && decide (0 < l.length)) = true := by
  cases hm : (Tk.wellL l && decide (0 < l.length))
  · rw [hm, if_neg (by decide)] at h
    cases h
  · rfl
 rw [Bool.and_eq_true, decide_eq_true_eq] at hw
 obtain ⟨hw, hpos⟩ := hw
 have hne : l ≠ [] := by intro e; rw [e, List.length_nil] at hpos; omega
 have hsp : l = l.dropLast ++ [l.getLast hne] := (List.dropLast_concat_getLast hne).symm
 generalize l.dropLast = r at *
 generalize l.getLast hne = z at *
 subst hsp
 refine ⟨r, z, rfl, ?_⟩
 unfold Tk.much at hmu
 rw [Bool.or_eq_false_iff, decide_eq_false_iff_not] at hmu
 obtain ⟨hm1, hm2⟩ := hmu
 obtain ⟨hf, hz⟩ := Tt.well_app z r hw
 have hmu := Pr.much_of (r ++ [z]) 40 hm2
 have hfun : ∀ x ∈ r ++ [z], ∃ b, Tk.funB x b = true := fun x hx => by
  rcases List.mem_append.1 hx with hx | hx
  · exact ⟨_, hf x hx⟩
  · have := List.mem_singleton.1 hx
    subst this
    exact ⟨_, hz⟩
 have hfok : ∀ x ∈ r ++ [z], Pr.fok x ∧ ∀ y ∈ x.cs, Tk.cmdB n y = true := fun x hx => by
  obtain ⟨b, hb⟩ := hfun x hx
  exact ⟨Pr.fok_of x b hb (hmu x hx), (Tt.cs_of x b hb).1⟩
 have hre : ∀ x ∈ r, Pr.eok Pr.NK x.re := fun x hx => by
  have h1 := (Tt.cs_of x false (hf x hx)).2.2
  exact ⟨Pr.ok_of m x.re h1, (hmu x (List.mem_append_left _ hx)).2.2.1⟩
 refine ⟨hfok, hre, ?_, fun h => ?_⟩
 · have ht := Pr.tot_len Qd.nk_size (r ++ [z]) 40 (by decide) hm2 hw
   have e : Pr.tot Qd.num (r ++ [z]) = (r.map (fun x => 20000 + (x.cs.flatMap (Pr.cmd Qd.num n 2)).length)).sum + (20000 + (z.cs.flatMap (Pr.cmd Qd.num n 2)).length) := by
    unfold Pr.tot
    rw [List.map_append, List.sum_append]
    simp
   have hzl := Pr.main_len Qd.nk_size (Pr.cmd Qd.num n 2) z (hfok z (by simp)).1 (hmu z (by simp)).2.1
   have hrl : ∀ (u : List (Tk.FT m n)), (∀ x ∈ u, x ∈ r) → (u.flatMap (Tt.fb false)).length ≤ (u.map (fun x => 20000 + (x.cs.flatMap (Pr.cmd Qd.num n 2)).length)).sum := by
    intro u
    induction u with
    | nil => intro _; exact Nat.zero_le _
    | cons x u ih =>
     intro hu
     have hx := hu x (by simp)
     have h1 := ih (fun y hy => hu y (List.mem_cons_of_mem _ hy))
     have hm := hmu x (List.mem_append_left _ hx)
     have h2 := Pr.func_len Qd.nk_size (Pr.cmd Qd.num n 2) x (hfok x (List.mem_append_left _ hx)).1 hm.2.1 hm.1 (Tt.cs_of x false (hf x hx)).2.1 (hre x hx)
     have h3 : (Tt.fb false x).length ≤ 20000 + (x.cs.flatMap (Pr.cmd Qd.num n 2)).length := h2
     rw [List.flatMap_cons, List.length_append, List.map_cons, List.sum_cons]
     omega
   have h1 := hrl r (fun _ h => h)
   have h2 : (Tt.fb true z).length ≤ 20000 + (z.cs.flatMap (Pr.cmd Qd.num n 2)).length := hzl
   have h3 : (r ++ [z]).length ≤ 6 := by omega
   omega
 · have := congrArg List.length h
   have h2 : (Tt.fb true z).length ≠ 0 := fun e => Tt.fb_nil true z (List.eq_nil_of_length_eq_zero e)
   rw [List.length_append, List.length_nil] at this
   omega
end Go.Proofs.YtfccpddehpgfoaaGreatDoor
namespace Go.Proofs.YtfccpddehpgfoaaGreatDoor
open Go.RowKit
set_option linter.unusedVariables false
theorem show_ok {m n : Nat} (s : Tk.Sl) (l : List (Tk.FT m n)) (z : Tk.FT m n) (w : World) (hs : Tk.RT w m n s (l ++ [z])) (hcap : s.len ≤ s.cap) (hk0 : Tk.chkT (l ++ [z]) = 0) (hok : Tt.Ok l z) (htab : Qd.tab w) :
  Calls Tryz.prog 17 #[.agg #[.slice s.ad s.len s.cap]] w fun r w' => r = .returned (.tuple #[.string (Pr.by (l.flatMap (Tt.fb false) ++ Tt.fb true z)), .int .i64 0]) ∧ Below w.heap.size w w' := by
 have hbA := (Below.refl w.heap.size w).alloc (Nat.le_refl _) (Obj.cells #[.slice s.ad s.len s.cap] 24)
 have hsA : (w.alloc (Obj.cells #[.slice s.ad s.len s.cap] 24)).heap.size = w.heap.size + 1 := by simp
 have hbx : (w.alloc (Obj.cells #[.slice s.ad s.len s.cap] 24)).cell? ⟨w.heap.size, 0, none⟩ = some (.slice s.ad s.len s.cap) := by simp
 have HC := hide (tCheck_any s (l ++ [z]) _ (Tk.RT.later hs hbA (Nat.le_refl _)))
 rw [hk0] at HC
 have HTB := hide htab
 have HOK := hide hok
 clear hk0 htab hok
 have HS := hide hs
 have HBA := hide hbA
 clear hbA hs
 go_enter Tryz.func17, Tryz.ntmps17
 go_upto_region 1 with fail
 generalize (w.alloc (Obj.cells #[.slice s.ad s.len s.cap] 24)) = wa at *
 go_wp2_with fail
 refine (unhide HC).mono ?_
 rintro r w0 ⟨rfl, hb1⟩
 have hs1 := hb1.size
 have hb2 := (unhide HBA).trans (hb1.mono (by omega))
 have hbx1 : w0.cell? ⟨w.heap.size, 0, none⟩ = some (.slice s.ad s.len s.cap) := (hb1.cell (p := ⟨w.heap.size, 0, none⟩) (by show w.heap.size < _; omega)).trans hbx
 have hs0 : Tk.RT w0 m n s (l ++ [z]) := Tk.RT.later (unhide HS) hb2 (Nat.le_refl _)
 have hbP := (Below.refl w0.heap.size w0).alloc (Nat.le_refl _) (Obj.cells #[.pointer none, .slice none 0 0, .int .i64 0] 74)
 have hsP : (w0.alloc (Obj.cells #[.pointer none, .slice none 0 0, .int .i64 0] 74)).heap.size = w0.heap.size + 1 := by simp
 have hbk : (w0.alloc (Obj.cells #[.pointer none, .slice none 0 0, .int .i64 0] 74)).heap[w0.heap.size]? = some (.cells #[.pointer none, .slice none 0 0, .int .i64 0] 74 (0, 0)) := heap_alloc_new w0 _
 have hP : Sp.P w0.heap.size (w0.alloc (Obj.cells #[.pointer none, .slice none 0 0, .int .i64 0] 74)) w0.heap.size (.slice none 0 0) (Lib.byteCells []) ((0 : Nat) : Int) :=
  ⟨.inl (Sp.box_cell hbk 0 _ rfl), Sp.box_cell hbk 1 _ rfl, Sp.box_cell hbk 2 _ rfl, fun j => by simp, by unfold World.shape?; rw [hbk]; rfl, World.ownsRow_nil _ _ _ _, (by intro h; cases h), Nat.le_refl _⟩
 have hok := unhide HOK
 have I : Pr.It w0.heap.size w0 Qd.num Pr.NK := ⟨Nat.le_refl _, fun i W hi hW => Itoa_any i (by have := hi.1; omega) (by have := hi.2; omega) W (Qd.tab_later (Qd.tab_later (unhide HTB) hb2) hW), Qd.nk_size⟩
 have hcmds : ∀ x ∈ l ++ [z], Sp.Cmds w0 w0.heap.size (0 + 2) (Pr.cmd Qd.num n 2) x.cs := fun x hx y hy q v bs W hq hp hl hW => showCmd_any I w0.heap.size n 5 2 y ((hok.fok x hx).1.cs y hy) (by omega) q v bs W hq hp hl hW
 have hlens := hok.len
 have HT := hide (showTree_of (Tt.fb false) (Tt.fb true) s l z hs0 hcap w0.heap.size 0
  (fun x hx q v bs W hq hp hl hW => by
   have hx2 := List.mem_append_left [z] hx
   have hf := (hok.fok x hx2).1
   exact showFunction_any I (Pr.cmd Qd.num n 2) q x hq hf.vs hf.vl (hok.re x hx) hf.ps w0.heap.size 0 (by omega) (hcmds x hx2) v bs W hp hl hW)
  (fun q v bs W hq hp hl hW => by
   have hx2 : z ∈ l ++ [z] := by simp
   have hf := (hok.fok z hx2).1
   exact showMain_any I (Pr.cmd Qd.num n 2) q z hq hf.vs hf.vl w0.heap.size 0 (by omega) (hcmds z hx2) v bs W hp hl hW)
  (.slice none 0 0) [] _ hP (by
   show 0 + (l.flatMap (Tt.fb false)).length + (Tt.fb true z).length ≤ _
   omega) hbP)
 have HB2 := hide hb2
 have HBP := hide hbP
 clear hb1 hs0 hbP hbk hP hlens hb2 hbx I hcmds hok
 have hbx2 : (w0.alloc (Obj.cells #[.pointer none, .slice none 0 0, .int .i64 0] 74)).cell? ⟨w.heap.size, 0, none⟩ = some (.slice s.ad s.len s.cap) := ((unhide HBP).cell (p := ⟨w.heap.size, 0, none⟩) (by show w.heap.size < _; omega)).trans hbx1
 go_wp2_with fail
 refine (unhide HT).mono ?_
 rintro r w4 ⟨rfl, ⟨v4, hp4⟩, hgo4⟩
 have hp5 : Sp.P w0.heap.size w4 w0.heap.size v4 (Lib.byteCells (l.flatMap (Tt.fb false) ++ Tt.fb true z)) ((0 : Nat) : Int) := by
  have h := hp4
  rw [List.nil_append] at h
  exact h
 have hz4 := hgo4.below.size
 have HT2 := hide (spText_any w0.heap.size w0.heap.size v4 (l.flatMap (Tt.fb false) ++ Tt.fb true z) _ w4 hp5 (unhide HOK).ne (by omega))
 have HB4 := hide ((unhide HB2).trans (((unhide HBP).trans hgo4.below).mono (unhide HB2).size))
 clear hp4 hgo4 hp5
 go_wp2_with fail
 refine (unhide HT2).mono ?_
 rintro r w5 ⟨rfl, hb5⟩
 have HB5 := hide ((unhide HB4).trans (hb5.mono (by have := (unhide HB4).size; omega)))
 clear hb5
 go_wp2_with fail
 refine bodyPost_ret (v := .tuple #[.string (Pr.by (l.flatMap (Tt.fb false) ++ Tt.fb true z)), .int .i64 0]) (by simp [results, Tryz.results17, go_sem]; rfl) rfl ?_
 exact ⟨rfl, unhide HB5⟩
theorem show_err {m n : Nat} (s : Tk.Sl) (l : List (Tk.FT m n)) (k : Nat) (w : World) (hs : Tk.RT w m n s l) (hk : Tk.chkT l = k) (hk0 : k = 1 ∨ k = 2) :
  Calls Tryz.prog 17 #[.agg #[.slice s.ad s.len s.cap]] w fun r w' => r = .returned (.tuple #[.string ⟨#[]⟩, .int .i64 (k : Nat)]) ∧ Below w.heap.size w w' := by
 have hbA := (Below.refl w.heap.size w).alloc (Nat.le_refl _) (Obj.cells #[.slice s.ad s.len s.cap] 24)
 have HC := hide (tCheck_any s l _ (Tk.RT.later hs hbA (Nat.le_refl _)))
 rw [hk] at HC
 have HBA := hide hbA
 clear hbA hs hk
 rcases hk0 with rfl | rfl
 all_goals
  go_enter Tryz.func17, Tryz.ntmps17
  go_wp2_with fail
  refine (unhide HC).mono ?_
  rintro r w0 ⟨rfl, hb1⟩
  have HB2 := hide ((unhide HBA).trans (hb1.mono (by simp)))
  clear hb1
  go_wp2_with fail
  refine bodyPost_ret (v := .tuple #[.string ⟨#[]⟩, .int .i64 _]) (by simp [results, Tryz.results17, go_sem] <;> rfl) rfl ?_
  exact ⟨rfl, unhide HB2⟩
def Tt.out {m n : Nat} (l : List (Tk.FT m n)) : ByteArray := if Tk.chkT l = 0 then Pr.by (Tt.tx l) else ⟨#[]⟩
theorem Tk.chk_cases {m n : Nat} (l : List (Tk.FT m n)) : Tk.chkT l = 0 ∨ Tk.chkT l = 1 ∨ Tk.chkT l = 2 := by
 unfold Tk.chkT
 split
 · exact .inr (.inr rfl)
 · split
   · exact .inl rfl
   · exact .inr (.inl rfl)
theorem show_any {m n : Nat} (s : Tk.Sl) (l : List (Tk.FT m n)) (w : World) (hs : Tk.RT w m n s l) (hcap : s.len ≤ s.cap) (htab : Qd.tab w) :
  Calls Tryz.prog 17 #[.agg #[.slice s.ad s.len s.cap]] w fun r w' => r = .returned (.tuple #[.string (Tt.out l), .int .i64 ((Tk.chkT l : Nat) : Int)]) ∧ Below w.heap.size w w' := by
 unfold Tt.out
 rcases Tk.chk_cases l with h | h
 · obtain ⟨r, z, rfl, hok⟩ := Tt.ok_of l h
   rw [if_pos h, h, Tt.tx_app]
   exact show_ok s r z w hs hcap h hok htab
 · rw [if_neg (by omega)]
   exact show_err s l _ w hs rfl h
theorem refText_any {m n : Nat} (s : Tk.Sl) (l : List (Tk.FT m n)) (w : World) (hs : Tk.RT w m n s l) (h : Tk.chkT l = 0) :
  Calls Tryz.prog 18 #[.agg #[.slice s.ad s.len s.cap]] w fun r w' => r = .returned (.string (Tt.out l)) ∧ Below w.heap.size w w' := by
 unfold Tt.out
 rw [if_pos h]
 obtain ⟨r, z, rfl, hok⟩ := Tt.ok_of l h
 rw [Tt.tx_app]
 exact refTree_any s r z w hs hok.fok hok.re (by have := hok.len; omega)
end Go.Proofs.YtfccpddehpgfoaaGreatDoor
namespace Go.Proofs.YtfccpddehpgfoaaGreatDoor
open Go.RowKit
set_option linter.unusedVariables false
theorem Tk.open_cap {H : Type} {enc : TypeId × Value → H} {W : World} {fuel : Nat} {cs : List Value} {d : DataW H} {p : List MemPlace} {s : Tk.Sl} (h : DataW.trod enc Tryz.prog W 0 (fun _ => true) true fuel 24 cs = some (d, p)) (hce : cs = [.slice s.ad s.len s.cap]) : s.len ≤ s.cap := by
 subst hce
 obtain ⟨xs, n, hfu, hx, hl, hlen, hf⟩ := DataW.trod_struct Tryz.underlying24 h
 obtain ⟨x0, rfl⟩ := Tk.len1 (show xs.length = 1 from hlen)
 have f0 : DataW.trod enc Tryz.prog W 0 (fun _ => true) true n 22 (([Value.slice s.ad s.len s.cap].drop 0).take (Tryz.prog.cellsOf 22)) = some x0 := hf 0 _ rfl
 rw [Tryz.tcellsFs] at f0
 rcases DataW.trod_slice Tryz.underlying22 (show DataW.trod enc Tryz.prog W 0 (fun _ => true) true n 22 [Value.slice s.ad s.len s.cap] = some (x0.1, x0.2) from f0) with ⟨hcs, hx⟩ | ⟨a, len, cap, elems, rest, m, hfm, hcs, hx, hb, hle, hm, hlen2, hel, hsp, hns⟩
 · simp at hcs
   omega
 · simp at hcs
   omega
theorem sshows_walk {m n : Nat} (s : Tk.Sl) (l : List (Tk.FT m n)) (w : World) (hs : Tk.RT w m n s l) (hcap : s.len ≤ s.cap) (htab : Qd.tab w) : Calls Tryz.prog 5 #[.agg #[.slice s.ad s.len s.cap]] w fun r w' => r = .returned (.bool true) ∧ Below w.heap.size w w' := by
 have hbA := (Below.refl w.heap.size w).alloc (Nat.le_refl _) (Obj.cells #[.slice s.ad s.len s.cap] 24)
 have HB := hide hbA
 have hRS := Tk.RT.later hs hbA (Nat.le_refl _)
 have htA := Qd.tab_later htab hbA
 have hsa : (w.alloc (Obj.cells #[.slice s.ad s.len s.cap] 24)).heap.size = w.heap.size + 1 := by simp
 have hc0 : (w.alloc (Obj.cells #[.slice s.ad s.len s.cap] 24)).cell? ⟨w.heap.size, 0, none⟩ = some (.slice s.ad s.len s.cap) := by go_simp
 clear hs hbA htab
 go_enter Tryz.func5, Tryz.ntmps5
 (try simp only [List.append_eq, List.cons_append, List.nil_append])
 go_upto_region 1 with fail
 generalize w.alloc (Obj.cells #[.slice s.ad s.len s.cap] 24) = wa at *
 have HSH := hide (show_any s l wa hRS hcap htA)
 have HCR := hide (fun (V : World) (hV : Below wa.heap.size wa V) => refCheckTree_any s l V (Tk.RT.later hRS hV (Nat.le_refl _)))
 have HTX := hide (fun (h : Tk.chkT l = 0) (V : World) (hV : Below wa.heap.size wa V) => refText_any s l V (Tk.RT.later hRS hV (Nat.le_refl _)) h)
 have HNO := hide (fun (h : ¬ Tk.chkT l = 0) => show Tt.out l = ⟨#[]⟩ from if_neg h)
 have HCC := hide (Tk.chk_cases l)
 generalize Tk.chkT l = ck at *
 generalize Tt.out l = tx at *
 have HK0 := hide (fun (V : World) (hV : Below wa.heap.size wa V) => (hV.cell (p := ⟨w.heap.size, 0, none⟩) (by show w.heap.size < _; omega)).trans hc0)
 clear hRS htA
 go_wp2_with fail
 refine (unhide HSH).mono ?_
 rintro r w1 ⟨rfl, hb1⟩
 have HB1 := hide hb1
 have x1 := (unhide HK0) w1 hb1
 clear hb1
 go_wp2_with fail
 refine ((unhide HCR) w1 (unhide HB1)).mono ?_
 rintro r w2 ⟨rfl, hb2⟩
 have HB2 := hide ((unhide HB1).trans (hb2.mono (unhide HB1).size))
 clear hb2
 have x2 := (unhide HK0) w2 (unhide HB2)
 have hse : (tx.toList == tx.toList) = true := by simp
 rcases unhide HCC with rfl | hk
 · go_wp2_with fail
   refine ((unhide HTX) (by first | rfl | trivial) w2 (unhide HB2)).mono ?_
   rintro r w3 ⟨rfl, hb3⟩
   have HB3 := hide ((unhide HB2).trans (hb3.mono (unhide HB2).size))
   clear hb3
   go_wp2_with fail
   refine (showBegun_any w3).mono ?_
   rintro r w4 ⟨rfl, hb4⟩
   have HB4 := hide ((unhide HB).trans (((unhide HB3).trans (hb4.mono (unhide HB3).size)).mono (unhide HB).size))
   clear hb4
   go_wp2_with fail
   go_ret
   exact ⟨by simp, unhide HB4⟩
 · have htx := (unhide HNO) (by omega)
   subst htx
   have hkk : ((ck : Int) == (ck : Int)) = true := by simp
   rcases hk with rfl | rfl
   all_goals
    go_wp2_with fail
    refine (showBegun_any w2).mono ?_
    rintro r w4 ⟨rfl, hb4⟩
    have HB4 := hide ((unhide HB).trans (((unhide HB2).trans (hb4.mono (unhide HB2).size)).mono (unhide HB).size))
    clear hb4
    go_wp2_with fail
    go_ret
    exact ⟨by simp, unhide HB4⟩
end Go.Proofs.YtfccpddehpgfoaaGreatDoor
