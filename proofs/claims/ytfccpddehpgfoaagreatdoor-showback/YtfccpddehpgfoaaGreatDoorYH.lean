/- By the verifier. -/
import Derived.Test.YtfccpddehpgfoaaGreatDoorYG
import Derived.Test.YtfccpddehpgfoaaGreatDoorXE
set_option maxRecDepth 100000
set_option maxHeartbeats 600000
namespace Go.Proofs.YtfccpddehpgfoaaGreatDoor
open Go.RowKit
set_option linter.unusedVariables false
def Tt.tx {m n : Nat} : List (Tk.FT m n) → List UInt8
 | [] => []
 | [z] => Tt.fb true z
 | x :: y :: r => Tt.fb false x ++ Tt.tx (y :: r)
theorem Zei {m n : Nat} (z : Tk.FT m n) : ∀ (l : List (Tk.FT m n)), Tt.tx (l ++ [z]) = l.flatMap (Tt.fb false) ++ Tt.fb true z
 | [] => rfl
 | [x] => by
  show Tt.fb false x ++ Tt.fb true z = _
  simp
 | x :: y :: r => by
  have ih := Zei z (y :: r)
  show Tt.fb false x ++ Tt.tx ((y :: r) ++ [z]) = _
  rw [ih, List.flatMap_cons (x := x), List.append_assoc]
theorem ZdP {m n : Nat} (z : Tk.FT m n) : ∀ (l : List (Tk.FT m n)), ZaC (l ++ [z]) = true → (∀ x ∈ l, ZaR x false = true) ∧ ZaR z true = true
 | [], h => by
  have h : (ZaR z true && true) = true := h
  rw [Bool.and_true] at h
  exact ⟨fun x hx => absurd hx List.not_mem_nil, h⟩
 | x :: r, h => by
  have h : (ZaR x (r ++ [z]).isEmpty && ZaC (r ++ [z])) = true := h
  rw [Bool.and_eq_true] at h
  obtain ⟨h1, h2⟩ := h
  obtain ⟨i1, i2⟩ := ZdP z r h2
  have e : (r ++ [z]).isEmpty = false := by cases r <;> rfl
  rw [e] at h1
  refine ⟨fun y hy => ?_, i2⟩
  rcases List.mem_cons.1 hy with rfl | hy
  · exact h1
  exact i1 y hy
theorem ZgR {m n : Nat} (f : Tk.FT m n) (b : Bool) (hb : ZaR f b = true) : (∀ y ∈ f.cs, Zaf n y = true) ∧ f.nm.size ≤ 12 ∧ Zan m f.re (!b) = true := by
 unfold ZaR at hb
 simp only [Bool.and_eq_true] at hb
 exact ⟨List.all_eq_true.1 hb.1.2, Zco _ _ hb.1.1.2, hb.2⟩
theorem ZkN {m n : Nat} (b : Bool) (x : Tk.FT m n) : Tt.fb b x ≠ [] := by
 intro h
 have h := congrArg List.length h
 unfold Tt.fb at h
 split at h
 · unfold Pr.main at h
   simp only [Za, Zbn, List.length_nil] at h
   omega
 unfold Pr.func at h
 simp only [Za, Zbn, List.length_nil] at h
 omega
structure Tt.Ok {m n : Nat} (l : List (Tk.FT m n)) (z : Tk.FT m n) : Prop where
 fok : ∀ x ∈ l ++ [z], Pr.fok x ∧ ∀ y ∈ x.cs, Zaf n y = true
 re : ∀ x ∈ l, Zb9 Pr.NK x.re
 len : (l.flatMap (Tt.fb false)).length + (Tt.fb true z).length ≤ 1000000
 ne : l.flatMap (Tt.fb false) ++ Tt.fb true z ≠ []
theorem Tt.ok_of {m n : Nat} (l : List (Tk.FT m n)) (h : Zay l = 0) : ∃ r z, l = r ++ [z] ∧ Tt.Ok r z := by
 unfold Zay at h
 have hmu : Zcs l = false := by
  cases hm : Zcs l
  · rfl
  rw [hm, if_pos rfl] at h
  cases h
 rw [hmu, if_neg (by decide)] at h
 have hw : (ZaC l && decide (0 < l.length)) = true := by
  cases hm : (ZaC l && decide (0 < l.length))
  · rw [hm, if_neg (by decide)] at h
    cases h
  rfl
 rw [Bool.and_eq_true, decide_eq_true_eq] at hw
 obtain ⟨hw, hpos⟩ := hw
 have hne : l ≠ [] := by intro e; rw [e, List.length_nil] at hpos; omega
 have hsp : l = l.dropLast ++ [l.getLast hne] := (List.dropLast_concat_getLast hne).symm
 generalize l.dropLast = r at *
 generalize l.getLast hne = z at *
 subst hsp
 refine ⟨r, z, rfl, ?_⟩
 unfold Zcs at hmu
 rw [Bool.or_eq_false_iff, decide_eq_false_iff_not] at hmu
 obtain ⟨hm1, hm2⟩ := hmu
 obtain ⟨hf, hz⟩ := ZdP z r hw
 have hmu := Zko (r ++ [z]) 40 hm2
 have hfun : ∀ x ∈ r ++ [z], ∃ b, ZaR x b = true := fun x hx => by
  rcases List.mem_append.1 hx with hx | hx
  · exact ⟨_, hf x hx⟩
  have := List.mem_singleton.1 hx
  subst this
  exact ⟨_, hz⟩
 have hfok : ∀ x ∈ r ++ [z], Pr.fok x ∧ ∀ y ∈ x.cs, Zaf n y = true := fun x hx => by
  obtain ⟨b, hb⟩ := hfun x hx
  exact ⟨Zld x b hb (hmu x hx), (ZgR x b hb).1⟩
 have hre : ∀ x ∈ r, Zb9 Pr.NK x.re := fun x hx => by
  have h1 := (ZgR x false (hf x hx)).2.2
  exact ⟨Pr.ok_of m x.re h1, (hmu x (List.mem_append_left _ hx)).2.2.1⟩
 refine ⟨hfok, hre, ?_, fun h => ?_⟩
 · have ht := Zkm Zdy (r ++ [z]) 40 (by decide) hm2 hw
   have e : Zim Qd.num (r ++ [z]) = (r.map (fun x => 20000 + (x.cs.flatMap (Pr.cmd Qd.num n 2)).length)).sum + (20000 + (z.cs.flatMap (Pr.cmd Qd.num n 2)).length) := by
    unfold Zim
    rw [List.map_append, List.sum_append]
    simp
   have hzl := ZiL Zdy (Pr.cmd Qd.num n 2) z (hfok z (by simp)).1 (hmu z (by simp)).2.1
   have hrl : ∀ (u : List (Tk.FT m n)), (∀ x ∈ u, x ∈ r) → (u.flatMap (Tt.fb false)).length ≤ (u.map (fun x => 20000 + (x.cs.flatMap (Pr.cmd Qd.num n 2)).length)).sum := by
    intro u
    induction u with
    | nil => intro _; exact Nat.zero_le _
    | cons x u ih =>
     intro hu
     have hx := hu x (by simp)
     have h1 := ih (fun y hy => hu y (List.mem_cons_of_mem _ hy))
     have hm := hmu x (List.mem_append_left _ hx)
     have h2 := ZiV Zdy (Pr.cmd Qd.num n 2) x (hfok x (List.mem_append_left _ hx)).1 hm.2.1 hm.1 (ZgR x false (hf x hx)).2.1 (hre x hx)
     have h3 : (Tt.fb false x).length ≤ 20000 + (x.cs.flatMap (Pr.cmd Qd.num n 2)).length := h2
     rw [List.flatMap_cons, Za, List.map_cons, List.sum_cons]
     omega
   have h1 := hrl r (fun _ h => h)
   have h2 : (Tt.fb true z).length ≤ 20000 + (z.cs.flatMap (Pr.cmd Qd.num n 2)).length := hzl
   have h3 : (r ++ [z]).length ≤ 6 := by omega
   omega
 have := congrArg List.length h
 have h2 : (Tt.fb true z).length ≠ 0 := fun e => ZkN true z (List.eq_nil_of_length_eq_zero e)
 rw [Za, List.length_nil] at this
 omega
theorem Zml {m n : Nat} (s : Tk.Sl) (l : List (Tk.FT m n)) (z : Tk.FT m n) (w : World) (hs : Tk.RT w m n s (l ++ [z])) (hcap : s.len ≤ s.cap) (hk0 : Zay (l ++ [z]) = 0) (hok : Tt.Ok l z) (htab : ZdL w) :
  Calls Tryz.prog 17 #[.agg #[.slice s.ad s.len s.cap]] w fun r w' => r = .returned (.tuple #[.string (Pr.by (l.flatMap (Tt.fb false) ++ Tt.fb true z)), .int .i64 0]) ∧ Below w.heap.size w w' := by
 have hbA := (Below.refl w.heap.size w).alloc Zl (Obj.cells #[.slice s.ad s.len s.cap] 24)
 have hsA : (w.alloc (Obj.cells #[.slice s.ad s.len s.cap] 24)).heap.size = w.heap.size + 1 := by simp
 have hbx : (w.alloc (Obj.cells #[.slice s.ad s.len s.cap] 24)).cell? ⟨w.heap.size, 0, none⟩ = some (.slice s.ad s.len s.cap) := by simp
 have HC := Hd (ZcW s (l ++ [z]) _ (Tk.RT.later hs hbA Zl))
 rw [hk0] at HC
 have HTB := Hd htab
 have HOK := Hd hok
 clear hk0 htab hok
 have HS := Hd hs
 have HBA := Hd hbA
 clear hbA hs
 go_enter Tryz.func17, Tryz.ntmps17
 go_upto_region 1 with fail
 generalize (w.alloc (Obj.cells #[.slice s.ad s.len s.cap] 24)) = wa at *
 go_wp2_with fail
 refine (uh HC).mono ?_
 rintro r w0 ⟨rfl, hb1⟩
 have hs1 := hb1.size
 have hb2 := (uh HBA).trans (hb1.mono (by omega))
 have hbx1 : w0.cell? ⟨w.heap.size, 0, none⟩ = some (.slice s.ad s.len s.cap) := (hb1.cell (p := ⟨w.heap.size, 0, none⟩) (by show w.heap.size < _; omega)).trans hbx
 have hs0 : Tk.RT w0 m n s (l ++ [z]) := Tk.RT.later (uh HS) hb2 Zl
 have hbP := (Below.refl w0.heap.size w0).alloc Zl (Obj.cells #[.pointer none, .slice none 0 0, .int .i64 0] 74)
 have hsP : (w0.alloc (Obj.cells #[.pointer none, .slice none 0 0, .int .i64 0] 74)).heap.size = w0.heap.size + 1 := by simp
 have hbk : (w0.alloc (Obj.cells #[.pointer none, .slice none 0 0, .int .i64 0] 74)).heap[w0.heap.size]? = some (.cells #[.pointer none, .slice none 0 0, .int .i64 0] 74 (0, 0)) := heap_alloc_new w0 _
 have hP : Sp.P w0.heap.size (w0.alloc (Obj.cells #[.pointer none, .slice none 0 0, .int .i64 0] 74)) w0.heap.size (.slice none 0 0) (Lib.byteCells []) ((0 : Nat) : Int) :=
  ⟨.inl (Zad hbk 0 _ rfl), Zad hbk 1 _ rfl, Zad hbk 2 _ rfl, fun j => by simp, by unfold World.shape?; rw [hbk]; rfl, World.ownsRow_nil _ _ _ _, (by intro h; cases h), Nat.le_refl _⟩
 have hok := uh HOK
 have I : Pr.It w0.heap.size w0 Qd.num Pr.NK := ⟨Nat.le_refl _, fun i W hi hW => ZlL i (by have := hi.1; omega) (by have := hi.2; omega) W (ZbI (ZbI (uh HTB) hb2) hW), Zdy⟩
 have hcmds : ∀ x ∈ l ++ [z], Sp.Cmds w0 w0.heap.size (0 + 2) (Pr.cmd Qd.num n 2) x.cs := fun x hx y hy q v bs W hq hp hl hW => ZiF I w0.heap.size n 5 2 y ((hok.fok x hx).1.cs y hy) (by omega) q v bs W hq hp hl hW
 have hlens := hok.len
 have HT := Hd (ZfL (Tt.fb false) (Tt.fb true) s l z hs0 hcap w0.heap.size 0
  (fun x hx q v bs W hq hp hl hW => by
   have hx2 := List.mem_append_left [z] hx
   have hf := (hok.fok x hx2).1
   exact Zdd I (Pr.cmd Qd.num n 2) q x hq hf.vs hf.vl (hok.re x hx) hf.ps w0.heap.size 0 (by omega) (hcmds x hx2) v bs W hp hl hW)
  (fun q v bs W hq hp hl hW => by
   have hx2 : z ∈ l ++ [z] := by simp
   have hf := (hok.fok z hx2).1
   exact ZeN I (Pr.cmd Qd.num n 2) q z hq hf.vs hf.vl w0.heap.size 0 (by omega) (hcmds z hx2) v bs W hp hl hW)
  (.slice none 0 0) [] _ hP (by
   show 0 + (l.flatMap (Tt.fb false)).length + (Tt.fb true z).length ≤ _
   omega) hbP)
 have HB2 := Hd hb2
 have HBP := Hd hbP
 clear hb1 hs0 hbP hbk hP hlens hb2 hbx I hcmds hok
 have hbx2 : (w0.alloc (Obj.cells #[.pointer none, .slice none 0 0, .int .i64 0] 74)).cell? ⟨w.heap.size, 0, none⟩ = some (.slice s.ad s.len s.cap) := ((uh HBP).cell (p := ⟨w.heap.size, 0, none⟩) (by show w.heap.size < _; omega)).trans hbx1
 go_wp2_with fail
 refine (uh HT).mono ?_
 rintro r w4 ⟨rfl, ⟨v4, hp4⟩, hgo4⟩
 have hp5 : Sp.P w0.heap.size w4 w0.heap.size v4 (Lib.byteCells (l.flatMap (Tt.fb false) ++ Tt.fb true z)) ((0 : Nat) : Int) := by
  have h := hp4
  rw [List.nil_append] at h
  exact h
 have hz4 := hgo4.below.size
 have HT2 := Hd (Zgy w0.heap.size w0.heap.size v4 (l.flatMap (Tt.fb false) ++ Tt.fb true z) _ w4 hp5 (uh HOK).ne (by omega))
 have HB4 := Hd ((uh HB2).trans (((uh HBP).trans hgo4.below).mono (uh HB2).size))
 clear hp4 hgo4 hp5
 go_wp2_with fail
 refine (uh HT2).mono ?_
 rintro r w5 ⟨rfl, hb5⟩
 have HB5 := Hd ((uh HB4).trans (hb5.mono (by have := (uh HB4).size; omega)))
 clear hb5
 go_wp2_with fail
 refine bodyPost_ret (v := .tuple #[.string (Pr.by (l.flatMap (Tt.fb false) ++ Tt.fb true z)), .int .i64 0]) (by simp [results, Tryz.results17, go_sem]; rfl) rfl ?_
 exact ⟨rfl, uh HB5⟩
theorem Zlw {m n : Nat} (s : Tk.Sl) (l : List (Tk.FT m n)) (k : Nat) (w : World) (hs : Tk.RT w m n s l) (hk : Zay l = k) (hk0 : k = 1 ∨ k = 2) :
  Calls Tryz.prog 17 #[.agg #[.slice s.ad s.len s.cap]] w fun r w' => r = .returned (.tuple #[.string ⟨#[]⟩, .int .i64 (k : Nat)]) ∧ Below w.heap.size w w' := by
 have hbA := (Below.refl w.heap.size w).alloc Zl (Obj.cells #[.slice s.ad s.len s.cap] 24)
 have HC := Hd (ZcW s l _ (Tk.RT.later hs hbA Zl))
 rw [hk] at HC
 have HBA := Hd hbA
 clear hbA hs hk
 rcases hk0 with rfl | rfl
 all_goals
  go_enter Tryz.func17, Tryz.ntmps17
  go_wp2_with fail
  refine (uh HC).mono ?_
  rintro r w0 ⟨rfl, hb1⟩
  have HB2 := Hd ((uh HBA).trans (hb1.mono (by simp)))
  clear hb1
  go_wp2_with fail
  refine bodyPost_ret (v := .tuple #[.string ⟨#[]⟩, .int .i64 _]) (by simp [results, Tryz.results17, go_sem] <;> rfl) rfl ?_
  exact ⟨rfl, uh HB2⟩
def Tt.out {m n : Nat} (l : List (Tk.FT m n)) : ByteArray := if Zay l = 0 then Pr.by (Tt.tx l) else ⟨#[]⟩
theorem ZhK {m n : Nat} (l : List (Tk.FT m n)) : Zay l = 0 ∨ Zay l = 1 ∨ Zay l = 2 := by
 unfold Zay
 split
 · exact .inr (.inr rfl)
 split
 · exact .inl rfl
 exact .inr (.inl rfl)
theorem Zfm {m n : Nat} (s : Tk.Sl) (l : List (Tk.FT m n)) (w : World) (hs : Tk.RT w m n s l) (hcap : s.len ≤ s.cap) (htab : ZdL w) :
  Calls Tryz.prog 17 #[.agg #[.slice s.ad s.len s.cap]] w fun r w' => r = .returned (.tuple #[.string (Tt.out l), .int .i64 ((Zay l : Nat) : Int)]) ∧ Below w.heap.size w w' := by
 unfold Tt.out
 rcases ZhK l with h | h
 · obtain ⟨r, z, rfl, hok⟩ := Tt.ok_of l h
   rw [if_pos h, h, Zei]
   exact Zml s r z w hs hcap h hok htab
 rw [if_neg (by omega)]
 exact Zlw s l _ w hs rfl h
end Go.Proofs.YtfccpddehpgfoaaGreatDoor
