/- By the verifier. -/
import Derived.Test.YtfccpddehpgfoaaGreatDoorXD
import Derived.Test.YtfccpddehpgfoaaGreatDoorXG
set_option maxRecDepth 100000
set_option maxHeartbeats 600000
namespace Go.Proofs.YtfccpddehpgfoaaGreatDoor
open Go.RowKit
set_option linter.unusedVariables false
def ZgT (k : Nat) (y : Zap 61 1) : List UInt8 := if y.1.1 = 3 then Pr.call Pr.few k y.1.2.2.1 y.1.2.2.2 y.2.1.2.2 else ZcT Pr.few k y.2.1.2.1
def ZfU (e : Int) : List UInt8 := Pr.func Pr.few 0 (ZgT 2) (Rp.f1 e)
def ZfG (e : Int) : List UInt8 := Pr.main Pr.few 0 (ZgT 2) (Rp.f2 e)
theorem Pr.small_is (e : Int) : ZfU e ++ ZfG e = ZaD.data.toList := by kernel_rfl
theorem ZkQ (e : Int) : (ZfU e).length = 32 ∧ (ZfG e).length = 41 := ⟨by kernel_rfl, by kernel_rfl⟩
theorem ZlH (e : Int) : Pr.ok Zfl 61 (Rp.e1 e) :=
 ⟨(show (⟨#[]⟩ : ByteArray).size ≤ 64 from by decide), .inr (.inr (.inr ⟨⟨(show (4 : Int) ≤ 4 from by decide), (show (4 : Int) ≤ 10 from by decide)⟩, _, _, rfl, ⟨(show (⟨#[97]⟩ : ByteArray).size ≤ 64 from by decide), .inr (.inl rfl)⟩, ⟨(show (⟨#[]⟩ : ByteArray).size ≤ 64 from by decide), .inl ⟨rfl, (show (0 : Int) ≤ ((1 : Nat) : Int) from by decide), (show ((1 : Nat) : Int) < 100 from by decide)⟩⟩⟩))⟩
theorem Zjc (e : Int) : Zab 61 (Rp.e1 e) ≤ 15 := (show (3 : Nat) ≤ 15 from by decide)
theorem ZlB (e : Int) : ∀ y ∈ (Rp.c1 e).2.1.2.2, Pr.ok Zfl 61 y ∧ Zab 61 y ≤ 15 := by
 intro y hy
 have hy : y = _ := List.mem_singleton.1 hy
 subst hy
 exact ⟨⟨(show (⟨#[]⟩ : ByteArray).size ≤ 64 from by decide), .inl ⟨rfl, (show (0 : Int) ≤ ((2 : Nat) : Int) from by decide), (show ((2 : Nat) : Int) < 100 from by decide)⟩⟩, (show (1 : Nat) ≤ 15 from by decide)⟩
theorem ZlC (e : Int) : Pr.ok Zfl 61 (Rp.c2 e).2.1.2.1 ∧ Zab 61 (Rp.c2 e).2.1.2.1 ≤ 15 :=
 ⟨⟨(show (⟨#[120]⟩ : ByteArray).size ≤ 64 from by decide), .inr (.inl rfl)⟩, (show (1 : Nat) ≤ 15 from by decide)⟩
theorem ZlW (k : Nat) (e : Int) : ZgT k (Rp.c1 e) = Pr.call Pr.few k (Rp.c1 e).1.2.2.1 (Rp.c1 e).1.2.2.2 (Rp.c1 e).2.1.2.2 := if_pos rfl
theorem Zl0 (k : Nat) (e : Int) : ZgT k (Rp.c2 e) = ZcT Pr.few k (Rp.c2 e).2.1.2.1 := if_neg (show ¬ (5 : Int) = 3 from by decide)
theorem Zle (w0 : World) (b : Nat) (e : Int) : Sp.Cmds w0 b (0 + 2) (ZgT 2) (Rp.f2 e).cs := by
 intro x hx q v bs W hq hp hl hW
 have hx : x ∈ [Rp.c1 e, Rp.c2 e] := hx
 have I := ZhR w0.heap.size w0 Zl
 rcases List.mem_cons.1 hx with rfl | hx
 · rw [ZlW] at hl ⊢
   exact ZeZ I q (Rp.c1 e) hq.1.1.1 hq (ZlB e) (show (1 : Nat) ≤ 1000 from by decide) b v bs 2 W hp (by omega) hl hW
 have hx := List.mem_singleton.1 hx
 subst hx
 rw [Zl0] at hl ⊢
 exact Zes I q (Rp.c2 e) hq.1.1.1 hq (ZlC e) b v bs 2 W hp (by omega) hl hW
theorem Zkv (s : Tk.Sl) (e : Int) (w : World) (hs : Tk.RT w 61 1 s (Rp.tree e)) (hcap : s.len ≤ s.cap) :
  Calls Tryz.prog 17 #[.agg #[.slice s.ad s.len s.cap]] w fun r w' => r = .returned (.tuple #[.string ZaD, .int .i64 0]) ∧ Below w.heap.size w w' := by
 have hbA := (Below.refl w.heap.size w).alloc Zl (Obj.cells #[.slice s.ad s.len s.cap] 24)
 have hsA : (w.alloc (Obj.cells #[.slice s.ad s.len s.cap] 24)).heap.size = w.heap.size + 1 := by simp
 have hbx : (w.alloc (Obj.cells #[.slice s.ad s.len s.cap] 24)).cell? ⟨w.heap.size, 0, none⟩ = some (.slice s.ad s.len s.cap) := by simp
 have HC := Hd (ZcW s (Rp.tree e) _ (Tk.RT.later hs hbA Zl))
 rw [Zgj] at HC
 have HS := Hd hs
 have HBA := Hd hbA
 clear hbA hs
 go_enter Tryz.func17, Tryz.ntmps17
 go_upto_region 1 with fail
 generalize (w.alloc (Obj.cells #[.slice s.ad s.len s.cap] 24)) = wa at *
 go_wp2_with fail
 refine (uh HC).mono ?_
 rintro r w0 ⟨rfl, hb1⟩
 have hs1 := hb1.size
 have hb2 := (uh HBA).trans (hb1.mono (by omega))
 have hbx1 : w0.cell? ⟨w.heap.size, 0, none⟩ = some (.slice s.ad s.len s.cap) := (hb1.cell (p := ⟨w.heap.size, 0, none⟩) (by show w.heap.size < _; omega)).trans hbx
 have hs0 : Tk.RT w0 61 1 s (Rp.tree e) := Tk.RT.later (uh HS) hb2 Zl
 have hbP := (Below.refl w0.heap.size w0).alloc Zl (Obj.cells #[.pointer none, .slice none 0 0, .int .i64 0] 74)
 have hsP : (w0.alloc (Obj.cells #[.pointer none, .slice none 0 0, .int .i64 0] 74)).heap.size = w0.heap.size + 1 := by simp
 have hbk : (w0.alloc (Obj.cells #[.pointer none, .slice none 0 0, .int .i64 0] 74)).heap[w0.heap.size]? = some (.cells #[.pointer none, .slice none 0 0, .int .i64 0] 74 (0, 0)) := heap_alloc_new w0 _
 have hP : Sp.P w0.heap.size (w0.alloc (Obj.cells #[.pointer none, .slice none 0 0, .int .i64 0] 74)) w0.heap.size (.slice none 0 0) (Lib.byteCells []) ((0 : Nat) : Int) :=
  ⟨.inl (Zad hbk 0 _ rfl), Zad hbk 1 _ rfl, Zad hbk 2 _ rfl, fun j => by simp, by unfold World.shape?; rw [hbk]; rfl, World.ownsRow_nil _ _ _ _, (by intro h; cases h), Nat.le_refl _⟩
 have I := ZhR w0.heap.size w0 Zl
 have hlens := ZkQ e
 have HT := Hd (ZfL (Pr.func Pr.few 0 (ZgT 2)) (Pr.main Pr.few 0 (ZgT 2)) s [Rp.f1 e] (Rp.f2 e) hs0 hcap w0.heap.size 0
  (fun x hx q v bs W hq hp hl hW => by
   have hx := List.mem_singleton.1 hx
   subst hx
   exact Zdd I (ZgT 2) q (Rp.f1 e) hq (fun y hy => absurd hy List.not_mem_nil) (Nat.zero_le _) ⟨ZlH e, Zjc e⟩ ⟨(show (1 : Nat) ≤ 1000 from by decide), fun y hy => by have := List.mem_singleton.1 hy; subst this; exact (show (⟨#[97]⟩ : ByteArray).size ≤ 64 from by decide)⟩ w0.heap.size 0 (by omega) (fun y hy => absurd hy List.not_mem_nil) v bs W hp hl hW)
  (fun q v bs W hq hp hl hW => ZeN I (ZgT 2) q (Rp.f2 e) hq (fun y hy => by have := List.mem_singleton.1 hy; subst this; exact ⟨(show (⟨#[120]⟩ : ByteArray).size ≤ 64 from by decide), .inl rfl⟩) (show (1 : Nat) ≤ 1000 from by decide) w0.heap.size 0 (by omega) (Zle w0 w0.heap.size e) v bs W hp hl hW)
  (.slice none 0 0) [] _ hP (by
   show 0 + (ZfU e ++ []).length + (ZfG e).length ≤ _
   rw [List.append_nil, hlens.1, hlens.2]; omega) hbP)
 have HB2 := Hd hb2
 have HBP := Hd hbP
 clear hb1 hs0 hbP hbk hP hlens hb2 hbx I
 have hbx2 : (w0.alloc (Obj.cells #[.pointer none, .slice none 0 0, .int .i64 0] 74)).cell? ⟨w.heap.size, 0, none⟩ = some (.slice s.ad s.len s.cap) := ((uh HBP).cell (p := ⟨w.heap.size, 0, none⟩) (by show w.heap.size < _; omega)).trans hbx1
 go_wp2_with fail
 refine (uh HT).mono ?_
 rintro r w4 ⟨rfl, ⟨v4, hp4⟩, hgo4⟩
 have hp5 : Sp.P w0.heap.size w4 w0.heap.size v4 (Lib.byteCells ZaD.data.toList) ((0 : Nat) : Int) := by
  rw [← Pr.small_is e]
  have h := hp4
  simp only [List.flatMap_cons, List.flatMap_nil, List.nil_append, List.append_nil] at h
  exact h
 have hz4 := hgo4.below.size
 have HT2 := Hd (Zgy w0.heap.size w0.heap.size v4 ZaD.data.toList _ w4 hp5 (by intro h; exact absurd (congrArg List.length h) (by decide)) (by omega))
 have HB4 := Hd ((uh HB2).trans (((uh HBP).trans hgo4.below).mono (uh HB2).size))
 clear hp4 hgo4 hp5
 go_wp2_with fail
 refine (uh HT2).mono ?_
 rintro r w5 ⟨rfl, hb5⟩
 have HB5 := Hd ((uh HB4).trans (hb5.mono (by have := (uh HB4).size; omega)))
 clear hb5
 go_wp2_with fail
 refine bodyPost_ret (v := .tuple #[.string ZaD, .int .i64 0]) (by simp [results, Tryz.results17, go_sem]) rfl ?_
 exact ⟨rfl, uh HB5⟩
theorem Zbm {α : Type} (f : α → α → Bool) (l : List α) (h : ∀ a ∈ l, f a a = true) : Zaa f l l = true :=
 ZbH f l l rfl (fun i a b ha hb => by rw [ha] at hb; cases hb; exact h a (List.mem_of_getElem? ha))
theorem Zb7 : ∀ (n : Nat) (x : Zat n), Zai n n x x = true
 | 0, x => nomatch x
 | n + 1, x => by
  show ((x.1.1 == x.1.1) && (x.1.2.2.1 == x.1.2.2.1) && (x.1.2.2.2.toList == x.1.2.2.2.toList) && Zaa (Zai n n) x.2 x.2) = true
  rw [Zbm _ _ (fun a _ => Zb7 n a)]
  simp
theorem Zdb {m : Nat} : ∀ (n : Nat) (x : Zap m n), Zas n n x x = true
 | 0, x => nomatch x
 | n + 1, x => by
  have h1 := Zbm (Zai m m) x.2.1.2.2 (fun a _ => Zb7 m a)
  have h2 := Zbm (Zas n n) x.2.2.1 (fun a _ => Zdb n a)
  have h3 := Zbm (Zas n n) x.2.2.2 (fun a _ => Zdb n a)
  show ((x.1.1 == x.1.1) && (x.1.2.2.1.toList == x.1.2.2.1.toList) && (x.1.2.2.2.toList == x.1.2.2.2.toList) && Zai m m x.2.1.1 x.2.1.1 && Zai m m x.2.1.2.1 x.2.1.2.1 && Zaa (Zai m m) x.2.1.2.2 x.2.1.2.2 && Zaa (Zas n n) x.2.2.1 x.2.2.1 && Zaa (Zas n n) x.2.2.2 x.2.2.2) = true
  rw [h1, h2, h3, Zb7, Zb7]
  simp
theorem Zhf {m n : Nat} (f : Tk.FT m n) : Zaw f f = true := by
 unfold Zaw
 rw [Zbm _ f.cs (fun a _ => Zdb n a), Zb7]
 rw [Zbm _ f.ps (fun a _ => by simp), Zbm _ f.vs (fun a _ => by simp)]
 simp
theorem Zhb (w : World) : Calls Tryz.prog 19 #[] w fun r w' => r = .returned (.bool true) ∧ Below w.heap.size w w' := by
 have HP := Hd (show Calls Tryz.prog 44 #[.string ⟨#[102, 117, 110, 99, 32, 102, 40, 97, 41, 32, 123, 10, 32, 32, 114, 101, 116, 117, 114, 110, 32, 40, 97, 32, 43, 32, 49, 41, 59, 10, 125, 10, 109, 97, 105, 110, 32, 123, 10, 32, 32, 118, 97, 114, 32, 120, 59, 10, 32, 32, 120, 32, 61, 32, 102, 40, 50, 41, 59, 10, 32, 32, 112, 114, 105, 110, 116, 32, 120, 59, 10, 125, 10]⟩] w (fun r w' => (∃ q : Tk.Sl, r = .returned (.tuple #[.agg #[.slice q.ad q.len q.cap], .int .i64 0, .int .i64 0]) ∧ Tk.RT w' 61 1 q (Rp.tree (ZaD.size : Int)) ∧ q.len ≤ q.cap) ∧ Below w.heap.size w w') from Zhp w)
 generalize (ZaD.size : Int) = e at *
 go_enter Tryz.func19, Tryz.ntmps19
 (try simp only [List.append_eq, List.cons_append, List.nil_append])
 go_wp2_with fail
 refine (uh HP).mono ?_
 rintro r w1 ⟨⟨q, rfl, hrt, hcap⟩, hb1⟩
 have hbN := (Below.refl w1.heap.size w1).alloc Zl (Obj.cells #[.slice q.ad q.len q.cap] 24)
 have hsN : (w1.alloc (Obj.cells #[.slice q.ad q.len q.cap] 24)).heap.size = w1.heap.size + 1 := by simp
 have hbx : (w1.alloc (Obj.cells #[.slice q.ad q.len q.cap] 24)).cell? ⟨w1.heap.size, 0, none⟩ = some (.slice q.ad q.len q.cap) := by simp
 have hrt2 := Tk.RT.later hrt hbN Zl
 have HS := Hd (show Calls Tryz.prog 17 #[.agg #[.slice q.ad q.len q.cap]] (w1.alloc (Obj.cells #[.slice q.ad q.len q.cap] 24)) (fun r w' => r = .returned (.tuple #[.string ⟨#[102, 117, 110, 99, 32, 102, 40, 97, 41, 32, 123, 10, 32, 32, 114, 101, 116, 117, 114, 110, 32, 40, 97, 32, 43, 32, 49, 41, 59, 10, 125, 10, 109, 97, 105, 110, 32, 123, 10, 32, 32, 118, 97, 114, 32, 120, 59, 10, 32, 32, 120, 32, 61, 32, 102, 40, 50, 41, 59, 10, 32, 32, 112, 114, 105, 110, 116, 32, 120, 59, 10, 125, 10]⟩, .int .i64 0]) ∧ Below (w1.alloc (Obj.cells #[.slice q.ad q.len q.cap] 24)).heap.size (w1.alloc (Obj.cells #[.slice q.ad q.len q.cap] 24)) w') from Zkv q e _ hrt2 hcap)
 have HB := Hd (hb1.trans (hbN.mono hb1.size))
 have hs1 := hb1.size
 have HRT := Hd hrt2
 have HBX := Hd hbx
 clear hrt hb1 hbN hrt2 hcap hbx HP
 go_wp2_with fail
 generalize (w1.alloc (Obj.cells #[.slice q.ad q.len q.cap] 24)) = wa at *
 refine (uh HS).mono ?_
 rintro r w2 ⟨rfl, hb2⟩
 have hs2 := hb2.size
 have b2 : w2.cell? ⟨w1.heap.size, 0, none⟩ = some (.slice q.ad q.len q.cap) := (hb2.cell (p := ⟨w1.heap.size, 0, none⟩) (by show w1.heap.size < _; omega)).trans (uh HBX)
 have hrt3 := Tk.RT.later (uh HRT) hb2 Zl
 have hQ1 := Zb0 q q _ _ w2 hrt3 hrt3
 rw [Zbm _ _ (fun a _ => Zhf a)] at hQ1
 have HQ1 := Hd hQ1
 have HR3 := Hd hrt3
 have HB2 := Hd ((uh HB).trans (hb2.mono (by omega)))
 clear hb2 hrt3 hQ1
 go_wp2_with fail
 refine (uh HQ1).mono ?_
 rintro r w3 ⟨rfl, hb3⟩
 have hs3 := hb3.size
 have b3 : w3.cell? ⟨w1.heap.size, 0, none⟩ = some (.slice q.ad q.len q.cap) := (hb3.cell (p := ⟨w1.heap.size, 0, none⟩) (by show w1.heap.size < _; omega)).trans b2
 have hQ2 := Zb0 (m2 := 61) (n2 := 1) q ⟨none, 0, 0⟩ _ [] w3 (Tk.RT.later (uh HR3) hb3 Zl) (Zav _ _ _ _)
 rw [show Zaa Zaw (Rp.tree e) ([] : List (Tk.FT 61 1)) = false from rfl] at hQ2
 have HQ2 := Hd hQ2
 have HB3 := Hd ((uh HB2).trans (hb3.mono (by have := (uh HB2).size; omega)))
 clear hb3 hQ2
 go_wp2_with fail
 refine (uh HQ2).mono ?_
 rintro r w4 ⟨rfl, hb4⟩
 have HB4 := Hd ((uh HB3).trans (hb4.mono (by have := (uh HB3).size; omega)))
 clear hb4
 go_wp2_with fail
 go_ret
 exact ⟨rfl, uh HB4⟩
end Go.Proofs.YtfccpddehpgfoaaGreatDoor
