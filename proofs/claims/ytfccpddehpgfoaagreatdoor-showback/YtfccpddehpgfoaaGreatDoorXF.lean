/- By the verifier. -/
import Derived.Deep.DeepCutAuto
import Derived.Deep.RegionHeld3
import Derived.Test.YtfccpddehpgfoaaGreatDoorXH
set_option maxRecDepth 100000
set_option maxHeartbeats 3200000
namespace Go.Proofs.YtfccpddehpgfoaaGreatDoor
open Go.RowKit
set_option linter.unusedVariables false
structure Rp.P (W : World) (bp : Nat) (ta : Option Addr) (n c i : Nat) (e : Int) : Prop where
 c0 : W.cell? ⟨bp, 0, none⟩ = some (.slice ta n c)
 c1 : W.cell? ⟨bp, 1, none⟩ = some (.int .i64 (i : Nat))
 c2 : W.cell? ⟨bp, 2, none⟩ = some (.int .i64 e)
 c3 : W.cell? ⟨bp, 3, none⟩ = some (.bool false)
 fz : ∀ j, W.frozen? ⟨bp, j, none⟩ = false
section
variable {W W' : World} {bp : Nat} {ta : Option Addr} {n c i : Nat} {e : Int}
theorem Rp.P.lt (h : Rp.P W bp ta n c i e) : bp < W.heap.size := World.block_lt_of_cell? W _ h.c0
theorem Rp.P.kept (h : Rp.P W bp ta n c i e) (hb : W'.heap[bp]? = W.heap[bp]?) : Rp.P W' bp ta n c i e := by
 have hc : ∀ j, W'.cell? ⟨bp, j, none⟩ = W.cell? ⟨bp, j, none⟩ := fun j => Zc (a := ⟨bp, j, none⟩) hb
 exact ⟨(hc 0).trans h.c0, (hc 1).trans h.c1, (hc 2).trans h.c2, (hc 3).trans h.c3, fun j => (Zf (a := ⟨bp, j, none⟩) hb).trans (h.fz j)⟩
theorem Rp.P.next (h : Rp.P W bp ta n c i e) (j : Nat) {z : Int} (hz : z = (j : Nat)) : Rp.P (W.setCell ⟨bp, 1, none⟩ (.int .i64 z)) bp ta n c j e :=
 ⟨(Tp.set_ne (by decide)).trans h.c0, hz ▸ World.cell?_setCell_same _ _ _ h.c1, (Tp.set_ne (by decide)).trans h.c2, (Tp.set_ne (by decide)).trans h.c3, fun j => by rw [World.frozen?_setCell]; exact h.fz j⟩
end
structure Rp.J (l : List Tp.T) (ta : Option Addr) (c bp : Nat) (e : Int) (W : World) (i : Nat) : Prop where
 p : Rp.P W bp ta l.length c i e
 rt : Tp.RT W ta l
 tb : ∀ b o, ta = some ⟨b, o, none⟩ → b < bp
 fine : Tp.Fine l
 le : i ≤ l.length
section
variable {l : List Tp.T} {ta : Option Addr} {c bp : Nat} {e : Int} {W W' : World} {i : Nat}
theorem Rp.J.lt (h : Rp.J l ta c bp e W i) : bp < W.heap.size := h.p.lt
theorem Rp.J.kept (h : Rp.J l ta c bp e W i) (hz : W.heap.size ≤ W'.heap.size) (hb : ∀ q, q ≤ bp → W'.heap[q]? = W.heap[q]?) : Rp.J l ta c bp e W' i :=
 ⟨h.p.kept (hb bp Zl), h.rt.kept hz (fun q o hq => hb q (Nat.le_of_lt (h.tb q o hq))), h.tb, h.fine, h.le⟩
theorem Rp.J.below (h : Rp.J l ta c bp e W i) (hb : Below W.heap.size W W') : Rp.J l ta c bp e W' i := h.kept hb.size (fun q hq => hb.block q (by have := h.lt; omega))
theorem Rp.J.set {q o : Nat} (h : Rp.J l ta c bp e W i) (v : Value) (hq : bp < q) : Rp.J l ta c bp e (W.setCell ⟨q, o, none⟩ v) i :=
 h.kept (by simp [World.setCell]) (fun k hk => Below.heap_setCell _ _ _ _ (show k ≠ q by omega))
theorem Rp.J.next (h : Rp.J l ta c bp e W i) (j : Nat) (hj : j ≤ l.length) {z : Int} (hz : z = (j : Nat)) : Rp.J l ta c bp e (W.setCell ⟨bp, 1, none⟩ (.int .i64 z)) j :=
 ⟨h.p.next j hz, h.rt.kept (by simp [World.setCell]) (fun q o hq => Below.heap_setCell _ _ _ _ (show q ≠ bp by have := h.tb q o hq; omega)), h.tb, h.fine, hj⟩
end
theorem ZdE (v : Nat) (hv : v < 10) : ∃ t : ByteArray, t = ⟨#[UInt8.ofNat (v + 48)]⟩ ∧ (t.toList == [40]) = false ∧ (t.toList == [45]) = false ∧ t.toList.isEmpty = false ∧ 0 < t.size ∧ (∀ h : 0 < t.size, t[0].toNat = v + 48) ∧ t.size = 1 := by
 have hx : (UInt8.ofNat (v + 48)).toNat = v + 48 := by simp; omega
 have hl1 : (⟨#[UInt8.ofNat (v + 48)]⟩ : ByteArray).toList = [UInt8.ofNat (v + 48)] := by rw [ByteArray.toList_eq]
 have hu : ∀ k : Nat, k < 48 → UInt8.ofNat (v + 48) ≠ UInt8.ofNat k := fun k hk hh => by
  have := congrArg UInt8.toNat hh
  rw [hx] at this
  have h2 : (UInt8.ofNat k).toNat = k := by simp; omega
  omega
 refine ⟨_, rfl, ?_, ?_, ?_, (by decide : 0 < 1), fun _ => hx, rfl⟩
 · rw [hl1, beq_eq_false_iff_ne]
   intro hh
   exact hu 40 (by decide) (List.cons.inj hh).1
 · rw [hl1, beq_eq_false_iff_ne]
   intro hh
   exact hu 45 (by decide) (List.cons.inj hh).1
 rw [hl1]; rfl
section
variable (l : List Tp.T) (ta : Option Addr) (c bp : Nat) (e : Int)
theorem ZaF (i : Nat) (w : World) (h : Rp.J l ta c bp e w i) :
  Calls Tryz.prog 75 #[.pointer (some ⟨bp, 0, none⟩), .int .i64 0] w fun r w' => r = .returned (.string (Tp.tk l i).t) ∧ Below w.heap.size w w' := by
 have hf := h.fine.few
 have hi := h.le
 have hlt := h.lt
 obtain ⟨c0, c1, c2, c3, fz⟩ := h.p
 by_cases hil : i < l.length
 · have hx := Zg hil
   rw [Zci hx]
   obtain ⟨b, o, rfl, hb, d0, d1, d2⟩ := h.rt.at_ i _ hx
   have hi1 : (0 : Int) ≤ (i : Int) := by omega
   have hi2 : (i : Int) < (l.length : Int) := by omega
   have hi3 : decide ((l.length : Int) ≤ (i : Int)) = false := by simp; omega
   have hi4 : ¬ (l.length : Int) ≤ (i : Int) := by omega
   clear h hx
   generalize l[i] = x at *
   go_enter Tryz.func75, Tryz.ntmps75
   go_wp2_with fail
   go_quiet (fail)
   go_wp2_with fail
   go_quiet (fail)
   go_wp2_with fail
   go_ret
   exact ⟨rfl, below_drewN (below_drewN Zr _) _⟩
 rw [ZbV (by omega)]
 have hi3 : decide ((l.length : Int) ≤ (i : Int)) = true := by simp; omega
 have hi4 : (l.length : Int) ≤ (i : Int) := by omega
 clear h
 go_enter Tryz.func75, Tryz.ntmps75
 go_wp2_with fail
 go_quiet (fail)
 go_wp2_with fail
 go_ret
 exact ⟨rfl, below_drewN Zr _⟩
theorem ZjX (i : Nat) (w : World) (h : Rp.J l ta c bp e w i) (hil : i + 1 < l.length) :
  Calls Tryz.prog 75 #[.pointer (some ⟨bp, 0, none⟩), .int .i64 1] w fun r w' => r = .returned (.string (Tp.tk l (i + 1)).t) ∧ Below w.heap.size w w' := by
 have hf := h.fine.few
 have hi := h.le
 have hlt := h.lt
 obtain ⟨c0, c1, c2, c3, fz⟩ := h.p
 have hx := Zg hil
 rw [Zci hx]
 obtain ⟨b, o, rfl, hb, d0, d1, d2⟩ := h.rt.at_ (i + 1) _ hx
 have hk : (i : Int) + 1 = ((i + 1 : Nat) : Int) := by omega
 have hi1 : (0 : Int) ≤ ((i + 1 : Nat) : Int) := by omega
 have hi2 : ((i + 1 : Nat) : Int) < (l.length : Int) := by omega
 have hi3 : decide ((l.length : Int) ≤ ((i + 1 : Nat) : Int)) = false := by simp; omega
 have hi4 : ¬ (l.length : Int) ≤ ((i + 1 : Nat) : Int) := by omega
 have hk2 : i + 1 ≤ 20000 := by omega
 clear h hx
 generalize l[i + 1] = x at *
 generalize i + 1 = k at *
 go_enter Tryz.func75, Tryz.ntmps75
 go_wp2_with fail
 go_quiet (fail)
 go_wp2_with fail
 go_quiet (fail)
 go_wp2_with fail
 go_ret
 exact ⟨rfl, below_drewN (below_drewN Zr _) _⟩
theorem ZcE (i : Nat) (w : World) (h : Rp.J l ta c bp e w i) :
  Calls Tryz.prog 76 #[.pointer (some ⟨bp, 0, none⟩)] w fun r w' => r = .returned (.int .i64 (Zaz l e i)) ∧ Below w.heap.size w w' := by
 have hf := h.fine.few
 have hlt := h.lt
 obtain ⟨c0, c1, c2, c3, fz⟩ := h.p
 by_cases hil : i < l.length
 · have hx := Zg hil
   rw [ZgM hx]
   obtain ⟨b, o, rfl, hb, d0, d1, d2⟩ := h.rt.at_ i _ hx
   have hi1 : (0 : Int) ≤ (i : Int) := by omega
   have hi2 : (i : Int) < (l.length : Int) := by omega
   clear h hx
   generalize l[i] = x at *
   go_enter Tryz.func76, Tryz.ntmps76
   go_wp2_with fail
   go_quiet (fail)
   go_wp2_with fail
   go_quiet (fail)
   go_wp2_with fail
   go_ret
   exact ⟨rfl, below_drewN (below_drewN Zr _) _⟩
 rw [Zgu (by omega)]
 have hi2 : ¬ (i : Int) < (l.length : Int) := by omega
 clear h
 go_enter Tryz.func76, Tryz.ntmps76
 go_wp2_with fail
 go_quiet (fail)
 go_wp2_with fail
 go_ret
 exact ⟨rfl, below_drewN Zr _⟩
theorem Za3 (s : ByteArray) (i : Nat) (w : World) (h : Rp.J l ta c bp e w i) (hi : i < l.length) (hy : Zal l i s = true) :
  Calls Tryz.prog 77 #[.pointer (some ⟨bp, 0, none⟩), .string s] w fun r w' => r = .returned (.tuple #[]) ∧ Rp.J l ta c bp e w' (i + 1) ∧ Tp.Tu (ZaA bp) w.heap.size w w' := by
 have HT := Hd (ZaF l ta c bp e i w h)
 have HJ := Hd h
 have hf := h.fine.few
 have hlt := h.lt
 obtain ⟨c0, c1, c2, c3, fz⟩ := h.p
 have htx : ((Tp.tk l i).t.toList == s.toList) = true := hy
 have hte : (Tp.tk l i).t.toList = s.toList := by simpa using htx
 clear h hy
 generalize (Tp.tk l i).t = t at *
 go_enter Tryz.func77, Tryz.ntmps77
 go_wp2_with fail
 refine (uh HT).mono ?_
 rintro r w1 ⟨rfl, hb1⟩
 have hJ1 := (uh HJ).below hb1
 have HN := Hd (hJ1.next (i + 1) (by omega) (z := (i : Int) + 1) (by omega))
 have HU := Hd ((Tp.Tu.of_below (D := ZaA bp) hb1).set (b := bp) (o := 1) (.int .i64 ((i : Int) + 1)) (fun _ => rfl))
 clear hb1 c0 c1 c2 c3 fz
 have hlt1 := hJ1.lt
 obtain ⟨c0, c1, c2, c3, fz⟩ := hJ1.p
 clear hJ1
 go_wp2_with fail
 go_end0
 exact ⟨rfl, uh HN, uh HU⟩
theorem Zdz (i : Nat) (w : World) (h : Rp.J l ta c bp e w i) (hi : i < l.length) (hy : Zam (Tp.tk l i).t = true) :
  Calls Tryz.prog 78 #[.pointer (some ⟨bp, 0, none⟩)] w fun r w' => r = .returned (.string (Tp.tk l i).t) ∧ Rp.J l ta c bp e w' (i + 1) ∧ Tp.Tu (ZaA bp) w.heap.size w w' := by
 have HT := Hd (ZaF l ta c bp e i w h)
 have HJ := Hd h
 have hf := h.fine.few
 have hlt := h.lt
 have HNM := Hd (fun (W : World) => ZbB (Tp.tk l i).t W (h.fine.txt i))
 rw [hy] at HNM
 clear h hy
 generalize (Tp.tk l i).t = t at *
 go_enter Tryz.func78, Tryz.ntmps78
 go_wp2_with fail
 refine (uh HT).mono ?_
 rintro r w1 ⟨rfl, hb1⟩
 have HB1 := Hd hb1
 clear hb1
 go_wp2_with fail
 refine ((uh HNM) w1).mono ?_
 rintro r w2 ⟨rfl, hb2⟩
 have hb2' := (uh HB1).trans (hb2.mono (uh HB1).size)
 have hJ1 := (uh HJ).below hb2'
 have HN := Hd (hJ1.next (i + 1) (by omega) (z := (i : Int) + 1) (by omega))
 have HU := Hd ((Tp.Tu.of_below (D := ZaA bp) hb2').set (b := bp) (o := 1) (.int .i64 ((i : Int) + 1)) (fun _ => rfl))
 clear hb2 hb2'
 have hlt1 := hJ1.lt
 obtain ⟨c0, c1, c2, c3, fz⟩ := hJ1.p
 clear hJ1
 go_wp2_with fail
 go_ret
 exact ⟨rfl, uh HN, uh HU⟩
theorem ZjS (i : Nat) (w : World) (h : Rp.J l ta c bp e w i) (hi : i < l.length) (d : Nat) (hd : d < 10) (ht : (Tp.tk l i).t = ⟨#[UInt8.ofNat (d + 48)]⟩) :
  Calls Tryz.prog 130 #[.pointer (some ⟨bp, 0, none⟩)] w fun r w' => r = .returned (.int .i64 (d : Nat)) ∧ Rp.J l ta c bp e w' (i + 1) ∧ Tp.Tu (ZaA bp) w.heap.size w w' := by
 have HT := Hd (ZaF l ta c bp e i w h)
 rw [ht] at HT
 have HJ := Hd h
 have hf := h.fine.few
 have hlt := h.lt
 obtain ⟨t, htt, -, -, h2, hs0, hg, h1⟩ := ZdE d hd
 rw [← htt] at HT
 have HD := Hd (fun (W : World) => show Calls Tryz.prog 132 #[.int .u8 ((d : Int) + 48)] W fun e w' => e = .returned (.bool true) ∧ w' = W by
  have := Zbe ((d : Int) + 48) W (by omega) (by omega)
  rw [show Tk.isD ((d : Int) + 48) = true by unfold Tk.isD; simp; omega] at this
  exact this)
 clear h ht htt
 go_enter Tryz.func130, Tryz.ntmps130
 go_wp2_with fail
 refine (uh HT).mono ?_
 rintro r w1 ⟨rfl, hb1⟩
 have hJ1 := (uh HJ).below hb1
 have HN := Hd (hJ1.next (i + 1) (by omega) (z := (i : Int) + 1) (by omega))
 have HU := Hd ((Tp.Tu.of_below (D := ZaA bp) hb1).set (b := bp) (o := 1) (.int .i64 ((i : Int) + 1)) (fun _ => rfl))
 clear hb1
 have hlt1 := hJ1.lt
 obtain ⟨c0, c1, c2, c3, fz⟩ := hJ1.p
 clear hJ1
 have hs1 : (0 : Int) < (t.size : Int) := by omega
 have hg1 := hg hs0
 have hn0 : t.toList ≠ [] := by intro hh; rw [hh] at h2; cases h2
 go_wp2_with fail
 refine ((uh HD) _).mono ?_
 rintro r w2 ⟨rfl, hw2⟩
 obtain rfl : w1 = w2 := hw2.symm
 go_wp2_with fail
 go_loop [5, 4] (fun kv nv => (kv = .int .i64 0 ∧ nv = .int .i64 0) ∨ (kv = .int .i64 1 ∧ nv = .int .i64 (d : Nat))) (fun kv _ => 1 - (intOf kv).toNat)
 case atStart => exact .inl ⟨rfl, rfl⟩
 case round =>
  rcases hrel with ⟨rfl, rfl⟩ | ⟨rfl, rfl⟩
  · go_wp2_with fail
    go_round
    case rel => exact .inr ⟨by go_num, by go_num⟩
    case measure => simp [intOf]
  have hk2 : ¬ (1 : Int) < (t.size : Int) := by omega
  go_wp2_with fail
  go_ret
  exact ⟨rfl, by simpa using uh HN, uh HU⟩
end
def Rp.Out (l : List Tp.T) (ta : Option Addr) (c bp : Nat) (e : Int) (D : Nat → Prop) (w : World) {α : Type} (good : α → Ending → World → Prop) (x : α) (j : Nat) (r : Ending) (w' : World) : Prop :=
 good x r w' ∧ Rp.J l ta c bp e w' j ∧ Tp.Tu D w.heap.size w w'
structure Rp.Nm (t : ByteArray) : Prop where
 nm : Zam t = true
 ne40 : (t.toList == [40]) = false
 ne45 : (t.toList == [45]) = false
 ne : t.toList.isEmpty = false
 pos : 0 < t.size
 dg : ∀ h : 0 < t.size, Tk.isD (t[0].toNat : Int) = false
def ZjE : Nat → ByteArray
 | 0 => ⟨#[43]⟩
 | 1 => ⟨#[45]⟩
 | 2 => ⟨#[42]⟩
 | 3 => ⟨#[47]⟩
 | 4 => ⟨#[37]⟩
 | 5 => ⟨#[60]⟩
 | _ => ⟨#[61, 61]⟩
theorem Zlh : ∀ k, k < 7 → ((⟨#[43]⟩ : ByteArray).toList == (ZjE k).toList) = decide (k = 0)
 | 0, _ => by show ((⟨#[43]⟩ : ByteArray).toList == (⟨#[43]⟩ : ByteArray).toList) = _; rw [ByteArray.toList_eq]; rfl
 | 1, _ => by show ((⟨#[43]⟩ : ByteArray).toList == (⟨#[45]⟩ : ByteArray).toList) = _; rw [ByteArray.toList_eq, ByteArray.toList_eq]; rfl
 | 2, _ => by show ((⟨#[43]⟩ : ByteArray).toList == (⟨#[42]⟩ : ByteArray).toList) = _; rw [ByteArray.toList_eq, ByteArray.toList_eq]; rfl
 | 3, _ => by show ((⟨#[43]⟩ : ByteArray).toList == (⟨#[47]⟩ : ByteArray).toList) = _; rw [ByteArray.toList_eq, ByteArray.toList_eq]; rfl
 | 4, _ => by show ((⟨#[43]⟩ : ByteArray).toList == (⟨#[37]⟩ : ByteArray).toList) = _; rw [ByteArray.toList_eq, ByteArray.toList_eq]; rfl
 | 5, _ => by show ((⟨#[43]⟩ : ByteArray).toList == (⟨#[60]⟩ : ByteArray).toList) = _; rw [ByteArray.toList_eq, ByteArray.toList_eq]; rfl
 | 6, _ => by show ((⟨#[43]⟩ : ByteArray).toList == (⟨#[61, 61]⟩ : ByteArray).toList) = _; rw [ByteArray.toList_eq, ByteArray.toList_eq]; rfl
 | k + 7, h => absurd h (by omega)
structure Rp.Sm (l : List Tp.T) (ta : Option Addr) (c bp : Nat) (e : Int) (n0 be b7 bs : Nat) (a : Int) (E : Tk.E) (d : Nat) (x : Zat d) (w : World) (j : Nat) (k : Int) (W : World) : Prop where
 J : Rp.J l ta c bp e W j
 X : Tp.X5 W n0 ⟨0, 0, 0, ⟨#[]⟩, ⟨none, 0, 0⟩⟩
 Eb : Tp.X5 W be ⟨k, a, 0, ⟨#[]⟩, ⟨none, 0, 0⟩⟩
 B7 : Tp.X5 W b7 E
 S : ∀ i, i < 7 → W.cell? ⟨bs, i, none⟩ = some (.string (ZjE i))
 T : Tp.Tu (ZaA bp) n0 w W
 O : Tp.Ow (be + 1) bp W (fun W => Tk.RE W d E x)
 lt : bs < W.heap.size
 o1 : bp < n0
 o2 : n0 < be
 o3 : be < b7
 o4 : b7 < bs
section
variable {l : List Tp.T} {ta : Option Addr} {c bp : Nat} {e : Int} {n0 be b7 bs : Nat} {a : Int} {E : Tk.E} {d : Nat} {x : Zat d} {w W W' : World} {j : Nat} {k : Int}
theorem Rp.Sm.below (h : Rp.Sm l ta c bp e n0 be b7 bs a E d x w j k W) (hb : Below W.heap.size W W') : Rp.Sm l ta c bp e n0 be b7 bs a E d x w j k W' :=
 ⟨h.J.below hb, h.X.below hb, h.Eb.below hb, h.B7.below hb, fun i hi => (hb.cell (p := ⟨bs, i, none⟩) h.lt).trans (h.S i hi), h.T.below hb (Nat.le_of_lt (Nat.lt_of_lt_of_le (Nat.lt_trans h.o2 (Nat.lt_trans h.o3 h.o4)) (Nat.le_of_lt h.lt))), h.O.go hb.size (fun q _ _ hq => hb.block q hq), Nat.lt_of_lt_of_le h.lt hb.size, h.o1, h.o2, h.o3, h.o4⟩
theorem Rp.Sm.tu (h : Rp.Sm l ta c bp e n0 be b7 bs a E d x w j k W) {j' : Nat} (hj : Rp.J l ta c bp e W' j') (ht : Tp.Tu (ZaA bp) W.heap.size W W') : Rp.Sm l ta c bp e n0 be b7 bs a E d x w j' k W' :=
 have o1 := h.o1; have o2 := h.o2; have o3 := h.o3; have o4 := h.o4
 ⟨hj, h.X.tu ht (show ¬ n0 = bp by omega), h.Eb.tu ht (show ¬ be = bp by omega), h.B7.tu ht (show ¬ b7 = bp by omega), fun i hi => (ht.cell (q := bs) (o := i) h.lt (show ¬ bs = bp by omega)).trans (h.S i hi), h.T.then ht (by have := h.lt; omega) (fun _ _ h => h), h.O.tu ht Zl (fun q hq => Or.inr hq), Nat.lt_of_lt_of_le h.lt ht.size, o1, o2, o3, o4⟩
theorem Rp.Sm.kind (h : Rp.Sm l ta c bp e n0 be b7 bs a E d x w j k W) (z : Int) : Rp.Sm l ta c bp e n0 be b7 bs a E d x w j z (W.setCell ⟨be, 0, none⟩ (.int .i64 z)) :=
 have o1 := h.o1; have o2 := h.o2; have o3 := h.o3; have o4 := h.o4
 have hk : ∀ q, q ≠ be → (W.setCell ⟨be, 0, none⟩ (.int .i64 z)).heap[q]? = W.heap[q]? := fun q hq => Below.heap_setCell _ _ _ _ hq
 ⟨h.J.set _ (by omega), h.X.kept (hk _ (by omega)), h.Eb.set0 z, h.B7.kept (hk _ (by omega)), fun i hi => (Zc (a := ⟨bs, i, none⟩) (hk bs (by omega))).trans (h.S i hi), h.T.set _ (by omega), h.O.go (by simp [World.setCell]) (fun q h1 _ _ => hk q (by omega)), by simpa [World.setCell] using h.lt, o1, o2, o3, o4⟩
end
section
variable (l : List Tp.T) (ta : Option Addr) (c bp : Nat) (e : Int)
theorem Zgo (i : Nat) (w : World) (h : Rp.J l ta c bp e w i) (hi : i < l.length) (t : ByteArray) (ht : (Tp.tk l i).t = t) (hn : Rp.Nm t) (hno : ((Tp.tk l (i + 1)).t.toList == [91]) = false) (deep : Int) (d : Nat) :
  Calls Tryz.prog 81 #[.pointer (some ⟨bp, 0, none⟩), .int .i64 deep] w (Rp.Out l ta c bp e (ZaA bp) w (ZeB w.heap.size bp (d + 1)) ((2, Zaz l e i, 0, t), []) (i + 1)) := by
 have HNB := Hd hn.nm
 have hnl : t.size ≤ maxLen := ht ▸ h.fine.txt i
 have HNL := Hd hnl
 obtain ⟨-, f40, f45, fe, fp, fd⟩ := hn
 have fd := fd fp
 have fe2 : t.toList ≠ [] := by intro hh; rw [hh] at fe; cases fe
 have HT := Hd ht
 have HNO := Hd hno
 clear hno ht hnl
 have hlt := h.lt
 have hbA := (Below.refl w.heap.size w).alloc Zl (Obj.cells #[.int .i64 0, .int .i64 0, .int .i64 0, .string ⟨#[]⟩, .slice none 0 0] 52)
 have HA := Hd (ZcE l ta c bp e i _ (h.below hbA))
 have HX := Hd (Tp.X5.new w Tk.E.zero)
 have HB := Hd hbA
 have HJ := Hd (h.below hbA)
 have hsa : (w.alloc (Obj.cells #[.int .i64 0, .int .i64 0, .int .i64 0, .string ⟨#[]⟩, .slice none 0 0] 52)).heap.size = w.heap.size + 1 := by simp
 obtain ⟨a, ha⟩ : ∃ a, Zaz l e i = a := ⟨_, rfl⟩
 rw [ha] at HA
 rw [ha]
 clear h hbA ha
 go_enter Tryz.func81, Tryz.ntmps81
 go_wp2_with fail
 unfold Tk.E.zero at HX
 dsimp only at HX
 generalize (w.alloc (Obj.cells #[.int .i64 0, .int .i64 0, .int .i64 0, .string ⟨#[]⟩, .slice none 0 0] 52)) = wa at *
 refine (uh HA).mono ?_
 rintro r w1 ⟨rfl, hb1⟩
 have hs1 := hb1.size
 have hbN := (Below.refl w1.heap.size w1).alloc Zl (Obj.cells #[.int .i64 1, .int .i64 a, .int .i64 0, .string ⟨#[]⟩, .slice none 0 0] 52)
 have HX1 := Hd (((uh HX).below hb1).below hbN)
 have HE1 := Hd (Tp.X5.new w1 ⟨1, a, 0, ⟨#[]⟩, ⟨none, 0, 0⟩⟩)
 have HJ1 := Hd (((uh HJ).below hb1).below hbN)
 have HT1 := Hd (Tp.Tu.of_below (D := ZaA bp) (((uh HB).trans (hb1.mono (by omega))).trans (hbN.mono (by omega))))
 have hs2 : (w1.alloc (Obj.cells #[.int .i64 1, .int .i64 a, .int .i64 0, .string ⟨#[]⟩, .slice none 0 0] 52)).heap.size = w1.heap.size + 1 := by simp
 dsimp only at HE1
 clear hb1 hbN HX HJ HB HA
 go_wp2_with fail
 generalize hw2 : (w1.alloc (Obj.cells #[.int .i64 1, .int .i64 a, .int .i64 0, .string ⟨#[]⟩, .slice none 0 0] 52)) = w2 at *
 clear hw2
 generalize w1.heap.size = be at *
 refine (ZaF l ta c bp e i w2 (uh HJ1)).mono ?_
 rintro r w3 ⟨rfl, hb3⟩
 have HX3 := Hd ((uh HX1).below hb3)
 have HE3 := Hd ((uh HE1).below hb3)
 have HJ3 := Hd ((uh HJ1).below hb3)
 have HT3 := Hd ((uh HT1).below hb3 (by omega))
 have hs3 := hb3.size
 clear hb3 HX1 HE1 HJ1 HT1
 rw [uh HT]
 have fp1 : (0 : Int) < (t.size : Int) := by omega
 go_wp2_with fail
 refine (Zbe _ w3 (by omega) (by have := t[0].toNat_lt; omega)).mono ?_
 rintro r w4 ⟨rfl, hw4⟩
 obtain rfl : w3 = w4 := hw4.symm
 rw [fd]
 obtain ⟨n0, n1, n2, n3, n4, nf⟩ := uh HE3
 dsimp only at n0 n1 n2 n3 n4
 have HX5 := Hd ((uh HX3).kept (Below.heap_setCell w3 ⟨be, 0, none⟩ (.int .i64 2) w.heap.size (show w.heap.size ≠ be by omega)))
 have HE5 := Hd ((uh HE3).set0 2)
 have HJ5 := Hd ((uh HJ3).set (q := be) (o := 0) (.int .i64 2) (by omega))
 have HT5 := Hd ((uh HT3).set (b := be) (o := 0) (.int .i64 2) (by omega))
 have hs5 : (w3.setCell ⟨be, 0, none⟩ (.int .i64 2)).heap.size = w3.heap.size := by simp [World.setCell]
 clear HX3 HE3 HJ3 HT3
 go_wp2_with fail
 generalize w3.setCell ⟨be, 0, none⟩ (.int .i64 2) = w5 at *
 clear n0 n1 n2 n3 n4 nf
 refine (Zdz l ta c bp e i w5 (uh HJ5) hi (by rw [uh HT]; exact uh HNB)).mono ?_
 rintro r w6 ⟨rfl, hj, ht6⟩
 rw [uh HT]
 have hX6 := (uh HX5).tu ht6 (show ¬ w.heap.size = bp by omega)
 have hE6 := (uh HE5).tu ht6 (show ¬ be = bp by omega)
 have hs6 := ht6.size
 have HT6 := Hd (((uh HT5).then ht6 (by omega) (fun _ _ h => h)).set (b := be) (o := 3) (.string t) (by omega))
 have HJ6 := Hd (hj.set (q := be) (o := 3) (.string t) (by omega))
 have HE6 := Hd (hE6.set3 t)
 have HX6 := Hd (hX6.kept (Below.heap_setCell w6 ⟨be, 3, none⟩ (.string t) w.heap.size (show w.heap.size ≠ be by omega)))
 have hs7 : (w6.setCell ⟨be, 3, none⟩ (.string t)).heap.size = w6.heap.size := by simp [World.setCell]
 obtain ⟨n0, n1, n2, n3, n4, nf⟩ := hE6
 clear hj ht6 HX5 HE5 HJ5 HT5 hX6
 go_wp2_with fail
 generalize w6.setCell ⟨be, 3, none⟩ (.string t) = w7 at *
 clear n0 n1 n2 n3 n4 nf
 refine (ZaF l ta c bp e (i + 1) w7 (uh HJ6)).mono ?_
 rintro r w8 ⟨rfl, hb8⟩
 have HT8 := Hd ((uh HT6).below hb8 (by omega))
 have HJ8 := Hd ((uh HJ6).below hb8)
 have hXb := (uh HX6).below hb8
 have hEb := (uh HE6).below hb8
 have hs8 := hb8.size
 have hno := uh HNO
 have hno2 : ¬ (Tp.tk l (i + 1)).t.toList = [91] := by simpa using hno
 clear hb8 HT6 HJ6 HX6 HE6
 have hkV : ∀ q, q ≠ be → w8.heap[q]? = w8.heap[q]? := fun q hq => rfl
 have hsV : w8.heap.size = w8.heap.size := rfl
 have HJV := Hd (uh HJ8)
 have HTV := Hd (uh HT8)
 have HP := Hd ((hXb.kept (hkV w.heap.size (by omega))).put ⟨2, a, 0, t, ⟨none, 0, 0⟩⟩)
 dsimp only at HP
 obtain ⟨n0, n1, n2, n3, n4, nf⟩ := hEb
 obtain ⟨x0, x1, x2, x3, x4, xf⟩ := hXb
 dsimp only at n0 n1 n2 n3 n4
 have hne1 : w.heap.size ≠ be := by omega
 have hne2 : be ≠ w.heap.size := by omega
 clear hkV hsV
 go_wp2_with fail
 obtain ⟨⟨s0, s1, s2, s3, s4, sf⟩, hsS, hkS, htS⟩ := uh HP
 dsimp only at s0 s1 s2 s3 s4
 refine bodyPost_ret (v := .agg #[.int .i64 2, .int .i64 a, .int .i64 0, .string t, .slice none 0 0]) (by simp [results, Tryz.results81, go_sem, s0, s1, s2, s3, s4]) rfl ?_
 exact ⟨⟨⟨2, a, 0, t, ⟨none, 0, 0⟩⟩, rfl, ((ZcP (be + 1) bp d w8 2 a 0 t (uh HNL)).go (by omega) (fun q h1 _ _ => hkS q (by omega))).wide (by omega) (by omega) (Or.inl (by omega))⟩, (uh HJV).kept (by omega) (fun q hq => hkS q (by omega)), (uh HTV).trans (htS _ _ Zl)⟩
theorem ZfN (i : Nat) (w : World) (h : Rp.J l ta c bp e w i) (hi : i < l.length) (v : Nat) (hv : v < 10) (ht : (Tp.tk l i).t = ⟨#[UInt8.ofNat (v + 48)]⟩) (deep : Int) (d : Nat) :
  Calls Tryz.prog 81 #[.pointer (some ⟨bp, 0, none⟩), .int .i64 deep] w (Rp.Out l ta c bp e (ZaA bp) w (ZeB w.heap.size bp (d + 1)) ((1, Zaz l e i, (v : Nat), ⟨#[]⟩), []) (i + 1)) := by
 have HT := Hd ht
 obtain ⟨t, htt, f40, f45, fe, fp, fg, -⟩ := ZdE v hv
 rw [← htt] at ht
 replace HT := Hd ht
 have HTT := Hd htt
 have fg := fg fp
 have fe2 : t.toList ≠ [] := by intro hh; rw [hh] at fe; cases fe
 clear ht htt
 have hlt := h.lt
 have hbA := (Below.refl w.heap.size w).alloc Zl (Obj.cells #[.int .i64 0, .int .i64 0, .int .i64 0, .string ⟨#[]⟩, .slice none 0 0] 52)
 have HA := Hd (ZcE l ta c bp e i _ (h.below hbA))
 have HX := Hd (Tp.X5.new w Tk.E.zero)
 have HB := Hd hbA
 have HJ := Hd (h.below hbA)
 have hsa : (w.alloc (Obj.cells #[.int .i64 0, .int .i64 0, .int .i64 0, .string ⟨#[]⟩, .slice none 0 0] 52)).heap.size = w.heap.size + 1 := by simp
 obtain ⟨a, ha⟩ : ∃ a, Zaz l e i = a := ⟨_, rfl⟩
 rw [ha] at HA
 rw [ha]
 clear h hbA ha
 go_enter Tryz.func81, Tryz.ntmps81
 go_wp2_with fail
 unfold Tk.E.zero at HX
 dsimp only at HX
 generalize (w.alloc (Obj.cells #[.int .i64 0, .int .i64 0, .int .i64 0, .string ⟨#[]⟩, .slice none 0 0] 52)) = wa at *
 refine (uh HA).mono ?_
 rintro r w1 ⟨rfl, hb1⟩
 have hs1 := hb1.size
 have hbN := (Below.refl w1.heap.size w1).alloc Zl (Obj.cells #[.int .i64 1, .int .i64 a, .int .i64 0, .string ⟨#[]⟩, .slice none 0 0] 52)
 have HX1 := Hd (((uh HX).below hb1).below hbN)
 have HE1 := Hd (Tp.X5.new w1 ⟨1, a, 0, ⟨#[]⟩, ⟨none, 0, 0⟩⟩)
 have HJ1 := Hd (((uh HJ).below hb1).below hbN)
 have HT1 := Hd (Tp.Tu.of_below (D := ZaA bp) (((uh HB).trans (hb1.mono (by omega))).trans (hbN.mono (by omega))))
 have hs2 : (w1.alloc (Obj.cells #[.int .i64 1, .int .i64 a, .int .i64 0, .string ⟨#[]⟩, .slice none 0 0] 52)).heap.size = w1.heap.size + 1 := by simp
 dsimp only at HE1
 clear hb1 hbN HX HJ HB HA
 go_wp2_with fail
 generalize hw2 : (w1.alloc (Obj.cells #[.int .i64 1, .int .i64 a, .int .i64 0, .string ⟨#[]⟩, .slice none 0 0] 52)) = w2 at *
 clear hw2
 generalize w1.heap.size = be at *
 refine (ZaF l ta c bp e i w2 (uh HJ1)).mono ?_
 rintro r w3 ⟨rfl, hb3⟩
 have HX3 := Hd ((uh HX1).below hb3)
 have HE3 := Hd ((uh HE1).below hb3)
 have HJ3 := Hd ((uh HJ1).below hb3)
 have HT3 := Hd ((uh HT1).below hb3 (by omega))
 have hs3 := hb3.size
 clear hb3 HX1 HE1 HJ1 HT1
 rw [uh HT]
 have fp1 : (0 : Int) < (t.size : Int) := by omega
 go_wp2_with fail
 refine (Zbe _ w3 (by omega) (by omega)).mono ?_
 rintro r w4 ⟨rfl, hw4⟩
 obtain rfl : w3 = w4 := hw4.symm
 rw [show Tk.isD ((v : Int) + 48) = true by unfold Tk.isD; simp; omega]
 go_wp2_with fail
 refine (ZjS l ta c bp e i w3 (uh HJ3) hi v hv (by rw [uh HT, uh HTT])).mono ?_
 rintro r w6 ⟨rfl, hj, ht6⟩
 have hXb := (uh HX3).tu ht6 (show ¬ w.heap.size = bp by omega)
 have hEb := (uh HE3).tu ht6 (show ¬ be = bp by omega)
 have hs6 := ht6.size
 have HT6 := Hd ((uh HT3).then ht6 (by omega) (fun _ _ h => h))
 have HJ6 := Hd hj
 clear hj ht6 HX3 HE3 HJ3 HT3
 have hkV : ∀ q, q ≠ be → (w6.setCell ⟨be, 2, none⟩ (.int .i64 (v : Nat))).heap[q]? = w6.heap[q]? := fun q hq => Below.heap_setCell _ _ _ _ hq
 have HKV := Hd hkV
 have hsV : (w6.setCell ⟨be, 2, none⟩ (.int .i64 (v : Nat))).heap.size = w6.heap.size := by simp [World.setCell]
 have HJV := Hd ((uh HJ6).set (q := be) (o := 2) (.int .i64 (v : Nat)) (by omega))
 have HTV := Hd ((uh HT6).set (b := be) (o := 2) (.int .i64 (v : Nat)) (by omega))
 have HP := Hd ((hXb.kept (hkV w.heap.size (by omega))).put ⟨1, a, (v : Nat), ⟨#[]⟩, ⟨none, 0, 0⟩⟩)
 dsimp only at HP
 obtain ⟨n0, n1, n2, n3, n4, nf⟩ := hEb
 obtain ⟨x0, x1, x2, x3, x4, xf⟩ := hXb
 dsimp only at n0 n1 n2 n3 n4
 have hne1 : w.heap.size ≠ be := by omega
 have hne2 : be ≠ w.heap.size := by omega
 have HSV := Hd hsV
 clear hkV hsV
 go_wp2_with fail
 have hsV := uh HSV
 obtain ⟨⟨s0, s1, s2, s3, s4, sf⟩, hsS, hkS, htS⟩ := uh HP
 dsimp only at s0 s1 s2 s3 s4
 refine bodyPost_ret (v := .agg #[.int .i64 1, .int .i64 a, .int .i64 (v : Nat), .string ⟨#[]⟩, .slice none 0 0]) (by simp [results, Tryz.results81, go_sem, s0, s1, s2, s3, s4]) rfl ?_
 exact ⟨⟨⟨1, a, (v : Nat), ⟨#[]⟩, ⟨none, 0, 0⟩⟩, rfl, ((ZcP (be + 1) bp d w6 1 a (v : Nat) ⟨#[]⟩ (by decide)).go (by omega) (fun q h1 _ _ => (hkS q (by omega)).trans ((uh HKV) q (by omega)))).wide (by omega) (by omega) (Or.inl (by omega))⟩, (uh HJV).kept (by omega) (fun q hq => hkS q (by omega)), (uh HTV).trans (htS _ _ Zl)⟩
theorem Zlo (i j : Nat) (w : World) (h : Rp.J l ta c bp e w i) (h40 : (Tp.tk l i).t = ⟨#[40]⟩) (hij : i + 1 < j) (hj1 : j + 1 < l.length) (h43 : (Tp.tk l j).t = ⟨#[43]⟩) (k2 : Nat) (hk2 : k2 < l.length) (hjk : j < k2) (h41 : (Tp.tk l k2).t = ⟨#[41]⟩) (d : Nat) (x y : Zat d)
  (HXA : ∀ W, Rp.J l ta c bp e W (i + 1) → Calls Tryz.prog 81 #[.pointer (some ⟨bp, 0, none⟩), .int .i64 1] W (Rp.Out l ta c bp e (ZaA bp) W (ZeB W.heap.size bp d) x j))
  (HXB : ∀ W, Rp.J l ta c bp e W (j + 1) → Calls Tryz.prog 81 #[.pointer (some ⟨bp, 0, none⟩), .int .i64 1] W (Rp.Out l ta c bp e (ZaA bp) W (ZeB W.heap.size bp d) y k2)) :
  Calls Tryz.prog 81 #[.pointer (some ⟨bp, 0, none⟩), .int .i64 0] w (Rp.Out l ta c bp e (ZaA bp) w (ZeB w.heap.size bp (d + 1)) ((4, Zaz l e i, 0, ⟨#[]⟩), [x, y]) (k2 + 1)) := by
 have H40 := Hd h40
 have H43 := Hd h43
 have H41 := Hd h41
 have HRA := Hd HXA
 have HRB := Hd HXB
 clear h40 h43 h41 HXA HXB
 have hlt := h.lt
 have hbA := (Below.refl w.heap.size w).alloc Zl (Obj.cells #[.int .i64 0, .int .i64 0, .int .i64 0, .string ⟨#[]⟩, .slice none 0 0] 52)
 have HA := Hd (ZcE l ta c bp e i _ (h.below hbA))
 have HX := Hd (Tp.X5.new w Tk.E.zero)
 have HB := Hd hbA
 have HJ := Hd (h.below hbA)
 have hsa : (w.alloc (Obj.cells #[.int .i64 0, .int .i64 0, .int .i64 0, .string ⟨#[]⟩, .slice none 0 0] 52)).heap.size = w.heap.size + 1 := by simp
 obtain ⟨a, ha⟩ : ∃ a, Zaz l e i = a := ⟨_, rfl⟩
 rw [ha] at HA
 rw [ha]
 clear h hbA ha
 go_enter Tryz.func81, Tryz.ntmps81
 go_wp2_with fail
 unfold Tk.E.zero at HX
 dsimp only at HX
 generalize (w.alloc (Obj.cells #[.int .i64 0, .int .i64 0, .int .i64 0, .string ⟨#[]⟩, .slice none 0 0] 52)) = wa at *
 refine (uh HA).mono ?_
 rintro r w1 ⟨rfl, hb1⟩
 have hs1 := hb1.size
 have hbN := (Below.refl w1.heap.size w1).alloc Zl (Obj.cells #[.int .i64 1, .int .i64 a, .int .i64 0, .string ⟨#[]⟩, .slice none 0 0] 52)
 have HX1 := Hd (((uh HX).below hb1).below hbN)
 have HE1 := Hd (Tp.X5.new w1 ⟨1, a, 0, ⟨#[]⟩, ⟨none, 0, 0⟩⟩)
 have HJ1 := Hd (((uh HJ).below hb1).below hbN)
 have HT1 := Hd (Tp.Tu.of_below (D := ZaA bp) (((uh HB).trans (hb1.mono (by omega))).trans (hbN.mono (by omega))))
 have hs2 : (w1.alloc (Obj.cells #[.int .i64 1, .int .i64 a, .int .i64 0, .string ⟨#[]⟩, .slice none 0 0] 52)).heap.size = w1.heap.size + 1 := by simp
 dsimp only at HE1
 clear hb1 hbN HX HJ HB HA
 go_wp2_with fail
 generalize hw2 : (w1.alloc (Obj.cells #[.int .i64 1, .int .i64 a, .int .i64 0, .string ⟨#[]⟩, .slice none 0 0] 52)) = w2 at *
 clear hw2
 generalize w1.heap.size = be at *
 refine (ZaF l ta c bp e i w2 (uh HJ1)).mono ?_
 rintro r w3 ⟨rfl, hb3⟩
 have HX3 := Hd ((uh HX1).below hb3)
 have HE3 := Hd ((uh HE1).below hb3)
 have HJ3 := Hd ((uh HJ1).below hb3)
 have HT3 := Hd ((uh HT1).below hb3 (by omega))
 have hs3 := hb3.size
 clear hb3 HX1 HE1 HJ1 HT1
 rw [uh H40]
 go_wp2_with fail
 refine (Za3 l ta c bp e ⟨#[40]⟩ i w3 (uh HJ3) (by omega) (by unfold Zal; rw [uh H40]; exact beq_self_eq_true _)).mono ?_
 rintro r w4 ⟨rfl, hj, ht4⟩
 have HX4 := Hd ((uh HX3).tu ht4 (show ¬ w.heap.size = bp by omega))
 have HE4 := Hd ((uh HE3).tu ht4 (show ¬ be = bp by omega))
 have hs4 := ht4.size
 have HT4 := Hd ((uh HT3).then ht4 (by omega) (fun _ _ h => h))
 have HJ4 := Hd hj
 clear hj ht4 HX3 HE3 HJ3 HT3
 go_wp2_with fail
 refine ((uh HRA) w4 (uh HJ4)).mono ?_
 rintro r w5 ⟨⟨E, rfl, hro⟩, hj, ht5⟩
 have hs5 := ht5.size
 have hbN := (Below.refl w5.heap.size w5).alloc Zl (Obj.cells #[.int .i64 E.k, .int .i64 E.a, .int .i64 E.n, .string E.nm, .slice E.args.ad E.args.len E.args.cap] 52)
 have HX6 := Hd (((uh HX4).tu ht5 (show ¬ w.heap.size = bp by omega)).below hbN)
 have HE6 := Hd (((uh HE4).tu ht5 (show ¬ be = bp by omega)).below hbN)
 have HT6 := Hd (((uh HT4).then ht5 (by omega) (fun _ _ h => h)).below hbN (by omega))
 have HJ6 := Hd (hj.below hbN)
 have HL6 := Hd (Tp.X5.new w5 E)
 have HR6 := Hd ((hro.wide (B' := be + 1) (g' := bp) (by omega) (by omega) (Or.inl (by omega))).go hbN.size (fun q _ _ hq => hbN.block q hq))
 have hs6 : (w5.alloc (Obj.cells #[.int .i64 E.k, .int .i64 E.a, .int .i64 E.n, .string E.nm, .slice E.args.ad E.args.len E.args.cap] 52)).heap.size = w5.heap.size + 1 := by simp
 clear hj ht5 hro hbN HX4 HE4 HJ4 HT4
 go_upto_region 20 with fail
 generalize hB6 : (w5.alloc (Obj.cells #[.int .i64 E.k, .int .i64 E.a, .int .i64 E.n, .string E.nm, .slice E.args.ad E.args.len E.args.cap] 52)) = w6 at *
 clear hB6
 obtain ⟨n0, n1, n2, n3, n4, nf⟩ := uh HE6
 dsimp only at n0 n1 n2 n3 n4
 have hbl : bp < w.heap.size ∧ w.heap.size < be ∧ be < w5.heap.size := ⟨hlt, by omega, by omega⟩
 have hs7 : (w6.setCell ⟨be, 0, none⟩ (.int .i64 0)).heap.size = w5.heap.size + 1 := by simp [World.setCell]; omega
 have hkz : ∀ q, q ≠ be → (w6.setCell ⟨be, 0, none⟩ (.int .i64 0)).heap[q]? = w6.heap[q]? := fun q hq => Below.heap_setCell _ _ _ _ hq
 have HJ7 := Hd ((uh HJ6).set (q := be) (o := 0) (.int .i64 0) (by omega))
 have HX7 := Hd ((uh HX6).kept (hkz w.heap.size (by omega)))
 have HE7 := Hd ((uh HE6).set0 0)
 have HL7 := Hd ((uh HL6).kept (hkz w5.heap.size (by omega)))
 have HT7 := Hd ((uh HT6).set (b := be) (o := 0) (.int .i64 0) (by omega))
 have HR7 := Hd ((uh HR6).go (Nat.le_of_eq (by simp [World.setCell])) (fun q h1 _ hq => hkz q (by omega)))
 clear hkz HX6 HE6 HJ6 HT6 HL6 HR6
 go_upto_region 21 with fail
 generalize (w6.setCell ⟨be, 0, none⟩ (.int .i64 0)) = w7 at *
 clear n0 n1 n2 n3 n4 nf
 have hbM := (Below.refl w7.heap.size w7).alloc Zl (Obj.cells #[.string ⟨#[43]⟩, .string ⟨#[45]⟩, .string ⟨#[42]⟩, .string ⟨#[47]⟩, .string ⟨#[37]⟩, .string ⟨#[60]⟩, .string ⟨#[61, 61]⟩] 9)
 have HSM := Hd (show Rp.Sm l ta c bp e w.heap.size be w5.heap.size (w5.heap.size + 1) a E d x w j 0 (w7.alloc (Obj.cells #[.string ⟨#[43]⟩, .string ⟨#[45]⟩, .string ⟨#[42]⟩, .string ⟨#[47]⟩, .string ⟨#[37]⟩, .string ⟨#[60]⟩, .string ⟨#[61, 61]⟩] 9)) from ⟨(uh HJ7).below hbM, (uh HX7).below hbM, (uh HE7).below hbM, (uh HL7).below hbM, fun k hk => by
   have e : (w7.alloc (Obj.cells #[.string ⟨#[43]⟩, .string ⟨#[45]⟩, .string ⟨#[42]⟩, .string ⟨#[47]⟩, .string ⟨#[37]⟩, .string ⟨#[60]⟩, .string ⟨#[61, 61]⟩] 9)).cell? ⟨w5.heap.size + 1, k, none⟩ = (#[.string ⟨#[43]⟩, .string ⟨#[45]⟩, .string ⟨#[42]⟩, .string ⟨#[47]⟩, .string ⟨#[37]⟩, .string ⟨#[60]⟩, .string ⟨#[61, 61]⟩] : Array Value)[k]? := by
    have := World.cell?_alloc_new w7 #[.string ⟨#[43]⟩, .string ⟨#[45]⟩, .string ⟨#[42]⟩, .string ⟨#[47]⟩, .string ⟨#[37]⟩, .string ⟨#[60]⟩, .string ⟨#[61, 61]⟩] 9 k
    rw [hs7] at this
    exact this
   rw [e]
   match k, hk with
   | 0, _ => rfl
   | 1, _ => rfl
   | 2, _ => rfl
   | 3, _ => rfl
   | 4, _ => rfl
   | 5, _ => rfl
   | 6, _ => rfl
   | k + 7, h => exact absurd h (by omega), (uh HT7).below hbM (by omega), (uh HR7).go hbM.size (fun q h1 _ hq => hbM.block q hq), by rw [World.size_alloc]; omega, hbl.1, hbl.2.1, hbl.2.2, Nat.lt_succ_self _⟩)
 clear hbM HX7 HE7 HJ7 HT7 HL7 HR7
 go_wp2_with fail
 generalize (w7.alloc (Obj.cells #[.string ⟨#[43]⟩, .string ⟨#[45]⟩, .string ⟨#[42]⟩, .string ⟨#[47]⟩, .string ⟨#[37]⟩, .string ⟨#[60]⟩, .string ⟨#[61, 61]⟩] 9)) = w8 at *
 go_loopw [9] (fun v wr => ∃ k : Nat, k ≤ 7 ∧ v = .int .i64 (k : Nat) ∧ Rp.Sm l ta c bp e w.heap.size be w5.heap.size (w5.heap.size + 1) a E d x w j (if k = 0 then 0 else 4) wr) (fun v _ => 7 - (intOf v).toNat)
 case atStart => exact ⟨0, by omega, rfl, uh HSM⟩
 case round =>
  obtain ⟨k, hk, rfl, hsm⟩ := hrel
  have HS := Hd hsm
  clear hsm HSM
  by_cases hk7 : k < 7
  · have hop := Zlh k hk7
    have hk0 : (0 : Int) ≤ (k : Int) := by omega
    have hk1 : (k : Int) < 7 := by omega
    have HSK := Hd (fun (V : World) (h : Rp.Sm l ta c bp e w.heap.size be w5.heap.size (w5.heap.size + 1) a E d x w j (if k = 0 then 0 else 4) V) => (show Rp.Sm l ta c bp e w.heap.size be w5.heap.size (w5.heap.size + 1) a E d x w j (if k = 0 then 0 else 4) V ∧ V.cell? ⟨w5.heap.size + 1, k, none⟩ = some (.string (ZjE k)) from ⟨h, h.S k hk7⟩))
    go_wp2_with fail
    go_cut [69] (fun v V => v = .bool (decide (k = 0)) ∧ Rp.Sm l ta c bp e w.heap.size be w5.heap.size (w5.heap.size + 1) a E d x w j (if k = 0 then 0 else 4) V)
    case first =>
     go_region_held3 (fun V => Rp.Sm l ta c bp e w.heap.size be w5.heap.size (w5.heap.size + 1) a E d x w j (if k = 0 then 0 else 4) V ∧ V.cell? ⟨w5.heap.size + 1, k, none⟩ = some (.string (ZjE k)))
      (first | assumption | exact (uh HSK) _ ((uh HS).below Zr.drew) | exact (uh HSK) _ (Rp.Sm.below (And.left (by assumption)) (uh HB5)))
      (first | (go_at_call 75; refine (ZaF l ta c bp e j _ (Rp.Sm.J (And.left (by assumption)))).mono ?_; rintro r w9 ⟨rfl, hb5⟩; have HB5 := Hd hb5; clear hb5))
     all_goals
      go_wp2_with fail
      go_meet
      case rel => exact ⟨by rw [uh H43]; exact congrArg Value.bool hop, And.left (by assumption)⟩
    case rest =>
     obtain ⟨rfl, hS⟩ := hcut
     have HSW := Hd hS
     clear HS HSK hop
     obtain ⟨n0, n1, n2, n3, n4, nf⟩ := hS.Eb
     dsimp only at n0 n1 n2 n3 n4
     clear hS
     by_cases hz : k = 0
     · subst hz
       go_wp2_with fail
       exact ⟨⟨1, by omega, by go_num, by simpa using (uh HSW).kind 4⟩, by simp [intOf]⟩
     have hdz : decide (k = 0) = false := decide_eq_false hz
     rw [if_neg hz] at HSW
     go_wp2_with fail
     exact ⟨⟨k + 1, by omega, by go_num, by rw [if_neg (Nat.succ_ne_zero k)]; exact uh HSW⟩, by simp [intOf]; omega⟩
  obtain rfl : k = 7 := by omega
  have hS := uh HS
  rw [if_neg (by decide)] at hS
  have HS7 := Hd hS
  obtain ⟨n0, n1, n2, n3, n4, nf⟩ := hS.Eb
  dsimp only at n0 n1 n2 n3 n4
  have t0 : wr.cell? ⟨w5.heap.size + 1, 0, none⟩ = some (.string ⟨#[43]⟩) := hS.S 0 (by decide)
  have hbz : w5.heap.size + 1 < wr.heap.size := hS.lt
  clear HS hS hk hk7
  go_wp2_with fail
  refine (Za3 l ta c bp e ⟨#[43]⟩ j wr (uh HS7).J (by omega) (by unfold Zal; rw [uh H43]; exact beq_self_eq_true _)).mono ?_
  rintro r w10 ⟨rfl, hj, ht⟩
  have hz10 := ht.size
  have HS10 := Hd ((uh HS7).tu hj ht)
  clear hj ht HS7 n0 n1 n2 n3 n4 nf t0
  go_wp2_with fail
  refine ((uh HRB) w10 (uh HS10).J).mono ?_
  rintro r w11 ⟨⟨F, rfl, hro⟩, hj, ht⟩
  have hz11 := ht.size
  have hbN := (Below.refl w11.heap.size w11).alloc Zl (Obj.cells #[.int .i64 F.k, .int .i64 F.a, .int .i64 F.n, .string F.nm, .slice F.args.ad F.args.len F.args.cap] 52)
  have HS12 := Hd (((uh HS10).tu hj ht).below hbN)
  have HF12 := Hd (Tp.X5.new w11 F)
  have HRF12 := Hd ((hro.wide (B' := be + 1) (g' := bp) (by omega) (by omega) (Or.inl (by omega))).go hbN.size (fun q _ _ hq => hbN.block q hq))
  have hz12 : (w11.alloc (Obj.cells #[.int .i64 F.k, .int .i64 F.a, .int .i64 F.n, .string F.nm, .slice F.args.ad F.args.len F.args.cap] 52)).heap.size = w11.heap.size + 1 := by simp
  clear hbN hro hj ht HS10
  go_upto_region 31 with fail
  generalize (w11.alloc (Obj.cells #[.int .i64 F.k, .int .i64 F.a, .int .i64 F.n, .string F.nm, .slice F.args.ad F.args.len F.args.cap] 52)) = w12 at *
  go_wp2_with fail
  refine (Za3 l ta c bp e ⟨#[41]⟩ k2 w12 (uh HS12).J hk2 (by unfold Zal; rw [uh H41]; exact beq_self_eq_true _)).mono ?_
  rintro r w13 ⟨rfl, hj, ht⟩
  have hz13 := ht.size
  have hS13 := (uh HS12).tu hj ht
  have hF13 := (uh HF12).tu ht (show ¬ w11.heap.size = bp by omega)
  have hRF13 := (uh HRF12).tu ht Zl (fun q hq => Or.inr hq)
  obtain ⟨m0, m1, m2, m3, m4, mf⟩ := hS13.B7
  obtain ⟨p0, p1, p2, p3, p4, pf⟩ := hF13
  have hbM := (Below.refl w13.heap.size w13).alloc Zl (Obj.cells #[.int .i64 E.k, .int .i64 E.a, .int .i64 E.n, .string E.nm, .slice E.args.ad E.args.len E.args.cap, .int .i64 F.k, .int .i64 F.a, .int .i64 F.n, .string F.nm, .slice F.args.ad F.args.len F.args.cap] 52)
  have hS14 := hS13.below hbM
  have hXb := hS14.X
  have hEb := hS14.Eb
  have hL : Tk.ELies (w13.alloc (Obj.cells #[.int .i64 E.k, .int .i64 E.a, .int .i64 E.n, .string E.nm, .slice E.args.ad E.args.len E.args.cap, .int .i64 F.k, .int .i64 F.a, .int .i64 F.n, .string F.nm, .slice F.args.ad F.args.len F.args.cap] 52)) w13.heap.size 0 E := ⟨by go_simp, by go_simp, by go_simp, by go_simp, by go_simp⟩
  have hF : Tk.ELies (w13.alloc (Obj.cells #[.int .i64 E.k, .int .i64 E.a, .int .i64 E.n, .string E.nm, .slice E.args.ad E.args.len E.args.cap, .int .i64 F.k, .int .i64 F.a, .int .i64 F.n, .string F.nm, .slice F.args.ad F.args.len F.args.cap] 52)) w13.heap.size 5 F := ⟨by go_simp, by go_simp, by go_simp, by go_simp, by go_simp⟩
  have HOW := Hd (Zhn (Tp.Ow.two (d := d) (x := x) (y := y) hL hF (show be + 1 ≤ w13.heap.size by have := hS13.lt; omega) (show bp < be + 1 by omega) hS14.O (hRF13.go hbM.size (fun q _ _ hq => hbM.block q hq))) 4 a 0 ⟨#[]⟩ (by decide))
  have HJ14 := Hd hS14.J
  have HT14 := Hd hS14.T
  have hz14 : (w13.alloc (Obj.cells #[.int .i64 E.k, .int .i64 E.a, .int .i64 E.n, .string E.nm, .slice E.args.ad E.args.len E.args.cap, .int .i64 F.k, .int .i64 F.a, .int .i64 F.n, .string F.nm, .slice F.args.ad F.args.len F.args.cap] 52)).heap.size = w13.heap.size + 1 := by simp
  clear hS13 hS14 hRF13 hbM hL hF hj ht HS12 HF12 HRF12
  have hkV : ∀ q, q ≠ be → ((w13.alloc (Obj.cells #[.int .i64 E.k, .int .i64 E.a, .int .i64 E.n, .string E.nm, .slice E.args.ad E.args.len E.args.cap, .int .i64 F.k, .int .i64 F.a, .int .i64 F.n, .string F.nm, .slice F.args.ad F.args.len F.args.cap] 52)).setCell ⟨be, 4, none⟩ (.slice (some ⟨w13.heap.size, 0, none⟩) 2 2)).heap[q]? = (w13.alloc (Obj.cells #[.int .i64 E.k, .int .i64 E.a, .int .i64 E.n, .string E.nm, .slice E.args.ad E.args.len E.args.cap, .int .i64 F.k, .int .i64 F.a, .int .i64 F.n, .string F.nm, .slice F.args.ad F.args.len F.args.cap] 52)).heap[q]? := fun q hq => Below.heap_setCell _ _ _ _ hq
  have HKV := Hd hkV
  have hsV : ((w13.alloc (Obj.cells #[.int .i64 E.k, .int .i64 E.a, .int .i64 E.n, .string E.nm, .slice E.args.ad E.args.len E.args.cap, .int .i64 F.k, .int .i64 F.a, .int .i64 F.n, .string F.nm, .slice F.args.ad F.args.len F.args.cap] 52)).setCell ⟨be, 4, none⟩ (.slice (some ⟨w13.heap.size, 0, none⟩) 2 2)).heap.size = (w13.alloc (Obj.cells #[.int .i64 E.k, .int .i64 E.a, .int .i64 E.n, .string E.nm, .slice E.args.ad E.args.len E.args.cap, .int .i64 F.k, .int .i64 F.a, .int .i64 F.n, .string F.nm, .slice F.args.ad F.args.len F.args.cap] 52)).heap.size := by simp [World.setCell]
  have HJV := Hd ((uh HJ14).set (q := be) (o := 4) (.slice (some ⟨w13.heap.size, 0, none⟩) 2 2) (by omega))
  have HTV := Hd ((uh HT14).set (b := be) (o := 4) (.slice (some ⟨w13.heap.size, 0, none⟩) 2 2) (by omega))
  have HP := Hd ((hXb.kept (hkV w.heap.size (by omega))).put ⟨4, a, 0, ⟨#[]⟩, ⟨some ⟨w13.heap.size, 0, none⟩, 2, 2⟩⟩)
  dsimp only at HP
  obtain ⟨n0, n1, n2, n3, n4, nf⟩ := hEb
  obtain ⟨x0, x1, x2, x3, x4, xf⟩ := hXb
  dsimp only at n0 n1 n2 n3 n4
  have hne1 : w.heap.size ≠ be := by omega
  have hne2 : be ≠ w.heap.size := by omega
  have HSV := Hd hsV
  clear hkV hsV
  go_wp2_with fail
  have hsV := uh HSV
  obtain ⟨⟨s0, s1, s2, s3, s4, sf⟩, hsS, hkS, htS⟩ := uh HP
  dsimp only at s0 s1 s2 s3 s4
  refine bodyPost_ret (v := .agg #[.int .i64 4, .int .i64 a, .int .i64 0, .string ⟨#[]⟩, .slice (some ⟨w13.heap.size, 0, none⟩) 2 2]) (by simp [results, Tryz.results81, go_sem, s0, s1, s2, s3, s4]) rfl ?_
  exact ⟨⟨⟨4, a, 0, ⟨#[]⟩, ⟨some ⟨w13.heap.size, 0, none⟩, 2, 2⟩⟩, rfl, ((uh HOW).go (by omega) (fun q h1 _ _ => (hkS q (by omega)).trans ((uh HKV) q (by omega)))).wide (by omega) (by omega) (Or.inl (by omega))⟩, (uh HJV).kept (by omega) (fun q hq => hkS q (by omega)), (uh HTV).trans (htS _ _ Zl)⟩
end
theorem Zfx {α : Type} {l : List α} {k : Nat} {x : α} (h : l[k]? = some x) : l.take k ++ [x] = l.take (k + 1) := by
 have hlt := (List.getElem?_eq_some_iff.1 h).1
 rw [List.take_succ_eq_append_getElem hlt, (List.getElem?_eq_some_iff.1 h).2]
theorem ZgD {W : World} {B : Nat} {ty : TypeId} {wide n m : Nat} {v : Value} {xs : List Value} (h : W.ownsRow B ty wide v n xs) (hn : n = m) : W.ownsRow B ty wide v m xs := hn ▸ h
section
variable (l : List Tp.T) (ta : Option Addr) (c bp : Nat) (e : Int)
theorem ZjG (i0 : Nat) (xs : List (ByteArray × Int)) (w : World) (h : Rp.J l ta c bp e w i0) (hfit : i0 + 3 * xs.length < l.length)
  (HT : ∀ k x, xs[k]? = some x → (Tp.tk l (i0 + 3 * k)).t = ⟨#[118, 97, 114]⟩ ∧ (Tp.tk l (i0 + 3 * k + 1)).t = x.1 ∧ Zam x.1 = true ∧ (Tp.tk l (i0 + 3 * k + 2)).t = ⟨#[59]⟩ ∧ x.2 = 0)
  (hv : ((Tp.tk l (i0 + 3 * xs.length)).t.toList == [118, 97, 114]) = false) (ha : ((Tp.tk l (i0 + 3 * xs.length)).t.toList == [97, 114, 114]) = false) :
  Calls Tryz.prog 79 #[.pointer (some ⟨bp, 0, none⟩)] w (Rp.Out l ta c bp e (ZaA bp) w (Tp.gV w.heap.size bp) xs (i0 + 3 * xs.length)) := by
 have hlt := h.lt
 have hll := h.fine.few
 have HTT := Hd HT
 have HV := Hd hv
 have HA := Hd ha
 have HJ0 := Hd h
 obtain ⟨t0, hi0, hz0, hz1', hz2⟩ := Tp.info_of ZfK
 have HI := Hd hi0
 have HZ0 := Hd hz0
 have HZ1 := Hd hz1'
 have HZ2 := Hd hz2
 clear hi0 hz0 hz1' hz2
 clear h HT hv ha
 go_enter Tryz.func79, Tryz.ntmps79
 go_wp2_with fail
 go_loopg [3] (xs.length + 1) (fun f lv wr => ∃ k : Nat, f + k = xs.length + 1 ∧ k ≤ xs.length ∧ Rp.J l ta c bp e wr (i0 + 3 * k) ∧ Tp.Tu (ZaA bp) w.heap.size w wr ∧ Tp.Rw w.heap.size bp wr 59 2 ZfT (fun _ => Zfe) lv (xs.take k) (xs.take k))
 case atStart => exact ⟨0, by omega, by omega, uh HJ0, Tp.Tu.refl _ _ _, Tp.Rw.nil _ _ _ _ _ _ _⟩
 case round =>
  clear HJ0
  obtain ⟨k, hfk, hk, hj, htu, hrw⟩ := hrel
  obtain ⟨f, rfl⟩ : ∃ f, gk = f + 1 := ⟨gk - 1, by omega⟩
  have hwz := htu.size
  have HJ := Hd hj
  have HTU := Hd htu
  have HRW := Hd hrw
  obtain ⟨ga, cap, rfl, hcap⟩ := hrw.form
  have hkl : (xs.take k).length = k := by rw [List.length_take]; omega
  rw [hkl]
  rw [hkl] at HRW hcap
  clear hj htu hrw hkl
  obtain ⟨c0, c1, c2, c3, cf⟩ := (uh HJ).p
  have hbp := (uh HJ).lt
  have HT1 := Hd (ZaF l ta c bp e (i0 + 3 * k) wr (uh HJ))
  by_cases hkn : k < xs.length
  · obtain ⟨x, hx⟩ : ∃ x, xs[k]? = some x := ⟨xs[k], Zg hkn⟩
    obtain ⟨q1, q2, q3, q4, q5⟩ := (uh HTT) k x hx
    have HX := Hd hx
    have tv : (Tp.tk l (i0 + 3 * k)).t.toList = [118, 97, 114] := by rw [q1, ByteArray.toList_eq]
    have tv1 : ((Tp.tk l (i0 + 3 * k)).t.toList == [118, 97, 114]) = true := by rw [tv]; rfl
    have ta1 : ((Tp.tk l (i0 + 3 * k)).t.toList == [97, 114, 114]) = false := by rw [tv]; rfl
    have ta2 : ¬ (Tp.tk l (i0 + 3 * k)).t.toList = [97, 114, 114] := by rw [tv]; decide
    have HT2 := Hd (fun (W : World) (hb : Below wr.heap.size wr W) => ZaF l ta c bp e (i0 + 3 * k) W ((uh HJ).below hb))
    have HND := Hd (fun (W : World) (hb : Below wr.heap.size wr W) => Za3 l ta c bp e (Tp.tk l (i0 + 3 * k)).t (i0 + 3 * k) W ((uh HJ).below hb) (by omega) (beq_self_eq_true _))
    have HQ2 := Hd q2
    have HQ3 := Hd q3
    have HQ4 := Hd q4
    have HQ5 := Hd q5
    clear hx q1 q2 q3 q4 q5
    generalize (Tp.tk l (i0 + 3 * k)).t = t at *
    go_wp2_with fail
    refine (uh HT1).mono ?_
    rintro r w1 ⟨rfl, hb⟩
    have HB := Hd hb
    clear hb HT1 c0 c1 c2 c3 cf
    go_wp2_with fail
    refine ((uh HT2) w1 (uh HB)).mono ?_
    rintro r w2 ⟨rfl, hb⟩
    replace HB := Hd ((uh HB).trans (hb.mono (uh HB).size))
    clear hb
    go_wp2_with fail
    refine ((uh HT2) w2 (uh HB)).mono ?_
    rintro r w3 ⟨rfl, hb⟩
    replace HB := Hd ((uh HB).trans (hb.mono (uh HB).size))
    clear hb
    go_wp2_with fail
    refine ((uh HND) w3 (uh HB)).mono ?_
    rintro r w4 ⟨rfl, hj, ht⟩
    have hbA := (Below.refl w4.heap.size w4).alloc Zl (Obj.cells #[.string ⟨#[]⟩, .int .i64 0] 59)
    have HX2 := Hd (show Tp.X2 (w4.alloc (Obj.cells #[.string ⟨#[]⟩, .int .i64 0] 59)) w4.heap.size ⟨#[]⟩ 0 from ⟨by go_simp, by go_simp, fun j => by go_simp⟩)
    have HU := Hd ((((Tp.Tu.of_below (D := ZaA bp) (uh HB)).then ht (uh HB).size (fun _ _ h => h))).below hbA (Nat.le_trans (uh HB).size ht.size))
    have HJ4 := Hd (hj.below hbA)
    have hs4 : wr.heap.size ≤ w4.heap.size := Nat.le_trans (uh HB).size ht.size
    have hsa : (w4.alloc (Obj.cells #[.string ⟨#[]⟩, .int .i64 0] 59)).heap.size = w4.heap.size + 1 := by simp
    clear hj ht hbA HB HT2 HND tv tv1 ta1 ta2
    go_wp2_with fail
    generalize (w4.alloc (Obj.cells #[.string ⟨#[]⟩, .int .i64 0] 59)) = wa at *
    refine (Zdz l ta c bp e (i0 + 3 * k + 1) wa (uh HJ4) (by omega) (by rw [uh HQ2]; exact uh HQ3)).mono ?_
    rintro r w5 ⟨rfl, hj, ht⟩
    rw [uh HQ2]
    have hX5 := (uh HX2).tu ht (show ¬ w4.heap.size = bp by omega)
    have hs5 := ht.size
    have HU5 := Hd (((uh HU).then ht (by omega) (fun _ _ h => h)).set (b := w4.heap.size) (o := 0) (.string x.1) (by omega))
    have HJ5 := Hd (hj.set (q := w4.heap.size) (o := 0) (.string x.1) (by omega))
    have HX5 := Hd (hX5.set0 x.1)
    have hss : (w5.setCell ⟨w4.heap.size, 0, none⟩ (.string x.1)).heap.size = w5.heap.size := by simp [World.setCell]
    obtain ⟨n0, n1, nf⟩ := hX5
    clear hj ht HX2 HU HJ4
    go_wp2_with fail
    generalize (w5.setCell ⟨w4.heap.size, 0, none⟩ (.string x.1)) = v5 at *
    clear n0 n1 nf
    refine (Za3 l ta c bp e ⟨#[59]⟩ (i0 + 3 * k + 1 + 1) v5 (uh HJ5) (by omega) (by unfold Zal; rw [show i0 + 3 * k + 1 + 1 = i0 + 3 * k + 2 from rfl, uh HQ4]; exact beq_self_eq_true _)).mono ?_
    rintro r w6 ⟨rfl, hj, ht⟩
    have hs6 := ht.size
    have hX6 := (uh HX5).tu ht (show ¬ w4.heap.size = bp by omega)
    have hU6 := (uh HU5).then ht (by omega) (fun _ _ h => h)
    have hbN := (Below.refl w6.heap.size w6).alloc Zl (Obj.cells #[.string x.1, .int .i64 x.2] 59)
    have hkr : ∀ q, (Value.slice ga k cap).ownBlock = some q → (w6.alloc (Obj.cells #[.string x.1, .int .i64 x.2] 59)).heap[q]? = wr.heap[q]? := fun q hq => by
     have h1 := (uh HRW).row.lt q hq
     exact (hbN.block q (by omega)).trans (hU6.block q h1.2 (by show ¬ q = bp; omega))
    have HRN := Hd ((uh HRW).keptV (by have := hbN.size; omega) hkr)
    have HT7 := Hd (((uh HTU).then hU6 hwz (fun _ _ h => h)).below hbN (by omega))
    have HJ7 := Hd (hj.below hbN)
    have HBK := Hd (heap_alloc_new w6 (Obj.cells #[.string x.1, .int .i64 x.2] 59))
    have hsb : (w6.alloc (Obj.cells #[.string x.1, .int .i64 x.2] 59)).heap.size = w6.heap.size + 1 := by simp
    have hkl : (xs.take k).length = k := by rw [List.length_take]; omega
    obtain ⟨n0, n1, nf⟩ := hX6
    have hx5 := uh HQ5
    obtain ⟨nm, z⟩ := x
    obtain rfl : z = 0 := hx5
    dsimp only at n0 n1 HRN HT7 HJ7 HBK hsb HX
    clear hj ht hbN hkr hU6 HX5 HU5 HJ5 hkl HQ5
    go_wp2_with (at_builtin; refine wpList_append_lies _ (by rfl) _ _ _ (by rfl) w.heap.size 59 t0 _ 2 24 Tryz.underlying48 (uh HI) (uh HZ0) (uh HZ1) (uh HZ2) rfl (by omega) (.slice ga k cap) k ((xs.take k).flatMap ZfT) (by rfl) (ZgD (uh HRN).row (by rw [List.length_take]; omega)) ⟨w6.heap.size, 0, none⟩ 1 1 [.string nm, .int .i64 0] (by rfl) (by rfl) (World.news_of_block (uh HBK)) (by simp [Value.oneCell']) (by omega) (by unfold maxLen; omega) (by omega) (by omega) (w6.heap.size + 1) (by omega) ?_; intro gA cA w8 hoA hgA hatA hltA; have HOA := Hd hoA; have HGA := Hd hgA; have HAT := Hd hatA; clear hatA hltA hoA hgA)
    have hgA := uh HGA
    have hrow := (uh HRN).row
    have hk8 : ∀ q, q < w.heap.size → w8.heap[q]? = (w6.alloc (Obj.cells #[.string nm, .int .i64 0] 59)).heap[q]? := fun q hq => hgA.block q (by omega) (fun e => by have := (hrow.lt q e.symm).1; omega)
    have hT8 : Tp.Tu (ZaA bp) w.heap.size w w8 := (uh HT7).trans ⟨hgA.os, hgA.tape, hgA.output, hgA.size, fun q h1 _ => hk8 q h1⟩
    have hJ8 := (uh HJ7).kept hgA.size (fun q hq => hk8 q (by omega))
    have hkl : (xs.take k).length = k := by rw [List.length_take]; omega
    have hnl : nm.size ≤ maxLen := by have h1 := (uh HJ).fine.txt (i0 + 3 * k + 1); rw [uh HQ2] at h1; exact h1
    have hR8 := (uh HRN).app (E := (nm, (0 : Int))) (x := (nm, (0 : Int))) (fun _ _ _ => ⟨rfl, hnl⟩) hgA.size (by omega) (fun q _ h2 h3 => hgA.block q h2 (fun e => h3 e.symm)) (by rw [hkl]; exact uh HOA) ((uh HAT).imp id (fun e => by rw [e, hsb]; exact Nat.le_refl _))
    rw [hkl, Zfx (uh HX)] at hR8
    go_roundg f
    case measure => omega
    case rel => exact ⟨k + 1, by omega, by omega, hJ8, hT8, hR8⟩
  obtain rfl : k = xs.length := by omega
  have tv1 := uh HV
  have ta1 := uh HA
  have tv2 : ¬ (Tp.tk l (i0 + 3 * xs.length)).t.toList = [118, 97, 114] := by simpa using tv1
  have ta2 : ¬ (Tp.tk l (i0 + 3 * xs.length)).t.toList = [97, 114, 114] := by simpa using ta1
  have HT2 := Hd (fun (W : World) (hb : Below wr.heap.size wr W) => ZaF l ta c bp e (i0 + 3 * xs.length) W ((uh HJ).below hb))
  generalize (Tp.tk l (i0 + 3 * xs.length)).t = t at *
  go_wp2_with fail
  refine (uh HT1).mono ?_
  rintro r w1 ⟨rfl, hb⟩
  have HB := Hd hb
  clear hb HT1 c0 c1 c2 c3 cf
  go_wp2_with fail
  refine ((uh HT2) w1 (uh HB)).mono ?_
  rintro r w2 ⟨rfl, hb⟩
  replace HB := Hd ((uh HB).trans (hb.mono (uh HB).size))
  clear hb
  go_wp2_with fail
  go_ret
  have hR := (uh HRW).keptV (uh HB).size (fun q hq => (uh HB).block q ((uh HRW).row.lt q hq).2)
  rw [List.take_length] at hR
  obtain ⟨s, hs, hos⟩ := hR.reads (lies := fun W => Zew W) (by omega) ZgJ ZfQ (by omega)
  exact ⟨⟨s, by rw [hs]; rfl, hos⟩, (uh HJ).below (uh HB), (uh HTU).below (uh HB) hwz⟩
theorem ZjA {n : Nat} (s : ByteArray) (p : Nat → Nat) (cs : List (Zap 61 n)) (w : World) (h : Rp.J l ta c bp e w (p 0)) (hfew : cs.length ≤ 10000)
  (HC : ∀ k x, cs[k]? = some x → ((Tp.tk l (p k)).t.toList == s.toList) = false ∧ ∀ W, Rp.J l ta c bp e W (p k) → Calls Tryz.prog 131 #[.pointer (some ⟨bp, 0, none⟩)] W (Rp.Out l ta c bp e (ZaA bp) W (Zip W.heap.size bp n) x (p (k + 1))))
  (he : ((Tp.tk l (p cs.length)).t.toList == s.toList) = true) :
  Calls Tryz.prog 80 #[.pointer (some ⟨bp, 0, none⟩), .string s] w (Rp.Out l ta c bp e (ZaA bp) w (Zma w.heap.size bp n) cs (p cs.length)) := by
 have hlt := h.lt
 have hll := h.fine.few
 have HCC := Hd HC
 have HE := Hd he
 have HJ0 := Hd h
 obtain ⟨t0, hi0, hz0, hz1', hz2⟩ := Tp.info_of ZfO
 have HI := Hd hi0
 have HZ0 := Hd hz0
 have HZ1 := Hd hz1'
 have HZ2 := Hd hz2
 clear hi0 hz0 hz1' hz2
 clear h HC he
 go_enter Tryz.func80, Tryz.ntmps80
 go_wp2_with fail
 go_loopg [5] (cs.length + 1) (fun f lv wr => ∃ (k : Nat) (es : List Tk.C), f + k = cs.length + 1 ∧ k ≤ cs.length ∧ es.length = k ∧ Rp.J l ta c bp e wr (p k) ∧ Tp.Tu (ZaA bp) w.heap.size w wr ∧ Tp.Rw w.heap.size bp wr 56 17 (fun E : Tk.C => E.cells.toList) (fun W => Tk.RC W 61 n) lv es (cs.take k))
 case atStart => exact ⟨0, [], by omega, by omega, rfl, uh HJ0, Tp.Tu.refl _ _ _, Tp.Rw.nil _ _ _ _ _ _ _⟩
 case round =>
  clear HJ0
  obtain ⟨k, es, hfk, hk, hel, hj, htu, hrw⟩ := hrel
  obtain ⟨f, rfl⟩ : ∃ f, gk = f + 1 := ⟨gk - 1, by omega⟩
  have hwz := htu.size
  have HJ := Hd hj
  have HTU := Hd htu
  have HRW := Hd hrw
  obtain ⟨ga, cap, rfl, hcap⟩ := hrw.form
  have HEL := Hd hel
  rw [hel]
  rw [hel] at HRW hcap
  clear hj htu hrw hel
  obtain ⟨c0, c1, c2, c3, cf⟩ := (uh HJ).p
  have hbp := (uh HJ).lt
  have HT1 := Hd (ZaF l ta c bp e (p k) wr (uh HJ))
  by_cases hkn : k < cs.length
  · obtain ⟨x, hx⟩ : ∃ x, cs[k]? = some x := ⟨cs[k], Zg hkn⟩
    obtain ⟨q1, q2⟩ := (uh HCC) k x hx
    have HX := Hd hx
    have q3 : ¬ (Tp.tk l (p k)).t.toList = s.toList := by simpa using q1
    have HQ := Hd q2
    clear hx q2
    generalize (Tp.tk l (p k)).t = t at *
    go_wp2_with fail
    refine (uh HT1).mono ?_
    rintro r w4 ⟨rfl, hb⟩
    have HRK := Hd ((uh HRW).kept hb.size (by omega) (fun q _ hq => hb.block q hq))
    have HT5 := Hd ((uh HTU).below hb hwz)
    have HJ5 := Hd ((uh HJ).below hb)
    have hwb := hb.size
    clear hb HT1 c0 c1 c2 c3 cf
    go_wp2_with fail
    refine ((uh HQ) w4 (uh HJ5)).mono ?_
    rintro r w6 ⟨⟨E, rfl, hro⟩, hj, ht⟩
    have hs6 := ht.size
    have HT6 := Hd ((uh HT5).then ht (by omega) (fun _ _ h => h))
    have hR6 := (uh HRK).kept hs6 (by omega) (fun q h1 h2 => ht.block q h2 (by show ¬ q = bp; omega))
    have hbN := (Below.refl w6.heap.size w6).alloc Zl (Obj.cells #[.int .i64 E.k, .int .i64 E.a, .string E.nm, .string E.ot, .int .i64 E.ix.k, .int .i64 E.ix.a, .int .i64 E.ix.n, .string E.ix.nm, .slice E.ix.args.ad E.ix.args.len E.ix.args.cap, .int .i64 E.ex.k, .int .i64 E.ex.a, .int .i64 E.ex.n, .string E.ex.nm, .slice E.ex.args.ad E.ex.args.len E.ex.args.cap, .slice E.args.ad E.args.len E.args.cap, .slice E.th.ad E.th.len E.th.cap, .slice E.el.ad E.el.len E.el.cap] 56)
    have hnot : ∀ q, (Value.slice ga k cap).ownBlock = some q → q < w4.heap.size := fun q hq => ((uh HRK).row.lt q hq).2
    have HRN := Hd (hR6.kept hbN.size (by omega) (fun q _ h2 => hbN.block q h2))
    have HBK := Hd (heap_alloc_new w6 (Obj.cells #[.int .i64 E.k, .int .i64 E.a, .string E.nm, .string E.ot, .int .i64 E.ix.k, .int .i64 E.ix.a, .int .i64 E.ix.n, .string E.ix.nm, .slice E.ix.args.ad E.ix.args.len E.ix.args.cap, .int .i64 E.ex.k, .int .i64 E.ex.a, .int .i64 E.ex.n, .string E.ex.nm, .slice E.ex.args.ad E.ex.args.len E.ex.args.cap, .slice E.args.ad E.args.len E.args.cap, .slice E.th.ad E.th.len E.th.cap, .slice E.el.ad E.el.len E.el.cap] 56))
    have HEO := Hd ((hro.wide (B' := w.heap.size) (g' := Tp.blk bp (.slice ga k cap)) (by omega) (by omega) (by
     unfold Tp.blk
     cases hq : (Value.slice ga k cap).ownBlock with
     | none => left; show bp < _; omega
     | some q => left; exact hnot q hq)).go hbN.size (fun q _ _ hq => hbN.block q hq))
    have HT7 := Hd ((uh HT6).below hbN (by omega))
    have HJ7 := Hd (hj.below hbN)
    have hsb : (w6.alloc (Obj.cells #[.int .i64 E.k, .int .i64 E.a, .string E.nm, .string E.ot, .int .i64 E.ix.k, .int .i64 E.ix.a, .int .i64 E.ix.n, .string E.ix.nm, .slice E.ix.args.ad E.ix.args.len E.ix.args.cap, .int .i64 E.ex.k, .int .i64 E.ex.a, .int .i64 E.ex.n, .string E.ex.nm, .slice E.ex.args.ad E.ex.args.len E.ex.args.cap, .slice E.args.ad E.args.len E.args.cap, .slice E.th.ad E.th.len E.th.cap, .slice E.el.ad E.el.len E.el.cap] 56)).heap.size = w6.heap.size + 1 := by simp
    have hbp7 := hj.lt
    clear hro hj ht hR6 hbN HT5 HRK HQ hnot HT6 HJ5
    go_wp2_with (at_builtin; refine wpList_append_lies _ (by rfl) _ _ _ (by rfl) w.heap.size 56 t0 _ 17 248 Tryz.underlying49 (uh HI) (uh HZ0) (uh HZ1) (uh HZ2) rfl (by omega) (.slice ga k cap) k (es.flatMap (fun E : Tk.C => E.cells.toList)) (by rfl) (ZgD (uh HRN).row (uh HEL)) ⟨w6.heap.size, 0, none⟩ 1 1 [.int .i64 E.k, .int .i64 E.a, .string E.nm, .string E.ot, .int .i64 E.ix.k, .int .i64 E.ix.a, .int .i64 E.ix.n, .string E.ix.nm, .slice E.ix.args.ad E.ix.args.len E.ix.args.cap, .int .i64 E.ex.k, .int .i64 E.ex.a, .int .i64 E.ex.n, .string E.ex.nm, .slice E.ex.args.ad E.ex.args.len E.ex.args.cap, .slice E.args.ad E.args.len E.args.cap, .slice E.th.ad E.th.len E.th.cap, .slice E.el.ad E.el.len E.el.cap] (by rfl) (by rfl) (World.news_of_block (uh HBK)) (by simp [Value.oneCell']) (by omega) (by unfold maxLen; omega) (by omega) (by omega) (w6.heap.size + 1) (by omega) ?_; intro gA cA w8 hoA hgA hatA hltA; have HOA := Hd hoA; have HGA := Hd hgA; have HAT := Hd hatA; clear hatA hltA hoA hgA)
    have hgA := uh HGA
    have hrow := (uh HRN).row
    have hk8 : ∀ q, q < w.heap.size → w8.heap[q]? = (w6.alloc (Obj.cells #[.int .i64 E.k, .int .i64 E.a, .string E.nm, .string E.ot, .int .i64 E.ix.k, .int .i64 E.ix.a, .int .i64 E.ix.n, .string E.ix.nm, .slice E.ix.args.ad E.ix.args.len E.ix.args.cap, .int .i64 E.ex.k, .int .i64 E.ex.a, .int .i64 E.ex.n, .string E.ex.nm, .slice E.ex.args.ad E.ex.args.len E.ex.args.cap, .slice E.args.ad E.args.len E.args.cap, .slice E.th.ad E.th.len E.th.cap, .slice E.el.ad E.el.len E.el.cap] 56)).heap[q]? := fun q hq => hgA.block q (by omega) (fun e => by have := (hrow.lt q e.symm).1; omega)
    have hT8 : Tp.Tu (ZaA bp) w.heap.size w w8 := (uh HT7).trans ⟨hgA.os, hgA.tape, hgA.output, hgA.size, fun q h1 _ => hk8 q h1⟩
    have hJ8 := (uh HJ7).kept hgA.size (fun q hq => hk8 q (by omega))
    have hR8 := (uh HRN).app (uh HEO) hgA.size (by omega) (fun q _ h2 h3 => hgA.block q h2 (fun e => h3 e.symm)) (by rw [uh HEL]; exact uh HOA) ((uh HAT).imp id (fun e => by rw [e, hsb]; exact Nat.le_refl _))
    rw [uh HEL, Zfx (uh HX)] at hR8
    go_roundg f
    case measure => omega
    case rel => exact ⟨k + 1, es ++ [E], by omega, by omega, by rw [Za, uh HEL]; rfl, hJ8, hT8, hR8⟩
  obtain rfl : k = cs.length := by omega
  have q1 := uh HE
  have q3 : (Tp.tk l (p cs.length)).t.toList = s.toList := by simpa using q1
  generalize (Tp.tk l (p cs.length)).t = t at *
  go_wp2_with fail
  refine (uh HT1).mono ?_
  rintro r w4 ⟨rfl, hb⟩
  have HB := Hd hb
  clear hb HT1 c0 c1 c2 c3 cf
  go_wp2_with fail
  go_ret
  have hR := (uh HRW).kept (uh HB).size (by omega) (fun q _ hq => (uh HB).block q hq)
  rw [List.take_length] at hR
  obtain ⟨sl, hs, hos⟩ := hR.reads (lies := fun W => Tk.LC W) (by omega) ZdD Tk.C.lies_cl (by omega)
  exact ⟨⟨sl, by rw [hs]; rfl, hos⟩, (uh HJ).below (uh HB), (uh HTU).below (uh HB) hwz⟩
end
end Go.Proofs.YtfccpddehpgfoaaGreatDoor
