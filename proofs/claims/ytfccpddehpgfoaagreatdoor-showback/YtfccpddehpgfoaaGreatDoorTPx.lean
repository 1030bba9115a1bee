/- By the verifier. -/
import Derived.Test.YtfccpddehpgfoaaGreatDoorUF
set_option maxRecDepth 100000
set_option maxHeartbeats 1600000
namespace Go.Proofs.YtfccpddehpgfoaaGreatDoor
open Go.RowKit
set_option linter.unusedVariables false
theorem Zav {α β : Type} (W : World) (wide : Nat) (lies : Nat → Nat → α → Prop) (reads : α → β → Prop) : Tk.RS W wide lies reads ⟨none, 0, 0⟩ ([] : List β) :=
 ⟨rfl, Nat.zero_le _, fun i y hy => by simp at hy⟩
theorem ZcP (B bp d : Nat) (W : World) (k a n : Int) (nm : ByteArray) (h : nm.size ≤ maxLen) : Tp.Ow B bp W (fun W => Tk.RE W (d + 1) ⟨k, a, n, nm, ⟨none, 0, 0⟩⟩ ((k, a, n, nm), [])) :=
 fun W' _ _ => ⟨⟨rfl, rfl, rfl, rfl, h⟩, Zav _ _ _ _⟩
theorem Zhn {B bp d : Nat} {W : World} {s : Tk.Sl} {xs : List (Zat d)} (h : Tp.Ow B bp W (fun W => Tk.RS W 5 (Tk.ELies W) (Tk.RE W d) s xs)) (k a n : Int) (nm : ByteArray) (hn : nm.size ≤ maxLen) : Tp.Ow B bp W (fun W => Tk.RE W (d + 1) ⟨k, a, n, nm, s⟩ ((k, a, n, nm), xs)) :=
 fun W' h1 h2 => ⟨⟨rfl, rfl, rfl, rfl, hn⟩, h W' h1 h2⟩
section
variable (l : List Tp.T) (ta : Option Addr) (c bp : Nat) (e : Int)
theorem ZjW {d : Nat} (rec : Nat → Nat → Except Nat (Zat d × Nat)) (b : Nat) (hb60 : b ≤ 60)
  (HR : ∀ (i : Nat) (W : World), b + 1 ≤ 60 → Tp.J l ta c bp e W i (b + 1) → Calls Tryz.prog 156 #[.pointer (some ⟨bp, 0, none⟩)] W (Tp.Out l ta c bp e (ZaA bp) W (b + 1) (ZeB W.heap.size bp d) (rec (b + 1) i)))
  (i : Nat) (w : World) (h : Tp.J l ta c bp e w i b) :
  Calls Tryz.prog 156 #[.pointer (some ⟨bp, 0, none⟩)] w (Tp.Out l ta c bp e (ZaA bp) w b (ZeB w.heap.size bp (d + 1)) (Zbb l e rec b i)) := by
 obtain ⟨o, ho⟩ : ∃ o, Zbb l e rec b i = o := ⟨_, rfl⟩
 rw [ho]
 have hlt := h.lt
 have HEQ := Hd ho
 have hbA := (Below.refl w.heap.size w).alloc Zl (Obj.cells #[.int .i64 0, .int .i64 0, .int .i64 0, .string ⟨#[]⟩, .slice none 0 0] 52)
 have HA := Hd (ZfY l ta c bp e i b _ (h.below hbA))
 have HX := Hd (Tp.X5.new w Tk.E.zero)
 have HB := Hd hbA
 have HJ := Hd (h.below hbA)
 have HRC := Hd HR
 have HTX := Hd (h.fine.txt i)
 have hsa : (w.alloc (Obj.cells #[.int .i64 0, .int .i64 0, .int .i64 0, .string ⟨#[]⟩, .slice none 0 0] 52)).heap.size = w.heap.size + 1 := by simp
 clear h ho hbA HR
 go_enter Tryz.func156, Tryz.ntmps156
 go_wp2_with fail
 unfold Tk.E.zero at HX
 dsimp only at HX
 generalize (w.alloc (Obj.cells #[.int .i64 0, .int .i64 0, .int .i64 0, .string ⟨#[]⟩, .slice none 0 0] 52)) = wa at *
 refine (uh HA).mono ?_
 rintro r w1 ⟨rfl, hb1⟩
 obtain ⟨a, ha⟩ : ∃ a, Zaz l e i = a := ⟨_, rfl⟩
 rw [ha]
 have HPL := Hd ha
 have hs1 := hb1.size
 have hbN := (Below.refl w1.heap.size w1).alloc Zl (Obj.cells #[.int .i64 0, .int .i64 a, .int .i64 0, .string ⟨#[]⟩, .slice none 0 0] 52)
 have HX1 := Hd (((uh HX).below hb1).below hbN)
 have HE1 := Hd (Tp.X5.new w1 ⟨0, a, 0, ⟨#[]⟩, ⟨none, 0, 0⟩⟩)
 have HJ1 := Hd (((uh HJ).below hb1).below hbN)
 have HT1 := Hd (Tp.Tu.of_below (D := ZaA bp) (((uh HB).trans (hb1.mono (by omega))).trans (hbN.mono (by omega))))
 have hs2 : (w1.alloc (Obj.cells #[.int .i64 0, .int .i64 a, .int .i64 0, .string ⟨#[]⟩, .slice none 0 0] 52)).heap.size = w1.heap.size + 1 := by simp
 dsimp only at HE1
 clear hb1 hbN HX HJ HB HA ha
 go_wp2_with fail
 generalize hw2 : (w1.alloc (Obj.cells #[.int .i64 0, .int .i64 a, .int .i64 0, .string ⟨#[]⟩, .slice none 0 0] 52)) = w2 at *
 clear hw2
 generalize w1.heap.size = be at *
 obtain ⟨y1, hy1⟩ : ∃ y, Zal l i ⟨#[40]⟩ = y := ⟨_, rfl⟩
 refine (ZbJ l ta c bp e ⟨#[40]⟩ i b w2 (uh HJ1) y1 hy1).mono ?_
 rintro r w3 ⟨rfl, hb3⟩
 have HX3 := Hd ((uh HX1).below hb3)
 have HE3 := Hd ((uh HE1).below hb3)
 have HJ3 := Hd ((uh HJ1).below hb3)
 have HT3 := Hd ((uh HT1).below hb3 (by omega))
 have hs3 := hb3.size
 have HY1 := Hd hy1
 clear hb3 HX1 HE1 HJ1 HT1 hy1
 cases y1
 · obtain ⟨y2, hy2⟩ : ∃ y, Zal l i ⟨#[45]⟩ = y := ⟨_, rfl⟩
   go_wp2_with fail
   refine (Zbi l ta c bp e ⟨#[45]⟩ (by decide) i b w3 (uh HJ3) y2 hy2).mono ?_
   rintro r w4 ⟨rfl, hj4, ht4⟩
   have HX4 := Hd ((uh HX3).tu ht4 (show ¬ w.heap.size = bp by omega))
   have HE4 := Hd ((uh HE3).tu ht4 (show ¬ be = bp by omega))
   have HT4 := Hd ((uh HT3).then ht4 (by omega) (fun _ _ h => h))
   have HJ4 := Hd hj4
   have hs4 := ht4.size
   have HY2 := Hd hy2
   clear hj4 ht4 HX3 HE3 HJ3 HT3 hy2
   cases y2
   · replace HJ4 := Hd (show Tp.J l ta c bp e w4 i b by simpa using uh HJ4)
     obtain ⟨y3, hy3⟩ : ∃ y, ZbM l i = y := ⟨_, rfl⟩
     go_wp2_with fail
     refine (ZdB l ta c bp e i b w4 (uh HJ4) y3 hy3).mono ?_
     rintro r w5 ⟨rfl, hb5⟩
     have HX5 := Hd ((uh HX4).below hb5)
     have HE5 := Hd ((uh HE4).below hb5)
     have HJ5 := Hd ((uh HJ4).below hb5)
     have HT5 := Hd ((uh HT4).below hb5 (by omega))
     have hs5 := hb5.size
     have HY3 := Hd hy3
     clear hb5 HX4 HE4 HJ4 HT4 hy3
     cases y3
     · go_wp2_with fail
       refine (Zf4 l ta c bp e i b w5 (uh HJ5)).mono ?_
       intro r w6 h6
       cases hn : Tp.number l i with
       | error j =>
        rw [hn] at h6
        obtain ⟨rfl, ht⟩ := h6
        have HT := Hd ((uh HT5).then ht (by omega) (fun _ _ h => h))
        obtain rfl : o = .error j := by rw [← uh HEQ]; simp only [Zbb, uh HY1, Zb, if_false, uh HY2, uh HY3, hn]
        clear ht
        go_wp2_with fail
        exact ⟨rfl, rfl, uh HT⟩
       | ok p =>
        obtain ⟨z, j⟩ := p
        rw [hn] at h6
        obtain ⟨⟨rfl, hv⟩, hj, ht⟩ := h6
        obtain rfl : o = .ok (((1, a, z, ⟨#[]⟩), []), j) := by rw [← uh HEQ]; simp only [Zbb, uh HY1, Zb, if_false, uh HY2, uh HY3, hn, uh HPL]
        have hXb := (uh HX5).tu ht (show ¬ w.heap.size = bp by omega)
        have hEb := (uh HE5).tu ht (show ¬ be = bp by omega)
        have hs6 := ht.size
        have HT6 := Hd ((uh HT5).then ht (by omega) (fun _ _ h => h))
        have HJ6 := Hd hj
        clear hj ht HX5 HE5 HJ5 HT5
        have hkV : ∀ q, q ≠ be → ((w6.setCell ⟨be, 0, none⟩ (.int .i64 1)).setCell ⟨be, 2, none⟩ (.int .i64 z)).heap[q]? = w6.heap[q]? := fun q hq => (Below.heap_setCell _ _ _ _ hq).trans (Below.heap_setCell _ _ _ _ hq)
        have HKV := Hd hkV
        have hsV : ((w6.setCell ⟨be, 0, none⟩ (.int .i64 1)).setCell ⟨be, 2, none⟩ (.int .i64 z)).heap.size = w6.heap.size := by simp [World.setCell]
        have HJV := Hd (((uh HJ6).set (q := be) (o := 0) (.int .i64 1) (by omega)).set (q := be) (o := 2) (.int .i64 z) (by omega))
        have HTV := Hd (((uh HT6).set (b := be) (o := 0) (.int .i64 1) (by omega)).set (b := be) (o := 2) (.int .i64 z) (by omega))
        have HP := Hd ((hXb.kept (hkV w.heap.size (by omega))).put ⟨1, a, z, ⟨#[]⟩, ⟨none, 0, 0⟩⟩)
        dsimp only at HP
        obtain ⟨n0, n1, n2, n3, n4, nf⟩ := hEb
        obtain ⟨x0, x1, x2, x3, x4, xf⟩ := hXb
        dsimp only at n0 n1 n2 n3 n4
        have hne1 : w.heap.size ≠ be := by omega
        have hne2 : be ≠ w.heap.size := by omega
        have HSV := Hd hsV
        clear hkV hsV
        go_wp2_with fail
        have hsV := uh HSV
        obtain ⟨⟨s0, s1, s2, s3, s4, sf⟩, hsS, hkS, htS⟩ := uh HP
        dsimp only at s0 s1 s2 s3 s4
        refine bodyPost_ret (v := .agg #[.int .i64 (1), .int .i64 a, .int .i64 (z), .string ⟨#[]⟩, .slice (none) 0 0]) (by simp [results, Tryz.results156, go_sem, s0, s1, s2, s3, s4]) rfl ?_
        exact ⟨⟨⟨1, a, z, ⟨#[]⟩, ⟨none, 0, 0⟩⟩, rfl, ((ZcP (be + 1) bp d w6 1 a z ⟨#[]⟩ (by decide)).go (by omega) (fun q h1 _ _ => (hkS q (by omega)).trans ((uh HKV) q (by omega)))).wide (by omega) (by omega) (Or.inl (by omega))⟩, (uh HJV).kept (by omega) (fun q hq => hkS q (by omega)), (uh HTV).trans (htS _ _ Zl)⟩
     have hn : Tp.name l i = .ok ((Tp.tk l i).t, i + 1) := by unfold Tp.name; rw [uh HY3]; rfl
     have HNM := Hd (ZcJ l ta c bp e i b w5 (uh HJ5))
     rw [hn] at HNM
     clear hn
     obtain ⟨nm, hnm⟩ : ∃ t, (Tp.tk l i).t = t := ⟨_, rfl⟩
     rw [hnm] at HNM
     have HN := Hd hnm
     go_wp2_with fail
     refine (uh HNM).mono ?_
     rintro r w6 ⟨⟨rfl, hnl⟩, hj, ht⟩
     have hX6 := (uh HX5).tu ht (show ¬ w.heap.size = bp by omega)
     have hE6 := (uh HE5).tu ht (show ¬ be = bp by omega)
     have hs6 := ht.size
     have HT6 := Hd ((((uh HT5).then ht (by omega) (fun _ _ h => h)).set (b := be) (o := 0) (.int .i64 2) (by omega)).set (b := be) (o := 3) (.string nm) (by omega))
     have HJ6 := Hd ((hj.set (q := be) (o := 0) (.int .i64 2) (by omega)).set (q := be) (o := 3) (.string nm) (by omega))
     have HE6 := Hd ((hE6.set0 2).set3 nm)
     have hk6 : ∀ q, q ≠ be → ((w6.setCell ⟨be, 0, none⟩ (.int .i64 2)).setCell ⟨be, 3, none⟩ (.string nm)).heap[q]? = w6.heap[q]? := fun q hq => (Below.heap_setCell _ _ _ _ hq).trans (Below.heap_setCell _ _ _ _ hq)
     have hs7 : ((w6.setCell ⟨be, 0, none⟩ (.int .i64 2)).setCell ⟨be, 3, none⟩ (.string nm)).heap.size = w6.heap.size := by simp [World.setCell]
     have HX6 := Hd (hX6.kept (hk6 w.heap.size (by omega)))
     obtain ⟨n0, n1, n2, n3, n4, nf⟩ := hE6
     have HNL := Hd hnl
     clear hX6 hj ht hk6 HX5 HE5 HJ5 HT5 HNM hnm hnl
     go_wp2_with fail
     generalize ((w6.setCell ⟨be, 0, none⟩ (.int .i64 2)).setCell ⟨be, 3, none⟩ (.string nm)) = w7 at *
     clear n0 n1 n2 n3 n4 nf
     obtain ⟨y4, hy4⟩ : ∃ y, Zal l (i + 1) ⟨#[91]⟩ = y := ⟨_, rfl⟩
     refine (ZbJ l ta c bp e ⟨#[91]⟩ (i + 1) b w7 (uh HJ6) y4 hy4).mono ?_
     rintro r w8 ⟨rfl, hb8⟩
     have HT8 := Hd ((uh HT6).below hb8 (by omega))
     have HJ8 := Hd ((uh HJ6).below hb8)
     have HX8 := Hd ((uh HX6).below hb8)
     have HE8 := Hd ((uh HE6).below hb8)
     have hs8 := hb8.size
     have HY4 := Hd hy4
     clear hb8 hy4 HT6 HJ6 HX6 HE6
     cases y4
     · obtain rfl : o = .ok (((2, a, 0, nm), []), i + 1) := by rw [← uh HEQ]; simp only [Zbb, uh HY1, Zb, if_false, uh HY2, uh HY3, uh HY4, if_true, uh HPL, uh HN]
       have hXb := uh HX8
       have hEb := uh HE8
       have hkV : ∀ q, q ≠ be → w8.heap[q]? = w8.heap[q]? := fun q hq => rfl
       have hsV : w8.heap.size = w8.heap.size := rfl
       have HJV := Hd (uh HJ8)
       have HTV := Hd (uh HT8)
       have HP := Hd ((hXb.kept (hkV w.heap.size (by omega))).put ⟨2, a, 0, nm, ⟨none, 0, 0⟩⟩)
       dsimp only at HP
       obtain ⟨n0, n1, n2, n3, n4, nf⟩ := hEb
       obtain ⟨x0, x1, x2, x3, x4, xf⟩ := hXb
       dsimp only at n0 n1 n2 n3 n4
       have hne1 : w.heap.size ≠ be := by omega
       have hne2 : be ≠ w.heap.size := by omega
       clear hkV hsV
       go_wp2_with fail
       obtain ⟨⟨s0, s1, s2, s3, s4, sf⟩, hsS, hkS, htS⟩ := uh HP
       dsimp only at s0 s1 s2 s3 s4
       refine bodyPost_ret (v := .agg #[.int .i64 (2), .int .i64 a, .int .i64 (0), .string nm, .slice (none) 0 0]) (by simp [results, Tryz.results156, go_sem, s0, s1, s2, s3, s4]) rfl ?_
       exact ⟨⟨⟨2, a, 0, nm, ⟨none, 0, 0⟩⟩, rfl, ((ZcP (be + 1) bp d w8 2 a 0 nm (uh HNL)).go (by omega) (fun q h1 _ _ => hkS q (by omega))).wide (by omega) (by omega) (Or.inl (by omega))⟩, (uh HJV).kept (by omega) (fun q hq => hkS q (by omega)), (uh HTV).trans (htS _ _ Zl)⟩
     go_wp2_with fail
     refine (Zgf l ta c bp e rec b hb60 (uh HRC) (i + 1) w8 (uh HJ8)).mono ?_
     intro r w9 h9
     cases hn : Tp.index l rec b (i + 1) with
     | error j =>
      rw [hn] at h9
      obtain ⟨rfl, ht⟩ := h9
      have HT := Hd ((uh HT8).then ht (by omega) (fun _ _ h => h))
      obtain rfl : o = .error j := by rw [← uh HEQ]; simp only [Zbb, uh HY1, Zb, if_false, uh HY2, uh HY3, uh HY4, if_true, hn]
      clear ht
      go_wp2_with fail
      exact ⟨rfl, rfl, uh HT⟩
     | ok p =>
      obtain ⟨x, j⟩ := p
      rw [hn] at h9
      obtain ⟨⟨E, rfl, hro⟩, hj, ht⟩ := h9
      obtain rfl : o = .ok (((3, a, 0, nm), [x]), j) := by rw [← uh HEQ]; simp only [Zbb, uh HY1, Zb, if_false, uh HY2, uh HY3, uh HY4, if_true, hn, uh HPL, uh HN]
      have hs9 := ht.size
      have hbN := (Below.refl w9.heap.size w9).alloc Zl (Obj.cells #[.int .i64 E.k, .int .i64 E.a, .int .i64 E.n, .string E.nm, .slice E.args.ad E.args.len E.args.cap] 52)
      have hXc := ((uh HX8).tu ht (show ¬ w.heap.size = bp by omega)).below hbN
      have hEc := ((uh HE8).tu ht (show ¬ be = bp by omega)).below hbN
      have HT9 := Hd (((uh HT8).then ht (by omega) (fun _ _ h => h)).below hbN (by omega))
      have HJ9 := Hd (hj.below hbN)
      have hL9 := (Tp.X5.new w9 E).lies
      have HR9 := Hd (Tp.Ow.one hL9 (show be + 1 ≤ w9.heap.size by omega) (by omega) ((hro.wide (B' := be + 1) (g' := bp) (by omega) (by omega) (Or.inl (by omega))).go hbN.size (fun q _ _ hq => hbN.block q hq)))
      have hs10 : (w9.alloc (Obj.cells #[.int .i64 E.k, .int .i64 E.a, .int .i64 E.n, .string E.nm, .slice E.args.ad E.args.len E.args.cap] 52)).heap.size = w9.heap.size + 1 := by simp
      clear hro hj ht HX8 HE8 HJ8 HT8 hL9 hbN hn
      have hkV : ∀ q, q ≠ be → (((w9.alloc (Obj.cells #[.int .i64 E.k, .int .i64 E.a, .int .i64 E.n, .string E.nm, .slice E.args.ad E.args.len E.args.cap] 52)).setCell ⟨be, 0, none⟩ (.int .i64 3)).setCell ⟨be, 4, none⟩ (.slice (some ⟨w9.heap.size, 0, none⟩) 1 1)).heap[q]? = (w9.alloc (Obj.cells #[.int .i64 E.k, .int .i64 E.a, .int .i64 E.n, .string E.nm, .slice E.args.ad E.args.len E.args.cap] 52)).heap[q]? := fun q hq => (Below.heap_setCell _ _ _ _ hq).trans (Below.heap_setCell _ _ _ _ hq)
      have HKV := Hd hkV
      have hsV : (((w9.alloc (Obj.cells #[.int .i64 E.k, .int .i64 E.a, .int .i64 E.n, .string E.nm, .slice E.args.ad E.args.len E.args.cap] 52)).setCell ⟨be, 0, none⟩ (.int .i64 3)).setCell ⟨be, 4, none⟩ (.slice (some ⟨w9.heap.size, 0, none⟩) 1 1)).heap.size = (w9.alloc (Obj.cells #[.int .i64 E.k, .int .i64 E.a, .int .i64 E.n, .string E.nm, .slice E.args.ad E.args.len E.args.cap] 52)).heap.size := by simp [World.setCell]
      have HJV := Hd (((uh HJ9).set (q := be) (o := 0) (.int .i64 3) (by omega)).set (q := be) (o := 4) (.slice (some ⟨w9.heap.size, 0, none⟩) 1 1) (by omega))
      have HTV := Hd (((uh HT9).set (b := be) (o := 0) (.int .i64 3) (by omega)).set (b := be) (o := 4) (.slice (some ⟨w9.heap.size, 0, none⟩) 1 1) (by omega))
      have HP := Hd ((hXc.kept (hkV w.heap.size (by omega))).put ⟨3, a, 0, nm, ⟨some ⟨w9.heap.size, 0, none⟩, 1, 1⟩⟩)
      dsimp only at HP
      obtain ⟨n0, n1, n2, n3, n4, nf⟩ := hEc
      obtain ⟨x0, x1, x2, x3, x4, xf⟩ := hXc
      dsimp only at n0 n1 n2 n3 n4
      have hne1 : w.heap.size ≠ be := by omega
      have hne2 : be ≠ w.heap.size := by omega
      have HSV := Hd hsV
      clear hkV hsV
      go_wp2_with fail
      have hsV := uh HSV
      obtain ⟨⟨s0, s1, s2, s3, s4, sf⟩, hsS, hkS, htS⟩ := uh HP
      dsimp only at s0 s1 s2 s3 s4
      refine bodyPost_ret (v := .agg #[.int .i64 (3), .int .i64 a, .int .i64 (0), .string nm, .slice (some ⟨w9.heap.size, 0, none⟩) 1 1]) (by simp [results, Tryz.results156, go_sem, s0, s1, s2, s3, s4]) rfl ?_
      exact ⟨⟨⟨3, a, 0, nm, ⟨some ⟨w9.heap.size, 0, none⟩, 1, 1⟩⟩, rfl, ((Zhn (uh HR9) 3 a 0 nm (uh HNL)).go (by omega) (fun q h1 _ _ => (hkS q (by omega)).trans ((uh HKV) q (by omega)))).wide (by omega) (by omega) (Or.inl (by omega))⟩, (uh HJV).kept (by omega) (fun q hq => hkS q (by omega)), (uh HTV).trans (htS _ _ Zl)⟩
   replace HJ4 := Hd (show Tp.J l ta c bp e w4 (i + 1) b by simpa using uh HJ4)
   go_wp2_with fail
   refine (Zgq l ta c bp e (i + 1) b w4 (uh HJ4)).mono ?_
   intro r w6 h6
   cases hn : ZbQ l (i + 1) with
   | error j =>
    rw [hn] at h6
    obtain ⟨rfl, ht⟩ := h6
    have HT := Hd ((uh HT4).then ht (by omega) (fun _ _ h => h))
    obtain rfl : o = .error j := by rw [← uh HEQ]; simp only [Zbb, uh HY1, Zb, if_false, uh HY2, if_true, hn]
    clear ht
    go_wp2_with fail
    exact ⟨rfl, rfl, uh HT⟩
   | ok p =>
    obtain ⟨z, j⟩ := p
    rw [hn] at h6
    obtain ⟨⟨rfl, v, hv, hv8⟩, hj, ht⟩ := h6
    subst hv
    obtain rfl : o = .ok (((1, a, -(v : Int), ⟨#[]⟩), []), j) := by rw [← uh HEQ]; simp only [Zbb, uh HY1, Zb, if_false, uh HY2, if_true, hn, uh HPL]
    have hneg : RowKit.wrap64 (-(v : Int)) = -(v : Int) := by unfold RowKit.wrap64; omega
    have hXb := (uh HX4).tu ht (show ¬ w.heap.size = bp by omega)
    have hEb := (uh HE4).tu ht (show ¬ be = bp by omega)
    have hs6 := ht.size
    have HT6 := Hd ((uh HT4).then ht (by omega) (fun _ _ h => h))
    have HJ6 := Hd hj
    clear hj ht HX4 HE4 HJ4 HT4 hv8 hn
    have hkV : ∀ q, q ≠ be → ((w6.setCell ⟨be, 0, none⟩ (.int .i64 1)).setCell ⟨be, 2, none⟩ (.int .i64 (-(v : Int)))).heap[q]? = w6.heap[q]? := fun q hq => (Below.heap_setCell _ _ _ _ hq).trans (Below.heap_setCell _ _ _ _ hq)
    have HKV := Hd hkV
    have hsV : ((w6.setCell ⟨be, 0, none⟩ (.int .i64 1)).setCell ⟨be, 2, none⟩ (.int .i64 (-(v : Int)))).heap.size = w6.heap.size := by simp [World.setCell]
    have HJV := Hd (((uh HJ6).set (q := be) (o := 0) (.int .i64 1) (by omega)).set (q := be) (o := 2) (.int .i64 (-(v : Int))) (by omega))
    have HTV := Hd (((uh HT6).set (b := be) (o := 0) (.int .i64 1) (by omega)).set (b := be) (o := 2) (.int .i64 (-(v : Int))) (by omega))
    have HP := Hd ((hXb.kept (hkV w.heap.size (by omega))).put ⟨1, a, -(v : Int), ⟨#[]⟩, ⟨none, 0, 0⟩⟩)
    dsimp only at HP
    obtain ⟨n0, n1, n2, n3, n4, nf⟩ := hEb
    obtain ⟨x0, x1, x2, x3, x4, xf⟩ := hXb
    dsimp only at n0 n1 n2 n3 n4
    have hne1 : w.heap.size ≠ be := by omega
    have hne2 : be ≠ w.heap.size := by omega
    have HSV := Hd hsV
    clear hkV hsV
    go_wp2_with fail
    have hsV := uh HSV
    obtain ⟨⟨s0, s1, s2, s3, s4, sf⟩, hsS, hkS, htS⟩ := uh HP
    dsimp only at s0 s1 s2 s3 s4
    refine bodyPost_ret (v := .agg #[.int .i64 (1), .int .i64 a, .int .i64 (-(v : Int)), .string ⟨#[]⟩, .slice (none) 0 0]) (by simp [results, Tryz.results156, go_sem, s0, s1, s2, s3, s4]) rfl ?_
    exact ⟨⟨⟨1, a, -(v : Int), ⟨#[]⟩, ⟨none, 0, 0⟩⟩, rfl, ((ZcP (be + 1) bp d w6 1 a (-(v : Int)) ⟨#[]⟩ (by decide)).go (by omega) (fun q h1 _ _ => (hkS q (by omega)).trans ((uh HKV) q (by omega)))).wide (by omega) (by omega) (Or.inl (by omega))⟩, (uh HJV).kept (by omega) (fun q hq => hkS q (by omega)), (uh HTV).trans (htS _ _ Zl)⟩
 go_wp2_with fail
 refine (ZkR l ta c bp e rec b hb60 (uh HRC) i w3 (uh HJ3)).mono ?_
 intro r w6 h6
 cases hn : Zb5 l rec b i with
 | error j =>
  rw [hn] at h6
  obtain ⟨rfl, ht⟩ := h6
  have HT := Hd ((uh HT3).then ht (by omega) (fun _ _ h => h))
  obtain rfl : o = .error j := by rw [← uh HEQ]; simp only [Zbb, uh HY1, if_true, hn]
  clear ht
  go_wp2_with fail
  exact ⟨rfl, rfl, uh HT⟩
 | ok p =>
  obtain ⟨⟨k, x, y⟩, j⟩ := p
  rw [hn] at h6
  obtain ⟨⟨⟨sa, sn, sc⟩, rfl, hro⟩, hj, ht⟩ := h6
  obtain rfl : o = .ok ((((k : Nat), a, 0, ⟨#[]⟩), [x, y]), j) := by rw [← uh HEQ]; simp only [Zbb, uh HY1, if_true, hn, uh HPL]
  have hXb := (uh HX3).tu ht (show ¬ w.heap.size = bp by omega)
  have hEb := (uh HE3).tu ht (show ¬ be = bp by omega)
  have hs6 := ht.size
  have HT6 := Hd ((uh HT3).then ht (by omega) (fun _ _ h => h))
  have HJ6 := Hd hj
  have HR6 := Hd (hro.wide (B' := be + 1) (g' := bp) (by omega) (by omega) (Or.inl (by omega)))
  dsimp only at HR6
  clear hj ht hro hn HX3 HE3 HJ3 HT3
  have hkV : ∀ q, q ≠ be → ((w6.setCell ⟨be, 0, none⟩ (.int .i64 (k : Nat))).setCell ⟨be, 4, none⟩ (.slice sa sn sc)).heap[q]? = w6.heap[q]? := fun q hq => (Below.heap_setCell _ _ _ _ hq).trans (Below.heap_setCell _ _ _ _ hq)
  have HKV := Hd hkV
  have hsV : ((w6.setCell ⟨be, 0, none⟩ (.int .i64 (k : Nat))).setCell ⟨be, 4, none⟩ (.slice sa sn sc)).heap.size = w6.heap.size := by simp [World.setCell]
  have HJV := Hd (((uh HJ6).set (q := be) (o := 0) (.int .i64 (k : Nat)) (by omega)).set (q := be) (o := 4) (.slice sa sn sc) (by omega))
  have HTV := Hd (((uh HT6).set (b := be) (o := 0) (.int .i64 (k : Nat)) (by omega)).set (b := be) (o := 4) (.slice sa sn sc) (by omega))
  have HP := Hd ((hXb.kept (hkV w.heap.size (by omega))).put ⟨(k : Nat), a, 0, ⟨#[]⟩, ⟨sa, sn, sc⟩⟩)
  dsimp only at HP
  obtain ⟨n0, n1, n2, n3, n4, nf⟩ := hEb
  obtain ⟨x0, x1, x2, x3, x4, xf⟩ := hXb
  dsimp only at n0 n1 n2 n3 n4
  have hne1 : w.heap.size ≠ be := by omega
  have hne2 : be ≠ w.heap.size := by omega
  have HSV := Hd hsV
  clear hkV hsV
  go_wp2_with fail
  have hsV := uh HSV
  obtain ⟨⟨s0, s1, s2, s3, s4, sf⟩, hsS, hkS, htS⟩ := uh HP
  dsimp only at s0 s1 s2 s3 s4
  refine bodyPost_ret (v := .agg #[.int .i64 ((k : Nat)), .int .i64 a, .int .i64 (0), .string ⟨#[]⟩, .slice (sa) sn sc]) (by simp [results, Tryz.results156, go_sem, s0, s1, s2, s3, s4]) rfl ?_
  exact ⟨⟨⟨(k : Nat), a, 0, ⟨#[]⟩, ⟨sa, sn, sc⟩⟩, rfl, ((Zhn (uh HR6) (k : Nat) a 0 ⟨#[]⟩ (by decide)).go (by omega) (fun q h1 _ _ => (hkS q (by omega)).trans ((uh HKV) q (by omega)))).wide (by omega) (by omega) (Or.inl (by omega))⟩, (uh HJV).kept (by omega) (fun q hq => hkS q (by omega)), (uh HTV).trans (htS _ _ Zl)⟩
theorem ZbN : ∀ (d b : Nat), 61 ≤ b + d → b ≤ 60 → ∀ (i : Nat) (w : World), Tp.J l ta c bp e w i b →
  Calls Tryz.prog 156 #[.pointer (some ⟨bp, 0, none⟩)] w (Tp.Out l ta c bp e (ZaA bp) w b (ZeB w.heap.size bp d) (Tp.expr l e d b i)) := by
 intro d
 induction d with
 | zero => intro b h1 h2; omega
 | succ d ih =>
  intro b h1 h2 i w h
  exact ZjW l ta c bp e (Tp.expr l e d) b h2 (fun i W h3 hj => ih (b + 1) (by omega) h3 i W hj) i w h
end
end Go.Proofs.YtfccpddehpgfoaaGreatDoor
