/-
  Contracts of tree's parser: vars; each reader goes on. By the verifier.
-/
import Derived.Test.YtfccpddehpgfoaaGreatDoorTPc
set_option maxRecDepth 100000
set_option maxHeartbeats 3200000
namespace Go.Proofs.YtfccpddehpgfoaaGreatDoor
open Go.RowKit
set_option linter.unusedVariables false
section
variable {l : List Tp.T} {e : Int} {i j : Nat}
theorem Tp.want_ok {s : ByteArray} (h : Tp.want l s i = .ok j) : j = i + 1 := by
 unfold Tp.want at h
 split at h
 · cases h; rfl
 · cases h
theorem Tp.opens_ok {s : ByteArray} {b : Nat} (h : Tp.opens l s b i = .ok j) : j = i + 1 := by
 unfold Tp.opens at h
 split at h
 · cases h
 · exact Tp.want_ok h
theorem Tp.name_ok {x : ByteArray} (h : Tp.name l i = .ok (x, j)) : j = i + 1 := by
 unfold Tp.name at h
 split at h
 · cases h; rfl
 · cases h
theorem Tp.number_ok {x : Int} (h : Tp.number l i = .ok (x, j)) : j = i + 1 := by
 unfold Tp.number at h
 split at h
 · cases h; rfl
 · cases h
theorem Tp.count_ok {x : Int} (h : Tp.count l i = .ok (x, j)) : j = i + 1 := by
 unfold Tp.count at h
 split at h
 · cases h
 · exact Tp.number_ok h
end
theorem Tryz.infoTV : (Tryz.prog.info? 59).map (fun i => (i.zero, i.size, i.bytes)) = some (some (.agg #[.string ⟨#[]⟩, .int .i64 0]), 2, 24) := by kernel_rfl
structure Tp.X2 (W : World) (b : Nat) (nm : ByteArray) (z : Int) : Prop where
 c0 : W.cell? ⟨b, 0, none⟩ = some (.string nm)
 c1 : W.cell? ⟨b, 1, none⟩ = some (.int .i64 z)
 f : ∀ j, W.frozen? ⟨b, j, none⟩ = false
section
variable {W W' : World} {b : Nat} {nm : ByteArray} {z : Int}
theorem Tp.X2.lt (h : Tp.X2 W b nm z) : b < W.heap.size := World.block_lt_of_cell? W _ h.c0
theorem Tp.X2.kept (h : Tp.X2 W b nm z) (hb : W'.heap[b]? = W.heap[b]?) : Tp.X2 W' b nm z := by
 have hc : ∀ j, W'.cell? ⟨b, j, none⟩ = W.cell? ⟨b, j, none⟩ := fun j => World.cell?_of_block (a := ⟨b, j, none⟩) hb
 exact ⟨(hc 0).trans h.c0, (hc 1).trans h.c1, fun j => (World.frozen?_of_block (a := ⟨b, j, none⟩) hb).trans (h.f j)⟩
theorem Tp.X2.tu {D : Nat → Prop} (h : Tp.X2 W b nm z) (hb : Tp.Tu D W.heap.size W W') (hD : ¬ D b) : Tp.X2 W' b nm z := h.kept (hb.block b h.lt hD)
theorem Tp.X2.set0 (h : Tp.X2 W b nm z) (t : ByteArray) : Tp.X2 (W.setCell ⟨b, 0, none⟩ (.string t)) b t z :=
 ⟨World.cell?_setCell_same _ _ _ h.c0, (Tp.set_ne (by decide)).trans h.c1, fun j => by rw [World.frozen?_setCell]; exact h.f j⟩
theorem Tp.X2.set1 (h : Tp.X2 W b nm z) (t : Int) : Tp.X2 (W.setCell ⟨b, 1, none⟩ (.int .i64 t)) b nm t :=
 ⟨(Tp.set_ne (by decide)).trans h.c0, World.cell?_setCell_same _ _ _ h.c1, fun j => by rw [World.frozen?_setCell]; exact h.f j⟩
end
theorem Tp.Rw.keptV {α β : Type} {B d : Nat} {W W1 : World} {ty : TypeId} {wide : Nat} {cl : α → List Value} {S : α → β → Prop} {v : Value} {es : List α} {xs : List β} (h : Tp.Rw B d W ty wide cl (fun _ => S) v es xs) (hz : W.heap.size ≤ W1.heap.size) (hk : ∀ q, v.ownBlock = some q → W1.heap[q]? = W.heap[q]?) : Tp.Rw B d W1 ty wide cl (fun _ => S) v es xs :=
 ⟨Tp.ow_kept h.row hk, h.len, fun i E x h1 h2 _ _ _ => (h.own i E x h1 h2).now⟩
def Tp.clV (v : ByteArray × Int) : List Value := [.string v.1, .int .i64 v.2]
theorem Tp.clV_len (v : ByteArray × Int) : (Tp.clV v).length = 2 := rfl
theorem Tp.clV_lies (W : World) (g o : Nat) (E : ByteArray × Int) (h : ∀ (j : Nat) (u : Value), (Tp.clV E)[j]? = some u → W.cell? ⟨g, o + j, none⟩ = some u) : Tk.LV W g o E := ⟨h 0 _ rfl, h 1 _ rfl⟩
def Tp.gV (B bp : Nat) (x : List (ByteArray × Int)) (r : Ending) (W : World) : Prop := ∃ s : Tk.Sl, r = .returned (.slice s.ad s.len s.cap) ∧ Tp.Ow B bp W (fun W => Tk.RS W 2 (Tk.LV W) Tk.RV s x)
structure Tp.Vs (l : List Tp.T) (ta : Option Addr) (c bp : Nat) (e : Int) (w : World) (b : Nat) (o : Except Nat (List (ByteArray × Int) × Nat)) (f : Nat) (v : Value) (acc : List (ByteArray × Int)) (i : Nat) (wr : World) : Prop where
 is : Tp.vars l f i acc = o
 fuel : l.length < f + i
 many : acc.length + f = l.length + 1
 at_ : Tp.J l ta c bp e wr i b
 tu : Tp.Tu (Tp.D1 bp) w.heap.size w wr
 row : Tp.Rw w.heap.size bp wr 59 2 Tp.clV (fun _ => Tk.RV) v acc acc
section
variable (l : List Tp.T) (ta : Option Addr) (c bp : Nat) (e : Int)
theorem tvars_any (i0 b : Nat) (w : World) (h : Tp.J l ta c bp e w i0 b) :
  Calls Tryz.prog 154 #[.pointer (some ⟨bp, 0, none⟩)] w (Tp.Out l ta c bp e (Tp.D1 bp) w b (Tp.gV w.heap.size bp) (Tp.vars l (l.length + 1) i0 [])) := by
 obtain ⟨o, ho⟩ : ∃ o, Tp.vars l (l.length + 1) i0 [] = o := ⟨_, rfl⟩
 rw [ho]
 have hlt := h.lt
 have HC0 := hide (show Tp.Vs l ta c bp e w b o (l.length + 1) (.slice none 0 0) [] i0 w from ⟨ho, by omega, by simp, h, Tp.Tu.refl _ _ _, Tp.Rw.nil _ _ _ _ _ _ _⟩)
 obtain ⟨t0, hi0, hz0, hz1', hz2⟩ := Tp.info_of Tryz.infoTV
 have HI := hide hi0
 have HZ0 := hide hz0
 have HZ1 := hide hz1'
 have HZ2 := hide hz2
 clear h ho hi0 hz0 hz1' hz2
 go_enter Tryz.func154, Tryz.ntmps154
 go_wp2_with fail
 go_loopg [3] (l.length + 1) (fun f lv wr => ∃ acc i, Tp.Vs l ta c bp e w b o f lv acc i wr)
 case atStart => exact ⟨[], i0, unhide HC0⟩
 case round =>
  clear HC0
  obtain ⟨acc, i, hcs⟩ := hrel
  have hf := hcs.fuel
  have hle := hcs.at_.le
  obtain ⟨f, rfl⟩ : ∃ f, gk = f + 1 := ⟨gk - 1, by omega⟩
  have HCS := hide hcs
  obtain ⟨ga, cap, rfl, hcap⟩ := hcs.row.form
  have hll := hcs.at_.fine.few
  have hwz := hcs.tu.size
  have hbA := (Below.refl wr.heap.size wr).alloc (Nat.le_refl _) (Obj.cells #[.string ⟨#[]⟩, .int .i64 0] 59)
  have HX := hide (show Tp.X2 (wr.alloc (Obj.cells #[.string ⟨#[]⟩, .int .i64 0] 59)) wr.heap.size ⟨#[]⟩ 0 from ⟨by go_simp, by go_simp, fun j => by go_simp⟩)
  have HU := hide (Tp.Tu.of_below (D := Tp.D1 bp) hbA)
  have HJ := hide (hcs.at_.below hbA)
  have hmany := hcs.many
  have hal : acc.length ≤ 10001 := by omega
  have hbw := hcs.at_.lt
  clear hcs hbA
  obtain ⟨y1, hy1⟩ : ∃ y, Tp.see l i ⟨#[118, 97, 114]⟩ = y := ⟨_, rfl⟩
  obtain ⟨y2, hy2⟩ : ∃ y, Tp.see l i ⟨#[97, 114, 114]⟩ = y := ⟨_, rfl⟩
  have HY1 := hide hy1
  have HY2 := hide hy2
  go_wp2_with fail
  have hsa : (wr.alloc (Obj.cells #[.string ⟨#[]⟩, .int .i64 0] 59)).heap.size = wr.heap.size + 1 := by simp
  generalize (wr.alloc (Obj.cells #[.string ⟨#[]⟩, .int .i64 0] 59)) = wa at *
  refine (ttakeIf_any l ta c bp e ⟨#[118, 97, 114]⟩ (by decide) i b wa (unhide HJ) y1 hy1).mono ?_
  rintro r w1 ⟨rfl, hj, ht⟩
  have HX1 := hide ((unhide HX).tu ht (show ¬ wr.heap.size = bp by omega))
  have HU1 := hide ((unhide HU).then ht (by omega) (fun _ _ h => h))
  have HJ1 := hide hj
  have hs1 := ht.size
  clear hj ht HX HU HJ hy1 hy2
  cases y1
  · replace HJ1 := hide (show Tp.J l ta c bp e w1 i b by simpa using unhide HJ1)
    go_wp2_with fail
    refine (ttakeIf_any l ta c bp e ⟨#[97, 114, 114]⟩ (by decide) i b w1 (unhide HJ1) y2 (unhide HY2)).mono ?_
    rintro r w2 ⟨rfl, hj, ht⟩
    have HX2 := hide ((unhide HX1).tu ht (show ¬ wr.heap.size = bp by omega))
    have HU2 := hide ((unhide HU1).then ht (by omega) (fun _ _ h => h))
    have HJ2 := hide hj
    have hs2 := ht.size
    clear hj ht HX1 HU1 HJ1
    cases y2
    · replace HJ2 := hide (show Tp.J l ta c bp e w2 i b by simpa using unhide HJ2)
      have hcs := unhide HCS
      obtain rfl : o = .ok (acc, i) := by rw [← hcs.is]; simp only [Tp.vars, unhide HY1, unhide HY2, Bool.false_eq_true, if_false]
      have hU := unhide HU2
      have HRK := hide (hcs.row.keptV hU.size (fun q hq => hU.block q (hcs.row.row.lt q hq).2 (by have := (hcs.row.row.lt q hq).1; show ¬ q = bp; omega)))
      have HT5 := hide (hcs.tu.then hU hwz (fun _ _ h => h))
      clear hcs hU
      go_wp2_with fail
      go_ret
      have hR := unhide HRK
      obtain ⟨s, hs, hos⟩ := hR.reads (lies := fun W => Tk.LV W) (by omega) Tp.clV_len Tp.clV_lies (by omega)
      exact ⟨⟨s, by rw [hs]; rfl, hos⟩, unhide HJ2, unhide HT5⟩
    · replace HJ2 := hide (show Tp.J l ta c bp e w2 (i + 1) b by simpa using unhide HJ2)
      go_wp2_with fail
      refine (tname_any l ta c bp e (i + 1) b w2 (unhide HJ2)).mono ?_
      intro r w3 h3
      cases hn : Tp.name l (i + 1) with
      | error j =>
       rw [hn] at h3
       obtain ⟨rfl, ht⟩ := h3
       have HT := hide ((unhide HCS).tu.then ((unhide HU2).then ht (by omega) (fun _ _ h => h)) (by omega) (fun _ _ h => h))
       obtain rfl : o = .error j := by rw [← (unhide HCS).is]; simp only [Tp.vars, unhide HY1, Bool.false_eq_true, if_false, unhide HY2, if_true, hn]
       clear ht
       go_wp2_with fail
       exact ⟨rfl, rfl, unhide HT⟩
      | ok p =>
       obtain ⟨nm, j⟩ := p
       rw [hn] at h3
       obtain ⟨⟨rfl, hnl⟩, hj, ht⟩ := h3
       obtain rfl := Tp.name_ok hn
       have HE1 := hide hn
       have HNL := hide hnl
       have HX3 := hide ((unhide HX2).tu ht (show ¬ wr.heap.size = bp by omega))
       have HU3 := hide ((unhide HU2).then ht (by omega) (fun _ _ h => h))
       have HJ3 := hide hj
       have hs3 := ht.size
       clear hj ht HX2 HU2 HJ2
       clear hnl hn
       have HUs := hide ((unhide HU3).set (b := wr.heap.size) (o := 0) (.string nm) (by omega))
       have HJs := hide ((unhide HJ3).set (q := wr.heap.size) (o := 0) (.string nm) (by omega))
       have HXs := hide ((unhide HX3).set0 nm)
       have hss : (w3.setCell ⟨wr.heap.size, 0, none⟩ (.string nm)).heap.size = w3.heap.size := by simp [World.setCell]
       obtain ⟨n0, n1, nf⟩ := unhide HX3
       clear HX3 HU3 HJ3
       go_wp2_with fail
       generalize (w3.setCell ⟨wr.heap.size, 0, none⟩ (.string nm)) = v3 at *
       clear n0 n1 nf
       refine (tcount_any l ta c bp e (i + 1 + 1) b v3 (unhide HJs)).mono ?_
       intro r w4 h4
       cases hn : Tp.count l (i + 1 + 1) with
       | error j =>
        rw [hn] at h4
        obtain ⟨rfl, ht⟩ := h4
        have HT := hide ((unhide HCS).tu.then ((unhide HUs).then ht (by omega) (fun _ _ h => h)) (by omega) (fun _ _ h => h))
        obtain rfl : o = .error j := by rw [← (unhide HCS).is]; simp only [Tp.vars, unhide HY1, Bool.false_eq_true, if_false, unhide HY2, if_true, unhide HE1, hn]
        clear ht
        go_wp2_with fail
        exact ⟨rfl, rfl, unhide HT⟩
       | ok p =>
        obtain ⟨z, j⟩ := p
        rw [hn] at h4
        obtain ⟨⟨rfl, hv⟩, hj, ht⟩ := h4
        obtain rfl := Tp.count_ok hn
        have HE2 := hide hn
        have HX4 := hide ((unhide HXs).tu ht (show ¬ wr.heap.size = bp by omega))
        have HU4 := hide ((unhide HUs).then ht (by omega) (fun _ _ h => h))
        have HJ4 := hide hj
        have hs4 := ht.size
        have hss3 := hss
        clear hj ht HXs HUs HJs hn hv hss
        have HUs := hide ((unhide HU4).set (b := wr.heap.size) (o := 1) (.int .i64 z) (by omega))
        have HJs := hide ((unhide HJ4).set (q := wr.heap.size) (o := 1) (.int .i64 z) (by omega))
        have HXs := hide ((unhide HX4).set1 z)
        have hss : (w4.setCell ⟨wr.heap.size, 1, none⟩ (.int .i64 z)).heap.size = w4.heap.size := by simp [World.setCell]
        obtain ⟨n0, n1, nf⟩ := unhide HX4
        clear HX4 HU4 HJ4
        go_wp2_with fail
        generalize (w4.setCell ⟨wr.heap.size, 1, none⟩ (.int .i64 z)) = v4 at *
        clear n0 n1 nf
        refine (twant_any l ta c bp e ⟨#[59]⟩ (by decide) (i + 1 + 1 + 1) b v4 (unhide HJs)).mono ?_
        intro r w9 h9
        cases hn : Tp.want l ⟨#[59]⟩ (i + 1 + 1 + 1) with
        | error j =>
         rw [hn] at h9
         obtain ⟨rfl, ht⟩ := h9
         have HT := hide ((unhide HCS).tu.then ((unhide HUs).then ht (by omega) (fun _ _ h => h)) (by omega) (fun _ _ h => h))
         obtain rfl : o = .error j := by rw [← (unhide HCS).is]; simp only [Tp.vars, unhide HY1, Bool.false_eq_true, if_false, unhide HY2, if_true, unhide HE1, unhide HE2, hn]
         clear ht
         go_wp2_with fail
         exact ⟨rfl, rfl, unhide HT⟩
        | ok j =>
         rw [hn] at h9
         obtain ⟨rfl, hj, ht⟩ := h9
         obtain rfl := Tp.want_ok hn
         have HE9 := hide hn
         have HX9 := hide ((unhide HXs).tu ht (show ¬ wr.heap.size = bp by omega))
         have HU9 := hide ((unhide HUs).then ht (by omega) (fun _ _ h => h))
         have HJ9 := hide hj
         have hs9 := ht.size
         clear hj ht HXs HUs HJs hn
         have hcs := unhide HCS
         have HO := hide (show Tp.vars l f (i + 1 + 1 + 1 + 1) (acc ++ [(nm, z)]) = o by have h1 := hcs.is; simp only [Tp.vars, unhide HY1, Bool.false_eq_true, if_false, unhide HY2, if_true, unhide HE1, unhide HE2, unhide HE9] at h1; exact h1)
         have hU := unhide HU9
         have hbN := (Below.refl w9.heap.size w9).alloc (Nat.le_refl _) (Obj.cells #[.string nm, .int .i64 z] 59)
         have hkr : ∀ q, (Value.slice ga acc.length cap).ownBlock = some q → (w9.alloc (Obj.cells #[.string nm, .int .i64 z] 59)).heap[q]? = wr.heap[q]? := fun q hq => by
          have h1 := hcs.row.row.lt q hq
          exact (hbN.block q (by omega)).trans (hU.block q h1.2 (by show ¬ q = bp; omega))
         have HRN := hide (hcs.row.keptV (by have := hbN.size; omega) hkr)
         have HT7 := hide ((hcs.tu.then hU hwz (fun _ _ h => h)).below hbN (by omega))
         have HJ7 := hide ((unhide HJ9).below hbN)
         have HBK := hide (heap_alloc_new w9 (Obj.cells #[.string nm, .int .i64 z] 59))
         have hsb : (w9.alloc (Obj.cells #[.string nm, .int .i64 z] 59)).heap.size = w9.heap.size + 1 := by simp
         obtain ⟨n0, n1, nf⟩ := unhide HX9
         clear hcs hU hbN hkr HX9 HU9
         go_wp2_with (at_builtin; refine wpList_append_lies _ (by rfl) _ _ _ (by rfl) w.heap.size 59 t0 _ 2 24 Tryz.underlying48 (unhide HI) (unhide HZ0) (unhide HZ1) (unhide HZ2) rfl (by omega) (.slice ga acc.length cap) acc.length (acc.flatMap Tp.clV) (by rfl) (unhide HRN).row ⟨w9.heap.size, 0, none⟩ 1 1 [.string nm, .int .i64 z] (by rfl) (by rfl) (World.news_of_block (unhide HBK)) (by simp [Value.oneCell']) (by omega) (by unfold maxLen; omega) (by omega) (by omega) (w9.heap.size + 1) (by omega) ?_; intro gA cA w8 hoA hgA hatA hltA; have HOA := hide hoA; have HGA := hide hgA; have HAT := hide hatA; clear hatA hltA hoA hgA)
         have hgA := unhide HGA
         have hrow := (unhide HRN).row
         have hk8 : ∀ q, q < w.heap.size → w8.heap[q]? = (w9.alloc (Obj.cells #[.string nm, .int .i64 z] 59)).heap[q]? := fun q hq => hgA.block q (by omega) (fun e => by have := (hrow.lt q e.symm).1; omega)
         have hT8 : Tp.Tu (Tp.D1 bp) w.heap.size w w8 := (unhide HT7).trans ⟨hgA.os, hgA.tape, hgA.output, hgA.size, fun q h1 _ => hk8 q h1⟩
         have hJ8 := (unhide HJ7).kept hgA.size (fun q hq => hk8 q (by omega))
         have hR8 := (unhide HRN).app (E := (nm, z)) (x := (nm, z)) (fun _ _ _ => ⟨rfl, unhide HNL⟩) hgA.size (by omega) (fun q _ h2 h3 => hgA.block q h2 (fun e => h3 e.symm)) (unhide HOA) ((unhide HAT).imp id (fun e => by rw [e, hsb]; exact Nat.le_refl _))
         go_roundg f
         case measure => omega
         case rel => exact ⟨acc ++ [(nm, z)], i + 1 + 1 + 1 + 1, unhide HO, by omega, by rw [List.length_append]; simp; omega, hJ8, hT8, hR8⟩
  · replace HJ1 := hide (show Tp.J l ta c bp e w1 (i + 1) b by simpa using unhide HJ1)
    go_wp2_with fail
    refine (tname_any l ta c bp e (i + 1) b w1 (unhide HJ1)).mono ?_
    intro r w3 h3
    cases hn : Tp.name l (i + 1) with
    | error j =>
     rw [hn] at h3
     obtain ⟨rfl, ht⟩ := h3
     have HT := hide ((unhide HCS).tu.then ((unhide HU1).then ht (by omega) (fun _ _ h => h)) (by omega) (fun _ _ h => h))
     obtain rfl : o = .error j := by rw [← (unhide HCS).is]; simp only [Tp.vars, unhide HY1, if_true, hn]
     clear ht
     go_wp2_with fail
     exact ⟨rfl, rfl, unhide HT⟩
    | ok p =>
     obtain ⟨nm, j⟩ := p
     rw [hn] at h3
     obtain ⟨⟨rfl, hnl⟩, hj, ht⟩ := h3
     obtain rfl := Tp.name_ok hn
     have HE1 := hide hn
     have HNL := hide hnl
     have HX3 := hide ((unhide HX1).tu ht (show ¬ wr.heap.size = bp by omega))
     have HU3 := hide ((unhide HU1).then ht (by omega) (fun _ _ h => h))
     have HJ3 := hide hj
     have hs3 := ht.size
     clear hj ht HX1 HU1 HJ1
     clear hnl hn
     have HUs := hide ((unhide HU3).set (b := wr.heap.size) (o := 0) (.string nm) (by omega))
     have HJs := hide ((unhide HJ3).set (q := wr.heap.size) (o := 0) (.string nm) (by omega))
     have HXs := hide ((unhide HX3).set0 nm)
     have hss : (w3.setCell ⟨wr.heap.size, 0, none⟩ (.string nm)).heap.size = w3.heap.size := by simp [World.setCell]
     obtain ⟨n0, n1, nf⟩ := unhide HX3
     clear HX3 HU3 HJ3
     go_wp2_with fail
     generalize (w3.setCell ⟨wr.heap.size, 0, none⟩ (.string nm)) = v3 at *
     clear n0 n1 nf
     refine (twant_any l ta c bp e ⟨#[59]⟩ (by decide) (i + 1 + 1) b v3 (unhide HJs)).mono ?_
     intro r w9 h9
     cases hn : Tp.want l ⟨#[59]⟩ (i + 1 + 1) with
     | error j =>
      rw [hn] at h9
      obtain ⟨rfl, ht⟩ := h9
      have HT := hide ((unhide HCS).tu.then ((unhide HUs).then ht (by omega) (fun _ _ h => h)) (by omega) (fun _ _ h => h))
      obtain rfl : o = .error j := by rw [← (unhide HCS).is]; simp only [Tp.vars, unhide HY1, if_true, unhide HE1, hn]
      clear ht
      go_wp2_with fail
      exact ⟨rfl, rfl, unhide HT⟩
     | ok j =>
      rw [hn] at h9
      obtain ⟨rfl, hj, ht⟩ := h9
      obtain rfl := Tp.want_ok hn
      have HE9 := hide hn
      have HX9 := hide ((unhide HXs).tu ht (show ¬ wr.heap.size = bp by omega))
      have HU9 := hide ((unhide HUs).then ht (by omega) (fun _ _ h => h))
      have HJ9 := hide hj
      have hs9 := ht.size
      clear hj ht HXs HUs HJs hn
      have hcs := unhide HCS
      have HO := hide (show Tp.vars l f (i + 1 + 1 + 1) (acc ++ [(nm, 0)]) = o by have h1 := hcs.is; simp only [Tp.vars, unhide HY1, if_true, unhide HE1, unhide HE9] at h1; exact h1)
      have hU := unhide HU9
      have hbN := (Below.refl w9.heap.size w9).alloc (Nat.le_refl _) (Obj.cells #[.string nm, .int .i64 0] 59)
      have hkr : ∀ q, (Value.slice ga acc.length cap).ownBlock = some q → (w9.alloc (Obj.cells #[.string nm, .int .i64 0] 59)).heap[q]? = wr.heap[q]? := fun q hq => by
       have h1 := hcs.row.row.lt q hq
       exact (hbN.block q (by omega)).trans (hU.block q h1.2 (by show ¬ q = bp; omega))
      have HRN := hide (hcs.row.keptV (by have := hbN.size; omega) hkr)
      have HT7 := hide ((hcs.tu.then hU hwz (fun _ _ h => h)).below hbN (by omega))
      have HJ7 := hide ((unhide HJ9).below hbN)
      have HBK := hide (heap_alloc_new w9 (Obj.cells #[.string nm, .int .i64 0] 59))
      have hsb : (w9.alloc (Obj.cells #[.string nm, .int .i64 0] 59)).heap.size = w9.heap.size + 1 := by simp
      obtain ⟨n0, n1, nf⟩ := unhide HX9
      clear hcs hU hbN hkr HX9 HU9
      go_wp2_with (at_builtin; refine wpList_append_lies _ (by rfl) _ _ _ (by rfl) w.heap.size 59 t0 _ 2 24 Tryz.underlying48 (unhide HI) (unhide HZ0) (unhide HZ1) (unhide HZ2) rfl (by omega) (.slice ga acc.length cap) acc.length (acc.flatMap Tp.clV) (by rfl) (unhide HRN).row ⟨w9.heap.size, 0, none⟩ 1 1 [.string nm, .int .i64 0] (by rfl) (by rfl) (World.news_of_block (unhide HBK)) (by simp [Value.oneCell']) (by omega) (by unfold maxLen; omega) (by omega) (by omega) (w9.heap.size + 1) (by omega) ?_; intro gA cA w8 hoA hgA hatA hltA; have HOA := hide hoA; have HGA := hide hgA; have HAT := hide hatA; clear hatA hltA hoA hgA)
      have hgA := unhide HGA
      have hrow := (unhide HRN).row
      have hk8 : ∀ q, q < w.heap.size → w8.heap[q]? = (w9.alloc (Obj.cells #[.string nm, .int .i64 0] 59)).heap[q]? := fun q hq => hgA.block q (by omega) (fun e => by have := (hrow.lt q e.symm).1; omega)
      have hT8 : Tp.Tu (Tp.D1 bp) w.heap.size w w8 := (unhide HT7).trans ⟨hgA.os, hgA.tape, hgA.output, hgA.size, fun q h1 _ => hk8 q h1⟩
      have hJ8 := (unhide HJ7).kept hgA.size (fun q hq => hk8 q (by omega))
      have hR8 := (unhide HRN).app (E := (nm, 0)) (x := (nm, 0)) (fun _ _ _ => ⟨rfl, unhide HNL⟩) hgA.size (by omega) (fun q _ h2 h3 => hgA.block q h2 (fun e => h3 e.symm)) (unhide HOA) ((unhide HAT).imp id (fun e => by rw [e, hsb]; exact Nat.le_refl _))
      go_roundg f
      case measure => omega
      case rel => exact ⟨acc ++ [(nm, 0)], i + 1 + 1 + 1, unhide HO, by omega, by rw [List.length_append]; simp; omega, hJ8, hT8, hR8⟩
end
end Go.Proofs.YtfccpddehpgfoaaGreatDoor
