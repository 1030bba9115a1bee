/-
  Contracts of tree's parser: main, function. By the verifier.
-/
import Derived.Test.YtfccpddehpgfoaaGreatDoorTCd
import Derived.Test.YtfccpddehpgfoaaGreatDoorTF1
set_option maxRecDepth 100000
set_option maxHeartbeats 3200000
namespace Go.Proofs.YtfccpddehpgfoaaGreatDoor
open Go.RowKit
set_option linter.unusedVariables false
def Tk.F.new (a : Int) : Tk.F := ⟨a, ⟨#[]⟩, ⟨none, 0, 0⟩, ⟨none, 0, 0⟩, ⟨none, 0, 0⟩, Tk.E.zero⟩
theorem Tryz.sizeTF : (Tryz.prog.info? 54).map (·.size) = some 10 := by kernel_rfl
def Tp.gF (B bp n : Nat) (x : Tk.FT 61 n) (r : Ending) (W : World) : Prop := ∃ F : Tk.F, r = .returned (.agg F.cells) ∧ Tp.Ow B bp W (fun W => Tk.RF W 61 n F x)
theorem Tp.Cb.old {l : List Tp.T} {ta : Option Addr} {c bp : Nat} {e : Int} {w0 W : World} {cb : Nat} {P : World → Prop} {cs : Array Value} {i b : Nat} (h : Tp.Cb l ta c bp e w0 cb P cs i b W) (q : Nat) (h0 : q < w0.heap.size) (h1 : q ≠ bp) (h2 : q ≠ cb) : W.heap[q]? = w0.heap[q]? :=
 h.tu.block q h0 (fun hd => by rcases hd with hd | hd; exact h1 hd; exact h2 hd)
section
variable (l : List Tp.T) (ta : Option Addr) (c bp : Nat) (e : Int)
theorem tmain_any (n : Nat) (hn : l.length ≤ n) (i : Nat) (w : World) (h : Tp.J l ta c bp e w i 0) :
  Calls Tryz.prog 110 #[.pointer (some ⟨bp, 0, none⟩)] w (Tp.Out l ta c bp e (Tp.D1 bp) w 0 (Tp.gF w.heap.size bp n) (Tp.main l e n i)) := by
 obtain ⟨o, ho⟩ : ∃ o, Tp.main l e n i = o := ⟨_, rfl⟩
 rw [ho]
 have hlt := h.lt
 have HEQ := hide ho
 have HRC := hide (fun (i' : Nat) (W : World) (h1 : i' < l.length) (hJ : Tp.J l ta c bp e W i' 0) => tcmd_any l ta c bp e n i' W h1 (by omega) hJ)
 have hbA : Below w.heap.size w (w.alloc (Obj.cells #[.int .i64 0, .string ⟨#[]⟩, .slice none 0 0, .slice none 0 0, .slice none 0 0, .int .i64 0, .int .i64 0, .int .i64 0, .string ⟨#[]⟩, .slice none 0 0] 54)) := (Below.refl _ _).alloc (Nat.le_refl _) _
 have HA := hide (tat_any l ta c bp e i 0 _ (h.below hbA))
 have HJ := hide (h.below hbA)
 have HB := hide hbA
 have hsa : (w.alloc (Obj.cells #[.int .i64 0, .string ⟨#[]⟩, .slice none 0 0, .slice none 0 0, .slice none 0 0, .int .i64 0, .int .i64 0, .int .i64 0, .string ⟨#[]⟩, .slice none 0 0] 54)).heap.size = w.heap.size + 1 := by simp
 have HRX := hide (show ∀ j v, (Tk.F.new 0).cells[j]? = some v → (w.alloc (Obj.cells #[.int .i64 0, .string ⟨#[]⟩, .slice none 0 0, .slice none 0 0, .slice none 0 0, .int .i64 0, .int .i64 0, .int .i64 0, .string ⟨#[]⟩, .slice none 0 0] 54)).cell? ⟨w.heap.size, j, none⟩ = some v from fun j v hj => by go_simp; simpa [Tk.F.new, Tk.F.cells, Tk.E.zero] using hj)
 have HRF := hide (show ∀ j, (w.alloc (Obj.cells #[.int .i64 0, .string ⟨#[]⟩, .slice none 0 0, .slice none 0 0, .slice none 0 0, .int .i64 0, .int .i64 0, .int .i64 0, .string ⟨#[]⟩, .slice none 0 0] 54)).frozen? ⟨w.heap.size, j, none⟩ = false from fun j => by go_simp)
 clear h ho hbA
 go_enter Tryz.func110, Tryz.ntmps110
 go_wp2_with fail
 generalize (w.alloc (Obj.cells #[.int .i64 0, .string ⟨#[]⟩, .slice none 0 0, .slice none 0 0, .slice none 0 0, .int .i64 0, .int .i64 0, .int .i64 0, .string ⟨#[]⟩, .slice none 0 0] 54)) = wa at *
 refine (unhide HA).mono ?_
 rintro r w1 ⟨rfl, hb1⟩
 obtain ⟨a, ha⟩ : ∃ a, Tp.pl l e i = a := ⟨_, rfl⟩
 rw [ha]
 have HPL := hide ha
 have hs1 := hb1.size
 have hbN := (Below.refl w1.heap.size w1).alloc (Nat.le_refl _) (Obj.cells #[.int .i64 a, .string ⟨#[]⟩, .slice none 0 0, .slice none 0 0, .slice none 0 0, .int .i64 0, .int .i64 0, .int .i64 0, .string ⟨#[]⟩, .slice none 0 0] 54)
 have hs2 : (w1.alloc (Obj.cells #[.int .i64 a, .string ⟨#[]⟩, .slice none 0 0, .slice none 0 0, .slice none 0 0, .int .i64 0, .int .i64 0, .int .i64 0, .string ⟨#[]⟩, .slice none 0 0] 54)).heap.size = w1.heap.size + 1 := by simp
 have HC := hide (show Tp.Cb l ta c bp e (w1.alloc (Obj.cells #[.int .i64 a, .string ⟨#[]⟩, .slice none 0 0, .slice none 0 0, .slice none 0 0, .int .i64 0, .int .i64 0, .int .i64 0, .string ⟨#[]⟩, .slice none 0 0] 54)) w1.heap.size (fun _ => True) (Tk.F.new a).cells i 0 (w1.alloc (Obj.cells #[.int .i64 a, .string ⟨#[]⟩, .slice none 0 0, .slice none 0 0, .slice none 0 0, .int .i64 0, .int .i64 0, .int .i64 0, .string ⟨#[]⟩, .slice none 0 0] 54)) from
  ⟨((unhide HJ).below hb1).below hbN, Tp.Tu.refl _ _ _, fun j v hj => by go_simp; simpa [Tk.F.new, Tk.F.cells, Tk.E.zero] using hj, fun j => by go_simp, fun _ _ _ => trivial, ⟨by omega, by omega⟩⟩)
 have hbR : ∀ q, q < w.heap.size + 1 → (w1.alloc (Obj.cells #[.int .i64 a, .string ⟨#[]⟩, .slice none 0 0, .slice none 0 0, .slice none 0 0, .int .i64 0, .int .i64 0, .int .i64 0, .string ⟨#[]⟩, .slice none 0 0] 54)).heap[q]? = wa.heap[q]? := fun q hq => (hbN.block _ (by omega)).trans (hb1.block _ (by omega))
 have HX := hide (show (∀ j v, (Tk.F.new 0).cells[j]? = some v → (w1.alloc (Obj.cells #[.int .i64 a, .string ⟨#[]⟩, .slice none 0 0, .slice none 0 0, .slice none 0 0, .int .i64 0, .int .i64 0, .int .i64 0, .string ⟨#[]⟩, .slice none 0 0] 54)).cell? ⟨w.heap.size, j, none⟩ = some v) ∧ ∀ j, (w1.alloc (Obj.cells #[.int .i64 a, .string ⟨#[]⟩, .slice none 0 0, .slice none 0 0, .slice none 0 0, .int .i64 0, .int .i64 0, .int .i64 0, .string ⟨#[]⟩, .slice none 0 0] 54)).frozen? ⟨w.heap.size, j, none⟩ = false from
  ⟨fun j v hj => (World.cell?_of_block (a := ⟨w.heap.size, j, none⟩) (hbR w.heap.size (by omega))).trans ((unhide HRX) j v hj), fun j => (World.frozen?_of_block (a := ⟨w.heap.size, j, none⟩) (hbR w.heap.size (by omega))).trans ((unhide HRF) j)⟩)
 have HT0 := hide (((unhide HB).trans (hb1.mono (by omega))).trans (hbN.mono (by omega)))
 clear hb1 hbN hbR HA HJ HB HRX HRF ha
 go_wp2_with fail
 generalize hw2 : (w1.alloc (Obj.cells #[.int .i64 a, .string ⟨#[]⟩, .slice none 0 0, .slice none 0 0, .slice none 0 0, .int .i64 0, .int .i64 0, .int .i64 0, .string ⟨#[]⟩, .slice none 0 0] 54)) = w2 at *
 clear hw2
 generalize w1.heap.size = cb at *
 refine (twant_any l ta c bp e ⟨#[109, 97, 105, 110]⟩ (by decide) i 0 w2 (unhide HC).at_).mono ?_
 intro r u1 h1
 cases hn : Tp.want l ⟨#[109, 97, 105, 110]⟩ i with
 | error j =>
  rw [hn] at h1
  obtain ⟨rfl, ht⟩ := h1
  obtain rfl : o = .error j := by rw [← unhide HEQ]; simp only [Tp.main, hn]
  have HT := hide ((Tp.Tu.of_below (unhide HT0)).trans (((unhide HC).tu.then ht (unhide HC).lt.2.2 (fun _ _ h => Or.inl h)).mono (by omega) (fun q hq h => by rcases h with h | h; exact h; omega)))
  clear ht
  go_wp2_with fail
  exact ⟨rfl, rfl, unhide HT⟩
 | ok i1 =>
  rw [hn] at h1
  obtain ⟨rfl, hj, ht⟩ := h1
  have HN1 := hide hn
  replace HC := hide ((unhide HC).step hj ht)
  clear hj ht hn
  go_wp2_with fail
  refine (twant_any l ta c bp e ⟨#[123]⟩ (by decide) i1 0 u1 (unhide HC).at_).mono ?_
  intro r u2 h1
  cases hn : Tp.want l ⟨#[123]⟩ i1 with
  | error j =>
   rw [hn] at h1
   obtain ⟨rfl, ht⟩ := h1
   obtain rfl : o = .error j := by rw [← unhide HEQ]; simp only [Tp.main, Tp.body, unhide HN1, hn]
   have HT := hide ((Tp.Tu.of_below (unhide HT0)).trans (((unhide HC).tu.then ht (unhide HC).lt.2.2 (fun _ _ h => Or.inl h)).mono (by omega) (fun q hq h => by rcases h with h | h; exact h; omega)))
   clear ht
   go_wp2_with fail
   exact ⟨rfl, rfl, unhide HT⟩
  | ok i4 =>
   rw [hn] at h1
   obtain ⟨rfl, hj, ht⟩ := h1
   have HN2 := hide hn
   replace HC := hide ((unhide HC).step hj ht)
   clear hj ht hn
   go_wp2_with fail
   refine (tvars_any l ta c bp e i4 0 u2 (unhide HC).at_).mono ?_
   intro r u3 h1
   cases hn : Tp.vars l (l.length + 1) i4 [] with
   | error j =>
    rw [hn] at h1
    obtain ⟨rfl, ht⟩ := h1
    obtain rfl : o = .error j := by rw [← unhide HEQ]; simp only [Tp.main, Tp.body, unhide HN1, unhide HN2, hn]
    have HT := hide ((Tp.Tu.of_below (unhide HT0)).trans (((unhide HC).tu.then ht (unhide HC).lt.2.2 (fun _ _ h => Or.inl h)).mono (by omega) (fun q hq h => by rcases h with h | h; exact h; omega)))
    clear ht
    go_wp2_with fail
    exact ⟨rfl, rfl, unhide HT⟩
   | ok p =>
    rw [hn] at h1
    obtain ⟨vs, i5⟩ := p
    obtain ⟨⟨sv, rfl, hro⟩, hj, ht⟩ := h1
    have HN3 := hide hn
    replace HC := hide (((unhide HC).step hj ht).and hro (unhide HC).lt.2.2)
    clear hro
    clear hj ht hn
    have hc0 := (unhide HC).box 3 _ rfl
    have hz0 := (unhide HC).fz
    have HC2 := hide ((unhide HC).set 3 (.slice sv.ad sv.len sv.cap) ⟨_, rfl⟩ (cs' := ((Tk.F.mk a ⟨#[]⟩ ⟨none, 0, 0⟩ sv ⟨none, 0, 0⟩ Tk.E.zero)).cells) rfl)
    go_wp2_with fail
    clear hc0 hz0 HC
    generalize (u3.setCell ⟨cb, 3, none⟩ (.slice sv.ad sv.len sv.cap)) = u3s at *
    have HC := HC2
    clear HC2
    refine (tcmds_any l ta c bp e (Tp.cmd l e n) i5 (fun i x j h => Tp.cmd_go n h) (fun i' W _ h2 hJ => (unhide HRC) i' W h2 hJ) u3s (unhide HC).at_).mono ?_
    intro r u4 h1
    cases hn : Tp.cmds l (Tp.cmd l e n) (l.length + 1) i5 [] with
    | error j =>
     rw [hn] at h1
     obtain ⟨rfl, ht⟩ := h1
     obtain rfl : o = .error j := by rw [← unhide HEQ]; simp only [Tp.main, Tp.body, unhide HN1, unhide HN2, unhide HN3, hn]
     have HT := hide ((Tp.Tu.of_below (unhide HT0)).trans (((unhide HC).tu.then ht (unhide HC).lt.2.2 (fun _ _ h => Or.inl h)).mono (by omega) (fun q hq h => by rcases h with h | h; exact h; omega)))
     clear ht
     go_wp2_with fail
     exact ⟨rfl, rfl, unhide HT⟩
    | ok p =>
     rw [hn] at h1
     obtain ⟨cs, i6⟩ := p
     obtain ⟨⟨sc, rfl, hro⟩, hj, ht⟩ := h1
     have HN4 := hide hn
     replace HC := hide (((unhide HC).step hj ht).and hro (unhide HC).lt.2.2)
     clear hro
     clear hj ht hn
     have hc0 := (unhide HC).box 4 _ rfl
     have hz0 := (unhide HC).fz
     have HC2 := hide ((unhide HC).set 4 (.slice sc.ad sc.len sc.cap) ⟨_, rfl⟩ (cs' := ((Tk.F.mk a ⟨#[]⟩ ⟨none, 0, 0⟩ sv sc Tk.E.zero)).cells) rfl)
     go_wp2_with fail
     clear hc0 hz0 HC
     generalize (u4.setCell ⟨cb, 4, none⟩ (.slice sc.ad sc.len sc.cap)) = u4s at *
     have HC := HC2
     clear HC2
     refine (twant_any l ta c bp e ⟨#[125]⟩ (by decide) i6 0 u4s (unhide HC).at_).mono ?_
     intro r u5 h1
     cases hn : Tp.want l ⟨#[125]⟩ i6 with
     | error j =>
      rw [hn] at h1
      obtain ⟨rfl, ht⟩ := h1
      obtain rfl : o = .error j := by rw [← unhide HEQ]; simp only [Tp.main, Tp.body, unhide HN1, unhide HN2, unhide HN3, unhide HN4, hn]
      have HT := hide ((Tp.Tu.of_below (unhide HT0)).trans (((unhide HC).tu.then ht (unhide HC).lt.2.2 (fun _ _ h => Or.inl h)).mono (by omega) (fun q hq h => by rcases h with h | h; exact h; omega)))
      clear ht
      go_wp2_with fail
      exact ⟨rfl, rfl, unhide HT⟩
     | ok i10 =>
      rw [hn] at h1
      obtain ⟨rfl, hj, ht⟩ := h1
      have HN5 := hide hn
      replace HC := hide ((unhide HC).step hj ht)
      clear hj ht hn
      obtain rfl : o = .ok (⟨a, ⟨#[]⟩, [], vs, cs, Tp.zE⟩, i10) := by rw [← unhide HEQ]; simp only [Tp.main, Tp.body, unhide HN1, unhide HN2, unhide HN3, unhide HN4, unhide HN5, unhide HPL]
      obtain ⟨K, hK⟩ : ∃ K, K = (Tk.F.mk a ⟨#[]⟩ ⟨none, 0, 0⟩ sv sc Tk.E.zero) := ⟨_, rfl⟩
      have hRF := (unhide HC).own.imp (Q := fun V => Tk.RF V 61 n K ⟨a, ⟨#[]⟩, [], vs, cs, Tp.zE⟩) (fun V h => by rw [hK]; exact ⟨rfl, rfl, (show (⟨#[]⟩ : ByteArray).size ≤ maxLen by decide), Tp.rs_nil _ _ _ _, h.1.2, h.2, Tp.zeroE_any V⟩)
      rw [← hK] at HC
      have hlc := (unhide HC).lt
      have hRb : u5.heap[w.heap.size]? = w2.heap[w.heap.size]? := (unhide HC).old _ (by omega) (by omega) (by omega)
      have hRx : ∀ j v, (Tk.F.new 0).cells[j]? = some v → u5.cell? ⟨w.heap.size, j, none⟩ = some v := fun j v hj => (World.cell?_of_block (a := ⟨w.heap.size, j, none⟩) hRb).trans ((unhide HX).1 j v hj)
      have hRf : ∀ j, u5.frozen? ⟨w.heap.size, j, none⟩ = false := fun j => (World.frozen?_of_block (a := ⟨w.heap.size, j, none⟩) hRb).trans ((unhide HX).2 j)
      have hRe : ∀ j, j < K.cells.size → ∃ u, u5.cell? ⟨w.heap.size, j, none⟩ = some u := fun j hj => ⟨_, hRx j _ (Array.getElem?_eq_getElem (show j < (Tk.F.new 0).cells.size from hj))⟩
      obtain ⟨hp, _, hsS, hkS, htS⟩ := Tp.put_at w.heap.size K.cells.toList 0 u5 (fun j _ hj => hRe j (by simpa using hj))
      have hT := ((Tp.Tu.of_below (unhide HT0)).trans ((unhide HC).tu.mono (by omega) (D' := Tp.D1 bp) (fun q hq h => by rcases h with h | h; exact h; omega))).trans (htS _ _ (by omega))
      have hone : ∀ v ∈ K.cells.toList, v.oneCell' = true := fun v hv => by simp [Tk.F.cells] at hv; rcases hv with h | h | h | h | h | h | h | h | h | h <;> subst h <;> rfl
      go_upto_region 7 with fail
      refine Tp.handed (cs := K.cells) (cb := cb) (Rb := w.heap.size) (t := 19) (p := 3) (r := 2) rfl rfl rfl rfl rfl rfl rfl rfl (by simp) (by decide) (unhide HC).box hRe hRf hone Tryz.underlying54 rfl Tryz.sizeTF ?_
      go_wp2_with fail
      refine bodyPost_ret (Tp.handedR (cs := K.cells) (r := 2) rfl rfl hRe Tryz.underlying54 rfl Tryz.sizeTF) rfl ?_
      exact ⟨⟨K, rfl, (hRF.go (by omega) (fun q h1 _ _ => hkS q (by omega))).wide (B' := w.heap.size) (g' := bp) (by omega) (by omega) (Or.inl (by omega))⟩, (unhide HC).at_.kept (by omega) (fun q hq => hkS q (by omega)), hT⟩
theorem tfunction_any (n : Nat) (hn : l.length ≤ n) (i : Nat) (w : World) (h : Tp.J l ta c bp e w i 0) :
  Calls Tryz.prog 109 #[.pointer (some ⟨bp, 0, none⟩)] w (Tp.Out l ta c bp e (Tp.D1 bp) w 0 (Tp.gF w.heap.size bp n) (Tp.func l e n i)) := by
 obtain ⟨o, ho⟩ : ∃ o, Tp.func l e n i = o := ⟨_, rfl⟩
 rw [ho]
 have hlt := h.lt
 have HEQ := hide ho
 have HRC := hide (fun (i' : Nat) (W : World) (h1 : i' < l.length) (hJ : Tp.J l ta c bp e W i' 0) => tcmd_any l ta c bp e n i' W h1 (by omega) hJ)
 have hbA : Below w.heap.size w ((w.alloc (Obj.cells #[.pointer (some ⟨bp, 0, none⟩)] 159)).alloc (Obj.cells #[.int .i64 0, .string ⟨#[]⟩, .slice none 0 0, .slice none 0 0, .slice none 0 0, .int .i64 0, .int .i64 0, .int .i64 0, .string ⟨#[]⟩, .slice none 0 0] 54)) := ((Below.refl _ _).alloc (Nat.le_refl _) _).alloc (by simp) _
 have HA := hide (tat_any l ta c bp e i 0 _ (h.below hbA))
 have HJ := hide (h.below hbA)
 have HB := hide hbA
 have hsa : ((w.alloc (Obj.cells #[.pointer (some ⟨bp, 0, none⟩)] 159)).alloc (Obj.cells #[.int .i64 0, .string ⟨#[]⟩, .slice none 0 0, .slice none 0 0, .slice none 0 0, .int .i64 0, .int .i64 0, .int .i64 0, .string ⟨#[]⟩, .slice none 0 0] 54)).heap.size = w.heap.size + 2 := by simp
 have HRX := hide (show ∀ j v, (Tk.F.new 0).cells[j]? = some v → ((w.alloc (Obj.cells #[.pointer (some ⟨bp, 0, none⟩)] 159)).alloc (Obj.cells #[.int .i64 0, .string ⟨#[]⟩, .slice none 0 0, .slice none 0 0, .slice none 0 0, .int .i64 0, .int .i64 0, .int .i64 0, .string ⟨#[]⟩, .slice none 0 0] 54)).cell? ⟨(w.heap.size + 1), j, none⟩ = some v from fun j v hj => by go_simp; simpa [Tk.F.new, Tk.F.cells, Tk.E.zero] using hj)
 have HRF := hide (show ∀ j, ((w.alloc (Obj.cells #[.pointer (some ⟨bp, 0, none⟩)] 159)).alloc (Obj.cells #[.int .i64 0, .string ⟨#[]⟩, .slice none 0 0, .slice none 0 0, .slice none 0 0, .int .i64 0, .int .i64 0, .int .i64 0, .string ⟨#[]⟩, .slice none 0 0] 54)).frozen? ⟨(w.heap.size + 1), j, none⟩ = false from fun j => by go_simp)
 have hpb0 : ((w.alloc (Obj.cells #[.pointer (some ⟨bp, 0, none⟩)] 159)).alloc (Obj.cells #[.int .i64 0, .string ⟨#[]⟩, .slice none 0 0, .slice none 0 0, .slice none 0 0, .int .i64 0, .int .i64 0, .int .i64 0, .string ⟨#[]⟩, .slice none 0 0] 54)).cell? ⟨w.heap.size, 0, none⟩ = some (.pointer (some ⟨bp, 0, none⟩)) := by go_simp
 have HPB0 := hide hpb0
 clear h ho hbA hpb0
 go_enter Tryz.func109, Tryz.ntmps109
 go_wp2_with fail
 generalize ((w.alloc (Obj.cells #[.pointer (some ⟨bp, 0, none⟩)] 159)).alloc (Obj.cells #[.int .i64 0, .string ⟨#[]⟩, .slice none 0 0, .slice none 0 0, .slice none 0 0, .int .i64 0, .int .i64 0, .int .i64 0, .string ⟨#[]⟩, .slice none 0 0] 54)) = wa at *
 refine (unhide HA).mono ?_
 rintro r w1 ⟨rfl, hb1⟩
 obtain ⟨a, ha⟩ : ∃ a, Tp.pl l e i = a := ⟨_, rfl⟩
 rw [ha]
 have HPL := hide ha
 have hs1 := hb1.size
 have hbN := (Below.refl w1.heap.size w1).alloc (Nat.le_refl _) (Obj.cells #[.int .i64 a, .string ⟨#[]⟩, .slice none 0 0, .slice none 0 0, .slice none 0 0, .int .i64 0, .int .i64 0, .int .i64 0, .string ⟨#[]⟩, .slice none 0 0] 54)
 have hs2 : (w1.alloc (Obj.cells #[.int .i64 a, .string ⟨#[]⟩, .slice none 0 0, .slice none 0 0, .slice none 0 0, .int .i64 0, .int .i64 0, .int .i64 0, .string ⟨#[]⟩, .slice none 0 0] 54)).heap.size = w1.heap.size + 1 := by simp
 have HC := hide (show Tp.Cb l ta c bp e (w1.alloc (Obj.cells #[.int .i64 a, .string ⟨#[]⟩, .slice none 0 0, .slice none 0 0, .slice none 0 0, .int .i64 0, .int .i64 0, .int .i64 0, .string ⟨#[]⟩, .slice none 0 0] 54)) w1.heap.size (fun _ => True) (Tk.F.new a).cells i 0 (w1.alloc (Obj.cells #[.int .i64 a, .string ⟨#[]⟩, .slice none 0 0, .slice none 0 0, .slice none 0 0, .int .i64 0, .int .i64 0, .int .i64 0, .string ⟨#[]⟩, .slice none 0 0] 54)) from
  ⟨((unhide HJ).below hb1).below hbN, Tp.Tu.refl _ _ _, fun j v hj => by go_simp; simpa [Tk.F.new, Tk.F.cells, Tk.E.zero] using hj, fun j => by go_simp, fun _ _ _ => trivial, ⟨by omega, by omega⟩⟩)
 have hbR : ∀ q, q < w.heap.size + 2 → (w1.alloc (Obj.cells #[.int .i64 a, .string ⟨#[]⟩, .slice none 0 0, .slice none 0 0, .slice none 0 0, .int .i64 0, .int .i64 0, .int .i64 0, .string ⟨#[]⟩, .slice none 0 0] 54)).heap[q]? = wa.heap[q]? := fun q hq => (hbN.block _ (by omega)).trans (hb1.block _ (by omega))
 have HX := hide (show (∀ j v, (Tk.F.new 0).cells[j]? = some v → (w1.alloc (Obj.cells #[.int .i64 a, .string ⟨#[]⟩, .slice none 0 0, .slice none 0 0, .slice none 0 0, .int .i64 0, .int .i64 0, .int .i64 0, .string ⟨#[]⟩, .slice none 0 0] 54)).cell? ⟨(w.heap.size + 1), j, none⟩ = some v) ∧ ∀ j, (w1.alloc (Obj.cells #[.int .i64 a, .string ⟨#[]⟩, .slice none 0 0, .slice none 0 0, .slice none 0 0, .int .i64 0, .int .i64 0, .int .i64 0, .string ⟨#[]⟩, .slice none 0 0] 54)).frozen? ⟨(w.heap.size + 1), j, none⟩ = false from
  ⟨fun j v hj => (World.cell?_of_block (a := ⟨(w.heap.size + 1), j, none⟩) (hbR (w.heap.size + 1) (by omega))).trans ((unhide HRX) j v hj), fun j => (World.frozen?_of_block (a := ⟨(w.heap.size + 1), j, none⟩) (hbR (w.heap.size + 1) (by omega))).trans ((unhide HRF) j)⟩)
 have HT0 := hide (((unhide HB).trans (hb1.mono (by omega))).trans (hbN.mono (by omega)))
 have HPB := hide ((World.cell?_of_block (a := ⟨w.heap.size, 0, none⟩) (hbR w.heap.size (by omega))).trans (unhide HPB0))
 have hb0 := unhide HPB
 clear hb1 hbN hbR HA HJ HB HRX HRF ha HPB0
 go_wp2_with fail
 generalize hw2 : (w1.alloc (Obj.cells #[.int .i64 a, .string ⟨#[]⟩, .slice none 0 0, .slice none 0 0, .slice none 0 0, .int .i64 0, .int .i64 0, .int .i64 0, .string ⟨#[]⟩, .slice none 0 0] 54)) = w2 at *
 clear hw2
 generalize w1.heap.size = cb at *
 refine (twant_any l ta c bp e ⟨#[102, 117, 110, 99]⟩ (by decide) i 0 w2 (unhide HC).at_).mono ?_
 intro r u1 h1
 cases hn : Tp.want l ⟨#[102, 117, 110, 99]⟩ i with
 | error j =>
  rw [hn] at h1
  obtain ⟨rfl, ht⟩ := h1
  obtain rfl : o = .error j := by rw [← unhide HEQ]; simp only [Tp.func, hn]
  have HT := hide ((Tp.Tu.of_below (unhide HT0)).trans (((unhide HC).tu.then ht (unhide HC).lt.2.2 (fun _ _ h => Or.inl h)).mono (by omega) (fun q hq h => by rcases h with h | h; exact h; omega)))
  clear ht
  go_wp2_with fail
  exact ⟨rfl, rfl, unhide HT⟩
 | ok i1 =>
  rw [hn] at h1
  obtain ⟨rfl, hj, ht⟩ := h1
  have HN1 := hide hn
  replace HC := hide ((unhide HC).step hj ht)
  clear hj ht hn hb0
  have hb0 := (World.cell?_of_block (a := ⟨w.heap.size, 0, none⟩) ((unhide HC).old w.heap.size (by omega) (by omega) (by omega))).trans (unhide HPB)
  go_wp2_with fail
  refine (tname_any l ta c bp e i1 0 u1 (unhide HC).at_).mono ?_
  intro r u2 h1
  cases hn : Tp.name l i1 with
  | error j =>
   rw [hn] at h1
   obtain ⟨rfl, ht⟩ := h1
   obtain rfl : o = .error j := by rw [← unhide HEQ]; simp only [Tp.func, unhide HN1, hn]
   have HT := hide ((Tp.Tu.of_below (unhide HT0)).trans (((unhide HC).tu.then ht (unhide HC).lt.2.2 (fun _ _ h => Or.inl h)).mono (by omega) (fun q hq h => by rcases h with h | h; exact h; omega)))
   clear ht
   go_wp2_with fail
   exact ⟨rfl, rfl, unhide HT⟩
  | ok p =>
   rw [hn] at h1
   obtain ⟨nm, i2⟩ := p
   obtain ⟨⟨rfl, hnm⟩, hj, ht⟩ := h1
   have HN2 := hide hn
   have HNM := hide hnm
   replace HC := hide ((unhide HC).step hj ht)
   clear hnm
   clear hj ht hn hb0
   have hb0 := (World.cell?_of_block (a := ⟨w.heap.size, 0, none⟩) ((unhide HC).old w.heap.size (by omega) (by omega) (by omega))).trans (unhide HPB)
   have hc0 := (unhide HC).box 1 _ rfl
   have hz0 := (unhide HC).fz
   have HC2 := hide ((unhide HC).set 1 (.string nm) ⟨_, rfl⟩ (cs' := ((Tk.F.mk a nm ⟨none, 0, 0⟩ ⟨none, 0, 0⟩ ⟨none, 0, 0⟩ Tk.E.zero)).cells) rfl)
   go_wp2_with fail
   clear hc0 hz0 HC hb0
   generalize (u2.setCell ⟨cb, 1, none⟩ (.string nm)) = u2s at *
   have HC := HC2
   clear HC2
   have hb0 := (World.cell?_of_block (a := ⟨w.heap.size, 0, none⟩) ((unhide HC).old w.heap.size (by omega) (by omega) (by omega))).trans (unhide HPB)
   have hlt2 := (unhide HC).lt
   have hbc := (unhide HC).box 2 _ rfl
   have hbl := World.block_lt_of_cell? u2s _ hb0
   have HL := hide (tlist1_any l ta c bp e cb w.heap.size w.heap.size (.pointer (some ⟨bp, 0, none⟩)) 2 9 1 Tp.clS (fun _ => Tk.RSt) (Tp.name l) cb i2 u2s
    (fun i x j h => by have := Tp.name_ok h; omega) (fun v es acc i W hl h => tfun1_any l ta c bp e cb w.heap.size 1 u2s v es acc i W hl h)
    ⟨(unhide HC).at_, Tp.Tu.refl _ _ _, hbc, fun _ _ => rfl, (unhide HC).fz, hb0, hb0, Tp.Rw.nil _ _ _ _ _ _ _, ⟨hlt2.1, by omega, by omega, hbl, by omega⟩, ⟨by omega, hbl, by omega⟩⟩)
   clear hbc hbl
   refine (unhide HL).mono ?_
   intro r u3 h1
   cases hn : Tp.list l (Tp.name l) i2 with
   | error j =>
    rw [hn] at h1
    obtain ⟨rfl, ht⟩ := h1
    obtain rfl : o = .error j := by rw [← unhide HEQ]; simp only [Tp.func, unhide HN1, unhide HN2, hn]
    have HT := hide ((Tp.Tu.of_below (unhide HT0)).trans (((unhide HC).tu.trans (ht.mono (unhide HC).lt.2.2 (fun _ _ h => h))).mono (by omega) (fun q hq h => by rcases h with h | h; exact h; omega)))
    clear ht
    go_wp2_with fail
    exact ⟨rfl, rfl, unhide HT⟩
   | ok p =>
    rw [hn] at h1
    obtain ⟨xs, i3⟩ := p
    obtain ⟨rfl, v, es, hls⟩ := h1
    have HN3 := hide hn
    obtain ⟨s, hC⟩ := (unhide HC).list hls (lies := Tk.LS) (fun _ => rfl) (fun W g o E h => h 0 _ rfl) (by
     have h2 := Tp.list_few l _ hn
     have h3 := (unhide HC).at_.fine.few
     omega)
    replace HC := hide (show Tp.Cb l ta c bp e w2 cb (fun V => True ∧ Tk.RS V 1 (Tk.LS V) Tk.RSt s xs) ((Tk.F.mk a nm s ⟨none, 0, 0⟩ ⟨none, 0, 0⟩ Tk.E.zero)).cells i3 0 u3 from hC)
    clear hls hC HL
    clear hn hb0
    have hb0 := (World.cell?_of_block (a := ⟨w.heap.size, 0, none⟩) ((unhide HC).old w.heap.size (by omega) (by omega) (by omega))).trans (unhide HPB)
    go_wp2_with fail
    refine (twant_any l ta c bp e ⟨#[123]⟩ (by decide) i3 0 u3 (unhide HC).at_).mono ?_
    intro r u4 h1
    cases hn : Tp.want l ⟨#[123]⟩ i3 with
    | error j =>
     rw [hn] at h1
     obtain ⟨rfl, ht⟩ := h1
     obtain rfl : o = .error j := by rw [← unhide HEQ]; simp only [Tp.func, Tp.body, unhide HN1, unhide HN2, unhide HN3, hn]
     have HT := hide ((Tp.Tu.of_below (unhide HT0)).trans (((unhide HC).tu.then ht (unhide HC).lt.2.2 (fun _ _ h => Or.inl h)).mono (by omega) (fun q hq h => by rcases h with h | h; exact h; omega)))
     clear ht
     go_wp2_with fail
     exact ⟨rfl, rfl, unhide HT⟩
    | ok i4 =>
     rw [hn] at h1
     obtain ⟨rfl, hj, ht⟩ := h1
     have HN4 := hide hn
     replace HC := hide ((unhide HC).step hj ht)
     clear hj ht hn hb0
     have hb0 := (World.cell?_of_block (a := ⟨w.heap.size, 0, none⟩) ((unhide HC).old w.heap.size (by omega) (by omega) (by omega))).trans (unhide HPB)
     go_wp2_with fail
     refine (tvars_any l ta c bp e i4 0 u4 (unhide HC).at_).mono ?_
     intro r u5 h1
     cases hn : Tp.vars l (l.length + 1) i4 [] with
     | error j =>
      rw [hn] at h1
      obtain ⟨rfl, ht⟩ := h1
      obtain rfl : o = .error j := by rw [← unhide HEQ]; simp only [Tp.func, Tp.body, unhide HN1, unhide HN2, unhide HN3, unhide HN4, hn]
      have HT := hide ((Tp.Tu.of_below (unhide HT0)).trans (((unhide HC).tu.then ht (unhide HC).lt.2.2 (fun _ _ h => Or.inl h)).mono (by omega) (fun q hq h => by rcases h with h | h; exact h; omega)))
      clear ht
      go_wp2_with fail
      exact ⟨rfl, rfl, unhide HT⟩
     | ok p =>
      rw [hn] at h1
      obtain ⟨vs, i5⟩ := p
      obtain ⟨⟨sv, rfl, hro⟩, hj, ht⟩ := h1
      have HN5 := hide hn
      replace HC := hide (((unhide HC).step hj ht).and hro (unhide HC).lt.2.2)
      clear hro
      clear hj ht hn hb0
      have hb0 := (World.cell?_of_block (a := ⟨w.heap.size, 0, none⟩) ((unhide HC).old w.heap.size (by omega) (by omega) (by omega))).trans (unhide HPB)
      have hc0 := (unhide HC).box 3 _ rfl
      have hz0 := (unhide HC).fz
      have HC2 := hide ((unhide HC).set 3 (.slice sv.ad sv.len sv.cap) ⟨_, rfl⟩ (cs' := ((Tk.F.mk a nm s sv ⟨none, 0, 0⟩ Tk.E.zero)).cells) rfl)
      go_wp2_with fail
      clear hc0 hz0 HC hb0
      generalize (u5.setCell ⟨cb, 3, none⟩ (.slice sv.ad sv.len sv.cap)) = u5s at *
      have HC := HC2
      clear HC2
      have hb0 := (World.cell?_of_block (a := ⟨w.heap.size, 0, none⟩) ((unhide HC).old w.heap.size (by omega) (by omega) (by omega))).trans (unhide HPB)
      refine (tcmds_any l ta c bp e (Tp.cmd l e n) i5 (fun i x j h => Tp.cmd_go n h) (fun i' W _ h2 hJ => (unhide HRC) i' W h2 hJ) u5s (unhide HC).at_).mono ?_
      intro r u6 h1
      cases hn : Tp.cmds l (Tp.cmd l e n) (l.length + 1) i5 [] with
      | error j =>
       rw [hn] at h1
       obtain ⟨rfl, ht⟩ := h1
       obtain rfl : o = .error j := by rw [← unhide HEQ]; simp only [Tp.func, Tp.body, unhide HN1, unhide HN2, unhide HN3, unhide HN4, unhide HN5, hn]
       have HT := hide ((Tp.Tu.of_below (unhide HT0)).trans (((unhide HC).tu.then ht (unhide HC).lt.2.2 (fun _ _ h => Or.inl h)).mono (by omega) (fun q hq h => by rcases h with h | h; exact h; omega)))
       clear ht
       go_wp2_with fail
       exact ⟨rfl, rfl, unhide HT⟩
      | ok p =>
       rw [hn] at h1
       obtain ⟨cs, i6⟩ := p
       obtain ⟨⟨sc, rfl, hro⟩, hj, ht⟩ := h1
       have HN6 := hide hn
       replace HC := hide (((unhide HC).step hj ht).and hro (unhide HC).lt.2.2)
       clear hro
       clear hj ht hn hb0
       have hb0 := (World.cell?_of_block (a := ⟨w.heap.size, 0, none⟩) ((unhide HC).old w.heap.size (by omega) (by omega) (by omega))).trans (unhide HPB)
       have hc0 := (unhide HC).box 4 _ rfl
       have hz0 := (unhide HC).fz
       have HC2 := hide ((unhide HC).set 4 (.slice sc.ad sc.len sc.cap) ⟨_, rfl⟩ (cs' := ((Tk.F.mk a nm s sv sc Tk.E.zero)).cells) rfl)
       go_wp2_with fail
       clear hc0 hz0 HC hb0
       generalize (u6.setCell ⟨cb, 4, none⟩ (.slice sc.ad sc.len sc.cap)) = u6s at *
       have HC := HC2
       clear HC2
       have hb0 := (World.cell?_of_block (a := ⟨w.heap.size, 0, none⟩) ((unhide HC).old w.heap.size (by omega) (by omega) (by omega))).trans (unhide HPB)
       refine (twant_any l ta c bp e ⟨#[114, 101, 116, 117, 114, 110]⟩ (by decide) i6 0 u6s (unhide HC).at_).mono ?_
       intro r u7 h1
       cases hn : Tp.want l ⟨#[114, 101, 116, 117, 114, 110]⟩ i6 with
       | error j =>
        rw [hn] at h1
        obtain ⟨rfl, ht⟩ := h1
        obtain rfl : o = .error j := by rw [← unhide HEQ]; simp only [Tp.func, Tp.body, unhide HN1, unhide HN2, unhide HN3, unhide HN4, unhide HN5, unhide HN6, hn]
        have HT := hide ((Tp.Tu.of_below (unhide HT0)).trans (((unhide HC).tu.then ht (unhide HC).lt.2.2 (fun _ _ h => Or.inl h)).mono (by omega) (fun q hq h => by rcases h with h | h; exact h; omega)))
        clear ht
        go_wp2_with fail
        exact ⟨rfl, rfl, unhide HT⟩
       | ok i7 =>
        rw [hn] at h1
        obtain ⟨rfl, hj, ht⟩ := h1
        have HN7 := hide hn
        replace HC := hide ((unhide HC).step hj ht)
        clear hj ht hn hb0
        have hb0 := (World.cell?_of_block (a := ⟨w.heap.size, 0, none⟩) ((unhide HC).old w.heap.size (by omega) (by omega) (by omega))).trans (unhide HPB)
        go_wp2_with fail
        refine (texpr_any l ta c bp e 61 0 (by omega) (by omega) i7 u7 (unhide HC).at_).mono ?_
        intro r u8 h1
        cases hn : Tp.expr l e 61 0 i7 with
        | error j =>
         rw [hn] at h1
         obtain ⟨rfl, ht⟩ := h1
         obtain rfl : o = .error j := by rw [← unhide HEQ]; simp only [Tp.func, Tp.body, unhide HN1, unhide HN2, unhide HN3, unhide HN4, unhide HN5, unhide HN6, unhide HN7, hn]
         have HT := hide ((Tp.Tu.of_below (unhide HT0)).trans (((unhide HC).tu.then ht (unhide HC).lt.2.2 (fun _ _ h => Or.inl h)).mono (by omega) (fun q hq h => by rcases h with h | h; exact h; omega)))
         clear ht
         go_wp2_with fail
         exact ⟨rfl, rfl, unhide HT⟩
        | ok p =>
         rw [hn] at h1
         obtain ⟨x, i8⟩ := p
         obtain ⟨⟨E, rfl, hro⟩, hj, ht⟩ := h1
         have HN8 := hide hn
         replace HC := hide (((unhide HC).step hj ht).and hro (unhide HC).lt.2.2)
         clear hro
         clear hj ht hn hb0
         have hb0 := (World.cell?_of_block (a := ⟨w.heap.size, 0, none⟩) ((unhide HC).old w.heap.size (by omega) (by omega) (by omega))).trans (unhide HPB)
         have hc0 := (unhide HC).box 5 _ rfl
         have hc1 := (unhide HC).box 6 _ rfl
         have hc2 := (unhide HC).box 7 _ rfl
         have hc3 := (unhide HC).box 8 _ rfl
         have hc4 := (unhide HC).box 9 _ rfl
         have hz0 := (unhide HC).fz
         have HC2 := hide ((unhide HC).set5 5 E ⟨_, rfl⟩ ⟨_, rfl⟩ ⟨_, rfl⟩ ⟨_, rfl⟩ ⟨_, rfl⟩ (cs' := ((Tk.F.mk a nm s sv sc E)).cells) rfl)
         go_wp2_with fail
         clear hz0 hc0 hc1 hc2 hc3 hc4 HC hb0
         generalize (((((u8.setCell ⟨cb, 5, none⟩ (.int .i64 E.k)).setCell ⟨cb, 6, none⟩ (.int .i64 E.a)).setCell ⟨cb, 7, none⟩ (.int .i64 E.n)).setCell ⟨cb, 8, none⟩ (.string E.nm)).setCell ⟨cb, 9, none⟩ (.slice E.args.ad E.args.len E.args.cap)) = u8s at *
         have HC := HC2
         clear HC2
         have hb0 := (World.cell?_of_block (a := ⟨w.heap.size, 0, none⟩) ((unhide HC).old w.heap.size (by omega) (by omega) (by omega))).trans (unhide HPB)
         refine (twant_any l ta c bp e ⟨#[59]⟩ (by decide) i8 0 u8s (unhide HC).at_).mono ?_
         intro r u9 h1
         cases hn : Tp.want l ⟨#[59]⟩ i8 with
         | error j =>
          rw [hn] at h1
          obtain ⟨rfl, ht⟩ := h1
          obtain rfl : o = .error j := by rw [← unhide HEQ]; simp only [Tp.func, Tp.body, unhide HN1, unhide HN2, unhide HN3, unhide HN4, unhide HN5, unhide HN6, unhide HN7, unhide HN8, hn]
          have HT := hide ((Tp.Tu.of_below (unhide HT0)).trans (((unhide HC).tu.then ht (unhide HC).lt.2.2 (fun _ _ h => Or.inl h)).mono (by omega) (fun q hq h => by rcases h with h | h; exact h; omega)))
          clear ht
          go_wp2_with fail
          exact ⟨rfl, rfl, unhide HT⟩
         | ok i9 =>
          rw [hn] at h1
          obtain ⟨rfl, hj, ht⟩ := h1
          have HN9 := hide hn
          replace HC := hide ((unhide HC).step hj ht)
          clear hj ht hn hb0
          have hb0 := (World.cell?_of_block (a := ⟨w.heap.size, 0, none⟩) ((unhide HC).old w.heap.size (by omega) (by omega) (by omega))).trans (unhide HPB)
          go_wp2_with fail
          refine (twant_any l ta c bp e ⟨#[125]⟩ (by decide) i9 0 u9 (unhide HC).at_).mono ?_
          intro r u10 h1
          cases hn : Tp.want l ⟨#[125]⟩ i9 with
          | error j =>
           rw [hn] at h1
           obtain ⟨rfl, ht⟩ := h1
           obtain rfl : o = .error j := by rw [← unhide HEQ]; simp only [Tp.func, Tp.body, unhide HN1, unhide HN2, unhide HN3, unhide HN4, unhide HN5, unhide HN6, unhide HN7, unhide HN8, unhide HN9, hn]
           have HT := hide ((Tp.Tu.of_below (unhide HT0)).trans (((unhide HC).tu.then ht (unhide HC).lt.2.2 (fun _ _ h => Or.inl h)).mono (by omega) (fun q hq h => by rcases h with h | h; exact h; omega)))
           clear ht
           go_wp2_with fail
           exact ⟨rfl, rfl, unhide HT⟩
          | ok i10 =>
           rw [hn] at h1
           obtain ⟨rfl, hj, ht⟩ := h1
           have HN10 := hide hn
           replace HC := hide ((unhide HC).step hj ht)
           clear hj ht hn hb0
           have hb0 := (World.cell?_of_block (a := ⟨w.heap.size, 0, none⟩) ((unhide HC).old w.heap.size (by omega) (by omega) (by omega))).trans (unhide HPB)
           obtain rfl : o = .ok (⟨a, nm, xs, vs, cs, x⟩, i10) := by rw [← unhide HEQ]; simp only [Tp.func, Tp.body, unhide HN1, unhide HN2, unhide HN3, unhide HN4, unhide HN5, unhide HN6, unhide HN7, unhide HN8, unhide HN9, unhide HN10, unhide HPL]
           obtain ⟨K, hK⟩ : ∃ K, K = (Tk.F.mk a nm s sv sc E) := ⟨_, rfl⟩
           have hRF := (unhide HC).own.imp (Q := fun V => Tk.RF V 61 n K ⟨a, nm, xs, vs, cs, x⟩) (fun V h => by rw [hK]; exact ⟨rfl, rfl, unhide HNM, h.1.1.1.2, h.1.1.2, h.1.2, h.2⟩)
           rw [← hK] at HC
           have hlc := (unhide HC).lt
           have hRb : u10.heap[(w.heap.size + 1)]? = w2.heap[(w.heap.size + 1)]? := (unhide HC).old _ (by omega) (by omega) (by omega)
           have hRx : ∀ j v, (Tk.F.new 0).cells[j]? = some v → u10.cell? ⟨(w.heap.size + 1), j, none⟩ = some v := fun j v hj => (World.cell?_of_block (a := ⟨(w.heap.size + 1), j, none⟩) hRb).trans ((unhide HX).1 j v hj)
           have hRf : ∀ j, u10.frozen? ⟨(w.heap.size + 1), j, none⟩ = false := fun j => (World.frozen?_of_block (a := ⟨(w.heap.size + 1), j, none⟩) hRb).trans ((unhide HX).2 j)
           have hRe : ∀ j, j < K.cells.size → ∃ u, u10.cell? ⟨(w.heap.size + 1), j, none⟩ = some u := fun j hj => ⟨_, hRx j _ (Array.getElem?_eq_getElem (show j < (Tk.F.new 0).cells.size from hj))⟩
           obtain ⟨hp, _, hsS, hkS, htS⟩ := Tp.put_at (w.heap.size + 1) K.cells.toList 0 u10 (fun j _ hj => hRe j (by simpa using hj))
           have hT := ((Tp.Tu.of_below (unhide HT0)).trans ((unhide HC).tu.mono (by omega) (D' := Tp.D1 bp) (fun q hq h => by rcases h with h | h; exact h; omega))).trans (htS _ _ (by omega))
           have hone : ∀ v ∈ K.cells.toList, v.oneCell' = true := fun v hv => by simp [Tk.F.cells] at hv; rcases hv with h | h | h | h | h | h | h | h | h | h <;> subst h <;> rfl
           go_upto_region 12 with fail
           refine Tp.handed (cs := K.cells) (cb := cb) (Rb := (w.heap.size + 1)) (t := 32) (p := 3) (r := 2) rfl rfl rfl rfl rfl rfl rfl rfl (by simp) (by decide) (unhide HC).box hRe hRf hone Tryz.underlying54 rfl Tryz.sizeTF ?_
           go_wp2_with fail
           refine bodyPost_ret (Tp.handedR (cs := K.cells) (r := 2) rfl rfl hRe Tryz.underlying54 rfl Tryz.sizeTF) rfl ?_
           exact ⟨⟨K, rfl, (hRF.go (by omega) (fun q h1 _ _ => hkS q (by omega))).wide (B' := w.heap.size) (g' := bp) (by omega) (by omega) (Or.inl (by omega))⟩, (unhide HC).at_.kept (by omega) (fun q hq => hkS q (by omega)), hT⟩
end
end Go.Proofs.YtfccpddehpgfoaaGreatDoor
