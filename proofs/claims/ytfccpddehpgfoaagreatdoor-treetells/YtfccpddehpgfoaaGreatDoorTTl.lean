/-
  TreeTells: the walk of the law. By the verifier.
-/
import Derived.Test.YtfccpddehpgfoaaGreatDoorTBg
import Derived.Test.YtfccpddehpgfoaaGreatDoorTSt
import Derived.Test.YtfccpddehpgfoaaGreatDoorUJ
set_option maxRecDepth 100000
set_option maxHeartbeats 3200000
namespace Go.Proofs.YtfccpddehpgfoaaGreatDoor
open Go.RowKit
set_option linter.unusedVariables false
theorem Tk.map_at {α β γ : Type} {f : α → γ} {g : β → γ} {l : List α} {k : List β} (h : l.map f = k.map g) : l.length = k.length ∧ ∀ (i : Nat) (a : α) (b : β), l[i]? = some a → k[i]? = some b → f a = g b := by
 refine ⟨by simpa using congrArg List.length h, fun i a b h1 h2 => ?_⟩
 have h3 : (l.map f)[i]? = (k.map g)[i]? := by rw [h]
 rw [List.getElem?_map, List.getElem?_map, h1, h2] at h3
 simpa using h3
theorem Tk.sameE_er : ∀ (n : Nat) (x y : Tk.ET n), Tk.erE n x = Tk.erE n y → Tk.sameE n n x y = true
 | 0, x, _, _ => nomatch (show Empty from x)
 | n + 1, x, y, h => by
  have h' : ((x.1.1, (0 : Int), x.1.2.2.1, x.1.2.2.2), x.2.map (Tk.erE n)) = ((y.1.1, (0 : Int), y.1.2.2.1, y.1.2.2.2), y.2.map (Tk.erE n)) := h
  simp only [Prod.mk.injEq, true_and] at h'
  obtain ⟨⟨h1, h2, h3⟩, h4⟩ := h'
  obtain ⟨hl, he⟩ := Tk.map_at h4
  show ((x.1.1 == y.1.1) && (x.1.2.2.1 == y.1.2.2.1) && (x.1.2.2.2.toList == y.1.2.2.2.toList) && Tk.sameL (Tk.sameE n n) x.2 y.2) = true
  rw [h1, h2, h3, Tk.sameL_all _ _ _ hl (fun i a b ha hb => Tk.sameE_er n a b (he i a b ha hb))]
  simp
theorem Tk.sameC_er {m : Nat} : ∀ (n : Nat) (x y : Tk.CT m n), Tk.erC n x = Tk.erC n y → Tk.sameC n n x y = true
 | 0, x, _, _ => nomatch (show Empty from x)
 | n + 1, x, y, h => by
  have h' : ((x.1.1, (0 : Int), x.1.2.2.1, x.1.2.2.2), (Tk.erE m x.2.1.1, Tk.erE m x.2.1.2.1, x.2.1.2.2.map (Tk.erE m)), (x.2.2.1.map (Tk.erC n), x.2.2.2.map (Tk.erC n))) = ((y.1.1, (0 : Int), y.1.2.2.1, y.1.2.2.2), (Tk.erE m y.2.1.1, Tk.erE m y.2.1.2.1, y.2.1.2.2.map (Tk.erE m)), (y.2.2.1.map (Tk.erC n), y.2.2.2.map (Tk.erC n))) := h
  simp only [Prod.mk.injEq, true_and] at h'
  obtain ⟨⟨h1, h2, h3⟩, ⟨h4, h5, h6⟩, h7, h8⟩ := h'
  obtain ⟨l6, e6⟩ := Tk.map_at h6
  obtain ⟨l7, e7⟩ := Tk.map_at h7
  obtain ⟨l8, e8⟩ := Tk.map_at h8
  show ((x.1.1 == y.1.1) && (x.1.2.2.1.toList == y.1.2.2.1.toList) && (x.1.2.2.2.toList == y.1.2.2.2.toList) && Tk.sameE m m x.2.1.1 y.2.1.1 && Tk.sameE m m x.2.1.2.1 y.2.1.2.1 && Tk.sameL (Tk.sameE m m) x.2.1.2.2 y.2.1.2.2 && Tk.sameL (Tk.sameC n n) x.2.2.1 y.2.2.1 && Tk.sameL (Tk.sameC n n) x.2.2.2 y.2.2.2) = true
  rw [h1, h2, h3, Tk.sameE_er m _ _ h4, Tk.sameE_er m _ _ h5, Tk.sameL_all _ _ _ l6 (fun i a b ha hb => Tk.sameE_er m a b (e6 i a b ha hb)), Tk.sameL_all _ _ _ l7 (fun i a b ha hb => Tk.sameC_er n a b (e7 i a b ha hb)), Tk.sameL_all _ _ _ l8 (fun i a b ha hb => Tk.sameC_er n a b (e8 i a b ha hb))]
  simp
theorem Tk.sameF_er {m n : Nat} (x y : Tk.FT m n) (h : Tk.erF x = Tk.erF y) : Tk.sameF x y = true := by
 have h' : (⟨0, x.nm, x.ps, x.vs, x.cs.map (Tk.erC n), Tk.erE m x.re⟩ : Tk.FT m n) = ⟨0, y.nm, y.ps, y.vs, y.cs.map (Tk.erC n), Tk.erE m y.re⟩ := h
 simp only [Tk.FT.mk.injEq, true_and] at h'
 obtain ⟨h1, h2, h3, h4, h5⟩ := h'
 obtain ⟨l4, e4⟩ := Tk.map_at h4
 unfold Tk.sameF
 rw [h1, h2, h3, Tk.sameE_er m _ _ h5, Tk.sameL_all _ _ _ l4 (fun i a b ha hb => Tk.sameC_er n a b (e4 i a b ha hb)), Tk.sameL_all _ y.ps y.ps rfl (fun i a b ha hb => by rw [ha] at hb; cases hb; simp), Tk.sameL_all _ y.vs y.vs rfl (fun i a b ha hb => by rw [ha] at hb; cases hb; simp)]
 simp
theorem Tk.same_er {m n : Nat} (l k : List (Tk.FT m n)) (h : l.map Tk.erF = k.map Tk.erF) : Tk.sameL Tk.sameF l k = true := by
 obtain ⟨hl, he⟩ := Tk.map_at h
 exact Tk.sameL_all _ _ _ hl (fun i a b ha hb => Tk.sameF_er a b (he i a b ha hb))
def Tp.got (s : ByteArray) : List (Tk.FT 61 6000) := match Tp.out s with
 | .ok x => x
 | .error _ => []
def Tp.code (s : ByteArray) : Nat := match Tp.out s with
 | .ok _ => 0
 | .error e => e.2
theorem Tp.code_ok (s : ByteArray) (h : Tp.code s = 0) : Tk.chkT (Tp.got s) = 0 := by
 unfold Tp.code at h
 unfold Tp.got
 unfold Tp.out at h ⊢
 by_cases h0 : (Tk.scanR s).2.2 = 0
 · rw [if_pos h0] at h ⊢
   cases ht : Tp.tree (Tp.toks s (Tk.scanR s).1) (s.size : Int) 6000 with
   | error j => rw [ht] at h; cases h
   | ok x =>
    rw [ht] at h
    dsimp only at h ⊢
    by_cases hc : Tk.chkT x = 0
    · rw [if_pos hc]; exact hc
    · rw [if_neg hc] at h; exact absurd h hc
 · rw [if_neg h0] at h
   exact absurd h h0
theorem Tp.code_bad (s : ByteArray) (h : (Tk.scanR s).2.2 ≠ 0) : Tp.code s = (Tk.scanR s).2.2 ∧ Tp.got s = [] := by
 unfold Tp.code Tp.got Tp.out
 rw [if_neg h]
 exact ⟨rfl, rfl⟩
theorem Tp.er_toks (s t : ByteArray) (L M : List (Nat × Nat × Nat)) (hl : (Tk.toks s L).length = (Tk.toks t M).length) (h : ∀ (i : Nat) (a b : Int × Int × ByteArray), (Tk.toks s L)[i]? = some a → (Tk.toks t M)[i]? = some b → a.1 = b.1 ∧ a.2.2 = b.2.2) : Tp.er (Tp.toks s L) = Tp.er (Tp.toks t M) := by
 have e : ∀ (s : ByteArray) (L : List (Nat × Nat × Nat)), Tp.er (Tp.toks s L) = (Tk.toks s L).map fun x => (⟨x.1, 0, x.2.2⟩ : Tp.T) := fun s L => by
  unfold Tp.er Tp.toks Tk.toks
  rw [List.map_map, List.map_map]
  rfl
 rw [e, e]
 apply List.ext_getElem?
 intro i
 rw [List.getElem?_map, List.getElem?_map]
 by_cases hi : i < (Tk.toks s L).length
 · have h1 := List.getElem?_eq_getElem hi
   have h2 := List.getElem?_eq_getElem (show i < (Tk.toks t M).length by omega)
   obtain ⟨a, b⟩ := h i _ _ h1 h2
   rw [h1, h2]
   simp only [Option.map_some]
   rw [a, b]
 · rw [List.getElem?_eq_none (by omega), List.getElem?_eq_none (by omega)]
theorem Tp.joined (s : ByteArray) (hes : (Tk.scanR s).2.2 = 0) (hj : (Tk.joinR (Tk.toks s (Tk.scanR s).1)).2 = 0) :
  Tp.code s = Tp.code (Tk.joinR (Tk.toks s (Tk.scanR s).1)).1 ∧ Tk.sameL Tk.sameF (Tp.got s) (Tp.got (Tk.joinR (Tk.toks s (Tk.scanR s).1)).1) = true := by
 obtain ⟨q1, q2, q3⟩ := Tk.join_scan _ hj
 generalize (Tk.joinR (Tk.toks s (Tk.scanR s).1)).1 = t at *
 have hq0 : (Tk.scanR t).2.2 = 0 := by rw [q1]
 have her := Tp.er_toks s t (Tk.scanR s).1 (Tk.scanR t).1 q2.symm q3
 have hsm := Tp.er_same her (s.size : Int) (t.size : Int) 6000
 unfold Tp.code Tp.got Tp.out
 rw [if_pos hes, if_pos hq0]
 cases h1 : Tp.tree (Tp.toks s (Tk.scanR s).1) (s.size : Int) 6000 with
 | error j =>
  rw [h1] at hsm
  cases h2 : Tp.tree (Tp.toks t (Tk.scanR t).1) (t.size : Int) 6000 with
  | error j2 => exact ⟨rfl, rfl⟩
  | ok y => rw [h2] at hsm; cases hsm
 | ok x =>
  rw [h1] at hsm
  cases h2 : Tp.tree (Tp.toks t (Tk.scanR t).1) (t.size : Int) 6000 with
  | error j2 => rw [h2] at hsm; cases hsm
  | ok y =>
   rw [h2] at hsm
   have hxy : x.map Tk.erF = y.map Tk.erF := Except.ok.inj hsm
   have hc : Tk.chkT x = Tk.chkT y := by rw [← Tk.chkT_er x, ← Tk.chkT_er y, hxy]
   dsimp only
   rw [hc]
   by_cases h0 : Tk.chkT y = 0
   · rw [if_pos h0, if_pos h0]
     exact ⟨rfl, Tk.same_er x y hxy⟩
   · rw [if_neg h0, if_neg h0]
     exact ⟨rfl, rfl⟩
theorem tParse_got (s : ByteArray) (w : World) (hs : s.size ≤ maxLen) : Calls Tryz.prog 13 #[.string s] w fun r w' => (∃ (q : Tk.Sl) (a : Int), r = .returned (.tuple #[.agg #[.slice q.ad q.len q.cap], .int .i64 a, .int .i64 (Tp.code s : Nat)]) ∧ Tk.RT w' 61 6000 q (Tp.got s)) ∧ Below w.heap.size w w' := by
 refine (tParse_any s w hs).mono ?_
 intro r w' h
 unfold Tp.code Tp.got
 cases ho : Tp.out s with
 | ok x =>
  rw [ho] at h
  obtain ⟨⟨q, hr, hrt⟩, hb⟩ := h
  exact ⟨⟨q, 0, hr, hrt⟩, hb⟩
 | error e =>
  rw [ho] at h
  obtain ⟨a, y⟩ := e
  obtain ⟨hr, hb⟩ := h
  exact ⟨⟨⟨none, 0, 0⟩, a, hr, Tp.rs_nil _ _ _ _⟩, hb⟩
theorem tells_walk (s : ByteArray) (w : World) (hs : s.size ≤ maxLen) : Calls Tryz.prog 4 #[.string s] w fun r w' => r = .returned (.bool true) ∧ Below w.heap.size w w' := by
 have HS := hide hs
 clear hs
 go_enter Tryz.func4, Tryz.ntmps4
 (try simp only [List.append_eq, List.cons_append, List.nil_append])
 go_wp2_with fail
 refine (treeBegun_any w).mono ?_
 rintro r w1 ⟨rfl, hb1⟩
 have HB := hide hb1
 clear hb1
 go_wp2_with fail
 refine (tokenBegun_any w1).mono ?_
 rintro r w2 ⟨rfl, hb2⟩
 replace HB := hide ((unhide HB).trans (hb2.mono (unhide HB).size))
 clear hb2
 go_wp2_with fail
 refine (tParse_got s w2 (unhide HS)).mono ?_
 rintro r w3 ⟨⟨q, a, rfl, hrt⟩, hb3⟩
 have hbN := (Below.refl w3.heap.size w3).alloc (Nat.le_refl _) (Obj.cells #[.slice q.ad q.len q.cap] 24)
 have HRT := hide (Tk.RT.later hrt hbN (Nat.le_refl _))
 have hsN : (w3.alloc (Obj.cells #[.slice q.ad q.len q.cap] 24)).heap.size = w3.heap.size + 1 := by simp
 have hc0 : (w3.alloc (Obj.cells #[.slice q.ad q.len q.cap] 24)).cell? ⟨w3.heap.size, 0, none⟩ = some (.slice q.ad q.len q.cap) := by go_simp
 replace HB := hide (((unhide HB).trans (hb3.mono (unhide HB).size)).trans (hbN.mono (by have := (unhide HB).size; have := hb3.size; omega)))
 have HC0 := hide hc0
 have HCK := hide (Tp.code_ok s)
 have HBD := hide (Tp.code_bad s)
 have HJN := hide (Tp.joined s)
 clear hb3 hbN hrt hc0
 by_cases hc : Tp.code s = 0
 · have hck := (unhide HCK) hc
   have g1 : (((Tp.code s : Nat) : Int) == 0) = true := by rw [hc]; rfl
   have hcb := unhide HC0
   have HCH := hide (tCheck_any q (Tp.got s) _ (unhide HRT))
   rw [hck] at HCH
   clear hc hck
   go_wp2_with fail
   generalize (w3.alloc (Obj.cells #[.slice q.ad q.len q.cap] 24)) = wa at *
   refine (unhide HCH).mono ?_
   rintro r w4 ⟨rfl, hb⟩
   have hs4 := hb.size
   replace HB := hide ((unhide HB).trans (hb.mono (unhide HB).size))
   replace HRT := hide (Tk.RT.later (unhide HRT) hb (Nat.le_refl _))
   replace HC0 := hide ((hb.cell (p := ⟨w3.heap.size, 0, none⟩) (by show w3.heap.size < _; omega)).trans (unhide HC0))
   clear hb hcb HCH
   go_wp2_with fail
   refine (Scan_any s w4 (unhide HS)).mono ?_
   rintro r x1 ⟨v, rfl, ho, hb⟩
   obtain ⟨ad1, cap1, rfl⟩ := ownsRow_slice ho
   have RD := hide (Tk.reads_own (unhide HS) ho)
   have hsx1 := hb.size
   replace HB := hide ((unhide HB).trans (hb.mono (unhide HB).size))
   replace HRT := hide (Tk.RT.later (unhide HRT) hb (Nat.le_refl _))
   replace HC0 := hide ((hb.cell (p := ⟨w3.heap.size, 0, none⟩) (by show w3.heap.size < _; omega)).trans (unhide HC0))
   clear ho hb
   by_cases hes : (Tk.scanR s).2.2 = 0
   · have g2 : (((Tk.scanR s).2.2 : Int) != 0) = false := by rw [hes]; rfl
     have HJN2 := hide ((unhide HJN) hes)
     have hl1 := hide (Tk.scanR_length s)
     clear hes
     go_wp2_with fail
     rw [← Tk.toks_length s (Tk.scanR s).1]
     refine (Join_any (Tk.toks s (Tk.scanR s).1) ad1 cap1 _ (unhide RD) (by rw [Tk.toks_length]; have := unhide hl1; omega)).mono ?_
     rintro r x2 ⟨rfl, hb⟩
     have hsx2 := hb.size
     replace HB := hide ((unhide HB).trans (hb.mono (unhide HB).size))
     replace HRT := hide (Tk.RT.later (unhide HRT) hb (Nat.le_refl _))
     replace HC0 := hide ((hb.cell (p := ⟨w3.heap.size, 0, none⟩) (by show w3.heap.size < _; omega)).trans (unhide HC0))
     clear hb
     have HJZ := hide (Tk.joinR_size (Tk.toks s (Tk.scanR s).1))
     generalize Tk.joinR (Tk.toks s (Tk.scanR s).1) = J at *
     obtain ⟨t, er⟩ := J
     by_cases he : er = 0
     · subst he
       obtain ⟨hcd, hsm⟩ := (unhide HJN2) rfl
       have HCD := hide hcd
       have HSM := hide hsm
       clear hcd hsm HJN HJN2 g2
       go_wp2_with fail
       refine (tParse_got t x2 (unhide HJZ)).mono ?_
       rintro r x3 ⟨⟨q2, a2, rfl, hrt2⟩, hb⟩
       have hsx3 := hb.size
       have hbN := (Below.refl x3.heap.size x3).alloc (Nat.le_refl _) (Obj.cells #[.slice q2.ad q2.len q2.cap] 24)
       have HRT2 := hide (Tk.RT.later hrt2 hbN (Nat.le_refl _))
       have HRT3 := hide (Tk.RT.later (Tk.RT.later (unhide HRT) hb (Nat.le_refl _)) hbN (Nat.le_refl _))
       have hc1 := (hbN.cell (p := ⟨w3.heap.size, 0, none⟩) (by show w3.heap.size < _; omega)).trans ((hb.cell (p := ⟨w3.heap.size, 0, none⟩) (by show w3.heap.size < _; omega)).trans (unhide HC0))
       replace HB := hide (((unhide HB).trans (hb.mono (unhide HB).size)).trans (hbN.mono (by have := (unhide HB).size; omega)))
       have HST := hide (SameTree_any q q2 (Tp.got s) (Tp.got t) _ (unhide HRT3) (unhide HRT2))
       rw [unhide HSM] at HST
       have hcc : (((Tp.code s : Nat) : Int) == ((Tp.code t : Nat) : Int)) = true := by rw [unhide HCD]; simp
       clear hb hbN hrt2
       go_wp2_with fail
       refine (unhide HST).mono ?_
       rintro r x4 ⟨rfl, hb⟩
       replace HB := hide ((unhide HB).trans (hb.mono (unhide HB).size))
       clear hb
       go_wp2_with fail
       go_ret
       exact ⟨rfl, unhide HB⟩
     · have g3 : ((er : Int) != 0) = true := by rw [bne_iff_ne]; omega
       go_wp2_with fail
       go_ret
       exact ⟨rfl, unhide HB⟩
   · have g2 : (((Tk.scanR s).2.2 : Int) != 0) = true := by rw [bne_iff_ne]; omega
     obtain ⟨hcd, hgt⟩ := (unhide HBD) hes
     have hq0 : q.len = 0 := by rw [(unhide HRT).len, hgt]; rfl
     have hcc : (((Tp.code s : Nat) : Int) == (((Tk.scanR s).2.2 : Nat) : Int)) = true := by rw [hcd]; simp
     have hc1 := unhide HC0
     rw [hq0] at hc1
     clear hcd hgt hes hq0
     go_wp2_with fail
     go_ret
     exact ⟨rfl, unhide HB⟩
 · have g1 : (((Tp.code s : Nat) : Int) == 0) = false := by rw [beq_eq_false_iff_ne]; omega
   clear hc
   go_wp2_with fail
   generalize (w3.alloc (Obj.cells #[.slice q.ad q.len q.cap] 24)) = wa at *
   refine (Scan_any s wa (unhide HS)).mono ?_
   rintro r x1 ⟨v, rfl, ho, hb⟩
   obtain ⟨ad1, cap1, rfl⟩ := ownsRow_slice ho
   have RD := hide (Tk.reads_own (unhide HS) ho)
   have hsx1 := hb.size
   replace HB := hide ((unhide HB).trans (hb.mono (unhide HB).size))
   replace HRT := hide (Tk.RT.later (unhide HRT) hb (Nat.le_refl _))
   replace HC0 := hide ((hb.cell (p := ⟨w3.heap.size, 0, none⟩) (by show w3.heap.size < _; omega)).trans (unhide HC0))
   clear ho hb
   by_cases hes : (Tk.scanR s).2.2 = 0
   · have g2 : (((Tk.scanR s).2.2 : Int) != 0) = false := by rw [hes]; rfl
     have HJN2 := hide ((unhide HJN) hes)
     have hl1 := hide (Tk.scanR_length s)
     clear hes
     go_wp2_with fail
     rw [← Tk.toks_length s (Tk.scanR s).1]
     refine (Join_any (Tk.toks s (Tk.scanR s).1) ad1 cap1 _ (unhide RD) (by rw [Tk.toks_length]; have := unhide hl1; omega)).mono ?_
     rintro r x2 ⟨rfl, hb⟩
     have hsx2 := hb.size
     replace HB := hide ((unhide HB).trans (hb.mono (unhide HB).size))
     replace HRT := hide (Tk.RT.later (unhide HRT) hb (Nat.le_refl _))
     replace HC0 := hide ((hb.cell (p := ⟨w3.heap.size, 0, none⟩) (by show w3.heap.size < _; omega)).trans (unhide HC0))
     clear hb
     have HJZ := hide (Tk.joinR_size (Tk.toks s (Tk.scanR s).1))
     generalize Tk.joinR (Tk.toks s (Tk.scanR s).1) = J at *
     obtain ⟨t, er⟩ := J
     by_cases he : er = 0
     · subst he
       obtain ⟨hcd, hsm⟩ := (unhide HJN2) rfl
       have HCD := hide hcd
       have HSM := hide hsm
       clear hcd hsm HJN HJN2 g2
       go_wp2_with fail
       refine (tParse_got t x2 (unhide HJZ)).mono ?_
       rintro r x3 ⟨⟨q2, a2, rfl, hrt2⟩, hb⟩
       have hsx3 := hb.size
       have hbN := (Below.refl x3.heap.size x3).alloc (Nat.le_refl _) (Obj.cells #[.slice q2.ad q2.len q2.cap] 24)
       have HRT2 := hide (Tk.RT.later hrt2 hbN (Nat.le_refl _))
       have HRT3 := hide (Tk.RT.later (Tk.RT.later (unhide HRT) hb (Nat.le_refl _)) hbN (Nat.le_refl _))
       have hc1 := (hbN.cell (p := ⟨w3.heap.size, 0, none⟩) (by show w3.heap.size < _; omega)).trans ((hb.cell (p := ⟨w3.heap.size, 0, none⟩) (by show w3.heap.size < _; omega)).trans (unhide HC0))
       replace HB := hide (((unhide HB).trans (hb.mono (unhide HB).size)).trans (hbN.mono (by have := (unhide HB).size; omega)))
       have HST := hide (SameTree_any q q2 (Tp.got s) (Tp.got t) _ (unhide HRT3) (unhide HRT2))
       rw [unhide HSM] at HST
       have hcc : (((Tp.code s : Nat) : Int) == ((Tp.code t : Nat) : Int)) = true := by rw [unhide HCD]; simp
       clear hb hbN hrt2
       go_wp2_with fail
       refine (unhide HST).mono ?_
       rintro r x4 ⟨rfl, hb⟩
       replace HB := hide ((unhide HB).trans (hb.mono (unhide HB).size))
       clear hb
       go_wp2_with fail
       go_ret
       exact ⟨rfl, unhide HB⟩
     · have g3 : ((er : Int) != 0) = true := by rw [bne_iff_ne]; omega
       go_wp2_with fail
       go_ret
       exact ⟨rfl, unhide HB⟩
   · have g2 : (((Tk.scanR s).2.2 : Int) != 0) = true := by rw [bne_iff_ne]; omega
     obtain ⟨hcd, hgt⟩ := (unhide HBD) hes
     have hq0 : q.len = 0 := by rw [(unhide HRT).len, hgt]; rfl
     have hcc : (((Tp.code s : Nat) : Int) == (((Tk.scanR s).2.2 : Nat) : Int)) = true := by rw [hcd]; simp
     have hc1 := unhide HC0
     rw [hq0] at hc1
     clear hcd hgt hes hq0
     go_wp2_with fail
     go_ret
     exact ⟨rfl, unhide HB⟩
end Go.Proofs.YtfccpddehpgfoaaGreatDoor
