/-
  treeBegun. By the verifier.
-/
import Derived.Test.YtfccpddehpgfoaaGreatDoorTSm
set_option maxRecDepth 100000
set_option maxHeartbeats 3200000
namespace Go.Proofs.YtfccpddehpgfoaaGreatDoor
open Go.RowKit
set_option linter.unusedVariables false
theorem Tk.RC.kind {W : World} {m : Nat} : ∀ (n : Nat) {C : Tk.C} {c : Tk.CT m n}, Tk.RC W m n C c → C.k = Tk.kindC n c ∧ C.ot = Tk.otherC n c
 | 0, _, _, h => absurd h id
 | _ + 1, _, _, h => ⟨h.1.1.1, h.1.1.2.2.2⟩
theorem Tk.small_is : ∃ x f c, Tp.out Tk.smallT = .ok x ∧ x.length = 2 ∧ x[1]? = some f ∧ f.cs.length = 2 ∧ f.cs[0]? = some c ∧ Tk.kindC 6000 c = 3 ∧ ((Tk.otherC 6000 c).toList == [102]) = true ∧ Tk.chkT x = 0 := by
 have h := Tk.small_ok
 unfold Tk.smallR at h
 cases ho : Tp.out Tk.smallT with
 | error e => rw [ho] at h; cases h
 | ok x =>
  rw [ho] at h
  dsimp only at h
  rw [Bool.and_eq_true, decide_eq_true_eq] at h
  obtain ⟨h1, h2⟩ := h
  unfold Tk.begunL at h1
  rw [Bool.and_eq_true, decide_eq_true_eq] at h1
  obtain ⟨h3, h4⟩ := h1
  cases hf : x[1]? with
  | none => rw [hf] at h4; cases h4
  | some f =>
   rw [hf] at h4
   dsimp only at h4
   rw [Bool.and_eq_true, decide_eq_true_eq] at h4
   obtain ⟨h5, h6⟩ := h4
   cases hc : f.cs[0]? with
   | none => rw [hc] at h6; cases h6
   | some c =>
    rw [hc] at h6
    dsimp only at h6
    rw [Bool.and_eq_true, decide_eq_true_eq] at h6
    exact ⟨x, f, c, rfl, h3, hf, h5, hc, h6.1, h6.2, h2⟩
theorem treeBegun_any (w : World) : Calls Tryz.prog 9 #[] w fun r w' => r = .returned (.bool true) ∧ Below w.heap.size w w' := by
 obtain ⟨x, f, c, ho, hx2, hxf, hf2, hfc, hk, hot, hck⟩ := Tk.small_is
 have HP := hide (show Calls Tryz.prog 13 #[.string ⟨#[102, 117, 110, 99, 32, 102, 40, 97, 41, 32, 123, 10, 32, 32, 114, 101, 116, 117, 114, 110, 32, 40, 97, 32, 43, 32, 49, 41, 59, 10, 125, 10, 109, 97, 105, 110, 32, 123, 10, 32, 32, 118, 97, 114, 32, 120, 59, 10, 32, 32, 120, 32, 61, 32, 102, 40, 50, 41, 59, 10, 32, 32, 112, 114, 105, 110, 116, 32, 120, 59, 10, 125, 10]⟩] w (Tp.OutS w (.ok x)) from ho ▸ tParse_any Tk.smallT w (by decide))
 have HF := hide (And.intro hx2 (And.intro hxf (And.intro hf2 (And.intro hfc (And.intro hk (And.intro hot hck))))))
 clear ho hx2 hxf hf2 hfc hk hot hck
 go_enter Tryz.func9, Tryz.ntmps9
 (try simp only [List.append_eq, List.cons_append, List.nil_append])
 go_wp2_with fail
 refine (unhide HP).mono ?_
 rintro r w1 ⟨⟨q, rfl, hrt⟩, hb1⟩
 obtain ⟨hx2, hxf, hf2, hfc, hk, hot, hck⟩ := unhide HF
 obtain ⟨b, o, E, had, hb, hlf, hrf⟩ := hrt.at_ 1 f hxf
 obtain ⟨b2, o2, C, had2, hb2, hlc, hrc⟩ := hrf.cs.at_ 0 c hfc
 obtain ⟨hk2, ho2⟩ := Tk.RC.kind 6000 hrc
 have hln : q.len = 2 := by rw [hrt.len]; exact hx2
 have hln2 : E.cs.len = 2 := by rw [hrf.cs.len]; exact hf2
 have hbN := (Below.refl w1.heap.size w1).alloc (Nat.le_refl _) (Obj.cells #[.slice q.ad q.len q.cap] 24)
 have e4 : (w1.alloc (Obj.cells #[.slice q.ad q.len q.cap] 24)).cell? ⟨b, o + 10 + 4, none⟩ = some (.slice E.cs.ad 2 E.cs.cap) := by
  rw [← hln2]
  exact (hbN.cell (p := ⟨b, o + 10 + 4, none⟩) hb).trans hlf.c4
 have e0 : (w1.alloc (Obj.cells #[.slice q.ad q.len q.cap] 24)).cell? ⟨b2, o2, none⟩ = some (.int .i64 3) := by
  rw [← hk, ← hk2]
  have h := hlc.c0
  rw [Nat.zero_mul, Nat.add_zero] at h
  exact (hbN.cell (p := ⟨b2, o2, none⟩) hb2).trans h
 have e3 : (w1.alloc (Obj.cells #[.slice q.ad q.len q.cap] 24)).cell? ⟨b2, o2 + 3, none⟩ = some (.string C.ot) := by
  have h := hlc.c3
  rw [Nat.zero_mul, Nat.add_zero] at h
  exact (hbN.cell (p := ⟨b2, o2 + 3, none⟩) hb2).trans h
 have hot2 : (C.ot.toList == [102]) = true := by rw [ho2]; exact hot
 have HC := hide (tCheck_any q x _ (Tk.RT.later hrt hbN (Nat.le_refl _)))
 rw [hck] at HC
 have HB := hide (hb1.trans (hbN.mono hb1.size))
 rw [had2] at e4
 rw [had, hln] at e4 e0 e3 HC HB
 clear hrt hlf hrf hlc hrc hbN hb1 HF hxf hfc hx2 hf2 hk hot hck hk2 ho2
 rw [had, hln]
 go_wp2_with fail
 refine (unhide HC).mono ?_
 rintro r w2 ⟨rfl, hb3⟩
 have HB2 := hide ((unhide HB).trans (hb3.mono (unhide HB).size))
 clear hb3
 go_wp2_with fail
 go_ret
 exact ⟨rfl, unhide HB2⟩
end Go.Proofs.YtfccpddehpgfoaaGreatDoor
