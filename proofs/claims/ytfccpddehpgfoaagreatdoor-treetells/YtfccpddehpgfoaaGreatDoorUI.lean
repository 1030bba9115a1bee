/-
  TSa, TSb, TSh. By the verifier.
-/
import Derived.Test.YtfccpddehpgfoaaGreatDoorTCk1
import Derived.Deep.RegionHeld3
import Derived.Test.YtfccpddehpgfoaaGreatDoorUG
import Derived.Test.YtfccpddehpgfoaaGreatDoorTCk2
set_option maxRecDepth 100000
set_option maxHeartbeats 3200000
namespace Go.Proofs.YtfccpddehpgfoaaGreatDoor
open Go.RowKit
set_option linter.unusedVariables false
def Tk.sameL {α β : Type} (f : α → β → Bool) : List α → List β → Bool
 | [], [] => true
 | a :: r, b :: q => f a b && Tk.sameL f r q
 | _, _ => false
theorem Tk.sameL_len {α β : Type} (f : α → β → Bool) : ∀ (l : List α) (m : List β), l.length ≠ m.length → Tk.sameL f l m = false
 | [], [], h => absurd rfl h
 | a :: r, [], _ => rfl
 | [], b :: q, _ => rfl
 | a :: r, b :: q, h => by
  show (f a b && Tk.sameL f r q) = false
  rw [Tk.sameL_len f r q (fun e => h (by simp [e]))]
  simp
theorem Tk.sameL_all {α β : Type} (f : α → β → Bool) : ∀ (l : List α) (m : List β), l.length = m.length → (∀ (i : Nat) (a : α) (b : β), l[i]? = some a → m[i]? = some b → f a b = true) → Tk.sameL f l m = true
 | [], [], _, _ => rfl
 | a :: r, [], h, _ => by cases h
 | [], b :: q, h, _ => by cases h
 | a :: r, b :: q, h, hall => by
  show (f a b && Tk.sameL f r q) = true
  rw [hall 0 a b rfl rfl, Tk.sameL_all f r q (by simpa using h) (fun i x y h1 h2 => hall (i + 1) x y (by simpa using h1) (by simpa using h2))]
  rfl
theorem Tk.sameL_no {α β : Type} (f : α → β → Bool) : ∀ (l : List α) (m : List β) (i : Nat) (a : α) (b : β), l[i]? = some a → m[i]? = some b → f a b = false → Tk.sameL f l m = false
 | [], _, i, a, b, h, _, _ => by simp at h
 | _ :: _, [], i, a, b, _, h, _ => by simp at h
 | x :: r, y :: q, 0, a, b, h1, h2, h3 => by
  cases h1
  cases h2
  show (f x y && _) = false
  rw [h3]
  rfl
 | x :: r, y :: q, i + 1, a, b, h1, h2, h3 => by
  show (f x y && Tk.sameL f r q) = false
  rw [Tk.sameL_no f r q i a b (by simpa using h1) (by simpa using h2) h3]
  simp
def Tk.sameE : (n m : Nat) → Tk.ET n → Tk.ET m → Bool
 | n + 1, m + 1, x, y => (x.1.1 == y.1.1) && (x.1.2.2.1 == y.1.2.2.1) && (x.1.2.2.2.toList == y.1.2.2.2.toList) && Tk.sameL (Tk.sameE n m) x.2 y.2
 | 0, _, _, _ => false
 | _ + 1, 0, _, _ => false
theorem sameTreeExprs_of (n m : Nat) (ih : ∀ (e f : Tk.E) (x : Tk.ET n) (y : Tk.ET m) (w : World), Tk.RE w n e x → Tk.RE w m f y → Calls Tryz.prog 37 #[e.val, f.val, .bool false] w fun r w' => r = .returned (.bool (Tk.sameE n m x y)) ∧ Below w.heap.size w w')
  (s t : Tk.Sl) (l : List (Tk.ET n)) (k : List (Tk.ET m)) (w : World) (hs : Tk.RS w 5 (Tk.ELies w) (Tk.RE w n) s l) (ht : Tk.RS w 5 (Tk.ELies w) (Tk.RE w m) t k) :
  Calls Tryz.prog 71 #[.slice s.ad s.len s.cap, .slice t.ad t.len t.cap, .bool false] w fun r w' => r = .returned (.bool (Tk.sameL (Tk.sameE n m) l k)) ∧ Below w.heap.size w w' := by
 have hlen := hs.len
 have hfew := hs.few
 rw [← hlen] at hfew
 have hlen2 := ht.len
 have hfew2 := ht.few
 rw [← hlen2] at hfew2
 have HS := hide hs
 have HT := hide ht
 have HLN := hide hlen
 have HLN2 := hide hlen2
 have IH := hide ih
 clear hs ht hlen hlen2 ih
 by_cases hne : s.len = t.len
 · have g0 : ((s.len : Int) != (t.len : Int)) = false := by rw [hne]; simp
   have HNE := hide hne
   clear hne
   go_enter Tryz.func71, Tryz.ntmps71
   go_wp2_with fail
   go_loopw [7] (fun iv wr => ∃ i : Nat, i ≤ s.len ∧ iv = .int .i64 i ∧ (∀ j x y, j < i → l[j]? = some x → k[j]? = some y → Tk.sameE n m x y = true) ∧ Below w.heap.size w wr) (fun iv _ => s.len - (intOf iv).toNat)
   case atStart => exact ⟨0, Nat.zero_le _, rfl, fun j x y h => by omega, Below.refl _ _⟩
   case round =>
    obtain ⟨i, hi, rfl, hall, hbe⟩ := hrel
    have hz := hbe.size
    have HAL := hide hall
    have HBE := hide hbe
    clear hall hbe
    by_cases hlt : i < s.len
    · have hlt1 : i < l.length := by have := unhide HLN; omega
      have hlt2 : i < k.length := by have := unhide HLN2; have := unhide HNE; omega
      have hy := List.getElem?_eq_getElem hlt1
      have hy2 := List.getElem?_eq_getElem hlt2
      obtain ⟨b, o, q, had, hb, hlies, hrd⟩ := (unhide HS).at_ i _ hy
      obtain ⟨b2, o2, q2, had2, hb2, hlies2, hrd2⟩ := (unhide HT).at_ i _ hy2
      generalize l[i] = x at *
      generalize k[i] = y at *
      have HLI := hide (hlies.later (unhide HBE) (Nat.le_refl _) hb)
      have HLI2 := hide (hlies2.later (unhide HBE) (Nat.le_refl _) hb2)
      have HRD := hide (hrd.later (unhide HBE) (Nat.le_refl _))
      have HRD2 := hide (hrd2.later (unhide HBE) (Nat.le_refl _))
      have HY := hide (And.intro hy hy2)
      have hbw : b < wr.heap.size := by omega
      have hbw2 : b2 < wr.heap.size := by omega
      clear hlies hrd hlies2 hrd2 hy hy2
      have hi0 : (0 : Int) ≤ (i : Int) := by omega
      have hi1 : (i : Int) < (s.len : Int) := by omega
      have hi2 : (i : Int) < (t.len : Int) := by have := unhide HNE; omega
      have hlt3 : i < t.len := by have := unhide HNE; omega
      rw [had, had2]
      have HSS := hide (show Tk.ELies wr.drew b (o + i * 5) q ∧ Tk.ELies wr.drew b2 (o2 + i * 5) q2 from ⟨(unhide HLI).later (Below.refl _ _).drew (Nat.le_refl _) hbw, (unhide HLI2).later (Below.refl _ _).drew (Nat.le_refl _) hbw2⟩)
      go_wp2_with fail
      refine Rq.begin (fun j => Nat.beq j 10) (fun V => Tk.ELies V b (o + i * 5) q ∧ Tk.ELies V b2 (o2 + i * 5) q2) (by kernel_rfl) (unhide HSS) (fun hHeld hcl => ?_)
      have HBD := hide (Below.refl wr.heap.size wr).drew
      generalize wr.drew = wd at *
      refine Rq.tk 0 (.slice (some ⟨b, o, none⟩) s.len s.cap) Rq.z (by kernel_rfl) (by kernel_rfl) (by kernel_rfl) (by kernel_rfl) (fun _ _ _ h => h) (by assumption) (by assumption) (by rfl) (fun w hSw => by (try dsimp only at hSw); obtain ⟨⟨a0, a1, a2, a3, a4⟩, ⟨b0, b1, b2, b3, b4⟩⟩ := hSw; go_simp) (fun hcl => ?_)
      (try simp only [Act.put, List.setIfInBounds_toArray, List.set_cons_zero, List.set_cons_succ])
      refine Rq.tk 1 (.int .i64 i) (Rq.s Rq.z) (by kernel_rfl) (by kernel_rfl) (by kernel_rfl) (by kernel_rfl) (fun _ _ _ h => h) (by assumption) (by assumption) (by rfl) (fun w hSw => by (try dsimp only at hSw); obtain ⟨⟨a0, a1, a2, a3, a4⟩, ⟨b0, b1, b2, b3, b4⟩⟩ := hSw; go_simp) (fun hcl => ?_)
      (try simp only [Act.put, List.setIfInBounds_toArray, List.set_cons_zero, List.set_cons_succ])
      refine Rq.tk 2 (.pointer (some ⟨b, o + i * 5, none⟩)) (Rq.s (Rq.s Rq.z)) (by kernel_rfl) (by kernel_rfl) (by kernel_rfl) (by kernel_rfl) (fun _ _ _ h => h) (by assumption) (by assumption) (by rfl) (fun w hSw => by (try dsimp only at hSw); obtain ⟨⟨a0, a1, a2, a3, a4⟩, ⟨b0, b1, b2, b3, b4⟩⟩ := hSw; go_simp) (fun hcl => ?_)
      (try simp only [Act.put, List.setIfInBounds_toArray, List.set_cons_zero, List.set_cons_succ])
      refine Rq.tk 3 (.agg #[.int .i64 q.k, .int .i64 q.a, .int .i64 q.n, .string q.nm, .slice q.args.ad q.args.len q.args.cap]) (Rq.s (Rq.s (Rq.s Rq.z))) (by kernel_rfl) (by kernel_rfl) (by kernel_rfl) (by kernel_rfl) (fun _ _ _ h => h) (by assumption) (by assumption) (by rfl) (fun w hSw => by (try dsimp only at hSw); obtain ⟨⟨a0, a1, a2, a3, a4⟩, ⟨b0, b1, b2, b3, b4⟩⟩ := hSw; go_simp) (fun hcl => ?_)
      (try simp only [Act.put, List.setIfInBounds_toArray, List.set_cons_zero, List.set_cons_succ])
      refine Rq.tk 4 (.slice (some ⟨b2, o2, none⟩) t.len t.cap) (Rq.s (Rq.s (Rq.s (Rq.s Rq.z)))) (by kernel_rfl) (by kernel_rfl) (by kernel_rfl) (by kernel_rfl) (fun _ _ _ h => h) (by assumption) (by assumption) (by rfl) (fun w hSw => by (try dsimp only at hSw); obtain ⟨⟨a0, a1, a2, a3, a4⟩, ⟨b0, b1, b2, b3, b4⟩⟩ := hSw; go_simp) (fun hcl => ?_)
      (try simp only [Act.put, List.setIfInBounds_toArray, List.set_cons_zero, List.set_cons_succ])
      refine Rq.tk 5 (.int .i64 i) (Rq.s (Rq.s (Rq.s (Rq.s (Rq.s Rq.z))))) (by kernel_rfl) (by kernel_rfl) (by kernel_rfl) (by kernel_rfl) (fun _ _ _ h => h) (by assumption) (by assumption) (by rfl) (fun w hSw => by (try dsimp only at hSw); obtain ⟨⟨a0, a1, a2, a3, a4⟩, ⟨b0, b1, b2, b3, b4⟩⟩ := hSw; go_simp) (fun hcl => ?_)
      (try simp only [Act.put, List.setIfInBounds_toArray, List.set_cons_zero, List.set_cons_succ])
      refine Rq.tk 6 (.pointer (some ⟨b2, o2 + i * 5, none⟩)) (Rq.s (Rq.s (Rq.s (Rq.s (Rq.s (Rq.s Rq.z)))))) (by kernel_rfl) (by kernel_rfl) (by kernel_rfl) (by kernel_rfl) (fun _ _ _ h => h) (by assumption) (by assumption) (by rfl) (fun w hSw => by (try dsimp only at hSw); obtain ⟨⟨a0, a1, a2, a3, a4⟩, ⟨b0, b1, b2, b3, b4⟩⟩ := hSw; go_simp) (fun hcl => ?_)
      (try simp only [Act.put, List.setIfInBounds_toArray, List.set_cons_zero, List.set_cons_succ])
      refine Rq.tk 7 (.agg #[.int .i64 q2.k, .int .i64 q2.a, .int .i64 q2.n, .string q2.nm, .slice q2.args.ad q2.args.len q2.args.cap]) (Rq.s (Rq.s (Rq.s (Rq.s (Rq.s (Rq.s (Rq.s Rq.z))))))) (by kernel_rfl) (by kernel_rfl) (by kernel_rfl) (by kernel_rfl) (fun _ _ _ h => h) (by assumption) (by assumption) (by rfl) (fun w hSw => by (try dsimp only at hSw); obtain ⟨⟨a0, a1, a2, a3, a4⟩, ⟨b0, b1, b2, b3, b4⟩⟩ := hSw; go_simp) (fun hcl => ?_)
      (try simp only [Act.put, List.setIfInBounds_toArray, List.set_cons_zero, List.set_cons_succ])
      refine Rq.tk 8 (.bool false) (Rq.s (Rq.s (Rq.s (Rq.s (Rq.s (Rq.s (Rq.s (Rq.s Rq.z)))))))) (by kernel_rfl) (by kernel_rfl) (by kernel_rfl) (by kernel_rfl) (fun _ _ _ h => h) (by assumption) (by assumption) (by rfl) (fun w hSw => by (try dsimp only at hSw); obtain ⟨⟨a0, a1, a2, a3, a4⟩, ⟨b0, b1, b2, b3, b4⟩⟩ := hSw; go_simp) (fun hcl => ?_)
      (try simp only [Act.put, List.setIfInBounds_toArray, List.set_cons_zero, List.set_cons_succ])
      refine Rq.on 9 (Rq.s (Rq.s (Rq.s (Rq.s (Rq.s (Rq.s (Rq.s (Rq.s (Rq.s Rq.z))))))))) (by kernel_rfl) (by assumption) (fun K hK => ?_)
      go_simp
      go_at_call 37
      refine ((unhide IH) q q2 x y wd ((unhide HRD).later (unhide HBD) (Nat.le_refl _)) ((unhide HRD2).later (unhide HBD) (Nat.le_refl _))).mono ?_
      rintro r w3 ⟨rfl, hb3⟩
      have HB3 := hide (((unhide HBE).trans ((unhide HBD).mono hz)).trans (hb3.mono (by have := (unhide HBD).size; omega)))
      have hH3 : (fun V => Tk.ELies V b (o + i * 5) q ∧ Tk.ELies V b2 (o2 + i * 5) q2) w3 := ⟨hHeld.1.later hb3 (Nat.le_refl _) (by have := (unhide HBD).size; omega), hHeld.2.later hb3 (Nat.le_refl _) (by have := (unhide HBD).size; omega)⟩
      clear hb3 hHeld
      go_simp
      refine hK _ _ (fun _ => hH3) (fun hcl => ?_)
      (try simp only [Act.put, List.setIfInBounds_toArray, List.set_cons_zero, List.set_cons_succ])
      clear hK K
      refine Rq.on 10 (Rq.s (Rq.s (Rq.s (Rq.s (Rq.s (Rq.s (Rq.s (Rq.s (Rq.s (Rq.s Rq.z)))))))))) (by kernel_rfl) (by assumption) (fun K hK => ?_)
      go_simp
      refine hK _ _ (fun e => absurd e (by decide)) (fun hcl => ?_)
      (try simp only [Act.put, List.setIfInBounds_toArray, List.set_cons_zero, List.set_cons_succ])
      refine Rq.done (by kernel_rfl) ?_ _
      clear hK K hcl hH3
      cases hx : Tk.sameE n m x y
      · have hf : Hid (Tk.sameL (Tk.sameE n m) l k = false) := Tk.sameL_no _ l k i x y (unhide HY).1 (unhide HY).2 hx
        clear hx
        go_wp2_with fail
        go_ret
        exact ⟨ret_bool (unhide hf).symm, unhide HB3⟩
      · have HX := hide hx
        clear hx
        go_wp2_with fail
        refine ⟨⟨i + 1, by omega, by go_num, ?_, unhide HB3⟩, by simp [intOf]; omega⟩
        intro j u v hj hu hv
        by_cases e2 : j = i
        · subst e2
          have h1 := (unhide HY).1
          have h2 := (unhide HY).2
          rw [h1] at hu
          rw [h2] at hv
          cases hu
          cases hv
          exact unhide HX
        · exact (unhide HAL) j u v (by omega) hu hv
    · have hf : Hid (Tk.sameL (Tk.sameE n m) l k = true) := by
       show _ = _
       have e1 := unhide HLN
       have e2 := unhide HLN2
       have e3 := unhide HNE
       exact Tk.sameL_all _ l k (by omega) (fun j x y h1 h2 => (unhide HAL) j x y (by have := (List.getElem?_eq_some_iff.1 h1).1; omega) h1 h2)
      go_wp2_with fail
      go_ret
      exact ⟨ret_bool (unhide hf).symm, unhide HBE⟩
 · have g0 : ((s.len : Int) != (t.len : Int)) = true := by simp; omega
   have hf : Hid (Tk.sameL (Tk.sameE n m) l k = false) := Tk.sameL_len _ l k (by have := unhide HLN; have := unhide HLN2; omega)
   clear hne
   go_enter Tryz.func71, Tryz.ntmps71
   go_wp2_with fail
   go_ret
   exact ⟨ret_bool (unhide hf).symm, Below.refl _ _⟩
end Go.Proofs.YtfccpddehpgfoaaGreatDoor
namespace Go.Proofs.YtfccpddehpgfoaaGreatDoor
open Go.RowKit
set_option linter.unusedVariables false
theorem sameTreeExpr_step (n m : Nat) (ihL : ∀ (s t : Tk.Sl) (l : List (Tk.ET n)) (k : List (Tk.ET m)) (w : World), Tk.RS w 5 (Tk.ELies w) (Tk.RE w n) s l → Tk.RS w 5 (Tk.ELies w) (Tk.RE w m) t k → Calls Tryz.prog 71 #[.slice s.ad s.len s.cap, .slice t.ad t.len t.cap, .bool false] w fun r w' => r = .returned (.bool (Tk.sameL (Tk.sameE n m) l k)) ∧ Below w.heap.size w w')
  (e f : Tk.E) (x : Tk.ET (n + 1)) (y : Tk.ET (m + 1)) (w : World) (hx : Tk.RE w (n + 1) e x) (hy : Tk.RE w (m + 1) f y) :
  Calls Tryz.prog 37 #[e.val, f.val, .bool false] w fun r w' => r = .returned (.bool (Tk.sameE (n + 1) (m + 1) x y)) ∧ Below w.heap.size w w' := by
 obtain ⟨⟨f1, f2, f3, f4, f5⟩, hs⟩ := hx
 obtain ⟨⟨g1, g2, g3, g4, g5⟩, ht⟩ := hy
 have hsp : Tk.sameE (n + 1) (m + 1) x y = ((e.k == f.k) && (e.n == f.n) && (e.nm.toList == f.nm.toList) && Tk.sameL (Tk.sameE n m) x.2 y.2) := by rw [f1, f3, f4, g1, g3, g4]; rfl
 rw [hsp]
 have hbA : Below w.heap.size w ((w.alloc (Obj.cells #[.int .i64 e.k, .int .i64 e.a, .int .i64 e.n, .string e.nm, .slice e.args.ad e.args.len e.args.cap] 52)).alloc (Obj.cells #[.int .i64 f.k, .int .i64 f.a, .int .i64 f.n, .string f.nm, .slice f.args.ad f.args.len f.args.cap] 52)) := ((Below.refl _ _).alloc (Nat.le_refl _) _).alloc (by simp) _
 have HB := hide hbA
 have HL := hide (ihL e.args f.args x.2 y.2 _ (hs.laterE hbA (Nat.le_refl _)) (ht.laterE hbA (Nat.le_refl _)))
 generalize Tk.sameL (Tk.sameE n m) x.2 y.2 = z at *
 clear hsp hs ht f1 f2 f3 f4 f5 g1 g2 g3 g4 g5 hbA ihL
 unfold Tk.E.val
 cases h1 : (e.k == f.k)
 · go_enter Tryz.func37, Tryz.ntmps37
   go_wp2_with fail
   go_ret
   exact ⟨rfl, unhide HB⟩
 · cases h2 : (e.n == f.n)
   · go_enter Tryz.func37, Tryz.ntmps37
     go_wp2_with fail
     go_ret
     exact ⟨rfl, unhide HB⟩
   · cases h3 : (e.nm.toList == f.nm.toList)
     · go_enter Tryz.func37, Tryz.ntmps37
       go_wp2_with fail
       go_ret
       exact ⟨rfl, unhide HB⟩
     · go_enter Tryz.func37, Tryz.ntmps37
       go_wp2_with fail
       refine (unhide HL).mono ?_
       rintro r w1 ⟨rfl, hb1⟩
       have HB1 := hide ((unhide HB).trans (hb1.mono (unhide HB).size))
       clear hb1 h1 h2 h3
       go_wp2_with fail
       go_ret
       exact ⟨rfl, unhide HB1⟩
theorem sameTreeExpr_any : ∀ (n m : Nat) (e f : Tk.E) (x : Tk.ET n) (y : Tk.ET m) (w : World), Tk.RE w n e x → Tk.RE w m f y → Calls Tryz.prog 37 #[e.val, f.val, .bool false] w fun r w' => r = .returned (.bool (Tk.sameE n m x y)) ∧ Below w.heap.size w w'
 | 0, _, _, _, _, _, _, h, _ => absurd h id
 | _ + 1, 0, _, _, _, _, _, _, h => absurd h id
 | n + 1, m + 1, e, f, x, y, w, h, h2 => sameTreeExpr_step n m (fun s t l k w hs ht => sameTreeExprs_of n m (sameTreeExpr_any n m) s t l k w hs ht) e f x y w h h2
theorem sameTreeExprs_any (n m : Nat) (s t : Tk.Sl) (l : List (Tk.ET n)) (k : List (Tk.ET m)) (w : World) (hs : Tk.RS w 5 (Tk.ELies w) (Tk.RE w n) s l) (ht : Tk.RS w 5 (Tk.ELies w) (Tk.RE w m) t k) :
  Calls Tryz.prog 71 #[.slice s.ad s.len s.cap, .slice t.ad t.len t.cap, .bool false] w fun r w' => r = .returned (.bool (Tk.sameL (Tk.sameE n m) l k)) ∧ Below w.heap.size w w' :=
 sameTreeExprs_of n m (sameTreeExpr_any n m) s t l k w hs ht
end Go.Proofs.YtfccpddehpgfoaaGreatDoor
namespace Go.Proofs.YtfccpddehpgfoaaGreatDoor
open Go.RowKit
set_option linter.unusedVariables false
section
variable {P : Program} {ty : TypeId} {cs z : Array Value} {d : TypeDesc} {size : Nat} {o : Oper} {a : Act} {W : World} {K : Act → World → Prop} {Q : Exit → Act → World → Prop} {y : Array Bool}
theorem Tp.runLoad {t b off : Nat} (ho : o.op = .load ty (.tmp t)) (ht : a.tmps.getD t undef = .pointer (some ⟨b, off, none⟩)) (hc : ∀ j v, cs[j]? = some v → W.cell? ⟨b, off + j, none⟩ = some v) (hu : P.underlying ty = some d) (hd : (match d with | .struct _ | .array _ _ => true | _ => false) = true) (hi : (P.info? ty).map (·.size) = some cs.size) :
  (execOp a.eval o).run P W = .ok (.value (.agg cs)) W := by
 unfold execOp
 have e1 : a.eval (.tmp t) = .pointer (some ⟨b, off, none⟩) := ht
 simp only [ho, e1, Instr.loadAt, Instr.sureAddr, Sem.run_bind, Sem.run_pure, Result.andThen_ok, Tp.loadO hc hu hd hi]
theorem Tp.onAlloc {w : Bool} (hw : w = true) (ho : o.op = .alloc ty) (hz : (P.info? ty).map (fun i => (i.zero, i.size)) = some (some (.agg z), size)) (h : K (a.put o.dst (.pointer (some ⟨W.heap.size, 0, none⟩))) (W.alloc (.cells z ty))) :
  if w = true then Oper.wp P o a W K Q else K (a.put o.dst undef) W := by
 rw [if_pos hw]
 unfold Oper.wp execOp
 simp only [ho, Instr.alloc, Sem.run_bind, (zero_of_info hz).1, Result.andThen_ok, newVar, Value.cells]
 exact h
theorem Tp.onStore {w : Bool} {p v b : Nat} {old : Array Value} {t : TypeId} (hw : w = true) (ho : o.op = .store ty (.tmp p) (.tmp v)) (hp : a.tmps.getD p undef = .pointer (some ⟨b, 0, none⟩)) (hv : a.tmps.getD v undef = .agg cs) (hg : W.heap[b]? = some (.cells old t (0, 0))) (hi : (P.info? ty).map (·.size) = some cs.size) (hs : old.size = cs.size) (h1 : ∀ v ∈ cs.toList, v.oneCell' = true)
  (h : K (a.put o.dst undef) (W.setRow b cs)) : if w = true then Oper.wp P o a W K Q else K (a.put o.dst undef) W := by
 rw [if_pos hw]
 exact wp_store_row ty (.tmp p) (.tmp v) ho b cs hp hv t old hg hi hs (Array.all_eq_true_iff_forall_mem.2 (fun v hv => h1 v (by simpa using hv))) h
theorem Tp.setRow_size (W : World) (b : Nat) (cs : Array Value) : (W.setRow b cs).heap.size = W.heap.size := by simp [World.setRow]
theorem Tp.setRow_below {W0 : World} {n b : Nat} (h : Below n W0 W) (hb : n ≤ b) (cs : Array Value) : Below n W0 (W.setRow b cs) :=
 ⟨h.os, h.tape, h.output, by rw [Tp.setRow_size]; exact h.size, fun q hq => (setRow_other W b q cs (by omega)).trans (h.block q hq)⟩
theorem Tk.BV.row {b : Nat} {t : TypeId} (h : W.heap[b]? = some (.cells cs t (0, 0))) : Tk.BV W b cs := fun j v hj => (cell_of_row W b j cs t (0, 0) h).trans hj
end
end Go.Proofs.YtfccpddehpgfoaaGreatDoor
