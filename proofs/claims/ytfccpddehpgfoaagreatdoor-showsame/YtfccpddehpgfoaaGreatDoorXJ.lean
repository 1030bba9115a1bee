/-
  TSa, TSb, TSh, TSc. By the verifier.
-/
import Derived.Test.YtfccpddehpgfoaaGreatDoorXI
import Derived.Deep.RegionHeld3
import Derived.Test.YtfccpddehpgfoaaGreatDoorUG
import Derived.Deep.CutRange
set_option maxRecDepth 100000
set_option maxHeartbeats 3200000
namespace Go.Proofs.YtfccpddehpgfoaaGreatDoor
open Go.RowKit
set_option linter.unusedVariables false
def Tk.sameL {α β : Type} (f : α → β → Bool) : List α → List β → Bool
 | [], [] => true
 | a :: r, b :: q => f a b && Tk.sameL f r q
 | _, _ => false
theorem Tk.sameL_len {α β : Type} (f : α → β → Bool) : ∀ (l : List α) (m : List β), l.length ≠ m.length → Tk.sameL f l m = false
 | [], [], h => absurd rfl h
 | a :: r, [], _ => rfl
 | [], b :: q, _ => rfl
 | a :: r, b :: q, h => by
  show (f a b && Tk.sameL f r q) = false
  rw [Tk.sameL_len f r q (fun e => h (by simp [e]))]
  simp
theorem Tk.sameL_all {α β : Type} (f : α → β → Bool) : ∀ (l : List α) (m : List β), l.length = m.length → (∀ (i : Nat) (a : α) (b : β), l[i]? = some a → m[i]? = some b → f a b = true) → Tk.sameL f l m = true
 | [], [], _, _ => rfl
 | a :: r, [], h, _ => by cases h
 | [], b :: q, h, _ => by cases h
 | a :: r, b :: q, h, hall => by
  show (f a b && Tk.sameL f r q) = true
  rw [hall 0 a b rfl rfl, Tk.sameL_all f r q (by simpa using h) (fun i x y h1 h2 => hall (i + 1) x y (by simpa using h1) (by simpa using h2))]
  rfl
theorem Tk.sameL_no {α β : Type} (f : α → β → Bool) : ∀ (l : List α) (m : List β) (i : Nat) (a : α) (b : β), l[i]? = some a → m[i]? = some b → f a b = false → Tk.sameL f l m = false
 | [], _, i, a, b, h, _, _ => by simp at h
 | _ :: _, [], i, a, b, _, h, _ => by simp at h
 | x :: r, y :: q, 0, a, b, h1, h2, h3 => by
  cases h1
  cases h2
  show (f x y && _) = false
  rw [h3]
  rfl
 | x :: r, y :: q, i + 1, a, b, h1, h2, h3 => by
  show (f x y && Tk.sameL f r q) = false
  rw [Tk.sameL_no f r q i a b (by simpa using h1) (by simpa using h2) h3]
  simp
def Tk.sameE : (n m : Nat) → Tk.ET n → Tk.ET m → Bool
 | n + 1, m + 1, x, y => (x.1.1 == y.1.1) && (x.1.2.2.1 == y.1.2.2.1) && (x.1.2.2.2.toList == y.1.2.2.2.toList) && Tk.sameL (Tk.sameE n m) x.2 y.2
 | 0, _, _, _ => false
 | _ + 1, 0, _, _ => false
theorem sameTreeExprs_of (n m : Nat) (ih : ∀ (e f : Tk.E) (x : Tk.ET n) (y : Tk.ET m) (w : World), Tk.RE w n e x → Tk.RE w m f y → Calls Tryz.prog 37 #[e.val, f.val, .bool false] w fun r w' => r = .returned (.bool (Tk.sameE n m x y)) ∧ Below w.heap.size w w')
  (s t : Tk.Sl) (l : List (Tk.ET n)) (k : List (Tk.ET m)) (w : World) (hs : Tk.RS w 5 (Tk.ELies w) (Tk.RE w n) s l) (ht : Tk.RS w 5 (Tk.ELies w) (Tk.RE w m) t k) :
  Calls Tryz.prog 71 #[.slice s.ad s.len s.cap, .slice t.ad t.len t.cap, .bool false] w fun r w' => r = .returned (.bool (Tk.sameL (Tk.sameE n m) l k)) ∧ Below w.heap.size w w' := by
 have hlen := hs.len
 have hfew := hs.few
 rw [← hlen] at hfew
 have hlen2 := ht.len
 have hfew2 := ht.few
 rw [← hlen2] at hfew2
 have HS := hide hs
 have HT := hide ht
 have HLN := hide hlen
 have HLN2 := hide hlen2
 have IH := hide ih
 clear hs ht hlen hlen2 ih
 by_cases hne : s.len = t.len
 · have g0 : ((s.len : Int) != (t.len : Int)) = false := by rw [hne]; simp
   have HNE := hide hne
   clear hne
   go_enter Tryz.func71, Tryz.ntmps71
   go_wp2_with fail
   go_loopw [7] (fun iv wr => ∃ i : Nat, i ≤ s.len ∧ iv = .int .i64 i ∧ (∀ j x y, j < i → l[j]? = some x → k[j]? = some y → Tk.sameE n m x y = true) ∧ Below w.heap.size w wr) (fun iv _ => s.len - (intOf iv).toNat)
   case atStart => exact ⟨0, Nat.zero_le _, rfl, fun j x y h => by omega, Below.refl _ _⟩
   case round =>
    obtain ⟨i, hi, rfl, hall, hbe⟩ := hrel
    have hz := hbe.size
    have HAL := hide hall
    have HBE := hide hbe
    clear hall hbe
    by_cases hlt : i < s.len
    · have hlt1 : i < l.length := by have := unhide HLN; omega
      have hlt2 : i < k.length := by have := unhide HLN2; have := unhide HNE; omega
      have hy := List.getElem?_eq_getElem hlt1
      have hy2 := List.getElem?_eq_getElem hlt2
      obtain ⟨b, o, q, had, hb, hlies, hrd⟩ := (unhide HS).at_ i _ hy
      obtain ⟨b2, o2, q2, had2, hb2, hlies2, hrd2⟩ := (unhide HT).at_ i _ hy2
      generalize l[i] = x at *
      generalize k[i] = y at *
      have HLI := hide (hlies.later (unhide HBE) (Nat.le_refl _) hb)
      have HLI2 := hide (hlies2.later (unhide HBE) (Nat.le_refl _) hb2)
      have HRD := hide (hrd.later (unhide HBE) (Nat.le_refl _))
      have HRD2 := hide (hrd2.later (unhide HBE) (Nat.le_refl _))
      have HY := hide (And.intro hy hy2)
      have hbw : b < wr.heap.size := by omega
      have hbw2 : b2 < wr.heap.size := by omega
      clear hlies hrd hlies2 hrd2 hy hy2
      have hi0 : (0 : Int) ≤ (i : Int) := by omega
      have hi1 : (i : Int) < (s.len : Int) := by omega
      have hi2 : (i : Int) < (t.len : Int) := by have := unhide HNE; omega
      have hlt3 : i < t.len := by have := unhide HNE; omega
      rw [had, had2]
      have HSS := hide (show Tk.ELies wr.drew b (o + i * 5) q ∧ Tk.ELies wr.drew b2 (o2 + i * 5) q2 from ⟨(unhide HLI).later (Below.refl _ _).drew (Nat.le_refl _) hbw, (unhide HLI2).later (Below.refl _ _).drew (Nat.le_refl _) hbw2⟩)
      go_wp2_with fail
      refine Rq.begin (fun j => Nat.beq j 10) (fun V => Tk.ELies V b (o + i * 5) q ∧ Tk.ELies V b2 (o2 + i * 5) q2) (by kernel_rfl) (unhide HSS) (fun hHeld hcl => ?_)
      have HBD := hide (Below.refl wr.heap.size wr).drew
      generalize wr.drew = wd at *
      refine Rq.tk 0 (.slice (some ⟨b, o, none⟩) s.len s.cap) Rq.z (by kernel_rfl) (by kernel_rfl) (by kernel_rfl) (by kernel_rfl) (fun _ _ _ h => h) (by assumption) (by assumption) (by rfl) (fun w hSw => by (try dsimp only at hSw); obtain ⟨⟨a0, a1, a2, a3, a4⟩, ⟨b0, b1, b2, b3, b4⟩⟩ := hSw; go_simp) (fun hcl => ?_)
      (try simp only [Act.put, List.setIfInBounds_toArray, List.set_cons_zero, List.set_cons_succ])
      refine Rq.tk 1 (.int .i64 i) (Rq.s Rq.z) (by kernel_rfl) (by kernel_rfl) (by kernel_rfl) (by kernel_rfl) (fun _ _ _ h => h) (by assumption) (by assumption) (by rfl) (fun w hSw => by (try dsimp only at hSw); obtain ⟨⟨a0, a1, a2, a3, a4⟩, ⟨b0, b1, b2, b3, b4⟩⟩ := hSw; go_simp) (fun hcl => ?_)
      (try simp only [Act.put, List.setIfInBounds_toArray, List.set_cons_zero, List.set_cons_succ])
      refine Rq.tk 2 (.pointer (some ⟨b, o + i * 5, none⟩)) (Rq.s (Rq.s Rq.z)) (by kernel_rfl) (by kernel_rfl) (by kernel_rfl) (by kernel_rfl) (fun _ _ _ h => h) (by assumption) (by assumption) (by rfl) (fun w hSw => by (try dsimp only at hSw); obtain ⟨⟨a0, a1, a2, a3, a4⟩, ⟨b0, b1, b2, b3, b4⟩⟩ := hSw; go_simp) (fun hcl => ?_)
      (try simp only [Act.put, List.setIfInBounds_toArray, List.set_cons_zero, List.set_cons_succ])
      refine Rq.tk 3 (.agg #[.int .i64 q.k, .int .i64 q.a, .int .i64 q.n, .string q.nm, .slice q.args.ad q.args.len q.args.cap]) (Rq.s (Rq.s (Rq.s Rq.z))) (by kernel_rfl) (by kernel_rfl) (by kernel_rfl) (by kernel_rfl) (fun _ _ _ h => h) (by assumption) (by assumption) (by rfl) (fun w hSw => by (try dsimp only at hSw); obtain ⟨⟨a0, a1, a2, a3, a4⟩, ⟨b0, b1, b2, b3, b4⟩⟩ := hSw; go_simp) (fun hcl => ?_)
      (try simp only [Act.put, List.setIfInBounds_toArray, List.set_cons_zero, List.set_cons_succ])
      refine Rq.tk 4 (.slice (some ⟨b2, o2, none⟩) t.len t.cap) (Rq.s (Rq.s (Rq.s (Rq.s Rq.z)))) (by kernel_rfl) (by kernel_rfl) (by kernel_rfl) (by kernel_rfl) (fun _ _ _ h => h) (by assumption) (by assumption) (by rfl) (fun w hSw => by (try dsimp only at hSw); obtain ⟨⟨a0, a1, a2, a3, a4⟩, ⟨b0, b1, b2, b3, b4⟩⟩ := hSw; go_simp) (fun hcl => ?_)
      (try simp only [Act.put, List.setIfInBounds_toArray, List.set_cons_zero, List.set_cons_succ])
      refine Rq.tk 5 (.int .i64 i) (Rq.s (Rq.s (Rq.s (Rq.s (Rq.s Rq.z))))) (by kernel_rfl) (by kernel_rfl) (by kernel_rfl) (by kernel_rfl) (fun _ _ _ h => h) (by assumption) (by assumption) (by rfl) (fun w hSw => by (try dsimp only at hSw); obtain ⟨⟨a0, a1, a2, a3, a4⟩, ⟨b0, b1, b2, b3, b4⟩⟩ := hSw; go_simp) (fun hcl => ?_)
      (try simp only [Act.put, List.setIfInBounds_toArray, List.set_cons_zero, List.set_cons_succ])
      refine Rq.tk 6 (.pointer (some ⟨b2, o2 + i * 5, none⟩)) (Rq.s (Rq.s (Rq.s (Rq.s (Rq.s (Rq.s Rq.z)))))) (by kernel_rfl) (by kernel_rfl) (by kernel_rfl) (by kernel_rfl) (fun _ _ _ h => h) (by assumption) (by assumption) (by rfl) (fun w hSw => by (try dsimp only at hSw); obtain ⟨⟨a0, a1, a2, a3, a4⟩, ⟨b0, b1, b2, b3, b4⟩⟩ := hSw; go_simp) (fun hcl => ?_)
      (try simp only [Act.put, List.setIfInBounds_toArray, List.set_cons_zero, List.set_cons_succ])
      refine Rq.tk 7 (.agg #[.int .i64 q2.k, .int .i64 q2.a, .int .i64 q2.n, .string q2.nm, .slice q2.args.ad q2.args.len q2.args.cap]) (Rq.s (Rq.s (Rq.s (Rq.s (Rq.s (Rq.s (Rq.s Rq.z))))))) (by kernel_rfl) (by kernel_rfl) (by kernel_rfl) (by kernel_rfl) (fun _ _ _ h => h) (by assumption) (by assumption) (by rfl) (fun w hSw => by (try dsimp only at hSw); obtain ⟨⟨a0, a1, a2, a3, a4⟩, ⟨b0, b1, b2, b3, b4⟩⟩ := hSw; go_simp) (fun hcl => ?_)
      (try simp only [Act.put, List.setIfInBounds_toArray, List.set_cons_zero, List.set_cons_succ])
      refine Rq.tk 8 (.bool false) (Rq.s (Rq.s (Rq.s (Rq.s (Rq.s (Rq.s (Rq.s (Rq.s Rq.z)))))))) (by kernel_rfl) (by kernel_rfl) (by kernel_rfl) (by kernel_rfl) (fun _ _ _ h => h) (by assumption) (by assumption) (by rfl) (fun w hSw => by (try dsimp only at hSw); obtain ⟨⟨a0, a1, a2, a3, a4⟩, ⟨b0, b1, b2, b3, b4⟩⟩ := hSw; go_simp) (fun hcl => ?_)
      (try simp only [Act.put, List.setIfInBounds_toArray, List.set_cons_zero, List.set_cons_succ])
      refine Rq.on 9 (Rq.s (Rq.s (Rq.s (Rq.s (Rq.s (Rq.s (Rq.s (Rq.s (Rq.s Rq.z))))))))) (by kernel_rfl) (by assumption) (fun K hK => ?_)
      go_simp
      go_at_call 37
      refine ((unhide IH) q q2 x y wd ((unhide HRD).later (unhide HBD) (Nat.le_refl _)) ((unhide HRD2).later (unhide HBD) (Nat.le_refl _))).mono ?_
      rintro r w3 ⟨rfl, hb3⟩
      have HB3 := hide (((unhide HBE).trans ((unhide HBD).mono hz)).trans (hb3.mono (by have := (unhide HBD).size; omega)))
      have hH3 : (fun V => Tk.ELies V b (o + i * 5) q ∧ Tk.ELies V b2 (o2 + i * 5) q2) w3 := ⟨hHeld.1.later hb3 (Nat.le_refl _) (by have := (unhide HBD).size; omega), hHeld.2.later hb3 (Nat.le_refl _) (by have := (unhide HBD).size; omega)⟩
      clear hb3 hHeld
      go_simp
      refine hK _ _ (fun _ => hH3) (fun hcl => ?_)
      (try simp only [Act.put, List.setIfInBounds_toArray, List.set_cons_zero, List.set_cons_succ])
      clear hK K
      refine Rq.on 10 (Rq.s (Rq.s (Rq.s (Rq.s (Rq.s (Rq.s (Rq.s (Rq.s (Rq.s (Rq.s Rq.z)))))))))) (by kernel_rfl) (by assumption) (fun K hK => ?_)
      go_simp
      refine hK _ _ (fun e => absurd e (by decide)) (fun hcl => ?_)
      (try simp only [Act.put, List.setIfInBounds_toArray, List.set_cons_zero, List.set_cons_succ])
      refine Rq.done (by kernel_rfl) ?_ _
      clear hK K hcl hH3
      cases hx : Tk.sameE n m x y
      · have hf : Hid (Tk.sameL (Tk.sameE n m) l k = false) := Tk.sameL_no _ l k i x y (unhide HY).1 (unhide HY).2 hx
        clear hx
        go_wp2_with fail
        go_ret
        exact ⟨ret_bool (unhide hf).symm, unhide HB3⟩
      · have HX := hide hx
        clear hx
        go_wp2_with fail
        refine ⟨⟨i + 1, by omega, by go_num, ?_, unhide HB3⟩, by simp [intOf]; omega⟩
        intro j u v hj hu hv
        by_cases e2 : j = i
        · subst e2
          have h1 := (unhide HY).1
          have h2 := (unhide HY).2
          rw [h1] at hu
          rw [h2] at hv
          cases hu
          cases hv
          exact unhide HX
        · exact (unhide HAL) j u v (by omega) hu hv
    · have hf : Hid (Tk.sameL (Tk.sameE n m) l k = true) := by
       show _ = _
       have e1 := unhide HLN
       have e2 := unhide HLN2
       have e3 := unhide HNE
       exact Tk.sameL_all _ l k (by omega) (fun j x y h1 h2 => (unhide HAL) j x y (by have := (List.getElem?_eq_some_iff.1 h1).1; omega) h1 h2)
      go_wp2_with fail
      go_ret
      exact ⟨ret_bool (unhide hf).symm, unhide HBE⟩
 · have g0 : ((s.len : Int) != (t.len : Int)) = true := by simp; omega
   have hf : Hid (Tk.sameL (Tk.sameE n m) l k = false) := Tk.sameL_len _ l k (by have := unhide HLN; have := unhide HLN2; omega)
   clear hne
   go_enter Tryz.func71, Tryz.ntmps71
   go_wp2_with fail
   go_ret
   exact ⟨ret_bool (unhide hf).symm, Below.refl _ _⟩
end Go.Proofs.YtfccpddehpgfoaaGreatDoor
namespace Go.Proofs.YtfccpddehpgfoaaGreatDoor
open Go.RowKit
set_option linter.unusedVariables false
theorem sameTreeExpr_step (n m : Nat) (ihL : ∀ (s t : Tk.Sl) (l : List (Tk.ET n)) (k : List (Tk.ET m)) (w : World), Tk.RS w 5 (Tk.ELies w) (Tk.RE w n) s l → Tk.RS w 5 (Tk.ELies w) (Tk.RE w m) t k → Calls Tryz.prog 71 #[.slice s.ad s.len s.cap, .slice t.ad t.len t.cap, .bool false] w fun r w' => r = .returned (.bool (Tk.sameL (Tk.sameE n m) l k)) ∧ Below w.heap.size w w')
  (e f : Tk.E) (x : Tk.ET (n + 1)) (y : Tk.ET (m + 1)) (w : World) (hx : Tk.RE w (n + 1) e x) (hy : Tk.RE w (m + 1) f y) :
  Calls Tryz.prog 37 #[e.val, f.val, .bool false] w fun r w' => r = .returned (.bool (Tk.sameE (n + 1) (m + 1) x y)) ∧ Below w.heap.size w w' := by
 obtain ⟨⟨f1, f2, f3, f4, f5⟩, hs⟩ := hx
 obtain ⟨⟨g1, g2, g3, g4, g5⟩, ht⟩ := hy
 have hsp : Tk.sameE (n + 1) (m + 1) x y = ((e.k == f.k) && (e.n == f.n) && (e.nm.toList == f.nm.toList) && Tk.sameL (Tk.sameE n m) x.2 y.2) := by rw [f1, f3, f4, g1, g3, g4]; rfl
 rw [hsp]
 have hbA : Below w.heap.size w ((w.alloc (Obj.cells #[.int .i64 e.k, .int .i64 e.a, .int .i64 e.n, .string e.nm, .slice e.args.ad e.args.len e.args.cap] 52)).alloc (Obj.cells #[.int .i64 f.k, .int .i64 f.a, .int .i64 f.n, .string f.nm, .slice f.args.ad f.args.len f.args.cap] 52)) := ((Below.refl _ _).alloc (Nat.le_refl _) _).alloc (by simp) _
 have HB := hide hbA
 have HL := hide (ihL e.args f.args x.2 y.2 _ (hs.laterE hbA (Nat.le_refl _)) (ht.laterE hbA (Nat.le_refl _)))
 generalize Tk.sameL (Tk.sameE n m) x.2 y.2 = z at *
 clear hsp hs ht f1 f2 f3 f4 f5 g1 g2 g3 g4 g5 hbA ihL
 unfold Tk.E.val
 cases h1 : (e.k == f.k)
 · go_enter Tryz.func37, Tryz.ntmps37
   go_wp2_with fail
   go_ret
   exact ⟨rfl, unhide HB⟩
 · cases h2 : (e.n == f.n)
   · go_enter Tryz.func37, Tryz.ntmps37
     go_wp2_with fail
     go_ret
     exact ⟨rfl, unhide HB⟩
   · cases h3 : (e.nm.toList == f.nm.toList)
     · go_enter Tryz.func37, Tryz.ntmps37
       go_wp2_with fail
       go_ret
       exact ⟨rfl, unhide HB⟩
     · go_enter Tryz.func37, Tryz.ntmps37
       go_wp2_with fail
       refine (unhide HL).mono ?_
       rintro r w1 ⟨rfl, hb1⟩
       have HB1 := hide ((unhide HB).trans (hb1.mono (unhide HB).size))
       clear hb1 h1 h2 h3
       go_wp2_with fail
       go_ret
       exact ⟨rfl, unhide HB1⟩
theorem sameTreeExpr_any : ∀ (n m : Nat) (e f : Tk.E) (x : Tk.ET n) (y : Tk.ET m) (w : World), Tk.RE w n e x → Tk.RE w m f y → Calls Tryz.prog 37 #[e.val, f.val, .bool false] w fun r w' => r = .returned (.bool (Tk.sameE n m x y)) ∧ Below w.heap.size w w'
 | 0, _, _, _, _, _, _, h, _ => absurd h id
 | _ + 1, 0, _, _, _, _, _, _, h => absurd h id
 | n + 1, m + 1, e, f, x, y, w, h, h2 => sameTreeExpr_step n m (fun s t l k w hs ht => sameTreeExprs_of n m (sameTreeExpr_any n m) s t l k w hs ht) e f x y w h h2
theorem sameTreeExprs_any (n m : Nat) (s t : Tk.Sl) (l : List (Tk.ET n)) (k : List (Tk.ET m)) (w : World) (hs : Tk.RS w 5 (Tk.ELies w) (Tk.RE w n) s l) (ht : Tk.RS w 5 (Tk.ELies w) (Tk.RE w m) t k) :
  Calls Tryz.prog 71 #[.slice s.ad s.len s.cap, .slice t.ad t.len t.cap, .bool false] w fun r w' => r = .returned (.bool (Tk.sameL (Tk.sameE n m) l k)) ∧ Below w.heap.size w w' :=
 sameTreeExprs_of n m (sameTreeExpr_any n m) s t l k w hs ht
end Go.Proofs.YtfccpddehpgfoaaGreatDoor
namespace Go.Proofs.YtfccpddehpgfoaaGreatDoor
open Go.RowKit
set_option linter.unusedVariables false
section
variable {P : Program} {ty : TypeId} {cs z : Array Value} {d : TypeDesc} {size : Nat} {o : Oper} {a : Act} {W : World} {K : Act → World → Prop} {Q : Exit → Act → World → Prop} {y : Array Bool}
theorem Tp.runLoad {t b off : Nat} (ho : o.op = .load ty (.tmp t)) (ht : a.tmps.getD t undef = .pointer (some ⟨b, off, none⟩)) (hc : ∀ j v, cs[j]? = some v → W.cell? ⟨b, off + j, none⟩ = some v) (hu : P.underlying ty = some d) (hd : (match d with | .struct _ | .array _ _ => true | _ => false) = true) (hi : (P.info? ty).map (·.size) = some cs.size) :
  (execOp a.eval o).run P W = .ok (.value (.agg cs)) W := by
 unfold execOp
 have e1 : a.eval (.tmp t) = .pointer (some ⟨b, off, none⟩) := ht
 simp only [ho, e1, Instr.loadAt, Instr.sureAddr, Sem.run_bind, Sem.run_pure, Result.andThen_ok, Tp.loadO hc hu hd hi]
theorem Tp.onAlloc {w : Bool} (hw : w = true) (ho : o.op = .alloc ty) (hz : (P.info? ty).map (fun i => (i.zero, i.size)) = some (some (.agg z), size)) (h : K (a.put o.dst (.pointer (some ⟨W.heap.size, 0, none⟩))) (W.alloc (.cells z ty))) :
  if w = true then Oper.wp P o a W K Q else K (a.put o.dst undef) W := by
 rw [if_pos hw]
 unfold Oper.wp execOp
 simp only [ho, Instr.alloc, Sem.run_bind, (zero_of_info hz).1, Result.andThen_ok, newVar, Value.cells]
 exact h
theorem Tp.onStore {w : Bool} {p v b : Nat} {old : Array Value} {t : TypeId} (hw : w = true) (ho : o.op = .store ty (.tmp p) (.tmp v)) (hp : a.tmps.getD p undef = .pointer (some ⟨b, 0, none⟩)) (hv : a.tmps.getD v undef = .agg cs) (hg : W.heap[b]? = some (.cells old t (0, 0))) (hi : (P.info? ty).map (·.size) = some cs.size) (hs : old.size = cs.size) (h1 : ∀ v ∈ cs.toList, v.oneCell' = true)
  (h : K (a.put o.dst undef) (W.setRow b cs)) : if w = true then Oper.wp P o a W K Q else K (a.put o.dst undef) W := by
 rw [if_pos hw]
 exact wp_store_row ty (.tmp p) (.tmp v) ho b cs hp hv t old hg hi hs (Array.all_eq_true_iff_forall_mem.2 (fun v hv => h1 v (by simpa using hv))) h
theorem Tp.setRow_size (W : World) (b : Nat) (cs : Array Value) : (W.setRow b cs).heap.size = W.heap.size := by simp [World.setRow]
theorem Tp.setRow_below {W0 : World} {n b : Nat} (h : Below n W0 W) (hb : n ≤ b) (cs : Array Value) : Below n W0 (W.setRow b cs) :=
 ⟨h.os, h.tape, h.output, by rw [Tp.setRow_size]; exact h.size, fun q hq => (setRow_other W b q cs (by omega)).trans (h.block q hq)⟩
theorem Tk.BV.row {b : Nat} {t : TypeId} (h : W.heap[b]? = some (.cells cs t (0, 0))) : Tk.BV W b cs := fun j v hj => (cell_of_row W b j cs t (0, 0) h).trans hj
end
end Go.Proofs.YtfccpddehpgfoaaGreatDoor
namespace Go.Proofs.YtfccpddehpgfoaaGreatDoor
open Go.RowKit
set_option linter.unusedVariables false
theorem Tryz.sizTC : (Tryz.prog.info? 56).map (·.size) = some 17 := by kernel_rfl
def Tk.sameC {m m' : Nat} : (n n' : Nat) → Tk.CT m n → Tk.CT m' n' → Bool
 | n + 1, n' + 1, x, y => (x.1.1 == y.1.1) && (x.1.2.2.1.toList == y.1.2.2.1.toList) && (x.1.2.2.2.toList == y.1.2.2.2.toList) && Tk.sameE m m' x.2.1.1 y.2.1.1 && Tk.sameE m m' x.2.1.2.1 y.2.1.2.1 && Tk.sameL (Tk.sameE m m') x.2.1.2.2 y.2.1.2.2 && Tk.sameL (Tk.sameC n n') x.2.2.1 y.2.2.1 && Tk.sameL (Tk.sameC n n') x.2.2.2 y.2.2.2
 | 0, _, _, _ => false
 | _ + 1, 0, _, _ => false
theorem sameTreeCmds_step {m m' : Nat} (n n' : Nat) (ih : ∀ (s t : Tk.Sl) (l : List (Tk.CT m n)) (k : List (Tk.CT m' n')) (w : World), Tk.RS w 17 (Tk.LC w) (Tk.RC w m n) s l → Tk.RS w 17 (Tk.LC w) (Tk.RC w m' n') t k → Calls Tryz.prog 36 #[.slice s.ad s.len s.cap, .slice t.ad t.len t.cap, .bool false] w fun r w' => r = .returned (.bool (Tk.sameL (Tk.sameC n n') l k)) ∧ Below w.heap.size w w')
  (s t : Tk.Sl) (l : List (Tk.CT m (n + 1))) (k : List (Tk.CT m' (n' + 1))) (w : World) (hs : Tk.RS w 17 (Tk.LC w) (Tk.RC w m (n + 1)) s l) (ht : Tk.RS w 17 (Tk.LC w) (Tk.RC w m' (n' + 1)) t k) (hne : s.len = t.len) :
  Calls Tryz.prog 36 #[.slice s.ad s.len s.cap, .slice t.ad t.len t.cap, .bool false] w fun r w' => r = .returned (.bool (Tk.sameL (Tk.sameC (n + 1) (n' + 1)) l k)) ∧ Below w.heap.size w w' := by
 have hlen := hs.len
 have hfew := hs.few
 rw [← hlen] at hfew
 have hlen2 := ht.len
 have HS := hide hs
 have HT := hide ht
 have HLN := hide hlen
 have HLN2 := hide hlen2
 have IH := hide ih
 clear hs ht hlen hlen2 ih
 have g0 : ((s.len : Int) != (t.len : Int)) = false := by rw [hne]; simp
 have HNE := hide hne
 clear hne
 go_enter Tryz.func36, Tryz.ntmps36
 (try simp only [List.append_eq, List.cons_append, List.nil_append])
 go_wp2_with fail
 go_loopw [7] (fun iv wr => ∃ i : Nat, i ≤ s.len ∧ iv = .int .i64 i ∧ (∀ j x y, j < i → l[j]? = some x → k[j]? = some y → Tk.sameC (n + 1) (n' + 1) x y = true) ∧ Below w.heap.size w wr) (fun iv _ => s.len - (intOf iv).toNat)
 case atStart => exact ⟨0, Nat.zero_le _, rfl, fun j x y h => by omega, Below.refl _ _⟩
 case round =>
  obtain ⟨i, hi, rfl, hall, hbe⟩ := hrel
  have hz := hbe.size
  have HAL := hide hall
  have HBE := hide hbe
  clear hall hbe
  by_cases hlt : i < s.len
  · have hlt1 : i < l.length := by have := unhide HLN; omega
    have hlt2 : i < k.length := by have := unhide HLN2; have := unhide HNE; omega
    have hy := List.getElem?_eq_getElem hlt1
    have hy2 := List.getElem?_eq_getElem hlt2
    obtain ⟨b, o, q, had, hb, hlies, hrd⟩ := (unhide HS).at_ i _ hy
    obtain ⟨b2, o2, q2, had2, hb2, hlies2, hrd2⟩ := (unhide HT).at_ i _ hy2
    generalize l[i] = x at *
    generalize k[i] = y at *
    have HSS := hide (show (fun V => (∀ j v, q.cells[j]? = some v → V.cell? ⟨b, o + i * 17 + j, none⟩ = some v) ∧ (∀ j v, q2.cells[j]? = some v → V.cell? ⟨b2, o2 + i * 17 + j, none⟩ = some v)) wr.drew from ⟨((hlies.later (unhide HBE) (Nat.le_refl _) hb).later (Below.refl _ _).drew (Nat.le_refl _) (by omega)).cells, ((hlies2.later (unhide HBE) (Nat.le_refl _) hb2).later (Below.refl _ _).drew (Nat.le_refl _) (by omega)).cells⟩)
    have HRD := hide (fun (V : World) (hb : Below w.heap.size w V) => hrd.later hb (Nat.le_refl _))
    have HRD2 := hide (fun (V : World) (hb : Below w.heap.size w V) => hrd2.later hb (Nat.le_refl _))
    have HY := hide (And.intro hy hy2)
    clear hlies hrd hlies2 hrd2 hy hy2
    have hi0 : (0 : Int) ≤ (i : Int) := by omega
    have hi1 : (i : Int) < (s.len : Int) := by omega
    have hlt3 : i < t.len := by have := unhide HNE; omega
    have hi2 : (i : Int) < (t.len : Int) := by omega
    rw [had, had2]
    go_upto_region 6 with fail
    go_cut [8, 9] from 15 to 102 (fun v8 v9 W => ∃ b1 b3, v8 = .pointer (some ⟨b1, 0, none⟩) ∧ v9 = .pointer (some ⟨b3, 0, none⟩) ∧ Tk.BV W b1 q.cells ∧ Tk.BV W b3 q2.cells ∧ b1 < W.heap.size ∧ b3 < W.heap.size ∧ Below w.heap.size w W)
    case first =>
     refine Rq.begin (fun j => Nat.beq j 11) (fun V => (∀ j v, q.cells[j]? = some v → V.cell? ⟨b, o + i * 17 + j, none⟩ = some v) ∧ (∀ j v, q2.cells[j]? = some v → V.cell? ⟨b2, o2 + i * 17 + j, none⟩ = some v)) (by kernel_rfl) (unhide HSS) (fun hHeld hcl => ?_)
     have HBD := hide (((unhide HBE)).trans ((Below.refl wr.heap.size wr).drew.mono hz))
     generalize wr.drew = wd at *
     refine Rq.tk 0 (.slice (some ⟨b, o, none⟩) s.len s.cap) Rq.z (by kernel_rfl) (by kernel_rfl) (by kernel_rfl) (by kernel_rfl) (fun _ _ _ h => h) (by assumption) (by assumption) (by rfl) (fun w hSw => by go_simp) (fun hcl => ?_)
     (try simp only [Act.put, List.setIfInBounds_toArray, List.set_cons_zero, List.set_cons_succ])
     refine Rq.tk 1 (.int .i64 i) (Rq.s Rq.z) (by kernel_rfl) (by kernel_rfl) (by kernel_rfl) (by kernel_rfl) (fun _ _ _ h => h) (by assumption) (by assumption) (by rfl) (fun w hSw => by go_simp) (fun hcl => ?_)
     (try simp only [Act.put, List.setIfInBounds_toArray, List.set_cons_zero, List.set_cons_succ])
     refine Rq.tk 2 (.pointer (some ⟨b, o + i * 17, none⟩)) (Rq.s (Rq.s Rq.z)) (by kernel_rfl) (by kernel_rfl) (by kernel_rfl) (by kernel_rfl) (fun _ _ _ h => h) (by assumption) (by assumption) (by rfl) (fun w hSw => by go_simp) (fun hcl => ?_)
     (try simp only [Act.put, List.setIfInBounds_toArray, List.set_cons_zero, List.set_cons_succ])
     refine Rq.tk 3 (.agg q.cells) (Rq.s (Rq.s (Rq.s Rq.z))) (by kernel_rfl) (by kernel_rfl) (by kernel_rfl) (by kernel_rfl) (fun _ _ _ h => h) (by assumption) (by assumption) (by rfl) (fun w hSw => by exact Tp.runLoad (cs := q.cells) rfl rfl hSw.1 Tryz.underlying56 rfl Tryz.sizTC) (fun hcl => ?_)
     (try simp only [Act.put, List.setIfInBounds_toArray, List.set_cons_zero, List.set_cons_succ])
     refine Rq.tk 4 (.slice (some ⟨b2, o2, none⟩) t.len t.cap) (Rq.s (Rq.s (Rq.s (Rq.s Rq.z)))) (by kernel_rfl) (by kernel_rfl) (by kernel_rfl) (by kernel_rfl) (fun _ _ _ h => h) (by assumption) (by assumption) (by rfl) (fun w hSw => by go_simp) (fun hcl => ?_)
     (try simp only [Act.put, List.setIfInBounds_toArray, List.set_cons_zero, List.set_cons_succ])
     refine Rq.tk 5 (.int .i64 i) (Rq.s (Rq.s (Rq.s (Rq.s (Rq.s Rq.z))))) (by kernel_rfl) (by kernel_rfl) (by kernel_rfl) (by kernel_rfl) (fun _ _ _ h => h) (by assumption) (by assumption) (by rfl) (fun w hSw => by go_simp) (fun hcl => ?_)
     (try simp only [Act.put, List.setIfInBounds_toArray, List.set_cons_zero, List.set_cons_succ])
     refine Rq.tk 6 (.pointer (some ⟨b2, o2 + i * 17, none⟩)) (Rq.s (Rq.s (Rq.s (Rq.s (Rq.s (Rq.s Rq.z)))))) (by kernel_rfl) (by kernel_rfl) (by kernel_rfl) (by kernel_rfl) (fun _ _ _ h => h) (by assumption) (by assumption) (by rfl) (fun w hSw => by go_simp) (fun hcl => ?_)
     (try simp only [Act.put, List.setIfInBounds_toArray, List.set_cons_zero, List.set_cons_succ])
     refine Rq.tk 7 (.agg q2.cells) (Rq.s (Rq.s (Rq.s (Rq.s (Rq.s (Rq.s (Rq.s Rq.z))))))) (by kernel_rfl) (by kernel_rfl) (by kernel_rfl) (by kernel_rfl) (fun _ _ _ h => h) (by assumption) (by assumption) (by rfl) (fun w hSw => by exact Tp.runLoad (cs := q2.cells) rfl rfl hSw.2 Tryz.underlying56 rfl Tryz.sizTC) (fun hcl => ?_)
     (try simp only [Act.put, List.setIfInBounds_toArray, List.set_cons_zero, List.set_cons_succ])
     refine Rq.two 8 9 (Rq.s (Rq.s (Rq.s (Rq.s (Rq.s (Rq.s (Rq.s (Rq.s Rq.z)))))))).is (Rq.s (Rq.s (Rq.s (Rq.s (Rq.s (Rq.s (Rq.s (Rq.s (Rq.s Rq.z))))))))).is (by kernel_rfl) (by assumption) (fun K hK => ?_) (fun K hK => ?_)
     · have hwz := (unhide HBD).size
       have hb1 : Below wd.heap.size wd (wd.alloc (Obj.cells Tk.C.zero.cells 56)) := (Below.refl _ _).alloc (Nat.le_refl _) _
       have hb2' : Below wd.heap.size wd ((wd.alloc (Obj.cells Tk.C.zero.cells 56)).alloc (Obj.cells Tk.C.zero.cells 56)) := hb1.alloc (by simp) _
       have hs1 : (wd.alloc (Obj.cells Tk.C.zero.cells 56)).heap.size = wd.heap.size + 1 := by simp
       have hs2 : ((wd.alloc (Obj.cells Tk.C.zero.cells 56)).alloc (Obj.cells Tk.C.zero.cells 56)).heap.size = wd.heap.size + 2 := by simp
       have hg1 : ((wd.alloc (Obj.cells Tk.C.zero.cells 56)).alloc (Obj.cells Tk.C.zero.cells 56)).heap[wd.heap.size]? = some (.cells Tk.C.zero.cells 56 (0, 0)) := heap_alloc2_old _ _ _
       have hg2 : ((wd.alloc (Obj.cells Tk.C.zero.cells 56)).alloc (Obj.cells Tk.C.zero.cells 56)).heap[wd.heap.size + 1]? = some (.cells Tk.C.zero.cells 56 (0, 0)) := heap_alloc2_new _ _ _
       refine Tp.onAlloc (by rfl) rfl Tryz.zeroTC ?_
       refine hK _ _ (fun _ => ⟨fun j v hj => (hb1.cell (p := ⟨b, o + i * 17 + j, none⟩) (by show b < _; omega)).trans (hHeld.1 j v hj), fun j v hj => (hb1.cell (p := ⟨b2, o2 + i * 17 + j, none⟩) (by show b2 < _; omega)).trans (hHeld.2 j v hj)⟩) (fun hcl => ?_)
       (try simp only [Act.put, List.setIfInBounds_toArray, List.set_cons_zero, List.set_cons_succ])
       clear hK K
       refine Rq.on 9 (Rq.s (Rq.s (Rq.s (Rq.s (Rq.s (Rq.s (Rq.s (Rq.s (Rq.s Rq.z))))))))) (by kernel_rfl) (by assumption) (fun K hK => ?_)
       refine Tp.onAlloc (by rfl) rfl Tryz.zeroTC ?_
       rw [hs1]
       refine hK _ _ (fun _ => ⟨fun j v hj => (hb2'.cell (p := ⟨b, o + i * 17 + j, none⟩) (by show b < _; omega)).trans (hHeld.1 j v hj), fun j v hj => (hb2'.cell (p := ⟨b2, o2 + i * 17 + j, none⟩) (by show b2 < _; omega)).trans (hHeld.2 j v hj)⟩) (fun hcl => ?_)
       (try simp only [Act.put, List.setIfInBounds_toArray, List.set_cons_zero, List.set_cons_succ])
       clear hK K
       have HB2 := hide hb2'
       have hS2 : (fun V => (∀ j v, q.cells[j]? = some v → V.cell? ⟨b, o + i * 17 + j, none⟩ = some v) ∧ (∀ j v, q2.cells[j]? = some v → V.cell? ⟨b2, o2 + i * 17 + j, none⟩ = some v)) ((wd.alloc (Obj.cells Tk.C.zero.cells 56)).alloc (Obj.cells Tk.C.zero.cells 56)) := ⟨fun j v hj => (hb2'.cell (p := ⟨b, o + i * 17 + j, none⟩) (by show b < _; omega)).trans (hHeld.1 j v hj), fun j v hj => (hb2'.cell (p := ⟨b2, o2 + i * 17 + j, none⟩) (by show b2 < _; omega)).trans (hHeld.2 j v hj)⟩
       generalize ((wd.alloc (Obj.cells Tk.C.zero.cells 56)).alloc (Obj.cells Tk.C.zero.cells 56)) = wa at *
       refine Rq.on 10 (Rq.s (Rq.s (Rq.s (Rq.s (Rq.s (Rq.s (Rq.s (Rq.s (Rq.s (Rq.s Rq.z)))))))))) (by kernel_rfl) (by assumption) (fun K hK => ?_)
       refine Tp.onStore (cs := q.cells) (by rfl) rfl rfl rfl hg1 Tryz.sizTC rfl (Tk.C.one q) ?_
       have hb3 := Tp.setRow_below (b := wd.heap.size) (unhide HB2) (by omega) q.cells
       have hs3 := Tp.setRow_size wa wd.heap.size q.cells
       have hr1 : (wa.setRow wd.heap.size q.cells).heap[wd.heap.size]? = some (.cells q.cells 56 (0, 0)) := setRow_heap _ _ _ _ _ _ hg1
       have hr2 : (wa.setRow wd.heap.size q.cells).heap[(wd.heap.size + 1)]? = some (.cells Tk.C.zero.cells 56 (0, 0)) := (setRow_other _ _ _ _ (by omega)).trans hg2
       refine hK _ _ (fun _ => ⟨fun j v hj => (hb3.cell (p := ⟨b, o + i * 17 + j, none⟩) (by show b < _; omega)).trans (hHeld.1 j v hj), fun j v hj => (hb3.cell (p := ⟨b2, o2 + i * 17 + j, none⟩) (by show b2 < _; omega)).trans (hHeld.2 j v hj)⟩) (fun hcl => ?_)
       (try simp only [Act.put])
       clear hK K
       generalize (wa.setRow wd.heap.size q.cells) = wb at *
       refine Rq.on 11 (Rq.s (Rq.s (Rq.s (Rq.s (Rq.s (Rq.s (Rq.s (Rq.s (Rq.s (Rq.s (Rq.s Rq.z))))))))))) (by kernel_rfl) (by assumption) (fun K hK => ?_)
       refine Tp.onStore (cs := q2.cells) (by rfl) rfl rfl rfl hr2 Tryz.sizTC rfl (Tk.C.one q2) ?_
       have hb4 := Tp.setRow_below (b := (wd.heap.size + 1)) hb3 (by omega) q2.cells
       have hs4 := Tp.setRow_size wb (wd.heap.size + 1) q2.cells
       have ht2 : (wb.setRow (wd.heap.size + 1) q2.cells).heap[(wd.heap.size + 1)]? = some (.cells q2.cells 56 (0, 0)) := setRow_heap _ _ _ _ _ _ hr2
       have ht1 : (wb.setRow (wd.heap.size + 1) q2.cells).heap[wd.heap.size]? = some (.cells q.cells 56 (0, 0)) := (setRow_other _ _ _ _ (by omega)).trans hr1
       refine hK _ _ (fun e => absurd e (by decide)) (fun hcl => ?_)
       (try simp only [Act.put])
       refine Rq.done (by kernel_rfl) ?_ _
       clear hK K hcl
       generalize (wb.setRow (wd.heap.size + 1) q2.cells) = wc at *
       have HREL := hide (show ∃ b1 b3, Value.pointer (some ⟨wd.heap.size, 0, none⟩) = .pointer (some ⟨b1, 0, none⟩) ∧ Value.pointer (some ⟨(wd.heap.size + 1), 0, none⟩) = .pointer (some ⟨b3, 0, none⟩) ∧ Tk.BV wc b1 q.cells ∧ Tk.BV wc b3 q2.cells ∧ b1 < wc.heap.size ∧ b3 < wc.heap.size ∧ Below w.heap.size w wc from
        ⟨wd.heap.size, (wd.heap.size + 1), rfl, rfl, Tk.BV.row ht1, Tk.BV.row ht2, by omega, by omega, (unhide HBD).trans (hb4.mono hwz)⟩)
       clear hb4 hs4 ht1 ht2 hb3 hs3 hr1 hr2 hg1 hg2 hS2 hHeld hs1 hs2 hb1 hb2'
       go_wp2_with fail
       go_meet
       case rel => exact unhide HREL
     · have hwz := (unhide HBD).size
       have hb1 : Below wd.heap.size wd (wd.alloc (Obj.cells Tk.C.zero.cells 56)) := (Below.refl _ _).alloc (Nat.le_refl _) _
       have hb2' : Below wd.heap.size wd ((wd.alloc (Obj.cells Tk.C.zero.cells 56)).alloc (Obj.cells Tk.C.zero.cells 56)) := hb1.alloc (by simp) _
       have hs1 : (wd.alloc (Obj.cells Tk.C.zero.cells 56)).heap.size = wd.heap.size + 1 := by simp
       have hs2 : ((wd.alloc (Obj.cells Tk.C.zero.cells 56)).alloc (Obj.cells Tk.C.zero.cells 56)).heap.size = wd.heap.size + 2 := by simp
       have hg1 : ((wd.alloc (Obj.cells Tk.C.zero.cells 56)).alloc (Obj.cells Tk.C.zero.cells 56)).heap[wd.heap.size]? = some (.cells Tk.C.zero.cells 56 (0, 0)) := heap_alloc2_old _ _ _
       have hg2 : ((wd.alloc (Obj.cells Tk.C.zero.cells 56)).alloc (Obj.cells Tk.C.zero.cells 56)).heap[wd.heap.size + 1]? = some (.cells Tk.C.zero.cells 56 (0, 0)) := heap_alloc2_new _ _ _
       refine Tp.onAlloc (by rfl) rfl Tryz.zeroTC ?_
       refine hK _ _ (fun _ => ⟨fun j v hj => (hb1.cell (p := ⟨b, o + i * 17 + j, none⟩) (by show b < _; omega)).trans (hHeld.1 j v hj), fun j v hj => (hb1.cell (p := ⟨b2, o2 + i * 17 + j, none⟩) (by show b2 < _; omega)).trans (hHeld.2 j v hj)⟩) (fun hcl => ?_)
       (try simp only [Act.put, List.setIfInBounds_toArray, List.set_cons_zero, List.set_cons_succ])
       clear hK K
       refine Rq.on 8 (Rq.s (Rq.s (Rq.s (Rq.s (Rq.s (Rq.s (Rq.s (Rq.s Rq.z)))))))) (by kernel_rfl) (by assumption) (fun K hK => ?_)
       refine Tp.onAlloc (by rfl) rfl Tryz.zeroTC ?_
       rw [hs1]
       refine hK _ _ (fun _ => ⟨fun j v hj => (hb2'.cell (p := ⟨b, o + i * 17 + j, none⟩) (by show b < _; omega)).trans (hHeld.1 j v hj), fun j v hj => (hb2'.cell (p := ⟨b2, o2 + i * 17 + j, none⟩) (by show b2 < _; omega)).trans (hHeld.2 j v hj)⟩) (fun hcl => ?_)
       (try simp only [Act.put, List.setIfInBounds_toArray, List.set_cons_zero, List.set_cons_succ])
       clear hK K
       have HB2 := hide hb2'
       have hS2 : (fun V => (∀ j v, q.cells[j]? = some v → V.cell? ⟨b, o + i * 17 + j, none⟩ = some v) ∧ (∀ j v, q2.cells[j]? = some v → V.cell? ⟨b2, o2 + i * 17 + j, none⟩ = some v)) ((wd.alloc (Obj.cells Tk.C.zero.cells 56)).alloc (Obj.cells Tk.C.zero.cells 56)) := ⟨fun j v hj => (hb2'.cell (p := ⟨b, o + i * 17 + j, none⟩) (by show b < _; omega)).trans (hHeld.1 j v hj), fun j v hj => (hb2'.cell (p := ⟨b2, o2 + i * 17 + j, none⟩) (by show b2 < _; omega)).trans (hHeld.2 j v hj)⟩
       generalize ((wd.alloc (Obj.cells Tk.C.zero.cells 56)).alloc (Obj.cells Tk.C.zero.cells 56)) = wa at *
       refine Rq.on 10 (Rq.s (Rq.s (Rq.s (Rq.s (Rq.s (Rq.s (Rq.s (Rq.s (Rq.s (Rq.s Rq.z)))))))))) (by kernel_rfl) (by assumption) (fun K hK => ?_)
       refine Tp.onStore (cs := q.cells) (by rfl) rfl rfl rfl hg2 Tryz.sizTC rfl (Tk.C.one q) ?_
       have hb3 := Tp.setRow_below (b := (wd.heap.size + 1)) (unhide HB2) (by omega) q.cells
       have hs3 := Tp.setRow_size wa (wd.heap.size + 1) q.cells
       have hr1 : (wa.setRow (wd.heap.size + 1) q.cells).heap[(wd.heap.size + 1)]? = some (.cells q.cells 56 (0, 0)) := setRow_heap _ _ _ _ _ _ hg2
       have hr2 : (wa.setRow (wd.heap.size + 1) q.cells).heap[wd.heap.size]? = some (.cells Tk.C.zero.cells 56 (0, 0)) := (setRow_other _ _ _ _ (by omega)).trans hg1
       refine hK _ _ (fun _ => ⟨fun j v hj => (hb3.cell (p := ⟨b, o + i * 17 + j, none⟩) (by show b < _; omega)).trans (hHeld.1 j v hj), fun j v hj => (hb3.cell (p := ⟨b2, o2 + i * 17 + j, none⟩) (by show b2 < _; omega)).trans (hHeld.2 j v hj)⟩) (fun hcl => ?_)
       (try simp only [Act.put])
       clear hK K
       generalize (wa.setRow (wd.heap.size + 1) q.cells) = wb at *
       refine Rq.on 11 (Rq.s (Rq.s (Rq.s (Rq.s (Rq.s (Rq.s (Rq.s (Rq.s (Rq.s (Rq.s (Rq.s Rq.z))))))))))) (by kernel_rfl) (by assumption) (fun K hK => ?_)
       refine Tp.onStore (cs := q2.cells) (by rfl) rfl rfl rfl hr2 Tryz.sizTC rfl (Tk.C.one q2) ?_
       have hb4 := Tp.setRow_below (b := wd.heap.size) hb3 (by omega) q2.cells
       have hs4 := Tp.setRow_size wb wd.heap.size q2.cells
       have ht2 : (wb.setRow wd.heap.size q2.cells).heap[wd.heap.size]? = some (.cells q2.cells 56 (0, 0)) := setRow_heap _ _ _ _ _ _ hr2
       have ht1 : (wb.setRow wd.heap.size q2.cells).heap[(wd.heap.size + 1)]? = some (.cells q.cells 56 (0, 0)) := (setRow_other _ _ _ _ (by omega)).trans hr1
       refine hK _ _ (fun e => absurd e (by decide)) (fun hcl => ?_)
       (try simp only [Act.put])
       refine Rq.done (by kernel_rfl) ?_ _
       clear hK K hcl
       generalize (wb.setRow wd.heap.size q2.cells) = wc at *
       have HREL := hide (show ∃ b1 b3, Value.pointer (some ⟨(wd.heap.size + 1), 0, none⟩) = .pointer (some ⟨b1, 0, none⟩) ∧ Value.pointer (some ⟨wd.heap.size, 0, none⟩) = .pointer (some ⟨b3, 0, none⟩) ∧ Tk.BV wc b1 q.cells ∧ Tk.BV wc b3 q2.cells ∧ b1 < wc.heap.size ∧ b3 < wc.heap.size ∧ Below w.heap.size w wc from
        ⟨(wd.heap.size + 1), wd.heap.size, rfl, rfl, Tk.BV.row ht1, Tk.BV.row ht2, by omega, by omega, (unhide HBD).trans (hb4.mono hwz)⟩)
       clear hb4 hs4 ht1 ht2 hb3 hs3 hr1 hr2 hg1 hg2 hS2 hHeld hs1 hs2 hb1 hb2'
       go_wp2_with fail
       go_meet
       case rel => exact unhide HREL
    case rest =>
     obtain ⟨b1, b3, rfl, rfl, hv1, hv2, hl1, hl2, hbc⟩ := hcut
     have hw := (unhide HRD) w (Below.refl _ _)
     have hw2 := (unhide HRD2) w (Below.refl _ _)
     have hZ : Tk.sameC (n + 1) (n' + 1) x y = ((q.k == q2.k) && (q.nm.toList == q2.nm.toList) && (q.ot.toList == q2.ot.toList) && Tk.sameE m m' x.2.1.1 y.2.1.1 && Tk.sameE m m' x.2.1.2.1 y.2.1.2.1 && Tk.sameL (Tk.sameE m m') x.2.1.2.2 y.2.1.2.2 && Tk.sameL (Tk.sameC n n') x.2.2.1 y.2.2.1 && Tk.sameL (Tk.sameC n n') x.2.2.2 y.2.2.2) := by
      rw [hw.1.1.1, hw.1.1.2.2.1, hw.1.1.2.2.2, hw2.1.1.1, hw2.1.1.2.2.1, hw2.1.1.2.2.2]
      rfl
     have HC1 := hide (fun (V : World) (hb : Below w.heap.size w V) => show Calls Tryz.prog 37 #[.agg #[.int .i64 q.ix.k, .int .i64 q.ix.a, .int .i64 q.ix.n, .string q.ix.nm, .slice q.ix.args.ad q.ix.args.len q.ix.args.cap], .agg #[.int .i64 q2.ix.k, .int .i64 q2.ix.a, .int .i64 q2.ix.n, .string q2.ix.nm, .slice q2.ix.args.ad q2.ix.args.len q2.ix.args.cap], .bool false] V fun r w' => r = .returned (.bool (Tk.sameE m m' x.2.1.1 y.2.1.1)) ∧ Below V.heap.size V w' from sameTreeExpr_any m m' q.ix q2.ix x.2.1.1 y.2.1.1 V ((unhide HRD) V hb).2.1.1 ((unhide HRD2) V hb).2.1.1)
     have HC2 := hide (fun (V : World) (hb : Below w.heap.size w V) => show Calls Tryz.prog 37 #[.agg #[.int .i64 q.ex.k, .int .i64 q.ex.a, .int .i64 q.ex.n, .string q.ex.nm, .slice q.ex.args.ad q.ex.args.len q.ex.args.cap], .agg #[.int .i64 q2.ex.k, .int .i64 q2.ex.a, .int .i64 q2.ex.n, .string q2.ex.nm, .slice q2.ex.args.ad q2.ex.args.len q2.ex.args.cap], .bool false] V fun r w' => r = .returned (.bool (Tk.sameE m m' x.2.1.2.1 y.2.1.2.1)) ∧ Below V.heap.size V w' from sameTreeExpr_any m m' q.ex q2.ex x.2.1.2.1 y.2.1.2.1 V ((unhide HRD) V hb).2.1.2.1 ((unhide HRD2) V hb).2.1.2.1)
     have HC3 := hide (fun (V : World) (hb : Below w.heap.size w V) => sameTreeExprs_any m m' q.args q2.args x.2.1.2.2 y.2.1.2.2 V ((unhide HRD) V hb).2.1.2.2 ((unhide HRD2) V hb).2.1.2.2)
     have HC4 := hide (fun (V : World) (hb : Below w.heap.size w V) => (unhide IH) q.th q2.th x.2.2.1 y.2.2.1 V ((unhide HRD) V hb).2.2.1 ((unhide HRD2) V hb).2.2.1)
     have HC5 := hide (fun (V : World) (hb : Below w.heap.size w V) => (unhide IH) q.el q2.el x.2.2.2 y.2.2.2 V ((unhide HRD) V hb).2.2.2 ((unhide HRD2) V hb).2.2.2)
     generalize Tk.sameE m m' x.2.1.1 y.2.1.1 = c1 at *
     generalize Tk.sameE m m' x.2.1.2.1 y.2.1.2.1 = c2 at *
     generalize Tk.sameL (Tk.sameE m m') x.2.1.2.2 y.2.1.2.2 = c3 at *
     generalize Tk.sameL (Tk.sameC n n') x.2.2.1 y.2.2.1 = c4 at *
     generalize Tk.sameL (Tk.sameC n n') x.2.2.2 y.2.2.2 = c5 at *
     have HZ := hide hZ
     have HNO := hide (fun (h : Tk.sameC (n + 1) (n' + 1) x y = false) => show Tk.sameL (Tk.sameC (n + 1) (n' + 1)) l k = false from Tk.sameL_no _ l k i x y (unhide HY).1 (unhide HY).2 h)
     have HV1 := hide hv1
     have HV2 := hide hv2
     have HB := hide hbc
     have d0 := (unhide HV1) 0 (.int .i64 q.k) rfl
     have e0 := (unhide HV2) 0 (.int .i64 q2.k) rfl
     have d2 := (unhide HV1) 2 (.string q.nm) rfl
     have e2 := (unhide HV2) 2 (.string q2.nm) rfl
     have d3 := (unhide HV1) 3 (.string q.ot) rfl
     have e3 := (unhide HV2) 3 (.string q2.ot) rfl
     have d4 := (unhide HV1) 4 (.int .i64 q.ix.k) rfl
     have e4 := (unhide HV2) 4 (.int .i64 q2.ix.k) rfl
     have d5 := (unhide HV1) 5 (.int .i64 q.ix.a) rfl
     have e5 := (unhide HV2) 5 (.int .i64 q2.ix.a) rfl
     have d6 := (unhide HV1) 6 (.int .i64 q.ix.n) rfl
     have e6 := (unhide HV2) 6 (.int .i64 q2.ix.n) rfl
     have d7 := (unhide HV1) 7 (.string q.ix.nm) rfl
     have e7 := (unhide HV2) 7 (.string q2.ix.nm) rfl
     have d8 := (unhide HV1) 8 (.slice q.ix.args.ad q.ix.args.len q.ix.args.cap) rfl
     have e8 := (unhide HV2) 8 (.slice q2.ix.args.ad q2.ix.args.len q2.ix.args.cap) rfl
     have hL1 := hl1
     have hL2 := hl2
     clear hZ hw hw2 hv1 hv2 hbc HSS
     cases h1 : (q.k == q2.k)
     · have g1 : (q.k != q2.k) = true := by rw [bne, h1]; rfl
       have hf : Hid (Tk.sameL (Tk.sameC (n + 1) (n' + 1)) l k = false) := (unhide HNO) (by rw [unhide HZ]; simp [h1])
       go_wp2_with fail
       go_ret
       exact ⟨ret_bool (unhide hf).symm, unhide HB⟩
     · have g1 : (q.k != q2.k) = false := by rw [bne, h1]; rfl
       cases h2 : (q.nm.toList == q2.nm.toList)
       · have g2 : (q.nm.toList != q2.nm.toList) = true := by rw [bne, h2]; rfl
         have hf : Hid (Tk.sameL (Tk.sameC (n + 1) (n' + 1)) l k = false) := (unhide HNO) (by rw [unhide HZ]; simp [h2])
         go_wp2_with fail
         go_ret
         exact ⟨ret_bool (unhide hf).symm, unhide HB⟩
       · have g2 : (q.nm.toList != q2.nm.toList) = false := by rw [bne, h2]; rfl
         cases h3 : (q.ot.toList == q2.ot.toList)
         · have g3 : (q.ot.toList != q2.ot.toList) = true := by rw [bne, h3]; rfl
           have hf : Hid (Tk.sameL (Tk.sameC (n + 1) (n' + 1)) l k = false) := (unhide HNO) (by rw [unhide HZ]; simp [h3])
           go_wp2_with fail
           go_ret
           exact ⟨ret_bool (unhide hf).symm, unhide HB⟩
         · have g3 : (q.ot.toList != q2.ot.toList) = false := by rw [bne, h3]; rfl
           have HZ2 := hide (show Tk.sameC (n + 1) (n' + 1) x y = (c1 && c2 && c3 && c4 && c5) by rw [unhide HZ, h1, h2, h3]; simp)
           have p2 : q.nm.toList = q2.nm.toList := by simpa using h2
           have p3 : q.ot.toList = q2.ot.toList := by simpa using h3
           clear HZ h1 h2 h3
           have HZ := HZ2
           clear HZ2
           go_wp2_with fail
           clear p2 p3
           refine ((unhide HC1) wc (unhide HB)).mono ?_
           rintro r x1 ⟨rfl, hb⟩
           replace HB := hide ((unhide HB).trans (hb.mono (unhide HB).size))
           replace HV1 := hide ((unhide HV1).below hb (by omega))
           replace HV2 := hide ((unhide HV2).below hb (by omega))
           have hsx1 := hb.size
           clear hb HC1 d0 e0 d2 e2 d3 e3 d4 e4 d5 e5 d6 e6 d7 e7 d8 e8
           cases c1
           · have hf : Hid (Tk.sameL (Tk.sameC (n + 1) (n' + 1)) l k = false) := (unhide HNO) (by rw [unhide HZ]; simp)
             go_wp2_with fail
             go_ret
             exact ⟨ret_bool (unhide hf).symm, unhide HB⟩
           · have d9 := (unhide HV1) 9 (.int .i64 q.ex.k) rfl
             have e9 := (unhide HV2) 9 (.int .i64 q2.ex.k) rfl
             have d10 := (unhide HV1) 10 (.int .i64 q.ex.a) rfl
             have e10 := (unhide HV2) 10 (.int .i64 q2.ex.a) rfl
             have d11 := (unhide HV1) 11 (.int .i64 q.ex.n) rfl
             have e11 := (unhide HV2) 11 (.int .i64 q2.ex.n) rfl
             have d12 := (unhide HV1) 12 (.string q.ex.nm) rfl
             have e12 := (unhide HV2) 12 (.string q2.ex.nm) rfl
             have d13 := (unhide HV1) 13 (.slice q.ex.args.ad q.ex.args.len q.ex.args.cap) rfl
             have e13 := (unhide HV2) 13 (.slice q2.ex.args.ad q2.ex.args.len q2.ex.args.cap) rfl
             go_wp2_with fail
             refine ((unhide HC2) x1 (unhide HB)).mono ?_
             rintro r x2 ⟨rfl, hb⟩
             replace HB := hide ((unhide HB).trans (hb.mono (unhide HB).size))
             replace HV1 := hide ((unhide HV1).below hb (by omega))
             replace HV2 := hide ((unhide HV2).below hb (by omega))
             have hsx2 := hb.size
             clear hb HC2 d9 e9 d10 e10 d11 e11 d12 e12 d13 e13
             cases c2
             · have hf : Hid (Tk.sameL (Tk.sameC (n + 1) (n' + 1)) l k = false) := (unhide HNO) (by rw [unhide HZ]; simp)
               go_wp2_with fail
               go_ret
               exact ⟨ret_bool (unhide hf).symm, unhide HB⟩
             · have d14 := (unhide HV1) 14 (.slice q.args.ad q.args.len q.args.cap) rfl
               have e14 := (unhide HV2) 14 (.slice q2.args.ad q2.args.len q2.args.cap) rfl
               go_wp2_with fail
               refine ((unhide HC3) x2 (unhide HB)).mono ?_
               rintro r x3 ⟨rfl, hb⟩
               replace HB := hide ((unhide HB).trans (hb.mono (unhide HB).size))
               replace HV1 := hide ((unhide HV1).below hb (by omega))
               replace HV2 := hide ((unhide HV2).below hb (by omega))
               have hsx3 := hb.size
               clear hb HC3 d14 e14
               cases c3
               · have hf : Hid (Tk.sameL (Tk.sameC (n + 1) (n' + 1)) l k = false) := (unhide HNO) (by rw [unhide HZ]; simp)
                 go_wp2_with fail
                 go_ret
                 exact ⟨ret_bool (unhide hf).symm, unhide HB⟩
               · have d15 := (unhide HV1) 15 (.slice q.th.ad q.th.len q.th.cap) rfl
                 have e15 := (unhide HV2) 15 (.slice q2.th.ad q2.th.len q2.th.cap) rfl
                 go_wp2_with fail
                 refine ((unhide HC4) x3 (unhide HB)).mono ?_
                 rintro r x4 ⟨rfl, hb⟩
                 replace HB := hide ((unhide HB).trans (hb.mono (unhide HB).size))
                 replace HV1 := hide ((unhide HV1).below hb (by omega))
                 replace HV2 := hide ((unhide HV2).below hb (by omega))
                 have hsx4 := hb.size
                 clear hb HC4 d15 e15
                 cases c4
                 · have hf : Hid (Tk.sameL (Tk.sameC (n + 1) (n' + 1)) l k = false) := (unhide HNO) (by rw [unhide HZ]; simp)
                   go_wp2_with fail
                   go_ret
                   exact ⟨ret_bool (unhide hf).symm, unhide HB⟩
                 · have d16 := (unhide HV1) 16 (.slice q.el.ad q.el.len q.el.cap) rfl
                   have e16 := (unhide HV2) 16 (.slice q2.el.ad q2.el.len q2.el.cap) rfl
                   go_wp2_with fail
                   refine ((unhide HC5) x4 (unhide HB)).mono ?_
                   rintro r x5 ⟨rfl, hb⟩
                   replace HB := hide ((unhide HB).trans (hb.mono (unhide HB).size))
                   replace HV1 := hide ((unhide HV1).below hb (by omega))
                   replace HV2 := hide ((unhide HV2).below hb (by omega))
                   have hsx5 := hb.size
                   clear hb HC5 d16 e16
                   cases c5
                   · have hf : Hid (Tk.sameL (Tk.sameC (n + 1) (n' + 1)) l k = false) := (unhide HNO) (by rw [unhide HZ]; simp)
                     go_wp2_with fail
                     go_ret
                     exact ⟨ret_bool (unhide hf).symm, unhide HB⟩
                   · have HX := hide (show Tk.sameC (n + 1) (n' + 1) x y = true by rw [unhide HZ]; rfl)
                     go_wp2_with fail
                     refine ⟨⟨i + 1, by omega, by go_num, ?_, unhide HB⟩, by simp [intOf]; omega⟩
                     intro j u v hj hu hv
                     by_cases e2 : j = i
                     · subst e2
                       have h1 := (unhide HY).1
                       have h2 := (unhide HY).2
                       rw [h1] at hu
                       rw [h2] at hv
                       cases hu
                       cases hv
                       exact unhide HX
                     · exact (unhide HAL) j u v (by omega) hu hv
  · have hf : Hid (Tk.sameL (Tk.sameC (n + 1) (n' + 1)) l k = true) := by
     show _ = _
     have e1 := unhide HLN
     have e2 := unhide HLN2
     have e3 := unhide HNE
     exact Tk.sameL_all _ l k (by omega) (fun j x y h1 h2 => (unhide HAL) j x y (by have := (List.getElem?_eq_some_iff.1 h1).1; omega) h1 h2)
    go_wp2_with fail
    go_ret
    exact ⟨ret_bool (unhide hf).symm, unhide HBE⟩
theorem sameTreeCmds_ne {α β : Type} (f : α → β → Bool) (s t : Tk.Sl) (l : List α) (k : List β) (w : World) (hl : s.len = l.length) (hk : t.len = k.length) (hne : s.len ≠ t.len) :
  Calls Tryz.prog 36 #[.slice s.ad s.len s.cap, .slice t.ad t.len t.cap, .bool false] w fun r w' => r = .returned (.bool (Tk.sameL f l k)) ∧ Below w.heap.size w w' := by
 have g0 : ((s.len : Int) != (t.len : Int)) = true := by simp; omega
 have hf : Hid (Tk.sameL f l k = false) := Tk.sameL_len _ l k (by omega)
 clear hne hl hk
 go_enter Tryz.func36, Tryz.ntmps36
 (try simp only [List.append_eq, List.cons_append, List.nil_append])
 go_wp2_with fail
 go_ret
 exact ⟨ret_bool (unhide hf).symm, Below.refl _ _⟩
theorem sameTreeCmds_nil {α β : Type} (f : α → β → Bool) (s t : Tk.Sl) (w : World) (hl : s.len = 0) (hk : t.len = 0) :
  Calls Tryz.prog 36 #[.slice s.ad s.len s.cap, .slice t.ad t.len t.cap, .bool false] w fun r w' => r = .returned (.bool (Tk.sameL f [] [])) ∧ Below w.heap.size w w' := by
 have hf : Hid (Tk.sameL f [] [] = true) := rfl
 rw [hl, hk]
 clear hl hk
 go_enter Tryz.func36, Tryz.ntmps36
 (try simp only [List.append_eq, List.cons_append, List.nil_append])
 go_wp2_with fail
 go_loopw [7] (fun iv wr => iv = .int .i64 0 ∧ wr = w) (fun iv _ => 0)
 case atStart => exact ⟨rfl, rfl⟩
 case round =>
  obtain ⟨rfl, rfl⟩ := hrel
  go_wp2_with fail
  go_ret
  exact ⟨ret_bool (unhide hf).symm, Below.refl _ _⟩
theorem Tk.no_CT {m : Nat} (l : List (Tk.CT m 0)) : l = [] := by cases l with | nil => rfl | cons y r => exact nomatch (show Empty from y)
theorem sameTreeCmds_any {m m' : Nat} : ∀ (n n' : Nat) (s t : Tk.Sl) (l : List (Tk.CT m n)) (k : List (Tk.CT m' n')) (w : World), Tk.RS w 17 (Tk.LC w) (Tk.RC w m n) s l → Tk.RS w 17 (Tk.LC w) (Tk.RC w m' n') t k → Calls Tryz.prog 36 #[.slice s.ad s.len s.cap, .slice t.ad t.len t.cap, .bool false] w fun r w' => r = .returned (.bool (Tk.sameL (Tk.sameC n n') l k)) ∧ Below w.heap.size w w'
 | 0, n', s, t, l, k, w, hs, ht => by
  obtain rfl := Tk.no_CT l
  by_cases h : s.len = t.len
  · obtain rfl : k = [] := List.length_eq_zero_iff.1 (by have h1 : s.len = 0 := hs.len; have h2 := ht.len; omega)
    exact sameTreeCmds_nil _ s t w hs.len ht.len
  · exact sameTreeCmds_ne _ s t [] k w hs.len ht.len h
 | n + 1, 0, s, t, l, k, w, hs, ht => by
  obtain rfl := Tk.no_CT k
  by_cases h : s.len = t.len
  · obtain rfl : l = [] := List.length_eq_zero_iff.1 (by have h1 := hs.len; have h2 : t.len = 0 := ht.len; omega)
    exact sameTreeCmds_nil _ s t w hs.len ht.len
  · exact sameTreeCmds_ne _ s t l [] w hs.len ht.len h
 | n + 1, n' + 1, s, t, l, k, w, hs, ht => by
  by_cases h : s.len = t.len
  · exact sameTreeCmds_step n n' (fun s t l k w hs ht => sameTreeCmds_any n n' s t l k w hs ht) s t l k w hs ht h
  · exact sameTreeCmds_ne _ s t l k w hs.len ht.len h
end Go.Proofs.YtfccpddehpgfoaaGreatDoor
