/-
  What is printed is parsed as it was: the walk of QueryBack. By the verifier.
-/
import Derived.Test.YtfhlnelgnnkeoaaGreatDoorQTa
import Derived.Test.YtfhlnelgnnkeoaaGreatDoorQPrint
import Derived.Test.YtfhlnelgnnkeoaaGreatDoorQBegun
namespace Go.Proofs.YtfhlnelgnnkeoaaGreatDoor
open Go.RowKit
set_option linter.unusedVariables false

theorem Qp.is_toks {s : ByteArray} {m : List (Nat × Nat × Nat)} {ks : List (Nat × List Int)} (h : m.map (fun t => (t.1, ((Tk.B s).drop t.2.1).take t.2.2)) = ks) : Qp.Is (Qp.toks s m) 0 ks := by
  intro j p hj
  rw [← h, List.getElem?_map] at hj
  rw [Nat.zero_add]
  cases hm : m[j]? with
  | none => rw [hm] at hj; cases hj
  | some t =>
    rw [hm] at hj
    cases hj
    have ht : (Qp.toks s m)[j]? = some ⟨(t.1 : Int), (t.2.1 : Int), s.extract t.2.1 (t.2.1 + t.2.2)⟩ := by
      unfold Qp.toks
      rw [List.getElem?_map, hm]
      rfl
    rw [Qp.tk_some ht]
    exact ⟨rfl, Qp.B_extract s t.2.1 t.2.2⟩
/-- What is printed is parsed as it was. -/
theorem Qp.back (n : Nat) (x : Qk.AT n) (hc : Qk.chk n x = 0) : ∃ y : Qk.AT 61, Qp.out (Qk.text n x) = .ok y ∧ Qk.like n 61 x y := by
  obtain ⟨hp, hw⟩ := Qk.chk_ok hc
  have hsz := Qk.text_size n x hw
  obtain ⟨m, h1, h2, h3⟩ := Qp.Sc.text n x hw [] (Or.inl rfl) 0 []
  have hs : Tk.scanR (Qk.text n x) = (m, 0, 0) := by
    rw [Qp.scan_small _ (by omega), ← List.append_nil (Tk.B (Qk.text n x)), h1, Tk.scl_nil]
    rfl
  have hk : m.map (fun t => (t.1, ((Tk.B (Qk.text n x)).drop t.2.1).take t.2.2)) = Qk.tks n x := by
    rw [← h3]
    refine List.map_congr_left fun t _ => ?_
    rw [List.append_nil, Nat.sub_zero]
  obtain ⟨y, hy, hl⟩ := Qp.q_text n x hw 61 (by omega) (Qp.toks (Qk.text n x) m) 0 (Qp.is_toks hk)
  have hlen : (Qp.toks (Qk.text n x) m).length = (Qk.tks n x).length := by
    unfold Qp.toks
    rw [List.length_map, ← hk, List.length_map]
  refine ⟨y, ?_, hl⟩
  have hcy : Qk.chk 61 y = 0 := by
    have := hc
    unfold Qk.chk at this ⊢
    rw [← Qk.like_parts n 61 x y hl, ← Qk.like_wrong n 61 x y hl]
    exact this
  have hpr : Qp.prs (Qp.toks (Qk.text n x) m) = .ok y := by
    unfold Qp.prs
    rw [hy]
    show (if 0 + (Qk.tks n x).length < (Qp.toks (Qk.text n x) m).length then _ else _) = _
    rw [if_neg (by omega)]
  unfold Qp.out
  rw [hs]
  show (match Qp.prs (Qp.toks (Qk.text n x) m) with | .error j => _ | .ok x => if Qk.chk 61 x = 0 then _ else _) = _
  rw [hpr]
  show (if Qk.chk 61 y = 0 then _ else _) = _
  rw [if_pos hcy]
theorem Qp.out_err {s : ByteArray} {a : Int} {y : Nat} (h : Qp.out s = .error (a, y)) : y ≠ 0 := by
  unfold Qp.out at h
  split at h
  · split at h
    · cases h; decide
    · split at h
      · cases h
      · rename_i hc; cases h; exact hc
  · rename_i hc; cases h; exact hc
theorem Qp.out_ok {s : ByteArray} {x : Qk.AT 61} (h : Qp.out s = .ok x) : Qk.chk 61 x = 0 := by
  unfold Qp.out at h
  split at h
  · split at h
    · cases h
    · split at h
      · rename_i hc; cases h; exact hc
      · cases h
  · cases h
theorem Qp.text_max (n : Nat) (x : Qk.AT n) (hc : Qk.chk n x = 0) : (Qk.text n x).size ≤ maxLen := by
  obtain ⟨hp, hw⟩ := Qk.chk_ok hc
  have := Qk.text_size n x hw
  unfold maxLen
  omega

set_option maxRecDepth 100000 in
set_option maxHeartbeats 3200000 in
theorem qback_any (n : Nat) (e : Qk.E) (x : Qk.AT n) (s : ByteArray) (w : World) (h : Qk.RA w n e x) (hs : s.size ≤ maxLen) (htab : Qd.tab w) :
    Calls Tryz.prog 5 #[.agg #[.int .i64 e.k, .int .i64 e.n, .slice e.args.ad e.args.len e.args.cap], .string s] w fun r w' => r = .returned (.bool true) ∧ Below w.heap.size w w' := by
  have HPO := hide (fun (m : Nat) (E : Qk.E) (z : Qk.AT m) (W : World) (h1 : Qk.RA W m E z) (h2 : Qk.chk m z = 0) (h3 : Qd.tab W) => show Calls Tryz.prog 8 #[.agg #[.int .i64 E.k, .int .i64 E.n, .slice E.args.ad E.args.len E.args.cap]] W fun r w' => r = .returned (.tuple #[.string (Qk.text m z), .int .i64 0]) ∧ Below W.heap.size W w' from Print_ok m E z W h1 h2 h3)
  have HPB := hide (fun (m : Nat) (z : Qk.AT m) (h2 : Qk.chk m z = 0) (W : World) => show Calls Tryz.prog 13 #[.string (Qk.text m z)] W fun r w' => (∃ (E : Qk.E) (y : Qk.AT 61), r = .returned (.tuple #[.agg #[.int .i64 E.k, .int .i64 E.n, .slice E.args.ad E.args.len E.args.cap], .int .i64 0, .int .i64 0]) ∧ Qk.RA w' 61 E y ∧ Qk.like m 61 z y) ∧ Below W.heap.size W w' by
    obtain ⟨y, hy, hl⟩ := Qp.back m z h2
    have := Parse_any (Qk.text m z) W (Qp.text_max m z h2)
    rw [hy] at this
    exact this.mono fun r w' ⟨⟨E, k1, k2⟩, k3⟩ => ⟨⟨E, y, k1, k2, hl⟩, k3⟩)
  have HSA := hide (fun (W : World) (A B : Qk.E) (y : Qk.AT 61) (h1 : Qk.RA W 61 A y) (h2 : Qk.RA W 61 B y) => show Calls Tryz.prog 15 #[.agg #[.int .i64 A.k, .int .i64 A.n, .slice A.args.ad A.args.len A.args.cap], .agg #[.int .i64 B.k, .int .i64 B.n, .slice B.args.ad B.args.len B.args.cap]] W fun r w' => r = .returned (.bool true) ∧ Below W.heap.size W w' from SameAsk_eq 61 A B y W h1 h2)
  have HPS := hide (fun (W : World) => Parse_any s W hs)
  have HA := hide (And.intro h htab)
  clear h hs htab
  go_enter Tryz.func5, Tryz.ntmps5
  go_wp2_with fail
  have HB1 := hide ((Below.refl w.heap.size w).alloc (Nat.le_refl _) (Obj.cells #[.int .i64 e.k, .int .i64 e.n, .slice e.args.ad e.args.len e.args.cap] 24))
  have HL1 := hide (Qp.lies_new w e)
  generalize (w.alloc (Obj.cells #[.int .i64 e.k, .int .i64 e.n, .slice e.args.ad e.args.len e.args.cap] 24)) = W1 at *
  refine (queryBegun_any _).mono ?_
  rintro r w2 ⟨rfl, hb2⟩
  have HL2 := hide ((unhide HL1).bel hb2)
  have HB2 := hide ((unhide HB1).trans (hb2.mono (unhide HB1).size))
  clear hb2
  obtain ⟨p0, p1, p2⟩ := unhide HL2
  go_wp2_with fail
  by_cases hc : Qk.chk n x = 0
  · refine ((unhide HPO) n e x w2 ((unhide HA).1.later (unhide HB2) (Nat.le_refl _)) hc (Qd.tab_later (unhide HA).2 (unhide HB2))).mono ?_
    rintro r w3 ⟨rfl, hb3⟩
    have HL3 := hide ((unhide HL2).bel hb3)
    have HB3 := hide ((unhide HB2).trans (hb3.mono (unhide HB2).size))
    clear hb3 p0 p1 p2
    go_wp2_with fail
    refine ((unhide HPB) n x hc w3).mono ?_
    rintro r w4 ⟨⟨E1, y1, rfl, hra4, hlk⟩, hb4⟩
    have HL4 := hide ((unhide HL3).bel hb4)
    have HB4 := hide ((unhide HB3).trans (hb4.mono (unhide HB3).size))
    have HR4 := hide (And.intro hra4 (Qk.like_ra n 61 e x y1 hlk ((unhide HA).1.later (unhide HB4) (Nat.le_refl _))))
    have hz4 := (unhide HL4).lt
    clear hb4 hra4 hlk
    obtain ⟨p0, p1, p2⟩ := unhide HL4
    go_wp2_with fail
    have hb5 := (Below.refl w4.heap.size w4).alloc (Nat.le_refl _) (Obj.cells #[.int .i64 E1.k, .int .i64 E1.n, .slice E1.args.ad E1.args.len E1.args.cap] 24)
    have HR5 := hide (And.intro ((unhide HR4).1.later hb5 (Nat.le_refl _)) ((unhide HR4).2.later hb5 (Nat.le_refl _)))
    have HB5 := hide ((unhide HB4).trans (hb5.mono (unhide HB4).size))
    clear hb5 p0 p1 p2
    generalize (w4.alloc (Obj.cells #[.int .i64 E1.k, .int .i64 E1.n, .slice E1.args.ad E1.args.len E1.args.cap] 24)) = W5 at *
    refine ((unhide HSA) W5 e E1 y1 (unhide HR5).2 (unhide HR5).1).mono ?_
    rintro r w6 ⟨rfl, hb6⟩
    have HB6 := hide ((unhide HB5).trans (hb6.mono (unhide HB5).size))
    clear hb6
    go_wp2_with fail
    refine ((unhide HPS) w6).mono ?_
    intro r w7 hq
    cases ho : Qp.out s with
    | error p =>
      obtain ⟨a, y⟩ := p
      have hy := Qp.out_err ho
      rw [ho] at hq
      obtain ⟨rfl, hb7⟩ := hq
      have HB7 := hide ((unhide HB6).trans (hb7.mono (unhide HB6).size))
      have hy1 : ((y : Int) != 0) = true := by simp; omega
      clear hb7 ho hy
      go_wp2_with fail
      go_ret
      exact ⟨rfl, (unhide HB7).alloc (unhide HB7).size _⟩
    | ok z =>
      have hcz := Qp.out_ok ho
      rw [ho] at hq
      obtain ⟨⟨E2, rfl, hra7⟩, hb7⟩ := hq
      have HB7 := hide ((unhide HB6).trans (hb7.mono (unhide HB6).size))
      have HR7 := hide hra7
      clear hb7 ho hra7
      go_wp2_with fail
      have hb8 := (Below.refl w7.heap.size w7).alloc (Nat.le_refl _) (Obj.cells #[.int .i64 E2.k, .int .i64 E2.n, .slice E2.args.ad E2.args.len E2.args.cap] 24)
      have HL8 := hide (Qp.lies_new w7 E2)
      have HR8 := hide ((unhide HR7).later hb8 (Nat.le_refl _))
      have HB8 := hide ((unhide HB7).trans (hb8.mono (unhide HB7).size))
      clear hb8
      generalize (w7.alloc (Obj.cells #[.int .i64 E2.k, .int .i64 E2.n, .slice E2.args.ad E2.args.len E2.args.cap] 24)) = W8 at *
      refine ((unhide HPO) 61 E2 z W8 (unhide HR8) hcz (Qd.tab_later (unhide HA).2 (unhide HB8))).mono ?_
      rintro r w9 ⟨rfl, hb9⟩
      have HL9 := hide ((unhide HL8).bel hb9)
      have HR9 := hide ((unhide HR8).later hb9 (Nat.le_refl _))
      have HB9 := hide ((unhide HB8).trans (hb9.mono (unhide HB8).size))
      clear hb9
      go_wp2_with fail
      refine ((unhide HPB) 61 z hcz w9).mono ?_
      rintro r w10 ⟨⟨E3, y3, rfl, hra10, hlk⟩, hb10⟩
      have HL10 := hide ((unhide HL9).bel hb10)
      have HB10 := hide ((unhide HB9).trans (hb10.mono (unhide HB9).size))
      have HR10 := hide (And.intro hra10 (Qk.like_ra 61 61 E2 z y3 hlk ((unhide HR9).later hb10 (Nat.le_refl _))))
      have hz10 := (unhide HL10).lt
      clear hb10 hra10 hlk
      obtain ⟨p0, p1, p2⟩ := unhide HL10
      go_wp2_with fail
      have hb11 := (Below.refl w10.heap.size w10).alloc (Nat.le_refl _) (Obj.cells #[.int .i64 E3.k, .int .i64 E3.n, .slice E3.args.ad E3.args.len E3.args.cap] 24)
      have HR11 := hide (And.intro ((unhide HR10).1.later hb11 (Nat.le_refl _)) ((unhide HR10).2.later hb11 (Nat.le_refl _)))
      have HB11 := hide ((unhide HB10).trans (hb11.mono (unhide HB10).size))
      clear hb11 p0 p1 p2
      generalize (w10.alloc (Obj.cells #[.int .i64 E3.k, .int .i64 E3.n, .slice E3.args.ad E3.args.len E3.args.cap] 24)) = W11 at *
      refine ((unhide HSA) W11 E2 E3 y3 (unhide HR11).2 (unhide HR11).1).mono ?_
      rintro r w12 ⟨rfl, hb12⟩
      have HB12 := hide ((unhide HB11).trans (hb12.mono (unhide HB11).size))
      clear hb12
      go_wp2_with fail
      go_ret
      exact ⟨rfl, unhide HB12⟩
  · refine (Print_err n e x w2 ((unhide HA).1.later (unhide HB2) (Nat.le_refl _)) hc).mono ?_
    rintro r w3 ⟨rfl, hb3⟩
    have HB6 := hide ((unhide HB2).trans (hb3.mono (unhide HB2).size))
    obtain ⟨C, hC⟩ : ∃ C, Qk.chk n x = C := ⟨_, rfl⟩
    rw [hC] at hc ⊢
    have hc1 : (((C : Nat) : Int) == 0) = false := by simp; omega
    clear hb3 p0 p1 p2 hc hC
    obtain ⟨w6, rfl⟩ : ∃ w6, w6 = w3 := ⟨_, rfl⟩
    go_wp2_with fail
    refine ((unhide HPS) w6).mono ?_
    intro r w7 hq
    cases ho : Qp.out s with
    | error p =>
      obtain ⟨a, y⟩ := p
      have hy := Qp.out_err ho
      rw [ho] at hq
      obtain ⟨rfl, hb7⟩ := hq
      have HB7 := hide ((unhide HB6).trans (hb7.mono (unhide HB6).size))
      have hy1 : ((y : Int) != 0) = true := by simp; omega
      clear hb7 ho hy
      go_wp2_with fail
      go_ret
      exact ⟨rfl, (unhide HB7).alloc (unhide HB7).size _⟩
    | ok z =>
      have hcz := Qp.out_ok ho
      rw [ho] at hq
      obtain ⟨⟨E2, rfl, hra7⟩, hb7⟩ := hq
      have HB7 := hide ((unhide HB6).trans (hb7.mono (unhide HB6).size))
      have HR7 := hide hra7
      clear hb7 ho hra7
      go_wp2_with fail
      have hb8 := (Below.refl w7.heap.size w7).alloc (Nat.le_refl _) (Obj.cells #[.int .i64 E2.k, .int .i64 E2.n, .slice E2.args.ad E2.args.len E2.args.cap] 24)
      have HL8 := hide (Qp.lies_new w7 E2)
      have HR8 := hide ((unhide HR7).later hb8 (Nat.le_refl _))
      have HB8 := hide ((unhide HB7).trans (hb8.mono (unhide HB7).size))
      clear hb8
      generalize (w7.alloc (Obj.cells #[.int .i64 E2.k, .int .i64 E2.n, .slice E2.args.ad E2.args.len E2.args.cap] 24)) = W8 at *
      refine ((unhide HPO) 61 E2 z W8 (unhide HR8) hcz (Qd.tab_later (unhide HA).2 (unhide HB8))).mono ?_
      rintro r w9 ⟨rfl, hb9⟩
      have HL9 := hide ((unhide HL8).bel hb9)
      have HR9 := hide ((unhide HR8).later hb9 (Nat.le_refl _))
      have HB9 := hide ((unhide HB8).trans (hb9.mono (unhide HB8).size))
      clear hb9
      go_wp2_with fail
      refine ((unhide HPB) 61 z hcz w9).mono ?_
      rintro r w10 ⟨⟨E3, y3, rfl, hra10, hlk⟩, hb10⟩
      have HL10 := hide ((unhide HL9).bel hb10)
      have HB10 := hide ((unhide HB9).trans (hb10.mono (unhide HB9).size))
      have HR10 := hide (And.intro hra10 (Qk.like_ra 61 61 E2 z y3 hlk ((unhide HR9).later hb10 (Nat.le_refl _))))
      have hz10 := (unhide HL10).lt
      clear hb10 hra10 hlk
      obtain ⟨p0, p1, p2⟩ := unhide HL10
      go_wp2_with fail
      have hb11 := (Below.refl w10.heap.size w10).alloc (Nat.le_refl _) (Obj.cells #[.int .i64 E3.k, .int .i64 E3.n, .slice E3.args.ad E3.args.len E3.args.cap] 24)
      have HR11 := hide (And.intro ((unhide HR10).1.later hb11 (Nat.le_refl _)) ((unhide HR10).2.later hb11 (Nat.le_refl _)))
      have HB11 := hide ((unhide HB10).trans (hb11.mono (unhide HB10).size))
      clear hb11 p0 p1 p2
      generalize (w10.alloc (Obj.cells #[.int .i64 E3.k, .int .i64 E3.n, .slice E3.args.ad E3.args.len E3.args.cap] 24)) = W11 at *
      refine ((unhide HSA) W11 E2 E3 y3 (unhide HR11).2 (unhide HR11).1).mono ?_
      rintro r w12 ⟨rfl, hb12⟩
      have HB12 := hide ((unhide HB11).trans (hb12.mono (unhide HB11).size))
      clear hb12
      go_wp2_with fail
      go_ret
      exact ⟨rfl, unhide HB12⟩
end Go.Proofs.YtfhlnelgnnkeoaaGreatDoor
