/-
  Contracts of the small methods of package query's parser. By the verifier.
-/
import Derived.Test.YtfhlnelgnnkeoaaGreatDoorQRule
import Derived.Test.YtfhlnelgnnkeoaaGreatDoorQMean
import Derived.RegionTactic
import Derived.ChangeAlike
import Derived.BigRegion
namespace Go.Proofs.YtfhlnelgnnkeoaaGreatDoor
open Go.RowKit
set_option linter.unusedVariables false

/-- Is it one of these words? -/
def Qp.inW (ws : List ByteArray) (t : ByteArray) : Bool := ws.any fun x => t.toList == x.toList
theorem Qp.inW_drop {ws : List ByteArray} {t x : ByteArray} {k : Nat} (h : ws[k]? = some x) : Qp.inW (ws.drop k) t = ((t.toList == x.toList) || Qp.inW (ws.drop (k + 1)) t) := by
  obtain ⟨hk, rfl⟩ := List.getElem?_eq_some_iff.1 h
  rw [List.drop_eq_getElem_cons hk]
  rfl

/-- A number that is not below 0 just where B is. -/
def Qp.Ge (e : Ending) (B : Bool) : Prop := ∃ r : Int, e = .returned (.int .i64 r) ∧ decide (0 ≤ r) = B
set_option maxRecDepth 100000 in
set_option maxHeartbeats 800000 in
theorem sIndex_any (ws : List ByteArray) (t : ByteArray) (ad : Option Addr) (cap : Nat) (w : World) (hr : Dk.RK w ad ws) (hl : ws.length ≤ 100) :
    Calls Tryz.prog 101 #[.slice ad ws.length cap, .string t] w fun e w' => Qp.Ge e (Qp.inW ws t) ∧ w' = w := by
  have HR := hide hr
  obtain ⟨B, hB⟩ : ∃ B, B = Qp.inW ws t := ⟨_, rfl⟩
  rw [← hB]
  have HB := hide hB
  clear hr hB
  go_enter Tryz.func101, Tryz.ntmps101
  go_wp2_with fail
  go_loop [8] (fun iv => ∃ k : Nat, k ≤ ws.length ∧ iv = .int .i64 k ∧ B = Qp.inW (ws.drop k) t) (fun iv => ws.length - (intOf iv).toNat)
  case atStart => exact ⟨0, Nat.zero_le _, rfl, unhide HB⟩
  case round =>
    obtain ⟨k, hk, rfl, hB⟩ := hrel
    have HBK := hide hB
    clear hB
    by_cases hlt : k < ws.length
    · obtain ⟨x, hx⟩ : ∃ x, ws[k]? = some x := ⟨ws[k], List.getElem?_eq_getElem hlt⟩
      obtain ⟨b, o, rfl, hb, c0, _⟩ := (unhide HR).at_ k x hx
      have HD := hide (Qp.inW_drop (t := t) hx)
      have hk1 : (0 : Int) ≤ (k : Int) := by omega
      have hk2 : (k : Int) < (ws.length : Int) := by omega
      clear hx
      cases htx : (t.toList == x.toList)
      · have HN := hide (show B = Qp.inW (ws.drop (k + 1)) t by rw [unhide HBK, unhide HD, htx]; rfl)
        go_wp2_with fail
        go_round
        case rel => exact ⟨k + 1, by omega, by go_num, unhide HN⟩
        case measure => simp [intOf]; omega
      · have HN := hide (show B = true by rw [unhide HBK, unhide HD, htx]; rfl)
        go_wp2_with fail
        go_ret
        exact ⟨⟨_, rfl, by rw [unhide HN]; simp⟩, rfl⟩
    · have HN := hide (show B = false by rw [unhide HBK, List.drop_of_length_le (by omega)]; rfl)
      have hk2 : ¬ (k : Int) < (ws.length : Int) := by omega
      go_wp2_with fail
      go_ret
      exact ⟨⟨_, rfl, by rw [unhide HN]; rfl⟩, rfl⟩

set_option maxHeartbeats 400000 in
theorem sContains_any (ws : List ByteArray) (t : ByteArray) (ad : Option Addr) (cap : Nat) (w : World) (hr : Dk.RK w ad ws) (hl : ws.length ≤ 100) :
    Calls Tryz.prog 85 #[.slice ad ws.length cap, .string t] w fun e w' => e = .returned (.bool (Qp.inW ws t)) ∧ w' = w := by
  have HR := hide hr
  clear hr
  go_enter Tryz.func85, Tryz.ntmps85
  go_wp2_with fail
  refine (sIndex_any ws t ad cap _ (unhide HR) hl).mono ?_
  rintro e w' ⟨⟨r, rfl, hB⟩, rfl⟩
  have HB := hide hB
  clear hB
  go_wp2_with fail
  go_ret
  exact ⟨ret_bool (unhide HB), rfl⟩

/-- A parser, as it lies: its tokens, which one is next, where the text ends. -/
structure Qp.P (W : World) (bp : Nat) (ta : Option Addr) (n c : Nat) (i e : Int) : Prop where
  c0 : W.cell? ⟨bp, 0, none⟩ = some (.slice ta n c)
  c1 : W.cell? ⟨bp, 1, none⟩ = some (.int .i64 i)
  c2 : W.cell? ⟨bp, 2, none⟩ = some (.int .i64 e)
  f1 : W.frozen? ⟨bp, 1, none⟩ = false
theorem Qp.P.lt {W : World} {bp : Nat} {ta : Option Addr} {n c : Nat} {i e : Int} (h : Qp.P W bp ta n c i e) : bp < W.heap.size := World.block_lt_of_cell? W _ h.c0
theorem Qp.P.below {W W' : World} {bp : Nat} {ta : Option Addr} {n c : Nat} {i e : Int} (h : Qp.P W bp ta n c i e) (hb : Below W.heap.size W W') : Qp.P W' bp ta n c i e :=
  ⟨(hb.cell (p := ⟨bp, 0, none⟩) h.lt).trans h.c0, (hb.cell (p := ⟨bp, 1, none⟩) h.lt).trans h.c1, (hb.cell (p := ⟨bp, 2, none⟩) h.lt).trans h.c2, (hb.frozen (p := ⟨bp, 1, none⟩) h.lt).trans h.f1⟩
theorem Qp.P.next {W : World} {bp : Nat} {ta : Option Addr} {n c : Nat} {i e : Int} (h : Qp.P W bp ta n c i e) (j : Int) : Qp.P (W.setCell ⟨bp, 1, none⟩ (.int .i64 j)) bp ta n c j e :=
  ⟨(World.cell?_setCell_other _ _ _ _ (by intro hh; have := congrArg Addr.off hh; simp at this)).trans h.c0, World.cell?_setCell_same _ _ _ h.c1, (World.cell?_setCell_other _ _ _ _ (by intro hh; have := congrArg Addr.off hh; simp at this)).trans h.c2, by rw [World.frozen?_setCell]; exact h.f1⟩
/-- A token: its kind, its place, its text. -/
structure Qp.T where
  k : Int
  a : Int
  t : ByteArray
/-- Tokens, as they are read. -/
structure Qp.RT (W : World) (ad : Option Addr) (l : List Qp.T) : Prop where
  at_ : ∀ i x, l[i]? = some x → ∃ b o, ad = some ⟨b, o, none⟩ ∧ b < W.heap.size ∧ W.cell? ⟨b, o + i * 3, none⟩ = some (.int .i64 x.k) ∧ W.cell? ⟨b, o + i * 3 + 1, none⟩ = some (.int .i64 x.a) ∧ W.cell? ⟨b, o + i * 3 + 2, none⟩ = some (.string x.t)
theorem Qp.RT.but {W W' : World} {bp : Nat} {ad : Option Addr} {l : List Qp.T} (h : Qp.RT W ad l) (hne : ∀ b o, ad = some ⟨b, o, none⟩ → b ≠ bp) (hb : Qk.But1 bp W.heap.size W W') : Qp.RT W' ad l :=
  ⟨fun i x hi => by
    obtain ⟨b, o, h1, h2, h3, h4, h5⟩ := h.at_ i x hi
    have hn := hne b o h1
    exact ⟨b, o, h1, by have := hb.size; omega, (hb.cell h2 hn).trans h3, (hb.cell h2 hn).trans h4, (hb.cell h2 hn).trans h5⟩⟩

theorem Qp.RT.below {W W' : World} {ad : Option Addr} {l : List Qp.T} (h : Qp.RT W ad l) (hb : Below W.heap.size W W') : Qp.RT W' ad l :=
  ⟨fun i x hi => by
    obtain ⟨b, o, h1, h2, h3, h4, h5⟩ := h.at_ i x hi
    have hc : ∀ j, W'.cell? ⟨b, j, none⟩ = W.cell? ⟨b, j, none⟩ := fun j => hb.cell (p := ⟨b, j, none⟩) h2
    exact ⟨b, o, h1, by have := hb.size; omega, by rw [hc]; exact h3, by rw [hc]; exact h4, by rw [hc]; exact h5⟩⟩
theorem Qp.set3 {W : World} {b : Nat} {a0 a1 a2 : Value} (h0 : W.cell? ⟨b, 0, none⟩ = some a0) (h1 : W.cell? ⟨b, 1, none⟩ = some a1) (h2 : W.cell? ⟨b, 2, none⟩ = some a2) (u0 u1 u2 : Value) :
    (((W.setCell ⟨b, 0, none⟩ u0).setCell ⟨b, 1, none⟩ u1).setCell ⟨b, 2, none⟩ u2).cell? ⟨b, 0, none⟩ = some u0 ∧ (((W.setCell ⟨b, 0, none⟩ u0).setCell ⟨b, 1, none⟩ u1).setCell ⟨b, 2, none⟩ u2).cell? ⟨b, 1, none⟩ = some u1 ∧ (((W.setCell ⟨b, 0, none⟩ u0).setCell ⟨b, 1, none⟩ u1).setCell ⟨b, 2, none⟩ u2).cell? ⟨b, 2, none⟩ = some u2 := by
  have ne : ∀ (W : World) (i j : Nat) (v : Value), i ≠ j → (W.setCell ⟨b, j, none⟩ v).cell? ⟨b, i, none⟩ = W.cell? ⟨b, i, none⟩ := fun W i j v hij => World.cell?_setCell_other _ _ _ _ (by intro hh; have := congrArg Addr.off hh; simp at this; omega)
  refine ⟨?_, ?_, ?_⟩
  · rw [ne _ 0 2 _ (by omega), ne _ 0 1 _ (by omega)]
    exact World.cell?_setCell_same _ _ _ h0
  · rw [ne _ 1 2 _ (by omega)]
    exact World.cell?_setCell_same _ _ _ (u := a1) (by rw [ne _ 1 0 _ (by omega)]; exact h1)
  · exact World.cell?_setCell_same _ _ _ (u := a2) (by rw [ne _ 2 1 _ (by omega), ne _ 2 0 _ (by omega)]; exact h2)

set_option maxHeartbeats 800000 in
theorem ahead_ok (l : List Qp.T) (ta : Option Addr) (n c bp i : Nat) (e : Int) (x : Qp.T) (w : World) (hp : Qp.P w bp ta n c (i : Nat) e) (hr : Qp.RT w ta l) (hx : l[i]? = some x) (hn : i < n) (hf : n ≤ 10000) :
    Calls Tryz.prog 86 #[.pointer (some ⟨bp, 0, none⟩)] w fun r w' => r = .returned (.agg #[.int .i64 x.k, .int .i64 x.a, .string x.t]) ∧ Below w.heap.size w w' := by
  obtain ⟨b, o, rfl, hb, d0, d1, d2⟩ := hr.at_ i x hx
  have hlt := hp.lt
  obtain ⟨c0, c1, c2, f1⟩ := hp
  have hi1 : (0 : Int) ≤ (i : Int) := by omega
  have hi2 : (i : Int) < (n : Int) := by omega
  clear hr hx
  go_enter Tryz.func86, Tryz.ntmps86
  go_wp2_with fail
  go_quiet (fail)
  go_wp2_with fail
  obtain ⟨WD, hWD⟩ : ∃ WD, WD = (w.alloc (Obj.cells #[.int .i64 0, .int .i64 0, .string ⟨#[]⟩] 80)).drewN nq := ⟨_, rfl⟩
  have HBD := hide (show Below w.heap.size w WD by rw [hWD]; exact below_drewN ((Below.refl _ _).alloc (Nat.le_refl _) _) _)
  have k0 : WD.cell? ⟨bp, 0, none⟩ = some (.slice (some ⟨b, o, none⟩) n c) := by rw [hWD]; go_simp
  have k1 : WD.cell? ⟨bp, 1, none⟩ = some (.int .i64 (i : Nat)) := by rw [hWD]; go_simp
  have e0 : WD.cell? ⟨b, o + i * 3, none⟩ = some (.int .i64 x.k) := by rw [hWD]; go_simp
  have e1 : WD.cell? ⟨b, o + i * 3 + 1, none⟩ = some (.int .i64 x.a) := by rw [hWD]; go_simp
  have e2 : WD.cell? ⟨b, o + i * 3 + 2, none⟩ = some (.string x.t) := by rw [hWD]; go_simp
  have m0 : WD.cell? ⟨w.heap.size, 0, none⟩ = some (.int .i64 0) := by rw [hWD]; go_simp
  have m1 : WD.cell? ⟨w.heap.size, 1, none⟩ = some (.int .i64 0) := by rw [hWD]; go_simp
  have m2 : WD.cell? ⟨w.heap.size, 2, none⟩ = some (.string ⟨#[]⟩) := by rw [hWD]; go_simp
  have z0 : WD.frozen? ⟨w.heap.size, 0, none⟩ = false := by rw [hWD]; go_simp
  have z1 : WD.frozen? ⟨w.heap.size, 1, none⟩ = false := by rw [hWD]; go_simp
  have z2 : WD.frozen? ⟨w.heap.size, 2, none⟩ = false := by rw [hWD]; go_simp
  rw [← hWD]
  clear hWD c0 c1 c2 f1 d0 d1 d2
  obtain ⟨s0, s1, s2⟩ := Qp.set3 m0 m1 m2 (.int .i64 x.k) (.int .i64 x.a) (.string x.t)
  have HS := hide (And.intro s0 (And.intro s1 s2))
  clear s0 s1 s2
  go_region
  all_goals
    go_wp2_with fail
    obtain ⟨s0, s1, s2⟩ := unhide HS
    refine bodyPost_ret (v := .agg #[.int .i64 x.k, .int .i64 x.a, .string x.t]) (by simp [results, Tryz.results86, go_sem, s0, s1, s2]) rfl ?_
    exact ⟨rfl, ((((unhide HBD).setCell (p := ⟨w.heap.size, 0, none⟩) (Nat.le_refl _) _).setCell (p := ⟨w.heap.size, 1, none⟩) (Nat.le_refl _) _).setCell (p := ⟨w.heap.size, 2, none⟩) (Nat.le_refl _) _).drew⟩

set_option maxRecDepth 100000 in
set_option maxHeartbeats 400000 in
theorem sees_ok (l : List Qp.T) (ws : List ByteArray) (wa ta : Option Addr) (n c bp i wc : Nat) (e : Int) (x : Qp.T) (w : World) (hp : Qp.P w bp ta n c (i : Nat) e) (hr : Qp.RT w ta l) (hw : Dk.RK w wa ws) (hl : ws.length ≤ 100) (hx : l[i]? = some x) (hn : i < n) (hf : n ≤ 10000) :
    Calls Tryz.prog 57 #[.pointer (some ⟨bp, 0, none⟩), .slice wa ws.length wc] w fun r w' => r = .returned (.bool (Qp.inW ws x.t)) ∧ Below w.heap.size w w' := by
  have HA := hide (ahead_ok l ta n c bp i e x w hp hr hx hn hf)
  have HW := hide hw
  clear hp hr hx hw
  have hfd : ∀ W : World, (Instr.field 80 (.agg #[.int .i64 x.k, .int .i64 x.a, .string x.t]) 2).run Tryz.prog W = .ok (.string x.t) W := fun _ => by kernel_rfl
  go_enter Tryz.func57, Tryz.ntmps57
  go_wp2_with fail
  refine (unhide HA).mono ?_
  rintro r w1 ⟨rfl, hb1⟩
  have HB1 := hide hb1
  clear hb1
  go_wp2_with fail
  refine (sContains_any ws x.t wa wc _ ((unhide HW).later (unhide HB1) (Nat.le_refl _)) hl).mono ?_
  rintro r w2 ⟨rfl, rfl⟩
  go_wp2_with fail
  go_ret
  exact ⟨rfl, unhide HB1⟩

set_option maxHeartbeats 400000 in
theorem giveUp_no (v : Value) (w : World) :
    Calls Tryz.prog 45 #[v, .bool false] w fun r w' => r = .returned (.tuple #[]) ∧ w' = w := by
  go_enter Tryz.func45, Tryz.ntmps45
  go_wp2_with fail
  exact bodyPost_ret (v := .tuple #[]) (by simp [results, Tryz.results45, go_sem]) rfl ⟨rfl, rfl⟩

set_option maxRecDepth 100000 in
set_option maxHeartbeats 800000 in
theorem take_ok (l : List Qp.T) (ws : List ByteArray) (wa ta : Option Addr) (n c bp i wc : Nat) (e : Int) (x : Qp.T) (w : World) (hp : Qp.P w bp ta n c (i : Nat) e) (hr : Qp.RT w ta l) (hw : Dk.RK w wa ws) (hl : ws.length ≤ 100) (hx : l[i]? = some x) (hn : i < n) (hf : n ≤ 10000) (hin : Qp.inW ws x.t = true) :
    Calls Tryz.prog 60 #[.pointer (some ⟨bp, 0, none⟩), .slice wa ws.length wc] w fun r w' => r = .returned (.string x.t) ∧ Qp.P w' bp ta n c ((i + 1 : Nat) : Int) e ∧ Qk.But1 bp w.heap.size w w' := by
  have HS := hide (show Calls Tryz.prog 57 #[.pointer (some ⟨bp, 0, none⟩), .slice wa ws.length wc] w fun r w' => r = .returned (.bool true) ∧ Below w.heap.size w w' by
    have := sees_ok l ws wa ta n c bp i wc e x w hp hr hw hl hx hn hf
    rw [hin] at this
    exact this)
  have HA := hide (fun (W : World) (hb : Below w.heap.size w W) => ahead_ok l ta n c bp i e x W (hp.below hb) (hr.below hb) hx hn hf)
  have HP := hide hp
  have hblt := hp.lt
  clear hp hr hw hx hin
  have hfd : ∀ W : World, (Instr.field 80 (.agg #[.int .i64 x.k, .int .i64 x.a, .string x.t]) 2).run Tryz.prog W = .ok (.string x.t) W := fun _ => by kernel_rfl
  go_enter Tryz.func60, Tryz.ntmps60
  go_wp2_with fail
  refine (unhide HS).mono ?_
  rintro r w1 ⟨rfl, hb1⟩
  have HB1 := hide hb1
  clear hb1
  go_wp2_with fail
  refine (giveUp_no _ _).mono ?_
  rintro r w2 ⟨rfl, hw2⟩
  obtain rfl : w1 = w2 := hw2.symm
  go_wp2_with fail
  refine ((unhide HA) _ (unhide HB1)).mono ?_
  rintro r w3 ⟨rfl, hb3⟩
  have HB3 := hide ((unhide HB1).trans (hb3.mono (unhide HB1).size))
  clear hb3
  obtain ⟨c0, c1, c2, f1⟩ := (unhide HP).below (unhide HB3)
  have HN := hide (((unhide HP).below (unhide HB3)).next ((i : Int) + 1))
  have HBU := hide (((Qk.But1.refl bp w.heap.size w).below (unhide HB3)).set (o := 1) (.int .i64 ((i : Int) + 1)))
  have hz3 := (unhide HB3).size
  go_wp2_with fail
  go_ret
  exact ⟨rfl, by simpa using unhide HN, unhide HBU⟩
end Go.Proofs.YtfhlnelgnnkeoaaGreatDoor
