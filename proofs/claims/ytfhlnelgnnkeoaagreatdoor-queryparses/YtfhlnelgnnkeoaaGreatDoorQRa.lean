/-
  Several texts in one: QR1, QR2. By the verifier.
-/
import Derived.Test.YtfhlnelgnnkeoaaGreatDoorQP3
import Derived.Deep.RegionWith
import Derived.Test.YtfhlnelgnnkeoaaGreatDoorQShelfA
namespace Go.Proofs.YtfhlnelgnnkeoaaGreatDoor
open Go.RowKit
set_option linter.unusedVariables false

/-- The next token; of no kind, if there is none. -/
def Qp.tk (l : List Qp.T) (i : Nat) : Qp.T := (l[i]?).getD ⟨0, 0, ⟨#[]⟩⟩
/-- The place of the next token; the text's end, if there is none. -/
def Qp.pl (l : List Qp.T) (e : Int) (i : Nat) : Int := ((l[i]?).map fun t => t.a).getD e
/-- The panic of a place. -/
def Qp.gave (a : Int) : List PanicEntry := [{ v := .iface 72 (.int .i64 a), recovered := false }]
theorem Qp.tk_some {l : List Qp.T} {i : Nat} {x : Qp.T} (h : l[i]? = some x) : Qp.tk l i = x := by simp [Qp.tk, h]
theorem Qp.tk_none {l : List Qp.T} {i : Nat} (h : l.length ≤ i) : Qp.tk l i = ⟨0, 0, ⟨#[]⟩⟩ := by simp [Qp.tk, List.getElem?_eq_none h]
theorem Qp.pl_some {l : List Qp.T} {e : Int} {i : Nat} {x : Qp.T} (h : l[i]? = some x) : Qp.pl l e i = x.a := by simp [Qp.pl, h]
theorem Qp.pl_none {l : List Qp.T} {e : Int} {i : Nat} (h : l.length ≤ i) : Qp.pl l e i = e := by simp [Qp.pl, List.getElem?_eq_none h]
theorem Qp.lt_of_in {l : List Qp.T} {ws : List ByteArray} {i : Nat} (h0 : Qp.inW ws ⟨#[]⟩ = false) (h : Qp.inW ws (Qp.tk l i).t = true) : i < l.length := by
  by_cases hi : i < l.length
  · exact hi
  · rw [Qp.tk_none (by omega), h0] at h; cases h

set_option maxHeartbeats 800000 in
theorem ahead_none (n : Nat) (ta : Option Addr) (c bp i : Nat) (e : Int) (w : World) (hp : Qp.P w bp ta n c (i : Nat) e) (hi : n ≤ i) (hf : n ≤ 10000) :
    Calls Tryz.prog 86 #[.pointer (some ⟨bp, 0, none⟩)] w fun r w' => r = .returned (.agg #[.int .i64 0, .int .i64 0, .string ⟨#[]⟩]) ∧ Below w.heap.size w w' := by
  have hlt := hp.lt
  obtain ⟨c0, c1, c2, f1⟩ := hp
  have hi2 : ¬ (i : Int) < (n : Int) := by omega
  go_enter Tryz.func86, Tryz.ntmps86
  go_wp2_with fail
  go_quiet (fail)
  obtain ⟨WD, hWD⟩ : ∃ WD, WD = (w.alloc (Obj.cells #[.int .i64 0, .int .i64 0, .string ⟨#[]⟩] 80)).drewN nq := ⟨_, rfl⟩
  have HBD := hide (show Below w.heap.size w WD by rw [hWD]; exact below_drewN ((Below.refl _ _).alloc (Nat.le_refl _) _) _)
  have m0 : WD.cell? ⟨w.heap.size, 0, none⟩ = some (.int .i64 0) := by rw [hWD]; go_simp
  have m1 : WD.cell? ⟨w.heap.size, 1, none⟩ = some (.int .i64 0) := by rw [hWD]; go_simp
  have m2 : WD.cell? ⟨w.heap.size, 2, none⟩ = some (.string ⟨#[]⟩) := by rw [hWD]; go_simp
  have z0 : WD.frozen? ⟨w.heap.size, 0, none⟩ = false := by rw [hWD]; go_simp
  have z1 : WD.frozen? ⟨w.heap.size, 1, none⟩ = false := by rw [hWD]; go_simp
  have z2 : WD.frozen? ⟨w.heap.size, 2, none⟩ = false := by rw [hWD]; go_simp
  rw [← hWD]
  clear hWD c0 c1 c2 f1
  have HS := hide (Qp.set3 m0 m1 m2 (.int .i64 0) (.int .i64 0) (.string ⟨#[]⟩))
  go_wp2_with fail
  obtain ⟨s0, s1, s2⟩ := unhide HS
  refine bodyPost_ret (v := .agg #[.int .i64 0, .int .i64 0, .string ⟨#[]⟩]) (by simp [results, Tryz.results86, go_sem, s0, s1, s2]) rfl ?_
  exact ⟨rfl, (((unhide HBD).setCell (p := ⟨w.heap.size, 0, none⟩) (Nat.le_refl _) _).setCell (p := ⟨w.heap.size, 1, none⟩) (Nat.le_refl _) _).setCell (p := ⟨w.heap.size, 2, none⟩) (Nat.le_refl _) _⟩

theorem ahead_any (l : List Qp.T) (ta : Option Addr) (c bp i : Nat) (e : Int) (w : World) (hp : Qp.P w bp ta l.length c (i : Nat) e) (hr : Qp.RT w ta l) (hf : l.length ≤ 10000) :
    Calls Tryz.prog 86 #[.pointer (some ⟨bp, 0, none⟩)] w fun r w' => r = .returned (.agg #[.int .i64 (Qp.tk l i).k, .int .i64 (Qp.tk l i).a, .string (Qp.tk l i).t]) ∧ Below w.heap.size w w' := by
  by_cases hi : i < l.length
  · have hx := List.getElem?_eq_getElem hi
    rw [Qp.tk_some hx]
    exact ahead_ok l ta l.length c bp i e _ w hp hr hx hi hf
  · rw [Qp.tk_none (by omega)]
    exact ahead_none l.length ta c bp i e w hp (by omega) hf

set_option maxRecDepth 100000 in
set_option maxHeartbeats 400000 in
theorem sees_any (l : List Qp.T) (ws : List ByteArray) (wa ta : Option Addr) (c bp i wc : Nat) (e : Int) (w : World) (hp : Qp.P w bp ta l.length c (i : Nat) e) (hr : Qp.RT w ta l) (hw : Dk.RK w wa ws) (hl : ws.length ≤ 100) (hf : l.length ≤ 10000) :
    Calls Tryz.prog 57 #[.pointer (some ⟨bp, 0, none⟩), .slice wa ws.length wc] w fun r w' => r = .returned (.bool (Qp.inW ws (Qp.tk l i).t)) ∧ Below w.heap.size w w' := by
  have HA := hide (ahead_any l ta c bp i e w hp hr hf)
  have HW := hide hw
  clear hp hr hw
  generalize Qp.tk l i = x at *
  have hfd : ∀ W : World, (Instr.field 80 (.agg #[.int .i64 x.k, .int .i64 x.a, .string x.t]) 2).run Tryz.prog W = .ok (.string x.t) W := fun _ => by kernel_rfl
  go_enter Tryz.func57, Tryz.ntmps57
  go_wp2_with fail
  refine (unhide HA).mono ?_
  rintro r w1 ⟨rfl, hb1⟩
  have HB1 := hide hb1
  clear hb1
  go_wp2_with fail
  refine (sContains_any ws x.t wa wc _ ((unhide HW).later (unhide HB1) (Nat.le_refl _)) hl).mono ?_
  rintro r w2 ⟨rfl, rfl⟩
  go_wp2_with fail
  go_ret
  exact ⟨rfl, unhide HB1⟩

/-- What is to be shown at a panic, as a walk of nothing: so that a region's walk bears it. -/
theorem Qp.trick (P : Program) (a : Act) (u : World) {n : Nat} {w v : World} (h : wpAny P .any #[] (fun _ _ _ => Below n w v) 0 #[] a u) : Below n w v := h.2

set_option maxHeartbeats 800000 in
theorem giveUp_yes (l : List Qp.T) (ta : Option Addr) (c bp i : Nat) (e : Int) (w : World) (hp : Qp.P w bp ta l.length c (i : Nat) e) (hr : Qp.RT w ta l) (hf : l.length ≤ 10000) :
    Calls Tryz.prog 45 #[.pointer (some ⟨bp, 0, none⟩), .bool true] w fun r w' => r = .panicked (Qp.gave (Qp.pl l e i)) ∧ Below w.heap.size w w' := by
  have hlt := hp.lt
  obtain ⟨c0, c1, c2, f1⟩ := hp
  by_cases hi : i < l.length
  · have hx := List.getElem?_eq_getElem hi
    rw [Qp.pl_some hx]
    obtain ⟨b, o, rfl, hb, d0, d1, d2⟩ := hr.at_ i _ hx
    have hi1 : (0 : Int) ≤ (i : Int) := by omega
    have hi2 : (i : Int) < (l.length : Int) := by omega
    clear hr hx
    generalize l[i] = x at *
    go_enter Tryz.func45, Tryz.ntmps45
    go_wp2_with fail
    go_quiet (fail)
    go_wp2_with fail
    obtain ⟨W, hW⟩ : ∃ W, W = w.drewN nq := ⟨_, rfl⟩
    have HBD := hide (show Below w.heap.size w W by rw [hW]; exact below_drewN (Below.refl _ _) _)
    have k0 : W.cell? ⟨bp, 0, none⟩ = some (.slice (some ⟨b, o, none⟩) l.length c) := by rw [hW]; go_simp
    have k1 : W.cell? ⟨bp, 1, none⟩ = some (.int .i64 (i : Nat)) := by rw [hW]; go_simp
    have e1 : W.cell? ⟨b, o + i * 3 + 1, none⟩ = some (.int .i64 x.a) := by rw [hW]; go_simp
    rw [← hW]
    clear hW c0 c1 c2 f1 d0 d1 d2
    refine Code.wp_mono (Q := fun ex a v => (ex = .panic [{ v := .iface 72 (.int .i64 x.a), recovered := false }]) ∧ a.defers = [] ∧ Below w.heap.size w v) (fun ex a v h => ?_) ?_
    · obtain ⟨rfl, hd, hbv⟩ := h
      exact ⟨hd, rfl, hbv⟩
    go_region_with (refine Qp.trick Tryz.prog ⟨#[], []⟩ w ?_)
    all_goals
      exact (unhide HBD).drew
  · rw [Qp.pl_none (by omega)]
    have hi2 : ¬ (i : Int) < (l.length : Int) := by omega
    go_enter Tryz.func45, Tryz.ntmps45
    go_wp2_with fail
    go_quiet (fail)
    go_wp2_with fail
    exact ⟨rfl, rfl, below_drewN (Below.refl _ _) _⟩
end Go.Proofs.YtfhlnelgnnkeoaaGreatDoor
namespace Go.Proofs.YtfhlnelgnnkeoaaGreatDoor
open Go.RowKit
set_option linter.unusedVariables false

set_option maxRecDepth 100000 in
set_option maxHeartbeats 800000 in
theorem take_no (l : List Qp.T) (ws : List ByteArray) (wa ta : Option Addr) (c bp i wc : Nat) (e : Int) (w : World) (hp : Qp.P w bp ta l.length c (i : Nat) e) (hr : Qp.RT w ta l) (hw : Dk.RK w wa ws) (hl : ws.length ≤ 100) (hf : l.length ≤ 10000) (hin : Qp.inW ws (Qp.tk l i).t = false) :
    Calls Tryz.prog 60 #[.pointer (some ⟨bp, 0, none⟩), .slice wa ws.length wc] w fun r w' => r = .panicked (Qp.gave (Qp.pl l e i)) ∧ Below w.heap.size w w' := by
  have HS := hide (show Calls Tryz.prog 57 #[.pointer (some ⟨bp, 0, none⟩), .slice wa ws.length wc] w fun r w' => r = .returned (.bool false) ∧ Below w.heap.size w w' by
    have := sees_any l ws wa ta c bp i wc e w hp hr hw hl hf
    rw [hin] at this
    exact this)
  have HG := hide (fun (W : World) (hb : Below w.heap.size w W) => giveUp_yes l ta c bp i e W (hp.below hb) (hr.below hb) hf)
  clear hp hr hw hin
  generalize Qp.pl l e i = a at *
  go_enter Tryz.func60, Tryz.ntmps60
  go_wp2_with fail
  refine (unhide HS).mono ?_
  rintro r w1 ⟨rfl, hb1⟩
  have HB1 := hide hb1
  clear hb1
  go_wp2_with fail
  refine ((unhide HG) _ (unhide HB1)).mono ?_
  rintro r w2 ⟨rfl, hb2⟩
  have HB2 := hide ((unhide HB1).trans (hb2.mono (unhide HB1).size))
  clear hb2
  go_wp2_with fail
  exact ⟨rfl, rfl, unhide HB2⟩

theorem take_yes (l : List Qp.T) (ws : List ByteArray) (wa ta : Option Addr) (c bp i wc : Nat) (e : Int) (w : World) (hp : Qp.P w bp ta l.length c (i : Nat) e) (hr : Qp.RT w ta l) (hw : Dk.RK w wa ws) (hl : ws.length ≤ 100) (hf : l.length ≤ 10000) (h0 : Qp.inW ws ⟨#[]⟩ = false) (hin : Qp.inW ws (Qp.tk l i).t = true) :
    Calls Tryz.prog 60 #[.pointer (some ⟨bp, 0, none⟩), .slice wa ws.length wc] w fun r w' => r = .returned (.string (Qp.tk l i).t) ∧ Qp.P w' bp ta l.length c ((i + 1 : Nat) : Int) e ∧ Qk.But1 bp w.heap.size w w' := by
  have hi := Qp.lt_of_in h0 hin
  have hx := List.getElem?_eq_getElem hi
  rw [Qp.tk_some hx] at hin ⊢
  exact take_ok l ws wa ta l.length c bp i wc e _ w hp hr hw hl hx hi hf hin

theorem Qp.one_rk {W : World} (s : ByteArray) (hs : s.size ≤ maxLen) : Dk.RK (W.alloc (Obj.cells #[.string s] 9)) (some ⟨W.heap.size, 0, none⟩) [s] :=
  ⟨fun i t hi => by
    match i, hi with
    | 0, hi => cases hi; exact ⟨W.heap.size, 0, rfl, by simp, by go_simp, hs⟩
    | _ + 1, hi => simp at hi⟩

set_option maxRecDepth 100000 in
set_option maxHeartbeats 800000 in
theorem takeIf_any (l : List Qp.T) (s : ByteArray) (ta : Option Addr) (c bp i : Nat) (e : Int) (w : World) (hp : Qp.P w bp ta l.length c (i : Nat) e) (hr : Qp.RT w ta l) (hf : l.length ≤ 10000) (hs : s.size ≤ maxLen) (h0 : Qp.inW [s] ⟨#[]⟩ = false) (b : Bool) (hB : Qp.inW [s] (Qp.tk l i).t = b) :
    Calls Tryz.prog 87 #[.pointer (some ⟨bp, 0, none⟩), .string s] w fun r w' => r = .returned (.bool b) ∧ Qp.P w' bp ta l.length c ((if b then i + 1 else i : Nat) : Int) e ∧ Qk.But1 bp w.heap.size w w' := by
  have hbA := (Below.refl w.heap.size w).alloc (Nat.le_refl _) (Obj.cells #[.string s] 9)
  have HS := hide (show Calls Tryz.prog 57 #[.pointer (some ⟨bp, 0, none⟩), .slice (some ⟨w.heap.size, 0, none⟩) 1 1] (w.alloc (Obj.cells #[.string s] 9)) fun r w' => r = .returned (.bool b) ∧ Below w.heap.size w w' by
    have := sees_any l [s] (some ⟨w.heap.size, 0, none⟩) ta c bp i 1 e _ (hp.below hbA) (hr.below hbA) (Qp.one_rk s hs) (show 1 ≤ 100 by decide) hf
    rw [hB] at this
    exact this.mono fun r w' ⟨k1, k2⟩ => ⟨k1, below_two k2⟩)
  have hil : b = true → i < l.length := fun h => Qp.lt_of_in h0 (hB.trans h)
  have HP := hide hp
  have hblt := hp.lt
  clear hp hr hB hbA
  cases b
  · go_enter Tryz.func87, Tryz.ntmps87
    go_wp2_with fail
    refine (unhide HS).mono ?_
    rintro r w1 ⟨rfl, hb1⟩
    have HP1 := hide ((unhide HP).below hb1)
    have HB1 := hide ((Qk.But1.refl bp w.heap.size w).below hb1)
    clear hb1
    go_wp2_with fail
    go_ret
    exact ⟨rfl, unhide HP1, unhide HB1⟩
  · have hi := hil rfl
    go_enter Tryz.func87, Tryz.ntmps87
    go_wp2_with fail
    refine (unhide HS).mono ?_
    rintro r w1 ⟨rfl, hb1⟩
    obtain ⟨c0, c1, c2, f1⟩ := (unhide HP).below hb1
    have HN := hide (((unhide HP).below hb1).next ((i : Int) + 1))
    have HBU := hide (((Qk.But1.refl bp w.heap.size w).below hb1).set (o := 1) (.int .i64 ((i : Int) + 1)))
    have hz1 := hb1.size
    clear hb1
    go_wp2_with fail
    go_ret
    exact ⟨rfl, by simpa using unhide HN, unhide HBU⟩

set_option maxHeartbeats 400000 in
theorem qmayBeAny_any (t : ByteArray) (a b m : Int) (w : World) :
    Calls Tryz.prog 52 #[.agg #[.string t, .int .i64 a, .int .i64 b, .int .i64 m]] w fun r w' => r = .returned (.bool (b == -1)) ∧ Below w.heap.size w w' := by
  go_enter Tryz.func52, Tryz.ntmps52
  go_wp2_with fail
  go_ret
  exact ⟨rfl, (Below.refl _ _).alloc (Nat.le_refl _) _⟩
set_option maxHeartbeats 400000 in
theorem mayBeBelow_any (t : ByteArray) (a b m : Int) (w : World) :
    Calls Tryz.prog 88 #[.agg #[.string t, .int .i64 a, .int .i64 b, .int .i64 m]] w fun r w' => r = .returned (.bool (decide (b < -1))) ∧ Below w.heap.size w w' := by
  go_enter Tryz.func88, Tryz.ntmps88
  go_wp2_with fail
  go_ret
  exact ⟨rfl, (Below.refl _ _).alloc (Nat.le_refl _) _⟩

theorem Qp.bytes_below (w : World) (t : TypeId) (s : ByteArray) : Below w.heap.size w (Lib.bytesWorld w t s) :=
  ⟨rfl, rfl, rfl, by rw [Lib.bytesWorld_size]; omega, fun q hq => Lib.bytesWorld_at_old w t s q hq⟩
theorem Atoi_any (s : ByteArray) (n : Int) (hl : s.size ≤ 18) (h : Lib.atoi s.data.toList = some n) (w : World) :
    Calls Tryz.prog 102 #[.string s] w fun r w' => r = .returned (.tuple #[.int .i64 n, .nilIface]) ∧ Below w.heap.size w w' :=
  (Any.strconv_Atoi Tryz.laysAtoi s n hl h w).mono fun r w' ⟨k1, t, k2⟩ => ⟨k1, by rw [k2]; exact Qp.bytes_below _ _ _⟩

/-- Each number among the tokens has so few digits that it can be read. -/
def Qp.Num (l : List Qp.T) : Prop := ∀ i, (Qp.tk l i).k = 2 → ∃ n : Nat, Lib.atoi (Qp.tk l i).t.data.toList = some (n : Int) ∧ n < 100000000 ∧ (Qp.tk l i).t.size ≤ 18
/-- The number of a text. -/
def Qp.val (t : ByteArray) : Int := (Lib.atoi t.data.toList).getD 0
def Qp.dig (l : List Qp.T) (i : Nat) : Except Nat (Int × Nat) := if (Qp.tk l i).k = 2 then .ok (Qp.val (Qp.tk l i).t, i + 1) else .error i
def Qp.num (l : List Qp.T) (b : Int) (i : Nat) : Except Nat (Int × Nat) :=
  if (b == -1 && Qp.inW [⟨#[97, 110, 121]⟩] (Qp.tk l i).t) = true then .ok (-1, i + 1)
  else if (decide (b < -1) && Qp.inW [⟨#[45]⟩] (Qp.tk l i).t) = true then
    (if Qp.inW [⟨#[48]⟩] (Qp.tk l (i + 1)).t = true then .error (i + 1) else match Qp.dig l (i + 1) with | .error j => .error j | .ok (n, j) => .ok (-n, j))
  else Qp.dig l i
/-- What a method that reads a number leaves. -/
def Qp.Out (bp : Nat) (ta : Option Addr) (l : List Qp.T) (c : Nat) (e : Int) (w : World) (o : Except Nat (Int × Nat)) (r : Ending) (w' : World) : Prop :=
  match o with
  | .error j => r = .panicked (Qp.gave (Qp.pl l e j)) ∧ Qk.But1 bp w.heap.size w w'
  | .ok (m, j) => r = .returned (.int .i64 m) ∧ Qp.P w' bp ta l.length c (j : Nat) e ∧ Qk.But1 bp w.heap.size w w'

set_option maxRecDepth 100000 in
set_option maxHeartbeats 800000 in
theorem digits_any (l : List Qp.T) (ta : Option Addr) (c bp i : Nat) (e : Int) (w : World) (hp : Qp.P w bp ta l.length c (i : Nat) e) (hr : Qp.RT w ta l) (hf : l.length ≤ 10000) (hN : Qp.Num l) :
    Calls Tryz.prog 89 #[.pointer (some ⟨bp, 0, none⟩)] w (Qp.Out bp ta l c e w (Qp.dig l i)) := by
  have HA := hide (fun (W : World) (hb : Below w.heap.size w W) => ahead_any l ta c bp i e W (hp.below hb) (hr.below hb) hf)
  have HG := hide (fun (W : World) (hb : Below w.heap.size w W) => giveUp_yes l ta c bp i e W (hp.below hb) (hr.below hb) hf)
  have HP := hide hp
  have hblt := hp.lt
  have HD := hide (show Qp.dig l i = if (Qp.tk l i).k = 2 then .ok (Qp.val (Qp.tk l i).t, i + 1) else .error i from rfl)
  have HN := hide (hN i)
  have hil : (Qp.tk l i).k = 2 → i < l.length := fun h => by
    by_cases hi : i < l.length
    · exact hi
    · rw [Qp.tk_none (by omega)] at h; cases h
  clear hp hr hN
  generalize Qp.dig l i = D at *
  generalize Qp.tk l i = x at *
  have hfd : ∀ W : World, (Instr.field 80 (.agg #[.int .i64 x.k, .int .i64 x.a, .string x.t]) 0).run Tryz.prog W = .ok (.int .i64 x.k) W := fun _ => by kernel_rfl
  have hfd2 : ∀ W : World, (Instr.field 80 (.agg #[.int .i64 x.k, .int .i64 x.a, .string x.t]) 2).run Tryz.prog W = .ok (.string x.t) W := fun _ => by kernel_rfl
  by_cases h2 : x.k = 2
  · obtain ⟨n, ha, hn, hs⟩ := (unhide HN) h2
    have hi := hil h2
    have HAT := hide (fun (W : World) => Atoi_any x.t (n : Int) hs ha W)
    have hD := unhide HD
    rw [if_pos h2, show Qp.val x.t = (n : Int) by unfold Qp.val; rw [ha]; rfl] at hD
    subst hD
    have h2b : (x.k != 2) = false := by rw [h2]; rfl
    clear HN ha hs hil HD HG h2
    go_enter Tryz.func89, Tryz.ntmps89
    go_wp2_with fail
    refine ((unhide HA) _ (Below.refl _ _)).mono ?_
    rintro r w1 ⟨rfl, hb1⟩
    have HB1 := hide hb1
    clear hb1
    go_wp2_with fail
    refine (giveUp_no _ _).mono ?_
    rintro r w2 ⟨rfl, hw2⟩
    obtain rfl : w1 = w2 := hw2.symm
    go_wp2_with fail
    refine ((unhide HA) _ (unhide HB1)).mono ?_
    rintro r w3 ⟨rfl, hb3⟩
    have HB3 := hide ((unhide HB1).trans (hb3.mono (unhide HB1).size))
    clear hb3
    go_wp2_with fail
    refine ((unhide HAT) _).mono ?_
    rintro r w4 ⟨rfl, hb4⟩
    have HB4 := hide ((unhide HB3).trans (hb4.mono (unhide HB3).size))
    clear hb4
    obtain ⟨c0, c1, c2, f1⟩ := (unhide HP).below (unhide HB4)
    have HNX := hide (((unhide HP).below (unhide HB4)).next ((i : Int) + 1))
    have HBU := hide (((Qk.But1.refl bp w.heap.size w).below (unhide HB4)).set (o := 1) (.int .i64 ((i : Int) + 1)))
    have hz4 := (unhide HB4).size
    go_wp2_with fail
    go_ret
    exact ⟨rfl, by simpa using unhide HNX, unhide HBU⟩
  · have hD := unhide HD
    rw [if_neg h2] at hD
    subst hD
    have h2b : (x.k != 2) = true := by simpa using h2
    clear HN hil HD
    go_enter Tryz.func89, Tryz.ntmps89
    go_wp2_with fail
    refine ((unhide HA) _ (Below.refl _ _)).mono ?_
    rintro r w1 ⟨rfl, hb1⟩
    have HB1 := hide hb1
    clear hb1
    go_wp2_with fail
    refine ((unhide HG) _ (unhide HB1)).mono ?_
    rintro r w2 ⟨rfl, hb2⟩
    have HB2 := hide ((Qk.But1.refl bp w.heap.size w).below ((unhide HB1).trans (hb2.mono (unhide HB1).size)))
    clear hb2
    go_wp2_with fail
    exact ⟨rfl, rfl, unhide HB2⟩

theorem Qp.neg_run (n : Nat) (hn : n < 100000000) (W : World) : (Op.unary .neg (.int .i64 (n : Int))).run Tryz.prog W = .ok (.int .i64 (-(n : Int))) W := by
  have h : IntKind.i64.wrap (-(n : Int)) = -(n : Int) := by
    rw [IntKind.wrap_i64]
    omega
  unfold Op.unary Op.intArith
  simp [go_sem, h]
/-- A rule, as it lies. -/
structure Qp.Ru (W : World) (g : Nat) (t : ByteArray) (a b m : Int) : Prop where
  c0 : W.cell? ⟨g, 0, none⟩ = some (.string t)
  c1 : W.cell? ⟨g, 1, none⟩ = some (.int .i64 a)
  c2 : W.cell? ⟨g, 2, none⟩ = some (.int .i64 b)
  c3 : W.cell? ⟨g, 3, none⟩ = some (.int .i64 m)
theorem Qp.Ru.lt {W : World} {g : Nat} {t : ByteArray} {a b m : Int} (h : Qp.Ru W g t a b m) : g < W.heap.size := World.block_lt_of_cell? W _ h.c0
theorem Qp.Ru.but {W W' : World} {g bp : Nat} {t : ByteArray} {a b m : Int} (h : Qp.Ru W g t a b m) (hb : Qk.But1 bp W.heap.size W W') (hne : g ≠ bp) : Qp.Ru W' g t a b m :=
  ⟨(hb.cell h.lt hne).trans h.c0, (hb.cell h.lt hne).trans h.c1, (hb.cell h.lt hne).trans h.c2, (hb.cell h.lt hne).trans h.c3⟩
theorem Qp.Ru.later {W W' : World} {g : Nat} {t : ByteArray} {a b m : Int} (h : Qp.Ru W g t a b m) (hb : Below W.heap.size W W') : Qp.Ru W' g t a b m :=
  ⟨(hb.cell (p := ⟨g, 0, none⟩) h.lt).trans h.c0, (hb.cell (p := ⟨g, 1, none⟩) h.lt).trans h.c1, (hb.cell (p := ⟨g, 2, none⟩) h.lt).trans h.c2, (hb.cell (p := ⟨g, 3, none⟩) h.lt).trans h.c3⟩
theorem Qp.Out.of {bp : Nat} {ta : Option Addr} {l : List Qp.T} {c : Nat} {e : Int} {w w1 : World} {o : Except Nat (Int × Nat)} {r : Ending} {w' : World} (h : Qp.Out bp ta l c e w1 o r w') (hb : Qk.But1 bp w.heap.size w w1) : Qp.Out bp ta l c e w o r w' := by
  cases o with
  | error j => exact ⟨h.1, hb.trans h.2 hb.size⟩
  | ok p => exact ⟨h.1, h.2.1, hb.trans h.2.2 hb.size⟩

set_option maxRecDepth 100000 in
set_option maxHeartbeats 1600000 in
theorem number_any (l : List Qp.T) (ta : Option Addr) (c bp i : Nat) (e : Int) (t : ByteArray) (a b m : Int) (w : World) (hp : Qp.P w bp ta l.length c (i : Nat) e) (hr : Qp.RT w ta l) (hne : ∀ b o, ta = some ⟨b, o, none⟩ → b ≠ bp) (hf : l.length ≤ 10000) (hN : Qp.Num l) :
    Calls Tryz.prog 61 #[.pointer (some ⟨bp, 0, none⟩), .agg #[.string t, .int .i64 a, .int .i64 b, .int .i64 m]] w (Qp.Out bp ta l c e w (Qp.num l b i)) := by
  have HD := hide (fun (W : World) (k : Nat) (h1 : Qp.P W bp ta l.length c (k : Nat) e) (h2 : Qp.RT W ta l) => digits_any l ta c bp k e W h1 h2 hf hN)
  have HAny := hide (fun (W : World) (x : Bool) (hx : Qp.inW [⟨#[97, 110, 121]⟩] (Qp.tk l i).t = x) (h1 : Qp.P W bp ta l.length c (i : Nat) e) (h2 : Qp.RT W ta l) => takeIf_any l ⟨#[97, 110, 121]⟩ ta c bp i e W h1 h2 hf (by unfold maxLen; decide) (by simp only [Qp.inW, ByteArray.toList_eq]; decide) x hx)
  have HMin := hide (fun (W : World) (x : Bool) (hx : Qp.inW [⟨#[45]⟩] (Qp.tk l i).t = x) (h1 : Qp.P W bp ta l.length c (i : Nat) e) (h2 : Qp.RT W ta l) => takeIf_any l ⟨#[45]⟩ ta c bp i e W h1 h2 hf (by unfold maxLen; decide) (by simp only [Qp.inW, ByteArray.toList_eq]; decide) x hx)
  have HZero := hide (fun (W : World) (x : Bool) (hx : Qp.inW [⟨#[48]⟩] (Qp.tk l (i + 1)).t = x) (h1 : Qp.P W bp ta l.length c ((i + 1 : Nat) : Int) e) (h2 : Qp.RT W ta l) => show Calls Tryz.prog 57 #[.pointer (some ⟨bp, 0, none⟩), .slice (some ⟨W.heap.size, 0, none⟩) 1 1] (W.alloc (Obj.cells #[.string ⟨#[48]⟩] 9)) fun r w' => r = .returned (.bool x) ∧ Below W.heap.size W w' by
    have hbA := (Below.refl W.heap.size W).alloc (Nat.le_refl _) (Obj.cells #[.string ⟨#[48]⟩] 9)
    have := sees_any l [⟨#[48]⟩] (some ⟨W.heap.size, 0, none⟩) ta c bp (i + 1) 1 e _ (h1.below hbA) (h2.below hbA) (Qp.one_rk _ (by unfold maxLen; decide)) (show 1 ≤ 100 by decide) hf
    rw [hx] at this
    exact this.mono fun r w' ⟨k1, k2⟩ => ⟨k1, below_two k2⟩)
  have HG := hide (fun (W : World) (h1 : Qp.P W bp ta l.length c ((i + 1 : Nat) : Int) e) (h2 : Qp.RT W ta l) => giveUp_yes l ta c bp (i + 1) e W h1 h2 hf)
  have HV := hide (fun (k : Nat) (n : Int) (j : Nat) (h : Qp.dig l k = .ok (n, j)) => show ∃ v : Nat, n = (v : Int) ∧ v < 100000000 by
    unfold Qp.dig at h
    split at h
    · rename_i h2
      obtain ⟨v, h3, h4, _⟩ := hN k h2
      cases h
      exact ⟨v, by unfold Qp.val; rw [h3]; rfl, h4⟩
    · cases h)
  have HA1 := hide (fun (W : World) => qmayBeAny_any t a b m W)
  have HA2 := hide (fun (W : World) => mayBeBelow_any t a b m W)
  have HP := hide hp
  have HR := hide hr
  have hblt := hp.lt
  obtain ⟨x1, hx1⟩ : ∃ x, Qp.inW [⟨#[97, 110, 121]⟩] (Qp.tk l i).t = x := ⟨_, rfl⟩
  obtain ⟨x2, hx2⟩ : ∃ x, Qp.inW [⟨#[45]⟩] (Qp.tk l i).t = x := ⟨_, rfl⟩
  obtain ⟨x3, hx3⟩ : ∃ x, Qp.inW [⟨#[48]⟩] (Qp.tk l (i + 1)).t = x := ⟨_, rfl⟩
  obtain ⟨y1, hy1⟩ : ∃ x, (b == -1) = x := ⟨_, rfl⟩
  obtain ⟨y2, hy2⟩ : ∃ x, decide (b < -1) = x := ⟨_, rfl⟩
  rw [hy1] at HA1
  rw [hy2] at HA2
  replace HAny := hide (fun (W : World) => (unhide HAny) W x1 hx1)
  replace HMin := hide (fun (W : World) => (unhide HMin) W x2 hx2)
  replace HZero := hide (fun (W : World) => (unhide HZero) W x3 hx3)
  unfold Qp.num
  rw [hx1, hx2, hx3, hy1, hy2]
  have hy12 : y1 = true → y2 = false := fun h => by
    rw [← hy1] at h
    rw [← hy2]
    have : b = -1 := by simpa using h
    subst this
    rfl
  clear hp hr hN hx1 hx2 hx3 hy1 hy2
  have hbA := (Below.refl w.heap.size w).alloc (Nat.le_refl _) (Obj.cells #[.string t, .int .i64 a, .int .i64 b, .int .i64 m] 63)
  have HUA := hide (show Qp.Ru (w.alloc (Obj.cells #[.string t, .int .i64 a, .int .i64 b, .int .i64 m] 63)) w.heap.size t a b m from ⟨by go_simp, by go_simp, by go_simp, by go_simp⟩)
  have HBA := hide hbA
  have HRL := hide (fun (W : World) (hb : Qk.But1 bp w.heap.size w W) => (unhide HR).but hne hb)
  clear hbA
  cases y1
  · cases y2
    · go_enter Tryz.func61, Tryz.ntmps61
      go_wp2_with fail
      generalize (w.alloc (Obj.cells #[.string t, .int .i64 a, .int .i64 b, .int .i64 m] 63)) = WA at *
      refine ((unhide HA1) _).mono ?_
      rintro r w1 ⟨rfl, hb1⟩
      have HU1 := hide ((unhide HUA).later hb1)
      have HB1 := hide ((unhide HBA).trans (hb1.mono (unhide HBA).size))
      clear hb1
      obtain ⟨u0, u1, u2, u3⟩ := unhide HU1
      go_wp2_with fail
      refine ((unhide HA2) _).mono ?_
      rintro r w2 ⟨rfl, hb2⟩
      have HB2 := hide ((unhide HB1).trans (hb2.mono (unhide HB1).size))
      have HBU2 := hide ((Qk.But1.refl bp w.heap.size w).below (unhide HB2))
      clear hb2 u0 u1 u2 u3
      go_wp2_with fail
      refine ((unhide HD) _ i ((unhide HP).below (unhide HB2)) ((unhide HRL) _ (unhide HBU2))).mono ?_
      intro r w3 ho
      cases hd : Qp.dig l i with
      | error j =>
        rw [hd] at ho
        obtain ⟨rfl, hb3⟩ := ho
        have HB3 := hide ((unhide HBU2).trans hb3 (unhide HBU2).size)
        clear hb3
        go_wp2_with fail
        exact ⟨rfl, rfl, unhide HB3⟩
      | ok p =>
        obtain ⟨v, j⟩ := p
        rw [hd] at ho
        obtain ⟨rfl, hp3, hb3⟩ := ho
        have HB3 := hide (And.intro hp3 ((unhide HBU2).trans hb3 (unhide HBU2).size))
        clear hb3 hp3
        go_wp2_with fail
        go_ret
        exact ⟨rfl, (unhide HB3).1, (unhide HB3).2⟩
    · go_enter Tryz.func61, Tryz.ntmps61
      go_wp2_with fail
      generalize (w.alloc (Obj.cells #[.string t, .int .i64 a, .int .i64 b, .int .i64 m] 63)) = WA at *
      refine ((unhide HA1) _).mono ?_
      rintro r w1 ⟨rfl, hb1⟩
      have HU1 := hide ((unhide HUA).later hb1)
      have HB1 := hide ((unhide HBA).trans (hb1.mono (unhide HBA).size))
      clear hb1
      obtain ⟨u0, u1, u2, u3⟩ := unhide HU1
      go_wp2_with fail
      refine ((unhide HA2) _).mono ?_
      rintro r w2 ⟨rfl, hb2⟩
      have HB2 := hide ((unhide HB1).trans (hb2.mono (unhide HB1).size))
      have HBU2 := hide ((Qk.But1.refl bp w.heap.size w).below (unhide HB2))
      clear hb2 u0 u1 u2 u3
      go_wp2_with fail
      refine ((unhide HMin) _ ((unhide HP).below (unhide HB2)) ((unhide HRL) _ (unhide HBU2))).mono ?_
      cases x2
      · rintro r w3 ⟨rfl, hp3, hb3⟩
        have HBU3 := hide ((unhide HBU2).trans hb3 (unhide HBU2).size)
        have HP3 := hide hp3
        clear hb3 hp3
        go_wp2_with fail
        refine ((unhide HD) _ (i) (unhide HP3) ((unhide HRL) _ (unhide HBU3))).mono ?_
        intro r w9 ho
        cases hd : Qp.dig l (i) with
        | error j =>
          rw [hd] at ho
          obtain ⟨rfl, hb9⟩ := ho
          have HB9 := hide ((unhide HBU3).trans hb9 (unhide HBU3).size)
          clear hb9
          go_wp2_with fail
          exact ⟨rfl, rfl, unhide HB9⟩
        | ok p =>
          obtain ⟨v, j⟩ := p
          rw [hd] at ho
          obtain ⟨rfl, hp9, hb9⟩ := ho
          have HB9 := hide (And.intro hp9 ((unhide HBU3).trans hb9 (unhide HBU3).size))
          clear hb9 hp9
          go_wp2_with fail
          go_ret
          exact ⟨rfl, (unhide HB9).1, (unhide HB9).2⟩
      · rintro r w3 ⟨rfl, hp3, hb3⟩
        have HBU3 := hide ((unhide HBU2).trans hb3 (unhide HBU2).size)
        have HP3 := hide hp3
        clear hb3 hp3
        go_wp2_with fail
        refine ((unhide HZero) _ (unhide HP3) ((unhide HRL) _ (unhide HBU3))).mono ?_
        cases x3
        · rintro r w4 ⟨rfl, hb4⟩
          have HBU4 := hide ((unhide HBU3).below (hb4.mono (unhide HBU3).size))
          have HP4 := hide ((unhide HP3).below hb4)
          clear hb4
          go_wp2_with fail
          refine (giveUp_no _ _).mono ?_
          rintro r w5 ⟨rfl, hw5⟩
          obtain rfl : w4 = w5 := hw5.symm
          go_wp2_with fail
          refine ((unhide HD) _ (i + 1) (unhide HP4) ((unhide HRL) _ (unhide HBU4))).mono ?_
          intro r w9 ho
          cases hd : Qp.dig l (i + 1) with
          | error j =>
            rw [hd] at ho
            obtain ⟨rfl, hb9⟩ := ho
            have HB9 := hide ((unhide HBU4).trans hb9 (unhide HBU4).size)
            clear hb9
            go_wp2_with fail
            exact ⟨rfl, rfl, unhide HB9⟩
          | ok p =>
            obtain ⟨v, j⟩ := p
            rw [hd] at ho
            obtain ⟨n, rfl, hn⟩ := (unhide HV) _ v j hd
            have hneg := Qp.neg_run n hn
            obtain ⟨rfl, hp9, hb9⟩ := ho
            have HB9 := hide (And.intro hp9 ((unhide HBU4).trans hb9 (unhide HBU4).size))
            clear hb9 hp9
            go_wp2_with fail
            go_ret
            exact ⟨rfl, (unhide HB9).1, (unhide HB9).2⟩
        · rintro r w4 ⟨rfl, hb4⟩
          have HBU4 := hide ((unhide HBU3).below (hb4.mono (unhide HBU3).size))
          have HP4 := hide ((unhide HP3).below hb4)
          clear hb4
          go_wp2_with fail
          refine ((unhide HG) _ (unhide HP4) ((unhide HRL) _ (unhide HBU4))).mono ?_
          rintro r w5 ⟨rfl, hb5⟩
          have HBU5 := hide ((unhide HBU4).below (hb5.mono (unhide HBU4).size))
          clear hb5
          go_wp2_with fail
          exact ⟨rfl, rfl, unhide HBU5⟩
  · obtain rfl := hy12 rfl
    cases x1
    · go_enter Tryz.func61, Tryz.ntmps61
      go_wp2_with fail
      generalize (w.alloc (Obj.cells #[.string t, .int .i64 a, .int .i64 b, .int .i64 m] 63)) = WA at *
      refine ((unhide HA1) _).mono ?_
      rintro r w1 ⟨rfl, hb1⟩
      have HU1 := hide ((unhide HUA).later hb1)
      have HB1 := hide ((unhide HBA).trans (hb1.mono (unhide HBA).size))
      clear hb1
      obtain ⟨u0, u1, u2, u3⟩ := unhide HU1
      go_wp2_with fail
      refine ((unhide HAny) _ ((unhide HP).below (unhide HB1)) ((unhide HRL) _ ((Qk.But1.refl bp w.heap.size w).below (unhide HB1)))).mono ?_
      rintro r w2 ⟨rfl, hp2, hb2⟩
      have HBU2 := hide (((Qk.But1.refl bp w.heap.size w).below (unhide HB1)).trans hb2 (unhide HB1).size)
      have HP2 := hide hp2
      have HU2 := hide ((unhide HU1).but hb2 (by omega))
      clear hp2 hb2 u0 u1 u2 u3
      obtain ⟨u0, u1, u2, u3⟩ := unhide HU2
      go_wp2_with fail
      refine ((unhide HA2) _).mono ?_
      rintro r w3 ⟨rfl, hb3⟩
      have HBU3 := hide ((unhide HBU2).below (hb3.mono (unhide HBU2).size))
      have HP3 := hide ((unhide HP2).below hb3)
      clear hb3 u0 u1 u2 u3
      go_wp2_with fail
      refine ((unhide HD) _ (i) (unhide HP3) ((unhide HRL) _ (unhide HBU3))).mono ?_
      intro r w9 ho
      cases hd : Qp.dig l (i) with
      | error j =>
        rw [hd] at ho
        obtain ⟨rfl, hb9⟩ := ho
        have HB9 := hide ((unhide HBU3).trans hb9 (unhide HBU3).size)
        clear hb9
        go_wp2_with fail
        exact ⟨rfl, rfl, unhide HB9⟩
      | ok p =>
        obtain ⟨v, j⟩ := p
        rw [hd] at ho
        obtain ⟨rfl, hp9, hb9⟩ := ho
        have HB9 := hide (And.intro hp9 ((unhide HBU3).trans hb9 (unhide HBU3).size))
        clear hb9 hp9
        go_wp2_with fail
        go_ret
        exact ⟨rfl, (unhide HB9).1, (unhide HB9).2⟩
    · go_enter Tryz.func61, Tryz.ntmps61
      go_wp2_with fail
      generalize (w.alloc (Obj.cells #[.string t, .int .i64 a, .int .i64 b, .int .i64 m] 63)) = WA at *
      refine ((unhide HA1) _).mono ?_
      rintro r w1 ⟨rfl, hb1⟩
      have HU1 := hide ((unhide HUA).later hb1)
      have HB1 := hide ((unhide HBA).trans (hb1.mono (unhide HBA).size))
      clear hb1
      obtain ⟨u0, u1, u2, u3⟩ := unhide HU1
      go_wp2_with fail
      refine ((unhide HAny) _ ((unhide HP).below (unhide HB1)) ((unhide HRL) _ ((Qk.But1.refl bp w.heap.size w).below (unhide HB1)))).mono ?_
      rintro r w2 ⟨rfl, hp2, hb2⟩
      have HBU2 := hide (((Qk.But1.refl bp w.heap.size w).below (unhide HB1)).trans hb2 (unhide HB1).size)
      have HP2 := hide hp2
      clear hp2 hb2 u0 u1 u2 u3
      go_wp2_with fail
      go_ret
      exact ⟨rfl, unhide HP2, unhide HBU2⟩
end Go.Proofs.YtfhlnelgnnkeoaaGreatDoor
