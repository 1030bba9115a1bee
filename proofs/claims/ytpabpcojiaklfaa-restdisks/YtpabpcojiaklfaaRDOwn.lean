/- For every number of sectors, every list of batches, every list of events and all that is kept, the law RestDisks returns true and leaves its arguments as they were: disks, ways and batches that came, and were changed, change nothing that was handed in, nor what comes next; no condition. -/
import Derived.Test.YtpabpcojiaklfaaRows
import Derived.Test.YtpabpcojiaklfaaRWalk
import Derived.Test.YtpabpcojiaklfaaLArgs
import Derived.WalkKit
import Derived.ProofKit
import Derived.OpenShut
import Derived.ShutString
import Derived.SizedLaws
namespace Go.Proofs.Ytpabpcojiaklfaa.restDisks
open Go.ChangeShapes Go.WideShapes Go.ChangeAt Go.RowKit
open Go.ChangeMaps (open_string shut_string)
set_option linter.unusedVariables false

theorem own : ownKnob Try.prog.godebug = none := by kernel_rfl
theorem laidOut : laidOutB Try.prog = true := by kernel_rfl

theorem walk (n : Int) (bs : List (List Ev)) (ba : Option Addr) (bc : Nat) (l : List Ev) (la : Option Addr) (lc : Nat) (ps : List Bool) (ka : Option Addr) (kc : Nat) (w : World)
    (hb : Lg.RL w ba bs) (hl : Cl.RE w la l) (hp : Dk.RB w ka ps) (hbl : bs.length ≤ 35184372088832) (hll : l.length * 48 ≤ 140737488351232) :
    Calls Try.prog 7 #[.int .i64 n, .slice ba bs.length bc, .slice la l.length lc, .slice ka ps.length kc] w fun e w' => e = .returned (.bool true) ∧ Below w.heap.size w w' := by
  by_cases h : n < 4 ∨ 600 < n
  · exact rdisks_err n ba _ bc la _ lc ka _ kc w h
  · obtain ⟨m, rfl⟩ : ∃ m : Nat, n = m := ⟨n.toNat, by omega⟩
    exact rdisks_ok m bs ba bc l la lc ps ka kc w (by omega) (by omega) hb hl hp hbl hll

set_option maxRecDepth 100000 in
set_option maxHeartbeats 1600000 in
theorem lifted (os : Os) (started : os.Started) (H : Type) (enc : TypeId × Value → H) :
    ReturnsInHanded {} Try.checked os 7 .any (Rows.restDisksSpec.pre6 enc Try.prog Try.f7 Rows.restDisksRow.domain false) (Rows.restDisksSpec.post enc Try.prog Try.f7 false true false false) := by
  refine returnsInHanded_of_change_sized (C := Try.checked) own started (by kernel_rfl) Try.func7
    (ChangeSpec.witness6 (enc := enc) (C := Try.checked) false ⟨#[], #[.int .i64 0, .slice none 0 0, .slice none 0 0, .slice none 0 0], []⟩ 8 (by kernel_rfl) (by kernel_rfl) (by kernel_rfl) (by kernel_rfl)) ?_
  intro W base args ds gs before hval0 hW hcnd hsz0 _
  have hsz : (DataW.weightsEach Try.prog (Try.f7.params.toList ++ Rows.restDisksSpec.plain.varTypes Try.prog) (ds ++ gs)).all (· ≤ reachBytes) = true := hsz0
  have hval : ∀ (j : Nat) t v, Try.f7.params[j]? = some t → args[j]? = some v → Value.okWide Try.prog W .any base t v := hval0
  have hW' := hW
  obtain ⟨p, q, hA0, hV, rfl, hfz, hnd⟩ := hW
  have hA : DataW.TrodAll enc Try.prog W 0 (fun _ => true) true Try.f7.params.toList args.toList ds p := hA0
  rw [Try.params7] at hA hval hsz
  obtain ⟨v0, vs0, d0, ds0, p0, q0, hargs, rfl, rfl, h0, r0⟩ := trodAll_cons hA
  obtain ⟨v1, vs1, d1, ds1, p1, q1, rfl, rfl, rfl, h1, r1⟩ := trodAll_cons r0
  obtain ⟨v2, vs2, d2, ds2, p2, q2, rfl, rfl, rfl, h2, r2⟩ := trodAll_cons r1
  obtain ⟨v3, vs3, d3, ds3, p3, q3, rfl, rfl, rfl, h3, r3⟩ := trodAll_cons r2
  obtain ⟨rfl, rfl, rfl⟩ := trodAll_nil r3
  obtain rfl : args = #[v0, v1, v2, v3] := Array.ext' hargs
  obtain ⟨rfl, rfl⟩ := trodVars_none hV
  have h0k := h0
  have h1k := h1
  have h2k := h2
  have h3k := h3
  obtain ⟨n, rfl⟩ := okWide_int Try.underlying3 (hval 0 3 v0 rfl rfl)
  obtain ⟨a1, len1, cap1, rfl⟩ := okWide_slice Try.underlying22 (hval 1 22 v1 rfl rfl)
  obtain ⟨a2, len2, cap2, rfl⟩ := okWide_slice Try.underlying34 (hval 2 34 v2 rfl rfl)
  obtain ⟨a3, len3, cap3, rfl⟩ := okWide_slice Try.underlying24 (hval 3 24 v3 rfl rfl)
  obtain ⟨fuel1, hf1⟩ := h1
  obtain ⟨ba, bs, bc, e1, hb, hd1⟩ := Lg.open_batches hf1
  simp [Value.cells] at e1
  obtain ⟨rfl, rfl, rfl⟩ := e1
  obtain ⟨fuel2, hf2⟩ := h2
  obtain ⟨la, l, lc, e2, hl, hd2⟩ := Cl.open_events (by simpa [Value.cells] using hf2)
  cases e2
  obtain ⟨fuel3, hf3⟩ := h3
  obtain ⟨ka, ps, kc, e3, hp⟩ := Dk.open_bits hf3
  simp [Value.cells] at e3
  obtain ⟨rfl, rfl, rfl⟩ := e3
  have er : reachBytes = 140737488351232 := rfl
  have hbl : bs.length ≤ 35184372088832 := by
    rcases hd1 with ⟨_, h0⟩ | ⟨elems, spare, hx, he⟩
    · omega
    · simp only at hx
      subst hx
      have := sized_slice hsz (j := 1) (t := 22) (e := 34) rfl rfl Try.underlying22
      rw [Try.bytesEvs, he] at this
      omega
  have hll : l.length * 48 ≤ 140737488351232 := by
    rcases hd2 with ⟨_, h0⟩ | ⟨elems, spare, hx, he⟩
    · omega
    · subst hx
      have := sized_slice hsz (j := 2) (t := 34) (e := 70) rfl rfl Try.underlying34
      rw [Try.bytesEv, he] at this
      omega
  clear hA0 hval0
  simp only [List.append_nil] at hW'
  have hlt : ∀ x ∈ p0 ++ (p1 ++ (p2 ++ p3)), x.block < W.heap.size := fun x hx => by simpa using hW'.lt x (by simpa using hx)
  refine (walk n bs _ _ l _ _ ps _ _ W hb hl hp hbl hll).mono fun e W' ⟨he, bel⟩ => ?_
  subst he
  exact ⟨_, rfl, _, _, _, [], p0 ++ (p1 ++ (p2 ++ (p3 ++ []))), [], hW', trodAll_mk1 (shut_bool Try.underlying4 _), trodAll_cons_mk (Below.trod laidOut (by kernel_rfl) (of_decide_eq_true (by kernel_rfl)) h0k bel (fun x hx => hlt x (by simp [hx]))) (trodAll_cons_mk (Below.trod laidOut (by kernel_rfl) (of_decide_eq_true (by kernel_rfl)) h1k bel (fun x hx => hlt x (by simp [hx]))) (trodAll_cons_mk (Below.trod laidOut (by kernel_rfl) (of_decide_eq_true (by kernel_rfl)) h2k bel (fun x hx => hlt x (by simp [hx]))) (trodAll_cons_mk (Below.trod laidOut (by kernel_rfl) (of_decide_eq_true (by kernel_rfl)) h3k bel (fun x hx => hlt x (by simp [hx]))) trodAll_mk0))), rfl, bel.frame _, fun h => by cases h⟩

theorem over : Rows.restDisksRow.holds Try.pinned (OpenSpec.ofChange Rows.restDisksSpec) :=
  OpenClaim.holds_of_wide 7 Try.f7 rfl rfl rfl rfl rfl rfl rfl ⟨rfl, rfl, rfl, rfl, rfl⟩ rfl rfl rfl rfl rfl (by kernel_rfl) Try.func7 (by kernel_rfl)
    (of_decide_eq_true (by kernel_rfl)) (by unfold Func.isWrapper; first | (rw [if_pos (by decide +kernel)]; kernel_rfl) | (rw [if_neg (by decide +kernel)]; exact ⟨rfl, rfl⟩))
    (fun os started H enc _ => lifted os started H enc)

theorem proved : Rows.RestDisksSaid :=
  over
end Go.Proofs.Ytpabpcojiaklfaa.restDisks
