/- For every disk, count of sectors, place, text and row of bits, the law DiskTells returns true and leaves its arguments as they were: all calls of disks answer just what the document's own functions answer, errors too; no condition. -/
import Derived.Test.YtlbcmgphibeeiaaRows
import Derived.Test.YtlbcmgphibeeiaaDTells1
import Derived.Test.YtlbcmgphibeeiaaDTells2
import Derived.Test.YtlbcmgphibeeiaaDTells3
import Derived.Test.YtlbcmgphibeeiaaDTells4
import Derived.Test.YtlbcmgphibeeiaaDTells5
import Derived.Test.YtlbcmgphibeeiaaDTells6
import Derived.Test.YtlbcmgphibeeiaaDBegun
import Derived.Test.YtlbcmgphibeeiaaDArg
import Derived.WalkKit
import Derived.ProofKit
import Derived.OpenShut
import Derived.ShutString
import Derived.SizedLaws
namespace Go.Proofs.Ytlbcmgphibeeiaa
open Go.RowKit
set_option linter.unusedVariables false

theorem tells_walk (ka : Option Addr) (ks : List ByteArray) (kc : Nat) (wa : Option Addr) (ws : List (Int × ByteArray)) (wq : Nat) (sec n : Int) (s : ByteArray) (l : List Bool) (ad : Option Addr) (cap : Nat) (w : World) (hk : Dk.RK w ka ks) (hw : Dk.RW w wa ws) (hl : Dk.RB w ad l) (hsm : s.size ≤ maxLen) :
    Calls Try.prog 3 #[.agg #[.slice ka ks.length kc, .slice wa ws.length wq], .int .i64 sec, .int .i64 n, .string s, .slice ad l.length cap] w fun e w' => e = .returned (.bool true) ∧ Below w.heap.size w w' := by
  have B := diskBegun_any
  by_cases h0 : Dk.chk ks ws = 0
  · by_cases h1 : n < 0
    · by_cases s1 : sec < 1
      · exact tells_a2 B ka ks kc wa ws wq sec n s l ad cap w hk hw hl hsm s1 h0 h1
      · by_cases s2 : sec ≤ 600
        · exact tells_c2 B ka ks kc wa ws wq sec n s l ad cap w hk hw hl hsm (by omega) s2 h0 h1
        · exact tells_b2 B ka ks kc wa ws wq sec n s l ad cap w hk hw hl hsm (by omega) (by omega) h0 h1
    · by_cases h2 : n < (ks.length : Int)
      · by_cases h3 : s.size = 32
        · by_cases h4 : ws.length = 600
          · by_cases s1 : sec < 1
            · exact tells_a5 B ka ks kc wa ws wq sec n s l ad cap w hk hw hl hsm s1 h0 (by omega) h2 h3 h4
            · by_cases s2 : sec ≤ 600
              · exact tells_c5 B ka ks kc wa ws wq sec n s l ad cap w hk hw hl hsm (by omega) s2 h0 (by omega) h2 h3 h4
              · exact tells_b5 B ka ks kc wa ws wq sec n s l ad cap w hk hw hl hsm (by omega) (by omega) h0 (by omega) h2 h3 h4
          · by_cases s1 : sec < 1
            · exact tells_a6 B ka ks kc wa ws wq sec n s l ad cap w hk hw hl hsm s1 h0 (by omega) h2 h3 h4
            · by_cases s2 : sec ≤ 600
              · exact tells_c6 B ka ks kc wa ws wq sec n s l ad cap w hk hw hl hsm (by omega) s2 h0 (by omega) h2 h3 h4
              · exact tells_b6 B ka ks kc wa ws wq sec n s l ad cap w hk hw hl hsm (by omega) (by omega) h0 (by omega) h2 h3 h4
        · by_cases s1 : sec < 1
          · exact tells_a4 B ka ks kc wa ws wq sec n s l ad cap w hk hw hl hsm s1 h0 (by omega) h2 h3
          · by_cases s2 : sec ≤ 600
            · exact tells_c4 B ka ks kc wa ws wq sec n s l ad cap w hk hw hl hsm (by omega) s2 h0 (by omega) h2 h3
            · exact tells_b4 B ka ks kc wa ws wq sec n s l ad cap w hk hw hl hsm (by omega) (by omega) h0 (by omega) h2 h3
      · by_cases s1 : sec < 1
        · exact tells_a3 B ka ks kc wa ws wq sec n s l ad cap w hk hw hl hsm s1 h0 (by omega) (by omega)
        · by_cases s2 : sec ≤ 600
          · exact tells_c3 B ka ks kc wa ws wq sec n s l ad cap w hk hw hl hsm (by omega) s2 h0 (by omega) (by omega)
          · exact tells_b3 B ka ks kc wa ws wq sec n s l ad cap w hk hw hl hsm (by omega) (by omega) h0 (by omega) (by omega)
  · by_cases s1 : sec < 1
    · exact tells_a1 B ka ks kc wa ws wq sec n s l ad cap w hk hw hl hsm s1 h0
    · by_cases s2 : sec ≤ 600
      · exact tells_c1 B ka ks kc wa ws wq sec n s l ad cap w hk hw hl hsm (by omega) s2 h0
      · exact tells_b1 B ka ks kc wa ws wq sec n s l ad cap w hk hw hl hsm (by omega) (by omega) h0
end Go.Proofs.Ytlbcmgphibeeiaa

namespace Go.Proofs.Ytlbcmgphibeeiaa.diskTells
open Go.ChangeShapes Go.WideShapes Go.ChangeAt Go.RowKit
open Go.ChangeMaps (open_string shut_string)
set_option linter.unusedVariables false

theorem own : ownKnob Try.prog.godebug = none := by kernel_rfl
theorem laidOut : laidOutB Try.prog = true := by kernel_rfl

set_option maxRecDepth 100000 in
set_option maxHeartbeats 1600000 in
theorem lifted (os : Os) (started : os.Started) (H : Type) (enc : TypeId × Value → H) :
    ReturnsInHanded {} Try.checked os 3 .any (Rows.diskTellsSpec.pre6 enc Try.prog Try.f3 Rows.diskTellsRow.domain false) (Rows.diskTellsSpec.post enc Try.prog Try.f3 false true false false) := by
  refine returnsInHanded_of_change_sized (C := Try.checked) own started (by kernel_rfl) Try.func3
    (ChangeSpec.witness6 (enc := enc) (C := Try.checked) false ⟨#[], #[.agg #[.slice none 0 0, .slice none 0 0], .int .i64 0, .int .i64 0, .string ⟨#[]⟩, .slice none 0 0], []⟩ 8 (by kernel_rfl) (by kernel_rfl) (by kernel_rfl) (by kernel_rfl)) ?_
  intro W base args ds gs before hval0 hW hcnd hsz0 _
  have hval : ∀ (j : Nat) t v, Try.f3.params[j]? = some t → args[j]? = some v → Value.okWide Try.prog W .any base t v := hval0
  have hW' := hW
  obtain ⟨p, q, hA0, hV, rfl, hfz, hnd⟩ := hW
  have hA : DataW.TrodAll enc Try.prog W 0 (fun _ => true) true Try.f3.params.toList args.toList ds p := hA0
  rw [Try.params3] at hA hval
  obtain ⟨v0, vs0, d0, ds0, p0, q0, hargs, rfl, rfl, h0, r0⟩ := trodAll_cons hA
  obtain ⟨v1, vs1, d1, ds1, p1, q1, rfl, rfl, rfl, h1, r1⟩ := trodAll_cons r0
  obtain ⟨v2, vs2, d2, ds2, p2, q2, rfl, rfl, rfl, h2, r2⟩ := trodAll_cons r1
  obtain ⟨v3, vs3, d3, ds3, p3, q3, rfl, rfl, rfl, h3, r3⟩ := trodAll_cons r2
  obtain ⟨v4, vs4, d4, ds4, p4, q4, rfl, rfl, rfl, h4, r4⟩ := trodAll_cons r3
  obtain ⟨rfl, rfl, rfl⟩ := trodAll_nil r4
  obtain rfl : args = #[v0, v1, v2, v3, v4] := Array.ext' hargs
  obtain ⟨rfl, rfl⟩ := trodVars_none hV
  have h0k := h0
  have h1k := h1
  have h2k := h2
  have h3k := h3
  have h4k := h4
  obtain ⟨cs, rfl, hcs⟩ := okWide_struct Try.underlying25 (hval 0 25 v0 rfl rfl)
  rw [Try.cellsD] at hcs
  obtain ⟨sec, rfl⟩ := okWide_int Try.underlying3 (hval 1 3 v1 rfl rfl)
  obtain ⟨n, rfl⟩ := okWide_int Try.underlying3 (hval 2 3 v2 rfl rfl)
  obtain ⟨s, rfl⟩ := okWide_string Try.underlying9 (hval 3 9 v3 rfl rfl)
  obtain ⟨a3, len3, cap3, rfl⟩ := okWide_slice Try.underlying26 (hval 4 26 v4 rfl rfl)
  obtain ⟨u0, u1, rfl⟩ := Dk.two_of hcs
  obtain ⟨fuel, hf⟩ := h0
  obtain ⟨ka, ks, kc, wa, ws, wc, rfl, rfl, hk, hw⟩ := Dk.open_disk (by simpa [Value.cells] using hf)
  obtain ⟨fuel2, hf2⟩ := h3
  obtain ⟨s', es, _, hs⟩ := DataW.trod_string Try.underlying9 hf2
  simp [Value.cells] at es
  subst es
  obtain ⟨fuel3, hf3⟩ := h4
  obtain ⟨ad, l, cap, el, hl⟩ := Dk.open_bits hf3
  simp [Value.cells] at el
  obtain ⟨rfl, rfl, rfl⟩ := el
  clear hA0 hval0
  simp only [List.append_nil] at hW'
  have hlt : ∀ x ∈ p0 ++ (p1 ++ (p2 ++ (p3 ++ p4))), x.block < W.heap.size := fun x hx => by simpa using hW'.lt x (by simpa using hx)
  refine (tells_walk ka ks kc wa ws wc sec n s l _ _ W hk hw hl hs).mono fun e W' ⟨he, bel⟩ => ?_
  subst he
  exact ⟨_, rfl, _, _, _, [], p0 ++ (p1 ++ (p2 ++ (p3 ++ (p4 ++ [])))), [], hW', trodAll_mk1 (shut_bool Try.underlying4 _), trodAll_cons_mk (Below.trod laidOut (by kernel_rfl) (of_decide_eq_true (by kernel_rfl)) h0k bel (fun x hx => hlt x (by simp [hx]))) (trodAll_cons_mk (Below.trod laidOut (by kernel_rfl) (of_decide_eq_true (by kernel_rfl)) h1k bel (fun x hx => hlt x (by simp [hx]))) (trodAll_cons_mk (Below.trod laidOut (by kernel_rfl) (of_decide_eq_true (by kernel_rfl)) h2k bel (fun x hx => hlt x (by simp [hx]))) (trodAll_cons_mk (Below.trod laidOut (by kernel_rfl) (of_decide_eq_true (by kernel_rfl)) h3k bel (fun x hx => hlt x (by simp [hx]))) (trodAll_cons_mk (Below.trod laidOut (by kernel_rfl) (of_decide_eq_true (by kernel_rfl)) h4k bel (fun x hx => hlt x (by simp [hx]))) trodAll_mk0)))), rfl, bel.frame _, fun h => by cases h⟩

theorem over : Rows.diskTellsRow.holds Try.pinned (OpenSpec.ofChange Rows.diskTellsSpec) :=
  OpenClaim.holds_of_wide 3 Try.f3 rfl rfl rfl rfl rfl rfl rfl ⟨rfl, rfl, rfl, rfl, rfl⟩ rfl rfl rfl rfl rfl (by kernel_rfl) Try.func3 (by kernel_rfl)
    (of_decide_eq_true (by kernel_rfl)) (by unfold Func.isWrapper; first | (rw [if_pos (by decide +kernel)]; kernel_rfl) | (rw [if_neg (by decide +kernel)]; exact ⟨rfl, rfl⟩))
    (fun os started H enc _ => lifted os started H enc)

theorem proved : Rows.DiskTellsSaid :=
  over
end Go.Proofs.Ytlbcmgphibeeiaa.diskTells
