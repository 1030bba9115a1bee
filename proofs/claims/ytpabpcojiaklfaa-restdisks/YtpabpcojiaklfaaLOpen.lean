/-
  The contract of log's Open. By the verifier.
-/
import Derived.Test.YtpabpcojiaklfaaLBatches
import Derived.Test.YtpabpcojiaklfaaDOps
namespace Go.Proofs.Ytpabpcojiaklfaa
open Go.RowKit
set_option linter.unusedVariables false

/-- The batches that a disk has, if it is one. -/
def Lg.opened (ks : List ByteArray) (ws : List (Int × ByteArray)) : Except Nat (List (List Ev)) :=
  if Dk.chk ks ws = 0 then
    match Lg.batchesOf ks with
    | none => .error 4
    | some x => .ok x.1
  else .error (Dk.chk ks ws)
/-- What Open answers. -/
def Lg.openV (B : Nat) (w' : World) (e : Ending) : Except Nat (List (List Ev)) → Prop
  | .ok ls => ∃ v, e = .returned (.tuple #[v, .int .i64 0]) ∧ (∃ a' c', v = .slice a' ls.length c') ∧ Lg.BB w' B v ls
  | .error n => e = .returned (.tuple #[.slice none 0 0, .int .i64 (n : Nat)])

set_option maxRecDepth 100000 in
set_option maxHeartbeats 3200000 in
theorem Open_any (ka : Option Addr) (ks : List ByteArray) (kc : Nat) (wa : Option Addr) (ws : List (Int × ByteArray)) (wc : Nat) (w : World) (hk : Dk.RK w ka ks) (hw : Dk.RW w wa ws) (hcap : ks.length ≤ kc) :
    Calls Try.prog 16 #[.agg #[.slice ka ks.length kc, .slice wa ws.length wc]] w fun e w' => Lg.openV w.heap.size w' e (Lg.opened ks ws) ∧ Below w.heap.size w w' := by
  have HK := hide hk
  have HW := hide hw
  clear hk hw
  go_enter Try.func16, Try.ntmps16
  go_wp2_with fail
  have hb0 := (Below.refl w.heap.size w).alloc (Nat.le_refl _) (Obj.cells #[.slice ka ks.length kc, .slice wa ws.length wc] 29)
  refine (Check_any ka ks kc wa ws wc _ ((unhide HK).later hb0 (Nat.le_refl _)) ((unhide HW).later hb0 (Nat.le_refl _))).mono ?_
  rintro e w1 ⟨rfl, hb⟩
  obtain ⟨hc, hf⟩ := bcell hb
  have HB1 := hide (hb0.trans (hb.mono (by simp)))
  have hz1 := (unhide HB1).size
  have c10 : w1.cell? ⟨w.heap.size, 0, none⟩ = some (.slice ka ks.length kc) := (hc w.heap.size 0 (by simp only [World.size_alloc]; omega)).trans (by go_simp)
  have c11 : w1.cell? ⟨w.heap.size, 1, none⟩ = some (.slice wa ws.length wc) := (hc w.heap.size 1 (by simp only [World.size_alloc]; omega)).trans (by go_simp)
  clear hb hb0 hc hf
  by_cases hc : Dk.chk ks ws = 0
  · obtain ⟨h1, h2, h3, _, _⟩ := Dk.chk_ok hc
    have H3 := hide h3
    have HO := hide (show Lg.opened ks ws = match Lg.batchesOf ks with | none => .error 4 | some x => .ok x.1 by unfold Lg.opened; rw [if_pos hc])
    rw [hc]
    clear h3 hc
    cases ks with
    | nil => exact absurd h1 (by simp)
    | cons s r =>
      simp only [List.length_cons] at h1 h2 hcap c10 ⊢
      go_wp2_with fail
      refine (batchesOf_any s r ka kc _ ((unhide HK).later (unhide HB1) (Nat.le_refl _)) (by omega) (by omega) (Dk.all32 (unhide H3))).mono ?_
      rintro e w2 ⟨hv, hb2⟩
      have HB2 := hide ((unhide HB1).trans (hb2.mono hz1))
      clear hb2
      cases hx : Lg.batchesOf (s :: r) with
      | none =>
        have HON := hide (show Lg.opened (s :: r) ws = .error 4 by rw [unhide HO, hx])
        rw [hx] at hv
        clear hx
        have hv3' : e = .returned (.tuple #[.slice none 0 0, .slice none 0 0, .bool false]) := hv
        subst hv3'
        clear hv
        go_wp2_with fail
        exact bodyPost_ret (v := .tuple #[.slice none 0 0, .int .i64 4]) (by simp [results, Try.results16, go_sem]) rfl ⟨by rw [unhide HON]; rfl, unhide HB2⟩
      | some x =>
        have HON := hide (show Lg.opened (s :: r) ws = .ok x.1 by rw [unhide HO, hx])
        rw [hx] at hv
        clear hx
        obtain ⟨v, a, c, rfl, ⟨a', c', rfl⟩, hbb, hcc⟩ := hv
        have HBB := hide hbb
        clear hbb
        go_wp2_with fail
        refine bodyPost_ret (v := .tuple #[.slice a' x.1.length c', .int .i64 0]) (by simp [results, Try.results16, go_sem]) rfl ⟨?_, unhide HB2⟩
        rw [unhide HON]
        exact ⟨_, rfl, ⟨a', c', rfl⟩, (unhide HBB).down hz1⟩
  · have HO := hide (show Lg.opened ks ws = .error (Dk.chk ks ws) by unfold Lg.opened; rw [if_neg hc])
    have hg : ((Dk.chk ks ws : Int) == 0) = false := by rw [beq_eq_false_iff_ne]; omega
    have HC := hide hc
    clear hc
    generalize Dk.chk ks ws = n at *
    go_wp2_with fail
    exact bodyPost_ret (v := .tuple #[.slice none 0 0, .int .i64 (n : Nat)]) (by simp [results, Try.results16, go_sem]) rfl ⟨by rw [unhide HO]; rfl, unhide HB1⟩
end Go.Proofs.Ytpabpcojiaklfaa
