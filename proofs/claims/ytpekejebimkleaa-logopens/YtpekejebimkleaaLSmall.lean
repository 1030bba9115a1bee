/-
  The small disk of logBegun. By the verifier.
-/
import Derived.Test.YtpekejebimkleaaLAppend
import Derived.Test.YtpekejebimkleaaCBegun
namespace Go.Proofs.Ytpekejebimkleaa
open Go.RowKit
set_option linter.unusedVariables false

theorem Lg.small_fmt : Lg.batchesOf (Lg.fmt 20) = some ([], List.replicate 19 (Dk.zeros 32)) := by kernel_rfl
theorem Lg.small_chk : Dk.chk (Lg.fmt 20) [] = 0 := by decide +kernel
theorem Lg.small_app : Lg.app (Lg.fmt 20) [] Cl.small = .ok ([], List.replicate 19 (Dk.zeros 32)) := by
  unfold Lg.app
  rw [if_pos Lg.small_chk, if_neg (by decide), if_pos Cl.small_ok, Lg.small_fmt]
  rfl
theorem Lg.small_chk2 : Dk.chk (Lg.ks2 (Lg.fmt 20) 1 (Lg.laid Cl.small) (Lg.hd 1)) [] = 0 := by decide +kernel
theorem Lg.small_open2 : (Lg.batchesOf (Lg.ks2 (Lg.fmt 20) 1 (Lg.laid Cl.small) (Lg.hd 1))).map Prod.fst = some [Cl.small] := by kernel_rfl
theorem Lg.small_open : Lg.opened (Lg.ks2 (Lg.fmt 20) 1 (Lg.laid Cl.small) (Lg.hd 1)) [] = .ok [Cl.small] := by
  unfold Lg.opened
  rw [if_pos Lg.small_chk2]
  have h := Lg.small_open2
  cases hx : Lg.batchesOf (Lg.ks2 (Lg.fmt 20) 1 (Lg.laid Cl.small) (Lg.hd 1)) with
  | none => rw [hx] at h; cases h
  | some x =>
    rw [hx] at h
    injection h with h
    show Except.ok x.1 = _
    rw [h]
theorem Lg.small_open0 : Lg.opened (Lg.fmt 20) [] = .ok [] := by
  unfold Lg.opened
  rw [if_pos Lg.small_chk, Lg.small_fmt]
end Go.Proofs.Ytpekejebimkleaa
