/- By the verifier. -/
import Derived.Test.YtfccpddehpgfoaaGreatDoorTArg
namespace Go.Proofs.YtfccpddehpgfoaaGreatDoor
open Go.RowKit
set_option linter.unusedVariables false
theorem Zi6 {H : Type} {enc : TypeId × Value → H} {W : World} {fuel : Nat} {cs : List Value} {d : DataW H} {p : List MemPlace} {s : Tk.Sl} (h : DataW.trod enc Tryz.prog W 0 (fun _ => true) true fuel 24 cs = some (d, p)) (hce : cs = [.slice s.ad s.len s.cap]) : s.len ≤ s.cap := by
 subst hce
 obtain ⟨xs, n, hfu, hx, hl, hlen, hf⟩ := DataW.trod_struct Tryz.underlying24 h
 obtain ⟨x0, rfl⟩ := Zi3 (show xs.length = 1 from hlen)
 have f0 : DataW.trod enc Tryz.prog W 0 (fun _ => true) true n 22 (([Value.slice s.ad s.len s.cap].drop 0).take (Tryz.prog.cellsOf 22)) = some x0 := hf 0 _ rfl
 rw [Zd1] at f0
 rcases DataW.trod_slice Tryz.underlying22 (show DataW.trod enc Tryz.prog W 0 (fun _ => true) true n 22 [Value.slice s.ad s.len s.cap] = some (x0.1, x0.2) from f0) with ⟨hcs, hx⟩ | ⟨a, len, cap, elems, rest, m, hfm, hcs, hx, hb, hle, hm, hlen2, hel, hsp, hns⟩
 · simp at hcs
   omega
 simp at hcs
 omega
end Go.Proofs.YtfccpddehpgfoaaGreatDoor
