/-
  sector of the laws. By the verifier.
-/
import Derived.Test.YtpabpcojiaklfaaDWriteOf
import Derived.Test.YtpabpcojiaklfaaDBox
namespace Go.Proofs.Ytpabpcojiaklfaa
open Go.RowKit
set_option linter.unusedVariables false

theorem Try.infoB : (Try.prog.info? 5).map (fun i => (i.zero, i.size, i.bytes)) = some (some (.int .u8 0), 1, 1) := by kernel_rfl

def Dk.sec : ByteArray := ⟨(List.replicate 32 7).toArray⟩

set_option maxHeartbeats 800000 in
theorem sector_any (w : World) :
    Calls Try.prog 33 #[.int .u8 7] w fun e w' => e = .returned (.string Dk.sec) ∧ Below w.heap.size w w' := by
  obtain ⟨i0, hi, hz0, hz1, hz2⟩ := info_of Try.infoB
  have HI := hide hi
  have HZ0 := hide hz0
  have HZ1 := hide hz1
  have HZ2 := hide hz2
  clear hi hz0 hz1 hz2
  go_enter Try.func33, Try.ntmps33
  go_wp2_with fail
  go_loopw [3, 4] (fun bv v wr => ∃ (k : Nat) (ad : Option Addr) (cap : Nat), k ≤ 32 ∧ v = .int .i64 k ∧ bv = .slice ad k cap ∧ wr.ownsRow w.heap.size 5 1 (.slice ad k cap) k (List.replicate k (.int .u8 7)) ∧ Below w.heap.size w wr) (fun _ v _ => 32 - (intOf v).toNat)
  case atStart => exact ⟨0, none, 0, by omega, rfl, rfl, World.ownsRow_nil _ _ _ _, Below.refl _ _⟩
  case round =>
    obtain ⟨k, ad, cap, hk, rfl, rfl, hown, hbe⟩ := hrel
    have HOW := hide hown
    have HBE := hide hbe
    have HO0 := hide (show ∀ q, (Value.slice ad k cap).ownBlock = some q → w.heap.size ≤ q ∧ q < wr.heap.size from hown.lt)
    have hzb := hbe.size
    clear hown hbe
    by_cases hlt : k < 32
    · have hk2 : (k : Int) < 32 := by omega
      have HOA := hide ((unhide HOW).alloc (.cells #[.int .u8 7] 5))
      have HBK := hide (heap_alloc_new wr (.cells #[.int .u8 7] 5))
      go_wp2_with (at_builtin; refine wpList_append_lies _ (by rfl) _ _ _ (by rfl) w.heap.size 5 i0 _ 1 1 Try.underlying77 (unhide HI) (unhide HZ0) (unhide HZ1) (unhide HZ2) rfl (by omega) (.slice ad k cap) k (List.replicate k (.int .u8 7)) (by rfl) (unhide HOA) ⟨wr.heap.size, 0, none⟩ 1 1 [.int .u8 7] (by rfl) (by rfl) (World.news_of_block (unhide HBK)) (by simp [Value.oneCell']) (by omega) (by unfold maxLen; omega) (by omega) (by simp; omega) (wr.heap.size + 1) (by simp) ?_; intro g2 cap2 w3 hown3 hgrow3 hat3 hlt3; have HO3 := hide hown3; have HG3 := hide hgrow3; clear hown3 hgrow3 hat3)
      refine ⟨⟨k + 1, some ⟨g2, 0, none⟩, cap2, by omega, by go_num, rfl, ?_, ?_⟩, by simp [intOf]; omega⟩
      · have e : List.replicate (k + 1) (Value.int .u8 7) = List.replicate k (Value.int .u8 7) ++ [.int .u8 7] := List.replicate_succ'
        rw [e]; exact unhide HO3
      · exact ((unhide HBE).alloc (by omega) _).grown (unhide HG3) (by simp; omega) (fun q hq => ((unhide HO0) q hq).1)
    · have hk2 : ¬ (k : Int) < 32 := by omega
      have hk3 : k = 32 := by omega
      subst hk3
      obtain ⟨g, cap', hv, hg1, hg2⟩ := (unhide HOW).form (by omega)
      cases hv
      have hcv : (convert 77 9 (.slice (some ⟨g, 0, none⟩) 32 cap)).run Try.prog wr = .ok (.string Dk.sec) wr :=
        run_convert_bytes_back wr 77 9 5 ⟨g, 0, none⟩ cap (List.replicate 32 7) Try.underlying77 Try.underlying5 Try.underlying9 (fun j hj => by
          have hj' : j < 32 := by simpa using hj
          refine (unhide HOW).cells (g := g) rfl j _ ?_
          rw [List.getElem?_replicate, if_pos hj', List.getElem_replicate]
          rfl)
      go_wp2_with fail
      go_ret
      exact ⟨rfl, unhide HBE⟩
end Go.Proofs.Ytpabpcojiaklfaa
