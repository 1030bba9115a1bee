/-
  The contract of the document's own NewDisk. By the verifier.
-/
import Derived.Test.YtlbcmgphibeeiaaDSame
import Derived.Laws.IdiomStrings
namespace Go.Proofs.Ytlbcmgphibeeiaa
open Go.RowKit
set_option linter.unusedVariables false

def Dk.zeros (k : Nat) : ByteArray := ⟨(List.replicate k 0).toArray⟩

theorem Dk.zeros_size (k : Nat) : (Dk.zeros k).size = k := by
  show (List.replicate k (0 : UInt8)).toArray.size = k
  simp

theorem Dk.zeros_succ (k : Nat) : Dk.zeros k ++ ⟨#[0]⟩ = Dk.zeros (k + 1) := by
  have e : ∀ a b : ByteArray, a.data = b.data → a = b := fun a b h => by cases a; cases b; simp_all
  apply e
  rw [ByteArray.data_append]
  show (List.replicate k (0 : UInt8)).toArray ++ #[0] = (List.replicate (k + 1) (0 : UInt8)).toArray
  rw [List.replicate_succ']
  apply Array.toList_inj.1
  simp

/-- What holds at the head of NewDisk's second loop. -/
structure Dk.NI (w wr : World) (ad : Option Addr) (k cap : Nat) (z : ByteArray) (w2 : World) : Prop where
  below : Below w.heap.size w w2
  size : wr.heap.size < w2.heap.size
  r0 : w2.cell? ⟨w.heap.size, 0, none⟩ = some (.slice none 0 0)
  r1 : w2.cell? ⟨w.heap.size, 1, none⟩ = some (.slice none 0 0)
  q0 : w2.frozen? ⟨w.heap.size, 0, none⟩ = false
  q1 : w2.frozen? ⟨w.heap.size, 1, none⟩ = false
  p0 : w2.cell? ⟨wr.heap.size, 0, none⟩ = some (.slice ad k cap)
  p1 : w2.cell? ⟨wr.heap.size, 1, none⟩ = some (.slice none 0 0)
  pf : w2.frozen? ⟨wr.heap.size, 0, none⟩ = false
  own : w2.ownsRow (wr.heap.size + 1) 9 1 (.slice ad k cap) k (List.replicate k (.string z))

set_option maxHeartbeats 1600000 in
theorem NewDisk_any (n : Int) (w : World) (h1 : 1 ≤ n) (h2 : n ≤ 600) :
    Calls Try.prog 10 #[.int .i64 n] w fun e w' => ∃ g cap', e = .returned (.agg #[.slice (some ⟨g, 0, none⟩) n.toNat cap', .slice none 0 0]) ∧ Dk.RK w' (some ⟨g, 0, none⟩) (List.replicate n.toNat (Dk.zeros 32)) ∧ Below w.heap.size w w' := by
  go_enter Try.func10, Try.ntmps10
  go_wp2_with fail
  go_loopw [3, 4] (fun sv v wr => ∃ k : Nat, k ≤ 32 ∧ v = .int .i64 k ∧ sv = .string (Dk.zeros k) ∧ Below w.heap.size w wr ∧ w.heap.size < wr.heap.size ∧ wr.cell? ⟨w.heap.size, 0, none⟩ = some (.slice none 0 0) ∧ wr.cell? ⟨w.heap.size, 1, none⟩ = some (.slice none 0 0) ∧ wr.frozen? ⟨w.heap.size, 0, none⟩ = false ∧ wr.frozen? ⟨w.heap.size, 1, none⟩ = false) (fun _ v _ => 32 - (intOf v).toNat)
  case atStart => exact ⟨0, by omega, rfl, rfl, (Below.refl _ _).alloc (Nat.le_refl _) _, by simp, by go_simp, by go_simp, by go_simp, by go_simp⟩
  case round =>
    obtain ⟨k, hk, rfl, rfl, hbe, hz, c0, c1, f0, f1⟩ := hrel
    have HBE := hide hbe
    clear hbe
    have hzs := Dk.zeros_size k
    by_cases hlt : k < 32
    · have hk2 : (k : Int) < 32 := by omega
      have hcv : (convert 55 9 (.slice (some ⟨wr.heap.size, 0, none⟩) 1 1)).run Try.prog (wr.alloc (.cells #[.int .u8 0] 5)) = .ok (.string ⟨#[0]⟩) (wr.alloc (.cells #[.int .u8 0] 5)) :=
        run_convert_bytes_back _ 55 9 5 ⟨wr.heap.size, 0, none⟩ 1 [0] Try.underlying55 Try.underlying5 Try.underlying9 (fun j hj => by
          have : j = 0 := by simp at hj; exact hj
          subst this
          rw [Dk.add_at]
          go_simp)
      go_wp2_with fail
      refine ⟨⟨k + 1, by omega, by go_num, ?_, (unhide HBE).alloc (by omega) _, by simp; omega, Dk.cell_alloc c0, Dk.cell_alloc c1, Dk.frozen_alloc f0 hz, Dk.frozen_alloc f1 hz⟩, by simp [intOf]; omega⟩
      rw [Dk.zeros_succ]
    · have hk2 : ¬ (k : Int) < 32 := by omega
      have hk32 : k = 32 := by omega
      subst hk32
      obtain ⟨wo, hwo⟩ : ∃ wo, wo = wr := ⟨wr, rfl⟩
      subst hwo
      clear hzs
      obtain ⟨i0, hi, hz0, hz1, hz2⟩ := info_of Try.infoS
      have HI := hide hi
      have HZ0 := hide hz0
      have HZ1 := hide hz1
      have HZ2 := hide hz2
      have HN := hide (Int.toNat_of_nonneg (by omega : 0 ≤ n))
      clear hi hz0 hz1 hz2
      go_wp2_with fail
      go_loopw [6] (fun v wr => ∃ (k : Nat) (ad : Option Addr) (cap : Nat), k ≤ n.toNat ∧ v = .int .i64 k ∧ Dk.NI w wo ad k cap (Dk.zeros 32) wr) (fun v _ => n.toNat - (intOf v).toNat)
      case atStart => exact ⟨0, none, 0, by omega, rfl, ⟨(unhide HBE).alloc (by omega) _, by simp, Dk.cell_alloc c0, Dk.cell_alloc c1, Dk.frozen_alloc f0 hz, Dk.frozen_alloc f1 hz, by go_simp, by go_simp, by go_simp, World.ownsRow_nil _ _ _ _⟩⟩
      case round =>
        obtain ⟨k, ad, cap, hkn, rfl, hni⟩ := hrel
        obtain ⟨hbe, hs2, r0, r1, q0, q1, p0, p1, pf, hown⟩ := hni
        have HB2 := hide hbe
        have HOW := hide hown
        have hown0 : ∀ q, (Value.slice ad k cap).ownBlock = some q → wo.heap.size + 1 ≤ q ∧ q < wr.heap.size := hown.lt
        have HO0 := hide hown0
        clear hbe hown hown0
        have hnn := unhide HN
        by_cases hlt : k < n.toNat
        · have hk3 : (k : Int) < n := by omega
          have HOA := hide ((unhide HOW).alloc (.cells #[.string (Dk.zeros 32)] 9))
          have HBK := hide (heap_alloc_new wr (.cells #[.string (Dk.zeros 32)] 9))
          clear hnn
          go_wp2_with (at_builtin; refine wpList_append_lies _ (by rfl) _ _ _ (by rfl) (wo.heap.size + 1) 9 i0 _ 1 16 Try.underlying22 (unhide HI) (unhide HZ0) (unhide HZ1) (unhide HZ2) rfl (by omega) (.slice ad k cap) k (List.replicate k (.string (Dk.zeros 32))) (by rfl) (unhide HOA) ⟨wr.heap.size, 0, none⟩ 1 1 [.string (Dk.zeros 32)] (by rfl) (by rfl) (World.news_of_block (unhide HBK)) (by simp [Value.oneCell']) (by omega) (by unfold maxLen; omega) (by omega) (by simp; omega) (wr.heap.size + 1) (by simp) ?_; intro g2 cap2 w3 hown3 hgrow3 hat3 hlt3; have HO3 := hide hown3; have HG3 := hide hgrow3; have x0 := (hgrow3.cell_far ⟨wo.heap.size, 0, none⟩ (by simp; omega) (by intro hh; have := (unhide HO0) _ hh.symm; simp at this; omega)).trans (Dk.cell_alloc p0); have x1 := (hgrow3.cell_far ⟨wo.heap.size, 1, none⟩ (by simp; omega) (by intro hh; have := (unhide HO0) _ hh.symm; simp at this; omega)).trans (Dk.cell_alloc p1); have xf := (hgrow3.frozen_far ⟨wo.heap.size, 0, none⟩ (by simp; omega) (by intro hh; have := (unhide HO0) _ hh.symm; simp at this; omega)).trans (Dk.frozen_alloc pf (show wo.heap.size < _ by omega)); clear hown3 hgrow3 hat3)
          refine ⟨⟨k + 1, some ⟨g2, 0, none⟩, cap2, by omega, by go_num, ?_⟩, by simp [intOf]; omega⟩
          have hs3 := (unhide HG3).size
          simp at hs3
          have far := fun (j : Nat) => ((unhide HG3).cell_far ⟨w.heap.size, j, none⟩ (by simp; omega) (by intro hh; have := (unhide HO0) _ hh.symm; simp at this; omega))
          have farf := fun (j : Nat) => ((unhide HG3).frozen_far ⟨w.heap.size, j, none⟩ (by simp; omega) (by intro hh; have := (unhide HO0) _ hh.symm; simp at this; omega))
          have ot : ∀ q j, q ≠ wo.heap.size → (w3.setCell ⟨wo.heap.size, 0, none⟩ (.slice (some ⟨g2, 0, none⟩) (k + 1) cap2)).cell? ⟨q, j, none⟩ = w3.cell? ⟨q, j, none⟩ := fun q j hne => World.cell?_setCell_other _ _ _ _ (by intro hh; have := congrArg Addr.block hh; simp at this; omega)
          refine ⟨(((unhide HB2).alloc (by omega) _).grown (unhide HG3) (by simp; omega) (fun q hq => by have := (unhide HO0) q hq; omega)).setCell (by show _ ≤ wo.heap.size; omega) _, by simp; omega, ?_, ?_, ?_, ?_, World.cell?_setCell_same _ _ _ x0, ?_, by rw [World.frozen?_setCell]; exact xf, ?_⟩
          · rw [ot _ _ (by omega), far]; exact Dk.cell_alloc r0
          · rw [ot _ _ (by omega), far]; exact Dk.cell_alloc r1
          · rw [World.frozen?_setCell, farf]; exact Dk.frozen_alloc q0 (show w.heap.size < _ by omega)
          · rw [World.frozen?_setCell, farf]; exact Dk.frozen_alloc q1 (show w.heap.size < _ by omega)
          · rw [World.cell?_setCell_other _ _ _ _ (by intro hh; have := congrArg Addr.off hh; simp at this)]; exact x1
          · have e : List.replicate (k + 1) (Value.string (Dk.zeros 32)) = List.replicate k (Value.string (Dk.zeros 32)) ++ [.string (Dk.zeros 32)] := List.replicate_succ'
            rw [e]
            exact ownsRow_setCell_below (unhide HO3) (show wo.heap.size < wo.heap.size + 1 by omega) _
        · have hk3 : ¬ (k : Int) < n := by omega
          have hkk : k = n.toNat := by omega
          obtain ⟨g, cap', hv, hg1, hg2⟩ := (unhide HOW).form (by omega)
          cases hv
          have hrk : Dk.RK wr (some ⟨g, 0, none⟩) (List.replicate k (Dk.zeros 32)) := by
            refine (Dk.Own.of (base := wo.heap.size + 1) (n := k) (cap := cap) ?_).reads ?_
            · rw [List.map_replicate]; exact unhide HOW
            · intro s hs; rw [(List.mem_replicate.1 hs).2, Dk.zeros_size]; unfold maxLen; omega
          have HRK := hide hrk
          clear hrk hnn
          subst hkk
          go_wp2_with fail
          refine bodyPost_ret (v := .agg #[.slice (some ⟨g, 0, none⟩) n.toNat cap, .slice none 0 0]) (by simp [results, Try.results10, go_sem, r0, r1]) rfl ⟨g, ⟨cap, rfl⟩, ?_, ((unhide HB2).setCell (by simp; try omega) _).setCell (by simp; try omega) _⟩
          exact Dk.RK.stored (unhide HRK) (by omega) _ _ _
end Go.Proofs.Ytlbcmgphibeeiaa
