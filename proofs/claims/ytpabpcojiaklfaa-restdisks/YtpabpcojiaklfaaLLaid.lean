/-
  The contract of log's laid. By the verifier.
-/
import Derived.Test.YtpabpcojiaklfaaLOpen
namespace Go.Proofs.Ytpabpcojiaklfaa
open Go.RowKit
set_option linter.unusedVariables false

/-- A sector, as a string. -/
def Lg.sc (m : List Nat) (e : Ev) : ByteArray := Cl.str (Lg.sec m e)
theorem Lg.sc_size (m : List Nat) (e : Ev) (hm : m.length = 8) : (Lg.sc m e).size = 32 := by
  unfold Lg.sc
  rw [Cl.str_size, ← Lg.secTo_six, Lg.secTo_len, hm]
/-- The sectors of a batch. -/
def Lg.laid (l : List Ev) : List ByteArray := Lg.sc Lg.batchM ⟨l.length, 0, 0, 0, 0, 0⟩ :: l.map (Lg.sc Lg.eventM)
theorem Lg.laid_len (l : List Ev) : (Lg.laid l).length = l.length + 1 := by unfold Lg.laid; simp
theorem Lg.laid_32 (l : List Ev) : ∀ s ∈ Lg.laid l, s.size = 32 := by
  intro s hs
  unfold Lg.laid at hs
  rcases List.mem_cons.1 hs with rfl | h
  · exact Lg.sc_size _ _ rfl
  · obtain ⟨e, _, rfl⟩ := List.mem_map.1 h
    exact Lg.sc_size _ _ rfl
/-- So many of them. -/
def Lg.laidTo (l : List Ev) (k : Nat) : List ByteArray := (Lg.laid l).take (k + 1)
theorem Lg.laidTo_succ (l : List Ev) (k : Nat) (e : Ev) (h : l[k]? = some e) : Lg.laidTo l (k + 1) = Lg.laidTo l k ++ [Lg.sc Lg.eventM e] := by
  unfold Lg.laidTo
  rw [List.take_add_one]
  congr 1
  unfold Lg.laid
  simp [h]
theorem Lg.laidTo_len (l : List Ev) (k : Nat) (h : k ≤ l.length) : (Lg.laidTo l k).length = k + 1 := by
  unfold Lg.laidTo
  rw [List.length_take, Lg.laid_len]
  omega
theorem Lg.laidTo_all (l : List Ev) : Lg.laidTo l l.length = Lg.laid l := by
  unfold Lg.laidTo
  rw [List.take_of_length_le]
  rw [Lg.laid_len]
  omega

set_option maxRecDepth 100000 in
set_option maxHeartbeats 3200000 in
theorem laid_any (l : List Ev) (ad : Option Addr) (cap : Nat) (w : World) (hr : Cl.RE w ad l) (hl : l.length ≤ 4000) :
    Calls Try.prog 41 #[.slice ad l.length cap] w fun e w' => ∃ g c, e = .returned (.slice (some ⟨g, 0, none⟩) (l.length + 1) c) ∧ Dk.RK w' (some ⟨g, 0, none⟩) (Lg.laid l) ∧ Below w.heap.size w w' := by
  have HR := hide hr
  clear hr
  go_enter Try.func41, Try.ntmps41
  go_wp2_with fail
  rw [← Lg.batchM_str]
  refine (lsector_any Lg.batchM ⟨l.length, 0, 0, 0, 0, 0⟩ _ (by decide) rfl).mono ?_
  rintro r w1 ⟨rfl, hb⟩
  have HB := hide hb
  have hz := hb.size
  clear hb
  rw [show Cl.str (Lg.sec Lg.batchM ⟨l.length, 0, 0, 0, 0, 0⟩) = Lg.sc Lg.batchM ⟨l.length, 0, 0, 0, 0, 0⟩ from rfl]
  generalize hs0 : Lg.sc Lg.batchM ⟨l.length, 0, 0, 0, 0, 0⟩ = s0
  obtain ⟨i0, hi0, hz0, hz1', hz2⟩ := info_of Try.infoS
  have HI := hide hi0
  have HZ0 := hide hz0
  have HZ1 := hide hz1'
  have HZ2 := hide hz2
  have HS0 := hide hs0
  clear hi0 hz0 hz1' hz2 hs0
  go_wp2_with fail
  go_loopw [3, 13] (fun sv v wr => ∃ (k g c : Nat), k ≤ l.length ∧ v = .int .i64 (k : Nat) ∧ sv = .slice (some ⟨g, 0, none⟩) (k + 1) c ∧ wr.ownsRow w.heap.size 9 1 (.slice (some ⟨g, 0, none⟩) (k + 1) c) (k + 1) ((Lg.laidTo l k).map Value.string) ∧ Below w.heap.size w wr) (fun _ v _ => l.length - (intOf v).toNat)
  case atStart =>
    refine ⟨0, w1.heap.size, 1, by omega, rfl, rfl, ?_, (unhide HB).alloc hz _⟩
    rw [show Lg.laidTo l 0 = [s0] by rw [← unhide HS0]; rfl]
    exact ⟨rfl, Or.inr ⟨w1.heap.size, 1, #[.string s0], rfl, hz, heap_alloc_new _ _, Nat.le_refl _, by unfold maxLen; omega, rfl, rfl⟩⟩
  case round =>
    obtain ⟨k, g, c, hk, rfl, rfl, how, hbe⟩ := hrel
    have HOW := hide how
    have HBE := hide hbe
    have hz2 := hbe.size
    have HLT := hide (show ∀ q, (Value.slice (some ⟨g, 0, none⟩) (k + 1) c).ownBlock = some q → w.heap.size ≤ q ∧ q < wr.heap.size from how.lt)
    clear how hbe
    by_cases hkn : k < l.length
    · obtain ⟨x, hx⟩ : ∃ x, l[k]? = some x := ⟨l[k], List.getElem?_eq_getElem hkn⟩
      obtain ⟨b, o, rfl, hb, d0, d1, d2, d3, d4, d5⟩ := ((unhide HR).later (unhide HBE) (Nat.le_refl _)).at_ k x hx
      have HST := hide (Lg.laidTo_succ l k x hx)
      clear hx
      have hk1 : (0 : Int) ≤ (k : Int) := by omega
      have hk2 : (k : Int) < (l.length : Int) := by omega
      go_wp2_with fail
      refine (Of_any x _).mono ?_
      rintro r w3 ⟨rfl, hb3⟩
      have hb3' := below_two hb3
      have HB3 := hide ((unhide HBE).trans (hb3'.mono hz2))
      have HO3 := hide (Cl.ow_below (unhide HOW) hb3')
      have hz3 := (unhide HB3).size
      clear hb3 hb3'
      go_wp2_with fail
      rw [← Lg.eventM_str]
      refine (lsector_any Lg.eventM x _ (by decide) rfl).mono ?_
      rintro r w4 ⟨rfl, hb4⟩
      have HB4 := hide ((unhide HB3).trans (hb4.mono hz3))
      have HO4 := hide (Cl.ow_below (unhide HO3) hb4)
      have hz4 := (unhide HB4).size
      clear hb4
      rw [show Cl.str (Lg.sec Lg.eventM x) = Lg.sc Lg.eventM x from rfl]
      generalize hs1 : Lg.sc Lg.eventM x = s1
      have HS1 := hide hs1
      have HOA := hide ((unhide HO4).alloc (Obj.cells #[.string s1] 9))
      have HBK := hide (heap_alloc_new w4 (Obj.cells #[.string s1] 9))
      clear hs1
      go_wp2_with (at_builtin; refine wpList_append_lies _ (by rfl) _ _ _ (by rfl) w.heap.size 9 i0 _ 1 16 Try.underlying26 (unhide HI) (unhide HZ0) (unhide HZ1) (unhide HZ2) rfl (by omega) (.slice (some ⟨g, 0, none⟩) (k + 1) c) (k + 1) ((Lg.laidTo l k).map Value.string) (by rfl) (unhide HOA) ⟨w4.heap.size, 0, none⟩ 1 1 [.string s1] (by rfl) (by rfl) (World.news_of_block (unhide HBK)) (by simp [Value.oneCell']) (by omega) (by unfold maxLen; omega) (by omega) (by simp; omega) (w4.heap.size + 1) (by simp) ?_; intro g2 cap2 w5 hown3 hgrow3 hat3 hlt3; have HO5 := hide hown3; have HG5 := hide hgrow3; clear hown3 hgrow3 hat3)
      refine ⟨⟨k + 1, g2, cap2, by omega, by go_num, rfl, ?_, ?_⟩, by simp [intOf]; omega⟩
      · rw [unhide HST, unhide HS1, List.map_append]
        exact unhide HO5
      · exact ((unhide HB4).alloc (by omega) _).grown (unhide HG5) (by simp; omega) (fun q hq => ((unhide HLT) q hq).1)
    · have hkl : k = l.length := by omega
      subst hkl
      go_wp2_with fail
      go_ret
      refine ⟨g, c, rfl, ?_, unhide HBE⟩
      have := unhide HOW
      rw [Lg.laidTo_all] at this
      exact (Dk.Own.of this).reads (fun s hs => by have := Lg.laid_32 l s hs; unfold maxLen; omega)
end Go.Proofs.Ytpabpcojiaklfaa
