/-
  Contracts of log's sector, numbers and head. By the verifier.
-/
import Derived.Test.YtpabpcojiaklfaaLRow
namespace Go.Proofs.Ytpabpcojiaklfaa
open Go.RowKit
set_option linter.unusedVariables false

/-- A sector's bytes. -/
def Lg.sec (m : List Nat) (e : Ev) : List Nat := m ++ Lg.le4 e.n0 ++ Lg.le4 e.n1 ++ Lg.le4 e.n2 ++ Lg.le4 e.n3 ++ Lg.le4 e.n4 ++ Lg.le4 e.n5
def Lg.secTo (m : List Nat) (e : Ev) : Nat → List Nat
  | 0 => m
  | k + 1 => Lg.secTo m e k ++ Lg.le4 (e.col k)
theorem Lg.secTo_six (m : List Nat) (e : Ev) : Lg.secTo m e 6 = Lg.sec m e := rfl
theorem Lg.secTo_len (m : List Nat) (e : Ev) : ∀ k, (Lg.secTo m e k).length = m.length + 4 * k
  | 0 => rfl
  | k + 1 => by
    show (Lg.secTo m e k ++ Lg.le4 (e.col k)).length = _
    rw [List.length_append, Lg.secTo_len m e k]
    show _ + 4 = _
    omega
theorem Lg.le4_byte (n : Int) : ∀ b ∈ Lg.le4 n, b < 256 := by
  intro b hb
  unfold Lg.le4 at hb
  simp only [List.mem_cons, List.not_mem_nil, or_false] at hb
  rcases hb with rfl | rfl | rfl | rfl <;> omega
theorem Lg.secTo_byte (m : List Nat) (e : Ev) (hm : ∀ b ∈ m, b < 256) : ∀ k, ∀ b ∈ Lg.secTo m e k, b < 256
  | 0, b, hb => hm b hb
  | k + 1, b, hb => by
    rcases List.mem_append.1 hb with h | h
    · exact Lg.secTo_byte m e hm k b h
    · exact Lg.le4_byte _ b h

/-- The first bytes of a number. -/
theorem Lg.le4_at (n : Int) (i : Nat) (hi : i < 4) : (Lg.le4 n).take (i + 1) = (Lg.le4 n).take i ++ [(n / 256 ^ i % 256).toNat] := by
  match i, hi with
  | 0, _ => simp [Lg.le4]
  | 1, _ => simp [Lg.le4]
  | 2, _ => simp [Lg.le4]
  | 3, _ => simp [Lg.le4]

theorem Lg.Ow.lt {w : World} {B : Nat} {v : Value} {bs : List Nat} (h : Lg.Ow w B v bs) : ∀ q, v.ownBlock = some q → B ≤ q := by
  obtain ⟨g, cap, cur, fz, rfl, h2, _⟩ := h.lies
  intro q hq
  cases hq
  exact h2
theorem Lg.byte_eq (C : Int) (i : Nat) : (((C / 256 ^ i % 256).toNat : Nat) : Int) = C / 2 ^ (8 * i) % 256 := by
  rw [Int.toNat_of_nonneg (Int.emod_nonneg _ (by decide)), Int.pow_mul]
  rfl

set_option maxRecDepth 100000 in
set_option maxHeartbeats 1600000 in
theorem lsector_any (m : List Nat) (e : Ev) (w : World) (hm : ∀ b ∈ m, b < 256) (hml : m.length = 8) :
    Calls Try.prog 66 #[.string (Cl.str m), e.agg] w fun r w' => r = .returned (.string (Cl.str (Lg.sec m e))) ∧ Below w.heap.size w w' := by
  have HM := hide hm
  have hms := Cl.str_size m
  clear hm
  show Calls Try.prog 66 #[.string (Cl.str m), .agg #[.int .i64 e.n0, .int .i64 e.n1, .int .i64 e.n2, .int .i64 e.n3, .int .i64 e.n4, .int .i64 e.n5]] w _
  go_enter Try.func66, Try.ntmps66
  obtain ⟨v0, WA, hcv, how, hbA⟩ := Lg.of_text m (w.alloc (Obj.cells #[.int .i64 e.n0, .int .i64 e.n1, .int .i64 e.n2, .int .i64 e.n3, .int .i64 e.n4, .int .i64 e.n5] 79)) (unhide HM) (by omega)
  have hbw := ((Below.refl w.heap.size w).alloc (Nat.le_refl _) (Obj.cells #[.int .i64 e.n0, .int .i64 e.n1, .int .i64 e.n2, .int .i64 e.n3, .int .i64 e.n4, .int .i64 e.n5] 79))
  have HOW0 := hide (show Lg.Ow WA w.heap.size v0 m from by
    obtain ⟨g, cap, cur, fz, h1, h2, h3⟩ := how.lies
    exact ⟨g, cap, cur, fz, h1, by have := hbw.size; omega, h3⟩)
  have HBA := hide (hbw.trans (hbA.mono hbw.size))
  have c0 := (hbA.cell (p := ⟨w.heap.size, 0, none⟩) (by simp)).trans (show _ = some (.int .i64 e.n0) by go_simp)
  have c1 := (hbA.cell (p := ⟨w.heap.size, 1, none⟩) (by simp)).trans (show _ = some (.int .i64 e.n1) by go_simp)
  have c2 := (hbA.cell (p := ⟨w.heap.size, 2, none⟩) (by simp)).trans (show _ = some (.int .i64 e.n2) by go_simp)
  have c3 := (hbA.cell (p := ⟨w.heap.size, 3, none⟩) (by simp)).trans (show _ = some (.int .i64 e.n3) by go_simp)
  have c4 := (hbA.cell (p := ⟨w.heap.size, 4, none⟩) (by simp)).trans (show _ = some (.int .i64 e.n4) by go_simp)
  have c5 := (hbA.cell (p := ⟨w.heap.size, 5, none⟩) (by simp)).trans (show _ = some (.int .i64 e.n5) by go_simp)
  clear how hbA hbw
  go_wp2_with fail
  go_loopw [5, 12] (fun sv v wr => ∃ k : Nat, k ≤ 6 ∧ v = .int .i64 (k : Nat) ∧ Lg.Ow wr w.heap.size sv (Lg.secTo m e k) ∧ Below w.heap.size w wr) (fun _ v _ => 6 - (intOf v).toNat)
  case atStart => exact ⟨0, by omega, rfl, unhide HOW0, unhide HBA⟩
  case round =>
    obtain ⟨k, hk, rfl, how, hbe⟩ := hrel
    have HOW := hide how
    have HBE := hide hbe
    have hz := hbe.size
    clear how hbe
    by_cases hlt : k < 6
    · have hk2 : (k : Int) < 6 := by omega
      obtain ⟨wo, hwo⟩ : ∃ wo, wo = wr := ⟨wr, rfl⟩
      subst hwo
      have hix := Cl.index_col e k hlt wo
      have hln := Lg.secTo_len m e k
      have HSN := hide (show Lg.secTo m e (k + 1) = Lg.secTo m e k ++ Lg.le4 (e.col k) from rfl)
      generalize e.col k = C at *
      go_wp2_with fail
      go_loopw [5, 8, 15] (fun sv iv v wr => ∃ i : Nat, i ≤ 4 ∧ v = .int .i64 (i : Nat) ∧ Lg.Ow wr w.heap.size sv (Lg.secTo m e k ++ (Lg.le4 C).take i) ∧ Below w.heap.size w wr) (fun _ _ v _ => 4 - (intOf v).toNat)
      case atStart => exact ⟨0, by omega, rfl, by rw [List.take_zero, List.append_nil]; exact unhide HOW, unhide HBE⟩
      case round =>
        obtain ⟨i, hi, rfl, how, hbe⟩ := hrel
        have HOW2 := hide how
        have HBE2 := hide hbe
        have hz2 := hbe.size
        clear how hbe
        by_cases hil : i < 4
        · have hi1 : (0 : Int) ≤ (i : Int) := by omega
          have hi2 : (i : Int) < 4 := by omega
          have HY := hide (Lg.byte_eq C i)
          have HTA := hide (Lg.le4_at C i hil)
          have HLN := hide (show (Lg.secTo m e k ++ (Lg.le4 C).take i).length ≤ 1000000 by rw [List.length_append, hln, List.length_take]; omega)
          have HLT := hide ((unhide HOW2).lt)
          go_wp2_with (at_builtin; refine Lg.wp_append1 (by rfl) _ _ (by rfl) _ w.heap.size _ (Lg.secTo m e k ++ (Lg.le4 C).take i) (by rfl) ((unhide HOW2).alloc _) ⟨wr.heap.size, 0, none⟩ ((C / 256 ^ i % 256).toNat) (by rfl) (by rw [unhide HY]; go_simp) (unhide HLN) (by simp; omega) ?_; intro v3 w3 ho3 hg3; have HO3 := hide ho3; have HG3 := hide hg3; clear ho3 hg3)
          exact ⟨⟨i + 1, by omega, by go_num, by rw [unhide HTA, ← List.append_assoc]; exact unhide HO3, ((unhide HBE2).alloc (by omega) _).grown (unhide HG3) (by simp; omega) (unhide HLT)⟩, by simp [intOf]; omega⟩
        · have hi2 : ¬ (i : Int) < 4 := by omega
          have hi4 : i = 4 := by omega
          subst hi4
          go_wp2_with fail
          exact ⟨⟨k + 1, by omega, by go_num, by rw [unhide HSN]; exact unhide HOW2, unhide HBE2⟩, by simp [intOf]; omega⟩
    · have hk2 : ¬ (k : Int) < 6 := by omega
      have hk6 : k = 6 := by omega
      subst hk6
      obtain ⟨g, cap, cur, fz, rfl, h2, h3, h4, h5, h6, h7, h8⟩ := (unhide HOW).lies
      have hby := Lg.secTo_byte m e (unhide HM) 6
      have hcv2 := run_convert_bytes_back (P := Try.prog) wr 77 9 5 ⟨g, 0, none⟩ cap ((Lg.secTo m e 6).map UInt8.ofNat) Try.underlying77 Try.underlying5 Try.underlying9 (fun j hj => by
        have hj' : j < (Lg.secTo m e 6).length := by simpa using hj
        have hbj := hby (Lg.secTo m e 6)[j] (List.getElem_mem hj')
        have e1 : (UInt8.ofNat (Lg.secTo m e 6)[j]).toNat = (Lg.secTo m e 6)[j] := by rw [UInt8.toNat_ofNat']; omega
        rw [Dk.add_at, Nat.zero_add]
        dsimp only [World.cell?]
        rw [h3, List.getElem_map, e1]
        exact h8 j _ (List.getElem?_eq_getElem hj'))
      rw [List.length_map] at hcv2
      have HS6 := hide (Lg.secTo_six m e)
      clear h3 h4 h8 hby
      go_wp2_with fail
      go_ret
      exact ⟨by rw [← unhide HS6]; rfl, unhide HBE⟩
end Go.Proofs.Ytpabpcojiaklfaa
