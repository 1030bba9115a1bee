/-
  Contracts of log's numbers and head. By the verifier.
-/
import Derived.Test.YtpabpcojiaklfaaLSector
namespace Go.Proofs.Ytpabpcojiaklfaa
open Go.RowKit
set_option linter.unusedVariables false

def Lg.headM : List Nat := [98, 97, 116, 99, 104, 101, 115, 58]
def Lg.batchM : List Nat := [101, 118, 101, 110, 116, 115, 58, 32]
def Lg.eventM : List Nat := [101, 118, 101, 110, 116, 58, 32, 32]
theorem Lg.headM_str : Cl.str Lg.headM = ⟨#[98, 97, 116, 99, 104, 101, 115, 58]⟩ := rfl
theorem Lg.batchM_str : Cl.str Lg.batchM = ⟨#[101, 118, 101, 110, 116, 115, 58, 32]⟩ := rfl
theorem Lg.eventM_str : Cl.str Lg.eventM = ⟨#[101, 118, 101, 110, 116, 58, 32, 32]⟩ := rfl

set_option maxHeartbeats 400000 in
theorem head_any (n : Int) (w : World) :
    Calls Try.prog 36 #[.int .i64 n] w fun r w' => r = .returned (.string (Cl.str (Lg.sec Lg.headM ⟨n, 0, 0, 0, 0, 0⟩))) ∧ Below w.heap.size w w' := by
  go_enter Try.func36, Try.ntmps36
  go_wp2_with fail
  refine (lsector_any Lg.headM ⟨n, 0, 0, 0, 0, 0⟩ _ (by decide) rfl).mono ?_
  rintro r w1 ⟨rfl, hb⟩
  have HB := hide hb
  clear hb
  go_wp2_with fail
  go_ret
  exact ⟨rfl, unhide HB⟩

/-- The numbers of a sector. -/
def Lg.nth (bs : List Nat) (i : Nat) : Int := Lg.num (bs.drop (8 + i * 4))
def Lg.nums (bs : List Nat) : Ev := ⟨Lg.nth bs 0, Lg.nth bs 1, Lg.nth bs 2, Lg.nth bs 3, Lg.nth bs 4, Lg.nth bs 5⟩
def Lg.zero : Ev := ⟨0, 0, 0, 0, 0, 0⟩

theorem Lg.str_inj {a b : List Nat} (ha : ∀ x ∈ a, x < 256) (hb : ∀ x ∈ b, x < 256) (h : Cl.str a = Cl.str b) : a = b := by
  have h1 : (a.map UInt8.ofNat) = (b.map UInt8.ofNat) := by
    have := congrArg (fun s : ByteArray => s.data.toList) h
    simpa [Cl.str] using this
  have h2 : ∀ l : List Nat, (∀ x ∈ l, x < 256) → (l.map UInt8.ofNat).map UInt8.toNat = l := fun l hl => by
    rw [List.map_map]
    conv => rhs; rw [← List.map_id l]
    apply List.map_congr_left
    intro x hx
    have := hl x hx
    show (UInt8.ofNat x).toNat = x
    rw [UInt8.toNat_ofNat']
    omega
  rw [← h2 a ha, ← h2 b hb, h1]

set_option maxRecDepth 100000 in
set_option maxHeartbeats 1600000 in
theorem numbers_no (m bs : List Nat) (w : World) (hm : ∀ b ∈ m, b < 256) (hml : m.length = 8) (hbl : bs.length = 32) (hb : ∀ b ∈ bs, b < 256) (hne : bs.take 8 ≠ m) :
    Calls Try.prog 71 #[.string (Cl.str m), .string (Cl.str bs)] w fun r w' => r = .returned (.tuple #[Lg.zero.agg, .bool false]) ∧ Below w.heap.size w w' := by
  have hms : (Cl.str m).size = 8 := by rw [Cl.str_size, hml]
  have hsz : (Cl.str bs).size = 32 := by rw [Cl.str_size, hbl]
  have hq : ¬ ((Cl.str bs).extract 0 8).toList = (Cl.str m).toList := by
    rw [Cl.str_extract, List.drop_zero]
    intro hh
    apply hne
    refine Lg.str_inj (fun x hx => hb x (List.mem_of_mem_take hx)) hm (Cl.ba_ext ?_)
    rw [ByteArray.toList_eq, ByteArray.toList_eq] at hh
    exact Array.toList_inj.1 hh
  have hqb : (((Cl.str bs).extract 0 8).toList == (Cl.str m).toList) = false := by rw [beq_eq_false_iff_ne]; exact hq
  clear hne hb hm hq
  go_enter Try.func71, Try.ntmps71
  go_wp2_with fail
  exact bodyPost_ret (v := .tuple #[Lg.zero.agg, .bool false]) (by simp [results, Try.results71, go_sem, Lg.zero, Ev.agg]) rfl ⟨rfl, (Below.refl _ _).alloc (Nat.le_refl _) _⟩

theorem Lg.mx_new (w : World) (g : Nat) (hg : w.heap.size = g) : Cl.Mx (w.alloc (Obj.cells #[.int .i64 0, .int .i64 0, .int .i64 0, .int .i64 0, .int .i64 0, .int .i64 0] 79)) g 1 (fun _ _ => 0) := by
  subst hg
  refine ⟨fun i j hi hj => ?_, fun o => by go_simp, by simp⟩
  have hi0 : i = 0 := by omega
  subst hi0
  match j, hj with
  | 0, _ => go_simp
  | 1, _ => go_simp
  | 2, _ => go_simp
  | 3, _ => go_simp
  | 4, _ => go_simp
  | 5, _ => go_simp
theorem Cl.Mx.other {W : World} {g n : Nat} {M : Nat → Nat → Int} (h : Cl.Mx W g n M) (b o : Nat) (v : Value) (hb : b ≠ g) : Cl.Mx (W.setCell ⟨b, o, none⟩ v) g n M := by
  refine ⟨fun i j hi hj => ?_, fun o => by simpa using h.fr o, by simpa using h.lt⟩
  rw [World.cell?_setCell_other _ _ _ _ (by intro hh; have := congrArg Addr.block hh; simp at this; omega)]
  exact h.at_ i j hi hj

set_option maxRecDepth 100000 in
set_option maxHeartbeats 1600000 in
theorem numbers_yes (m bs : List Nat) (w : World) (hm : ∀ b ∈ m, b < 256) (hml : m.length = 8) (hbl : bs.length = 32) (hb : ∀ b ∈ bs, b < 256) (heq : bs.take 8 = m) :
    Calls Try.prog 71 #[.string (Cl.str m), .string (Cl.str bs)] w fun r w' => r = .returned (.tuple #[(Lg.nums bs).agg, .bool true]) ∧ Below w.heap.size w w' := by
  have hms : (Cl.str m).size = 8 := by rw [Cl.str_size, hml]
  have hsz : (Cl.str bs).size = 32 := by rw [Cl.str_size, hbl]
  have hq : (Cl.str bs).extract 0 8 = Cl.str m := by rw [Cl.str_extract, List.drop_zero, heq]
  have HEX := hide (show ∀ i, (Cl.str bs).extract i 32 = Cl.str (bs.drop i) from fun i => by rw [Cl.str_extract, List.take_of_length_le (by omega)])
  have HB := hide hb
  clear heq hb hm
  go_enter Try.func71, Try.ntmps71
  have HMX0 := hide (show Cl.Mx ((w.alloc (Obj.cells #[.int .i64 0, .int .i64 0, .int .i64 0, .int .i64 0, .int .i64 0, .int .i64 0] 79)).alloc (Obj.cells #[.int .i64 0, .int .i64 0, .int .i64 0, .int .i64 0, .int .i64 0, .int .i64 0] 79)) (w.heap.size + 1) 1 (fun _ _ => 0) from Lg.mx_new (w.alloc (Obj.cells #[.int .i64 0, .int .i64 0, .int .i64 0, .int .i64 0, .int .i64 0, .int .i64 0] 79)) (w.heap.size + 1) (World.size_alloc _ _))
  have HMZ0 := hide (show Cl.Mx ((w.alloc (Obj.cells #[.int .i64 0, .int .i64 0, .int .i64 0, .int .i64 0, .int .i64 0, .int .i64 0] 79)).alloc (Obj.cells #[.int .i64 0, .int .i64 0, .int .i64 0, .int .i64 0, .int .i64 0, .int .i64 0] 79)) w.heap.size 1 (fun _ _ => 0) from (Lg.mx_new w w.heap.size rfl).later ((Below.refl _ _).alloc (Nat.le_refl _) _))
  have HB0 := hide (show Below w.heap.size w ((w.alloc (Obj.cells #[.int .i64 0, .int .i64 0, .int .i64 0, .int .i64 0, .int .i64 0, .int .i64 0] 79)).alloc (Obj.cells #[.int .i64 0, .int .i64 0, .int .i64 0, .int .i64 0, .int .i64 0, .int .i64 0] 79)) from ((Below.refl _ _).alloc (Nat.le_refl _) _).alloc (by simp) _)
  go_wp2_with fail
  go_loopw [7, 15] (fun iv v wr => ∃ (k : Nat) (M : Nat → Nat → Int), k ≤ 6 ∧ v = .int .i64 (k : Nat) ∧ Cl.Mx wr (w.heap.size + 1) 1 M ∧ (∀ j, j < k → M 0 j = Lg.nth bs j) ∧ Cl.Mx wr w.heap.size 1 (fun _ _ => 0) ∧ Below w.heap.size w wr) (fun _ v _ => 6 - (intOf v).toNat)
  case atStart => exact ⟨0, fun _ _ => 0, by omega, rfl, unhide HMX0, fun j h => by omega, unhide HMZ0, unhide HB0⟩
  case round =>
    obtain ⟨k, M, hk, rfl, hmx, hmk, hmz, hbe⟩ := hrel
    have HMX := hide hmx
    have HMK := hide hmk
    have HMZ := hide hmz
    have HBE := hide hbe
    clear hmx hmk hmz hbe
    by_cases hlt : k < 6
    · have hk1 : (0 : Int) ≤ (k : Int) := by omega
      have hk2 : (k : Int) < 6 := by omega
      have hcell : wr.cell? ⟨w.heap.size + 1, k, none⟩ = some (.int .i64 (M 0 k)) := by simpa using (unhide HMX).at_ 0 k (by omega) hlt
      have hfr := (unhide HMX).fr k
      go_wp2_with fail
      rw [unhide HEX]
      refine (lnumber_any (bs.drop (8 + k * 4)) _ (by rw [List.length_drop]; omega) (by rw [List.length_drop]; unfold maxLen; omega) (fun b hh => (unhide HB) b (List.mem_of_mem_drop hh))).mono ?_
      rintro r w2 ⟨rfl, rfl⟩
      go_wp2_with fail
      refine ⟨⟨k + 1, Cl.upd M 0 k (Lg.num (bs.drop (8 + k * 4))), by omega, by go_num, by have := (unhide HMX).set 0 k (Lg.num (bs.drop (8 + k * 4))) (by omega) hlt; simpa using this, ?_, (unhide HMZ).other _ _ _ (by omega), (unhide HBE).setCell (by show w.heap.size ≤ w.heap.size + 1; omega) _⟩, by simp [intOf]; omega⟩
      intro j hj
      unfold Cl.upd
      by_cases hjk : j = k
      · subst hjk
        rw [if_pos ⟨rfl, rfl⟩]
        rfl
      · rw [if_neg (by omega)]
        exact (unhide HMK) j (by omega)
    · have hk2 : ¬ (k : Int) < 6 := by omega
      have hk6 : k = 6 := by omega
      subst hk6
      have c0 : wr.cell? ⟨w.heap.size + 1, 0, none⟩ = some (.int .i64 (Lg.nth bs 0)) := by have := (unhide HMX).at_ 0 0 (by omega) (by omega); rw [(unhide HMK) 0 (by omega)] at this; simpa using this
      have c1 : wr.cell? ⟨w.heap.size + 1, 1, none⟩ = some (.int .i64 (Lg.nth bs 1)) := by have := (unhide HMX).at_ 0 1 (by omega) (by omega); rw [(unhide HMK) 1 (by omega)] at this; simpa using this
      have c2 : wr.cell? ⟨w.heap.size + 1, 2, none⟩ = some (.int .i64 (Lg.nth bs 2)) := by have := (unhide HMX).at_ 0 2 (by omega) (by omega); rw [(unhide HMK) 2 (by omega)] at this; simpa using this
      have c3 : wr.cell? ⟨w.heap.size + 1, 3, none⟩ = some (.int .i64 (Lg.nth bs 3)) := by have := (unhide HMX).at_ 0 3 (by omega) (by omega); rw [(unhide HMK) 3 (by omega)] at this; simpa using this
      have c4 : wr.cell? ⟨w.heap.size + 1, 4, none⟩ = some (.int .i64 (Lg.nth bs 4)) := by have := (unhide HMX).at_ 0 4 (by omega) (by omega); rw [(unhide HMK) 4 (by omega)] at this; simpa using this
      have c5 : wr.cell? ⟨w.heap.size + 1, 5, none⟩ = some (.int .i64 (Lg.nth bs 5)) := by have := (unhide HMX).at_ 0 5 (by omega) (by omega); rw [(unhide HMK) 5 (by omega)] at this; simpa using this
      have d0 : wr.cell? ⟨w.heap.size, 0, none⟩ = some (.int .i64 0) := by simpa using (unhide HMZ).at_ 0 0 (by omega) (by omega)
      have d1 : wr.cell? ⟨w.heap.size, 1, none⟩ = some (.int .i64 0) := by simpa using (unhide HMZ).at_ 0 1 (by omega) (by omega)
      have d2 : wr.cell? ⟨w.heap.size, 2, none⟩ = some (.int .i64 0) := by simpa using (unhide HMZ).at_ 0 2 (by omega) (by omega)
      have d3 : wr.cell? ⟨w.heap.size, 3, none⟩ = some (.int .i64 0) := by simpa using (unhide HMZ).at_ 0 3 (by omega) (by omega)
      have d4 : wr.cell? ⟨w.heap.size, 4, none⟩ = some (.int .i64 0) := by simpa using (unhide HMZ).at_ 0 4 (by omega) (by omega)
      have d5 : wr.cell? ⟨w.heap.size, 5, none⟩ = some (.int .i64 0) := by simpa using (unhide HMZ).at_ 0 5 (by omega) (by omega)
      have f0 := (unhide HMZ).fr 0
      have f1 := (unhide HMZ).fr 1
      have f2 := (unhide HMZ).fr 2
      have f3 := (unhide HMZ).fr 3
      have f4 := (unhide HMZ).fr 4
      have f5 := (unhide HMZ).fr 5
      go_wp2_with fail
      exact bodyPost_ret (v := .tuple #[(Lg.nums bs).agg, .bool true]) (by simp [results, Try.results71, go_sem, d0, d1, d2, d3, d4, d5, Lg.nums, Ev.agg]) rfl ⟨rfl, (((((((unhide HBE).setCell (Nat.le_refl _) _).setCell (Nat.le_refl _) _).setCell (Nat.le_refl _) _).setCell (Nat.le_refl _) _).setCell (Nat.le_refl _) _).setCell (Nat.le_refl _) _)⟩
end Go.Proofs.Ytpabpcojiaklfaa
