/-
  The contract of Encode of package column. By the verifier.
-/
import Derived.Test.YtpabpcojiaklfaaCEncLem
namespace Go.Proofs.Ytpabpcojiaklfaa
open Go.RowKit
set_option linter.unusedVariables false

/-- What Encode answers. -/
def Cl.encR (l : List Ev) : ByteArray × Nat := if 4000 < l.length then (⟨#[]⟩, 2) else if l.all Ev.ok then (Cl.str (Cl.encTo l 6), 0) else (⟨#[]⟩, 3)

theorem Cl.ow_below {W W' : World} {B : Nat} {e : TypeId} {size : Nat} {v : Value} {n : Nat} {xs : List Value} (h : W.ownsRow B e size v n xs) (hb : Below W.heap.size W W') : W'.ownsRow B e size v n xs := by
  refine ⟨h.1, ?_⟩
  rcases h.2 with h | ⟨g, cap, cur, h1, h2, h3, r⟩
  · exact .inl h
  · exact .inr ⟨g, cap, cur, h1, h2, (hb.block g (Array.getElem?_eq_some_iff.1 h3).1).trans h3, r⟩

theorem Cl.of_col (e : Ev) (c : Nat) (h : c < 6) : (#[Value.int .i64 e.n0, Value.int .i64 e.n1, Value.int .i64 e.n2, Value.int .i64 e.n3, Value.int .i64 e.n4, Value.int .i64 e.n5] : Array Value)[c]? = some (.int .i64 (e.col c)) := by
  match c, h with
  | 0, _ => rfl
  | 1, _ => rfl
  | 2, _ => rfl
  | 3, _ => rfl
  | 4, _ => rfl
  | 5, _ => rfl

theorem Cl.index_col (e : Ev) (c : Nat) (h : c < 6) (w : World) : (Instr.index 79 (.agg #[Value.int .i64 e.n0, Value.int .i64 e.n1, Value.int .i64 e.n2, Value.int .i64 e.n3, Value.int .i64 e.n4, Value.int .i64 e.n5]) (.int .i64 (c : Nat))).run Try.prog w = .ok (.int .i64 (e.col c)) w := by
  match c, h with
  | 0, _ => simp [Instr.index, run_underlying Try.underlying79, asIntOf, go_sem, Ev.col]
  | 1, _ => simp [Instr.index, run_underlying Try.underlying79, asIntOf, go_sem, Ev.col]
  | 2, _ => simp [Instr.index, run_underlying Try.underlying79, asIntOf, go_sem, Ev.col]
  | 3, _ => simp [Instr.index, run_underlying Try.underlying79, asIntOf, go_sem, Ev.col]
  | 4, _ => simp [Instr.index, run_underlying Try.underlying79, asIntOf, go_sem, Ev.col]
  | 5, _ => simp [Instr.index, run_underlying Try.underlying79, asIntOf, go_sem, Ev.col]

theorem Cl.conv_row (bs : List Nat) (g cap B : Nat) (w : World) (hb : ∀ b ∈ bs, b < 256) (how : w.ownsRow B 5 1 (.slice (some ⟨g, 0, none⟩) bs.length cap) bs.length (Cl.by8 bs)) :
    (convert 77 9 (.slice (some ⟨g, 0, none⟩) bs.length cap)).run Try.prog w = .ok (.string (Cl.str bs)) w := by
  have := run_convert_bytes_back (P := Try.prog) w 77 9 5 ⟨g, 0, none⟩ cap (bs.map UInt8.ofNat) Try.underlying77 Try.underlying5 Try.underlying9 (fun j hj => by
    have hj' : j < bs.length := by simpa using hj
    refine how.cells (g := g) rfl j _ ?_
    have hbj := hb bs[j] (List.getElem_mem hj')
    have : (UInt8.ofNat bs[j]).toNat = bs[j] := by rw [UInt8.toNat_ofNat']; omega
    unfold Cl.by8
    rw [List.getElem?_map, List.getElem?_eq_getElem hj', List.getElem_map, this]
    rfl)
  rw [List.length_map] at this
  exact this

theorem Cl.colB_byte (c : Nat) : ∀ (a : List Ev) (p : Int), ∀ b ∈ Cl.colB c p a, b < 256
  | [], p, b, hb => by cases hb
  | x :: r, p, b, hb => by
    rcases List.mem_append.1 hb with h | h
    · exact Cl.natB_byte _ b h
    · exact Cl.colB_byte c r (x.col c) b h
theorem Cl.encTo_byte (l : List Ev) : ∀ k, ∀ b ∈ Cl.encTo l k, b < 256
  | 0, b, hb => Cl.natB_byte _ b hb
  | k + 1, b, hb => by
    rcases List.mem_append.1 hb with h | h
    · exact Cl.encTo_byte l k b h
    · exact Cl.colB_byte k l 0 b h

set_option maxRecDepth 100000 in
set_option maxHeartbeats 1600000 in
theorem Encode_any (l : List Ev) (ad : Option Addr) (cap : Nat) (w : World) (hr : Cl.RE w ad l) (hll : l.length ≤ 35184372088832) :
    Calls Try.prog 18 #[.slice ad l.length cap] w fun e w' => e = .returned (.tuple #[.string (Cl.encR l).1, .int .i64 ((Cl.encR l).2 : Nat)]) ∧ Below w.heap.size w w' := by
  have HR := hide hr
  clear hr
  by_cases hl : 4000 < l.length
  · have hc : (4000 : Int) < (l.length : Int) := by omega
    have hR : Cl.encR l = (⟨#[]⟩, 2) := by unfold Cl.encR; rw [if_pos hl]
    rw [hR]
    clear hR
    go_enter Try.func18, Try.ntmps18
    go_wp2_with fail
    go_ret2
    exact ⟨rfl, Below.refl _ _⟩
  have hc : ¬ (4000 : Int) < (l.length : Int) := by omega
  have hl4 : l.length ≤ 4000 := by omega
  cases hok : l.all Ev.ok
  · have hR : Cl.encR l = (⟨#[]⟩, 3) := by unfold Cl.encR; rw [if_neg hl, hok]; rfl
    rw [hR]
    have HO := hide hok
    clear hR hok
    go_enter Try.func18, Try.ntmps18
    go_wp2_with fail
    refine (AreWithin_any l ad cap _ (unhide HR) hl4).mono ?_
    rw [unhide HO]
    rintro e w1 ⟨rfl, hb1⟩
    have HB1 := hide hb1
    clear hb1
    go_wp2_with fail
    go_ret2
    exact ⟨rfl, unhide HB1⟩
  have hR : Cl.encR l = (Cl.str (Cl.encTo l 6), 0) := by unfold Cl.encR; rw [if_neg hl, hok]; rfl
  rw [hR]
  have HO := hide hok
  have HA := hide (List.all_eq_true.1 hok)
  clear hR hok
  go_enter Try.func18, Try.ntmps18
  go_wp2_with fail
  refine (AreWithin_any l ad cap _ (unhide HR) hl4).mono ?_
  rw [unhide HO]
  rintro e w1 ⟨rfl, hb1⟩
  have HB1 := hide hb1
  have hz1 := hb1.size
  clear hb1
  go_wp2_with fail
  refine (put_any w.heap.size [] none 0 0 l.length _ hz1 (World.ownsRow_nil _ _ _ _) (by omega) (by omega)).mono ?_
  rintro e w2 ⟨g2, c2, rfl, ho2, hb2⟩
  have HO2 := hide ho2
  have HB2 := hide ((unhide HB1).trans hb2)
  clear ho2 hb2
  go_wp2_with fail
  go_loopw [4, 19] (fun sv v wr => ∃ (c g cap : Nat), c ≤ 6 ∧ v = .int .i64 (c : Nat) ∧ sv = .slice (some ⟨g, 0, none⟩) (Cl.encTo l c).length cap ∧ wr.ownsRow w.heap.size 5 1 (.slice (some ⟨g, 0, none⟩) (Cl.encTo l c).length cap) (Cl.encTo l c).length (Cl.by8 (Cl.encTo l c)) ∧ Below w.heap.size w wr) (fun _ v _ => 6 - (intOf v).toNat)
  case atStart =>
    refine ⟨0, g2, c2, by omega, rfl, rfl, ?_, unhide HB2⟩
    have := unhide HO2
    rw [Nat.zero_add] at this
    exact this
  case round =>
    obtain ⟨c, g, cap, hc, rfl, rfl, how, hbe⟩ := hrel
    have HOW := hide how
    have HBE := hide hbe
    have hz := hbe.size
    clear hbe how
    by_cases hlt : c < 6
    · have hc2 : (c : Int) < 6 := by omega
      obtain ⟨wo, hwo⟩ : ∃ wo, wo = wr := ⟨wr, rfl⟩
      subst hwo
      go_wp2_with fail
      go_loopw [4, 6, 24] (fun sv pv v wr => ∃ (k g cap : Nat), k ≤ l.length ∧ v = .int .i64 (k : Nat) ∧ pv = .int .i64 (Cl.lastC c 0 (l.take k)) ∧ sv = .slice (some ⟨g, 0, none⟩) (Cl.encAt l c k).length cap ∧ wr.ownsRow w.heap.size 5 1 (.slice (some ⟨g, 0, none⟩) (Cl.encAt l c k).length cap) (Cl.encAt l c k).length (Cl.by8 (Cl.encAt l c k)) ∧ Below w.heap.size w wr) (fun _ _ v _ => l.length - (intOf v).toNat)
      case atStart => exact ⟨0, g, cap, by omega, rfl, rfl, by rw [Cl.encAt_zero], by rw [Cl.encAt_zero]; exact unhide HOW, unhide HBE⟩
      case round =>
        obtain ⟨k, g3, cap3, hk, rfl, rfl, rfl, how3, hbe⟩ := hrel
        have HB := hide hbe
        have HOW3 := hide how3
        have hzz := hbe.size
        clear hbe how3
        by_cases hkl : k < l.length
        · obtain ⟨t, ht⟩ : ∃ t, l[k]? = some t := ⟨l[k], List.getElem?_eq_getElem hkl⟩
          obtain ⟨b, o, rfl, hb, c0, c1, c2, c3, c4, c5⟩ := ((unhide HR).later (unhide HB) (Nat.le_refl _)).at_ k t ht
          have hto := (unhide HA) t (List.mem_of_getElem? ht)
          have hcol := Ev.ok_col hto c
          have hlast := Cl.last_in l c k (unhide HA)
          have HEN := hide (Cl.encAt_step l c k t ht)
          have HLN := hide (Cl.last_step l c k t ht)
          have hsl := Cl.encAt_len l c k hl4 (unhide HA) hlt
          clear ht hto
          have hk1 : (0 : Int) ≤ (k : Int) := by omega
          have hk2 : (k : Int) < (l.length : Int) := by omega
          generalize Cl.lastC c 0 (l.take k) = P at *
          go_wp2_with fail
          refine (Of_any t _).mono ?_
          rintro e w3 ⟨rfl, hb3⟩
          have HB3 := hide (below_two hb3)
          have hz3 := (unhide HB3).size
          have hoc := Cl.index_col t c hlt w3
          have HOW4 := hide (Cl.ow_below (unhide HOW3) (unhide HB3))
          clear hb3 c0 c1 c2 c3 c4 c5
          generalize t.col c = C at *
          unfold Ev.agg
          go_wp2_with fail
          refine (natural_any (C - P) _ (by omega) (by omega)).mono ?_
          rintro e w4 ⟨rfl, rfl⟩
          have hzl := Cl.zig_lt (n := C - P) (by omega) (by omega)
          have hns := Cl.natB_zig (n := C - P) (by omega) (by omega)
          go_wp2_with fail
          refine (put_any w.heap.size (Cl.encAt l c k) (some ⟨g3, 0, none⟩) (Cl.encAt l c k).length cap3 _ _ (by omega) (unhide HOW4) hzl (by omega)).mono ?_
          rintro e w5 ⟨g5, c5, rfl, ho5, hb5⟩
          have HO5 := hide ho5
          have HB5 := hide (((unhide HB).trans ((unhide HB3).mono hzz)).trans hb5)
          have HLE := hide (show (Cl.encAt l c (k + 1)).length = (Cl.encAt l c k).length + (Cl.natB (Cl.zig (C - P))).length by rw [unhide HEN, List.length_append])
          clear ho5 hb5
          go_wp2_with fail
          exact ⟨⟨k + 1, g5, c5, by omega, by go_num, by rw [unhide HLN], by rw [unhide HLE], by rw [unhide HLE, unhide HEN]; exact unhide HO5, unhide HB5⟩, by simp [intOf]; omega⟩
        · have hk2 : ¬ (k : Int) < (l.length : Int) := by omega
          have hkl2 : k = l.length := by omega
          subst hkl2
          go_wp2_with fail
          exact ⟨⟨c + 1, g3, cap3, by omega, by go_num, by rw [Cl.encAt_all], by rw [← Cl.encAt_all]; exact unhide HOW3, unhide HB⟩, by simp [intOf]; omega⟩
    · have hc2 : ¬ (c : Int) < 6 := by omega
      have hc6 : c = 6 := by omega
      subst hc6
      have hcv := Cl.conv_row (Cl.encTo l 6) g cap w.heap.size wr (Cl.encTo_byte l 6) (unhide HOW)
      go_wp2_with fail
      go_ret2
      exact ⟨rfl, unhide HBE⟩
end Go.Proofs.Ytpabpcojiaklfaa
