/-
  The contract of cut of package column. By the verifier.
-/
import Derived.Test.YtpabpcojiaklfaaCEnc
import Derived.Test.YtpabpcojiaklfaaDRefCheck
import Derived.Deep.DeepCutAuto
import Derived.Laws.BitsLemmas
namespace Go.Proofs.Ytpabpcojiaklfaa
open Go.RowKit
set_option linter.unusedVariables false

/-- The number that the first k bytes tell. -/
def Cl.valTo : List Nat → Nat → Nat
  | _, 0 => 0
  | [], _ + 1 => 0
  | b :: r, k + 1 => b % 128 + 128 * Cl.valTo r k

theorem Cl.valTo_step : ∀ (bs : List Nat) (k b : Nat), bs[k]? = some b → Cl.valTo bs (k + 1) = Cl.valTo bs k + b % 128 * 128 ^ k
  | [], k, b, h => by simp at h
  | x :: r, 0, b, h => by
    simp at h
    subst h
    show x % 128 + 128 * Cl.valTo r 0 = 0 + _
    have : Cl.valTo r 0 = 0 := by cases r <;> rfl
    rw [this]
    simp
  | x :: r, k + 1, b, h => by
    have ih := Cl.valTo_step r k b (by simpa using h)
    show x % 128 + 128 * Cl.valTo r (k + 1) = x % 128 + 128 * Cl.valTo r k + _
    rw [ih, Nat.pow_succ, Nat.mul_add, ← Nat.add_assoc]
    have : 128 * (b % 128 * 128 ^ k) = b % 128 * (128 ^ k * 128) := by rw [Nat.mul_comm 128, Nat.mul_assoc]
    omega

theorem Cl.valTo_lt : ∀ (bs : List Nat) (k : Nat), Cl.valTo bs k < 128 ^ k
  | [], 0 => by simp [Cl.valTo]
  | [], k + 1 => by
    show 0 < _
    exact Nat.pow_pos (by omega)
  | b :: r, 0 => by simp [Cl.valTo]
  | b :: r, k + 1 => by
    have ih := Cl.valTo_lt r k
    show b % 128 + 128 * Cl.valTo r k < _
    rw [Nat.pow_succ]
    omega

theorem Cl.natG_none : ∀ (m : Nat) (f : Bool) (bs : List Nat), (∀ i b, i < m → bs[i]? = some b → 128 ≤ b) → Cl.natG m f bs = none
  | 0, f, bs, _ => by cases bs <;> rfl
  | m + 1, f, [], _ => rfl
  | m + 1, f, b :: r, h => by
    have h0 := h 0 b (by omega) rfl
    show (if b < 128 then _ else _) = _
    rw [if_neg (by omega), Cl.natG_none m false r (fun i c hi hc => h (i + 1) c (by omega) (by simpa using hc))]
    rfl

theorem Cl.natG_some : ∀ (m j : Nat) (f : Bool) (bs : List Nat) (c : Nat), j < m → (∀ i b, i < j → bs[i]? = some b → 128 ≤ b) → bs[j]? = some c → c < 128 → (∀ b ∈ bs, b < 256) →
    Cl.natG m f bs = if c = 0 ∧ (0 < j ∨ f = false) then none else some (Cl.valTo bs (j + 1), bs.drop (j + 1))
  | 0, j, f, bs, c, h, _, _, _, _ => by omega
  | m + 1, j, f, [], c, _, _, h, _, _ => by simp at h
  | m + 1, 0, f, b :: r, c, _, _, h, hc, hb => by
    simp at h
    subst h
    show (if b < 128 then (if b = 0 ∧ f = false then none else some (b, r)) else _) = _
    rw [if_pos hc]
    have e : Cl.valTo (b :: r) (0 + 1) = b := by
      show b % 128 + 128 * Cl.valTo r 0 = b
      have : Cl.valTo r 0 = 0 := by cases r <;> rfl
      rw [this]
      omega
    rw [e]
    by_cases hx : b = 0 ∧ f = false
    · rw [if_pos hx, if_pos ⟨hx.1, Or.inr hx.2⟩]
    · rw [if_neg hx, if_neg (by intro hh; rcases hh with ⟨h1, h2 | h2⟩; omega; exact hx ⟨h1, h2⟩)]
      rfl
  | m + 1, j + 1, f, b :: r, c, hj, hall, h, hc, hb => by
    have h0 := hall 0 b (by omega) rfl
    have hb0 := hb b List.mem_cons_self
    have ih := Cl.natG_some m j false r c (by omega) (fun i x hi hx => hall (i + 1) x (by omega) (by simpa using hx)) (by simpa using h) hc (fun x hx => hb x (List.mem_cons_of_mem _ hx))
    show (if b < 128 then _ else (Cl.natG m false r).map fun x => (b - 128 + 128 * x.1, x.2)) = _
    rw [if_neg (by omega), ih]
    by_cases hx : c = 0
    · rw [if_pos ⟨hx, Or.inr rfl⟩, if_pos ⟨hx, Or.inl (by omega)⟩]
      rfl
    · rw [if_neg (by intro hh; exact hx hh.1), if_neg (by intro hh; exact hx hh.1)]
      show some (b - 128 + 128 * Cl.valTo r (j + 1), r.drop (j + 1)) = some (b % 128 + 128 * Cl.valTo r (j + 1), r.drop (j + 1))
      have : b - 128 = b % 128 := by omega
      rw [this]

theorem small_any (b : Nat) (w : World) (hb : b < 256) :
    Calls Try.prog 77 #[.int .u8 (b : Nat)] w fun e w' => e = .returned (.bool (decide (b < 128))) ∧ w' = w := by
  by_cases h : b < 128
  · have h2 : (b : Int) < 128 := by omega
    have hd : decide (b < 128) = true := by simp [h]
    rw [hd]
    go_enter Try.func77, Try.ntmps77
    go_wp2
    go_ret
    exact ⟨rfl, rfl⟩
  · have h2 : ¬ (b : Int) < 128 := by omega
    have hd : decide (b < 128) = false := by simp; omega
    rw [hd]
    go_enter Try.func77, Try.ntmps77
    go_wp2
    go_ret
    exact ⟨rfl, rfl⟩

/-- Bytes that lie in a slice. -/
structure Cl.R8 (w : World) (ad : Option Addr) (l : List Nat) : Prop where
  at_ : ∀ i x, l[i]? = some x → ∃ b o, ad = some ⟨b, o, none⟩ ∧ w.cell? ⟨b, o + i, none⟩ = some (.int .u8 (x : Nat))

set_option maxHeartbeats 400000 in
theorem indexB_any (l : List Nat) (ad : Option Addr) (cap : Nat) (w : World) (hr : Cl.R8 w ad l) (hl : l.length ≤ 600) (hb : ∀ b ∈ l, b < 256) :
    Calls Try.prog 76 #[.slice ad l.length cap, .func (.func 77) #[] #[]] w fun e w' => ((e = .returned (.int .i64 (-1)) ∧ ∀ (i b : Nat), l[i]? = some b → 128 ≤ b) ∨ (∃ j c : Nat, e = .returned (.int .i64 (j : Nat)) ∧ l[j]? = some c ∧ c < 128 ∧ ∀ (i b : Nat), i < j → l[i]? = some b → 128 ≤ b)) ∧ w' = w := by
  have HR := hide hr
  have HB := hide hb
  clear hr hb
  go_enter Try.func76, Try.ntmps76
  go_wp2_with fail
  go_loop [8] (fun v => ∃ k : Nat, k ≤ l.length ∧ v = .int .i64 k ∧ (∀ j s, j < k → l[j]? = some s → 128 ≤ s)) (fun v => l.length - (intOf v).toNat)
  case atStart => exact ⟨0, by omega, rfl, fun j s h => by omega⟩
  case round =>
    obtain ⟨k, hk, rfl, hall⟩ := hrel
    have HA := hide hall
    clear hall
    by_cases hlt : k < l.length
    · obtain ⟨t, ht⟩ : ∃ t, l[k]? = some t := ⟨l[k], List.getElem?_eq_getElem hlt⟩
      obtain ⟨b, o, rfl, c0⟩ := (unhide HR).at_ k t ht
      have HT := hide ht
      have htb := (unhide HB) t (List.mem_of_getElem? ht)
      clear ht
      have hk1 : (0 : Int) ≤ (k : Int) := by omega
      have hk2 : (k : Int) < (l.length : Int) := by omega
      go_wp2_with fail
      refine (small_any t _ htb).mono ?_
      rintro e w' ⟨rfl, rfl⟩
      by_cases h3 : t < 128
      · have hd : decide (t < 128) = true := by simp [h3]
        rw [hd]
        have H3 := hide h3
        clear hd h3
        go_wp2_with fail
        go_ret
        exact ⟨Or.inr ⟨k, t, rfl, unhide HT, unhide H3, unhide HA⟩, rfl⟩
      · have hd : decide (t < 128) = false := by simp; omega
        rw [hd]
        have H3 := hide h3
        clear hd h3
        go_wp2_with fail
        go_round
        case rel =>
          refine ⟨k + 1, by omega, by go_num, ?_⟩
          intro j s hj hs
          by_cases e2 : j = k
          · subst e2
            have := unhide HT
            rw [this] at hs
            cases hs
            have := unhide H3
            omega
          · exact (unhide HA) j s (by omega) hs
        case measure => simp [intOf]; omega
    · go_wp2_with fail
      go_ret
      exact ⟨Or.inl ⟨rfl, fun i b hi => (unhide HA) i b (by have := (List.getElem?_eq_some_iff.1 hi).1; omega) hi⟩, rfl⟩

theorem Cl.wraps_i64 : ∀ n : Int, 0 ≤ n → n < 2 ^ 62 → IntKind.i64.wrap n = n := by
  intro n h1 h2
  simp [IntKind.wrap, IntKind.bits, IntKind.signed]
  omega

theorem Cl.or_step (V t k : Nat) (hV : V < 128 ^ k) (hk : k ≤ 5) : bits .or .i64 (V : Int) (wrap64 ((t : Int) % 128 * 2 ^ (7 * k))) = ((V + t % 128 * 128 ^ k : Nat) : Int) := by
  have hp : (128 : Nat) ^ k = 2 ^ (7 * k) := by rw [show (128 : Nat) = 2 ^ 7 from rfl, ← Nat.pow_mul]
  have hle : 2 ^ (7 * k) ≤ 2 ^ 35 := Nat.pow_le_pow_right (by omega) (by omega)
  have ht : t % 128 * 2 ^ (7 * k) ≤ 127 * 2 ^ 35 := Nat.mul_le_mul (by omega) hle
  have e : (t : Int) % 128 * 2 ^ (7 * k) = ((t % 128 * 2 ^ (7 * k) : Nat) : Int) := by simp
  rw [hp] at hV ⊢
  rw [e]
  have hw : wrap64 ((t % 128 * 2 ^ (7 * k) : Nat) : Int) = ((t % 128 * 2 ^ (7 * k) : Nat) : Int) := by
    generalize t % 128 * 2 ^ (7 * k) = X at *
    unfold wrap64
    omega
  rw [hw]
  have hm : ((t % 128 * 2 ^ (7 * k) : Nat) : Int) % 2 ^ (7 * k) = 0 := by simp
  have hv2 : (V : Int) < 2 ^ (7 * k) := by exact_mod_cast hV
  have hc : ∀ X : Int, bits .or .i64 (V : Int) X = bits .or .i64 X (V : Int) := fun X => by simp only [bits, BitVec.or_comm]
  rw [hc, bits_join .i64 62 (by decide) Cl.wraps_i64 (7 * k) _ _ (by omega) hm (by generalize t % 128 * 2 ^ (7 * k) = X at *; omega) (by omega) hv2 (by generalize (2 : Nat) ^ (7 * k) = Y at *; omega)]
  generalize t % 128 * 2 ^ (7 * k) = X at *
  omega

/-- What cut answers. -/
def Cl.cutV : Option (Nat × List Nat) → Value
  | some x => .tuple #[.int .i64 (x.1 : Nat), .string (Cl.str x.2), .bool true]
  | none => .tuple #[.int .i64 0, .string ⟨#[]⟩, .bool false]

theorem Cl.str_extract (bs : List Nat) (a b : Nat) : (Cl.str bs).extract a b = Cl.str ((bs.take b).drop a) := by
  apply Cl.ba_ext
  rw [ByteArray.data_extract]
  show (bs.map UInt8.ofNat).toArray.extract a b = (((bs.take b).drop a).map UInt8.ofNat).toArray
  apply Array.toList_inj.1
  simp [List.extract_eq_take_drop, List.map_drop, List.map_take, List.drop_take]

theorem Cl.to_bytes (bs : List Nat) (w : World) (hb : ∀ b ∈ bs, b < 256) :
    ∃ (cap : Nat) (WA : World), (convert 9 77 (.string (Cl.str bs))).run Try.prog w = .ok (.slice (some ⟨w.heap.size, 0, none⟩) bs.length cap) WA ∧ Cl.R8 WA (some ⟨w.heap.size, 0, none⟩) bs ∧ Below w.heap.size w WA ∧ bs.length ≤ cap := by
  have h := run_bytes_of_string (P := Try.prog) w 9 77 5 (Cl.str bs) Try.underlying9 Try.underlying77 Try.underlying5
  rw [Cl.str_size] at h
  refine ⟨_, _, h, ⟨fun i x hi => ⟨w.heap.size, 0, rfl, ?_⟩⟩, (Below.refl _ _).drew.alloc (Nat.le_refl _) _, grownCap_ge _ _ _ _⟩
  have hx := hb x (List.mem_of_getElem? hi)
  have hlt := (List.getElem?_eq_some_iff.1 hi).1
  rw [Nat.zero_add]
  have e : (UInt8.ofNat x).toNat = x := by rw [UInt8.toNat_ofNat']; omega
  have hh : ∀ O : Obj, (World.alloc w.drew O).heap[w.heap.size]? = some O := fun O => by
    show (w.heap.push O)[w.heap.size]? = _
    simp
  dsimp only [World.cell?]
  rw [hh]
  have hx' : bs[i] = x := (List.getElem?_eq_some_iff.1 hi).2
  simp [bytesRow, Array.getElem?_append, Cl.str, hlt, hx']
  omega

set_option maxRecDepth 100000 in
set_option maxHeartbeats 1600000 in
theorem cut_any (bs : List Nat) (w : World) (hl : bs.length ≤ maxLen) (hb : ∀ b ∈ bs, b < 256) :
    Calls Try.prog 49 #[.string (Cl.str bs)] w fun e w' => e = .returned (Cl.cutV (Cl.natG 6 true bs)) ∧ Below w.heap.size w w' := by
  have HB := hide hb
  have hsz := Cl.str_size bs
  clear hb
  go_enter Try.func49, Try.ntmps49
  go_upto_region 1 with fail
  go_cut [5] (fun v wx => ∃ (m cap : Nat), m ≤ 6 ∧ m ≤ bs.length ∧ m ≤ cap ∧ (m = 6 ∨ m = bs.length) ∧ v = .slice (some ⟨w.heap.size, 0, none⟩) m cap ∧ Cl.R8 wx (some ⟨w.heap.size, 0, none⟩) (bs.take m) ∧ Below w.heap.size w wx)
  case first =>
    by_cases h6 : (bs.length : Int) ≤ 6
    · obtain ⟨cap, WA, hcv, hr8, hbe, hcp⟩ := Cl.to_bytes (bs.take bs.length) w (fun b hh => (unhide HB) b (List.mem_of_mem_take hh))
      have he := Cl.str_extract bs 0 bs.length
      rw [List.drop_zero] at he
      rw [← he, List.length_take, Nat.min_self] at hcv
      rw [List.length_take, Nat.min_self] at hcp
      have HX := hide (And.intro hr8 hbe)
      clear hr8 hbe he
      go_wp2_with fail
      go_meet
      case rel => exact ⟨bs.length, cap, by omega, by omega, hcp, Or.inr rfl, rfl, (unhide HX).1, (unhide HX).2⟩
    · obtain ⟨cap, WA, hcv, hr8, hbe, hcp⟩ := Cl.to_bytes (bs.take 6) w (fun b hh => (unhide HB) b (List.mem_of_mem_take hh))
      have he := Cl.str_extract bs 0 6
      rw [List.drop_zero] at he
      rw [← he, List.length_take, Nat.min_eq_left (by omega)] at hcv
      rw [List.length_take, Nat.min_eq_left (by omega)] at hcp
      have HX := hide (And.intro hr8 hbe)
      clear hr8 hbe he
      go_wp2_with fail
      go_meet
      case rel => exact ⟨6, cap, by omega, by omega, hcp, Or.inl rfl, rfl, (unhide HX).1, (unhide HX).2⟩
  case rest =>
    obtain ⟨m, cap, hm6, hml, hmc, hmm, rfl, hr8, hbe⟩ := hcut
    have HR8 := hide hr8
    have HBE := hide hbe
    have htl : (bs.take m).length = m := by rw [List.length_take]; omega
    have hix := indexB_any (bs.take m) (some ⟨w.heap.size, 0, none⟩) cap wc hr8 (by omega) (fun b hh => (unhide HB) b (List.mem_of_mem_take hh))
    rw [htl] at hix
    have HIX := hide hix
    clear hr8 hbe hix
    go_wp2_with fail
    refine (unhide HIX).mono ?_
    rintro e w1 ⟨h1 | ⟨j, c, rfl, hjc, hc, hall⟩, rfl⟩
    · obtain ⟨rfl, hall⟩ := h1
      have hn : Cl.natG 6 true bs = none := Cl.natG_none 6 true bs (fun i b hi hib => hall i b (by rw [List.getElem?_take]; have := (List.getElem?_eq_some_iff.1 hib).1; rw [if_pos (by omega)]; exact hib))
      have HN := hide hn
      clear hn hall
      go_wp2_with fail
      exact bodyPost_ret (v := .tuple #[.int .i64 0, .string ⟨#[]⟩, .bool false]) (by simp [results, Try.results49, go_sem]) rfl ⟨by rw [unhide HN]; rfl, unhide HBE⟩
    · have hjm : j < m := by have := (List.getElem?_eq_some_iff.1 hjc).1; omega
      have hbj : bs[j]? = some c := by rw [List.getElem?_take, if_pos hjm] at hjc; exact hjc
      have hn := Cl.natG_some 6 j true bs c (by omega) (fun i b hi hib => hall i b hi (by rw [List.getElem?_take, if_pos (by omega)]; exact hib)) hbj hc (unhide HB)
      obtain ⟨b0, o0, e0, hcell⟩ := (unhide HR8).at_ j c hjc
      cases e0
      rw [Nat.zero_add] at hcell
      have hj0 : ¬ (j : Int) < 0 := by omega
      clear hall hjc
      have hj1 : (0 : Int) ≤ (j : Int) := by omega
      have hj2 : (j : Int) < (m : Int) := by omega
      by_cases hz : c = 0 ∧ 0 < j
      · rw [if_pos ⟨hz.1, Or.inl hz.2⟩] at hn
        have HN := hide hn
        obtain ⟨rfl, hjp⟩ := hz
        have hjp2 : (0 : Int) < (j : Int) := by omega
        clear hn
        go_wp2_with fail
        exact bodyPost_ret (v := .tuple #[.int .i64 0, .string ⟨#[]⟩, .bool false]) (by simp [results, Try.results49, go_sem]) rfl ⟨by rw [unhide HN]; rfl, unhide HBE⟩
      · rw [if_neg (by intro hh; rcases hh with ⟨h1, h2 | h2⟩; exact hz ⟨h1, h2⟩; cases h2)] at hn
        have HN := hide hn
        clear hn
        have hjc1 : (j : Int) + 1 ≤ (cap : Int) := by omega
        have HJ := hide (show ∀ i b, i < j + 1 → bs[i]? = some b → w1.cell? ⟨w.heap.size, i, none⟩ = some (.int .u8 (b : Nat)) from fun i b hi hib => by
          obtain ⟨b1, o1, e1, hx⟩ := (unhide HR8).at_ i b (by rw [List.getElem?_take, if_pos (by omega)]; exact hib)
          cases e1
          rw [Nat.zero_add] at hx
          exact hx)
        have HJB := hide hbj
        have hjl := (List.getElem?_eq_some_iff.1 hbj).1
        clear hbj
        by_cases hjp : 0 < j
        · have hjp2 : (0 : Int) < (j : Int) := by omega
          have hcz : ((c : Int) == 0) = false := by rw [beq_eq_false_iff_ne]; omega
          go_wp2_with fail
          go_loop [7, 8, 9, 36] (fun nv iv bv v => ∃ k : Nat, k ≤ j + 1 ∧ v = .int .i64 k ∧ nv = .int .i64 (Cl.valTo bs k : Nat)) (fun _ _ _ v => j + 1 - (intOf v).toNat)
          case atStart => exact ⟨0, by omega, rfl, by cases bs <;> rfl⟩
          case round =>
            obtain ⟨k, hk, rfl, rfl⟩ := hrel
            by_cases hlt : k < j + 1
            · obtain ⟨t, ht⟩ : ∃ t, bs[k]? = some t := ⟨bs[k]'(by omega), List.getElem?_eq_getElem (by omega)⟩
              have c0 := (unhide HJ) k t hlt ht
              have hk1 : (0 : Int) ≤ (k : Int) := by omega
              have hk2 : (k : Int) < (j : Int) + 1 := by omega
              have htb := (unhide HB) t (List.mem_of_getElem? ht)
              have HST := hide (Cl.valTo_step bs k t ht)
              have HVL := hide (Cl.valTo_lt bs k)
              clear ht
              go_wp2_with fail
              exact ⟨⟨k + 1, by omega, by go_num, by rw [unhide HST, Cl.or_step _ _ _ (unhide HVL) (by omega)]⟩, by simp [intOf]; omega⟩
            · have hk2 : ¬ (k : Int) < (j : Int) + 1 := by omega
              have hkj : k = j + 1 := by omega
              subst hkj
              have hss : (j : Int) + 1 ≤ (bs.length : Int) := by omega
              go_wp2_with fail
              go_quiet (fail)
              go_wp2_with fail
              exact bodyPost_ret (v := .tuple #[.int .i64 (Cl.valTo bs (j + 1) : Nat), .string ((Cl.str bs).extract (j + 1) bs.length), .bool true]) (by simp [results, Try.results49, go_sem]) rfl ⟨by rw [unhide HN, Cl.str_extract, List.take_length]; rfl, below_drewN (unhide HBE) _⟩
        · have hjp2 : ¬ (0 : Int) < (j : Int) := by omega
          go_wp2_with fail
          go_loop [7, 8, 9, 36] (fun nv iv bv v => ∃ k : Nat, k ≤ j + 1 ∧ v = .int .i64 k ∧ nv = .int .i64 (Cl.valTo bs k : Nat)) (fun _ _ _ v => j + 1 - (intOf v).toNat)
          case atStart => exact ⟨0, by omega, rfl, by cases bs <;> rfl⟩
          case round =>
            obtain ⟨k, hk, rfl, rfl⟩ := hrel
            by_cases hlt : k < j + 1
            · obtain ⟨t, ht⟩ : ∃ t, bs[k]? = some t := ⟨bs[k]'(by omega), List.getElem?_eq_getElem (by omega)⟩
              have c0 := (unhide HJ) k t hlt ht
              have hk1 : (0 : Int) ≤ (k : Int) := by omega
              have hk2 : (k : Int) < (j : Int) + 1 := by omega
              have htb := (unhide HB) t (List.mem_of_getElem? ht)
              have HST := hide (Cl.valTo_step bs k t ht)
              have HVL := hide (Cl.valTo_lt bs k)
              clear ht
              go_wp2_with fail
              exact ⟨⟨k + 1, by omega, by go_num, by rw [unhide HST, Cl.or_step _ _ _ (unhide HVL) (by omega)]⟩, by simp [intOf]; omega⟩
            · have hk2 : ¬ (k : Int) < (j : Int) + 1 := by omega
              have hkj : k = j + 1 := by omega
              subst hkj
              have hss : (j : Int) + 1 ≤ (bs.length : Int) := by omega
              go_wp2_with fail
              go_quiet (fail)
              go_wp2_with fail
              exact bodyPost_ret (v := .tuple #[.int .i64 (Cl.valTo bs (j + 1) : Nat), .string ((Cl.str bs).extract (j + 1) bs.length), .bool true]) (by simp [results, Try.results49, go_sem]) rfl ⟨by rw [unhide HN, Cl.str_extract, List.take_length]; rfl, below_drewN (unhide HBE) _⟩
end Go.Proofs.Ytpabpcojiaklfaa
