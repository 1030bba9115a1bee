/- By the verifier. -/
import Derived.Shelf.Strings.Repeat
import Derived.Shelf.Strconv.Itoa3
import Derived.Test.YtfccpddehpgfoaaGreatDoorXA
import Derived.Deep.RegionHeld3
import Derived.Laws.Concat
set_option maxRecDepth 100000
set_option maxHeartbeats 6400000
namespace Go.Proofs
open Go.Shelf
def Tryz.laysRepeat_ren : Go.Shelf.Ren := ⟨fun | 105 => 162 | 212 => 194 | 99 => 118 | 165 => 193 | 166 => 70 | 170 => 195 | 169 => 39 | 263 => 209 | 264 => 210 | 206 => 158 | 240 => 120 | 241 => 208 | 276 => 160 | 277 => 216 | n => n, fun | 9 => 9 | 3 => 3 | 4 => 4 | 20 => 20 | 0 => 0 | 46 => 208 | 109 => 209 | 5 => 5 | 72 => 72 | 76 => 120 | 51 => 221 | 146 => 222 | 53 => 224 | 148 => 225 | 70 => 69 | 37 => 70 | 75 => 118 | 127 => 125 | 164 => 186 | 80 => 76 | n => n, fun | n => n⟩
theorem Tryz.laysRepeat : Go.Proofs.Lays.n105 Tryz.prog Tryz.laysRepeat_ren := {
 mixed := by kernel_rfl
 f99 := Tryz.func118.trans (congrArg some (by kernel_rfl))
 f105 := Tryz.func162.trans (congrArg some (by kernel_rfl))
 f165 := Tryz.func193.trans (congrArg some (by kernel_rfl))
 f166 := Tryz.func70.trans (congrArg some (by kernel_rfl))
 f169 := Tryz.func39.trans (congrArg some (by kernel_rfl))
 f170 := Tryz.func195.trans (congrArg some (by kernel_rfl))
 f206 := Tryz.func158.trans (congrArg some (by kernel_rfl))
 f212 := Tryz.func194.trans (congrArg some (by kernel_rfl))
 f240 := Tryz.func120.trans (congrArg some (by kernel_rfl))
 f241 := Tryz.func208.trans (congrArg some (by kernel_rfl))
 f263 := Tryz.func209.trans (congrArg some (by kernel_rfl))
 f264 := Tryz.func210.trans (congrArg some (by kernel_rfl))
 f276 := Tryz.func160.trans (congrArg some (by kernel_rfl))
 f277 := Tryz.func216.trans (congrArg some (by kernel_rfl))
 t0 := Tryz.underlying0
 a0 := Tryz.isAgg0
 z0 := Tryz.sizeOf0
 v0 := Tryz.zeroValue0
 t3 := Tryz.underlying3
 a3 := Tryz.isAgg3
 z3 := Tryz.sizeOf3
 v3 := Tryz.zeroValue3
 t4 := Tryz.underlying4
 a4 := Tryz.isAgg4
 z4 := Tryz.sizeOf4
 v4 := Tryz.zeroValue4
 t5 := Tryz.underlying5
 a5 := Tryz.isAgg5
 z5 := Tryz.sizeOf5
 v5 := Tryz.zeroValue5
 t9 := Tryz.underlying9
 a9 := Tryz.isAgg9
 z9 := Tryz.sizeOf9
 v9 := Tryz.zeroValue9
 t20 := Tryz.underlying20
 a20 := Tryz.isAgg20
 z20 := Tryz.sizeOf20
 v20 := Tryz.zeroValue20
 t37 := Tryz.underlying70
 a37 := Tryz.isAgg70
 z37 := Tryz.sizeOf70
 v37 := Tryz.zeroValue70
 t46 := Tryz.underlying208
 a46 := Tryz.isAgg208
 z46 := Tryz.sizeOf208
 v46 := Tryz.zeroValue208
 t51 := Tryz.underlying221
 a51 := Tryz.isAgg221
 z51 := Tryz.sizeOf221
 v51 := Tryz.zeroValue221
 t53 := Tryz.underlying224
 a53 := Tryz.isAgg224
 z53 := Tryz.sizeOf224
 v53 := Tryz.zeroValue224
 t70 := Tryz.underlying69
 a70 := Tryz.isAgg69
 z70 := Tryz.sizeOf69
 v70 := Tryz.zeroValue69
 t72 := Tryz.underlying72
 a72 := Tryz.isAgg72
 z72 := Tryz.sizeOf72
 v72 := Tryz.zeroValue72
 t75 := Tryz.underlying118
 a75 := Tryz.isAgg118
 z75 := Tryz.sizeOf118
 v75 := Tryz.zeroValue118
 t76 := Tryz.underlying120
 a76 := Tryz.isAgg120
 z76 := Tryz.sizeOf120
 v76 := Tryz.zeroValue120
 t109 := Tryz.underlying209
 a109 := Tryz.isAgg209
 z109 := Tryz.sizeOf209
 v109 := Tryz.zeroValue209
 t127 := Tryz.underlying125
 a127 := Tryz.isAgg125
 z127 := Tryz.sizeOf125
 v127 := Tryz.zeroValue125
 t146 := Tryz.underlying222
 a146 := Tryz.isAgg222
 z146 := Tryz.sizeOf222
 v146 := Tryz.zeroValue222
 t148 := Tryz.underlying225
 a148 := Tryz.isAgg225
 z148 := Tryz.sizeOf225
 v148 := Tryz.zeroValue225
 t164 := Tryz.underlying186
 a164 := Tryz.isAgg186
 z164 := Tryz.sizeOf186
 v164 := Tryz.zeroValue186 }
def Tryz.laysItoaS_ren : Go.Shelf.Ren := ⟨fun | 171 => 163 | 243 => 196 | 246 => 211 | 283 => 217 | 284 => 218 | 285 => 219 | 286 => 220 | 129 => 227 | 317 => 226 | 318 => 228 | 319 => 229 | 320 => 230 | 337 => 234 | 338 => 235 | n => n, fun | 3 => 3 | 9 => 9 | 2 => 2 | 4 => 4 | 171 => 230 | 0 => 0 | 53 => 224 | 37 => 70 | 5 => 5 | 173 => 233 | 212 => 242 | 51 => 221 | 20 => 20 | 213 => 243 | 46 => 208 | 232 => 255 | 233 => 256 | n => n, fun | 17 => 1 | 18 => 4 | 19 => 5 | n => n⟩
theorem Tryz.laysItoaS : Go.Proofs.Lays.n171 Tryz.prog Tryz.laysItoaS_ren := {
 mixed := by kernel_rfl
 f129 := Tryz.func227.trans (congrArg some (by kernel_rfl))
 f171 := Tryz.func163.trans (congrArg some (by kernel_rfl))
 f243 := Tryz.func196.trans (congrArg some (by kernel_rfl))
 f246 := Tryz.func211.trans (congrArg some (by kernel_rfl))
 f283 := Tryz.func217.trans (congrArg some (by kernel_rfl))
 f284 := Tryz.func218.trans (congrArg some (by kernel_rfl))
 f285 := Tryz.func219.trans (congrArg some (by kernel_rfl))
 f286 := Tryz.func220.trans (congrArg some (by kernel_rfl))
 f317 := Tryz.func226.trans (congrArg some (by kernel_rfl))
 f318 := Tryz.func228.trans (congrArg some (by kernel_rfl))
 f319 := Tryz.func229.trans (congrArg some (by kernel_rfl))
 f320 := Tryz.func230.trans (congrArg some (by kernel_rfl))
 f337 := Tryz.func234.trans (congrArg some (by kernel_rfl))
 f338 := Tryz.func235.trans (congrArg some (by kernel_rfl))
 t0 := Tryz.underlying0
 a0 := Tryz.isAgg0
 z0 := Tryz.sizeOf0
 v0 := Tryz.zeroValue0
 t2 := Tryz.underlying2
 a2 := Tryz.isAgg2
 z2 := Tryz.sizeOf2
 v2 := Tryz.zeroValue2
 t3 := Tryz.underlying3
 a3 := Tryz.isAgg3
 z3 := Tryz.sizeOf3
 v3 := Tryz.zeroValue3
 t4 := Tryz.underlying4
 a4 := Tryz.isAgg4
 z4 := Tryz.sizeOf4
 v4 := Tryz.zeroValue4
 t5 := Tryz.underlying5
 a5 := Tryz.isAgg5
 z5 := Tryz.sizeOf5
 v5 := Tryz.zeroValue5
 t9 := Tryz.underlying9
 a9 := Tryz.isAgg9
 z9 := Tryz.sizeOf9
 v9 := Tryz.zeroValue9
 t20 := Tryz.underlying20
 a20 := Tryz.isAgg20
 z20 := Tryz.sizeOf20
 v20 := Tryz.zeroValue20
 t37 := Tryz.underlying70
 a37 := Tryz.isAgg70
 z37 := Tryz.sizeOf70
 v37 := Tryz.zeroValue70
 t46 := Tryz.underlying208
 a46 := Tryz.isAgg208
 z46 := Tryz.sizeOf208
 v46 := Tryz.zeroValue208
 t51 := Tryz.underlying221
 a51 := Tryz.isAgg221
 z51 := Tryz.sizeOf221
 v51 := Tryz.zeroValue221
 t53 := Tryz.underlying224
 a53 := Tryz.isAgg224
 z53 := Tryz.sizeOf224
 v53 := Tryz.zeroValue224
 t171 := Tryz.underlying230
 a171 := Tryz.isAgg230
 z171 := Tryz.sizeOf230
 v171 := Tryz.zeroValue230
 t173 := Tryz.underlying233
 a173 := Tryz.isAgg233
 z173 := Tryz.sizeOf233
 v173 := Tryz.zeroValue233
 t212 := Tryz.underlying242
 a212 := Tryz.isAgg242
 z212 := Tryz.sizeOf242
 v212 := Tryz.zeroValue242
 t213 := Tryz.underlying243
 a213 := Tryz.isAgg243
 z213 := Tryz.sizeOf243
 t232 := Tryz.underlying255
 a232 := Tryz.isAgg255
 z232 := Tryz.sizeOf255
 v232 := Tryz.zeroValue255
 t233 := Tryz.underlying256
 a233 := Tryz.isAgg256
 z233 := Tryz.sizeOf256
 v233 := Tryz.zeroValue256
 g17 := by kernel_rfl
 g18 := by kernel_rfl
 g19 := by kernel_rfl }
end Go.Proofs
namespace Go.Proofs.YtfccpddehpgfoaaGreatDoor
open Go.RowKit
set_option linter.unusedVariables false
theorem Zh2 : Builder.Extra Tryz.prog Tryz.laysRepeat_ren := {
 sizeBuilder := by kernel_rfl
 liesBuilder := by kernel_rfl
 t5 := Tryz.underlying5
 a5 := Tryz.isAgg5
 z5 := Tryz.sizeOf5
 v5 := Tryz.zeroValue5
 infoByte := by kernel_rfl
 cellsByte := by kernel_rfl
 sizeByte := by kernel_rfl
 neB5 := by decide }
theorem ZlR (c : UInt8) : ∀ k, Lib.repeatL [c] k = List.replicate k c
 | 0 => rfl
 | k + 1 => by show [c] ++ Lib.repeatL [c] k = _; rw [ZlR c k]; rfl
theorem Zh0 (k : Nat) (hk : k ≤ 1000000) (w : World) : Calls Tryz.prog 162 #[.string ⟨#[32]⟩, .int .i64 k] w fun r w' => r = .returned (.string ⟨(List.replicate k 32).toArray⟩) ∧ Below w.heap.size w w' := by
 refine (Any.strings_Repeat Tryz.laysRepeat Zh2 ⟨#[32]⟩ k w (by omega) (by show 1 * k ≤ _; omega)).mono ?_
 rintro r w' ⟨rfl, hb⟩
 exact ⟨by rw [show Lib.repeatL (⟨#[32]⟩ : ByteArray).data.toList k = List.replicate k 32 from ZlR 32 k], hb⟩
theorem Zj1 (i : Nat) (hi : i < 100) (w : World) : Calls Tryz.prog 163 #[.int .i64 i] w fun r w' => r = .returned (.string ⟨(Lib.decDigits i).toArray⟩) ∧ Below w.heap.size w w' := by
 refine (Any.strconv_Itoa_small Tryz.laysItoaS i hi w).mono ?_
 rintro r w' ⟨rfl, rfl⟩
 exact ⟨rfl, Zr⟩
def Zbu (ps : List ByteArray) : List UInt8 := ps.flatMap (fun s => s.data.toList)
def ZaW (k : Nat) (ps : List ByteArray) : List UInt8 := List.replicate k 32 ++ Zbu ps ++ [10]
theorem Sp.flat_take (ps : List ByteArray) (i : Nat) (s : ByteArray) (h : ps[i]? = some s) : Zbu (ps.take (i + 1)) = Zbu (ps.take i) ++ s.data.toList := by
 rw [List.take_add_one, h]
 simp [Zbu, List.flatMap_append]
theorem Sp.flat_le (ps : List ByteArray) (i : Nat) : (Zbu (ps.take i)).length ≤ (Zbu ps).length := by
 conv => rhs; rw [← List.take_append_drop i ps]
 simp only [Zbu, List.flatMap_append, Za]
 omega
theorem ZeT (l : List UInt8) (s : ByteArray) : Lib.byteCells l ++ Lib.strCells s = Lib.byteCells (l ++ s.data.toList) := by
 rw [Lib.byteCells_append]; rfl
theorem Zkc (B b : Nat) (v : Value) (l : List UInt8) (k : Nat) (w : World) (g : Nat) (ps : List ByteArray) (fz : Nat × Nat) (h : Sp.P B w b v (Lib.byteCells l) (k : Int)) (hg : w.heap[g]? = some (.cells (ps.map Value.string).toArray 9 fz)) (hgb : g ≠ b) (hk : k ≤ 1000000) (hps : ps.length ≤ 1000000) (hlen : l.length + (ZaW k ps).length ≤ 140737488355328) (hB : B ≤ w.heap.size) :
  Calls Tryz.prog 123 #[.pointer (some ⟨b, 0, none⟩), .slice (some ⟨g, 0, none⟩) ps.length ps.length] w fun r w' => r = .returned (.tuple #[]) ∧ (∃ v', Sp.P B w' b v' (Lib.byteCells (l ++ ZaW k ps)) (k : Int)) ∧ Sp.Go B b w w' := by
 have hL : (ZaW k ps).length = k + (Zbu ps).length + 1 := by simp [ZaW]; omega
 have h2 := h.c2
 have h2d : w.drew.cell? ⟨b, 2, none⟩ = some (.int .i64 (k : Int)) := h2
 have HG := Hd hg
 have HP := Hd h
 have HL := Hd hL
 have HLN := Hd hlen
 clear hg h hL hlen
 go_enter Tryz.func123, Tryz.ntmps123
 go_wp2_with fail
 go_region_held3 (fun V => V.cell? ⟨b, 2, none⟩ = some (.int .i64 (k : Int)))
  (first | exact h2 | exact h2d | assumption)
  (first
   | (go_at_call 162; refine (Zh0 k hk _).mono ?_; rintro r w1 ⟨rfl, hb1⟩; have HB1 := Hd (show Below w.heap.size w w1 from Below.trans (by first | exact Zr | exact Zr.drew) hb1); clear hb1; have h21 := ((uh HP).below (uh HB1)).c2)
   | (go_at_call 70; refine (ZeU B b v (Lib.byteCells l) k _ ⟨(List.replicate k 32).toArray⟩ ((uh HP).below (uh HB1)) ?_ ?_).mono ?_; have := uh HLN; have := uh HL; rw [Lib.byteCells_length]; show _ + (List.replicate k (32 : UInt8)).toArray.size ≤ _; simp; omega; exact Nat.le_trans hB (uh HB1).size; rintro r w2 ⟨rfl, v2, hp2, hgo2⟩; have h22 := hp2.c2; have HP2 := Hd hp2; have HG2 := Hd hgo2; clear hp2 hgo2))
 all_goals
  have hsP := (uh HP2)
  rw [ZeT] at hsP
  have hgo := (Sp.Go.of_below (b := b) (uh HB1) hB).trans (uh HG2)
  have HGO := Hd hgo
  have HPS := Hd hsP
  clear hsP hgo h2 h2d h21 h22 HP2 HG2 HB1 HP
  go_wp2_with fail
  go_loopw [17] (fun iv wr => ∃ i : Nat, i ≤ ps.length ∧ iv = .int .i64 i ∧ (∃ v', Sp.P B wr b v' (Lib.byteCells (l ++ List.replicate k 32 ++ Zbu (ps.take i))) k) ∧ Sp.Go B b w wr) (fun iv _ => ps.length - (intOf iv).toNat)
  case atStart => exact ⟨0, Nat.zero_le _, rfl, ⟨v2, by simpa [Zbu] using uh HPS⟩, uh HGO⟩
  case round =>
   obtain ⟨i, hi, rfl, ⟨v3, hp3⟩, hgo3⟩ := hrel
   have hz := hgo3.below.size
   have hgr := hgo3.box hgb (uh HG) (by decide)
   have HP3 := Hd hp3
   have HG3 := Hd hgo3
   clear hp3 hgo3 HPS HGO
   by_cases hlt : i < ps.length
   · have hy := Zg hlt
     generalize ps[i] = s at *
     have a0 : wr.cell? ⟨g, i, none⟩ = some (.string s) := by simp [World.cell?, hgr, hy]
     have hfl := Sp.flat_take ps i s hy
     have HFL := Hd hfl
     have hle := Sp.flat_le ps (i + 1)
     rw [hfl, Za] at hle
     have HLE := Hd hle
     have hi0 : (0 : Int) ≤ (i : Int) := by omega
     have hi1 : (i : Int) < (ps.length : Int) := by omega
     clear hgr hy hfl hle
     go_wp2_with fail
     refine (ZeU B b v3 _ k _ s (uh HP3) ?_ ?_).mono ?_
     · have := uh HLN
       have := uh HL
       have := uh HLE
       have e : s.data.toList.length = s.size := Array.length_toList
       rw [Lib.byteCells_length, Za, Za, List.length_replicate]
       omega
     · exact Nat.le_trans hB hz
     rintro r w4 ⟨rfl, v4, hp4, hgo4⟩
     have HP4 := Hd hp4
     have HG4 := Hd hgo4
     clear hp4 hgo4
     go_wp2_with fail
     refine ⟨⟨i + 1, by omega, by go_num, ⟨v4, ?_⟩, (uh HG3).trans (uh HG4)⟩, by simp [intOf]; omega⟩
     have h4 := uh HP4
     rw [ZeT, List.append_assoc, ← uh HFL] at h4
     exact h4
   have e : i = ps.length := by omega
   subst e
   clear hgr
   go_wp2_with fail
   refine (Zkz B b v3 _ k _ 10 (uh HP3) ?_ ?_).mono ?_
   · have := uh HLN
     have := uh HL
     rw [List.take_length, Lib.byteCells_length, Za, Za, List.length_replicate]
     omega
   · exact Nat.le_trans hB hz
   rintro r w4 ⟨rfl, v4, hp4, hgo4⟩
   have HP4 := Hd hp4
   have HG4 := Hd hgo4
   clear hp4 hgo4
   go_wp2_with fail
   go_end0
   refine ⟨rfl, ⟨v4, ?_⟩, (uh HG3).trans (uh HG4)⟩
   have h4 := uh HP4
   rw [List.take_length, show ([Value.int .u8 10] : List Value) = Lib.byteCells [10] from rfl, ← Lib.byteCells_append] at h4
   simpa [ZaW] using h4
structure Pr.It (B : Nat) (w0 : World) (num : Int → ByteArray) (NK : Int → Prop) : Prop where
 le : B ≤ w0.heap.size
 it : ∀ i W, NK i → Below B w0 W → Calls Tryz.prog 163 #[.int .i64 i] W fun r w' => r = .returned (.string (num i)) ∧ Below W.heap.size W w'
 sz : ∀ i, NK i → (num i).size ≤ 20
def Pr.few (i : Int) : ByteArray := if i.toNat < 10 then ⟨#[UInt8.ofNat (48 + i.toNat)]⟩ else ⟨#[UInt8.ofNat (48 + i.toNat / 10), UInt8.ofNat (48 + i.toNat % 10)]⟩
def Zfl (i : Int) : Prop := 0 ≤ i ∧ i < 100
theorem Zj6 (n : Nat) (hn : n < 100) : (⟨(Lib.decDigits n).toArray⟩ : ByteArray) = Pr.few (n : Int) := by
 unfold Pr.few
 rw [Int.toNat_natCast, Lib.decDigits]
 split
 · rfl
 rw [Lib.decDigits, dif_pos (by omega)]
 rfl
theorem ZhR (B : Nat) (w0 : World) (h : B ≤ w0.heap.size) : Pr.It B w0 Pr.few Zfl := by
 refine ⟨h, fun i W hi _ => ?_, fun i hi => ?_⟩
 · obtain ⟨n, rfl⟩ := Int.eq_ofNat_of_zero_le hi.1
   rw [← Zj6 n (by have := hi.2; omega)]
   exact Zj1 n (by have := hi.2; omega) W
 unfold Pr.few
 split
 · exact (show (1 : Nat) ≤ 20 from by decide)
 exact (show (2 : Nat) ≤ 20 from by decide)
def Pr.sign (k : Int) : ByteArray := if k = 4 then ⟨#[43]⟩ else if k = 5 then ⟨#[45]⟩ else if k = 6 then ⟨#[42]⟩ else if k = 7 then ⟨#[47]⟩ else if k = 8 then ⟨#[37]⟩ else if k = 9 then ⟨#[60]⟩ else ⟨#[61, 61]⟩
theorem ZeW (k : Int) : (Pr.sign k).size ≤ 2 := by
 unfold Pr.sign
 repeat' split
 all_goals decide
def Pr.cell (nm t : ByteArray) : ByteArray := ((nm ++ ⟨#[91]⟩) ++ t) ++ ⟨#[93]⟩
def Pr.two (s a b : ByteArray) : ByteArray := (((((⟨#[40]⟩ ++ a) ++ ⟨#[32]⟩) ++ s) ++ ⟨#[32]⟩) ++ b) ++ ⟨#[41]⟩
def Pr.text (num : Int → ByteArray) : (n : Nat) → Zat n → ByteArray
 | 0, _ => ⟨#[]⟩
 | n + 1, x => if x.1.1 = 1 then num x.1.2.2.1 else if x.1.1 = 2 then x.1.2.2.2 else
  match x.2.map (Pr.text num n) with
  | [a] => Pr.cell x.1.2.2.2 a
  | [a, b] => Pr.two (Pr.sign x.1.1) a b
  | _ => ⟨#[]⟩
def Pr.ok (NK : Int → Prop) : (n : Nat) → Zat n → Prop
 | 0, _ => False
 | n + 1, x => x.1.2.2.2.size ≤ 64 ∧ ((x.1.1 = 1 ∧ NK x.1.2.2.1) ∨ x.1.1 = 2 ∨ (x.1.1 = 3 ∧ ∃ y, x.2 = [y] ∧ Pr.ok NK n y) ∨ ((4 ≤ x.1.1 ∧ x.1.1 ≤ 10) ∧ ∃ y z, x.2 = [y, z] ∧ Pr.ok NK n y ∧ Pr.ok NK n z))
theorem Zb2 {num : Int → ByteArray} {NK : Int → Prop} (hsz : ∀ i, NK i → (num i).size ≤ 20) : ∀ (n : Nat) (x : Zat n), Pr.ok NK n x → (Pr.text num n x).size ≤ 100 * Zab n x := by
 intro n
 induction n with
 | zero => intro x h; exact h.elim
 | succ n ih =>
  rintro ⟨⟨k, a, m, nm⟩, l⟩ ⟨h0, h⟩
  have e1 : (⟨#[32]⟩ : ByteArray).size = 1 := rfl
  have e2 : (⟨#[40]⟩ : ByteArray).size = 1 := rfl
  have e3 : (⟨#[41]⟩ : ByteArray).size = 1 := rfl
  have e4 : (⟨#[91]⟩ : ByteArray).size = 1 := rfl
  have e5 : (⟨#[93]⟩ : ByteArray).size = 1 := rfl
  have e6 := ZeW k
  have hp : Zab (n + 1) ((k, a, m, nm), l) = 1 + (l.map (Zab n)).sum := rfl
  rw [hp]
  rcases h with ⟨hk, hm⟩ | hk | ⟨hk, y, hl, hy⟩ | ⟨hk, y, z, hl, hy, hz⟩
  · have : k = 1 := hk
    subst this
    have := hsz m hm
    show (num m).size ≤ _
    omega
  · have : k = 2 := hk
    subst this
    have h0' : nm.size ≤ 64 := h0
    show nm.size ≤ _
    omega
  · have : k = 3 := hk
    subst this
    have h0' : nm.size ≤ 64 := h0
    have : l = [y] := hl
    subst this
    have ha := ih y hy
    show (Pr.cell nm (Pr.text num n y)).size ≤ 100 * (1 + (Zab n y + 0))
    unfold Pr.cell
    simp only [ByteArray.size_append]
    omega
  have : l = [y, z] := hl
  subst this
  have ha := ih y hy
  have hb := ih z hz
  have hk' : 4 ≤ k ∧ k ≤ 10 := hk
  have ht : Pr.text num (n + 1) ((k, a, m, nm), [y, z]) = Pr.two (Pr.sign k) (Pr.text num n y) (Pr.text num n z) := by
   show (if k = 1 then _ else if k = 2 then _ else _) = _
   rw [if_neg (by omega), if_neg (by omega)]
   rfl
  rw [ht]
  show _ ≤ 100 * (1 + (Zab n y + (Zab n z + 0)))
  unfold Pr.two
  simp only [ByteArray.size_append]
  omega
theorem Zhw (k : Int) (h : 4 ≤ k ∧ k ≤ 10) (w : World) : Calls Tryz.prog 166 #[.int .i64 k] w fun r w' => r = .returned (.string (Pr.sign k)) ∧ Below w.heap.size w w' := by
 have x0 : ∀ W : World, (Instr.index 212 (.agg #[.string ⟨#[43]⟩, .string ⟨#[45]⟩, .string ⟨#[42]⟩, .string ⟨#[47]⟩, .string ⟨#[37]⟩, .string ⟨#[60]⟩, .string ⟨#[61, 61]⟩]) (.int .i64 0)).run Tryz.prog W = .ok (.string ⟨#[43]⟩) W := fun _ => by kernel_rfl
 have x1 : ∀ W : World, (Instr.index 212 (.agg #[.string ⟨#[43]⟩, .string ⟨#[45]⟩, .string ⟨#[42]⟩, .string ⟨#[47]⟩, .string ⟨#[37]⟩, .string ⟨#[60]⟩, .string ⟨#[61, 61]⟩]) (.int .i64 1)).run Tryz.prog W = .ok (.string ⟨#[45]⟩) W := fun _ => by kernel_rfl
 have x2 : ∀ W : World, (Instr.index 212 (.agg #[.string ⟨#[43]⟩, .string ⟨#[45]⟩, .string ⟨#[42]⟩, .string ⟨#[47]⟩, .string ⟨#[37]⟩, .string ⟨#[60]⟩, .string ⟨#[61, 61]⟩]) (.int .i64 2)).run Tryz.prog W = .ok (.string ⟨#[42]⟩) W := fun _ => by kernel_rfl
 have x3 : ∀ W : World, (Instr.index 212 (.agg #[.string ⟨#[43]⟩, .string ⟨#[45]⟩, .string ⟨#[42]⟩, .string ⟨#[47]⟩, .string ⟨#[37]⟩, .string ⟨#[60]⟩, .string ⟨#[61, 61]⟩]) (.int .i64 3)).run Tryz.prog W = .ok (.string ⟨#[47]⟩) W := fun _ => by kernel_rfl
 have x4 : ∀ W : World, (Instr.index 212 (.agg #[.string ⟨#[43]⟩, .string ⟨#[45]⟩, .string ⟨#[42]⟩, .string ⟨#[47]⟩, .string ⟨#[37]⟩, .string ⟨#[60]⟩, .string ⟨#[61, 61]⟩]) (.int .i64 4)).run Tryz.prog W = .ok (.string ⟨#[37]⟩) W := fun _ => by kernel_rfl
 have x5 : ∀ W : World, (Instr.index 212 (.agg #[.string ⟨#[43]⟩, .string ⟨#[45]⟩, .string ⟨#[42]⟩, .string ⟨#[47]⟩, .string ⟨#[37]⟩, .string ⟨#[60]⟩, .string ⟨#[61, 61]⟩]) (.int .i64 5)).run Tryz.prog W = .ok (.string ⟨#[60]⟩) W := fun _ => by kernel_rfl
 have x6 : ∀ W : World, (Instr.index 212 (.agg #[.string ⟨#[43]⟩, .string ⟨#[45]⟩, .string ⟨#[42]⟩, .string ⟨#[47]⟩, .string ⟨#[37]⟩, .string ⟨#[60]⟩, .string ⟨#[61, 61]⟩]) (.int .i64 6)).run Tryz.prog W = .ok (.string ⟨#[61, 61]⟩) W := fun _ => by kernel_rfl
 rcases (show k = 4 ∨ k = 5 ∨ k = 6 ∨ k = 7 ∨ k = 8 ∨ k = 9 ∨ k = 10 by omega) with rfl | rfl | rfl | rfl | rfl | rfl | rfl
 all_goals
  go_enter Tryz.func166, Tryz.ntmps166
  go_wp2_with fail
  go_ret
  exact ⟨rfl, by first | exact Zr | exact Zr.drew⟩
section
variable {B : Nat} {w0 : World} {num : Int → ByteArray} {NK : Int → Prop}
theorem ZfS (nm t : ByteArray) (e : Tk.E) (w : World) (hn : nm.size ≤ 64) (ht : t.size ≤ 2000)
  (hE : ∀ W, Below w.heap.size w W → Calls Tryz.prog 128 #[e.val] W fun r w' => r = .returned (.string t) ∧ Below W.heap.size W w') :
  Calls Tryz.prog 165 #[.string nm, e.val] w fun r w' => r = .returned (.string (Pr.cell nm t)) ∧ Below w.heap.size w w' := by
 unfold Tk.E.val at *
 have hbA := (Below.refl w.heap.size w).alloc Zl (Obj.cells #[.int .i64 e.k, .int .i64 e.a, .int .i64 e.n, .string e.nm, .slice e.args.ad e.args.len e.args.cap] 52)
 have HQ := Hd (hE _ hbA)
 have HB := Hd hbA
 have e4 : (⟨#[91]⟩ : ByteArray).size = 1 := rfl
 have e5 : (⟨#[93]⟩ : ByteArray).size = 1 := rfl
 have a1 : ∀ W : World, (Op.stringOp .add nm ⟨#[91]⟩).run Tryz.prog W = .ok (.string (nm ++ ⟨#[91]⟩)) W := fun W => run_string_add_sum W _ _ (by simp only [e4]; omega)
 have a2 : ∀ W : World, (Op.stringOp .add (nm ++ ⟨#[91]⟩) t).run Tryz.prog W = .ok (.string ((nm ++ ⟨#[91]⟩) ++ t)) W := fun W => run_string_add_sum W _ _ (by simp only [ByteArray.size_append, e4]; omega)
 have a3 : ∀ W : World, (Op.stringOp .add ((nm ++ ⟨#[91]⟩) ++ t) ⟨#[93]⟩).run Tryz.prog W = .ok (.string (((nm ++ ⟨#[91]⟩) ++ t) ++ ⟨#[93]⟩)) W := fun W => run_string_add_sum W _ _ (by simp only [ByteArray.size_append, e4, e5]; omega)
 clear e4 e5 hE hbA hn ht
 go_enter Tryz.func165, Tryz.ntmps165
 go_wp2_with fail
 refine (uh HQ).mono ?_
 rintro r w1 ⟨rfl, hb1⟩
 have HB1 := Hd ((uh HB).trans (hb1.mono (uh HB).size))
 clear hb1
 go_wp2_with fail
 go_ret
 exact ⟨rfl, uh HB1⟩
abbrev Pr.S5 (w0 : World) (p b o cap n : Nat) (nm : ByteArray) (k : Int) (y z : Tk.E) (W : World) : Prop := W.cell? ⟨p, 0, none⟩ = some (.int .i64 k) ∧ W.cell? ⟨p, 3, none⟩ = some (.string nm) ∧ W.cell? ⟨p, 4, none⟩ = some (.slice (some ⟨b, o, none⟩) n cap) ∧
 (W.cell? ⟨b, o, none⟩ = some (.int .i64 y.k) ∧ W.cell? ⟨b, o + 1, none⟩ = some (.int .i64 y.a) ∧ W.cell? ⟨b, o + 2, none⟩ = some (.int .i64 y.n) ∧ W.cell? ⟨b, o + 3, none⟩ = some (.string y.nm) ∧ W.cell? ⟨b, o + 4, none⟩ = some (.slice y.args.ad y.args.len y.args.cap)) ∧
 (W.cell? ⟨b, o + 5, none⟩ = some (.int .i64 z.k) ∧ W.cell? ⟨b, o + 5 + 1, none⟩ = some (.int .i64 z.a) ∧ W.cell? ⟨b, o + 5 + 2, none⟩ = some (.int .i64 z.n) ∧ W.cell? ⟨b, o + 5 + 3, none⟩ = some (.string z.nm) ∧ W.cell? ⟨b, o + 5 + 4, none⟩ = some (.slice z.args.ad z.args.len z.args.cap)) ∧ Below w0.heap.size w0 W
theorem Pr.S5.bel {p b o cap n : Nat} {nm : ByteArray} {k : Int} {y z : Tk.E} {w0 W : World} (h : Pr.S5 w0 p b o cap n nm k y z W) : Below w0.heap.size w0 W := h.2.2.2.2.2
theorem Pr.S5.below {p b o cap n : Nat} {nm : ByteArray} {k : Int} {y z : Tk.E} {w0 W W' : World} (h : Pr.S5 w0 p b o cap n nm k y z W) (hb : Below W.heap.size W W') : Pr.S5 w0 p b o cap n nm k y z W' := by
 obtain ⟨h1, h2, h3, ⟨a0, a1, a2, a3, a4⟩, ⟨b0, b1, b2, b3, b4⟩, h8⟩ := h
 have l1 : p < W.heap.size := World.block_lt_of_cell? W _ h1
 have l2 : b < W.heap.size := World.block_lt_of_cell? W _ a0
 have hp : ∀ j, W'.cell? ⟨p, j, none⟩ = W.cell? ⟨p, j, none⟩ := fun j => hb.cell (p := ⟨p, j, none⟩) l1
 have hc : ∀ j, W'.cell? ⟨b, j, none⟩ = W.cell? ⟨b, j, none⟩ := fun j => hb.cell (p := ⟨b, j, none⟩) l2
 exact ⟨(hp _).trans h1, (hp _).trans h2, (hp _).trans h3, ⟨(hc _).trans a0, (hc _).trans a1, (hc _).trans a2, (hc _).trans a3, (hc _).trans a4⟩, ⟨(hc _).trans b0, (hc _).trans b1, (hc _).trans b2, (hc _).trans b3, (hc _).trans b4⟩, h8.trans (hb.mono h8.size)⟩
theorem Pr.S5.drew {p b o cap n : Nat} {nm : ByteArray} {k : Int} {y z : Tk.E} {w0 W : World} (h : Pr.S5 w0 p b o cap n nm k y z W) : Pr.S5 w0 p b o cap n nm k y z W.drew := h.below Zr.drew
abbrev Pr.S3 (w0 : World) (p b o cap : Nat) (nm : ByteArray) (y : Tk.E) (V : World) : Prop := Below w0.heap.size w0 V ∧ V.cell? ⟨p, 3, none⟩ = some (.string nm) ∧ V.cell? ⟨p, 4, none⟩ = some (.slice (some ⟨b, o, none⟩) 1 cap) ∧ V.cell? ⟨b, o, none⟩ = some (.int .i64 y.k) ∧ V.cell? ⟨b, o + 1, none⟩ = some (.int .i64 y.a) ∧ V.cell? ⟨b, o + 2, none⟩ = some (.int .i64 y.n) ∧ V.cell? ⟨b, o + 3, none⟩ = some (.string y.nm) ∧ V.cell? ⟨b, o + 4, none⟩ = some (.slice y.args.ad y.args.len y.args.cap)
theorem Pr.S3.below {p b o cap : Nat} {nm : ByteArray} {y : Tk.E} {w0 W W' : World} (h : Pr.S3 w0 p b o cap nm y W) (hb : Below W.heap.size W W') : Pr.S3 w0 p b o cap nm y W' := by
 obtain ⟨h8, h1, h2, a0, a1, a2, a3, a4⟩ := h
 have l1 : p < W.heap.size := World.block_lt_of_cell? W _ h1
 have l2 : b < W.heap.size := World.block_lt_of_cell? W _ a0
 have hp : ∀ j, W'.cell? ⟨p, j, none⟩ = W.cell? ⟨p, j, none⟩ := fun j => hb.cell (p := ⟨p, j, none⟩) l1
 have hc : ∀ j, W'.cell? ⟨b, j, none⟩ = W.cell? ⟨b, j, none⟩ := fun j => hb.cell (p := ⟨b, j, none⟩) l2
 exact ⟨h8.trans (hb.mono h8.size), (hp _).trans h1, (hp _).trans h2, (hc _).trans a0, (hc _).trans a1, (hc _).trans a2, (hc _).trans a3, (hc _).trans a4⟩
theorem ZjQ (I : Pr.It B w0 num NK) (e : Tk.E) (w : World) (hk : e.k = 1) (hN : NK e.n) (hW : Below B w0 w) : Calls Tryz.prog 128 #[e.val] w fun r w' => r = .returned (.string (num e.n)) ∧ Below w.heap.size w w' := by
 have hBw : B ≤ w.heap.size := Nat.le_trans I.le hW.size
 unfold Tk.E.val
 rw [hk]
 have hbA := (Below.refl w.heap.size w).alloc Zl (Obj.cells #[.int .i64 1, .int .i64 e.a, .int .i64 e.n, .string e.nm, .slice e.args.ad e.args.len e.args.cap] 52)
 have HQ := Hd (I.it e.n _ hN (hW.trans (hbA.mono hBw)))
 have HB := Hd hbA
 clear hbA hN hk I hW
 go_enter Tryz.func128, Tryz.ntmps128
 go_wp2_with fail
 refine (uh HQ).mono ?_
 rintro r w1 ⟨rfl, hb1⟩
 have HB1 := Hd ((uh HB).trans (hb1.mono (uh HB).size))
 clear hb1
 go_wp2_with fail
 go_ret
 exact ⟨rfl, uh HB1⟩
theorem Zkk (e : Tk.E) (w : World) (hk : e.k = 2) : Calls Tryz.prog 128 #[e.val] w fun r w' => r = .returned (.string e.nm) ∧ Below w.heap.size w w' := by
 unfold Tk.E.val
 rw [hk]
 have HB := Hd ((Below.refl w.heap.size w).alloc Zl (Obj.cells #[.int .i64 2, .int .i64 e.a, .int .i64 e.n, .string e.nm, .slice e.args.ad e.args.len e.args.cap] 52))
 clear hk
 go_enter Tryz.func128, Tryz.ntmps128
 go_wp2_with fail
 go_ret
 exact ⟨rfl, uh HB⟩
theorem Zks (e y : Tk.E) (b o cap : Nat) (t : ByteArray) (w : World) (hk : e.k = 3) (hn : e.nm.size ≤ 64) (ht : t.size ≤ 2000) (ha : e.args = ⟨some ⟨b, o, none⟩, 1, cap⟩) (hlt : b < w.heap.size) (hl : Tk.ELies w b (o + 0 * 5) y)
  (hE : ∀ W, Below w.heap.size w W → Calls Tryz.prog 128 #[y.val] W fun r w' => r = .returned (.string t) ∧ Below W.heap.size W w') :
  Calls Tryz.prog 128 #[e.val] w fun r w' => r = .returned (.string (Pr.cell e.nm t)) ∧ Below w.heap.size w w' := by
 obtain ⟨k, a, n, nm, args⟩ := e
 have hk : k = 3 := hk
 have ha : args = ⟨some ⟨b, o, none⟩, 1, cap⟩ := ha
 subst hk
 subst ha
 unfold Tk.E.val at *
 have hbA := (Below.refl w.heap.size w).alloc Zl (Obj.cells #[.int .i64 3, .int .i64 a, .int .i64 n, .string nm, .slice (some ⟨b, o, none⟩) 1 cap] 52)
 have HB := Hd hbA
 obtain ⟨g0, g1, g2, g3, g4⟩ := hl.later hbA Zl hlt
 rw [Nat.zero_mul, Nat.add_zero] at g0 g1 g2 g3 g4
 have HC := Hd (fun (W : World) (hb : Below w.heap.size w W) => ZfS nm t y W hn ht (fun W2 h2 => hE W2 (hb.trans (h2.mono hb.size))))
 clear hE hl hbA
 unfold Tk.E.val at *
 go_enter Tryz.func128, Tryz.ntmps128
 go_wp2_with fail
 go_region_held3 (fun V => Below w.heap.size w V ∧ V.cell? ⟨w.heap.size, 3, none⟩ = some (.string nm) ∧ V.cell? ⟨w.heap.size, 4, none⟩ = some (.slice (some ⟨b, o, none⟩) 1 cap) ∧ V.cell? ⟨b, o, none⟩ = some (.int .i64 y.k) ∧ V.cell? ⟨b, o + 1, none⟩ = some (.int .i64 y.a) ∧ V.cell? ⟨b, o + 2, none⟩ = some (.int .i64 y.n) ∧ V.cell? ⟨b, o + 3, none⟩ = some (.string y.nm) ∧ V.cell? ⟨b, o + 4, none⟩ = some (.slice y.args.ad y.args.len y.args.cap))
  (first | exact ⟨(uh HB).drew, by simp, by simp, g0, g1, g2, g3, g4⟩ | exact Pr.S3.below (by assumption) (uh HB1))
  (first
   | (go_at_call 165; refine ((uh HC) _ (And.left (by assumption))).mono ?_; rintro r w1 ⟨rfl, hb1⟩; have HB1 := Hd hb1; clear hb1))
 all_goals
  go_wp2_with fail
  go_ret
  exact ⟨rfl, And.left (by assumption)⟩
theorem ZkF (e y z : Tk.E) (b o cap : Nat) (t u : ByteArray) (w : World) (hk : 4 ≤ e.k ∧ e.k ≤ 10) (ht : t.size ≤ 2000) (hu : u.size ≤ 2000) (ha : e.args = ⟨some ⟨b, o, none⟩, 2, cap⟩) (hlt : b < w.heap.size) (hl : Tk.ELies w b (o + 0 * 5) y) (hl2 : Tk.ELies w b (o + 1 * 5) z)
  (hE : ∀ W, Below w.heap.size w W → Calls Tryz.prog 128 #[y.val] W fun r w' => r = .returned (.string t) ∧ Below W.heap.size W w')
  (hE2 : ∀ W, Below w.heap.size w W → Calls Tryz.prog 128 #[z.val] W fun r w' => r = .returned (.string u) ∧ Below W.heap.size W w') :
  Calls Tryz.prog 128 #[e.val] w fun r w' => r = .returned (.string (Pr.two (Pr.sign e.k) t u)) ∧ Below w.heap.size w w' := by
 obtain ⟨k, a, n, nm, args⟩ := e
 have hk : 4 ≤ k ∧ k ≤ 10 := hk
 have ha : args = ⟨some ⟨b, o, none⟩, 2, cap⟩ := ha
 subst ha
 have k1 : (k == 1) = false := by rw [beq_eq_false_iff_ne]; omega
 have k2 : (k == 2) = false := by rw [beq_eq_false_iff_ne]; omega
 have k3 : (k == 3) = false := by rw [beq_eq_false_iff_ne]; omega
 unfold Tk.E.val at *
 have hbA := (Below.refl w.heap.size w).alloc Zl (Obj.cells #[.int .i64 k, .int .i64 a, .int .i64 n, .string nm, .slice (some ⟨b, o, none⟩) 2 cap] 52)
 have HB := Hd hbA
 obtain ⟨g0, g1, g2, g3, g4⟩ := hl.later hbA Zl hlt
 rw [Nat.zero_mul, Nat.add_zero] at g0 g1 g2 g3 g4
 obtain ⟨d0, d1, d2, d3, d4⟩ := hl2.later hbA Zl hlt
 rw [Nat.one_mul] at d0 d1 d2 d3 d4
 have HE := Hd hE
 have HE2 := Hd hE2
 have HSG := Hd (fun (W : World) => Zhw k hk W)
 have e1 : (⟨#[32]⟩ : ByteArray).size = 1 := rfl
 have e2 : (⟨#[40]⟩ : ByteArray).size = 1 := rfl
 have e3 : (⟨#[41]⟩ : ByteArray).size = 1 := rfl
 have e4 := ZeW k
 have HR : Hid (Pr.two (Pr.sign k) t u = (((((⟨#[40]⟩ ++ t) ++ ⟨#[32]⟩) ++ Pr.sign k) ++ ⟨#[32]⟩) ++ u) ++ ⟨#[41]⟩) := rfl
 generalize Pr.two (Pr.sign k) t u = R at *
 generalize Pr.sign k = s at *
 have a1 : ∀ W : World, (Op.stringOp .add ⟨#[40]⟩ t).run Tryz.prog W = .ok (.string (⟨#[40]⟩ ++ t)) W := fun W => run_string_add_sum W _ _ (by simp only [e2]; omega)
 have a2 : ∀ W : World, (Op.stringOp .add (⟨#[40]⟩ ++ t) ⟨#[32]⟩).run Tryz.prog W = .ok (.string ((⟨#[40]⟩ ++ t) ++ ⟨#[32]⟩)) W := fun W => run_string_add_sum W _ _ (by simp only [ByteArray.size_append, e1, e2]; omega)
 have a3 : ∀ W : World, (Op.stringOp .add ((⟨#[40]⟩ ++ t) ++ ⟨#[32]⟩) s).run Tryz.prog W = .ok (.string (((⟨#[40]⟩ ++ t) ++ ⟨#[32]⟩) ++ s)) W := fun W => run_string_add_sum W _ _ (by simp only [ByteArray.size_append, e1, e2]; omega)
 have a4 : ∀ W : World, (Op.stringOp .add (((⟨#[40]⟩ ++ t) ++ ⟨#[32]⟩) ++ s) ⟨#[32]⟩).run Tryz.prog W = .ok (.string ((((⟨#[40]⟩ ++ t) ++ ⟨#[32]⟩) ++ s) ++ ⟨#[32]⟩)) W := fun W => run_string_add_sum W _ _ (by simp only [ByteArray.size_append, e1, e2]; omega)
 have a5 : ∀ W : World, (Op.stringOp .add ((((⟨#[40]⟩ ++ t) ++ ⟨#[32]⟩) ++ s) ++ ⟨#[32]⟩) u).run Tryz.prog W = .ok (.string (((((⟨#[40]⟩ ++ t) ++ ⟨#[32]⟩) ++ s) ++ ⟨#[32]⟩) ++ u)) W := fun W => run_string_add_sum W _ _ (by simp only [ByteArray.size_append, e1, e2]; omega)
 have a6 : ∀ W : World, (Op.stringOp .add (((((⟨#[40]⟩ ++ t) ++ ⟨#[32]⟩) ++ s) ++ ⟨#[32]⟩) ++ u) ⟨#[41]⟩).run Tryz.prog W = .ok (.string ((((((⟨#[40]⟩ ++ t) ++ ⟨#[32]⟩) ++ s) ++ ⟨#[32]⟩) ++ u) ++ ⟨#[41]⟩)) W := fun W => run_string_add_sum W _ _ (by simp only [ByteArray.size_append, e1, e2, e3]; omega)
 have HS := Hd (show Pr.S5 w w.heap.size b o cap 2 nm k y z (w.alloc (Obj.cells #[.int .i64 k, .int .i64 a, .int .i64 n, .string nm, .slice (some ⟨b, o, none⟩) 2 cap] 52)) from ⟨by simp, by simp, by simp, ⟨g0, g1, g2, g3, g4⟩, ⟨d0, d1, d2, d3, d4⟩, hbA⟩)
 clear hE hE2 hl hl2 hbA hk e1 e2 e3 e4 ht hu g0 g1 g2 g3 g4 d0 d1 d2 d3 d4
 go_enter Tryz.func128, Tryz.ntmps128
 go_wp2_with fail
 go_region_held3 (fun W => W.cell? ⟨w.heap.size, 0, none⟩ = some (.int .i64 k) ∧ W.cell? ⟨w.heap.size, 3, none⟩ = some (.string nm) ∧ W.cell? ⟨w.heap.size, 4, none⟩ = some (.slice (some ⟨b, o, none⟩) 2 cap) ∧
 (W.cell? ⟨b, o, none⟩ = some (.int .i64 y.k) ∧ W.cell? ⟨b, o + 1, none⟩ = some (.int .i64 y.a) ∧ W.cell? ⟨b, o + 2, none⟩ = some (.int .i64 y.n) ∧ W.cell? ⟨b, o + 3, none⟩ = some (.string y.nm) ∧ W.cell? ⟨b, o + 4, none⟩ = some (.slice y.args.ad y.args.len y.args.cap)) ∧
 (W.cell? ⟨b, o + 5, none⟩ = some (.int .i64 z.k) ∧ W.cell? ⟨b, o + 5 + 1, none⟩ = some (.int .i64 z.a) ∧ W.cell? ⟨b, o + 5 + 2, none⟩ = some (.int .i64 z.n) ∧ W.cell? ⟨b, o + 5 + 3, none⟩ = some (.string z.nm) ∧ W.cell? ⟨b, o + 5 + 4, none⟩ = some (.slice z.args.ad z.args.len z.args.cap)) ∧ Below w.heap.size w W)
  (first
   | exact Pr.S5.below (by assumption) (uh HBS)
   | exact Pr.S5.drew (uh HS))
  (first
   | (go_at_call_of 128 (Value.agg #[.int .i64 y.k, .int .i64 y.a, .int .i64 y.n, .string y.nm, .slice y.args.ad y.args.len y.args.cap]); refine ((uh HE) _ (Pr.S5.bel (by assumption))).mono ?_; rintro r w4 ⟨rfl, hb4⟩; have HBS := Hd hb4; clear hb4)
   | (go_at_call 166; refine ((uh HSG) _).mono ?_; rintro r w5 ⟨rfl, hb5⟩; have HBS := Hd hb5; clear hb5)
   | (go_at_call_of 128 (Value.agg #[.int .i64 z.k, .int .i64 z.a, .int .i64 z.n, .string z.nm, .slice z.args.ad z.args.len z.args.cap]); refine ((uh HE2) _ (Pr.S5.bel (by assumption))).mono ?_; rintro r w6 ⟨rfl, hb6⟩; have HBS := Hd hb6; clear hb6))
 all_goals
  go_wp2_with fail
  go_ret
  exact ⟨by rw [uh HR]; rfl, Pr.S5.bel (by assumption)⟩
theorem Zby (I : Pr.It B w0 num NK) : ∀ (n : Nat) (e : Tk.E) (x : Zat n) (w : World), Tk.RE w n e x → Pr.ok NK n x → Zab n x ≤ 15 → Below B w0 w → Calls Tryz.prog 128 #[e.val] w fun r w' => r = .returned (.string (Pr.text num n x)) ∧ Below w.heap.size w w' := by
 intro n
 induction n with
 | zero => intro e x w h; exact h.elim
 | succ n ih =>
  intro e x w h hok hp hW
  obtain ⟨⟨f1, f2, f3, f4, f5⟩, hs⟩ := h
  obtain ⟨⟨k, a, m, nm⟩, l⟩ := x
  obtain ⟨h0, h⟩ := hok
  have hlen := hs.len
  have hBw : B ≤ w.heap.size := Nat.le_trans I.le hW.size
  have hpl : Zab (n + 1) ((k, a, m, nm), l) = 1 + (l.map (Zab n)).sum := rfl
  rw [hpl] at hp
  rcases h with ⟨hk, hm⟩ | hk | ⟨hk, y, hl, hy⟩ | ⟨hk, y, z, hl, hy, hz⟩
  · have hk : k = 1 := hk
    subst hk
    have f3 : e.n = m := f3
    show Calls _ _ _ _ (fun r w' => r = .returned (.string (num m)) ∧ _)
    rw [← f3]
    exact ZjQ I e w f1 (by rw [f3]; exact hm) hW
  · have hk : k = 2 := hk
    subst hk
    have f4 : e.nm = nm := f4
    show Calls _ _ _ _ (fun r w' => r = .returned (.string nm) ∧ _)
    rw [← f4]
    exact Zkk e w f1
  · have hk : k = 3 := hk
    subst hk
    have hl : l = [y] := hl
    subst hl
    have f4 : e.nm = nm := f4
    obtain ⟨b, o, q, hb, hlt, hli, hre⟩ := hs.at_ 0 y rfl
    have ha : e.args = ⟨some ⟨b, o, none⟩, 1, e.args.cap⟩ := by
     have hlen : e.args.len = 1 := hlen
     rw [← hb, ← hlen]
    have hsz := Zb2 I.sz n y hy
    have hp' : 1 + (Zab n y + 0) ≤ 15 := hp
    show Calls _ _ _ _ (fun r w' => r = .returned (.string (Pr.cell nm (Pr.text num n y))) ∧ _)
    rw [← f4]
    exact Zks e q b o _ _ w f1 (by rw [f4]; exact h0) (by omega) ha hlt hli (fun W hb => ih q y W (hre.later hb Zl) hy (by omega) (hW.trans (hb.mono hBw)))
  have hk : 4 ≤ k ∧ k ≤ 10 := hk
  have hl : l = [y, z] := hl
  subst hl
  have f1 : e.k = k := f1
  obtain ⟨b, o, q, hb, hlt, hli, hre⟩ := hs.at_ 0 y rfl
  obtain ⟨b2, o2, q2, hb2, hlt2, hli2, hre2⟩ := hs.at_ 1 z rfl
  obtain ⟨rfl, rfl⟩ : b = b2 ∧ o = o2 := by simpa using hb.symm.trans hb2
  have ha : e.args = ⟨some ⟨b, o, none⟩, 2, e.args.cap⟩ := by
   have hlen : e.args.len = 2 := hlen
   rw [← hb, ← hlen]
  have hsz := Zb2 I.sz n y hy
  have hsz2 := Zb2 I.sz n z hz
  have hp' : 1 + (Zab n y + (Zab n z + 0)) ≤ 15 := hp
  have ht : Pr.text num (n + 1) ((k, a, m, nm), [y, z]) = Pr.two (Pr.sign k) (Pr.text num n y) (Pr.text num n z) := by
   show (if k = 1 then _ else if k = 2 then _ else _) = _
   rw [if_neg (by omega), if_neg (by omega)]
   rfl
  rw [ht, ← f1]
  exact ZkF e q q2 b o _ _ _ w (by rw [f1]; exact hk) (by omega) (by omega) ha hlt hli hli2 (fun W hb => ih q y W (hre.later hb Zl) hy (by omega) (hW.trans (hb.mono hBw))) (fun W hb => ih q2 z W (hre2.later hb Zl) hz (by omega) (hW.trans (hb.mono hBw)))
end
end Go.Proofs.YtfccpddehpgfoaaGreatDoor
