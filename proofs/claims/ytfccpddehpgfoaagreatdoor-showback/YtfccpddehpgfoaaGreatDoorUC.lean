/- By the verifier. -/
import Derived.Shelf.Strings.BuilderK
import Derived.Test.YtfccpddehpgfoaaGreatDoorUB
set_option maxHeartbeats 800000
namespace Go.Proofs
open Go.Shelf Go.RowKit
def Tryz.lays169_ren : Go.Shelf.Ren := ⟨fun | 169 => 39 | n => n, fun | 0 => 0 | 3 => 3 | 4 => 4 | 5 => 5 | 9 => 9 | 20 => 20 | 37 => 70 | 70 => 69 | 72 => 72 | 75 => 118 | 80 => 76 | 164 => 186 | 127 => 125 | n => n, fun | n => n⟩
theorem Tryz.lays169 : Go.Proofs.Lays.n169 Tryz.prog Tryz.lays169_ren := {
 mixed := by kernel_rfl
 f169 := Tryz.func39.trans (congrArg some (by kernel_rfl))
 t0 := Tryz.underlying0
 a0 := Tryz.isAgg0
 z0 := Tryz.sizeOf0
 v0 := Tryz.zeroValue0
 t3 := Tryz.underlying3
 a3 := Tryz.isAgg3
 z3 := Tryz.sizeOf3
 v3 := Tryz.zeroValue3
 t9 := Tryz.underlying9
 a9 := Tryz.isAgg9
 z9 := Tryz.sizeOf9
 v9 := Tryz.zeroValue9
 t37 := Tryz.underlying70
 a37 := Tryz.isAgg70
 z37 := Tryz.sizeOf70
 v37 := Tryz.zeroValue70
 t70 := Tryz.underlying69
 a70 := Tryz.isAgg69
 z70 := Tryz.sizeOf69
 v70 := Tryz.zeroValue69
 t72 := Tryz.underlying72
 a72 := Tryz.isAgg72
 z72 := Tryz.sizeOf72
 v72 := Tryz.zeroValue72
 t127 := Tryz.underlying125
 a127 := Tryz.isAgg125
 z127 := Tryz.sizeOf125
 v127 := Tryz.zeroValue125 }
theorem Tryz.Builder_Extra_169 : Builder.Extra Tryz.prog Tryz.lays169_ren := {
 sizeBuilder := by kernel_rfl
 liesBuilder := by kernel_rfl
 t5 := Tryz.underlying5
 a5 := Tryz.isAgg5
 z5 := Tryz.sizeOf5
 v5 := Tryz.zeroValue5
 infoByte := by kernel_rfl
 cellsByte := by kernel_rfl
 sizeByte := by kernel_rfl
 neB5 := by decide }
theorem Tryz.Builder_String_any_k (B b : Nat) (l : List UInt8) (w : World) (h : Lib.IsBuilderF 72 5 B b (Lib.byteCells l) w) (hBw : B ≤ w.heap.size) :
  Calls Tryz.prog 39 #[.pointer (some ⟨b, 0, none⟩)] w fun e w' => e = .returned (.string ⟨l.toArray⟩) ∧ (Lib.IsBuilderF 72 5 B b (Lib.byteCells l) w' ∧ Below B w w' ∧ Lib.OthersKept 5 (some b) w w') := Any.Builder_String_any_k Tryz.lays169 Tryz.Builder_Extra_169 B b l w h hBw
end Go.Proofs
namespace Go.Proofs.YtfccpddehpgfoaaGreatDoor
open Go.RowKit
set_option linter.unusedVariables false
theorem Zcw {w : World} {base : Nat} {e : TypeId} {size : Nat} {v : Value} {n : Nat} {xs : List Value} (h : w.ownsRow base e size v n xs) : ∃ ad cap, v = .slice ad n cap := by
 rcases h.2 with ⟨hv, hn⟩ | ⟨g, cap, cur, hv, _⟩
 · subst hn; exact ⟨none, 0, hv⟩
 exact ⟨_, cap, hv⟩
theorem Zgk (a b : ByteArray) : (a.toList == b.toList) = true ↔ a = b := by
 rw [beq_iff_eq, ByteArray.toList_eq, ByteArray.toList_eq]
 constructor
 · intro h
   obtain ⟨⟨x⟩⟩ := a; obtain ⟨⟨y⟩⟩ := b
   simp only at h; rw [h]
 intro h; rw [h]
theorem ZiM (k at_ : Int) (t : ByteArray) (w : World) (ht : t.size ≤ maxLen) (he : (((Zah t).2.2 : Int) == 0) = false) :
  Calls Tryz.prog 34 #[.agg #[.int .i64 k, .int .i64 at_, .string t]] w fun e w' => e = .returned (.bool false) ∧ Below w.heap.size w w' := by
 have HT := Hd ht
 clear ht
 go_enter Tryz.func34, Tryz.ntmps34
 go_wp2_with fail
 refine (ZdC t _ (uh HT)).mono ?_
 rintro e w' ⟨v, rfl, ho, hb⟩
 have HB := Hd hb
 clear ho hb
 go_wp2_with fail
 go_quiet (fail)
 go_wp2_with fail
 go_ret
 exact ⟨rfl, below_drewN (Zbk (uh HB)) _⟩
theorem Zje (k at_ : Int) (t : ByteArray) (w : World) (ht : t.size ≤ maxLen) (he : (((Zah t).2.2 : Int) == 0) = true) (hl : (((Zah t).1.length : Int) == 1) = false) :
  Calls Tryz.prog 34 #[.agg #[.int .i64 k, .int .i64 at_, .string t]] w fun e w' => e = .returned (.bool false) ∧ Below w.heap.size w w' := by
 have HT := Hd ht
 clear ht
 go_enter Tryz.func34, Tryz.ntmps34
 go_wp2_with fail
 refine (ZdC t _ (uh HT)).mono ?_
 rintro e w' ⟨v, rfl, ho, hb⟩
 obtain ⟨ad, cap, rfl⟩ := Zcw ho
 have HB := Hd hb
 clear ho hb
 go_wp2_with fail
 go_quiet (fail)
 go_wp2_with fail
 go_ret
 exact ⟨rfl, below_drewN (Zbk (uh HB)) _⟩
theorem ZhG (k at_ : Int) (t : ByteArray) (w : World) (ht : t.size ≤ maxLen) (x : Nat × Nat × Nat) (he : (((Zah t).2.2 : Int) == 0) = true) (hR : (Zah t).1 = [x]) (hk : ((x.1 : Int) == k) = false) :
  Calls Tryz.prog 34 #[.agg #[.int .i64 k, .int .i64 at_, .string t]] w fun e w' => e = .returned (.bool false) ∧ Below w.heap.size w w' := by
 have HT := Hd ht
 clear ht
 go_enter Tryz.func34, Tryz.ntmps34
 go_wp2_with fail
 refine (ZdC t _ (uh HT)).mono ?_
 rintro e w' ⟨v, rfl, ho, hb⟩
 obtain ⟨hc, hf⟩ := Zky hb
 have hz := hb.size
 simp at hz
 rw [hR] at ho
 obtain ⟨g, cap, rfl, hg1, hg2⟩ := ho.form (by simp)
 have t0 : w'.cell? ⟨g, 0, none⟩ = some (.int .i64 (x.1 : Int)) := ho.cells (g := g) rfl 0 _ rfl
 have t2 : w'.cell? ⟨g, 2, none⟩ = some (.string (t.extract x.2.1 (x.2.1 + x.2.2))) := ho.cells (g := g) rfl 2 _ rfl
 have b0 : w'.cell? ⟨w.heap.size, 0, none⟩ = some (.int .i64 k) := (hc _ _ (by simp)).trans (by simp)
 have b2 : w'.cell? ⟨w.heap.size, 2, none⟩ = some (.string t) := (hc _ _ (by simp)).trans (by simp)
 clear hc hf
 rw [show [x].length = 1 from rfl]
 clear hR
 have HB := Hd hb
 clear ho hb
 go_wp2_with fail
 go_quiet (fail)
 go_wp2_with fail
 go_ret
 exact ⟨rfl, below_drewN (Zbk (uh HB)) _⟩
theorem Ze0 (k at_ : Int) (t : ByteArray) (w : World) (ht : t.size ≤ maxLen) (x : Nat × Nat × Nat) (he : (((Zah t).2.2 : Int) == 0) = true) (hR : (Zah t).1 = [x]) (hk : ((x.1 : Int) == k) = true) (b : Bool) (hx : ((t.extract x.2.1 (x.2.1 + x.2.2)).toList == t.toList) = b) :
  Calls Tryz.prog 34 #[.agg #[.int .i64 k, .int .i64 at_, .string t]] w fun e w' => e = .returned (.bool b) ∧ Below w.heap.size w w' := by
 subst hx
 have HT := Hd ht
 clear ht
 go_enter Tryz.func34, Tryz.ntmps34
 go_wp2_with fail
 refine (ZdC t _ (uh HT)).mono ?_
 rintro e w' ⟨v, rfl, ho, hb⟩
 obtain ⟨hc, hf⟩ := Zky hb
 have hz := hb.size
 simp at hz
 rw [hR] at ho
 obtain ⟨g, cap, rfl, hg1, hg2⟩ := ho.form (by simp)
 have t0 : w'.cell? ⟨g, 0, none⟩ = some (.int .i64 (x.1 : Int)) := ho.cells (g := g) rfl 0 _ rfl
 have t2 : w'.cell? ⟨g, 2, none⟩ = some (.string (t.extract x.2.1 (x.2.1 + x.2.2))) := ho.cells (g := g) rfl 2 _ rfl
 have b0 : w'.cell? ⟨w.heap.size, 0, none⟩ = some (.int .i64 k) := (hc _ _ (by simp)).trans (by simp)
 have b2 : w'.cell? ⟨w.heap.size, 2, none⟩ = some (.string t) := (hc _ _ (by simp)).trans (by simp)
 clear hc hf
 rw [show [x].length = 1 from rfl]
 clear hR
 have HB := Hd hb
 clear ho hb
 go_wp2_with fail
 go_quiet (fail)
 go_wp2_with fail
 go_ret
 exact ⟨rfl, below_drewN (Zbk (uh HB)) _⟩
theorem Zfd (t : ByteArray) (a n : Nat) (h : t.extract a (a + n) = t) (hp : 0 < t.size) : a = 0 ∧ t.size ≤ n := by
 have := congrArg ByteArray.size h
 rw [ByteArray.size_extract] at this
 omega
theorem ZcU (t : ByteArray) (h : t.size ≤ 6000) : Zah t = Tk.scl (Tk.B t) 0 0 false [] := by
 unfold Zah; rw [if_neg (by omega)]
theorem Zjn (k at_ : Int) (t : ByteArray) (w : World) (ht : t.size ≤ maxLen) :
  Calls Tryz.prog 34 #[.agg #[.int .i64 k, .int .i64 at_, .string t]] w fun e w' => e = .returned (.bool (Tk.isTok k (Tk.B t))) ∧ Below w.heap.size w w' := by
 cases hi : Tk.isTok k (Tk.B t)
 · by_cases he : (Zah t).2.2 = 0
   · have he' : (((Zah t).2.2 : Int) == 0) = true := by rw [he]; rfl
     by_cases hl : (Zah t).1.length = 1
     · have hs : t.size ≤ 6000 := by
        apply Classical.byContradiction; intro h
        have : Zah t = ([], 0, 2) := by unfold Zah; rw [if_pos (by omega)]
        rw [this] at he; cases he
       rw [ZcU t hs] at he hl
       obtain ⟨c, r, hd, hf, hb, hR⟩ := Tk.scl_first (Tk.B t) 0 he hl
       have hR' : (Zah t).1 = [(Tk.tokK (c :: r), 0 + Tk.gap false (Tk.B t), Tk.tokN (c :: r))] := by rw [ZcU t hs]; exact hR
       cases hk : (((Tk.tokK (c :: r) : Nat) : Int) == k)
       · exact ZhG k at_ t w ht _ he' hR' hk
       refine Ze0 k at_ t w ht _ he' hR' hk false ?_
       apply Bool.eq_false_iff.2
       intro hx
       rw [Zgk] at hx
       have hp : 0 < t.size := by
        apply Classical.byContradiction; intro h
        have : Tk.B t = [] := List.eq_nil_of_length_eq_zero (by rw [Tk.B_length]; omega)
        rw [this] at hd; simp at hd
       obtain ⟨h0, hn⟩ := Zfd t _ _ hx hp
       have hg : Tk.gap false (Tk.B t) = 0 := by simpa using h0
       rw [hg, List.drop_zero] at hd
       have hle := Tk.tokN_le (Tk.B t)
       rw [hd] at hle
       rw [← hd, Tk.B_length] at hle
       have : Tk.isTok k (Tk.B t) = true := (Tk.isTok_iff k _).2 ⟨by rw [Tk.B_length]; exact hs, hg, by rw [hd]; exact hb, by rw [hd]; simpa using hk, by rw [Tk.B_length]; rw [hd] at hle ⊢; simp only at hn; omega⟩
       rw [this] at hi; cases hi
     exact Zje k at_ t w ht he' (by rw [beq_eq_false_iff_ne]; omega)
   exact ZiM k at_ t w ht (by rw [beq_eq_false_iff_ne]; omega)
 obtain ⟨hs, hg, hb, hk, hn⟩ := (Tk.isTok_iff k _).1 hi
 have hsc := Tk.isTok_scan k _ hi
 rw [Tk.B_length] at hs
 have hR : Zah t = ([(Tk.tokK (Tk.B t), 0, (Tk.B t).length)], 0, 0) := by rw [ZcU t hs]; exact hsc
 refine Ze0 k at_ t w ht (Tk.tokK (Tk.B t), 0, (Tk.B t).length) (by rw [hR]; rfl) (by rw [hR]) (by simpa using hk) true ?_
 rw [Zgk, Tk.B_length]
 simp
end Go.Proofs.YtfccpddehpgfoaaGreatDoor
namespace Go.Proofs
open Go.Shelf Go.RowKit
def Tryz.lays167_ren : Go.Shelf.Ren := ⟨fun | 167 => 69 | 240 => 120 | 276 => 160 | n => n, fun | 0 => 0 | 3 => 3 | 4 => 4 | 5 => 5 | 9 => 9 | 20 => 20 | 37 => 70 | 70 => 69 | 72 => 72 | 75 => 118 | 80 => 76 | 164 => 186 | 127 => 125 | n => n, fun | n => n⟩
theorem Tryz.lays167 : Go.Proofs.Lays.n167 Tryz.prog Tryz.lays167_ren := {
 mixed := by kernel_rfl
 f167 := Tryz.func69.trans (congrArg some (by kernel_rfl))
 f240 := Tryz.func120.trans (congrArg some (by kernel_rfl))
 f276 := Tryz.func160.trans (congrArg some (by kernel_rfl))
 t0 := Tryz.underlying0
 a0 := Tryz.isAgg0
 z0 := Tryz.sizeOf0
 v0 := Tryz.zeroValue0
 t4 := Tryz.underlying4
 a4 := Tryz.isAgg4
 z4 := Tryz.sizeOf4
 v4 := Tryz.zeroValue4
 t5 := Tryz.underlying5
 a5 := Tryz.isAgg5
 z5 := Tryz.sizeOf5
 v5 := Tryz.zeroValue5
 t9 := Tryz.underlying9
 a9 := Tryz.isAgg9
 z9 := Tryz.sizeOf9
 v9 := Tryz.zeroValue9
 t20 := Tryz.underlying20
 a20 := Tryz.isAgg20
 z20 := Tryz.sizeOf20
 v20 := Tryz.zeroValue20
 t37 := Tryz.underlying70
 a37 := Tryz.isAgg70
 z37 := Tryz.sizeOf70
 v37 := Tryz.zeroValue70
 t70 := Tryz.underlying69
 a70 := Tryz.isAgg69
 z70 := Tryz.sizeOf69
 v70 := Tryz.zeroValue69
 t72 := Tryz.underlying72
 a72 := Tryz.isAgg72
 z72 := Tryz.sizeOf72
 v72 := Tryz.zeroValue72
 t75 := Tryz.underlying118
 a75 := Tryz.isAgg118
 z75 := Tryz.sizeOf118
 v75 := Tryz.zeroValue118
 t164 := Tryz.underlying186
 a164 := Tryz.isAgg186
 z164 := Tryz.sizeOf186
 v164 := Tryz.zeroValue186 }
theorem Tryz.Builder_Extra_167 : Builder.Extra Tryz.prog Tryz.lays167_ren := {
 sizeBuilder := by kernel_rfl
 liesBuilder := by kernel_rfl
 t5 := Tryz.underlying5
 a5 := Tryz.isAgg5
 z5 := Tryz.sizeOf5
 v5 := Tryz.zeroValue5
 infoByte := by kernel_rfl
 cellsByte := by kernel_rfl
 sizeByte := by kernel_rfl
 neB5 := by decide }
theorem Tryz.Builder_WriteByte_k (B b : Nat) (bs : List Value) (c : Int) (w : World) (h : Lib.IsBuilderF 72 5 B b bs w) (hlen : bs.length + 1 ≤ 140737488355328) (hBw : B ≤ w.heap.size) :
  Calls Tryz.prog 69 #[.pointer (some ⟨b, 0, none⟩), .int .u8 c] w fun e w' => e = .returned .nilIface ∧ (Lib.BuilderAtF 72 5 B b (.pointer (some ⟨b, 0, none⟩)) (bs ++ [.int .u8 c]) w' ∧ Below B w w' ∧ Lib.OthersKept 5 (some b) w w') := Any.Builder_WriteByte_k Tryz.lays167 Tryz.Builder_Extra_167 B b bs c w h hlen hBw
def Tryz.lays166_ren : Go.Shelf.Ren := ⟨fun | 166 => 70 | 240 => 120 | 276 => 160 | n => n, fun | 0 => 0 | 3 => 3 | 4 => 4 | 5 => 5 | 9 => 9 | 20 => 20 | 37 => 70 | 70 => 69 | 72 => 72 | 75 => 118 | 80 => 76 | 164 => 186 | 127 => 125 | n => n, fun | n => n⟩
theorem Tryz.lays166 : Go.Proofs.Lays.n166 Tryz.prog Tryz.lays166_ren := {
 mixed := by kernel_rfl
 f166 := Tryz.func70.trans (congrArg some (by kernel_rfl))
 f240 := Tryz.func120.trans (congrArg some (by kernel_rfl))
 f276 := Tryz.func160.trans (congrArg some (by kernel_rfl))
 t0 := Tryz.underlying0
 a0 := Tryz.isAgg0
 z0 := Tryz.sizeOf0
 v0 := Tryz.zeroValue0
 t3 := Tryz.underlying3
 a3 := Tryz.isAgg3
 z3 := Tryz.sizeOf3
 v3 := Tryz.zeroValue3
 t4 := Tryz.underlying4
 a4 := Tryz.isAgg4
 z4 := Tryz.sizeOf4
 v4 := Tryz.zeroValue4
 t9 := Tryz.underlying9
 a9 := Tryz.isAgg9
 z9 := Tryz.sizeOf9
 v9 := Tryz.zeroValue9
 t20 := Tryz.underlying20
 a20 := Tryz.isAgg20
 z20 := Tryz.sizeOf20
 v20 := Tryz.zeroValue20
 t37 := Tryz.underlying70
 a37 := Tryz.isAgg70
 z37 := Tryz.sizeOf70
 v37 := Tryz.zeroValue70
 t70 := Tryz.underlying69
 a70 := Tryz.isAgg69
 z70 := Tryz.sizeOf69
 v70 := Tryz.zeroValue69
 t72 := Tryz.underlying72
 a72 := Tryz.isAgg72
 z72 := Tryz.sizeOf72
 v72 := Tryz.zeroValue72
 t75 := Tryz.underlying118
 a75 := Tryz.isAgg118
 z75 := Tryz.sizeOf118
 v75 := Tryz.zeroValue118
 t164 := Tryz.underlying186
 a164 := Tryz.isAgg186
 z164 := Tryz.sizeOf186
 v164 := Tryz.zeroValue186 }
theorem Tryz.Builder_Extra_166 : Builder.Extra Tryz.prog Tryz.lays166_ren := {
 sizeBuilder := by kernel_rfl
 liesBuilder := by kernel_rfl
 t5 := Tryz.underlying5
 a5 := Tryz.isAgg5
 z5 := Tryz.sizeOf5
 v5 := Tryz.zeroValue5
 infoByte := by kernel_rfl
 cellsByte := by kernel_rfl
 sizeByte := by kernel_rfl
 neB5 := by decide }
theorem Tryz.Builder_WriteString_k (B b : Nat) (bs : List Value) (s : ByteArray) (w : World) (h : Lib.IsBuilderF 72 5 B b bs w) (hlen : bs.length + s.size ≤ 140737488355328) (hBw : B ≤ w.heap.size) :
  Calls Tryz.prog 70 #[.pointer (some ⟨b, 0, none⟩), .string s] w fun e w' => e = .returned (.tuple #[.int .i64 s.size, .nilIface]) ∧ (Lib.BuilderAtF 72 5 B b (.pointer (some ⟨b, 0, none⟩)) (bs ++ Lib.strCells s) w' ∧ Below B w w' ∧ Lib.OthersKept 5 (some b) w w') := Any.Builder_WriteString_k Tryz.lays166 Tryz.Builder_Extra_166 B b bs s w h hlen hBw
end Go.Proofs
namespace Go.Proofs.YtfccpddehpgfoaaGreatDoor
open Go.RowKit
set_option linter.unusedVariables false
structure Tk.Reads (w : World) (ad : Option Addr) (l : List (Int × Int × ByteArray)) : Prop where
 at_ : ∀ i t, l[i]? = some t → ∃ b o, ad = some ⟨b, o, none⟩ ∧ b < w.heap.size ∧ w.cell? ⟨b, o + i * 3, none⟩ = some (.int .i64 t.1) ∧ w.cell? ⟨b, o + i * 3 + 1, none⟩ = some (.int .i64 t.2.1) ∧
  w.cell? ⟨b, o + i * 3 + 2, none⟩ = some (.string t.2.2) ∧ t.2.2.size ≤ maxLen
theorem Tk.Reads.later {w w' : World} {ad : Option Addr} {l : List (Int × Int × ByteArray)} (h : Tk.Reads w ad l) {B : Nat} (hb : Below B w w') (hB : w.heap.size ≤ B) : Tk.Reads w' ad l :=
 ⟨fun i t hi => by
  obtain ⟨b, o, h1, h2, h3, h4, h5, h6⟩ := h.at_ i t hi
  have hc : ∀ j, w'.cell? ⟨b, j, none⟩ = w.cell? ⟨b, j, none⟩ := fun j => hb.cell (p := ⟨b, j, none⟩) (by show b < B; omega)
  exact ⟨b, o, h1, by have := hb.size; omega, by rw [hc]; exact h3, by rw [hc]; exact h4, by rw [hc]; exact h5, h6⟩⟩
def Zbq (l : List (Int × Int × ByteArray)) : Nat → List UInt8
 | 0 => []
 | i + 1 => Zbq l i ++ (if i = 0 then [] else [32]) ++ ((l[i]?.map fun t => t.2.2.data.toList).getD [])
theorem Zh8 (l : List (Int × Int × ByteArray)) (i : Nat) : (Zbq l i).length ≤ (Zbq l (i + 1)).length := by
 show _ ≤ (Zbq l i ++ _ ++ _).length
 simp only [Za]; omega
theorem Zka (l : List (Int × Int × ByteArray)) (i j : Nat) (h : i ≤ j) : (Zbq l i).length ≤ (Zbq l j).length := by
 induction j with
 | zero => have : i = 0 := by omega
           subst this; exact Nat.le_refl _
 | succ j ih =>
  by_cases e : i = j + 1
  · subst e; exact Nat.le_refl _
  exact Nat.le_trans (ih (by omega)) (Zh8 l j)
theorem ZcM (l : List (Int × Int × ByteArray)) (k : Nat) (t : Int × Int × ByteArray) (h : l[k]? = some t) :
  Zbq l (k + 1) = Zbq l k ++ (if k = 0 then [] else [32]) ++ t.2.2.data.toList := by
 show Zbq l k ++ (if k = 0 then [] else [32]) ++ ((l[k]?.map fun t => t.2.2.data.toList).getD []) = _
 rw [h]; rfl
theorem Zga (l : List (Int × Int × ByteArray)) (ad : Option Addr) (cap : Nat) (w : World) (hr : Tk.Reads w ad l) (hlen : (Zbq l l.length).length ≤ 6000) (hl : l.length ≤ 35184372088832) :
  Calls Tryz.prog 35 #[.slice ad l.length cap] w fun e w' => e = .returned (.string ⟨(Zbq l l.length).toArray⟩) ∧ Below w.heap.size w w' := by
 have HR := Hd hr
 clear hr
 go_enter Tryz.func35, Tryz.ntmps35
 go_wp2_with fail
 go_loopw [8] (fun iv wr => ∃ k : Nat, k ≤ l.length ∧ iv = .int .i64 k ∧ Lib.IsBuilderF 72 5 w.heap.size w.heap.size (Lib.byteCells (Zbq l k)) wr ∧ Below w.heap.size w wr ∧ w.heap.size < wr.heap.size) (fun iv _ => l.length - (intOf iv).toNat)
 case atStart =>
  refine ⟨0, Nat.zero_le _, rfl, .inl (Lib.BuilderAtF.of ⟨Nat.le_refl _, .slice none 0 0, heap_alloc_new w _, World.ownsRow_nil _ _ _ _, by simp [Value.ownBlock]⟩), Zr.alloc Zl _, by simp⟩
 case round =>
  obtain ⟨k, hk, rfl, hib, hbe, hsz⟩ := hrel
  have HI := Hd hib
  have HBE := Hd hbe
  clear hib hbe
  by_cases hlt : k < l.length
  · obtain ⟨t, ht⟩ : ∃ t, l[k]? = some t := ⟨l[k], Zg hlt⟩
    obtain ⟨b, o, rfl, hb, c0, c1, c2, hts⟩ := ((uh HR).later (uh HBE) Zl).at_ k t ht
    have HT := Hd ht
    clear ht
    have hk1 : (0 : Int) ≤ (k : Int) := by omega
    have hk2 : (k : Int) < (l.length : Int) := by omega
    have lt0 : w.heap.size < wr.heap.size := hsz
    have hjn := Zka l (k + 1) l.length (by omega)
    have hstep := ZcM l k t (uh HT)
    have HJ := Hd hjn
    have HST := Hd hstep
    clear hjn hstep
    by_cases h0 : (0 : Int) < (k : Int)
    · have hj1 : (Zbq l k).length + 1 + t.2.2.size ≤ 6000 := by
       have a := uh HJ; rw [uh HST, if_neg (by omega)] at a
       simp only [Za, Zo, List.length_nil, Array.length_toList] at a
       have e : t.2.2.data.size = t.2.2.size := rfl
       omega
      go_wp2_with fail
      refine (Tryz.Builder_WriteByte_k w.heap.size w.heap.size _ 32 _ ((uh HI).alloc _) (by rw [Lib.byteCells_length]; omega) (by simp; omega)).mono ?_
      rintro e w1 ⟨rfl, hat, hbe1, hok⟩
      have hblk := hok wr.heap.size _ (heap_alloc_new wr _) (by simp; omega) (by intro c fz h; cases h)
      have ht2 : w1.cell? ⟨wr.heap.size, 2, none⟩ = some (.string t.2.2) := by rw [cell_of_row w1 _ 2 _ _ _ hblk]; rfl
      have hz1 := hbe1.size
      simp at hz1
      have HA := Hd hat
      have HB1 := Hd hbe1
      clear hat hbe1 hok hblk
      go_wp2_with fail
      refine (Tryz.Builder_WriteString_k w.heap.size w.heap.size _ t.2.2 _ (.inr (uh HA)) (by rw [Za, Lib.byteCells_length]; simp; omega) (by omega)).mono ?_
      rintro e w2 ⟨rfl, hat2, hbe2, hok2⟩
      have hz2 := hbe2.size
      have HA2 := Hd hat2
      have HB2 := Hd hbe2
      clear hat2 hbe2 hok2
      go_wp2_with fail
      refine ⟨⟨k + 1, by omega, by go_num, .inr ?_, (((uh HBE).alloc (by omega) _).trans (uh HB1)).trans (uh HB2), by omega⟩, by simp [intOf]; omega⟩
      have := uh HA2
      rw [uh HST, if_neg (by omega), Lib.byteCells_append, Lib.byteCells_append]
      exact this
    have hj1 : (Zbq l k).length + t.2.2.size ≤ 6000 := by
     have a := uh HJ; rw [uh HST, if_pos (by omega)] at a
     simp only [Za, List.length_nil, Array.length_toList] at a
     have e : t.2.2.data.size = t.2.2.size := rfl
     omega
    go_wp2_with fail
    refine (Tryz.Builder_WriteString_k w.heap.size w.heap.size _ t.2.2 _ ((uh HI).alloc _) (by rw [Lib.byteCells_length]; omega) (by simp; omega)).mono ?_
    rintro e w2 ⟨rfl, hat2, hbe2, hok2⟩
    have hz2 := hbe2.size
    simp at hz2
    have HA2 := Hd hat2
    have HB2 := Hd hbe2
    clear hat2 hbe2 hok2
    go_wp2_with fail
    refine ⟨⟨k + 1, by omega, by go_num, .inr ?_, ((uh HBE).alloc (by omega) _).trans (uh HB2), by omega⟩, by simp [intOf]; omega⟩
    have := uh HA2
    rw [uh HST, if_pos (by omega), List.append_nil, Lib.byteCells_append]
    exact this
  have hkl : k = l.length := by omega
  subst hkl
  go_wp2_with fail
  refine (Tryz.Builder_String_any_k w.heap.size w.heap.size _ _ (uh HI) (by omega)).mono ?_
  rintro e w1 ⟨rfl, _, hbe1, _⟩
  have HB1 := Hd hbe1
  clear hbe1
  go_wp2_with fail
  go_ret
  exact ⟨rfl, (uh HBE).trans (uh HB1)⟩
def Zcr (l : List (Int × Int × ByteArray)) : Bool := l.all fun t => Tk.isTok t.1 (Tk.B t.2.2)
def ZbP (l : List (Int × Int × ByteArray)) : ByteArray × Nat :=
 if Zcr l then (if 6000 < (Zbq l l.length).length then (⟨#[]⟩, 2) else (⟨(Zbq l l.length).toArray⟩, 0)) else (⟨#[]⟩, 1)
theorem ZfD (l : List (Int × Int × ByteArray)) (k : Nat) (t : Int × Int × ByteArray) (h : l[k]? = some t) (ht : Tk.isTok t.1 (Tk.B t.2.2) = false) : Zcr l = false := by
 unfold Zcr
 rw [List.all_eq_false]
 exact ⟨t, List.mem_of_getElem? h, by rw [ht]; decide⟩
theorem Zf9 (l : List (Int × Int × ByteArray)) (h : ∀ (j : Nat) (t : Int × Int × ByteArray), l[j]? = some t → Tk.isTok t.1 (Tk.B t.2.2) = true) : Zcr l = true := by
 unfold Zcr
 rw [List.all_eq_true]
 intro t ht
 obtain ⟨j, hj⟩ := List.getElem?_of_mem ht
 exact h j t hj
theorem ZlA (l : List (Int × Int × ByteArray)) (ad : Option Addr) (cap : Nat) (w : World) (hr : Tk.Reads w ad l) (hl : l.length ≤ 35184372088832) :
  Calls Tryz.prog 15 #[.slice ad l.length cap] w fun e w' => e = .returned (.tuple #[.string (ZbP l).1, .int .i64 ((ZbP l).2 : Int)]) ∧ Below w.heap.size w w' := by
 have HR := Hd hr
 clear hr
 have hmul : ∀ k : Nat, k ≤ l.length → 6001 * k ≤ 6001 * 35184372088832 := fun k hk => Nat.mul_le_mul_left _ (by omega)
 have HMU := Hd hmul
 clear hmul
 go_enter Tryz.func15, Tryz.ntmps15
 go_wp2_with fail
 go_loopw [4, 9] (fun sv iv wr => ∃ k sz : Nat, k ≤ l.length ∧ iv = .int .i64 k ∧ sv = .int .i64 sz ∧ sz = (Zbq l k).length ∧ sz ≤ 6001 * k ∧ (∀ j t, j < k → l[j]? = some t → Tk.isTok t.1 (Tk.B t.2.2) = true) ∧ Below w.heap.size w wr) (fun _ iv _ => l.length - (intOf iv).toNat)
 case atStart => exact ⟨0, 0, Nat.zero_le _, rfl, rfl, rfl, by omega, fun j t h => by omega, Zr⟩
 case round =>
  obtain ⟨k, sz, hk, rfl, rfl, hsz, hle, hall, hbe⟩ := hrel
  have HSZ := Hd hsz
  have HAL := Hd hall
  have HBE := Hd hbe
  have hz := hbe.size
  have hmk := (uh HMU) k hk
  clear hsz hall hbe
  by_cases hlt : k < l.length
  · obtain ⟨t, ht⟩ : ∃ t, l[k]? = some t := ⟨l[k], Zg hlt⟩
    obtain ⟨b, o, rfl, hb, c0, c1, c2, hts⟩ := ((uh HR).later (uh HBE) Zl).at_ k t ht
    have HT := Hd ht
    have HTS := Hd hts
    clear ht hts
    have hk1 : (0 : Int) ≤ (k : Int) := by omega
    have hk2 : (k : Int) < (l.length : Int) := by omega
    go_wp2_with fail
    refine (Zjn t.1 t.2.1 t.2.2 _ (uh HTS)).mono ?_
    rintro e w1 ⟨rfl, hb1⟩
    have hz1 := hb1.size
    simp at hz1
    have hc2 : w1.cell? ⟨wr.heap.size, 2, none⟩ = some (.string t.2.2) := (hb1.cell (p := ⟨wr.heap.size, 2, none⟩) (by simp)).trans (by simp)
    have HB1 := Hd hb1
    clear hb1
    cases htk : Tk.isTok t.1 (Tk.B t.2.2)
    · have hR : ZbP l = (⟨#[]⟩, 1) := by unfold ZbP; rw [ZfD l k t (uh HT) htk]; rfl
      have HR1 := Hd hR
      clear hR htk
      go_wp2_with fail
      go_ret2
      exact ⟨by rw [uh HR1]; rfl, (uh HBE).trans ((Zbk (uh HB1)).mono hz)⟩
    have hts6 : t.2.2.size ≤ 6000 := by have := ((Tk.isTok_iff _ _).1 htk).1; rw [Tk.B_length] at this; exact this
    have HTK := Hd htk
    clear htk
    have hmk1 := (uh HMU) (k + 1) hlt
    by_cases h0 : (0 : Int) < (k : Int)
    · go_wp2_with fail
      have hst := ZcM l k t (uh HT)
      rw [if_neg (by omega)] at hst
      have hs' := uh HSZ
      have e : t.2.2.data.size = t.2.2.size := rfl
      have hln := congrArg List.length hst
      simp only [Za, Zo, List.length_nil, Array.length_toList] at hln
      refine ⟨⟨k + 1, sz + 1 + t.2.2.size, by omega, by go_num, by go_num, by omega, by omega, ?_, (uh HBE).trans ((Zbk (uh HB1)).mono hz)⟩, by simp [intOf]; omega⟩
      intro j u hj hu
      by_cases e2 : j = k
      · subst e2
        have := uh HT
        rw [this] at hu
        cases hu
        exact uh HTK
      exact (uh HAL) j u (by omega) hu
    go_wp2_with fail
    have hst := ZcM l k t (uh HT)
    rw [if_pos (by omega)] at hst
    have hs' := uh HSZ
    have e : t.2.2.data.size = t.2.2.size := rfl
    have hln := congrArg List.length hst
    simp only [Za, List.length_nil, Array.length_toList] at hln
    refine ⟨⟨k + 1, sz + t.2.2.size, by omega, by go_num, by go_num, by omega, by omega, ?_, (uh HBE).trans ((Zbk (uh HB1)).mono hz)⟩, by simp [intOf]; omega⟩
    intro j u hj hu
    by_cases e2 : j = k
    · subst e2
      have := uh HT
      rw [this] at hu
      cases hu
      exact uh HTK
    exact (uh HAL) j u (by omega) hu
  have hkl : k = l.length := by omega
  subst hkl
  have hat : Zcr l = true := Zf9 l fun j t hj => (uh HAL) j t (by have := (List.getElem?_eq_some_iff.1 hj).1; exact this) hj
  by_cases hbig : (6000 : Int) < (sz : Int)
  · have hR : ZbP l = (⟨#[]⟩, 2) := by unfold ZbP; rw [hat, if_pos rfl, if_pos (by have := uh HSZ; omega)]
    have HR1 := Hd hR
    clear hR hat
    go_wp2_with fail
    go_ret2
    exact ⟨by rw [uh HR1]; rfl, uh HBE⟩
  have hs6 : (Zbq l l.length).length ≤ 6000 := by have := uh HSZ; omega
  have hR : ZbP l = (⟨(Zbq l l.length).toArray⟩, 0) := by unfold ZbP; rw [hat, if_pos rfl, if_neg (by omega)]
  have HR1 := Hd hR
  have HS6 := Hd hs6
  clear hR hat hs6
  go_wp2_with fail
  refine (Zga l ad cap _ ((uh HR).later (uh HBE) Zl) (uh HS6) hl).mono ?_
  rintro e w1 ⟨rfl, hb1⟩
  have HB1 := Hd hb1
  clear hb1
  go_wp2_with fail
  go_ret2
  exact ⟨by rw [uh HR1]; rfl, (uh HBE).trans ((uh HB1).mono hz)⟩
end Go.Proofs.YtfccpddehpgfoaaGreatDoor
