/- By the verifier. -/
import Derived.Shelf.Strconv.Atoi
import Derived.Ground.NamesProg
import Derived.Test.YtfccpddehpgfoaaGreatDoorUE
set_option maxRecDepth 100000
set_option maxHeartbeats 3200000
namespace Go.Proofs
open Go.Shelf
def Tryz.laysAtoi_ren : Go.Shelf.Ren := ⟨fun | 172 => 207 | 244 => 214 | 245 => 215 | 247 => 221 | 279 => 222 | 280 => 223 | 281 => 224 | 282 => 225 | 287 => 231 | 316 => 232 | 171 => 163 | 205 => 233 | 321 => 236 | 322 => 237 | 243 => 196 | 246 => 211 | 283 => 217 | 284 => 218 | 285 => 219 | 286 => 220 | 129 => 227 | 317 => 226 | 318 => 228 | 319 => 229 | 320 => 230 | 337 => 234 | 338 => 235 | n => n, fun | 9 => 9 | 3 => 3 | 75 => 118 | 76 => 120 | 4 => 4 | 5 => 5 | 167 => 235 | 37 => 70 | 0 => 0 | 85 => 236 | 2 => 2 | 168 => 238 | 53 => 224 | 175 => 245 | 46 => 208 | 210 => 248 | 127 => 125 | 145 => 254 | 143 => 252 | 21 => 21 | 171 => 230 | 173 => 233 | 212 => 242 | 51 => 221 | 20 => 20 | 213 => 243 | 232 => 255 | 233 => 256 | 80 => 76 | n => n, fun | 15 => 2 | 16 => 3 | 17 => 1 | 18 => 4 | 19 => 5 | n => n⟩
theorem Tryz.laysAtoi : Go.Proofs.Lays.n172 Tryz.prog Tryz.laysAtoi_ren := {
 mixed := by kernel_rfl
 f129 := Tryz.func227.trans (congrArg some (by kernel_rfl))
 f171 := Tryz.func163.trans (congrArg some (by kernel_rfl))
 f172 := Tryz.func207.trans (congrArg some (by kernel_rfl))
 f205 := Tryz.func233.trans (congrArg some (by kernel_rfl))
 f243 := Tryz.func196.trans (congrArg some (by kernel_rfl))
 f244 := Tryz.func214.trans (congrArg some (by kernel_rfl))
 f245 := Tryz.func215.trans (congrArg some (by kernel_rfl))
 f246 := Tryz.func211.trans (congrArg some (by kernel_rfl))
 f247 := Tryz.func221.trans (congrArg some (by kernel_rfl))
 f279 := Tryz.func222.trans (congrArg some (by kernel_rfl))
 f280 := Tryz.func223.trans (congrArg some (by kernel_rfl))
 f281 := Tryz.func224.trans (congrArg some (by kernel_rfl))
 f282 := Tryz.func225.trans (congrArg some (by kernel_rfl))
 f283 := Tryz.func217.trans (congrArg some (by kernel_rfl))
 f284 := Tryz.func218.trans (congrArg some (by kernel_rfl))
 f285 := Tryz.func219.trans (congrArg some (by kernel_rfl))
 f286 := Tryz.func220.trans (congrArg some (by kernel_rfl))
 f287 := Tryz.func231.trans (congrArg some (by kernel_rfl))
 f316 := Tryz.func232.trans (congrArg some (by kernel_rfl))
 f317 := Tryz.func226.trans (congrArg some (by kernel_rfl))
 f318 := Tryz.func228.trans (congrArg some (by kernel_rfl))
 f319 := Tryz.func229.trans (congrArg some (by kernel_rfl))
 f320 := Tryz.func230.trans (congrArg some (by kernel_rfl))
 f321 := Tryz.func236.trans (congrArg some (by kernel_rfl))
 f322 := Tryz.func237.trans (congrArg some (by kernel_rfl))
 f337 := Tryz.func234.trans (congrArg some (by kernel_rfl))
 f338 := Tryz.func235.trans (congrArg some (by kernel_rfl))
 t0 := Tryz.underlying0
 a0 := Tryz.isAgg0
 z0 := Tryz.sizeOf0
 v0 := Tryz.zeroValue0
 t2 := Tryz.underlying2
 a2 := Tryz.isAgg2
 z2 := Tryz.sizeOf2
 v2 := Tryz.zeroValue2
 t3 := Tryz.underlying3
 a3 := Tryz.isAgg3
 z3 := Tryz.sizeOf3
 v3 := Tryz.zeroValue3
 t4 := Tryz.underlying4
 a4 := Tryz.isAgg4
 z4 := Tryz.sizeOf4
 v4 := Tryz.zeroValue4
 t5 := Tryz.underlying5
 a5 := Tryz.isAgg5
 z5 := Tryz.sizeOf5
 v5 := Tryz.zeroValue5
 t9 := Tryz.underlying9
 a9 := Tryz.isAgg9
 z9 := Tryz.sizeOf9
 v9 := Tryz.zeroValue9
 t20 := Tryz.underlying20
 a20 := Tryz.isAgg20
 z20 := Tryz.sizeOf20
 v20 := Tryz.zeroValue20
 t21 := Tryz.underlying21
 a21 := Tryz.isAgg21
 z21 := Tryz.sizeOf21
 v21 := Tryz.zeroValue21
 t37 := Tryz.underlying70
 a37 := Tryz.isAgg70
 z37 := Tryz.sizeOf70
 v37 := Tryz.zeroValue70
 t46 := Tryz.underlying208
 a46 := Tryz.isAgg208
 z46 := Tryz.sizeOf208
 v46 := Tryz.zeroValue208
 t51 := Tryz.underlying221
 a51 := Tryz.isAgg221
 z51 := Tryz.sizeOf221
 v51 := Tryz.zeroValue221
 t53 := Tryz.underlying224
 a53 := Tryz.isAgg224
 z53 := Tryz.sizeOf224
 v53 := Tryz.zeroValue224
 t75 := Tryz.underlying118
 a75 := Tryz.isAgg118
 z75 := Tryz.sizeOf118
 v75 := Tryz.zeroValue118
 t76 := Tryz.underlying120
 a76 := Tryz.isAgg120
 z76 := Tryz.sizeOf120
 v76 := Tryz.zeroValue120
 t85 := Tryz.underlying236
 a85 := Tryz.isAgg236
 z85 := Tryz.sizeOf236
 v85 := Tryz.zeroValue236
 t127 := Tryz.underlying125
 a127 := Tryz.isAgg125
 z127 := Tryz.sizeOf125
 v127 := Tryz.zeroValue125
 t143 := Tryz.underlying252
 a143 := Tryz.isAgg252
 z143 := Tryz.sizeOf252
 v143 := Tryz.zeroValue252
 t145 := Tryz.underlying254
 a145 := Tryz.isAgg254
 z145 := Tryz.sizeOf254
 v145 := Tryz.zeroValue254
 t167 := Tryz.underlying235
 a167 := Tryz.isAgg235
 z167 := Tryz.sizeOf235
 v167 := Tryz.zeroValue235
 t168 := Tryz.underlying238
 a168 := Tryz.isAgg238
 z168 := Tryz.sizeOf238
 v168 := Tryz.zeroValue238
 t171 := Tryz.underlying230
 a171 := Tryz.isAgg230
 z171 := Tryz.sizeOf230
 v171 := Tryz.zeroValue230
 t173 := Tryz.underlying233
 a173 := Tryz.isAgg233
 z173 := Tryz.sizeOf233
 v173 := Tryz.zeroValue233
 t175 := Tryz.underlying245
 a175 := Tryz.isAgg245
 z175 := Tryz.sizeOf245
 v175 := Tryz.zeroValue245
 t210 := Tryz.underlying248
 a210 := Tryz.isAgg248
 z210 := Tryz.sizeOf248
 v210 := Tryz.zeroValue248
 t212 := Tryz.underlying242
 a212 := Tryz.isAgg242
 z212 := Tryz.sizeOf242
 v212 := Tryz.zeroValue242
 t213 := Tryz.underlying243
 a213 := Tryz.isAgg243
 z213 := Tryz.sizeOf243
 t232 := Tryz.underlying255
 a232 := Tryz.isAgg255
 z232 := Tryz.sizeOf255
 v232 := Tryz.zeroValue255
 t233 := Tryz.underlying256
 a233 := Tryz.isAgg256
 z233 := Tryz.sizeOf256
 v233 := Tryz.zeroValue256
 g15 := by kernel_rfl
 g16 := by kernel_rfl
 g17 := by kernel_rfl
 g18 := by kernel_rfl
 g19 := by kernel_rfl }
end Go.Proofs
namespace Go.Proofs.YtfccpddehpgfoaaGreatDoor
open Go.RowKit
set_option linter.unusedVariables false
theorem Zf8 (w : World) (t : TypeId) (s : ByteArray) : Below w.heap.size w (Lib.bytesWorld w t s) :=
 ⟨rfl, rfl, rfl, by rw [Lib.bytesWorld_size]; omega, fun q hq => Lib.bytesWorld_at_old w t s q hq⟩
theorem Zla (s : ByteArray) (n : Int) (hl : s.size ≤ 18) (h : Lib.atoi s.data.toList = some n) (w : World) :
  Calls Tryz.prog 207 #[.string s] w fun r w' => r = .returned (.tuple #[.int .i64 n, .nilIface]) ∧ Below w.heap.size w w' :=
 (Any.strconv_Atoi Tryz.laysAtoi s n hl h w).mono fun r w' ⟨k1, t, k2⟩ => ⟨k1, by rw [k2]; exact Zf8 _ _ _⟩
section
variable (l : List Tp.T) (ta : Option Addr) (c bp : Nat) (e : Int)
def ZlD (x : ByteArray) (r : Ending) (W : World) : Prop := r = .returned (.string x) ∧ x.size ≤ maxLen
def ZkW (x : Int) (r : Ending) (W : World) : Prop := r = .returned (.int .i64 x) ∧ ∃ v : Nat, x = (v : Int) ∧ v < 100000000
theorem ZcJ (i b : Nat) (w : World) (h : Tp.J l ta c bp e w i b) :
  Calls Tryz.prog 151 #[.pointer (some ⟨bp, 0, none⟩)] w (Tp.Out l ta c bp e (ZaA bp) w b ZlD (Tp.name l i)) := by
 obtain ⟨y, hy⟩ : ∃ y, ZbM l i = y := ⟨_, rfl⟩
 have HS := Hd (ZdB l ta c bp e i b w h y hy)
 have HG := Hd (fun (W : World) (hb : Below w.heap.size w W) => ZcH l ta c bp e i b W (h.below hb))
 have HX := Hd (h.fine.txt i)
 unfold Tp.name
 rw [hy]
 cases y
 · clear h hy
   go_enter Tryz.func151, Tryz.ntmps151
   go_wp2_with fail
   refine (uh HS).mono ?_
   rintro r w1 ⟨rfl, hb1⟩
   have HB1 := Hd hb1
   clear hb1
   go_wp2_with fail
   refine ((uh HG) w1 (uh HB1)).mono ?_
   rintro r w2 ⟨rfl, hb2⟩
   have HB2 := Hd ((uh HB1).trans (hb2.mono (uh HB1).size))
   clear hb2
   go_wp2_with fail
   exact ⟨rfl, rfl, Tp.Tu.of_below (uh HB2)⟩
 have hi := ZhI hy
 have HT := Hd (fun (W : World) (hb : Below w.heap.size w W) => Zik l ta c bp e i b W (h.below hb) hi)
 clear h hy hi
 generalize (Tp.tk l i).t = x at *
 go_enter Tryz.func151, Tryz.ntmps151
 go_wp2_with fail
 refine (uh HS).mono ?_
 rintro r w1 ⟨rfl, hb1⟩
 have HB1 := Hd hb1
 clear hb1
 go_wp2_with fail
 refine ((uh HT) w1 (uh HB1)).mono ?_
 rintro r w2 ⟨rfl, hj2, ht2⟩
 have HT2 := Hd (And.intro hj2 ((Tp.Tu.of_below (uh HB1)).trans (ht2.mono (uh HB1).size (fun _ _ h => h))))
 clear hj2 ht2
 go_wp2_with fail
 go_ret
 exact ⟨⟨rfl, uh HX⟩, (uh HT2).1, (uh HT2).2⟩
theorem Zf4 (i b : Nat) (w : World) (h : Tp.J l ta c bp e w i b) :
  Calls Tryz.prog 191 #[.pointer (some ⟨bp, 0, none⟩)] w (Tp.Out l ta c bp e (ZaA bp) w b ZkW (Tp.number l i)) := by
 have HA := Hd (ZcC l ta c bp e 0 (by omega) i b w h)
 rw [Nat.add_zero] at HA
 have HG := Hd (fun (W : World) (hb : Below w.heap.size w W) => ZcH l ta c bp e i b W (h.below hb))
 unfold Tp.number
 by_cases hk : (Tp.tk l i).k = 2
 · rw [if_pos hk]
   have hi := ZkP hk
   have HT := Hd (fun (W : World) (hb : Below w.heap.size w W) => Zik l ta c bp e i b W (h.below hb) hi)
   obtain ⟨n, hn, hn8, hn18⟩ := h.fine.num i hk
   have HV := Hd (show Tp.val (Tp.tk l i).t = (n : Int) by unfold Tp.val; rw [hn]; rfl)
   have HN := Hd (fun (W : World) => Zla (Tp.tk l i).t n hn18 hn W)
   have HN8 := Hd hn8
   have hfd : ∀ W : World, (Instr.field 63 (.agg #[.int .i64 (Tp.tk l i).k, .int .i64 (Tp.tk l i).a, .string (Tp.tk l i).t]) 0).run Tryz.prog W = .ok (.int .i64 (Tp.tk l i).k) W := fun _ => by kernel_rfl
   clear h hi hn hn8 hn18
   generalize Tp.tk l i = x at *
   have hk1 : (x.k != 2) = false := by rw [hk]; rfl
   clear hk
   go_enter Tryz.func191, Tryz.ntmps191
   go_wp2_with fail
   refine (uh HA).mono ?_
   rintro r w1 ⟨rfl, hb1⟩
   have HB1 := Hd hb1
   clear hb1
   go_wp2_with fail
   refine ((uh HT) w1 (uh HB1)).mono ?_
   rintro r w2 ⟨rfl, hj2, ht2⟩
   have HT2 := Hd (And.intro hj2 ((Tp.Tu.of_below (uh HB1)).trans (ht2.mono (uh HB1).size (fun _ _ h => h))))
   clear hj2 ht2
   go_wp2_with fail
   refine ((uh HN) w2).mono ?_
   rintro r w3 ⟨rfl, hb3⟩
   have HT3 := Hd (And.intro ((uh HT2).1.below hb3) ((uh HT2).2.below hb3 (uh HT2).2.size))
   clear hb3
   go_wp2_with fail
   go_ret
   exact ⟨⟨Za2 (uh HV).symm, n, uh HV, uh HN8⟩, (uh HT3).1, (uh HT3).2⟩
 rw [if_neg hk]
 have hfd : ∀ W : World, (Instr.field 63 (.agg #[.int .i64 (Tp.tk l i).k, .int .i64 (Tp.tk l i).a, .string (Tp.tk l i).t]) 0).run Tryz.prog W = .ok (.int .i64 (Tp.tk l i).k) W := fun _ => by kernel_rfl
 clear h
 generalize Tp.tk l i = x at *
 have hk1 : (x.k != 2) = true := by simpa using hk
 clear hk
 go_enter Tryz.func191, Tryz.ntmps191
 go_wp2_with fail
 refine (uh HA).mono ?_
 rintro r w1 ⟨rfl, hb1⟩
 have HB1 := Hd hb1
 clear hb1
 go_wp2_with fail
 refine ((uh HG) w1 (uh HB1)).mono ?_
 rintro r w2 ⟨rfl, hb2⟩
 have HB2 := Hd ((uh HB1).trans (hb2.mono (uh HB1).size))
 clear hb2
 go_wp2_with fail
 exact ⟨rfl, rfl, Tp.Tu.of_below (uh HB2)⟩
theorem Zg9 {D : Nat → Prop} {w w1 : World} {b : Nat} {α : Type} {good : α → Ending → World → Prop} {o : Except Nat (α × Nat)} {r : Ending} {w' : World} (h : Tp.Out l ta c bp e D w1 b good o r w') (hb : Tp.Tu D w.heap.size w w1) : Tp.Out l ta c bp e D w b good o r w' := by
 cases o with
 | error j => exact ⟨h.1, hb.then h.2 hb.size (fun _ _ h => h)⟩
 | ok p => exact ⟨h.1, h.2.1, hb.then h.2.2 hb.size (fun _ _ h => h)⟩
theorem Zgq (i b : Nat) (w : World) (h : Tp.J l ta c bp e w i b) :
  Calls Tryz.prog 187 #[.pointer (some ⟨bp, 0, none⟩)] w (Tp.Out l ta c bp e (ZaA bp) w b ZkW (ZbQ l i)) := by
 obtain ⟨y, hy⟩ : ∃ y, Zal l i ⟨#[48]⟩ = y := ⟨_, rfl⟩
 have HS := Hd (ZbJ l ta c bp e ⟨#[48]⟩ i b w h y hy)
 have HG := Hd (fun (W : World) (hb : Below w.heap.size w W) => ZcH l ta c bp e i b W (h.below hb))
 have HN := Hd (fun (W : World) (hb : Below w.heap.size w W) => Zf4 l ta c bp e i b W (h.below hb))
 unfold ZbQ
 rw [hy]
 clear h hy
 cases y
 · go_enter Tryz.func187, Tryz.ntmps187
   go_wp2_with fail
   refine (uh HS).mono ?_
   rintro r w1 ⟨rfl, hb1⟩
   have HB1 := Hd hb1
   clear hb1
   go_wp2_with fail
   refine ((uh HN) w1 (uh HB1)).mono ?_
   intro r w2 ho
   replace ho := Zg9 l ta c bp e ho (Tp.Tu.of_below (uh HB1))
   cases hn : Tp.number l i with
   | error j =>
    rw [hn] at ho
    obtain ⟨rfl, ht⟩ := ho
    have HT := Hd ht
    clear ht
    go_wp2_with fail
    exact ⟨rfl, rfl, uh HT⟩
   | ok p =>
    obtain ⟨x, j⟩ := p
    rw [hn] at ho
    obtain ⟨⟨rfl, hv⟩, ht⟩ := ho
    have HT := Hd (And.intro hv ht)
    clear hv ht
    go_wp2_with fail
    go_ret
    exact ⟨⟨rfl, (uh HT).1⟩, (uh HT).2⟩
 go_enter Tryz.func187, Tryz.ntmps187
 go_wp2_with fail
 refine (uh HS).mono ?_
 rintro r w1 ⟨rfl, hb1⟩
 have HB1 := Hd hb1
 clear hb1
 go_wp2_with fail
 refine ((uh HG) w1 (uh HB1)).mono ?_
 rintro r w2 ⟨rfl, hb2⟩
 have HB2 := Hd ((uh HB1).trans (hb2.mono (uh HB1).size))
 clear hb2
 go_wp2_with fail
 exact ⟨rfl, rfl, Tp.Tu.of_below (uh HB2)⟩
theorem Zeh (s : ByteArray) (hs : 0 < s.size) (i b : Nat) (hb60 : b ≤ 60) (w : World) (h : Tp.J l ta c bp e w i b) :
  Calls Tryz.prog 185 #[.pointer (some ⟨bp, 0, none⟩), .string s] w (ZiB l ta c bp e (ZaA bp) w (b + 1) (Zba l s b i)) := by
 obtain ⟨c0, c1, c2, c3, fz⟩ := h.p
 have HG := Hd (fun (W : World) (hb : Below w.heap.size w W) => ZcH l ta c bp e i b W (h.below hb))
 have HW := Hd (ZaX l ta c bp e s hs i b w h)
 have hlt := h.lt
 unfold Zba
 clear h
 by_cases h60 : b = 60
 · rw [if_pos h60]
   have hq : ((b : Int) == 60) = true := by rw [h60]; rfl
   clear h60
   go_enter Tryz.func185, Tryz.ntmps185
   go_wp2_with fail
   refine ((uh HG) w Zr).mono ?_
   rintro r w2 ⟨rfl, hb2⟩
   have HB2 := Hd hb2
   clear hb2
   go_wp2_with fail
   exact ⟨rfl, rfl, Tp.Tu.of_below (uh HB2)⟩
 rw [if_neg h60]
 have hq : ((b : Int) == 60) = false := by rw [beq_eq_false_iff_ne]; omega
 clear h60
 go_enter Tryz.func185, Tryz.ntmps185
 go_wp2_with fail
 refine (uh HW).mono ?_
 intro r w1 ho
 cases hn : Zak l s i with
 | error j =>
  rw [hn] at ho
  obtain ⟨rfl, ht⟩ := ho
  have HT := Hd ht
  clear ht
  go_wp2_with fail
  exact ⟨rfl, rfl, uh HT⟩
 | ok j =>
  rw [hn] at ho
  obtain ⟨rfl, hj, ht⟩ := ho
  clear c0 c1 c2 c3 fz
  obtain ⟨c0, c1, c2, c3, fz⟩ := hj.p
  have HJ := Hd (hj.brk (b + 1) (z := (b : Int) + 1) (by omega))
  have HT := Hd (ht.set (b := bp) (o := 3) (.int .i64 ((b : Int) + 1)) (fun _ => rfl))
  clear hj ht
  go_wp2_with fail
  go_end0
  rw [hn]
  exact ⟨rfl, uh HJ, uh HT⟩
theorem ZcA (s : ByteArray) (hs : 0 < s.size) (i b : Nat) (hb60 : b ≤ 60) (w : World) (h : Tp.J l ta c bp e w i (b + 1)) :
  Calls Tryz.prog 186 #[.pointer (some ⟨bp, 0, none⟩), .string s] w (ZiB l ta c bp e (ZaA bp) w b (Zak l s i)) := by
 have HW := Hd (ZaX l ta c bp e s hs i (b + 1) w h)
 have hlt := h.lt
 clear h
 go_enter Tryz.func186, Tryz.ntmps186
 go_wp2_with fail
 refine (uh HW).mono ?_
 intro r w1 ho
 cases hn : Zak l s i with
 | error j =>
  rw [hn] at ho
  obtain ⟨rfl, ht⟩ := ho
  have HT := Hd ht
  clear ht
  go_wp2_with fail
  exact ⟨rfl, rfl, uh HT⟩
 | ok j =>
  rw [hn] at ho
  obtain ⟨rfl, hj, ht⟩ := ho
  obtain ⟨c0, c1, c2, c3, fz⟩ := hj.p
  have e1 : ((b + 1 : Nat) : Int) = (b : Int) + 1 := by omega
  rw [e1] at c3
  have e2 : (b : Int) + 1 - 1 = (b : Int) := by omega
  have HJ := Hd (hj.brk b (z := (b : Int)) rfl)
  have HT := Hd (ht.set (b := bp) (o := 3) (.int .i64 (b : Int)) (fun _ => rfl))
  clear hj ht e1
  go_wp2_with fail
  go_end0
  rw [hn]
  exact ⟨rfl, uh HJ, uh HT⟩
end
theorem ZgZ (t : ByteArray) (w : World) : Calls Tryz.prog 206 #[.string t] w fun r w' => r = .returned (.int .i64 (Tp.opK t : Nat)) ∧ w' = w := by
 unfold Tp.opK
 cases h1 : (t.toList == [43])
 · cases h2 : (t.toList == [45])
   · cases h3 : (t.toList == [42])
     · cases h4 : (t.toList == [47])
       · cases h5 : (t.toList == [37])
         · cases h6 : (t.toList == [60])
           · cases h7 : (t.toList == [61, 61])
             all_goals
              go_enter Tryz.func206, Tryz.ntmps206
              go_wp2_with fail
              go_ret
              exact ⟨rfl, rfl⟩
           go_enter Tryz.func206, Tryz.ntmps206
           go_wp2_with fail
           go_ret
           exact ⟨rfl, rfl⟩
         go_enter Tryz.func206, Tryz.ntmps206
         go_wp2_with fail
         go_ret
         exact ⟨rfl, rfl⟩
       go_enter Tryz.func206, Tryz.ntmps206
       go_wp2_with fail
       go_ret
       exact ⟨rfl, rfl⟩
     go_enter Tryz.func206, Tryz.ntmps206
     go_wp2_with fail
     go_ret
     exact ⟨rfl, rfl⟩
   go_enter Tryz.func206, Tryz.ntmps206
   go_wp2_with fail
   go_ret
   exact ⟨rfl, rfl⟩
 go_enter Tryz.func206, Tryz.ntmps206
 go_wp2_with fail
 go_ret
 exact ⟨rfl, rfl⟩
structure Tp.X5 (W : World) (b : Nat) (E : Tk.E) : Prop where
 c0 : W.cell? ⟨b, 0, none⟩ = some (.int .i64 E.k)
 c1 : W.cell? ⟨b, 1, none⟩ = some (.int .i64 E.a)
 c2 : W.cell? ⟨b, 2, none⟩ = some (.int .i64 E.n)
 c3 : W.cell? ⟨b, 3, none⟩ = some (.string E.nm)
 c4 : W.cell? ⟨b, 4, none⟩ = some (.slice E.args.ad E.args.len E.args.cap)
 f : ∀ j, W.frozen? ⟨b, j, none⟩ = false
def Tk.E.zero : Tk.E := ⟨0, 0, 0, ⟨#[]⟩, ⟨none, 0, 0⟩⟩
section
variable {W W' : World} {b : Nat} {E F : Tk.E}
theorem Tp.X5.lt (h : Tp.X5 W b E) : b < W.heap.size := World.block_lt_of_cell? W _ h.c0
theorem Tp.X5.kept (h : Tp.X5 W b E) (hb : W'.heap[b]? = W.heap[b]?) : Tp.X5 W' b E := by
 have hc : ∀ j, W'.cell? ⟨b, j, none⟩ = W.cell? ⟨b, j, none⟩ := fun j => Zc (a := ⟨b, j, none⟩) hb
 exact ⟨(hc 0).trans h.c0, (hc 1).trans h.c1, (hc 2).trans h.c2, (hc 3).trans h.c3, (hc 4).trans h.c4, fun j => (Zf (a := ⟨b, j, none⟩) hb).trans (h.f j)⟩
theorem Tp.X5.below (h : Tp.X5 W b E) (hb : Below W.heap.size W W') : Tp.X5 W' b E := h.kept (hb.block b h.lt)
theorem Tp.X5.tu {D : Nat → Prop} (h : Tp.X5 W b E) (hb : Tp.Tu D W.heap.size W W') (hD : ¬ D b) : Tp.X5 W' b E := h.kept (hb.block b h.lt hD)
theorem Tp.X5.new (W : World) (E : Tk.E) : Tp.X5 (W.alloc (Obj.cells #[.int .i64 E.k, .int .i64 E.a, .int .i64 E.n, .string E.nm, .slice E.args.ad E.args.len E.args.cap] 52)) W.heap.size E :=
 ⟨by go_simp, by go_simp, by go_simp, by go_simp, by go_simp, fun j => by go_simp⟩
theorem Tp.X5.lies (h : Tp.X5 W b E) : Tk.ELies W b 0 E := ⟨h.c0, h.c1, h.c2, h.c3, h.c4⟩
theorem Tp.X5.put (h : Tp.X5 W b E) (F : Tk.E) :
  let S := ((((W.setCell ⟨b, 0, none⟩ (.int .i64 F.k)).setCell ⟨b, 1, none⟩ (.int .i64 F.a)).setCell ⟨b, 2, none⟩ (.int .i64 F.n)).setCell ⟨b, 3, none⟩ (.string F.nm)).setCell ⟨b, 4, none⟩ (.slice F.args.ad F.args.len F.args.cap)
  Tp.X5 S b F ∧ S.heap.size = W.heap.size ∧ (∀ q, q ≠ b → S.heap[q]? = W.heap[q]?) ∧ ∀ (D : Nat → Prop) (n : Nat), n ≤ b → Tp.Tu D n W S := by
 obtain ⟨c0, c1, c2, c3, c4, f⟩ := h
 have ne : ∀ (W : World) (i j : Nat) (v : Value), i ≠ j → (W.setCell ⟨b, j, none⟩ v).cell? ⟨b, i, none⟩ = W.cell? ⟨b, i, none⟩ := fun W i j v hij => Tp.set_ne hij
 refine ⟨⟨?_, ?_, ?_, ?_, ?_, fun j => ?_⟩, by simp [World.setCell], fun q hq => ?_, fun D n hn => ?_⟩
 · rw [ne _ 0 4 _ (by decide), ne _ 0 3 _ (by decide), ne _ 0 2 _ (by decide), ne _ 0 1 _ (by decide)]
   exact World.cell?_setCell_same _ _ _ c0
 · rw [ne _ 1 4 _ (by decide), ne _ 1 3 _ (by decide), ne _ 1 2 _ (by decide)]
   exact World.cell?_setCell_same _ _ _ (by rw [ne _ 1 0 _ (by decide)]; exact c1)
 · rw [ne _ 2 4 _ (by decide), ne _ 2 3 _ (by decide)]
   exact World.cell?_setCell_same _ _ _ (by rw [ne _ 2 1 _ (by decide), ne _ 2 0 _ (by decide)]; exact c2)
 · rw [ne _ 3 4 _ (by decide)]
   exact World.cell?_setCell_same _ _ _ (by rw [ne _ 3 2 _ (by decide), ne _ 3 1 _ (by decide), ne _ 3 0 _ (by decide)]; exact c3)
 · exact World.cell?_setCell_same _ _ _ (by rw [ne _ 4 3 _ (by decide), ne _ 4 2 _ (by decide), ne _ 4 1 _ (by decide), ne _ 4 0 _ (by decide)]; exact c4)
 · simp only [World.frozen?_setCell]; exact f j
 · exact ((((Below.heap_setCell _ _ _ _ hq).trans (Below.heap_setCell _ _ _ _ hq)).trans (Below.heap_setCell _ _ _ _ hq)).trans (Below.heap_setCell _ _ _ _ hq)).trans (Below.heap_setCell _ _ _ _ hq)
 exact (((((Tp.Tu.refl D n W).set (b := b) (o := 0) _ (by omega)).set (b := b) (o := 1) _ (by omega)).set (b := b) (o := 2) _ (by omega)).set (b := b) (o := 3) _ (by omega)).set (b := b) (o := 4) _ (by omega)
theorem Tp.X5.set0 (h : Tp.X5 W b E) (z : Int) : Tp.X5 (W.setCell ⟨b, 0, none⟩ (.int .i64 z)) b ⟨z, E.a, E.n, E.nm, E.args⟩ :=
 ⟨World.cell?_setCell_same _ _ _ h.c0, (Tp.set_ne (by decide)).trans h.c1, (Tp.set_ne (by decide)).trans h.c2, (Tp.set_ne (by decide)).trans h.c3, (Tp.set_ne (by decide)).trans h.c4, fun j => by rw [World.frozen?_setCell]; exact h.f j⟩
theorem Tp.X5.set3 (h : Tp.X5 W b E) (z : ByteArray) : Tp.X5 (W.setCell ⟨b, 3, none⟩ (.string z)) b ⟨E.k, E.a, E.n, z, E.args⟩ :=
 ⟨(Tp.set_ne (by decide)).trans h.c0, (Tp.set_ne (by decide)).trans h.c1, (Tp.set_ne (by decide)).trans h.c2, World.cell?_setCell_same _ _ _ h.c3, (Tp.set_ne (by decide)).trans h.c4, fun j => by rw [World.frozen?_setCell]; exact h.f j⟩
end
def ZeB (B bp d : Nat) (x : Zat d) (r : Ending) (W : World) : Prop := ∃ E : Tk.E, r = .returned (.agg #[.int .i64 E.k, .int .i64 E.a, .int .i64 E.n, .string E.nm, .slice E.args.ad E.args.len E.args.cap]) ∧ Tp.Ow B bp W (fun W => Tk.RE W d E x)
def Tp.gO (B bp d : Nat) (x : Nat × Zat d × Zat d) (r : Ending) (W : World) : Prop := ∃ s : Tk.Sl, r = .returned (.tuple #[.int .i64 (x.1 : Nat), .slice s.ad s.len s.cap]) ∧ Tp.Ow B bp W (fun W => Tk.RS W 5 (Tk.ELies W) (Tk.RE W d) s [x.2.1, x.2.2])
section
variable {B bp g d : Nat} {W : World}
theorem Tk.ELies.kept {W W' : World} {g o : Nat} {E : Tk.E} (h : Tk.ELies W g o E) (hb : W'.heap[g]? = W.heap[g]?) : Tk.ELies W' g o E := by
 have hc : ∀ j, W'.cell? ⟨g, j, none⟩ = W.cell? ⟨g, j, none⟩ := fun j => Zc (a := ⟨g, j, none⟩) hb
 exact ⟨(hc _).trans h.c0, (hc _).trans h.c1, (hc _).trans h.c2, (hc _).trans h.c3, (hc _).trans h.c4⟩
theorem Tk.ELies.lt {W : World} {g o : Nat} {E : Tk.E} (h : Tk.ELies W g o E) : g < W.heap.size := World.block_lt_of_cell? W _ h.c0
theorem Tp.Ow.one {E : Tk.E} {x : Zat d} (hL : Tk.ELies W g 0 E) (hg : B ≤ g) (hb : bp < B) (h : Tp.Ow B bp W (fun W => Tk.RE W d E x)) : Tp.Ow B bp W (fun W => Tk.RS W 5 (Tk.ELies W) (Tk.RE W d) ⟨some ⟨g, 0, none⟩, 1, 1⟩ [x]) :=
 fun W' h1 h2 => ⟨rfl, by simp, fun i y hy => by
  match i, hy with
  | 0, hy =>
   cases hy
   exact ⟨g, 0, E, rfl, Nat.lt_of_lt_of_le hL.lt h1, hL.kept (h2 g hg (by omega) hL.lt), h W' h1 h2⟩
  | i + 1, hy => simp at hy⟩
theorem Tp.Ow.two {E F : Tk.E} {x y : Zat d} (hL : Tk.ELies W g 0 E) (hF : Tk.ELies W g 5 F) (hg : B ≤ g) (hb : bp < B) (h : Tp.Ow B bp W (fun W => Tk.RE W d E x)) (h' : Tp.Ow B bp W (fun W => Tk.RE W d F y)) :
  Tp.Ow B bp W (fun W => Tk.RS W 5 (Tk.ELies W) (Tk.RE W d) ⟨some ⟨g, 0, none⟩, 2, 2⟩ [x, y]) :=
 fun W' h1 h2 => ⟨rfl, by simp, fun i z hz => by
  match i, hz with
  | 0, hz =>
   cases hz
   exact ⟨g, 0, E, rfl, Nat.lt_of_lt_of_le hL.lt h1, hL.kept (h2 g hg (by omega) hL.lt), h W' h1 h2⟩
  | 1, hz =>
   cases hz
   exact ⟨g, 0, F, rfl, Nat.lt_of_lt_of_le hL.lt h1, hF.kept (h2 g hg (by omega) hL.lt), h' W' h1 h2⟩
  | i + 2, hz => simp at hz⟩
end
section
variable (l : List Tp.T) (ta : Option Addr) (c bp : Nat) (e : Int)
theorem Zgf {d : Nat} (rec : Nat → Nat → Except Nat (Zat d × Nat)) (b : Nat) (hb60 : b ≤ 60)
  (HR : ∀ (i : Nat) (W : World), b + 1 ≤ 60 → Tp.J l ta c bp e W i (b + 1) → Calls Tryz.prog 156 #[.pointer (some ⟨bp, 0, none⟩)] W (Tp.Out l ta c bp e (ZaA bp) W (b + 1) (ZeB W.heap.size bp d) (rec (b + 1) i)))
  (i : Nat) (w : World) (h : Tp.J l ta c bp e w i b) :
  Calls Tryz.prog 190 #[.pointer (some ⟨bp, 0, none⟩)] w (Tp.Out l ta c bp e (ZaA bp) w b (ZeB w.heap.size bp d) (Tp.index l rec b i)) := by
 obtain ⟨o, ho⟩ : ∃ o, Tp.index l rec b i = o := ⟨_, rfl⟩
 rw [ho]
 have hlt := h.lt
 have HRC := Hd HR
 have hbA := (Below.refl w.heap.size w).alloc Zl (Obj.cells #[.int .i64 0, .int .i64 0, .int .i64 0, .string ⟨#[]⟩, .slice none 0 0] 52)
 have HO := Hd (Zeh l ta c bp e ⟨#[91]⟩ (by decide) i b hb60 _ (h.below hbA))
 have HX := Hd (Tp.X5.new w Tk.E.zero)
 have HB := Hd (Tp.Tu.of_below (D := ZaA bp) hbA)
 have HEQ := Hd ho
 have hsz : (w.alloc (Obj.cells #[.int .i64 0, .int .i64 0, .int .i64 0, .string ⟨#[]⟩, .slice none 0 0] 52)).heap.size = w.heap.size + 1 := by simp
 have HSZ := Hd hsz
 clear h ho hbA HR hsz
 go_enter Tryz.func190, Tryz.ntmps190
 go_wp2_with fail
 unfold Tk.E.zero at HX
 dsimp only at HX
 generalize (w.alloc (Obj.cells #[.int .i64 0, .int .i64 0, .int .i64 0, .string ⟨#[]⟩, .slice none 0 0] 52)) = wa at *
 refine (uh HO).mono ?_
 intro r w1 h1
 cases hn : Zba l ⟨#[91]⟩ b i with
 | error j =>
  rw [hn] at h1
  obtain ⟨rfl, ht⟩ := h1
  have HT := Hd ((uh HB).then ht (uh HB).size (fun _ _ h => h))
  obtain rfl : o = .error j := by rw [← uh HEQ]; simp only [Tp.index, hn]
  clear ht
  go_wp2_with fail
  exact ⟨rfl, rfl, uh HT⟩
 | ok i1 =>
  rw [hn] at h1
  obtain ⟨rfl, hj, ht⟩ := h1
  have hb1 : b + 1 ≤ 60 := by
   unfold Zba at hn
   split at hn
   · cases hn
   omega
  have HE1 := Hd hn
  have HX1 := Hd ((uh HX).tu ht (show ¬ w.heap.size = bp by omega))
  have HT1 := Hd ((uh HB).then ht (uh HB).size (fun _ _ h => h))
  have HJ1 := Hd hj
  clear hj ht HX hn HO
  go_wp2_with fail
  refine ((uh HRC) i1 w1 hb1 (uh HJ1)).mono ?_
  intro r w2 h2
  cases hn : rec (b + 1) i1 with
  | error j =>
   rw [hn] at h2
   obtain ⟨rfl, ht⟩ := h2
   have HT := Hd ((uh HT1).then ht (uh HT1).size (fun _ _ h => h))
   obtain rfl : o = .error j := by rw [← uh HEQ]; simp only [Tp.index, uh HE1, hn]
   clear ht
   go_wp2_with fail
   exact ⟨rfl, rfl, uh HT⟩
  | ok p =>
   obtain ⟨x, j⟩ := p
   rw [hn] at h2
   obtain ⟨⟨E, rfl, hro⟩, hj, ht⟩ := h2
   have HE2 := Hd hn
   have hs1 := (uh HX1).lt
   have HT2 := Hd ((uh HT1).then ht (uh HT1).size (fun _ _ h => h))
   have hbN := (Below.refl w2.heap.size w2).alloc Zl (Obj.cells #[.int .i64 E.k, .int .i64 E.a, .int .i64 E.n, .string E.nm, .slice E.args.ad E.args.len E.args.cap] 52)
   have HX2 := Hd (((uh HX1).tu ht (show ¬ w.heap.size = bp by omega)).below hbN)
   have HN2 := Hd (Tp.X5.new w2 E)
   have hs2 := ht.size
   have HRO2 := Hd ((hro.wide (B' := w.heap.size + 1) (g' := bp) (by omega) (by omega) (Or.inl (by omega))).go hbN.size (fun q _ _ hq => hbN.block q hq))
   have HT2b := Hd ((uh HT2).below hbN (uh HT2).size)
   have HC := Hd (ZcA l ta c bp e ⟨#[93]⟩ (by decide) j b hb60 _ (hj.below hbN))
   clear hj ht hro hn HX1 HRC HJ1 hbN
   go_wp2_with fail
   generalize (w2.alloc (Obj.cells #[.int .i64 E.k, .int .i64 E.a, .int .i64 E.n, .string E.nm, .slice E.args.ad E.args.len E.args.cap] 52)) = wb at *
   refine (uh HC).mono ?_
   intro r w3 h3
   cases hn : Zak l ⟨#[93]⟩ j with
   | error j' =>
    rw [hn] at h3
    obtain ⟨rfl, ht⟩ := h3
    have HT := Hd ((uh HT2b).then ht (uh HT2b).size (fun _ _ h => h))
    obtain rfl : o = .error j' := by rw [← uh HEQ]; simp only [Tp.index, uh HE1, uh HE2, hn]
    clear ht
    go_wp2_with fail
    exact ⟨rfl, rfl, uh HT⟩
   | ok j' =>
    rw [hn] at h3
    obtain ⟨rfl, hj, ht⟩ := h3
    obtain rfl : o = .ok (x, j') := by rw [← uh HEQ]; simp only [Tp.index, uh HE1, uh HE2, hn]
    have hX3 := (uh HX2).tu ht (show ¬ w.heap.size = bp by omega)
    have hN3 := (uh HN2).tu ht (show ¬ w2.heap.size = bp by omega)
    have hP := hX3.put E
    have HRO3 := Hd ((uh HRO2).tu ht Zl (fun q hq => Or.inl (by have : q = bp := hq; omega)))
    have HT3 := Hd ((uh HT2b).then ht (uh HT2b).size (fun _ _ h => h))
    have HJ3 := Hd hj
    obtain ⟨n0, n1, n2, n3, n4, nf⟩ := hN3
    obtain ⟨x0, x1, x2, x3, x4, xf⟩ := hX3
    have HP := Hd hP
    have hne : w.heap.size ≠ w2.heap.size := by omega
    clear hj ht hn HX2 HN2 HE2 HC HRO2 HT2b hP
    go_wp2_with fail
    obtain ⟨⟨s0, s1, s2, s3, s4, sf⟩, hsS, hkS, htS⟩ := uh HP
    refine bodyPost_ret (v := .agg #[.int .i64 E.k, .int .i64 E.a, .int .i64 E.n, .string E.nm, .slice E.args.ad E.args.len E.args.cap]) (by simp [results, Tryz.results190, go_sem, s0, s1, s2, s3, s4]) rfl ?_
    exact ⟨⟨E, rfl, ((uh HRO3).go (by omega) (fun q h1 _ _ => hkS q (by omega))).wide (by omega) (by omega) (Or.inl (by omega))⟩, (uh HJ3).kept (by omega) (fun q hq => hkS q (by omega)), (uh HT3).trans (htS _ _ Zl)⟩
end
section
variable (l : List Tp.T) (ta : Option Addr) (c bp : Nat) (e : Int)
theorem Zlr {l : List Tp.T} {j : Nat} (h : Tp.opK (Tp.tk l j).t ≠ 0) : j < l.length := by
 by_cases hi : j < l.length
 · exact hi
 rw [ZbV (by omega)] at h
 exact absurd (by unfold Tp.opK; rw [ByteArray.toList_eq]; rfl) h
theorem ZkR {d : Nat} (rec : Nat → Nat → Except Nat (Zat d × Nat)) (b : Nat) (hb60 : b ≤ 60)
  (HR : ∀ (i : Nat) (W : World), b + 1 ≤ 60 → Tp.J l ta c bp e W i (b + 1) → Calls Tryz.prog 156 #[.pointer (some ⟨bp, 0, none⟩)] W (Tp.Out l ta c bp e (ZaA bp) W (b + 1) (ZeB W.heap.size bp d) (rec (b + 1) i)))
  (i : Nat) (w : World) (h : Tp.J l ta c bp e w i b) :
  Calls Tryz.prog 189 #[.pointer (some ⟨bp, 0, none⟩)] w (Tp.Out l ta c bp e (ZaA bp) w b (Tp.gO w.heap.size bp d) (Zb5 l rec b i)) := by
 obtain ⟨o, ho⟩ : ∃ o, Zb5 l rec b i = o := ⟨_, rfl⟩
 rw [ho]
 have hlt := h.lt
 have HRC := Hd HR
 have HO := Hd (Zeh l ta c bp e ⟨#[40]⟩ (by decide) i b hb60 _ h)
 have HEQ := Hd ho
 clear h ho HR
 go_enter Tryz.func189, Tryz.ntmps189
 go_wp2_with fail
 refine (uh HO).mono ?_
 intro r w1 h1
 cases hn : Zba l ⟨#[40]⟩ b i with
 | error j =>
  rw [hn] at h1
  obtain ⟨rfl, ht⟩ := h1
  have HT := Hd ht
  obtain rfl : o = .error j := by rw [← uh HEQ]; simp only [Zb5, hn]
  clear ht
  go_wp2_with fail
  exact ⟨rfl, rfl, uh HT⟩
 | ok i1 =>
  rw [hn] at h1
  obtain ⟨rfl, hj, ht⟩ := h1
  have hb1 : b + 1 ≤ 60 := by
   unfold Zba at hn
   split at hn
   · cases hn
   omega
  have HE1 := Hd hn
  have HT1 := Hd ht
  have HJ1 := Hd hj
  have hz1 := ht.size
  clear hj ht hn HO
  go_wp2_with fail
  refine ((uh HRC) i1 w1 hb1 (uh HJ1)).mono ?_
  intro r w2 h2
  cases hn : rec (b + 1) i1 with
  | error j =>
   rw [hn] at h2
   obtain ⟨rfl, ht⟩ := h2
   have HT := Hd ((uh HT1).then ht (uh HT1).size (fun _ _ h => h))
   obtain rfl : o = .error j := by rw [← uh HEQ]; simp only [Zb5, uh HE1, hn]
   clear ht
   go_wp2_with fail
   exact ⟨rfl, rfl, uh HT⟩
  | ok p =>
   obtain ⟨x, j⟩ := p
   rw [hn] at h2
   obtain ⟨⟨E, rfl, hro⟩, hj, ht⟩ := h2
   have HE2 := Hd hn
   have hbN := (Below.refl w2.heap.size w2).alloc Zl (Obj.cells #[.int .i64 E.k, .int .i64 E.a, .int .i64 E.n, .string E.nm, .slice E.args.ad E.args.len E.args.cap] 52)
   have HN2 := Hd (Tp.X5.new w2 E)
   have hs2 := ht.size
   have HRO2 := Hd ((hro.wide (B' := w.heap.size) (g' := bp) (by omega) (by omega) (Or.inl (by omega))).go hbN.size (fun q _ _ hq => hbN.block q hq))
   have HT2 := Hd (((uh HT1).then ht (uh HT1).size (fun _ _ h => h)).below hbN (by omega))
   have HJ2 := Hd (hj.below hbN)
   have hsb : (w2.alloc (Obj.cells #[.int .i64 E.k, .int .i64 E.a, .int .i64 E.n, .string E.nm, .slice E.args.ad E.args.len E.args.cap] 52)).heap.size = w2.heap.size + 1 := by simp
   have HA := Hd (ZcC l ta c bp e 0 (by omega) j (b + 1) _ (uh HJ2))
   rw [Nat.add_zero] at HA
   clear hj ht hro hn HT1 HJ1 hbN
   go_wp2_with fail
   generalize (w2.alloc (Obj.cells #[.int .i64 E.k, .int .i64 E.a, .int .i64 E.n, .string E.nm, .slice E.args.ad E.args.len E.args.cap] 52)) = wb at *
   have hxk := Hd (fun h : Tp.opK (Tp.tk l j).t ≠ 0 => Zlr h)
   obtain ⟨t, htk⟩ : ∃ t, Tp.tk l j = t := ⟨_, rfl⟩
   rw [htk] at hxk HA
   have HTK := Hd htk
   clear htk
   have hfd : ∀ W : World, (Instr.field 63 (.agg #[.int .i64 t.k, .int .i64 t.a, .string t.t]) 2).run Tryz.prog W = .ok (.string t.t) W := fun _ => by kernel_rfl
   refine (uh HA).mono ?_
   rintro r w3 ⟨rfl, hb3⟩
   have HJ3 := Hd ((uh HJ2).below hb3)
   have HN3 := Hd ((uh HN2).below hb3)
   have HT3 := Hd ((uh HT2).below hb3 (by omega))
   have HRO3 := Hd ((uh HRO2).go hb3.size (fun q _ _ hq => hb3.block q hq))
   have hs3 := hb3.size
   clear hb3 HJ2 HN2 HT2 HRO2 HA
   go_wp2_with fail
   refine (ZgZ t.t w3).mono ?_
   rintro r w4 ⟨rfl, hw4⟩
   subst hw4
   have HOK := Hd (show Tp.opK (Tp.tk l j).t = Tp.opK t.t by rw [uh HTK])
   have hk10 : Tp.opK t.t ≤ 10 := by unfold Tp.opK; repeat' split <;> try omega
   generalize Tp.opK t.t = K at *
   by_cases hK : K = 0
   · subst hK
     have HG := Hd (ZcH l ta c bp e j (b + 1) w4 (uh HJ3))
     obtain rfl : o = .error j := by rw [← uh HEQ]; simp only [Zb5, uh HE1, uh HE2, uh HOK, if_true]
     go_wp2_with fail
     refine (uh HG).mono ?_
     rintro r w5 ⟨rfl, hb5⟩
     have HT5 := Hd ((uh HT3).below hb5 (by omega))
     clear hb5
     go_wp2_with fail
     exact ⟨rfl, rfl, uh HT5⟩
   have hK1 : ((K : Int) == 0) = false := by rw [beq_eq_false_iff_ne]; omega
   have hjl := (uh hxk) hK
   have hfew := (uh HJ3).fine.few
   obtain ⟨c0, c1, c2, c3, fz⟩ := (uh HJ3).p
   have HJ4 := Hd ((uh HJ3).next (j + 1) (by omega) (z := (j : Int) + 1) (by omega))
   have HT4 := Hd ((uh HT3).set (b := bp) (o := 1) (.int .i64 ((j : Int) + 1)) (fun _ => rfl))
   have hk4 : ∀ q, q ≠ bp → (w4.setCell ⟨bp, 1, none⟩ (.int .i64 ((j : Int) + 1))).heap[q]? = w4.heap[q]? := fun q hq => Below.heap_setCell _ _ _ _ hq
   have hs4 : (w4.setCell ⟨bp, 1, none⟩ (.int .i64 ((j : Int) + 1))).heap.size = w4.heap.size := by simp [World.setCell]
   have HN4 := Hd ((uh HN3).kept (hk4 w2.heap.size (by omega)))
   have HRO4 := Hd ((uh HRO3).go (by omega) (fun q h1 h2 _ => hk4 q h2))
   have HKK := Hd hK
   clear hk4 HJ3 HT3 HN3 HRO3 hK hxk
   go_wp2_with fail
   generalize (w4.setCell ⟨bp, 1, none⟩ (.int .i64 ((j : Int) + 1))) = w5 at *
   clear c0 c1 c2 c3 fz
   refine ((uh HRC) (j + 1) w5 hb1 (uh HJ4)).mono ?_
   intro r w6 h6
   cases hn : rec (b + 1) (j + 1) with
   | error j' =>
    rw [hn] at h6
    obtain ⟨rfl, ht⟩ := h6
    have HT := Hd ((uh HT4).then ht (by omega) (fun _ _ h => h))
    obtain rfl : o = .error j' := by rw [← uh HEQ]; simp only [Zb5, uh HE1, uh HE2, uh HOK, if_neg (uh HKK), hn]
    clear ht
    go_wp2_with fail
    exact ⟨rfl, rfl, uh HT⟩
   | ok p =>
    obtain ⟨y, j'⟩ := p
    rw [hn] at h6
    obtain ⟨⟨F, rfl, hro⟩, hj, ht⟩ := h6
    have HE3 := Hd hn
    have hbN := (Below.refl w6.heap.size w6).alloc Zl (Obj.cells #[.int .i64 F.k, .int .i64 F.a, .int .i64 F.n, .string F.nm, .slice F.args.ad F.args.len F.args.cap] 52)
    have HM6 := Hd (Tp.X5.new w6 F)
    have hs6 := ht.size
    have HN6 := Hd (((uh HN4).tu ht (show ¬ w2.heap.size = bp by omega)).below hbN)
    have HRF6 := Hd ((hro.wide (B' := w.heap.size) (g' := bp) (by omega) (by omega) (Or.inl (by omega))).go hbN.size (fun q _ _ hq => hbN.block q hq))
    have HRO6 := Hd (((uh HRO4).tu ht Zl (fun q hq => Or.inl (by have : q = bp := hq; omega))).go hbN.size (fun q _ _ hq => hbN.block q hq))
    have HT6 := Hd (((uh HT4).then ht (by omega) (fun _ _ h => h)).below hbN (by omega))
    have hsb : (w6.alloc (Obj.cells #[.int .i64 F.k, .int .i64 F.a, .int .i64 F.n, .string F.nm, .slice F.args.ad F.args.len F.args.cap] 52)).heap.size = w6.heap.size + 1 := by simp
    have HC := Hd (ZcA l ta c bp e ⟨#[41]⟩ (by decide) j' b hb60 _ (hj.below hbN))
    clear hj ht hro hn HT4 HJ4 HN4 HRO4 hbN
    go_wp2_with fail
    generalize (w6.alloc (Obj.cells #[.int .i64 F.k, .int .i64 F.a, .int .i64 F.n, .string F.nm, .slice F.args.ad F.args.len F.args.cap] 52)) = wc at *
    refine (uh HC).mono ?_
    intro r w7 h7
    cases hn : Zak l ⟨#[41]⟩ j' with
    | error j'' =>
     rw [hn] at h7
     obtain ⟨rfl, ht⟩ := h7
     have HT := Hd ((uh HT6).then ht (by omega) (fun _ _ h => h))
     obtain rfl : o = .error j'' := by rw [← uh HEQ]; simp only [Zb5, uh HE1, uh HE2, uh HOK, if_neg (uh HKK), uh HE3, hn]
     clear ht
     go_wp2_with fail
     exact ⟨rfl, rfl, uh HT⟩
    | ok j'' =>
     rw [hn] at h7
     obtain ⟨rfl, hj, ht⟩ := h7
     obtain rfl : o = .ok ((K, x, y), j'') := by rw [← uh HEQ]; simp only [Zb5, uh HE1, uh HE2, uh HOK, if_neg (uh HKK), uh HE3, hn]
     obtain ⟨n0, n1, n2, n3, n4, nf⟩ := (uh HN6).tu ht (show ¬ w2.heap.size = bp by omega)
     obtain ⟨m0, m1, m2, m3, m4, mf⟩ := (uh HM6).tu ht (show ¬ w6.heap.size = bp by omega)
     have HRO7 := Hd ((uh HRO6).tu ht Zl (fun q hq => Or.inl (by have : q = bp := hq; omega)))
     have HRF7 := Hd ((uh HRF6).tu ht Zl (fun q hq => Or.inl (by have : q = bp := hq; omega)))
     have HT7 := Hd ((uh HT6).then ht (by omega) (fun _ _ h => h))
     have HJ7 := Hd hj
     have hs7 := ht.size
     clear hj ht hn HN6 HM6 HRO6 HRF6 HT6 HC
     go_wp2_with fail
     have HL := Hd (show Tk.ELies ((w7.alloc (Obj.cells #[.int .i64 E.k, .int .i64 E.a, .int .i64 E.n, .string E.nm, .slice E.args.ad E.args.len E.args.cap, .int .i64 F.k, .int .i64 F.a, .int .i64 F.n, .string F.nm, .slice F.args.ad F.args.len F.args.cap] 52)).drew) w7.heap.size 0 E from ⟨by go_simp, by go_simp, by go_simp, by go_simp, by go_simp⟩)
     have HF := Hd (show Tk.ELies ((w7.alloc (Obj.cells #[.int .i64 E.k, .int .i64 E.a, .int .i64 E.n, .string E.nm, .slice E.args.ad E.args.len E.args.cap, .int .i64 F.k, .int .i64 F.a, .int .i64 F.n, .string F.nm, .slice F.args.ad F.args.len F.args.cap] 52)).drew) w7.heap.size 5 F from ⟨by go_simp, by go_simp, by go_simp, by go_simp, by go_simp⟩)
     have HB := Hd (show Below w7.heap.size w7 ((w7.alloc (Obj.cells #[.int .i64 E.k, .int .i64 E.a, .int .i64 E.n, .string E.nm, .slice E.args.ad E.args.len E.args.cap, .int .i64 F.k, .int .i64 F.a, .int .i64 F.n, .string F.nm, .slice F.args.ad F.args.len F.args.cap] 52)).drew) from (Zr.alloc Zl _).drew)
     go_region
     all_goals
      go_wp2_with fail
      refine bodyPost_ret (v := .tuple #[.int .i64 (K : Nat), .slice (some ⟨w7.heap.size, 0, none⟩) 2 2]) (by simp [results, Tryz.results189, go_sem]) rfl ?_
      have hB := uh HB
      have hL := uh HL
      have hF := uh HF
      generalize ((w7.alloc (Obj.cells #[.int .i64 E.k, .int .i64 E.a, .int .i64 E.n, .string E.nm, .slice E.args.ad E.args.len E.args.cap, .int .i64 F.k, .int .i64 F.a, .int .i64 F.n, .string F.nm, .slice F.args.ad F.args.len F.args.cap] 52)).drew) = S at *
      exact ⟨⟨⟨some ⟨w7.heap.size, 0, none⟩, 2, 2⟩, rfl, Tp.Ow.two hL hF (by omega) (by omega) ((uh HRO7).go hB.size (fun q _ _ hq => hB.block q hq)) ((uh HRF7).go hB.size (fun q _ _ hq => hB.block q hq))⟩, (uh HJ7).below hB, (uh HT7).below hB (by omega)⟩
end
end Go.Proofs.YtfccpddehpgfoaaGreatDoor
