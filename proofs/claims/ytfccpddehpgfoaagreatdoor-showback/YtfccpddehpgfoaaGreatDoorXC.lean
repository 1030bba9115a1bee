/- By the verifier. -/
import Derived.Shelf.Strings.OnBuilder
import Derived.Test.YtfccpddehpgfoaaGreatDoorXB
set_option maxRecDepth 100000
set_option maxHeartbeats 3200000
namespace Go.Proofs
open Go.Shelf
def Tryz.laysJoin_ren : Go.Shelf.Ren := ⟨fun | 156 => 161 | 165 => 193 | 166 => 70 | 169 => 39 | 240 => 120 | 241 => 208 | 276 => 160 | 277 => 216 | n => n, fun | 31 => 47 | 9 => 9 | 3 => 3 | 4 => 4 | 0 => 0 | 20 => 20 | 72 => 72 | 76 => 120 | 70 => 69 | 37 => 70 | 75 => 118 | 127 => 125 | 164 => 186 | 5 => 5 | 80 => 76 | n => n, fun | n => n⟩
theorem Tryz.laysJoin : Go.Proofs.Lays.n156 Tryz.prog Tryz.laysJoin_ren := {
 mixed := by kernel_rfl
 f156 := Tryz.func161.trans (congrArg some (by kernel_rfl))
 f165 := Tryz.func193.trans (congrArg some (by kernel_rfl))
 f166 := Tryz.func70.trans (congrArg some (by kernel_rfl))
 f169 := Tryz.func39.trans (congrArg some (by kernel_rfl))
 f240 := Tryz.func120.trans (congrArg some (by kernel_rfl))
 f241 := Tryz.func208.trans (congrArg some (by kernel_rfl))
 f276 := Tryz.func160.trans (congrArg some (by kernel_rfl))
 f277 := Tryz.func216.trans (congrArg some (by kernel_rfl))
 t0 := Tryz.underlying0
 a0 := Tryz.isAgg0
 z0 := Tryz.sizeOf0
 v0 := Tryz.zeroValue0
 t3 := Tryz.underlying3
 a3 := Tryz.isAgg3
 z3 := Tryz.sizeOf3
 v3 := Tryz.zeroValue3
 t4 := Tryz.underlying4
 a4 := Tryz.isAgg4
 z4 := Tryz.sizeOf4
 v4 := Tryz.zeroValue4
 t9 := Tryz.underlying9
 a9 := Tryz.isAgg9
 z9 := Tryz.sizeOf9
 v9 := Tryz.zeroValue9
 t20 := Tryz.underlying20
 a20 := Tryz.isAgg20
 z20 := Tryz.sizeOf20
 v20 := Tryz.zeroValue20
 t31 := Tryz.underlying47
 a31 := Tryz.isAgg47
 z31 := Tryz.sizeOf47
 v31 := Tryz.zeroValue47
 t37 := Tryz.underlying70
 a37 := Tryz.isAgg70
 z37 := Tryz.sizeOf70
 v37 := Tryz.zeroValue70
 t70 := Tryz.underlying69
 a70 := Tryz.isAgg69
 z70 := Tryz.sizeOf69
 v70 := Tryz.zeroValue69
 t72 := Tryz.underlying72
 a72 := Tryz.isAgg72
 z72 := Tryz.sizeOf72
 v72 := Tryz.zeroValue72
 t75 := Tryz.underlying118
 a75 := Tryz.isAgg118
 z75 := Tryz.sizeOf118
 v75 := Tryz.zeroValue118
 t76 := Tryz.underlying120
 a76 := Tryz.isAgg120
 z76 := Tryz.sizeOf120
 v76 := Tryz.zeroValue120
 t127 := Tryz.underlying125
 a127 := Tryz.isAgg125
 z127 := Tryz.sizeOf125
 v127 := Tryz.zeroValue125
 t164 := Tryz.underlying186
 a164 := Tryz.isAgg186
 z164 := Tryz.sizeOf186
 v164 := Tryz.zeroValue186 }
end Go.Proofs
namespace Go.Proofs.YtfccpddehpgfoaaGreatDoor
open Go.RowKit
set_option linter.unusedVariables false
theorem Ze7 : Builder.Extra Tryz.prog Tryz.laysJoin_ren := {
 sizeBuilder := by kernel_rfl
 liesBuilder := by kernel_rfl
 t5 := Tryz.underlying5
 a5 := Tryz.isAgg5
 z5 := Tryz.sizeOf5
 v5 := Tryz.zeroValue5
 infoByte := by kernel_rfl
 cellsByte := by kernel_rfl
 sizeByte := by kernel_rfl
 neB5 := by decide }
theorem ZfE : (Tryz.prog.info? 9).map (fun i => (i.zero, i.size, i.bytes)) = some (some (.string ⟨#[]⟩), 1, 16) := by kernel_rfl
def Pr.commas (ts : List ByteArray) : ByteArray := ⟨(Lib.join (ts.map (·.data.toList)) [44, 32]).toArray⟩
theorem ZeE : ∀ (ts : List ByteArray), (∀ t ∈ ts, t.size ≤ 2000) → (Lib.join (ts.map (·.data.toList)) [44, 32]).length ≤ 2002 * ts.length
 | [], _ => by simp [Lib.join]
 | [x], h => by
  have := h x (by simp)
  have e : x.data.toList.length = x.size := Array.length_toList
  rw [List.map_cons, List.map_nil, Lib.join_one, e]
  simp
  omega
 | x :: y :: r, h => by
  have h1 := ZeE (y :: r) (fun t ht => h t (List.mem_cons_of_mem _ ht))
  have := h x (by simp)
  have e : x.data.toList.length = x.size := Array.length_toList
  have hj : Lib.join ((x :: y :: r).map (·.data.toList)) [44, 32] = x.data.toList ++ ([44, 32] ++ Lib.join ((y :: r).map (·.data.toList)) [44, 32]) := by
   simp only [Lib.join, List.map_cons]
   rw [List.intercalate_cons_cons]
   simp [List.append_assoc]
  rw [hj, Za, Za, e]
  simp only [Zo, List.length_nil] at *
  omega
theorem Zge (B : Nat) (v : Value) (ts : List ByteArray) (w : World) (h : w.ownsRow B 9 1 v ts.length (ts.map Value.string)) (hlen : ts.length ≤ 1000) (hsz : ∀ t ∈ ts, t.size ≤ 2000) :
  Calls Tryz.prog 161 #[v, .string ⟨#[44, 32]⟩] w fun r w' => r = .returned (.string (Pr.commas ts)) ∧ Below w.heap.size w w' := by
 have hj := ZeE ts hsz
 rcases h.2 with ⟨hv, hz⟩ | ⟨g, cap, cur, hv, hg, hh, hnc, r⟩
 · have h0 : ts = [] := List.eq_nil_of_length_eq_zero hz
   subst h0
   subst hv
   refine (Any.strings_Join_none Tryz.laysJoin Ze7 none 0 ⟨#[44, 32]⟩ w).mono ?_
   rintro r w' ⟨rfl, rfl⟩
   exact ⟨rfl, Zr⟩
 subst hv
 have hgl : g < w.heap.size := by
  rcases Nat.lt_or_ge g w.heap.size with h' | h'
  · exact h'
  simp [Array.getElem?_eq_none h'] at hh
 refine Any.strings_Join Tryz.laysJoin Ze7 g 0 cap ts ⟨#[44, 32]⟩ w (fun j x hx => ?_) hgl (by omega) hnc (by show (Lib.join (ts.map (·.data.toList)) [44, 32]).length ≤ _; omega)
 have hjl := (List.getElem?_eq_some_iff.1 hx).1
 rw [Nat.zero_add, h.cellAt j (by omega), List.getElem?_map, hx]
 rfl
theorem ZeY {w w' : World} {b size n : Nat} {e : TypeId} {v : Value} {xs : List Value} (h : w.ownsRow b e size v n xs) (hb : Below w.heap.size w w') : w'.ownsRow b e size v n xs := by
 have hlt := h.lt
 obtain ⟨h1, h2⟩ := h
 refine ⟨h1, ?_⟩
 rcases h2 with h2 | ⟨g, cap, cur, hv, hg, hh, r⟩
 · exact .inl h2
 exact .inr ⟨g, cap, cur, hv, hg, (hb.block g (hlt g (by rw [hv]; rfl)).2).trans hh, r⟩
theorem Zd3 {w w' : World} {b size n : Nat} {e : TypeId} {v : Value} {xs : List Value} (hr : w.ownsRow b e size v n xs) (hg : w.grownBy w' v.ownBlock) (hB : b ≤ w.heap.size) : Below b w w' :=
 ⟨hg.os, hg.tape, hg.output, hg.size, fun q hq => hg.block q (by omega) (fun e => by have := (hr.lt q e.symm).1; omega)⟩
theorem ZfH (ts : List ByteArray) (i : Nat) (t : ByteArray) (h : ts[i]? = some t) : (ts.take (i + 1)).map Value.string = (ts.take i).map Value.string ++ [.string t] := by
 rw [List.take_add_one, h, List.map_append]
 rfl
theorem Zht (s : ByteArray) (w : World) : Calls Tryz.prog 122 #[.string s] w fun r w' => r = .returned (.string s) ∧ Below w.heap.size w w' := by
 go_enter Tryz.func122, Tryz.ntmps122
 go_wp2_with fail
 go_ret
 exact ⟨rfl, Zr⟩
theorem Zi9 (s : Tk.Sl) (l : List ByteArray) (w : World) (hs : Tk.RS w 1 (ZeF w) Zcv s l) (hfew : l.length ≤ 1000) (hnm : ∀ x ∈ l, x.size ≤ 64) :
  Calls Tryz.prog 121 #[.slice s.ad s.len s.cap, .func (.func 122) #[] #[]] w fun r w' => r = .returned (.string (Pr.commas (l))) ∧ Below w.heap.size w w' := by
 have hlen := hs.len
 have HS := Hd hs
 obtain ⟨ts, hts⟩ : ∃ ts, ts = l := ⟨_, rfl⟩
 rw [← hts]
 have htl : ts.length = l.length := by rw [hts] <;> simp
 have hsz : ∀ t ∈ ts, t.size ≤ 2000 := fun t ht => by rw [hts] at ht; have := hnm t ht; omega
 have HSZ := Hd hsz
 have HTL := Hd htl
 have HTS := Hd hts
 obtain ⟨i0, hi, hz0, hz1, hz2⟩ := Sp.info_of ZfE
 have HI := Hd (And.intro hi (And.intro hz0 (And.intro hz1 hz2)))
 rw [hlen]
 have HFEW := Hd hfew
 clear hs hlen hts htl hsz hi hz0 hz1 hz2 hnm hfew
 go_enter Tryz.func121, Tryz.ntmps121
 go_wp2_with fail
 go_loopw [5, 10] (fun av iv wr => ∃ i : Nat, i ≤ l.length ∧ iv = .int .i64 i ∧ wr.ownsRow w.heap.size 9 1 av i ((ts.take i).map Value.string) ∧ Below w.heap.size w wr) (fun _ iv _ => l.length - (intOf iv).toNat)
 case atStart => exact ⟨0, Nat.zero_le _, rfl, World.ownsRow_nil _ _ _ _, Zr⟩
 case round =>
  obtain ⟨i, hi, rfl, hown, hbe⟩ := hrel
  have hz := hbe.size
  obtain ⟨ad, cp, rfl⟩ := Zcw hown
  by_cases hlt : i < l.length
  · have hy := Zg hlt
    obtain ⟨b, o, q, had, hb, hlies, hrd⟩ := (uh HS).at_ i _ hy
    generalize l[i] = x at *
    have hi0 : (0 : Int) ≤ (i : Int) := by omega
    have hi1 : (i : Int) < (l.length : Int) := by omega
    have hfw : l.length ≤ 1000 := uh HFEW
    rw [had]
    obtain ⟨hrd, hrz⟩ := hrd
    subst hrd
    have a0 : wr.cell? ⟨b, o + i, none⟩ = some (.string q) := by
     have h1 : w.cell? ⟨b, o + i * 1, none⟩ = some (.string q) := hlies
     rw [Nat.mul_one] at h1
     exact (hbe.cell (p := ⟨b, o + i, none⟩) hb).trans h1
    obtain ⟨t, ht⟩ : ∃ t, t = q := ⟨_, rfl⟩
    have HT := Hd (show ts[i]? = some t by rw [uh HTS, ht]; exact hy)
    have HBX := Hd hbe
    have HO1 := Hd hown
    have HQ := Hd (show Calls Tryz.prog 122 #[.string q] wr fun r w' => r = .returned (.string t) ∧ Below wr.heap.size wr w' by rw [ht]; exact Zht q wr)
    clear ht
    have HY := Hd hy
    clear hy hlies hown hbe
    go_wp2_with fail
    refine (uh HQ).mono ?_
    rintro r w2 ⟨rfl, hb2⟩
    have hs2 := hb2.size
    have hsN : (w2.alloc (Obj.cells #[.string t] 9)).heap.size = w2.heap.size + 1 := by simp
    have hbn := (Below.refl w2.heap.size w2).alloc Zl (Obj.cells #[.string t] 9)
    have hrow := (ZeY (uh HO1) hb2).alloc (Obj.cells #[.string t] 9)
    have hb3 := ((uh HBX).trans (hb2.mono (uh HBX).size)).trans (hbn.mono (Nat.le_trans (uh HBX).size hs2))
    have HB3 := Hd hb3
    have hz3 := hb3.size
    have HROW := Hd hrow
    have HBK := Hd (heap_alloc_new w2 (Obj.cells #[.string t] 9))
    clear hb2 hbn hrow hb3
    have hil : i + 1 ≤ 1000 := by omega
    go_wp2_with (at_builtin; refine wpList_append_lies _ (by rfl) _ _ _ (by rfl) w.heap.size 9 i0 _ 1 16 Tryz.underlying47 (uh HI).1 (uh HI).2.1 (uh HI).2.2.1 (uh HI).2.2.2 rfl (by omega) (.slice ad i cp) i ((ts.take i).map Value.string) (by rfl) (uh HROW) ⟨w2.heap.size, 0, none⟩ 1 1 [.string t] (by rfl) (by rfl) (World.news_of_block (uh HBK)) (by simp [Value.oneCell']) (by omega) (by unfold maxLen; omega) (by omega) (by omega) (w2.heap.size + 1) (by omega) ?_; intro gA cA w4 hoA hgA hatA hltA; have HOA := Hd hoA; have HGA := Hd hgA; clear hoA hgA hatA hltA)
    refine ⟨⟨i + 1, by omega, by go_num, ?_, (uh HB3).trans (Zd3 (uh HROW) (uh HGA) (by omega))⟩, by simp [intOf]; omega⟩
    rw [ZfH ts i t (uh HT)]
    exact uh HOA
  have e : i = l.length := by omega
  subst e
  have htk : ts.take l.length = ts := by rw [← uh HTL]; exact List.take_length
  rw [htk] at hown
  have hJ := Zge w.heap.size (.slice ad l.length cp) ts wr (by rw [uh HTL]; exact hown) (by rw [uh HTL]; exact uh HFEW) (uh HSZ)
  have HJ := Hd hJ
  have HBE := Hd hbe
  clear hJ hbe hown htk
  go_wp2_with fail
  refine (uh HJ).mono ?_
  rintro r w2 ⟨rfl, hb2⟩
  have HB3 := Hd ((uh HBE).trans (hb2.mono hz))
  clear hb2
  go_wp2_with fail
  go_ret
  exact ⟨rfl, uh HB3⟩
theorem ZiO {B : Nat} {w0 : World} {num : Int → ByteArray} {NK : Int → Prop} (I : Pr.It B w0 num NK) {n : Nat} (s : Tk.Sl) (l : List (Zat n)) (w : World) (hs : Tk.RS w 5 (Tk.ELies w) (Tk.RE w n) s l) (hfew : l.length ≤ 1000) (hok : ∀ x ∈ l, Pr.ok NK n x ∧ Zab n x ≤ 15) (hW : Below B w0 w) :
  Calls Tryz.prog 197 #[.slice s.ad s.len s.cap, .func (.func 128) #[] #[]] w fun r w' => r = .returned (.string (Pr.commas (l.map (Pr.text num n)))) ∧ Below w.heap.size w w' := by
 have hlen := hs.len
 have HS := Hd hs
 obtain ⟨ts, hts⟩ : ∃ ts, ts = l.map (Pr.text num n) := ⟨_, rfl⟩
 rw [← hts]
 have htl : ts.length = l.length := by rw [hts] <;> simp
 have hsz : ∀ t ∈ ts, t.size ≤ 2000 := fun t ht => by
  rw [hts] at ht
  obtain ⟨x, hx, rfl⟩ := List.mem_map.1 ht
  have := Zb2 I.sz n x (hok x hx).1
  have := (hok x hx).2
  omega
 have HSZ := Hd hsz
 have HTL := Hd htl
 have HTS := Hd hts
 obtain ⟨i0, hi, hz0, hz1, hz2⟩ := Sp.info_of ZfE
 have HI := Hd (And.intro hi (And.intro hz0 (And.intro hz1 hz2)))
 rw [hlen]
 have HFEW := Hd hfew
 clear hs hlen hts htl hsz hi hz0 hz1 hz2 hfew
 go_enter Tryz.func197, Tryz.ntmps197
 go_wp2_with fail
 go_loopw [5, 10] (fun av iv wr => ∃ i : Nat, i ≤ l.length ∧ iv = .int .i64 i ∧ wr.ownsRow w.heap.size 9 1 av i ((ts.take i).map Value.string) ∧ Below w.heap.size w wr) (fun _ iv _ => l.length - (intOf iv).toNat)
 case atStart => exact ⟨0, Nat.zero_le _, rfl, World.ownsRow_nil _ _ _ _, Zr⟩
 case round =>
  obtain ⟨i, hi, rfl, hown, hbe⟩ := hrel
  have hz := hbe.size
  obtain ⟨ad, cp, rfl⟩ := Zcw hown
  by_cases hlt : i < l.length
  · have hy := Zg hlt
    obtain ⟨b, o, q, had, hb, hlies, hrd⟩ := (uh HS).at_ i _ hy
    generalize l[i] = x at *
    have hi0 : (0 : Int) ≤ (i : Int) := by omega
    have hi1 : (i : Int) < (l.length : Int) := by omega
    have hfw : l.length ≤ 1000 := uh HFEW
    rw [had]
    obtain ⟨a0, a1, a2, a3, a4⟩ := hlies.later hbe Zl hb
    have hxo := hok x (List.mem_of_getElem? hy)
    obtain ⟨t, ht⟩ : ∃ t, t = Pr.text num n x := ⟨_, rfl⟩
    have HT := Hd (show ts[i]? = some t by rw [uh HTS, ht, List.getElem?_map, hy]; rfl)
    have hbN := (Below.refl wr.heap.size wr).alloc Zl (Obj.cells #[.int .i64 q.k, .int .i64 q.a, .int .i64 q.n, .string q.nm, .slice q.args.ad q.args.len q.args.cap] 52)
    have HBX := Hd (hbe.trans (hbN.mono hz))
    have HO1 := Hd (hown.alloc (Obj.cells #[.int .i64 q.k, .int .i64 q.a, .int .i64 q.n, .string q.nm, .slice q.args.ad q.args.len q.args.cap] 52))
    have HQ := Hd (show Calls Tryz.prog 128 #[q.val] (wr.alloc (Obj.cells #[.int .i64 q.k, .int .i64 q.a, .int .i64 q.n, .string q.nm, .slice q.args.ad q.args.len q.args.cap] 52)) fun r w' => r = .returned (.string t) ∧ Below (wr.alloc (Obj.cells #[.int .i64 q.k, .int .i64 q.a, .int .i64 q.n, .string q.nm, .slice q.args.ad q.args.len q.args.cap] 52)).heap.size (wr.alloc (Obj.cells #[.int .i64 q.k, .int .i64 q.a, .int .i64 q.n, .string q.nm, .slice q.args.ad q.args.len q.args.cap] 52)) w' by
     rw [ht]
     exact Zby I n q x _ ((hrd.later hbe Zl).later hbN Zl) hxo.1 hxo.2 (hW.trans ((uh HBX).mono (Nat.le_trans I.le hW.size))))
    unfold Tk.E.val at HQ
    clear ht hxo hbN hrd
    have HY := Hd hy
    clear hy hlies hown hbe
    go_wp2_with fail
    refine (uh HQ).mono ?_
    rintro r w2 ⟨rfl, hb2⟩
    have hs2 := hb2.size
    have hsN : (w2.alloc (Obj.cells #[.string t] 9)).heap.size = w2.heap.size + 1 := by simp
    have hbn := (Below.refl w2.heap.size w2).alloc Zl (Obj.cells #[.string t] 9)
    have hrow := (ZeY (uh HO1) hb2).alloc (Obj.cells #[.string t] 9)
    have hb3 := ((uh HBX).trans (hb2.mono (uh HBX).size)).trans (hbn.mono (Nat.le_trans (uh HBX).size hs2))
    have HB3 := Hd hb3
    have hz3 := hb3.size
    have HROW := Hd hrow
    have HBK := Hd (heap_alloc_new w2 (Obj.cells #[.string t] 9))
    clear hb2 hbn hrow hb3
    have hil : i + 1 ≤ 1000 := by omega
    go_wp2_with (at_builtin; refine wpList_append_lies _ (by rfl) _ _ _ (by rfl) w.heap.size 9 i0 _ 1 16 Tryz.underlying47 (uh HI).1 (uh HI).2.1 (uh HI).2.2.1 (uh HI).2.2.2 rfl (by omega) (.slice ad i cp) i ((ts.take i).map Value.string) (by rfl) (uh HROW) ⟨w2.heap.size, 0, none⟩ 1 1 [.string t] (by rfl) (by rfl) (World.news_of_block (uh HBK)) (by simp [Value.oneCell']) (by omega) (by unfold maxLen; omega) (by omega) (by omega) (w2.heap.size + 1) (by omega) ?_; intro gA cA w4 hoA hgA hatA hltA; have HOA := Hd hoA; have HGA := Hd hgA; clear hoA hgA hatA hltA)
    refine ⟨⟨i + 1, by omega, by go_num, ?_, (uh HB3).trans (Zd3 (uh HROW) (uh HGA) (by omega))⟩, by simp [intOf]; omega⟩
    rw [ZfH ts i t (uh HT)]
    exact uh HOA
  have e : i = l.length := by omega
  subst e
  have htk : ts.take l.length = ts := by rw [← uh HTL]; exact List.take_length
  rw [htk] at hown
  have hJ := Zge w.heap.size (.slice ad l.length cp) ts wr (by rw [uh HTL]; exact hown) (by rw [uh HTL]; exact uh HFEW) (uh HSZ)
  have HJ := Hd hJ
  have HBE := Hd hbe
  clear hJ hbe hown htk
  go_wp2_with fail
  refine (uh HJ).mono ?_
  rintro r w2 ⟨rfl, hb2⟩
  have HB3 := Hd ((uh HBE).trans (hb2.mono hz))
  clear hb2
  go_wp2_with fail
  go_ret
  exact ⟨rfl, uh HB3⟩
structure Sp.Out (B b : Nat) (l : List UInt8) (k : Nat) (W w' : World) : Prop where
 pr : ∃ v', Sp.P B w' b v' (Lib.byteCells l) (k : Int)
 go : Sp.Go B b W w'
theorem ZaY (B b : Nat) (v : Value) (l : List UInt8) (k : Nat) (W : World) (ps : List ByteArray) (g n : Nat) (cs : Array Value) (hg : g = W.heap.size) (hn : n = ps.length) (hcs : cs = (ps.map Value.string).toArray) (h : Sp.P B W b v (Lib.byteCells l) (k : Int)) (hk : k ≤ 1000000) (hps : ps.length ≤ 1000000) (hlen : l.length + (ZaW k ps).length ≤ 140737488355328) (hB : B ≤ W.heap.size) :
  Calls Tryz.prog 123 #[.pointer (some ⟨b, 0, none⟩), .slice (some ⟨g, 0, none⟩) n n] (W.alloc (Obj.cells cs 9)) fun r w' => r = .returned (.tuple #[]) ∧ Sp.Out B b (l ++ ZaW k ps) k W w' := by
 subst hg
 subst hn
 subst hcs
 have hb := (Below.refl W.heap.size W).alloc Zl (Obj.cells (ps.map Value.string).toArray 9)
 refine (Zkc B b v l k _ W.heap.size ps (0, 0) (h.below hb) (heap_alloc_new W _) (by have := h.lt; omega) hk hps hlen (by simp; omega)).mono ?_
 rintro r w' ⟨rfl, h1, h2⟩
 exact ⟨rfl, h1, (Sp.Go.of_below hb hB).trans h2⟩
def Pr.var (num : Int → ByteArray) (x : ByteArray × Int) : List ByteArray := if x.2 = 0 then [⟨#[118, 97, 114, 32]⟩, x.1, ⟨#[59]⟩] else [⟨#[97, 114, 114, 32]⟩, x.1, ⟨#[32]⟩, num x.2, ⟨#[59]⟩]
def Pr.vars (num : Int → ByteArray) (k : Nat) (l : List (ByteArray × Int)) : List UInt8 := l.flatMap (fun x => ZaW k (Pr.var num x))
theorem Pr.flat_take {α : Type} (f : α → List UInt8) (l : List α) (i : Nat) (x : α) (h : l[i]? = some x) : (l.take (i + 1)).flatMap f = (l.take i).flatMap f ++ f x := by
 rw [List.take_add_one, h]
 simp [List.flatMap_append]
theorem Pr.flat_le {α : Type} (f : α → List UInt8) (l : List α) (i : Nat) : ((l.take i).flatMap f).length ≤ (l.flatMap f).length := by
 conv => rhs; rw [← List.take_append_drop i l]
 simp only [List.flatMap_append, Za]
 omega
abbrev Sp.Bx2 (p : Nat) (c0 c1 : Value) (T : TypeId) (V : World) : Prop := V.cell? ⟨p, 0, none⟩ = some c0 ∧ V.cell? ⟨p, 1, none⟩ = some c1 ∧ V.heap[p]? = some (.cells #[c0, c1] T (0, 0))
theorem Sp.Bx2.of {p : Nat} {c0 c1 : Value} {T : TypeId} {V : World} (h : V.heap[p]? = some (.cells #[c0, c1] T (0, 0))) : Sp.Bx2 p c0 c1 T V := ⟨by simp [World.cell?, h], by simp [World.cell?, h], h⟩
theorem Sp.Bx2.below {p : Nat} {c0 c1 : Value} {T : TypeId} {V V' : World} (h : Sp.Bx2 p c0 c1 T V) (hb : Below V.heap.size V V') : Sp.Bx2 p c0 c1 T V' :=
 Sp.Bx2.of ((hb.block p (World.block_lt_of_cell? V _ h.1)).trans h.2.2)
theorem Sp.Bx2.go {p B b : Nat} {c0 c1 : Value} {T : TypeId} {V V' : World} (h : Sp.Bx2 p c0 c1 T V) (hg : Sp.Go B b V V') (hp : p ≠ b) (hT : T ≠ 5) : Sp.Bx2 p c0 c1 T V' := Sp.Bx2.of (hg.box hp h.2.2 hT)
section
variable {w0 : World} {num : Int → ByteArray} {NK : Int → Prop}
theorem ZeM (I : Pr.It w0.heap.size w0 num NK) (s : Tk.Sl) (l : List (ByteArray × Int)) (hs : Tk.RS w0 2 (Zew w0) Zfe s l) (hok : ∀ x ∈ l, x.1.size ≤ 64 ∧ (x.2 = 0 ∨ NK x.2)) (hfew : l.length ≤ 1000)
  (b : Nat) (v : Value) (bs : List UInt8) (k : Nat) (w : World) (h : Sp.P w0.heap.size w b v (Lib.byteCells bs) (k : Int)) (hk : k ≤ 1000) (hlen : bs.length + (Pr.vars num k l).length ≤ 140737488355328) (hW : Below w0.heap.size w0 w) :
  Calls Tryz.prog 126 #[.pointer (some ⟨b, 0, none⟩), .slice s.ad s.len s.cap] w fun r w' => r = .returned (.tuple #[]) ∧ Sp.Out w0.heap.size b (bs ++ Pr.vars num k l) k w w' := by
 have hsl := hs.len
 have HS := Hd hs
 have HP := Hd h
 have HLN := Hd hlen
 have hBw : w0.heap.size ≤ w.heap.size := hW.size
 rw [hsl]
 clear hs h hlen hsl
 go_enter Tryz.func126, Tryz.ntmps126
 go_wp2_with fail
 go_loopw [8] (fun iv wr => ∃ i : Nat, i ≤ l.length ∧ iv = .int .i64 i ∧ Sp.Out w0.heap.size b (bs ++ (l.take i).flatMap (fun x => ZaW k (Pr.var num x))) k w wr) (fun iv _ => l.length - (intOf iv).toNat)
 case atStart => exact ⟨0, Nat.zero_le _, rfl, ⟨v, by simpa using uh HP⟩, Sp.Go.refl _ _ _⟩
 case round =>
  obtain ⟨i, hi, rfl, ⟨v3, hp3⟩, hgo3⟩ := hrel
  have hz := hgo3.below.size
  by_cases hlt : i < l.length
  · have hy := Zg hlt
    obtain ⟨b0, o, q, had, hb, hlies, hrd⟩ := (uh HS).at_ i _ hy
    generalize l[i] = x at *
    obtain ⟨hrd, hrz⟩ := hrd
    subst hrd
    have hok1 := hok q (List.mem_of_getElem? hy)
    have hbe := hW.trans hgo3.below
    have a0 : wr.cell? ⟨b0, o + i * 2, none⟩ = some (.string q.1) := (hbe.cell (p := ⟨b0, o + i * 2, none⟩) hb).trans hlies.1
    have a1 : wr.cell? ⟨b0, o + i * 2 + 1, none⟩ = some (.int .i64 q.2) := (hbe.cell (p := ⟨b0, o + i * 2 + 1, none⟩) hb).trans hlies.2
    have hi0 : (0 : Int) ≤ (i : Int) := by omega
    have hi1 : (i : Int) < (l.length : Int) := by omega
    have hbN := (Below.refl wr.heap.size wr).alloc Zl (Obj.cells #[.string q.1, .int .i64 q.2] 59)
    have hsN : (wr.alloc (Obj.cells #[.string q.1, .int .i64 q.2] 59)).heap.size = wr.heap.size + 1 := by simp
    have hP4 := hp3.below hbN
    have hft := Pr.flat_take (fun x => ZaW k (Pr.var num x)) l i q hy
    have hle := Pr.flat_le (fun x => ZaW k (Pr.var num x)) l (i + 1)
    rw [hft, Za] at hle
    have HFT := Hd hft
    have hlt1 := uh HLN
    unfold Pr.vars at hlt1
    have hbl := hp3.lt
    have HG3 := Hd (hgo3.trans (Sp.Go.of_below (b := b) hbN (by omega)))
    have hpl : (Pr.var num q).length ≤ 5 := by unfold Pr.var; split <;> simp
    rw [had]
    by_cases hq : q.2 = 0
    · have hv : Pr.var num q = [⟨#[118, 97, 114, 32]⟩, q.1, ⟨#[59]⟩] := by unfold Pr.var; rw [if_pos hq]
      have g : (q.2 == 0) = true := by rw [hq]; rfl
      have hL := ZaY w0.heap.size b v3 _ k _ (Pr.var num q) (wr.heap.size + 1) 3 #[.string ⟨#[118, 97, 114, 32]⟩, .string q.1, .string ⟨#[59]⟩] hsN.symm (by rw [hv]; rfl) (by rw [hv]; rfl) hP4 (by omega) (by omega) (by rw [Za]; omega) (by rw [hsN]; omega)
      have HL := Hd hL
      have HV := Hd hv
      clear hL hp3 hgo3 hP4 hft hle hok1 hbe hbN hv hlt1 hlies hq
      go_wp2_with fail
      refine (uh HL).mono ?_
      rintro r w4 ⟨rfl, ho4⟩
      have HO4 := Hd ho4
      clear ho4
      go_wp2_with fail
      refine ⟨⟨i + 1, by omega, by go_num, ?_, (uh HG3).trans (uh HO4).go⟩, by simp [intOf]; omega⟩
      have h4 := (uh HO4).pr
      rw [uh HFT, ← List.append_assoc]
      exact h4
    have hv : Pr.var num q = [⟨#[97, 114, 114, 32]⟩, q.1, ⟨#[32]⟩, num q.2, ⟨#[59]⟩] := by unfold Pr.var; rw [if_neg hq]
    have g : (q.2 == 0) = false := by rw [beq_eq_false_iff_ne]; exact hq
    have HIT := Hd (fun (W : World) (hb : Below w0.heap.size w0 W) => I.it q.2 W (hok1.2.resolve_left hq) hb)
    have hBX : Sp.Bx2 wr.heap.size (.string q.1) (.int .i64 q.2) 59 (wr.alloc (Obj.cells #[.string q.1, .int .i64 q.2] 59)) := Sp.Bx2.of (heap_alloc_new wr _)
    have HW1 := Hd (hbe.trans (hbN.mono (by omega)))
    have HLEN := Hd (show (bs ++ List.flatMap (fun x => ZaW k (Pr.var num x)) (List.take i l)).length + (ZaW k (Pr.var num q)).length ≤ 140737488355328 by rw [Za]; omega)
    have HC5 := Hd (show (5 : Nat) = (Pr.var num q).length ∧ (#[.string ⟨#[97, 114, 114, 32]⟩, .string q.1, .string ⟨#[32]⟩, .string (num q.2), .string ⟨#[59]⟩] : Array Value) = ((Pr.var num q).map Value.string).toArray by rw [hv]; exact ⟨rfl, rfl⟩)
    have hne : wr.heap.size ≠ b := by omega
    have HP4 := Hd hP4
    clear hp3 hgo3 hP4 hft hle hok1 hbe hbN hv hlt1 hlies hq
    go_wp2_with fail
    generalize (wr.alloc (Obj.cells #[.string q.1, .int .i64 q.2] 59)) = W1 at *
    go_region_held3 (fun V => V.cell? ⟨wr.heap.size, 0, none⟩ = some (.string q.1) ∧ V.cell? ⟨wr.heap.size, 1, none⟩ = some (.int .i64 q.2) ∧ V.heap[wr.heap.size]? = some (.cells #[.string q.1, .int .i64 q.2] 59 (0, 0)))
     (first
      | exact Sp.Bx2.below hBX Zr.drew
      | exact Sp.Bx2.go (uh HX4) (Sp.Out.go (uh HO5)) hne (by decide)
      | exact Sp.Bx2.below (by assumption) (Zr.alloc Zl _)
      | exact Sp.Bx2.below (by assumption) (uh HB4))
     (first
      | (go_at_call 163; refine ((uh HIT) _ ((uh HW1).trans (Zr.drew))).mono ?_; rintro r w4 ⟨rfl, hb4⟩; have hz4 := hb4.size; have HB4 := Hd hb4; have HX4 := Hd (Sp.Bx2.below (Sp.Bx2.below hBX Zr.drew) hb4); have HBW4 := Hd ((Below.refl W1.heap.size W1).drew.trans hb4); have HP5 := Hd ((uh HP4).below (Zr.drew.trans hb4)); clear hb4)
      | (go_at_call 123; refine (ZaY w0.heap.size b v3 _ k _ (Pr.var num q) _ 5 _ rfl (uh HC5).1 (uh HC5).2 (uh HP5) (by omega) ?_ (uh HLEN) ?_).mono ?_; rw [← (uh HC5).1]; omega; (have : W1.drew.heap.size = W1.heap.size := rfl); omega; rintro r w5 ⟨rfl, ho5⟩; have HO5 := Hd ho5; clear ho5))
    all_goals
     go_wp2_with fail
     refine ⟨⟨i + 1, by omega, by go_num, ?_, ((uh HG3).then (uh HBW4) hBw).trans (uh HO5).go⟩, by simp [intOf]; omega⟩
     have h4 := (uh HO5).pr
     rw [uh HFT, ← List.append_assoc]
     exact h4
  have e : i = l.length := by omega
  subst e
  have HP3 := Hd hp3
  have HG3 := Hd hgo3
  clear hp3 hgo3
  go_wp2_with fail
  go_end0
  exact ⟨rfl, ⟨v3, by have := uh HP3; rwa [List.take_length] at this⟩, uh HG3⟩
end
end Go.Proofs.YtfccpddehpgfoaaGreatDoor
