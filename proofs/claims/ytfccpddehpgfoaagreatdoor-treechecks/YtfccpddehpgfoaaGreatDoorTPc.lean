/-
  Contracts of tree's parser: cmds, block. By the verifier.
-/
import Derived.Test.YtfccpddehpgfoaaGreatDoorTPx
import Derived.Deep.LoopGhost
set_option maxRecDepth 100000
set_option maxHeartbeats 3200000
namespace Go.Proofs.YtfccpddehpgfoaaGreatDoor
open Go.RowKit
set_option linter.unusedVariables false
theorem Tryz.infoTC : (Tryz.prog.info? 56).map (fun i => (i.zero, i.size, i.bytes)) = some (some (.agg #[.int .i64 0, .int .i64 0, .string ⟨#[]⟩, .string ⟨#[]⟩, .int .i64 0, .int .i64 0, .int .i64 0, .string ⟨#[]⟩, .slice none 0 0, .int .i64 0, .int .i64 0, .int .i64 0, .string ⟨#[]⟩, .slice none 0 0, .slice none 0 0, .slice none 0 0, .slice none 0 0]), 17, 248) := by kernel_rfl
theorem Tp.info_of {P : Program} {t : TypeId} {z : Option Value} {s b : Nat} (h : (P.info? t).map (fun i => (i.zero, i.size, i.bytes)) = some (z, s, b)) : ∃ i, P.info? t = some i ∧ i.zero = z ∧ i.size = s ∧ i.bytes = b := by
 cases hi : P.info? t with
 | none => rw [hi] at h; cases h
 | some i => rw [hi] at h; simp at h; exact ⟨i, rfl, h.1, h.2.1, h.2.2⟩
theorem Tk.C.cells_len (E : Tk.C) : E.cells.toList.length = 17 := rfl
def Tp.gC (B bp n : Nat) (x : Tk.CT 61 n) (r : Ending) (W : World) : Prop := ∃ E : Tk.C, r = .returned (.agg #[.int .i64 E.k, .int .i64 E.a, .string E.nm, .string E.ot, .int .i64 E.ix.k, .int .i64 E.ix.a, .int .i64 E.ix.n, .string E.ix.nm, .slice E.ix.args.ad E.ix.args.len E.ix.args.cap, .int .i64 E.ex.k, .int .i64 E.ex.a, .int .i64 E.ex.n, .string E.ex.nm, .slice E.ex.args.ad E.ex.args.len E.ex.args.cap, .slice E.args.ad E.args.len E.args.cap, .slice E.th.ad E.th.len E.th.cap, .slice E.el.ad E.el.len E.el.cap]) ∧ Tp.Ow B bp W (fun W => Tk.RC W 61 n E x)
def Tp.gL (B bp n : Nat) (x : List (Tk.CT 61 n)) (r : Ending) (W : World) : Prop := ∃ s : Tk.Sl, r = .returned (.slice s.ad s.len s.cap) ∧ Tp.Ow B bp W (fun W => Tk.RS W 17 (Tk.LC W) (Tk.RC W 61 n) s x)
structure Tp.Cs (l : List Tp.T) (ta : Option Addr) (c bp : Nat) (e : Int) (w : World) {n : Nat} (rec : Nat → Except Nat (Tk.CT 61 n × Nat)) (i0 : Nat) (o : Except Nat (List (Tk.CT 61 n) × Nat)) (f : Nat) (v : Value) (es : List Tk.C) (acc : List (Tk.CT 61 n)) (i : Nat) (wr : World) : Prop where
 is : Tp.cmds l rec f i acc = o
 fuel : l.length < f + i
 many : es.length + f = l.length + 1
 ge : i0 ≤ i
 at_ : Tp.J l ta c bp e wr i 0
 tu : Tp.Tu (Tp.D1 bp) w.heap.size w wr
 row : Tp.Rw w.heap.size bp wr 56 17 (fun E : Tk.C => E.cells.toList) (fun W => Tk.RC W 61 n) v es acc
section
variable (l : List Tp.T) (ta : Option Addr) (c bp : Nat) (e : Int)
theorem tcmds_any {n : Nat} (rec : Nat → Except Nat (Tk.CT 61 n × Nat)) (i0 : Nat) (HGo : ∀ i x j, rec i = .ok (x, j) → i < j)
  (HR : ∀ (i : Nat) (W : World), i0 ≤ i → i < l.length → Tp.J l ta c bp e W i 0 → Calls Tryz.prog 188 #[.pointer (some ⟨bp, 0, none⟩)] W (Tp.Out l ta c bp e (Tp.D1 bp) W 0 (Tp.gC W.heap.size bp n) (rec i)))
  (w : World) (h : Tp.J l ta c bp e w i0 0) :
  Calls Tryz.prog 155 #[.pointer (some ⟨bp, 0, none⟩)] w (Tp.Out l ta c bp e (Tp.D1 bp) w 0 (Tp.gL w.heap.size bp n) (Tp.cmds l rec (l.length + 1) i0 [])) := by
 obtain ⟨o, ho⟩ : ∃ o, Tp.cmds l rec (l.length + 1) i0 [] = o := ⟨_, rfl⟩
 rw [ho]
 have hlt := h.lt
 have HRC := hide HR
 have HG := hide HGo
 have HC0 := hide (show Tp.Cs l ta c bp e w rec i0 o (l.length + 1) (.slice none 0 0) [] [] i0 w from ⟨ho, by omega, by simp, Nat.le_refl _, h, Tp.Tu.refl _ _ _, Tp.Rw.nil _ _ _ _ _ _ _⟩)
 obtain ⟨t0, hi0, hz0, hz1', hz2⟩ := Tp.info_of Tryz.infoTC
 have HI := hide hi0
 have HZ0 := hide hz0
 have HZ1 := hide hz1'
 have HZ2 := hide hz2
 clear h ho HR HGo hi0 hz0 hz1' hz2
 go_enter Tryz.func155, Tryz.ntmps155
 go_wp2_with fail
 go_loopg [3] (l.length + 1) (fun f lv wr => ∃ es acc i, Tp.Cs l ta c bp e w rec i0 o f lv es acc i wr)
 case atStart => exact ⟨[], [], i0, unhide HC0⟩
 case round =>
  clear HC0
  obtain ⟨es, acc, i, hcs⟩ := hrel
  have hf := hcs.fuel
  have hle := hcs.at_.le
  obtain ⟨f, rfl⟩ : ∃ f, gk = f + 1 := ⟨gk - 1, by omega⟩
  have HCS := hide hcs
  obtain ⟨ga, cap, rfl, hcap⟩ := hcs.row.form
  have HJ := hide hcs.at_
  have HB := hide (Below.refl wr.heap.size wr)
  have hll := hcs.at_.fine.few
  clear hcs
  obtain ⟨y1, hy1⟩ : ∃ y, Tp.isN l i = y := ⟨_, rfl⟩
  obtain ⟨y2, hy2⟩ : ∃ y, Tp.see l i ⟨#[112, 114, 105, 110, 116]⟩ = y := ⟨_, rfl⟩
  obtain ⟨y3, hy3⟩ : ∃ y, Tp.see l i ⟨#[105, 102]⟩ = y := ⟨_, rfl⟩
  obtain ⟨y4, hy4⟩ : ∃ y, Tp.see l i ⟨#[119, 104, 105, 108, 101]⟩ = y := ⟨_, rfl⟩
  have HYC := hide (show Tp.isC l i = (y1 || y2 || y3 || y4) by unfold Tp.isC; rw [hy1, hy2, hy3, hy4])
  have HLT := hide (fun (h : (y1 || y2 || y3 || y4) = true) => show i < l.length by
   subst hy1; subst hy2; subst hy3; subst hy4
   simp only [Bool.or_eq_true] at h
   rcases h with ((h | h) | h) | h
   · exact Tp.isN_lt h
   · exact Tp.see_lt (by decide) h
   · exact Tp.see_lt (by decide) h
   · exact Tp.see_lt (by decide) h)
  have HS1 := hide (fun (W : World) (hb : Below wr.heap.size wr W) => tseesN_any l ta c bp e i 0 W ((unhide HJ).below hb) y1 hy1)
  have HS2 := hide (fun (W : World) (hb : Below wr.heap.size wr W) => tsees_any l ta c bp e ⟨#[112, 114, 105, 110, 116]⟩ i 0 W ((unhide HJ).below hb) y2 hy2)
  have HS3 := hide (fun (W : World) (hb : Below wr.heap.size wr W) => tsees_any l ta c bp e ⟨#[105, 102]⟩ i 0 W ((unhide HJ).below hb) y3 hy3)
  have HS4 := hide (fun (W : World) (hb : Below wr.heap.size wr W) => tsees_any l ta c bp e ⟨#[119, 104, 105, 108, 101]⟩ i 0 W ((unhide HJ).below hb) y4 hy4)
  clear hy1 hy2 hy3 hy4
  go_wp2_with fail
  refine ((unhide HS1) wr (unhide HB)).mono ?_
  rintro r w1 ⟨rfl, hb1⟩
  replace HB := hide hb1
  clear hb1
  cases y1
  · go_wp2_with fail
    refine ((unhide HS2) w1 (unhide HB)).mono ?_
    rintro r w2 ⟨rfl, hb2⟩
    replace HB := hide ((unhide HB).trans (hb2.mono (unhide HB).size))
    clear hb2
    cases y2
    · go_wp2_with fail
      refine ((unhide HS3) w2 (unhide HB)).mono ?_
      rintro r w3 ⟨rfl, hb3⟩
      replace HB := hide ((unhide HB).trans (hb3.mono (unhide HB).size))
      clear hb3
      cases y3
      · go_wp2_with fail
        refine ((unhide HS4) w3 (unhide HB)).mono ?_
        rintro r w4 ⟨rfl, hb4⟩
        replace HB := hide ((unhide HB).trans (hb4.mono (unhide HB).size))
        clear hb4
        cases y4
        · have hcs := unhide HCS
          obtain rfl : o = .ok (acc, i) := by rw [← hcs.is]; simp only [Tp.cmds, unhide HYC]; rfl
          have HRK := hide (hcs.row.kept (unhide HB).size (by omega) (fun q _ hq => (unhide HB).block q hq))
          have hk := hcs.many
          have HT5 := hide (hcs.tu.below (unhide HB) hcs.tu.size)
          clear hcs
          go_wp2_with fail
          go_ret
          have hR := unhide HRK
          obtain ⟨s, hs, hos⟩ := hR.reads (lies := fun W => Tk.LC W) (by omega) Tk.C.cells_len Tk.C.lies_cl (by have := hR.len; omega)
          exact ⟨⟨s, by rw [hs]; rfl, hos⟩, (unhide HJ).below (unhide HB), unhide HT5⟩
        · have hy := (unhide HLT) rfl
          have hcs := unhide HCS
          have HRK := hide (hcs.row.kept (unhide HB).size (by omega) (fun q _ hq => (unhide HB).block q hq))
          have HT5 := hide (hcs.tu.below (unhide HB) hcs.tu.size)
          have HQ := hide ((unhide HRC) i w4 hcs.ge hy ((unhide HJ).below (unhide HB)))
          have hwz := hcs.tu.size
          have hwb := (unhide HB).size
          clear hcs
          go_wp2_with fail
          refine (unhide HQ).mono ?_
          intro r w6 h6
          cases hn : rec i with
          | error j =>
           rw [hn] at h6
           obtain ⟨rfl, ht⟩ := h6
           have HT := hide ((unhide HT5).then ht (by omega) (fun _ _ h => h))
           obtain rfl : o = .error j := by rw [← (unhide HCS).is]; simp only [Tp.cmds, unhide HYC, hn]; rfl
           clear ht
           go_wp2_with fail
           exact ⟨rfl, rfl, unhide HT⟩
          | ok p =>
           obtain ⟨x, j⟩ := p
           rw [hn] at h6
           obtain ⟨⟨E, rfl, hro⟩, hj, ht⟩ := h6
           have hgo := (unhide HG) i x j hn
           have HO6 := hide (show Tp.cmds l rec f j (acc ++ [x]) = o by rw [← (unhide HCS).is]; simp only [Tp.cmds, unhide HYC, hn]; rfl)
           have hs6 := ht.size
           have HT6 := hide ((unhide HT5).then ht (by omega) (fun _ _ h => h))
           have hR6 := (unhide HRK).kept hs6 (by omega) (fun q h1 h2 => ht.block q h2 (by show ¬ q = bp; omega))
           have hbN := (Below.refl w6.heap.size w6).alloc (Nat.le_refl _) (Obj.cells #[.int .i64 E.k, .int .i64 E.a, .string E.nm, .string E.ot, .int .i64 E.ix.k, .int .i64 E.ix.a, .int .i64 E.ix.n, .string E.ix.nm, .slice E.ix.args.ad E.ix.args.len E.ix.args.cap, .int .i64 E.ex.k, .int .i64 E.ex.a, .int .i64 E.ex.n, .string E.ex.nm, .slice E.ex.args.ad E.ex.args.len E.ex.args.cap, .slice E.args.ad E.args.len E.args.cap, .slice E.th.ad E.th.len E.th.cap, .slice E.el.ad E.el.len E.el.cap] 56)
           have hnot : ∀ q, (Value.slice ga es.length cap).ownBlock = some q → q < w4.heap.size := fun q hq => ((unhide HRK).row.lt q hq).2
           have HRN := hide (hR6.kept hbN.size (by omega) (fun q _ h2 => hbN.block q h2))
           have HBK := hide (heap_alloc_new w6 (Obj.cells #[.int .i64 E.k, .int .i64 E.a, .string E.nm, .string E.ot, .int .i64 E.ix.k, .int .i64 E.ix.a, .int .i64 E.ix.n, .string E.ix.nm, .slice E.ix.args.ad E.ix.args.len E.ix.args.cap, .int .i64 E.ex.k, .int .i64 E.ex.a, .int .i64 E.ex.n, .string E.ex.nm, .slice E.ex.args.ad E.ex.args.len E.ex.args.cap, .slice E.args.ad E.args.len E.args.cap, .slice E.th.ad E.th.len E.th.cap, .slice E.el.ad E.el.len E.el.cap] 56))
           have hek := (unhide HCS).many
           have hel : es.length ≤ 10001 := by omega
           have hei := (unhide HCS).ge
           have HEO := hide ((hro.wide (B' := w.heap.size) (g' := Tp.blk bp (.slice ga es.length cap)) (by omega) (by omega) (by
            unfold Tp.blk
            cases hq : (Value.slice ga es.length cap).ownBlock with
            | none => left; show bp < _; omega
            | some q => left; exact hnot q hq)).go hbN.size (fun q _ _ hq => hbN.block q hq))
           have HT7 := hide ((unhide HT6).below hbN (by omega))
           have HJ7 := hide (hj.below hbN)
           have hsb : (w6.alloc (Obj.cells #[.int .i64 E.k, .int .i64 E.a, .string E.nm, .string E.ot, .int .i64 E.ix.k, .int .i64 E.ix.a, .int .i64 E.ix.n, .string E.ix.nm, .slice E.ix.args.ad E.ix.args.len E.ix.args.cap, .int .i64 E.ex.k, .int .i64 E.ex.a, .int .i64 E.ex.n, .string E.ex.nm, .slice E.ex.args.ad E.ex.args.len E.ex.args.cap, .slice E.args.ad E.args.len E.args.cap, .slice E.th.ad E.th.len E.th.cap, .slice E.el.ad E.el.len E.el.cap] 56)).heap.size = w6.heap.size + 1 := by simp
           have hbp7 := hj.lt
           clear hro hj ht hR6 hbN HT5 HRK HQ hnot
           go_wp2_with (at_builtin; refine wpList_append_lies _ (by rfl) _ _ _ (by rfl) w.heap.size 56 t0 _ 17 248 Tryz.underlying49 (unhide HI) (unhide HZ0) (unhide HZ1) (unhide HZ2) rfl (by omega) (.slice ga es.length cap) es.length (es.flatMap (fun E : Tk.C => E.cells.toList)) (by rfl) (unhide HRN).row ⟨w6.heap.size, 0, none⟩ 1 1 [.int .i64 E.k, .int .i64 E.a, .string E.nm, .string E.ot, .int .i64 E.ix.k, .int .i64 E.ix.a, .int .i64 E.ix.n, .string E.ix.nm, .slice E.ix.args.ad E.ix.args.len E.ix.args.cap, .int .i64 E.ex.k, .int .i64 E.ex.a, .int .i64 E.ex.n, .string E.ex.nm, .slice E.ex.args.ad E.ex.args.len E.ex.args.cap, .slice E.args.ad E.args.len E.args.cap, .slice E.th.ad E.th.len E.th.cap, .slice E.el.ad E.el.len E.el.cap] (by rfl) (by rfl) (World.news_of_block (unhide HBK)) (by simp [Value.oneCell']) (by omega) (by unfold maxLen; omega) (by omega) (by omega) (w6.heap.size + 1) (by omega) ?_; intro gA cA w8 hoA hgA hatA hltA; have HOA := hide hoA; have HGA := hide hgA; have HAT := hide hatA; clear hatA hltA hoA hgA)
           have hgA := unhide HGA
           have hrow := (unhide HRN).row
           have hk8 : ∀ q, q < w.heap.size → w8.heap[q]? = (w6.alloc (Obj.cells #[.int .i64 E.k, .int .i64 E.a, .string E.nm, .string E.ot, .int .i64 E.ix.k, .int .i64 E.ix.a, .int .i64 E.ix.n, .string E.ix.nm, .slice E.ix.args.ad E.ix.args.len E.ix.args.cap, .int .i64 E.ex.k, .int .i64 E.ex.a, .int .i64 E.ex.n, .string E.ex.nm, .slice E.ex.args.ad E.ex.args.len E.ex.args.cap, .slice E.args.ad E.args.len E.args.cap, .slice E.th.ad E.th.len E.th.cap, .slice E.el.ad E.el.len E.el.cap] 56)).heap[q]? := fun q hq => hgA.block q (by omega) (fun e => by have := (hrow.lt q e.symm).1; omega)
           have hT8 : Tp.Tu (Tp.D1 bp) w.heap.size w w8 := (unhide HT7).trans ⟨hgA.os, hgA.tape, hgA.output, hgA.size, fun q h1 _ => hk8 q h1⟩
           have hJ8 := (unhide HJ7).kept hgA.size (fun q hq => hk8 q (by omega))
           have hR8 := (unhide HRN).app (unhide HEO) hgA.size (by omega) (fun q _ h2 h3 => hgA.block q h2 (fun e => h3 e.symm)) (unhide HOA) ((unhide HAT).imp id (fun e => by rw [e, hsb]; exact Nat.le_refl _))
           go_roundg f
           case measure => omega
           case rel => exact ⟨es ++ [E], acc ++ [x], j, unhide HO6, by omega, by rw [List.length_append]; simp; omega, by omega, hJ8, hT8, hR8⟩
      · have hy := (unhide HLT) rfl
        have hcs := unhide HCS
        have HRK := hide (hcs.row.kept (unhide HB).size (by omega) (fun q _ hq => (unhide HB).block q hq))
        have HT5 := hide (hcs.tu.below (unhide HB) hcs.tu.size)
        have HQ := hide ((unhide HRC) i w3 hcs.ge hy ((unhide HJ).below (unhide HB)))
        have hwz := hcs.tu.size
        have hwb := (unhide HB).size
        clear hcs
        go_wp2_with fail
        refine (unhide HQ).mono ?_
        intro r w6 h6
        cases hn : rec i with
        | error j =>
         rw [hn] at h6
         obtain ⟨rfl, ht⟩ := h6
         have HT := hide ((unhide HT5).then ht (by omega) (fun _ _ h => h))
         obtain rfl : o = .error j := by rw [← (unhide HCS).is]; simp only [Tp.cmds, unhide HYC, hn]; rfl
         clear ht
         go_wp2_with fail
         exact ⟨rfl, rfl, unhide HT⟩
        | ok p =>
         obtain ⟨x, j⟩ := p
         rw [hn] at h6
         obtain ⟨⟨E, rfl, hro⟩, hj, ht⟩ := h6
         have hgo := (unhide HG) i x j hn
         have HO6 := hide (show Tp.cmds l rec f j (acc ++ [x]) = o by rw [← (unhide HCS).is]; simp only [Tp.cmds, unhide HYC, hn]; rfl)
         have hs6 := ht.size
         have HT6 := hide ((unhide HT5).then ht (by omega) (fun _ _ h => h))
         have hR6 := (unhide HRK).kept hs6 (by omega) (fun q h1 h2 => ht.block q h2 (by show ¬ q = bp; omega))
         have hbN := (Below.refl w6.heap.size w6).alloc (Nat.le_refl _) (Obj.cells #[.int .i64 E.k, .int .i64 E.a, .string E.nm, .string E.ot, .int .i64 E.ix.k, .int .i64 E.ix.a, .int .i64 E.ix.n, .string E.ix.nm, .slice E.ix.args.ad E.ix.args.len E.ix.args.cap, .int .i64 E.ex.k, .int .i64 E.ex.a, .int .i64 E.ex.n, .string E.ex.nm, .slice E.ex.args.ad E.ex.args.len E.ex.args.cap, .slice E.args.ad E.args.len E.args.cap, .slice E.th.ad E.th.len E.th.cap, .slice E.el.ad E.el.len E.el.cap] 56)
         have hnot : ∀ q, (Value.slice ga es.length cap).ownBlock = some q → q < w3.heap.size := fun q hq => ((unhide HRK).row.lt q hq).2
         have HRN := hide (hR6.kept hbN.size (by omega) (fun q _ h2 => hbN.block q h2))
         have HBK := hide (heap_alloc_new w6 (Obj.cells #[.int .i64 E.k, .int .i64 E.a, .string E.nm, .string E.ot, .int .i64 E.ix.k, .int .i64 E.ix.a, .int .i64 E.ix.n, .string E.ix.nm, .slice E.ix.args.ad E.ix.args.len E.ix.args.cap, .int .i64 E.ex.k, .int .i64 E.ex.a, .int .i64 E.ex.n, .string E.ex.nm, .slice E.ex.args.ad E.ex.args.len E.ex.args.cap, .slice E.args.ad E.args.len E.args.cap, .slice E.th.ad E.th.len E.th.cap, .slice E.el.ad E.el.len E.el.cap] 56))
         have hek := (unhide HCS).many
         have hel : es.length ≤ 10001 := by omega
         have hei := (unhide HCS).ge
         have HEO := hide ((hro.wide (B' := w.heap.size) (g' := Tp.blk bp (.slice ga es.length cap)) (by omega) (by omega) (by
          unfold Tp.blk
          cases hq : (Value.slice ga es.length cap).ownBlock with
          | none => left; show bp < _; omega
          | some q => left; exact hnot q hq)).go hbN.size (fun q _ _ hq => hbN.block q hq))
         have HT7 := hide ((unhide HT6).below hbN (by omega))
         have HJ7 := hide (hj.below hbN)
         have hsb : (w6.alloc (Obj.cells #[.int .i64 E.k, .int .i64 E.a, .string E.nm, .string E.ot, .int .i64 E.ix.k, .int .i64 E.ix.a, .int .i64 E.ix.n, .string E.ix.nm, .slice E.ix.args.ad E.ix.args.len E.ix.args.cap, .int .i64 E.ex.k, .int .i64 E.ex.a, .int .i64 E.ex.n, .string E.ex.nm, .slice E.ex.args.ad E.ex.args.len E.ex.args.cap, .slice E.args.ad E.args.len E.args.cap, .slice E.th.ad E.th.len E.th.cap, .slice E.el.ad E.el.len E.el.cap] 56)).heap.size = w6.heap.size + 1 := by simp
         have hbp7 := hj.lt
         clear hro hj ht hR6 hbN HT5 HRK HQ hnot
         go_wp2_with (at_builtin; refine wpList_append_lies _ (by rfl) _ _ _ (by rfl) w.heap.size 56 t0 _ 17 248 Tryz.underlying49 (unhide HI) (unhide HZ0) (unhide HZ1) (unhide HZ2) rfl (by omega) (.slice ga es.length cap) es.length (es.flatMap (fun E : Tk.C => E.cells.toList)) (by rfl) (unhide HRN).row ⟨w6.heap.size, 0, none⟩ 1 1 [.int .i64 E.k, .int .i64 E.a, .string E.nm, .string E.ot, .int .i64 E.ix.k, .int .i64 E.ix.a, .int .i64 E.ix.n, .string E.ix.nm, .slice E.ix.args.ad E.ix.args.len E.ix.args.cap, .int .i64 E.ex.k, .int .i64 E.ex.a, .int .i64 E.ex.n, .string E.ex.nm, .slice E.ex.args.ad E.ex.args.len E.ex.args.cap, .slice E.args.ad E.args.len E.args.cap, .slice E.th.ad E.th.len E.th.cap, .slice E.el.ad E.el.len E.el.cap] (by rfl) (by rfl) (World.news_of_block (unhide HBK)) (by simp [Value.oneCell']) (by omega) (by unfold maxLen; omega) (by omega) (by omega) (w6.heap.size + 1) (by omega) ?_; intro gA cA w8 hoA hgA hatA hltA; have HOA := hide hoA; have HGA := hide hgA; have HAT := hide hatA; clear hatA hltA hoA hgA)
         have hgA := unhide HGA
         have hrow := (unhide HRN).row
         have hk8 : ∀ q, q < w.heap.size → w8.heap[q]? = (w6.alloc (Obj.cells #[.int .i64 E.k, .int .i64 E.a, .string E.nm, .string E.ot, .int .i64 E.ix.k, .int .i64 E.ix.a, .int .i64 E.ix.n, .string E.ix.nm, .slice E.ix.args.ad E.ix.args.len E.ix.args.cap, .int .i64 E.ex.k, .int .i64 E.ex.a, .int .i64 E.ex.n, .string E.ex.nm, .slice E.ex.args.ad E.ex.args.len E.ex.args.cap, .slice E.args.ad E.args.len E.args.cap, .slice E.th.ad E.th.len E.th.cap, .slice E.el.ad E.el.len E.el.cap] 56)).heap[q]? := fun q hq => hgA.block q (by omega) (fun e => by have := (hrow.lt q e.symm).1; omega)
         have hT8 : Tp.Tu (Tp.D1 bp) w.heap.size w w8 := (unhide HT7).trans ⟨hgA.os, hgA.tape, hgA.output, hgA.size, fun q h1 _ => hk8 q h1⟩
         have hJ8 := (unhide HJ7).kept hgA.size (fun q hq => hk8 q (by omega))
         have hR8 := (unhide HRN).app (unhide HEO) hgA.size (by omega) (fun q _ h2 h3 => hgA.block q h2 (fun e => h3 e.symm)) (unhide HOA) ((unhide HAT).imp id (fun e => by rw [e, hsb]; exact Nat.le_refl _))
         go_roundg f
         case measure => omega
         case rel => exact ⟨es ++ [E], acc ++ [x], j, unhide HO6, by omega, by rw [List.length_append]; simp; omega, by omega, hJ8, hT8, hR8⟩
    · have hy := (unhide HLT) rfl
      have hcs := unhide HCS
      have HRK := hide (hcs.row.kept (unhide HB).size (by omega) (fun q _ hq => (unhide HB).block q hq))
      have HT5 := hide (hcs.tu.below (unhide HB) hcs.tu.size)
      have HQ := hide ((unhide HRC) i w2 hcs.ge hy ((unhide HJ).below (unhide HB)))
      have hwz := hcs.tu.size
      have hwb := (unhide HB).size
      clear hcs
      go_wp2_with fail
      refine (unhide HQ).mono ?_
      intro r w6 h6
      cases hn : rec i with
      | error j =>
       rw [hn] at h6
       obtain ⟨rfl, ht⟩ := h6
       have HT := hide ((unhide HT5).then ht (by omega) (fun _ _ h => h))
       obtain rfl : o = .error j := by rw [← (unhide HCS).is]; simp only [Tp.cmds, unhide HYC, hn]; rfl
       clear ht
       go_wp2_with fail
       exact ⟨rfl, rfl, unhide HT⟩
      | ok p =>
       obtain ⟨x, j⟩ := p
       rw [hn] at h6
       obtain ⟨⟨E, rfl, hro⟩, hj, ht⟩ := h6
       have hgo := (unhide HG) i x j hn
       have HO6 := hide (show Tp.cmds l rec f j (acc ++ [x]) = o by rw [← (unhide HCS).is]; simp only [Tp.cmds, unhide HYC, hn]; rfl)
       have hs6 := ht.size
       have HT6 := hide ((unhide HT5).then ht (by omega) (fun _ _ h => h))
       have hR6 := (unhide HRK).kept hs6 (by omega) (fun q h1 h2 => ht.block q h2 (by show ¬ q = bp; omega))
       have hbN := (Below.refl w6.heap.size w6).alloc (Nat.le_refl _) (Obj.cells #[.int .i64 E.k, .int .i64 E.a, .string E.nm, .string E.ot, .int .i64 E.ix.k, .int .i64 E.ix.a, .int .i64 E.ix.n, .string E.ix.nm, .slice E.ix.args.ad E.ix.args.len E.ix.args.cap, .int .i64 E.ex.k, .int .i64 E.ex.a, .int .i64 E.ex.n, .string E.ex.nm, .slice E.ex.args.ad E.ex.args.len E.ex.args.cap, .slice E.args.ad E.args.len E.args.cap, .slice E.th.ad E.th.len E.th.cap, .slice E.el.ad E.el.len E.el.cap] 56)
       have hnot : ∀ q, (Value.slice ga es.length cap).ownBlock = some q → q < w2.heap.size := fun q hq => ((unhide HRK).row.lt q hq).2
       have HRN := hide (hR6.kept hbN.size (by omega) (fun q _ h2 => hbN.block q h2))
       have HBK := hide (heap_alloc_new w6 (Obj.cells #[.int .i64 E.k, .int .i64 E.a, .string E.nm, .string E.ot, .int .i64 E.ix.k, .int .i64 E.ix.a, .int .i64 E.ix.n, .string E.ix.nm, .slice E.ix.args.ad E.ix.args.len E.ix.args.cap, .int .i64 E.ex.k, .int .i64 E.ex.a, .int .i64 E.ex.n, .string E.ex.nm, .slice E.ex.args.ad E.ex.args.len E.ex.args.cap, .slice E.args.ad E.args.len E.args.cap, .slice E.th.ad E.th.len E.th.cap, .slice E.el.ad E.el.len E.el.cap] 56))
       have hek := (unhide HCS).many
       have hel : es.length ≤ 10001 := by omega
       have hei := (unhide HCS).ge
       have HEO := hide ((hro.wide (B' := w.heap.size) (g' := Tp.blk bp (.slice ga es.length cap)) (by omega) (by omega) (by
        unfold Tp.blk
        cases hq : (Value.slice ga es.length cap).ownBlock with
        | none => left; show bp < _; omega
        | some q => left; exact hnot q hq)).go hbN.size (fun q _ _ hq => hbN.block q hq))
       have HT7 := hide ((unhide HT6).below hbN (by omega))
       have HJ7 := hide (hj.below hbN)
       have hsb : (w6.alloc (Obj.cells #[.int .i64 E.k, .int .i64 E.a, .string E.nm, .string E.ot, .int .i64 E.ix.k, .int .i64 E.ix.a, .int .i64 E.ix.n, .string E.ix.nm, .slice E.ix.args.ad E.ix.args.len E.ix.args.cap, .int .i64 E.ex.k, .int .i64 E.ex.a, .int .i64 E.ex.n, .string E.ex.nm, .slice E.ex.args.ad E.ex.args.len E.ex.args.cap, .slice E.args.ad E.args.len E.args.cap, .slice E.th.ad E.th.len E.th.cap, .slice E.el.ad E.el.len E.el.cap] 56)).heap.size = w6.heap.size + 1 := by simp
       have hbp7 := hj.lt
       clear hro hj ht hR6 hbN HT5 HRK HQ hnot
       go_wp2_with (at_builtin; refine wpList_append_lies _ (by rfl) _ _ _ (by rfl) w.heap.size 56 t0 _ 17 248 Tryz.underlying49 (unhide HI) (unhide HZ0) (unhide HZ1) (unhide HZ2) rfl (by omega) (.slice ga es.length cap) es.length (es.flatMap (fun E : Tk.C => E.cells.toList)) (by rfl) (unhide HRN).row ⟨w6.heap.size, 0, none⟩ 1 1 [.int .i64 E.k, .int .i64 E.a, .string E.nm, .string E.ot, .int .i64 E.ix.k, .int .i64 E.ix.a, .int .i64 E.ix.n, .string E.ix.nm, .slice E.ix.args.ad E.ix.args.len E.ix.args.cap, .int .i64 E.ex.k, .int .i64 E.ex.a, .int .i64 E.ex.n, .string E.ex.nm, .slice E.ex.args.ad E.ex.args.len E.ex.args.cap, .slice E.args.ad E.args.len E.args.cap, .slice E.th.ad E.th.len E.th.cap, .slice E.el.ad E.el.len E.el.cap] (by rfl) (by rfl) (World.news_of_block (unhide HBK)) (by simp [Value.oneCell']) (by omega) (by unfold maxLen; omega) (by omega) (by omega) (w6.heap.size + 1) (by omega) ?_; intro gA cA w8 hoA hgA hatA hltA; have HOA := hide hoA; have HGA := hide hgA; have HAT := hide hatA; clear hatA hltA hoA hgA)
       have hgA := unhide HGA
       have hrow := (unhide HRN).row
       have hk8 : ∀ q, q < w.heap.size → w8.heap[q]? = (w6.alloc (Obj.cells #[.int .i64 E.k, .int .i64 E.a, .string E.nm, .string E.ot, .int .i64 E.ix.k, .int .i64 E.ix.a, .int .i64 E.ix.n, .string E.ix.nm, .slice E.ix.args.ad E.ix.args.len E.ix.args.cap, .int .i64 E.ex.k, .int .i64 E.ex.a, .int .i64 E.ex.n, .string E.ex.nm, .slice E.ex.args.ad E.ex.args.len E.ex.args.cap, .slice E.args.ad E.args.len E.args.cap, .slice E.th.ad E.th.len E.th.cap, .slice E.el.ad E.el.len E.el.cap] 56)).heap[q]? := fun q hq => hgA.block q (by omega) (fun e => by have := (hrow.lt q e.symm).1; omega)
       have hT8 : Tp.Tu (Tp.D1 bp) w.heap.size w w8 := (unhide HT7).trans ⟨hgA.os, hgA.tape, hgA.output, hgA.size, fun q h1 _ => hk8 q h1⟩
       have hJ8 := (unhide HJ7).kept hgA.size (fun q hq => hk8 q (by omega))
       have hR8 := (unhide HRN).app (unhide HEO) hgA.size (by omega) (fun q _ h2 h3 => hgA.block q h2 (fun e => h3 e.symm)) (unhide HOA) ((unhide HAT).imp id (fun e => by rw [e, hsb]; exact Nat.le_refl _))
       go_roundg f
       case measure => omega
       case rel => exact ⟨es ++ [E], acc ++ [x], j, unhide HO6, by omega, by rw [List.length_append]; simp; omega, by omega, hJ8, hT8, hR8⟩
  · have hy := (unhide HLT) rfl
    have hcs := unhide HCS
    have HRK := hide (hcs.row.kept (unhide HB).size (by omega) (fun q _ hq => (unhide HB).block q hq))
    have HT5 := hide (hcs.tu.below (unhide HB) hcs.tu.size)
    have HQ := hide ((unhide HRC) i w1 hcs.ge hy ((unhide HJ).below (unhide HB)))
    have hwz := hcs.tu.size
    have hwb := (unhide HB).size
    clear hcs
    go_wp2_with fail
    refine (unhide HQ).mono ?_
    intro r w6 h6
    cases hn : rec i with
    | error j =>
     rw [hn] at h6
     obtain ⟨rfl, ht⟩ := h6
     have HT := hide ((unhide HT5).then ht (by omega) (fun _ _ h => h))
     obtain rfl : o = .error j := by rw [← (unhide HCS).is]; simp only [Tp.cmds, unhide HYC, hn]; rfl
     clear ht
     go_wp2_with fail
     exact ⟨rfl, rfl, unhide HT⟩
    | ok p =>
     obtain ⟨x, j⟩ := p
     rw [hn] at h6
     obtain ⟨⟨E, rfl, hro⟩, hj, ht⟩ := h6
     have hgo := (unhide HG) i x j hn
     have HO6 := hide (show Tp.cmds l rec f j (acc ++ [x]) = o by rw [← (unhide HCS).is]; simp only [Tp.cmds, unhide HYC, hn]; rfl)
     have hs6 := ht.size
     have HT6 := hide ((unhide HT5).then ht (by omega) (fun _ _ h => h))
     have hR6 := (unhide HRK).kept hs6 (by omega) (fun q h1 h2 => ht.block q h2 (by show ¬ q = bp; omega))
     have hbN := (Below.refl w6.heap.size w6).alloc (Nat.le_refl _) (Obj.cells #[.int .i64 E.k, .int .i64 E.a, .string E.nm, .string E.ot, .int .i64 E.ix.k, .int .i64 E.ix.a, .int .i64 E.ix.n, .string E.ix.nm, .slice E.ix.args.ad E.ix.args.len E.ix.args.cap, .int .i64 E.ex.k, .int .i64 E.ex.a, .int .i64 E.ex.n, .string E.ex.nm, .slice E.ex.args.ad E.ex.args.len E.ex.args.cap, .slice E.args.ad E.args.len E.args.cap, .slice E.th.ad E.th.len E.th.cap, .slice E.el.ad E.el.len E.el.cap] 56)
     have hnot : ∀ q, (Value.slice ga es.length cap).ownBlock = some q → q < w1.heap.size := fun q hq => ((unhide HRK).row.lt q hq).2
     have HRN := hide (hR6.kept hbN.size (by omega) (fun q _ h2 => hbN.block q h2))
     have HBK := hide (heap_alloc_new w6 (Obj.cells #[.int .i64 E.k, .int .i64 E.a, .string E.nm, .string E.ot, .int .i64 E.ix.k, .int .i64 E.ix.a, .int .i64 E.ix.n, .string E.ix.nm, .slice E.ix.args.ad E.ix.args.len E.ix.args.cap, .int .i64 E.ex.k, .int .i64 E.ex.a, .int .i64 E.ex.n, .string E.ex.nm, .slice E.ex.args.ad E.ex.args.len E.ex.args.cap, .slice E.args.ad E.args.len E.args.cap, .slice E.th.ad E.th.len E.th.cap, .slice E.el.ad E.el.len E.el.cap] 56))
     have hek := (unhide HCS).many
     have hel : es.length ≤ 10001 := by omega
     have hei := (unhide HCS).ge
     have HEO := hide ((hro.wide (B' := w.heap.size) (g' := Tp.blk bp (.slice ga es.length cap)) (by omega) (by omega) (by
      unfold Tp.blk
      cases hq : (Value.slice ga es.length cap).ownBlock with
      | none => left; show bp < _; omega
      | some q => left; exact hnot q hq)).go hbN.size (fun q _ _ hq => hbN.block q hq))
     have HT7 := hide ((unhide HT6).below hbN (by omega))
     have HJ7 := hide (hj.below hbN)
     have hsb : (w6.alloc (Obj.cells #[.int .i64 E.k, .int .i64 E.a, .string E.nm, .string E.ot, .int .i64 E.ix.k, .int .i64 E.ix.a, .int .i64 E.ix.n, .string E.ix.nm, .slice E.ix.args.ad E.ix.args.len E.ix.args.cap, .int .i64 E.ex.k, .int .i64 E.ex.a, .int .i64 E.ex.n, .string E.ex.nm, .slice E.ex.args.ad E.ex.args.len E.ex.args.cap, .slice E.args.ad E.args.len E.args.cap, .slice E.th.ad E.th.len E.th.cap, .slice E.el.ad E.el.len E.el.cap] 56)).heap.size = w6.heap.size + 1 := by simp
     have hbp7 := hj.lt
     clear hro hj ht hR6 hbN HT5 HRK HQ hnot
     go_wp2_with (at_builtin; refine wpList_append_lies _ (by rfl) _ _ _ (by rfl) w.heap.size 56 t0 _ 17 248 Tryz.underlying49 (unhide HI) (unhide HZ0) (unhide HZ1) (unhide HZ2) rfl (by omega) (.slice ga es.length cap) es.length (es.flatMap (fun E : Tk.C => E.cells.toList)) (by rfl) (unhide HRN).row ⟨w6.heap.size, 0, none⟩ 1 1 [.int .i64 E.k, .int .i64 E.a, .string E.nm, .string E.ot, .int .i64 E.ix.k, .int .i64 E.ix.a, .int .i64 E.ix.n, .string E.ix.nm, .slice E.ix.args.ad E.ix.args.len E.ix.args.cap, .int .i64 E.ex.k, .int .i64 E.ex.a, .int .i64 E.ex.n, .string E.ex.nm, .slice E.ex.args.ad E.ex.args.len E.ex.args.cap, .slice E.args.ad E.args.len E.args.cap, .slice E.th.ad E.th.len E.th.cap, .slice E.el.ad E.el.len E.el.cap] (by rfl) (by rfl) (World.news_of_block (unhide HBK)) (by simp [Value.oneCell']) (by omega) (by unfold maxLen; omega) (by omega) (by omega) (w6.heap.size + 1) (by omega) ?_; intro gA cA w8 hoA hgA hatA hltA; have HOA := hide hoA; have HGA := hide hgA; have HAT := hide hatA; clear hatA hltA hoA hgA)
     have hgA := unhide HGA
     have hrow := (unhide HRN).row
     have hk8 : ∀ q, q < w.heap.size → w8.heap[q]? = (w6.alloc (Obj.cells #[.int .i64 E.k, .int .i64 E.a, .string E.nm, .string E.ot, .int .i64 E.ix.k, .int .i64 E.ix.a, .int .i64 E.ix.n, .string E.ix.nm, .slice E.ix.args.ad E.ix.args.len E.ix.args.cap, .int .i64 E.ex.k, .int .i64 E.ex.a, .int .i64 E.ex.n, .string E.ex.nm, .slice E.ex.args.ad E.ex.args.len E.ex.args.cap, .slice E.args.ad E.args.len E.args.cap, .slice E.th.ad E.th.len E.th.cap, .slice E.el.ad E.el.len E.el.cap] 56)).heap[q]? := fun q hq => hgA.block q (by omega) (fun e => by have := (hrow.lt q e.symm).1; omega)
     have hT8 : Tp.Tu (Tp.D1 bp) w.heap.size w w8 := (unhide HT7).trans ⟨hgA.os, hgA.tape, hgA.output, hgA.size, fun q h1 _ => hk8 q h1⟩
     have hJ8 := (unhide HJ7).kept hgA.size (fun q hq => hk8 q (by omega))
     have hR8 := (unhide HRN).app (unhide HEO) hgA.size (by omega) (fun q _ h2 h3 => hgA.block q h2 (fun e => h3 e.symm)) (unhide HOA) ((unhide HAT).imp id (fun e => by rw [e, hsb]; exact Nat.le_refl _))
     go_roundg f
     case measure => omega
     case rel => exact ⟨es ++ [E], acc ++ [x], j, unhide HO6, by omega, by rw [List.length_append]; simp; omega, by omega, hJ8, hT8, hR8⟩
theorem tblock_any {n : Nat} (rec : Nat → Except Nat (Tk.CT 61 n × Nat)) (i0 : Nat) (HGo : ∀ i x j, rec i = .ok (x, j) → i < j)
  (HR : ∀ (i : Nat) (W : World), i0 < i → i < l.length → Tp.J l ta c bp e W i 0 → Calls Tryz.prog 188 #[.pointer (some ⟨bp, 0, none⟩)] W (Tp.Out l ta c bp e (Tp.D1 bp) W 0 (Tp.gC W.heap.size bp n) (rec i)))
  (w : World) (h : Tp.J l ta c bp e w i0 0) :
  Calls Tryz.prog 204 #[.pointer (some ⟨bp, 0, none⟩)] w (Tp.Out l ta c bp e (Tp.D1 bp) w 0 (Tp.gL w.heap.size bp n) (Tp.block l rec i0)) := by
 obtain ⟨o, ho⟩ : ∃ o, Tp.block l rec i0 = o := ⟨_, rfl⟩
 rw [ho]
 have hlt := h.lt
 have HEQ := hide ho
 have HW := hide (twant_any l ta c bp e ⟨#[123]⟩ (by decide) i0 0 w h)
 have HCM := hide (fun (W : World) (hj : Tp.J l ta c bp e W (i0 + 1) 0) => tcmds_any l ta c bp e rec (i0 + 1) HGo (fun i W h1 h2 h3 => HR i W (by omega) h2 h3) W hj)
 clear h ho HR HGo
 go_enter Tryz.func204, Tryz.ntmps204
 go_wp2_with fail
 refine (unhide HW).mono ?_
 intro r w1 h1
 cases hn : Tp.want l ⟨#[123]⟩ i0 with
 | error j =>
  rw [hn] at h1
  obtain ⟨rfl, ht⟩ := h1
  have HT := hide ht
  obtain rfl : o = .error j := by rw [← unhide HEQ]; simp only [Tp.block, hn]
  clear ht
  go_wp2_with fail
  exact ⟨rfl, rfl, unhide HT⟩
 | ok i1 =>
  rw [hn] at h1
  obtain ⟨rfl, hj, ht⟩ := h1
  obtain rfl : i1 = i0 + 1 := by
   unfold Tp.want at hn
   split at hn
   · cases hn; rfl
   · cases hn
  have HE1 := hide hn
  have HT1 := hide ht
  have hz1 := ht.size
  have HC1 := hide ((unhide HCM) w1 hj)
  clear hj ht hn HW HCM
  go_wp2_with fail
  refine (unhide HC1).mono ?_
  intro r w2 h2
  cases hn : Tp.cmds l rec (l.length + 1) (i0 + 1) [] with
  | error j =>
   rw [hn] at h2
   obtain ⟨rfl, ht⟩ := h2
   have HT := hide ((unhide HT1).then ht hz1 (fun _ _ h => h))
   obtain rfl : o = .error j := by rw [← unhide HEQ]; simp only [Tp.block, unhide HE1, hn]
   clear ht
   go_wp2_with fail
   exact ⟨rfl, rfl, unhide HT⟩
  | ok p =>
   obtain ⟨xs, j⟩ := p
   rw [hn] at h2
   obtain ⟨⟨⟨sa, sn, sc⟩, rfl, hro⟩, hj, ht⟩ := h2
   have HE2 := hide hn
   have hz2 := ht.size
   have HT2 := hide ((unhide HT1).then ht hz1 (fun _ _ h => h))
   have HR2 := hide (hro.wide (B' := w.heap.size) (g' := bp) (by omega) (by omega) (Or.inl (by omega)))
   have HW2 := hide (twant_any l ta c bp e ⟨#[125]⟩ (by decide) j 0 w2 hj)
   clear hj ht hn hro HC1
   go_wp2_with fail
   refine (unhide HW2).mono ?_
   intro r w3 h3
   cases hn : Tp.want l ⟨#[125]⟩ j with
   | error j' =>
    rw [hn] at h3
    obtain ⟨rfl, ht⟩ := h3
    have HT := hide ((unhide HT2).then ht (by omega) (fun _ _ h => h))
    obtain rfl : o = .error j' := by rw [← unhide HEQ]; simp only [Tp.block, unhide HE1, unhide HE2, hn]
    clear ht
    go_wp2_with fail
    exact ⟨rfl, rfl, unhide HT⟩
   | ok j' =>
    rw [hn] at h3
    obtain ⟨rfl, hj, ht⟩ := h3
    obtain rfl : o = .ok (xs, j') := by rw [← unhide HEQ]; simp only [Tp.block, unhide HE1, unhide HE2, hn]
    have HT3 := hide ((unhide HT2).then ht (by omega) (fun _ _ h => h))
    have HR3 := hide ((unhide HR2).tu ht (Nat.le_refl _) (fun q hq => Or.inl (by have : q = bp := hq; omega)))
    have HJ3 := hide hj
    clear hj ht hn
    go_wp2_with fail
    go_ret
    exact ⟨⟨⟨sa, sn, sc⟩, rfl, unhide HR3⟩, unhide HJ3, unhide HT3⟩
end
end Go.Proofs.YtfccpddehpgfoaaGreatDoor
