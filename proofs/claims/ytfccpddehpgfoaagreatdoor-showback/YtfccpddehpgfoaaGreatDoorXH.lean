/- By the verifier. -/
import Derived.Test.YtfccpddehpgfoaaGreatDoorTPx
import Derived.Deep.LoopGhost
set_option maxRecDepth 100000
set_option maxHeartbeats 3200000
namespace Go.Proofs.YtfccpddehpgfoaaGreatDoor
open Go.RowKit
set_option linter.unusedVariables false
theorem ZfO : (Tryz.prog.info? 56).map (fun i => (i.zero, i.size, i.bytes)) = some (some (.agg #[.int .i64 0, .int .i64 0, .string ⟨#[]⟩, .string ⟨#[]⟩, .int .i64 0, .int .i64 0, .int .i64 0, .string ⟨#[]⟩, .slice none 0 0, .int .i64 0, .int .i64 0, .int .i64 0, .string ⟨#[]⟩, .slice none 0 0, .slice none 0 0, .slice none 0 0, .slice none 0 0]), 17, 248) := by kernel_rfl
theorem Tp.info_of {P : Program} {t : TypeId} {z : Option Value} {s b : Nat} (h : (P.info? t).map (fun i => (i.zero, i.size, i.bytes)) = some (z, s, b)) : ∃ i, P.info? t = some i ∧ i.zero = z ∧ i.size = s ∧ i.bytes = b := by
 cases hi : P.info? t with
 | none => rw [hi] at h; cases h
 | some i => rw [hi] at h; simp at h; exact ⟨i, rfl, h.1, h.2.1, h.2.2⟩
theorem ZdD (E : Tk.C) : E.cells.toList.length = 17 := rfl
def Zip (B bp n : Nat) (x : Zap 61 n) (r : Ending) (W : World) : Prop := ∃ E : Tk.C, r = .returned (.agg #[.int .i64 E.k, .int .i64 E.a, .string E.nm, .string E.ot, .int .i64 E.ix.k, .int .i64 E.ix.a, .int .i64 E.ix.n, .string E.ix.nm, .slice E.ix.args.ad E.ix.args.len E.ix.args.cap, .int .i64 E.ex.k, .int .i64 E.ex.a, .int .i64 E.ex.n, .string E.ex.nm, .slice E.ex.args.ad E.ex.args.len E.ex.args.cap, .slice E.args.ad E.args.len E.args.cap, .slice E.th.ad E.th.len E.th.cap, .slice E.el.ad E.el.len E.el.cap]) ∧ Tp.Ow B bp W (fun W => Tk.RC W 61 n E x)
def Zma (B bp n : Nat) (x : List (Zap 61 n)) (r : Ending) (W : World) : Prop := ∃ s : Tk.Sl, r = .returned (.slice s.ad s.len s.cap) ∧ Tp.Ow B bp W (fun W => Tk.RS W 17 (Tk.LC W) (Tk.RC W 61 n) s x)
structure Tp.Cs (l : List Tp.T) (ta : Option Addr) (c bp : Nat) (e : Int) (w : World) {n : Nat} (rec : Nat → Except Nat (Zap 61 n × Nat)) (i0 : Nat) (o : Except Nat (List (Zap 61 n) × Nat)) (f : Nat) (v : Value) (es : List Tk.C) (acc : List (Zap 61 n)) (i : Nat) (wr : World) : Prop where
 is : ZaV l rec f i acc = o
 fuel : l.length < f + i
 many : es.length + f = l.length + 1
 ge : i0 ≤ i
 at_ : Tp.J l ta c bp e wr i 0
 tu : Tp.Tu (ZaA bp) w.heap.size w wr
 row : Tp.Rw w.heap.size bp wr 56 17 (fun E : Tk.C => E.cells.toList) (fun W => Tk.RC W 61 n) v es acc
section
variable (l : List Tp.T) (ta : Option Addr) (c bp : Nat) (e : Int)
theorem ZfF {n : Nat} (rec : Nat → Except Nat (Zap 61 n × Nat)) (i0 : Nat) (HGo : ∀ i x j, rec i = .ok (x, j) → i < j)
  (HR : ∀ (i : Nat) (W : World), i0 ≤ i → i < l.length → Tp.J l ta c bp e W i 0 → Calls Tryz.prog 188 #[.pointer (some ⟨bp, 0, none⟩)] W (Tp.Out l ta c bp e (ZaA bp) W 0 (Zip W.heap.size bp n) (rec i)))
  (w : World) (h : Tp.J l ta c bp e w i0 0) :
  Calls Tryz.prog 155 #[.pointer (some ⟨bp, 0, none⟩)] w (Tp.Out l ta c bp e (ZaA bp) w 0 (Zma w.heap.size bp n) (ZaV l rec (l.length + 1) i0 [])) := by
 obtain ⟨o, ho⟩ : ∃ o, ZaV l rec (l.length + 1) i0 [] = o := ⟨_, rfl⟩
 rw [ho]
 have hlt := h.lt
 have HRC := Hd HR
 have HG := Hd HGo
 have HC0 := Hd (show Tp.Cs l ta c bp e w rec i0 o (l.length + 1) (.slice none 0 0) [] [] i0 w from ⟨ho, by omega, by simp, Nat.le_refl _, h, Tp.Tu.refl _ _ _, Tp.Rw.nil _ _ _ _ _ _ _⟩)
 obtain ⟨t0, hi0, hz0, hz1', hz2⟩ := Tp.info_of ZfO
 have HI := Hd hi0
 have HZ0 := Hd hz0
 have HZ1 := Hd hz1'
 have HZ2 := Hd hz2
 clear h ho HR HGo hi0 hz0 hz1' hz2
 go_enter Tryz.func155, Tryz.ntmps155
 go_wp2_with fail
 go_loopg [3] (l.length + 1) (fun f lv wr => ∃ es acc i, Tp.Cs l ta c bp e w rec i0 o f lv es acc i wr)
 case atStart => exact ⟨[], [], i0, uh HC0⟩
 case round =>
  clear HC0
  obtain ⟨es, acc, i, hcs⟩ := hrel
  have hf := hcs.fuel
  have hle := hcs.at_.le
  obtain ⟨f, rfl⟩ : ∃ f, gk = f + 1 := ⟨gk - 1, by omega⟩
  have HCS := Hd hcs
  obtain ⟨ga, cap, rfl, hcap⟩ := hcs.row.form
  have HJ := Hd hcs.at_
  have HB := Hd (Below.refl wr.heap.size wr)
  have hll := hcs.at_.fine.few
  clear hcs
  obtain ⟨y1, hy1⟩ : ∃ y, ZbM l i = y := ⟨_, rfl⟩
  obtain ⟨y2, hy2⟩ : ∃ y, Zal l i ⟨#[112, 114, 105, 110, 116]⟩ = y := ⟨_, rfl⟩
  obtain ⟨y3, hy3⟩ : ∃ y, Zal l i ⟨#[105, 102]⟩ = y := ⟨_, rfl⟩
  obtain ⟨y4, hy4⟩ : ∃ y, Zal l i ⟨#[119, 104, 105, 108, 101]⟩ = y := ⟨_, rfl⟩
  have HYC := Hd (show Zcu l i = (y1 || y2 || y3 || y4) by unfold Zcu; rw [hy1, hy2, hy3, hy4])
  have HLT := Hd (fun (h : (y1 || y2 || y3 || y4) = true) => show i < l.length by
   subst hy1; subst hy2; subst hy3; subst hy4
   simp only [Bool.or_eq_true] at h
   rcases h with ((h | h) | h) | h
   · exact ZhI h
   · exact Zeq (by decide) h
   · exact Zeq (by decide) h
   exact Zeq (by decide) h)
  have HS1 := Hd (fun (W : World) (hb : Below wr.heap.size wr W) => ZdB l ta c bp e i 0 W ((uh HJ).below hb) y1 hy1)
  have HS2 := Hd (fun (W : World) (hb : Below wr.heap.size wr W) => ZbJ l ta c bp e ⟨#[112, 114, 105, 110, 116]⟩ i 0 W ((uh HJ).below hb) y2 hy2)
  have HS3 := Hd (fun (W : World) (hb : Below wr.heap.size wr W) => ZbJ l ta c bp e ⟨#[105, 102]⟩ i 0 W ((uh HJ).below hb) y3 hy3)
  have HS4 := Hd (fun (W : World) (hb : Below wr.heap.size wr W) => ZbJ l ta c bp e ⟨#[119, 104, 105, 108, 101]⟩ i 0 W ((uh HJ).below hb) y4 hy4)
  clear hy1 hy2 hy3 hy4
  go_wp2_with fail
  refine ((uh HS1) wr (uh HB)).mono ?_
  rintro r w1 ⟨rfl, hb1⟩
  replace HB := Hd hb1
  clear hb1
  cases y1
  · go_wp2_with fail
    refine ((uh HS2) w1 (uh HB)).mono ?_
    rintro r w2 ⟨rfl, hb2⟩
    replace HB := Hd ((uh HB).trans (hb2.mono (uh HB).size))
    clear hb2
    cases y2
    · go_wp2_with fail
      refine ((uh HS3) w2 (uh HB)).mono ?_
      rintro r w3 ⟨rfl, hb3⟩
      replace HB := Hd ((uh HB).trans (hb3.mono (uh HB).size))
      clear hb3
      cases y3
      · go_wp2_with fail
        refine ((uh HS4) w3 (uh HB)).mono ?_
        rintro r w4 ⟨rfl, hb4⟩
        replace HB := Hd ((uh HB).trans (hb4.mono (uh HB).size))
        clear hb4
        cases y4
        · have hcs := uh HCS
          obtain rfl : o = .ok (acc, i) := by rw [← hcs.is]; simp only [ZaV, uh HYC]; rfl
          have HRK := Hd (hcs.row.kept (uh HB).size (by omega) (fun q _ hq => (uh HB).block q hq))
          have hk := hcs.many
          have HT5 := Hd (hcs.tu.below (uh HB) hcs.tu.size)
          clear hcs
          go_wp2_with fail
          go_ret
          have hR := uh HRK
          obtain ⟨s, hs, hos⟩ := hR.reads (lies := fun W => Tk.LC W) (by omega) ZdD Tk.C.lies_cl (by have := hR.len; omega)
          exact ⟨⟨s, by rw [hs]; rfl, hos⟩, (uh HJ).below (uh HB), uh HT5⟩
        have hy := (uh HLT) rfl
        have hcs := uh HCS
        have HRK := Hd (hcs.row.kept (uh HB).size (by omega) (fun q _ hq => (uh HB).block q hq))
        have HT5 := Hd (hcs.tu.below (uh HB) hcs.tu.size)
        have HQ := Hd ((uh HRC) i w4 hcs.ge hy ((uh HJ).below (uh HB)))
        have hwz := hcs.tu.size
        have hwb := (uh HB).size
        clear hcs
        go_wp2_with fail
        refine (uh HQ).mono ?_
        intro r w6 h6
        cases hn : rec i with
        | error j =>
         rw [hn] at h6
         obtain ⟨rfl, ht⟩ := h6
         have HT := Hd ((uh HT5).then ht (by omega) (fun _ _ h => h))
         obtain rfl : o = .error j := by rw [← (uh HCS).is]; simp only [ZaV, uh HYC, hn]; rfl
         clear ht
         go_wp2_with fail
         exact ⟨rfl, rfl, uh HT⟩
        | ok p =>
         obtain ⟨x, j⟩ := p
         rw [hn] at h6
         obtain ⟨⟨E, rfl, hro⟩, hj, ht⟩ := h6
         have hgo := (uh HG) i x j hn
         have HO6 := Hd (show ZaV l rec f j (acc ++ [x]) = o by rw [← (uh HCS).is]; simp only [ZaV, uh HYC, hn]; rfl)
         have hs6 := ht.size
         have HT6 := Hd ((uh HT5).then ht (by omega) (fun _ _ h => h))
         have hR6 := (uh HRK).kept hs6 (by omega) (fun q h1 h2 => ht.block q h2 (by show ¬ q = bp; omega))
         have hbN := (Below.refl w6.heap.size w6).alloc Zl (Obj.cells #[.int .i64 E.k, .int .i64 E.a, .string E.nm, .string E.ot, .int .i64 E.ix.k, .int .i64 E.ix.a, .int .i64 E.ix.n, .string E.ix.nm, .slice E.ix.args.ad E.ix.args.len E.ix.args.cap, .int .i64 E.ex.k, .int .i64 E.ex.a, .int .i64 E.ex.n, .string E.ex.nm, .slice E.ex.args.ad E.ex.args.len E.ex.args.cap, .slice E.args.ad E.args.len E.args.cap, .slice E.th.ad E.th.len E.th.cap, .slice E.el.ad E.el.len E.el.cap] 56)
         have hnot : ∀ q, (Value.slice ga es.length cap).ownBlock = some q → q < w4.heap.size := fun q hq => ((uh HRK).row.lt q hq).2
         have HRN := Hd (hR6.kept hbN.size (by omega) (fun q _ h2 => hbN.block q h2))
         have HBK := Hd (heap_alloc_new w6 (Obj.cells #[.int .i64 E.k, .int .i64 E.a, .string E.nm, .string E.ot, .int .i64 E.ix.k, .int .i64 E.ix.a, .int .i64 E.ix.n, .string E.ix.nm, .slice E.ix.args.ad E.ix.args.len E.ix.args.cap, .int .i64 E.ex.k, .int .i64 E.ex.a, .int .i64 E.ex.n, .string E.ex.nm, .slice E.ex.args.ad E.ex.args.len E.ex.args.cap, .slice E.args.ad E.args.len E.args.cap, .slice E.th.ad E.th.len E.th.cap, .slice E.el.ad E.el.len E.el.cap] 56))
         have hek := (uh HCS).many
         have hel : es.length ≤ 10001 := by omega
         have hei := (uh HCS).ge
         have HEO := Hd ((hro.wide (B' := w.heap.size) (g' := Tp.blk bp (.slice ga es.length cap)) (by omega) (by omega) (by
          unfold Tp.blk
          cases hq : (Value.slice ga es.length cap).ownBlock with
          | none => left; show bp < _; omega
          | some q => left; exact hnot q hq)).go hbN.size (fun q _ _ hq => hbN.block q hq))
         have HT7 := Hd ((uh HT6).below hbN (by omega))
         have HJ7 := Hd (hj.below hbN)
         have hsb : (w6.alloc (Obj.cells #[.int .i64 E.k, .int .i64 E.a, .string E.nm, .string E.ot, .int .i64 E.ix.k, .int .i64 E.ix.a, .int .i64 E.ix.n, .string E.ix.nm, .slice E.ix.args.ad E.ix.args.len E.ix.args.cap, .int .i64 E.ex.k, .int .i64 E.ex.a, .int .i64 E.ex.n, .string E.ex.nm, .slice E.ex.args.ad E.ex.args.len E.ex.args.cap, .slice E.args.ad E.args.len E.args.cap, .slice E.th.ad E.th.len E.th.cap, .slice E.el.ad E.el.len E.el.cap] 56)).heap.size = w6.heap.size + 1 := by simp
         have hbp7 := hj.lt
         clear hro hj ht hR6 hbN HT5 HRK HQ hnot
         go_wp2_with (at_builtin; refine wpList_append_lies _ (by rfl) _ _ _ (by rfl) w.heap.size 56 t0 _ 17 248 Tryz.underlying49 (uh HI) (uh HZ0) (uh HZ1) (uh HZ2) rfl (by omega) (.slice ga es.length cap) es.length (es.flatMap (fun E : Tk.C => E.cells.toList)) (by rfl) (uh HRN).row ⟨w6.heap.size, 0, none⟩ 1 1 [.int .i64 E.k, .int .i64 E.a, .string E.nm, .string E.ot, .int .i64 E.ix.k, .int .i64 E.ix.a, .int .i64 E.ix.n, .string E.ix.nm, .slice E.ix.args.ad E.ix.args.len E.ix.args.cap, .int .i64 E.ex.k, .int .i64 E.ex.a, .int .i64 E.ex.n, .string E.ex.nm, .slice E.ex.args.ad E.ex.args.len E.ex.args.cap, .slice E.args.ad E.args.len E.args.cap, .slice E.th.ad E.th.len E.th.cap, .slice E.el.ad E.el.len E.el.cap] (by rfl) (by rfl) (World.news_of_block (uh HBK)) (by simp [Value.oneCell']) (by omega) (by unfold maxLen; omega) (by omega) (by omega) (w6.heap.size + 1) (by omega) ?_; intro gA cA w8 hoA hgA hatA hltA; have HOA := Hd hoA; have HGA := Hd hgA; have HAT := Hd hatA; clear hatA hltA hoA hgA)
         have hgA := uh HGA
         have hrow := (uh HRN).row
         have hk8 : ∀ q, q < w.heap.size → w8.heap[q]? = (w6.alloc (Obj.cells #[.int .i64 E.k, .int .i64 E.a, .string E.nm, .string E.ot, .int .i64 E.ix.k, .int .i64 E.ix.a, .int .i64 E.ix.n, .string E.ix.nm, .slice E.ix.args.ad E.ix.args.len E.ix.args.cap, .int .i64 E.ex.k, .int .i64 E.ex.a, .int .i64 E.ex.n, .string E.ex.nm, .slice E.ex.args.ad E.ex.args.len E.ex.args.cap, .slice E.args.ad E.args.len E.args.cap, .slice E.th.ad E.th.len E.th.cap, .slice E.el.ad E.el.len E.el.cap] 56)).heap[q]? := fun q hq => hgA.block q (by omega) (fun e => by have := (hrow.lt q e.symm).1; omega)
         have hT8 : Tp.Tu (ZaA bp) w.heap.size w w8 := (uh HT7).trans ⟨hgA.os, hgA.tape, hgA.output, hgA.size, fun q h1 _ => hk8 q h1⟩
         have hJ8 := (uh HJ7).kept hgA.size (fun q hq => hk8 q (by omega))
         have hR8 := (uh HRN).app (uh HEO) hgA.size (by omega) (fun q _ h2 h3 => hgA.block q h2 (fun e => h3 e.symm)) (uh HOA) ((uh HAT).imp id (fun e => by rw [e, hsb]; exact Nat.le_refl _))
         go_roundg f
         case measure => omega
         case rel => exact ⟨es ++ [E], acc ++ [x], j, uh HO6, by omega, by rw [Za]; simp; omega, by omega, hJ8, hT8, hR8⟩
      have hy := (uh HLT) rfl
      have hcs := uh HCS
      have HRK := Hd (hcs.row.kept (uh HB).size (by omega) (fun q _ hq => (uh HB).block q hq))
      have HT5 := Hd (hcs.tu.below (uh HB) hcs.tu.size)
      have HQ := Hd ((uh HRC) i w3 hcs.ge hy ((uh HJ).below (uh HB)))
      have hwz := hcs.tu.size
      have hwb := (uh HB).size
      clear hcs
      go_wp2_with fail
      refine (uh HQ).mono ?_
      intro r w6 h6
      cases hn : rec i with
      | error j =>
       rw [hn] at h6
       obtain ⟨rfl, ht⟩ := h6
       have HT := Hd ((uh HT5).then ht (by omega) (fun _ _ h => h))
       obtain rfl : o = .error j := by rw [← (uh HCS).is]; simp only [ZaV, uh HYC, hn]; rfl
       clear ht
       go_wp2_with fail
       exact ⟨rfl, rfl, uh HT⟩
      | ok p =>
       obtain ⟨x, j⟩ := p
       rw [hn] at h6
       obtain ⟨⟨E, rfl, hro⟩, hj, ht⟩ := h6
       have hgo := (uh HG) i x j hn
       have HO6 := Hd (show ZaV l rec f j (acc ++ [x]) = o by rw [← (uh HCS).is]; simp only [ZaV, uh HYC, hn]; rfl)
       have hs6 := ht.size
       have HT6 := Hd ((uh HT5).then ht (by omega) (fun _ _ h => h))
       have hR6 := (uh HRK).kept hs6 (by omega) (fun q h1 h2 => ht.block q h2 (by show ¬ q = bp; omega))
       have hbN := (Below.refl w6.heap.size w6).alloc Zl (Obj.cells #[.int .i64 E.k, .int .i64 E.a, .string E.nm, .string E.ot, .int .i64 E.ix.k, .int .i64 E.ix.a, .int .i64 E.ix.n, .string E.ix.nm, .slice E.ix.args.ad E.ix.args.len E.ix.args.cap, .int .i64 E.ex.k, .int .i64 E.ex.a, .int .i64 E.ex.n, .string E.ex.nm, .slice E.ex.args.ad E.ex.args.len E.ex.args.cap, .slice E.args.ad E.args.len E.args.cap, .slice E.th.ad E.th.len E.th.cap, .slice E.el.ad E.el.len E.el.cap] 56)
       have hnot : ∀ q, (Value.slice ga es.length cap).ownBlock = some q → q < w3.heap.size := fun q hq => ((uh HRK).row.lt q hq).2
       have HRN := Hd (hR6.kept hbN.size (by omega) (fun q _ h2 => hbN.block q h2))
       have HBK := Hd (heap_alloc_new w6 (Obj.cells #[.int .i64 E.k, .int .i64 E.a, .string E.nm, .string E.ot, .int .i64 E.ix.k, .int .i64 E.ix.a, .int .i64 E.ix.n, .string E.ix.nm, .slice E.ix.args.ad E.ix.args.len E.ix.args.cap, .int .i64 E.ex.k, .int .i64 E.ex.a, .int .i64 E.ex.n, .string E.ex.nm, .slice E.ex.args.ad E.ex.args.len E.ex.args.cap, .slice E.args.ad E.args.len E.args.cap, .slice E.th.ad E.th.len E.th.cap, .slice E.el.ad E.el.len E.el.cap] 56))
       have hek := (uh HCS).many
       have hel : es.length ≤ 10001 := by omega
       have hei := (uh HCS).ge
       have HEO := Hd ((hro.wide (B' := w.heap.size) (g' := Tp.blk bp (.slice ga es.length cap)) (by omega) (by omega) (by
        unfold Tp.blk
        cases hq : (Value.slice ga es.length cap).ownBlock with
        | none => left; show bp < _; omega
        | some q => left; exact hnot q hq)).go hbN.size (fun q _ _ hq => hbN.block q hq))
       have HT7 := Hd ((uh HT6).below hbN (by omega))
       have HJ7 := Hd (hj.below hbN)
       have hsb : (w6.alloc (Obj.cells #[.int .i64 E.k, .int .i64 E.a, .string E.nm, .string E.ot, .int .i64 E.ix.k, .int .i64 E.ix.a, .int .i64 E.ix.n, .string E.ix.nm, .slice E.ix.args.ad E.ix.args.len E.ix.args.cap, .int .i64 E.ex.k, .int .i64 E.ex.a, .int .i64 E.ex.n, .string E.ex.nm, .slice E.ex.args.ad E.ex.args.len E.ex.args.cap, .slice E.args.ad E.args.len E.args.cap, .slice E.th.ad E.th.len E.th.cap, .slice E.el.ad E.el.len E.el.cap] 56)).heap.size = w6.heap.size + 1 := by simp
       have hbp7 := hj.lt
       clear hro hj ht hR6 hbN HT5 HRK HQ hnot
       go_wp2_with (at_builtin; refine wpList_append_lies _ (by rfl) _ _ _ (by rfl) w.heap.size 56 t0 _ 17 248 Tryz.underlying49 (uh HI) (uh HZ0) (uh HZ1) (uh HZ2) rfl (by omega) (.slice ga es.length cap) es.length (es.flatMap (fun E : Tk.C => E.cells.toList)) (by rfl) (uh HRN).row ⟨w6.heap.size, 0, none⟩ 1 1 [.int .i64 E.k, .int .i64 E.a, .string E.nm, .string E.ot, .int .i64 E.ix.k, .int .i64 E.ix.a, .int .i64 E.ix.n, .string E.ix.nm, .slice E.ix.args.ad E.ix.args.len E.ix.args.cap, .int .i64 E.ex.k, .int .i64 E.ex.a, .int .i64 E.ex.n, .string E.ex.nm, .slice E.ex.args.ad E.ex.args.len E.ex.args.cap, .slice E.args.ad E.args.len E.args.cap, .slice E.th.ad E.th.len E.th.cap, .slice E.el.ad E.el.len E.el.cap] (by rfl) (by rfl) (World.news_of_block (uh HBK)) (by simp [Value.oneCell']) (by omega) (by unfold maxLen; omega) (by omega) (by omega) (w6.heap.size + 1) (by omega) ?_; intro gA cA w8 hoA hgA hatA hltA; have HOA := Hd hoA; have HGA := Hd hgA; have HAT := Hd hatA; clear hatA hltA hoA hgA)
       have hgA := uh HGA
       have hrow := (uh HRN).row
       have hk8 : ∀ q, q < w.heap.size → w8.heap[q]? = (w6.alloc (Obj.cells #[.int .i64 E.k, .int .i64 E.a, .string E.nm, .string E.ot, .int .i64 E.ix.k, .int .i64 E.ix.a, .int .i64 E.ix.n, .string E.ix.nm, .slice E.ix.args.ad E.ix.args.len E.ix.args.cap, .int .i64 E.ex.k, .int .i64 E.ex.a, .int .i64 E.ex.n, .string E.ex.nm, .slice E.ex.args.ad E.ex.args.len E.ex.args.cap, .slice E.args.ad E.args.len E.args.cap, .slice E.th.ad E.th.len E.th.cap, .slice E.el.ad E.el.len E.el.cap] 56)).heap[q]? := fun q hq => hgA.block q (by omega) (fun e => by have := (hrow.lt q e.symm).1; omega)
       have hT8 : Tp.Tu (ZaA bp) w.heap.size w w8 := (uh HT7).trans ⟨hgA.os, hgA.tape, hgA.output, hgA.size, fun q h1 _ => hk8 q h1⟩
       have hJ8 := (uh HJ7).kept hgA.size (fun q hq => hk8 q (by omega))
       have hR8 := (uh HRN).app (uh HEO) hgA.size (by omega) (fun q _ h2 h3 => hgA.block q h2 (fun e => h3 e.symm)) (uh HOA) ((uh HAT).imp id (fun e => by rw [e, hsb]; exact Nat.le_refl _))
       go_roundg f
       case measure => omega
       case rel => exact ⟨es ++ [E], acc ++ [x], j, uh HO6, by omega, by rw [Za]; simp; omega, by omega, hJ8, hT8, hR8⟩
    have hy := (uh HLT) rfl
    have hcs := uh HCS
    have HRK := Hd (hcs.row.kept (uh HB).size (by omega) (fun q _ hq => (uh HB).block q hq))
    have HT5 := Hd (hcs.tu.below (uh HB) hcs.tu.size)
    have HQ := Hd ((uh HRC) i w2 hcs.ge hy ((uh HJ).below (uh HB)))
    have hwz := hcs.tu.size
    have hwb := (uh HB).size
    clear hcs
    go_wp2_with fail
    refine (uh HQ).mono ?_
    intro r w6 h6
    cases hn : rec i with
    | error j =>
     rw [hn] at h6
     obtain ⟨rfl, ht⟩ := h6
     have HT := Hd ((uh HT5).then ht (by omega) (fun _ _ h => h))
     obtain rfl : o = .error j := by rw [← (uh HCS).is]; simp only [ZaV, uh HYC, hn]; rfl
     clear ht
     go_wp2_with fail
     exact ⟨rfl, rfl, uh HT⟩
    | ok p =>
     obtain ⟨x, j⟩ := p
     rw [hn] at h6
     obtain ⟨⟨E, rfl, hro⟩, hj, ht⟩ := h6
     have hgo := (uh HG) i x j hn
     have HO6 := Hd (show ZaV l rec f j (acc ++ [x]) = o by rw [← (uh HCS).is]; simp only [ZaV, uh HYC, hn]; rfl)
     have hs6 := ht.size
     have HT6 := Hd ((uh HT5).then ht (by omega) (fun _ _ h => h))
     have hR6 := (uh HRK).kept hs6 (by omega) (fun q h1 h2 => ht.block q h2 (by show ¬ q = bp; omega))
     have hbN := (Below.refl w6.heap.size w6).alloc Zl (Obj.cells #[.int .i64 E.k, .int .i64 E.a, .string E.nm, .string E.ot, .int .i64 E.ix.k, .int .i64 E.ix.a, .int .i64 E.ix.n, .string E.ix.nm, .slice E.ix.args.ad E.ix.args.len E.ix.args.cap, .int .i64 E.ex.k, .int .i64 E.ex.a, .int .i64 E.ex.n, .string E.ex.nm, .slice E.ex.args.ad E.ex.args.len E.ex.args.cap, .slice E.args.ad E.args.len E.args.cap, .slice E.th.ad E.th.len E.th.cap, .slice E.el.ad E.el.len E.el.cap] 56)
     have hnot : ∀ q, (Value.slice ga es.length cap).ownBlock = some q → q < w2.heap.size := fun q hq => ((uh HRK).row.lt q hq).2
     have HRN := Hd (hR6.kept hbN.size (by omega) (fun q _ h2 => hbN.block q h2))
     have HBK := Hd (heap_alloc_new w6 (Obj.cells #[.int .i64 E.k, .int .i64 E.a, .string E.nm, .string E.ot, .int .i64 E.ix.k, .int .i64 E.ix.a, .int .i64 E.ix.n, .string E.ix.nm, .slice E.ix.args.ad E.ix.args.len E.ix.args.cap, .int .i64 E.ex.k, .int .i64 E.ex.a, .int .i64 E.ex.n, .string E.ex.nm, .slice E.ex.args.ad E.ex.args.len E.ex.args.cap, .slice E.args.ad E.args.len E.args.cap, .slice E.th.ad E.th.len E.th.cap, .slice E.el.ad E.el.len E.el.cap] 56))
     have hek := (uh HCS).many
     have hel : es.length ≤ 10001 := by omega
     have hei := (uh HCS).ge
     have HEO := Hd ((hro.wide (B' := w.heap.size) (g' := Tp.blk bp (.slice ga es.length cap)) (by omega) (by omega) (by
      unfold Tp.blk
      cases hq : (Value.slice ga es.length cap).ownBlock with
      | none => left; show bp < _; omega
      | some q => left; exact hnot q hq)).go hbN.size (fun q _ _ hq => hbN.block q hq))
     have HT7 := Hd ((uh HT6).below hbN (by omega))
     have HJ7 := Hd (hj.below hbN)
     have hsb : (w6.alloc (Obj.cells #[.int .i64 E.k, .int .i64 E.a, .string E.nm, .string E.ot, .int .i64 E.ix.k, .int .i64 E.ix.a, .int .i64 E.ix.n, .string E.ix.nm, .slice E.ix.args.ad E.ix.args.len E.ix.args.cap, .int .i64 E.ex.k, .int .i64 E.ex.a, .int .i64 E.ex.n, .string E.ex.nm, .slice E.ex.args.ad E.ex.args.len E.ex.args.cap, .slice E.args.ad E.args.len E.args.cap, .slice E.th.ad E.th.len E.th.cap, .slice E.el.ad E.el.len E.el.cap] 56)).heap.size = w6.heap.size + 1 := by simp
     have hbp7 := hj.lt
     clear hro hj ht hR6 hbN HT5 HRK HQ hnot
     go_wp2_with (at_builtin; refine wpList_append_lies _ (by rfl) _ _ _ (by rfl) w.heap.size 56 t0 _ 17 248 Tryz.underlying49 (uh HI) (uh HZ0) (uh HZ1) (uh HZ2) rfl (by omega) (.slice ga es.length cap) es.length (es.flatMap (fun E : Tk.C => E.cells.toList)) (by rfl) (uh HRN).row ⟨w6.heap.size, 0, none⟩ 1 1 [.int .i64 E.k, .int .i64 E.a, .string E.nm, .string E.ot, .int .i64 E.ix.k, .int .i64 E.ix.a, .int .i64 E.ix.n, .string E.ix.nm, .slice E.ix.args.ad E.ix.args.len E.ix.args.cap, .int .i64 E.ex.k, .int .i64 E.ex.a, .int .i64 E.ex.n, .string E.ex.nm, .slice E.ex.args.ad E.ex.args.len E.ex.args.cap, .slice E.args.ad E.args.len E.args.cap, .slice E.th.ad E.th.len E.th.cap, .slice E.el.ad E.el.len E.el.cap] (by rfl) (by rfl) (World.news_of_block (uh HBK)) (by simp [Value.oneCell']) (by omega) (by unfold maxLen; omega) (by omega) (by omega) (w6.heap.size + 1) (by omega) ?_; intro gA cA w8 hoA hgA hatA hltA; have HOA := Hd hoA; have HGA := Hd hgA; have HAT := Hd hatA; clear hatA hltA hoA hgA)
     have hgA := uh HGA
     have hrow := (uh HRN).row
     have hk8 : ∀ q, q < w.heap.size → w8.heap[q]? = (w6.alloc (Obj.cells #[.int .i64 E.k, .int .i64 E.a, .string E.nm, .string E.ot, .int .i64 E.ix.k, .int .i64 E.ix.a, .int .i64 E.ix.n, .string E.ix.nm, .slice E.ix.args.ad E.ix.args.len E.ix.args.cap, .int .i64 E.ex.k, .int .i64 E.ex.a, .int .i64 E.ex.n, .string E.ex.nm, .slice E.ex.args.ad E.ex.args.len E.ex.args.cap, .slice E.args.ad E.args.len E.args.cap, .slice E.th.ad E.th.len E.th.cap, .slice E.el.ad E.el.len E.el.cap] 56)).heap[q]? := fun q hq => hgA.block q (by omega) (fun e => by have := (hrow.lt q e.symm).1; omega)
     have hT8 : Tp.Tu (ZaA bp) w.heap.size w w8 := (uh HT7).trans ⟨hgA.os, hgA.tape, hgA.output, hgA.size, fun q h1 _ => hk8 q h1⟩
     have hJ8 := (uh HJ7).kept hgA.size (fun q hq => hk8 q (by omega))
     have hR8 := (uh HRN).app (uh HEO) hgA.size (by omega) (fun q _ h2 h3 => hgA.block q h2 (fun e => h3 e.symm)) (uh HOA) ((uh HAT).imp id (fun e => by rw [e, hsb]; exact Nat.le_refl _))
     go_roundg f
     case measure => omega
     case rel => exact ⟨es ++ [E], acc ++ [x], j, uh HO6, by omega, by rw [Za]; simp; omega, by omega, hJ8, hT8, hR8⟩
  have hy := (uh HLT) rfl
  have hcs := uh HCS
  have HRK := Hd (hcs.row.kept (uh HB).size (by omega) (fun q _ hq => (uh HB).block q hq))
  have HT5 := Hd (hcs.tu.below (uh HB) hcs.tu.size)
  have HQ := Hd ((uh HRC) i w1 hcs.ge hy ((uh HJ).below (uh HB)))
  have hwz := hcs.tu.size
  have hwb := (uh HB).size
  clear hcs
  go_wp2_with fail
  refine (uh HQ).mono ?_
  intro r w6 h6
  cases hn : rec i with
  | error j =>
   rw [hn] at h6
   obtain ⟨rfl, ht⟩ := h6
   have HT := Hd ((uh HT5).then ht (by omega) (fun _ _ h => h))
   obtain rfl : o = .error j := by rw [← (uh HCS).is]; simp only [ZaV, uh HYC, hn]; rfl
   clear ht
   go_wp2_with fail
   exact ⟨rfl, rfl, uh HT⟩
  | ok p =>
   obtain ⟨x, j⟩ := p
   rw [hn] at h6
   obtain ⟨⟨E, rfl, hro⟩, hj, ht⟩ := h6
   have hgo := (uh HG) i x j hn
   have HO6 := Hd (show ZaV l rec f j (acc ++ [x]) = o by rw [← (uh HCS).is]; simp only [ZaV, uh HYC, hn]; rfl)
   have hs6 := ht.size
   have HT6 := Hd ((uh HT5).then ht (by omega) (fun _ _ h => h))
   have hR6 := (uh HRK).kept hs6 (by omega) (fun q h1 h2 => ht.block q h2 (by show ¬ q = bp; omega))
   have hbN := (Below.refl w6.heap.size w6).alloc Zl (Obj.cells #[.int .i64 E.k, .int .i64 E.a, .string E.nm, .string E.ot, .int .i64 E.ix.k, .int .i64 E.ix.a, .int .i64 E.ix.n, .string E.ix.nm, .slice E.ix.args.ad E.ix.args.len E.ix.args.cap, .int .i64 E.ex.k, .int .i64 E.ex.a, .int .i64 E.ex.n, .string E.ex.nm, .slice E.ex.args.ad E.ex.args.len E.ex.args.cap, .slice E.args.ad E.args.len E.args.cap, .slice E.th.ad E.th.len E.th.cap, .slice E.el.ad E.el.len E.el.cap] 56)
   have hnot : ∀ q, (Value.slice ga es.length cap).ownBlock = some q → q < w1.heap.size := fun q hq => ((uh HRK).row.lt q hq).2
   have HRN := Hd (hR6.kept hbN.size (by omega) (fun q _ h2 => hbN.block q h2))
   have HBK := Hd (heap_alloc_new w6 (Obj.cells #[.int .i64 E.k, .int .i64 E.a, .string E.nm, .string E.ot, .int .i64 E.ix.k, .int .i64 E.ix.a, .int .i64 E.ix.n, .string E.ix.nm, .slice E.ix.args.ad E.ix.args.len E.ix.args.cap, .int .i64 E.ex.k, .int .i64 E.ex.a, .int .i64 E.ex.n, .string E.ex.nm, .slice E.ex.args.ad E.ex.args.len E.ex.args.cap, .slice E.args.ad E.args.len E.args.cap, .slice E.th.ad E.th.len E.th.cap, .slice E.el.ad E.el.len E.el.cap] 56))
   have hek := (uh HCS).many
   have hel : es.length ≤ 10001 := by omega
   have hei := (uh HCS).ge
   have HEO := Hd ((hro.wide (B' := w.heap.size) (g' := Tp.blk bp (.slice ga es.length cap)) (by omega) (by omega) (by
    unfold Tp.blk
    cases hq : (Value.slice ga es.length cap).ownBlock with
    | none => left; show bp < _; omega
    | some q => left; exact hnot q hq)).go hbN.size (fun q _ _ hq => hbN.block q hq))
   have HT7 := Hd ((uh HT6).below hbN (by omega))
   have HJ7 := Hd (hj.below hbN)
   have hsb : (w6.alloc (Obj.cells #[.int .i64 E.k, .int .i64 E.a, .string E.nm, .string E.ot, .int .i64 E.ix.k, .int .i64 E.ix.a, .int .i64 E.ix.n, .string E.ix.nm, .slice E.ix.args.ad E.ix.args.len E.ix.args.cap, .int .i64 E.ex.k, .int .i64 E.ex.a, .int .i64 E.ex.n, .string E.ex.nm, .slice E.ex.args.ad E.ex.args.len E.ex.args.cap, .slice E.args.ad E.args.len E.args.cap, .slice E.th.ad E.th.len E.th.cap, .slice E.el.ad E.el.len E.el.cap] 56)).heap.size = w6.heap.size + 1 := by simp
   have hbp7 := hj.lt
   clear hro hj ht hR6 hbN HT5 HRK HQ hnot
   go_wp2_with (at_builtin; refine wpList_append_lies _ (by rfl) _ _ _ (by rfl) w.heap.size 56 t0 _ 17 248 Tryz.underlying49 (uh HI) (uh HZ0) (uh HZ1) (uh HZ2) rfl (by omega) (.slice ga es.length cap) es.length (es.flatMap (fun E : Tk.C => E.cells.toList)) (by rfl) (uh HRN).row ⟨w6.heap.size, 0, none⟩ 1 1 [.int .i64 E.k, .int .i64 E.a, .string E.nm, .string E.ot, .int .i64 E.ix.k, .int .i64 E.ix.a, .int .i64 E.ix.n, .string E.ix.nm, .slice E.ix.args.ad E.ix.args.len E.ix.args.cap, .int .i64 E.ex.k, .int .i64 E.ex.a, .int .i64 E.ex.n, .string E.ex.nm, .slice E.ex.args.ad E.ex.args.len E.ex.args.cap, .slice E.args.ad E.args.len E.args.cap, .slice E.th.ad E.th.len E.th.cap, .slice E.el.ad E.el.len E.el.cap] (by rfl) (by rfl) (World.news_of_block (uh HBK)) (by simp [Value.oneCell']) (by omega) (by unfold maxLen; omega) (by omega) (by omega) (w6.heap.size + 1) (by omega) ?_; intro gA cA w8 hoA hgA hatA hltA; have HOA := Hd hoA; have HGA := Hd hgA; have HAT := Hd hatA; clear hatA hltA hoA hgA)
   have hgA := uh HGA
   have hrow := (uh HRN).row
   have hk8 : ∀ q, q < w.heap.size → w8.heap[q]? = (w6.alloc (Obj.cells #[.int .i64 E.k, .int .i64 E.a, .string E.nm, .string E.ot, .int .i64 E.ix.k, .int .i64 E.ix.a, .int .i64 E.ix.n, .string E.ix.nm, .slice E.ix.args.ad E.ix.args.len E.ix.args.cap, .int .i64 E.ex.k, .int .i64 E.ex.a, .int .i64 E.ex.n, .string E.ex.nm, .slice E.ex.args.ad E.ex.args.len E.ex.args.cap, .slice E.args.ad E.args.len E.args.cap, .slice E.th.ad E.th.len E.th.cap, .slice E.el.ad E.el.len E.el.cap] 56)).heap[q]? := fun q hq => hgA.block q (by omega) (fun e => by have := (hrow.lt q e.symm).1; omega)
   have hT8 : Tp.Tu (ZaA bp) w.heap.size w w8 := (uh HT7).trans ⟨hgA.os, hgA.tape, hgA.output, hgA.size, fun q h1 _ => hk8 q h1⟩
   have hJ8 := (uh HJ7).kept hgA.size (fun q hq => hk8 q (by omega))
   have hR8 := (uh HRN).app (uh HEO) hgA.size (by omega) (fun q _ h2 h3 => hgA.block q h2 (fun e => h3 e.symm)) (uh HOA) ((uh HAT).imp id (fun e => by rw [e, hsb]; exact Nat.le_refl _))
   go_roundg f
   case measure => omega
   case rel => exact ⟨es ++ [E], acc ++ [x], j, uh HO6, by omega, by rw [Za]; simp; omega, by omega, hJ8, hT8, hR8⟩
theorem ZeI {n : Nat} (rec : Nat → Except Nat (Zap 61 n × Nat)) (i0 : Nat) (HGo : ∀ i x j, rec i = .ok (x, j) → i < j)
  (HR : ∀ (i : Nat) (W : World), i0 < i → i < l.length → Tp.J l ta c bp e W i 0 → Calls Tryz.prog 188 #[.pointer (some ⟨bp, 0, none⟩)] W (Tp.Out l ta c bp e (ZaA bp) W 0 (Zip W.heap.size bp n) (rec i)))
  (w : World) (h : Tp.J l ta c bp e w i0 0) :
  Calls Tryz.prog 204 #[.pointer (some ⟨bp, 0, none⟩)] w (Tp.Out l ta c bp e (ZaA bp) w 0 (Zma w.heap.size bp n) (Tp.block l rec i0)) := by
 obtain ⟨o, ho⟩ : ∃ o, Tp.block l rec i0 = o := ⟨_, rfl⟩
 rw [ho]
 have hlt := h.lt
 have HEQ := Hd ho
 have HW := Hd (ZaX l ta c bp e ⟨#[123]⟩ (by decide) i0 0 w h)
 have HCM := Hd (fun (W : World) (hj : Tp.J l ta c bp e W (i0 + 1) 0) => ZfF l ta c bp e rec (i0 + 1) HGo (fun i W h1 h2 h3 => HR i W (by omega) h2 h3) W hj)
 clear h ho HR HGo
 go_enter Tryz.func204, Tryz.ntmps204
 go_wp2_with fail
 refine (uh HW).mono ?_
 intro r w1 h1
 cases hn : Zak l ⟨#[123]⟩ i0 with
 | error j =>
  rw [hn] at h1
  obtain ⟨rfl, ht⟩ := h1
  have HT := Hd ht
  obtain rfl : o = .error j := by rw [← uh HEQ]; simp only [Tp.block, hn]
  clear ht
  go_wp2_with fail
  exact ⟨rfl, rfl, uh HT⟩
 | ok i1 =>
  rw [hn] at h1
  obtain ⟨rfl, hj, ht⟩ := h1
  obtain rfl : i1 = i0 + 1 := by
   unfold Zak at hn
   split at hn
   · cases hn; rfl
   cases hn
  have HE1 := Hd hn
  have HT1 := Hd ht
  have hz1 := ht.size
  have HC1 := Hd ((uh HCM) w1 hj)
  clear hj ht hn HW HCM
  go_wp2_with fail
  refine (uh HC1).mono ?_
  intro r w2 h2
  cases hn : ZaV l rec (l.length + 1) (i0 + 1) [] with
  | error j =>
   rw [hn] at h2
   obtain ⟨rfl, ht⟩ := h2
   have HT := Hd ((uh HT1).then ht hz1 (fun _ _ h => h))
   obtain rfl : o = .error j := by rw [← uh HEQ]; simp only [Tp.block, uh HE1, hn]
   clear ht
   go_wp2_with fail
   exact ⟨rfl, rfl, uh HT⟩
  | ok p =>
   obtain ⟨xs, j⟩ := p
   rw [hn] at h2
   obtain ⟨⟨⟨sa, sn, sc⟩, rfl, hro⟩, hj, ht⟩ := h2
   have HE2 := Hd hn
   have hz2 := ht.size
   have HT2 := Hd ((uh HT1).then ht hz1 (fun _ _ h => h))
   have HR2 := Hd (hro.wide (B' := w.heap.size) (g' := bp) (by omega) (by omega) (Or.inl (by omega)))
   have HW2 := Hd (ZaX l ta c bp e ⟨#[125]⟩ (by decide) j 0 w2 hj)
   clear hj ht hn hro HC1
   go_wp2_with fail
   refine (uh HW2).mono ?_
   intro r w3 h3
   cases hn : Zak l ⟨#[125]⟩ j with
   | error j' =>
    rw [hn] at h3
    obtain ⟨rfl, ht⟩ := h3
    have HT := Hd ((uh HT2).then ht (by omega) (fun _ _ h => h))
    obtain rfl : o = .error j' := by rw [← uh HEQ]; simp only [Tp.block, uh HE1, uh HE2, hn]
    clear ht
    go_wp2_with fail
    exact ⟨rfl, rfl, uh HT⟩
   | ok j' =>
    rw [hn] at h3
    obtain ⟨rfl, hj, ht⟩ := h3
    obtain rfl : o = .ok (xs, j') := by rw [← uh HEQ]; simp only [Tp.block, uh HE1, uh HE2, hn]
    have HT3 := Hd ((uh HT2).then ht (by omega) (fun _ _ h => h))
    have HR3 := Hd ((uh HR2).tu ht Zl (fun q hq => Or.inl (by have : q = bp := hq; omega)))
    have HJ3 := Hd hj
    clear hj ht hn
    go_wp2_with fail
    go_ret
    exact ⟨⟨⟨sa, sn, sc⟩, rfl, uh HR3⟩, uh HJ3, uh HT3⟩
end
section
variable {l : List Tp.T} {e : Int} {i j : Nat}
theorem ZaJ {s : ByteArray} (h : Zak l s i = .ok j) : j = i + 1 := by
 unfold Zak at h
 split at h
 · cases h; rfl
 cases h
theorem ZfB {s : ByteArray} {b : Nat} (h : Zba l s b i = .ok j) : j = i + 1 := by
 unfold Zba at h
 split at h
 · cases h
 exact ZaJ h
theorem Zb4 {x : ByteArray} (h : Tp.name l i = .ok (x, j)) : j = i + 1 := by
 unfold Tp.name at h
 split at h
 · cases h; rfl
 cases h
theorem Ze9 {x : Int} (h : Tp.number l i = .ok (x, j)) : j = i + 1 := by
 unfold Tp.number at h
 split at h
 · cases h; rfl
 cases h
theorem ZdS {x : Int} (h : ZbQ l i = .ok (x, j)) : j = i + 1 := by
 unfold ZbQ at h
 split at h
 · cases h
 exact Ze9 h
end
theorem ZfK : (Tryz.prog.info? 59).map (fun i => (i.zero, i.size, i.bytes)) = some (some (.agg #[.string ⟨#[]⟩, .int .i64 0]), 2, 24) := by kernel_rfl
structure Tp.X2 (W : World) (b : Nat) (nm : ByteArray) (z : Int) : Prop where
 c0 : W.cell? ⟨b, 0, none⟩ = some (.string nm)
 c1 : W.cell? ⟨b, 1, none⟩ = some (.int .i64 z)
 f : ∀ j, W.frozen? ⟨b, j, none⟩ = false
section
variable {W W' : World} {b : Nat} {nm : ByteArray} {z : Int}
theorem Tp.X2.lt (h : Tp.X2 W b nm z) : b < W.heap.size := World.block_lt_of_cell? W _ h.c0
theorem Tp.X2.kept (h : Tp.X2 W b nm z) (hb : W'.heap[b]? = W.heap[b]?) : Tp.X2 W' b nm z := by
 have hc : ∀ j, W'.cell? ⟨b, j, none⟩ = W.cell? ⟨b, j, none⟩ := fun j => Zc (a := ⟨b, j, none⟩) hb
 exact ⟨(hc 0).trans h.c0, (hc 1).trans h.c1, fun j => (Zf (a := ⟨b, j, none⟩) hb).trans (h.f j)⟩
theorem Tp.X2.tu {D : Nat → Prop} (h : Tp.X2 W b nm z) (hb : Tp.Tu D W.heap.size W W') (hD : ¬ D b) : Tp.X2 W' b nm z := h.kept (hb.block b h.lt hD)
theorem Tp.X2.set0 (h : Tp.X2 W b nm z) (t : ByteArray) : Tp.X2 (W.setCell ⟨b, 0, none⟩ (.string t)) b t z :=
 ⟨World.cell?_setCell_same _ _ _ h.c0, (Tp.set_ne (by decide)).trans h.c1, fun j => by rw [World.frozen?_setCell]; exact h.f j⟩
theorem Tp.X2.set1 (h : Tp.X2 W b nm z) (t : Int) : Tp.X2 (W.setCell ⟨b, 1, none⟩ (.int .i64 t)) b nm t :=
 ⟨(Tp.set_ne (by decide)).trans h.c0, World.cell?_setCell_same _ _ _ h.c1, fun j => by rw [World.frozen?_setCell]; exact h.f j⟩
end
theorem Tp.Rw.keptV {α β : Type} {B d : Nat} {W W1 : World} {ty : TypeId} {wide : Nat} {cl : α → List Value} {S : α → β → Prop} {v : Value} {es : List α} {xs : List β} (h : Tp.Rw B d W ty wide cl (fun _ => S) v es xs) (hz : W.heap.size ≤ W1.heap.size) (hk : ∀ q, v.ownBlock = some q → W1.heap[q]? = W.heap[q]?) : Tp.Rw B d W1 ty wide cl (fun _ => S) v es xs :=
 ⟨Zet h.row hk, h.len, fun i E x h1 h2 _ _ _ => (h.own i E x h1 h2).now⟩
def ZfT (v : ByteArray × Int) : List Value := [.string v.1, .int .i64 v.2]
theorem ZgJ (v : ByteArray × Int) : (ZfT v).length = 2 := rfl
theorem ZfQ (W : World) (g o : Nat) (E : ByteArray × Int) (h : ∀ (j : Nat) (u : Value), (ZfT E)[j]? = some u → W.cell? ⟨g, o + j, none⟩ = some u) : Zew W g o E := ⟨h 0 _ rfl, h 1 _ rfl⟩
def Tp.gV (B bp : Nat) (x : List (ByteArray × Int)) (r : Ending) (W : World) : Prop := ∃ s : Tk.Sl, r = .returned (.slice s.ad s.len s.cap) ∧ Tp.Ow B bp W (fun W => Tk.RS W 2 (Zew W) Zfe s x)
structure Tp.Vs (l : List Tp.T) (ta : Option Addr) (c bp : Nat) (e : Int) (w : World) (b : Nat) (o : Except Nat (List (ByteArray × Int) × Nat)) (f : Nat) (v : Value) (acc : List (ByteArray × Int)) (i : Nat) (wr : World) : Prop where
 is : Tp.vars l f i acc = o
 fuel : l.length < f + i
 many : acc.length + f = l.length + 1
 at_ : Tp.J l ta c bp e wr i b
 tu : Tp.Tu (ZaA bp) w.heap.size w wr
 row : Tp.Rw w.heap.size bp wr 59 2 ZfT (fun _ => Zfe) v acc acc
section
variable (l : List Tp.T) (ta : Option Addr) (c bp : Nat) (e : Int)
theorem Ziq (i0 b : Nat) (w : World) (h : Tp.J l ta c bp e w i0 b) :
  Calls Tryz.prog 154 #[.pointer (some ⟨bp, 0, none⟩)] w (Tp.Out l ta c bp e (ZaA bp) w b (Tp.gV w.heap.size bp) (Tp.vars l (l.length + 1) i0 [])) := by
 obtain ⟨o, ho⟩ : ∃ o, Tp.vars l (l.length + 1) i0 [] = o := ⟨_, rfl⟩
 rw [ho]
 have hlt := h.lt
 have HC0 := Hd (show Tp.Vs l ta c bp e w b o (l.length + 1) (.slice none 0 0) [] i0 w from ⟨ho, by omega, by simp, h, Tp.Tu.refl _ _ _, Tp.Rw.nil _ _ _ _ _ _ _⟩)
 obtain ⟨t0, hi0, hz0, hz1', hz2⟩ := Tp.info_of ZfK
 have HI := Hd hi0
 have HZ0 := Hd hz0
 have HZ1 := Hd hz1'
 have HZ2 := Hd hz2
 clear h ho hi0 hz0 hz1' hz2
 go_enter Tryz.func154, Tryz.ntmps154
 go_wp2_with fail
 go_loopg [3] (l.length + 1) (fun f lv wr => ∃ acc i, Tp.Vs l ta c bp e w b o f lv acc i wr)
 case atStart => exact ⟨[], i0, uh HC0⟩
 case round =>
  clear HC0
  obtain ⟨acc, i, hcs⟩ := hrel
  have hf := hcs.fuel
  have hle := hcs.at_.le
  obtain ⟨f, rfl⟩ : ∃ f, gk = f + 1 := ⟨gk - 1, by omega⟩
  have HCS := Hd hcs
  obtain ⟨ga, cap, rfl, hcap⟩ := hcs.row.form
  have hll := hcs.at_.fine.few
  have hwz := hcs.tu.size
  have hbA := (Below.refl wr.heap.size wr).alloc Zl (Obj.cells #[.string ⟨#[]⟩, .int .i64 0] 59)
  have HX := Hd (show Tp.X2 (wr.alloc (Obj.cells #[.string ⟨#[]⟩, .int .i64 0] 59)) wr.heap.size ⟨#[]⟩ 0 from ⟨by go_simp, by go_simp, fun j => by go_simp⟩)
  have HU := Hd (Tp.Tu.of_below (D := ZaA bp) hbA)
  have HJ := Hd (hcs.at_.below hbA)
  have hmany := hcs.many
  have hal : acc.length ≤ 10001 := by omega
  have hbw := hcs.at_.lt
  clear hcs hbA
  obtain ⟨y1, hy1⟩ : ∃ y, Zal l i ⟨#[118, 97, 114]⟩ = y := ⟨_, rfl⟩
  obtain ⟨y2, hy2⟩ : ∃ y, Zal l i ⟨#[97, 114, 114]⟩ = y := ⟨_, rfl⟩
  have HY1 := Hd hy1
  have HY2 := Hd hy2
  go_wp2_with fail
  have hsa : (wr.alloc (Obj.cells #[.string ⟨#[]⟩, .int .i64 0] 59)).heap.size = wr.heap.size + 1 := by simp
  generalize (wr.alloc (Obj.cells #[.string ⟨#[]⟩, .int .i64 0] 59)) = wa at *
  refine (Zbi l ta c bp e ⟨#[118, 97, 114]⟩ (by decide) i b wa (uh HJ) y1 hy1).mono ?_
  rintro r w1 ⟨rfl, hj, ht⟩
  have HX1 := Hd ((uh HX).tu ht (show ¬ wr.heap.size = bp by omega))
  have HU1 := Hd ((uh HU).then ht (by omega) (fun _ _ h => h))
  have HJ1 := Hd hj
  have hs1 := ht.size
  clear hj ht HX HU HJ hy1 hy2
  cases y1
  · replace HJ1 := Hd (show Tp.J l ta c bp e w1 i b by simpa using uh HJ1)
    go_wp2_with fail
    refine (Zbi l ta c bp e ⟨#[97, 114, 114]⟩ (by decide) i b w1 (uh HJ1) y2 (uh HY2)).mono ?_
    rintro r w2 ⟨rfl, hj, ht⟩
    have HX2 := Hd ((uh HX1).tu ht (show ¬ wr.heap.size = bp by omega))
    have HU2 := Hd ((uh HU1).then ht (by omega) (fun _ _ h => h))
    have HJ2 := Hd hj
    have hs2 := ht.size
    clear hj ht HX1 HU1 HJ1
    cases y2
    · replace HJ2 := Hd (show Tp.J l ta c bp e w2 i b by simpa using uh HJ2)
      have hcs := uh HCS
      obtain rfl : o = .ok (acc, i) := by rw [← hcs.is]; simp only [Tp.vars, uh HY1, uh HY2, Zb, if_false]
      have hU := uh HU2
      have HRK := Hd (hcs.row.keptV hU.size (fun q hq => hU.block q (hcs.row.row.lt q hq).2 (by have := (hcs.row.row.lt q hq).1; show ¬ q = bp; omega)))
      have HT5 := Hd (hcs.tu.then hU hwz (fun _ _ h => h))
      clear hcs hU
      go_wp2_with fail
      go_ret
      have hR := uh HRK
      obtain ⟨s, hs, hos⟩ := hR.reads (lies := fun W => Zew W) (by omega) ZgJ ZfQ (by omega)
      exact ⟨⟨s, by rw [hs]; rfl, hos⟩, uh HJ2, uh HT5⟩
    replace HJ2 := Hd (show Tp.J l ta c bp e w2 (i + 1) b by simpa using uh HJ2)
    go_wp2_with fail
    refine (ZcJ l ta c bp e (i + 1) b w2 (uh HJ2)).mono ?_
    intro r w3 h3
    cases hn : Tp.name l (i + 1) with
    | error j =>
     rw [hn] at h3
     obtain ⟨rfl, ht⟩ := h3
     have HT := Hd ((uh HCS).tu.then ((uh HU2).then ht (by omega) (fun _ _ h => h)) (by omega) (fun _ _ h => h))
     obtain rfl : o = .error j := by rw [← (uh HCS).is]; simp only [Tp.vars, uh HY1, Zb, if_false, uh HY2, if_true, hn]
     clear ht
     go_wp2_with fail
     exact ⟨rfl, rfl, uh HT⟩
    | ok p =>
     obtain ⟨nm, j⟩ := p
     rw [hn] at h3
     obtain ⟨⟨rfl, hnl⟩, hj, ht⟩ := h3
     obtain rfl := Zb4 hn
     have HE1 := Hd hn
     have HNL := Hd hnl
     have HX3 := Hd ((uh HX2).tu ht (show ¬ wr.heap.size = bp by omega))
     have HU3 := Hd ((uh HU2).then ht (by omega) (fun _ _ h => h))
     have HJ3 := Hd hj
     have hs3 := ht.size
     clear hj ht HX2 HU2 HJ2
     clear hnl hn
     have HUs := Hd ((uh HU3).set (b := wr.heap.size) (o := 0) (.string nm) (by omega))
     have HJs := Hd ((uh HJ3).set (q := wr.heap.size) (o := 0) (.string nm) (by omega))
     have HXs := Hd ((uh HX3).set0 nm)
     have hss : (w3.setCell ⟨wr.heap.size, 0, none⟩ (.string nm)).heap.size = w3.heap.size := by simp [World.setCell]
     obtain ⟨n0, n1, nf⟩ := uh HX3
     clear HX3 HU3 HJ3
     go_wp2_with fail
     generalize (w3.setCell ⟨wr.heap.size, 0, none⟩ (.string nm)) = v3 at *
     clear n0 n1 nf
     refine (Zgq l ta c bp e (i + 1 + 1) b v3 (uh HJs)).mono ?_
     intro r w4 h4
     cases hn : ZbQ l (i + 1 + 1) with
     | error j =>
      rw [hn] at h4
      obtain ⟨rfl, ht⟩ := h4
      have HT := Hd ((uh HCS).tu.then ((uh HUs).then ht (by omega) (fun _ _ h => h)) (by omega) (fun _ _ h => h))
      obtain rfl : o = .error j := by rw [← (uh HCS).is]; simp only [Tp.vars, uh HY1, Zb, if_false, uh HY2, if_true, uh HE1, hn]
      clear ht
      go_wp2_with fail
      exact ⟨rfl, rfl, uh HT⟩
     | ok p =>
      obtain ⟨z, j⟩ := p
      rw [hn] at h4
      obtain ⟨⟨rfl, hv⟩, hj, ht⟩ := h4
      obtain rfl := ZdS hn
      have HE2 := Hd hn
      have HX4 := Hd ((uh HXs).tu ht (show ¬ wr.heap.size = bp by omega))
      have HU4 := Hd ((uh HUs).then ht (by omega) (fun _ _ h => h))
      have HJ4 := Hd hj
      have hs4 := ht.size
      have hss3 := hss
      clear hj ht HXs HUs HJs hn hv hss
      have HUs := Hd ((uh HU4).set (b := wr.heap.size) (o := 1) (.int .i64 z) (by omega))
      have HJs := Hd ((uh HJ4).set (q := wr.heap.size) (o := 1) (.int .i64 z) (by omega))
      have HXs := Hd ((uh HX4).set1 z)
      have hss : (w4.setCell ⟨wr.heap.size, 1, none⟩ (.int .i64 z)).heap.size = w4.heap.size := by simp [World.setCell]
      obtain ⟨n0, n1, nf⟩ := uh HX4
      clear HX4 HU4 HJ4
      go_wp2_with fail
      generalize (w4.setCell ⟨wr.heap.size, 1, none⟩ (.int .i64 z)) = v4 at *
      clear n0 n1 nf
      refine (ZaX l ta c bp e ⟨#[59]⟩ (by decide) (i + 1 + 1 + 1) b v4 (uh HJs)).mono ?_
      intro r w9 h9
      cases hn : Zak l ⟨#[59]⟩ (i + 1 + 1 + 1) with
      | error j =>
       rw [hn] at h9
       obtain ⟨rfl, ht⟩ := h9
       have HT := Hd ((uh HCS).tu.then ((uh HUs).then ht (by omega) (fun _ _ h => h)) (by omega) (fun _ _ h => h))
       obtain rfl : o = .error j := by rw [← (uh HCS).is]; simp only [Tp.vars, uh HY1, Zb, if_false, uh HY2, if_true, uh HE1, uh HE2, hn]
       clear ht
       go_wp2_with fail
       exact ⟨rfl, rfl, uh HT⟩
      | ok j =>
       rw [hn] at h9
       obtain ⟨rfl, hj, ht⟩ := h9
       obtain rfl := ZaJ hn
       have HE9 := Hd hn
       have HX9 := Hd ((uh HXs).tu ht (show ¬ wr.heap.size = bp by omega))
       have HU9 := Hd ((uh HUs).then ht (by omega) (fun _ _ h => h))
       have HJ9 := Hd hj
       have hs9 := ht.size
       clear hj ht HXs HUs HJs hn
       have hcs := uh HCS
       have HO := Hd (show Tp.vars l f (i + 1 + 1 + 1 + 1) (acc ++ [(nm, z)]) = o by have h1 := hcs.is; simp only [Tp.vars, uh HY1, Zb, if_false, uh HY2, if_true, uh HE1, uh HE2, uh HE9] at h1; exact h1)
       have hU := uh HU9
       have hbN := (Below.refl w9.heap.size w9).alloc Zl (Obj.cells #[.string nm, .int .i64 z] 59)
       have hkr : ∀ q, (Value.slice ga acc.length cap).ownBlock = some q → (w9.alloc (Obj.cells #[.string nm, .int .i64 z] 59)).heap[q]? = wr.heap[q]? := fun q hq => by
        have h1 := hcs.row.row.lt q hq
        exact (hbN.block q (by omega)).trans (hU.block q h1.2 (by show ¬ q = bp; omega))
       have HRN := Hd (hcs.row.keptV (by have := hbN.size; omega) hkr)
       have HT7 := Hd ((hcs.tu.then hU hwz (fun _ _ h => h)).below hbN (by omega))
       have HJ7 := Hd ((uh HJ9).below hbN)
       have HBK := Hd (heap_alloc_new w9 (Obj.cells #[.string nm, .int .i64 z] 59))
       have hsb : (w9.alloc (Obj.cells #[.string nm, .int .i64 z] 59)).heap.size = w9.heap.size + 1 := by simp
       obtain ⟨n0, n1, nf⟩ := uh HX9
       clear hcs hU hbN hkr HX9 HU9
       go_wp2_with (at_builtin; refine wpList_append_lies _ (by rfl) _ _ _ (by rfl) w.heap.size 59 t0 _ 2 24 Tryz.underlying48 (uh HI) (uh HZ0) (uh HZ1) (uh HZ2) rfl (by omega) (.slice ga acc.length cap) acc.length (acc.flatMap ZfT) (by rfl) (uh HRN).row ⟨w9.heap.size, 0, none⟩ 1 1 [.string nm, .int .i64 z] (by rfl) (by rfl) (World.news_of_block (uh HBK)) (by simp [Value.oneCell']) (by omega) (by unfold maxLen; omega) (by omega) (by omega) (w9.heap.size + 1) (by omega) ?_; intro gA cA w8 hoA hgA hatA hltA; have HOA := Hd hoA; have HGA := Hd hgA; have HAT := Hd hatA; clear hatA hltA hoA hgA)
       have hgA := uh HGA
       have hrow := (uh HRN).row
       have hk8 : ∀ q, q < w.heap.size → w8.heap[q]? = (w9.alloc (Obj.cells #[.string nm, .int .i64 z] 59)).heap[q]? := fun q hq => hgA.block q (by omega) (fun e => by have := (hrow.lt q e.symm).1; omega)
       have hT8 : Tp.Tu (ZaA bp) w.heap.size w w8 := (uh HT7).trans ⟨hgA.os, hgA.tape, hgA.output, hgA.size, fun q h1 _ => hk8 q h1⟩
       have hJ8 := (uh HJ7).kept hgA.size (fun q hq => hk8 q (by omega))
       have hR8 := (uh HRN).app (E := (nm, z)) (x := (nm, z)) (fun _ _ _ => ⟨rfl, uh HNL⟩) hgA.size (by omega) (fun q _ h2 h3 => hgA.block q h2 (fun e => h3 e.symm)) (uh HOA) ((uh HAT).imp id (fun e => by rw [e, hsb]; exact Nat.le_refl _))
       go_roundg f
       case measure => omega
       case rel => exact ⟨acc ++ [(nm, z)], i + 1 + 1 + 1 + 1, uh HO, by omega, by rw [Za]; simp; omega, hJ8, hT8, hR8⟩
  replace HJ1 := Hd (show Tp.J l ta c bp e w1 (i + 1) b by simpa using uh HJ1)
  go_wp2_with fail
  refine (ZcJ l ta c bp e (i + 1) b w1 (uh HJ1)).mono ?_
  intro r w3 h3
  cases hn : Tp.name l (i + 1) with
  | error j =>
   rw [hn] at h3
   obtain ⟨rfl, ht⟩ := h3
   have HT := Hd ((uh HCS).tu.then ((uh HU1).then ht (by omega) (fun _ _ h => h)) (by omega) (fun _ _ h => h))
   obtain rfl : o = .error j := by rw [← (uh HCS).is]; simp only [Tp.vars, uh HY1, if_true, hn]
   clear ht
   go_wp2_with fail
   exact ⟨rfl, rfl, uh HT⟩
  | ok p =>
   obtain ⟨nm, j⟩ := p
   rw [hn] at h3
   obtain ⟨⟨rfl, hnl⟩, hj, ht⟩ := h3
   obtain rfl := Zb4 hn
   have HE1 := Hd hn
   have HNL := Hd hnl
   have HX3 := Hd ((uh HX1).tu ht (show ¬ wr.heap.size = bp by omega))
   have HU3 := Hd ((uh HU1).then ht (by omega) (fun _ _ h => h))
   have HJ3 := Hd hj
   have hs3 := ht.size
   clear hj ht HX1 HU1 HJ1
   clear hnl hn
   have HUs := Hd ((uh HU3).set (b := wr.heap.size) (o := 0) (.string nm) (by omega))
   have HJs := Hd ((uh HJ3).set (q := wr.heap.size) (o := 0) (.string nm) (by omega))
   have HXs := Hd ((uh HX3).set0 nm)
   have hss : (w3.setCell ⟨wr.heap.size, 0, none⟩ (.string nm)).heap.size = w3.heap.size := by simp [World.setCell]
   obtain ⟨n0, n1, nf⟩ := uh HX3
   clear HX3 HU3 HJ3
   go_wp2_with fail
   generalize (w3.setCell ⟨wr.heap.size, 0, none⟩ (.string nm)) = v3 at *
   clear n0 n1 nf
   refine (ZaX l ta c bp e ⟨#[59]⟩ (by decide) (i + 1 + 1) b v3 (uh HJs)).mono ?_
   intro r w9 h9
   cases hn : Zak l ⟨#[59]⟩ (i + 1 + 1) with
   | error j =>
    rw [hn] at h9
    obtain ⟨rfl, ht⟩ := h9
    have HT := Hd ((uh HCS).tu.then ((uh HUs).then ht (by omega) (fun _ _ h => h)) (by omega) (fun _ _ h => h))
    obtain rfl : o = .error j := by rw [← (uh HCS).is]; simp only [Tp.vars, uh HY1, if_true, uh HE1, hn]
    clear ht
    go_wp2_with fail
    exact ⟨rfl, rfl, uh HT⟩
   | ok j =>
    rw [hn] at h9
    obtain ⟨rfl, hj, ht⟩ := h9
    obtain rfl := ZaJ hn
    have HE9 := Hd hn
    have HX9 := Hd ((uh HXs).tu ht (show ¬ wr.heap.size = bp by omega))
    have HU9 := Hd ((uh HUs).then ht (by omega) (fun _ _ h => h))
    have HJ9 := Hd hj
    have hs9 := ht.size
    clear hj ht HXs HUs HJs hn
    have hcs := uh HCS
    have HO := Hd (show Tp.vars l f (i + 1 + 1 + 1) (acc ++ [(nm, 0)]) = o by have h1 := hcs.is; simp only [Tp.vars, uh HY1, if_true, uh HE1, uh HE9] at h1; exact h1)
    have hU := uh HU9
    have hbN := (Below.refl w9.heap.size w9).alloc Zl (Obj.cells #[.string nm, .int .i64 0] 59)
    have hkr : ∀ q, (Value.slice ga acc.length cap).ownBlock = some q → (w9.alloc (Obj.cells #[.string nm, .int .i64 0] 59)).heap[q]? = wr.heap[q]? := fun q hq => by
     have h1 := hcs.row.row.lt q hq
     exact (hbN.block q (by omega)).trans (hU.block q h1.2 (by show ¬ q = bp; omega))
    have HRN := Hd (hcs.row.keptV (by have := hbN.size; omega) hkr)
    have HT7 := Hd ((hcs.tu.then hU hwz (fun _ _ h => h)).below hbN (by omega))
    have HJ7 := Hd ((uh HJ9).below hbN)
    have HBK := Hd (heap_alloc_new w9 (Obj.cells #[.string nm, .int .i64 0] 59))
    have hsb : (w9.alloc (Obj.cells #[.string nm, .int .i64 0] 59)).heap.size = w9.heap.size + 1 := by simp
    obtain ⟨n0, n1, nf⟩ := uh HX9
    clear hcs hU hbN hkr HX9 HU9
    go_wp2_with (at_builtin; refine wpList_append_lies _ (by rfl) _ _ _ (by rfl) w.heap.size 59 t0 _ 2 24 Tryz.underlying48 (uh HI) (uh HZ0) (uh HZ1) (uh HZ2) rfl (by omega) (.slice ga acc.length cap) acc.length (acc.flatMap ZfT) (by rfl) (uh HRN).row ⟨w9.heap.size, 0, none⟩ 1 1 [.string nm, .int .i64 0] (by rfl) (by rfl) (World.news_of_block (uh HBK)) (by simp [Value.oneCell']) (by omega) (by unfold maxLen; omega) (by omega) (by omega) (w9.heap.size + 1) (by omega) ?_; intro gA cA w8 hoA hgA hatA hltA; have HOA := Hd hoA; have HGA := Hd hgA; have HAT := Hd hatA; clear hatA hltA hoA hgA)
    have hgA := uh HGA
    have hrow := (uh HRN).row
    have hk8 : ∀ q, q < w.heap.size → w8.heap[q]? = (w9.alloc (Obj.cells #[.string nm, .int .i64 0] 59)).heap[q]? := fun q hq => hgA.block q (by omega) (fun e => by have := (hrow.lt q e.symm).1; omega)
    have hT8 : Tp.Tu (ZaA bp) w.heap.size w w8 := (uh HT7).trans ⟨hgA.os, hgA.tape, hgA.output, hgA.size, fun q h1 _ => hk8 q h1⟩
    have hJ8 := (uh HJ7).kept hgA.size (fun q hq => hk8 q (by omega))
    have hR8 := (uh HRN).app (E := (nm, 0)) (x := (nm, 0)) (fun _ _ _ => ⟨rfl, uh HNL⟩) hgA.size (by omega) (fun q _ h2 h3 => hgA.block q h2 (fun e => h3 e.symm)) (uh HOA) ((uh HAT).imp id (fun e => by rw [e, hsb]; exact Nat.le_refl _))
    go_roundg f
    case measure => omega
    case rel => exact ⟨acc ++ [(nm, 0)], i + 1 + 1 + 1, uh HO, by omega, by rw [Za]; simp; omega, hJ8, hT8, hR8⟩
end
end Go.Proofs.YtfccpddehpgfoaaGreatDoor
