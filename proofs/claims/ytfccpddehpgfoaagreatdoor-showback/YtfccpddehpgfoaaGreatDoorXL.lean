/- By the verifier. -/
import Derived.Test.YtfccpddehpgfoaaGreatDoorUH
import Derived.Test.YtfccpddehpgfoaaGreatDoorXK
set_option maxRecDepth 100000
set_option maxHeartbeats 6400000
namespace Go.Proofs.YtfccpddehpgfoaaGreatDoor
open Go.RowKit
set_option linter.unusedVariables false
section
variable {P : Program} {ops : Array Oper} {Q : Exit → Act → World → Prop} {rest : List Oper} {o : Oper} {T : List Value} {W : World} {ty : TypeId} {cs z : Array Value} {d : TypeDesc} {size a t p q v b off : Nat}
theorem Lq.put {x : Value} (hd : o.dst = some t) : (Act.put ⟨T.toArray, []⟩ o.dst x) = ⟨(T.set t x).toArray, []⟩ := by rw [hd]; simp [Act.put]
theorem Zi5 {x : Value} (h : T[a]? = some x) : (Act.eval ⟨T.toArray, []⟩ (.tmp a)) = x := by simp [Act.eval, h]
theorem Zih {x : Value} (ho : o.op = .move (.tmp a)) (hd : o.dst = some t) (hg : o.guard = none) (hx : T[a]? = some x) (h : wpList P ops Q rest ⟨(T.set t x).toArray, []⟩ W) : wpList P ops Q (o :: rest) ⟨T.toArray, []⟩ W := by
 refine wpList_plain hg fun K hK => ?_
 unfold Oper.wp execOp
 simp only [ho, Zi5 hx, Sem.run_pure]
 refine hK _ _ ?_
 rw [Lq.put hd]
 exact h
theorem ZkO {x : Value} (ho : o.op = .assign (.tmp a)) (hd : o.dst = some t) (hg : o.guard = none) (hx : T[a]? = some x) (h : wpList P ops Q rest ⟨(T.set t x).toArray, []⟩ W) : wpList P ops Q (o :: rest) ⟨T.toArray, []⟩ W := by
 refine wpList_plain hg fun K hK => ?_
 unfold Oper.wp execOp
 simp only [ho, Zi5 hx, Sem.run_pure]
 refine hK _ _ ?_
 rw [Lq.put hd]
 exact h
theorem Zk1 {tyS : TypeId} {i len cap : Nat} (ho : o.op = .indexAddr tyS (.tmp p) (.tmp q)) (hd : o.dst = some t) (hg : o.guard = none) (hp : T[p]? = some (.slice (some ⟨b, off, none⟩) len cap)) (hq : T[q]? = some (.int .i64 (i : Nat))) (hlt : i < len) (huS : P.underlying tyS = some (.slice ty)) (hi : (P.info? ty).map (·.size) = some size)
  (h : wpList P ops Q rest ⟨(T.set t (.pointer (some ⟨b, off + i * size, none⟩))).toArray, []⟩ W) : wpList P ops Q (o :: rest) ⟨T.toArray, []⟩ W := by
 refine wpList_plain hg fun K hK => ?_
 unfold Oper.wp execOp
 simp only [ho, Zi5 hp, Zi5 hq, Sem.run_bind, Sem.run_pure, Result.andThen_ok, ZfW huS hi hlt]
 refine hK _ _ ?_
 rw [Lq.put hd]
 exact h
theorem Zfu (ho : o.op = .load ty (.tmp a)) (hd : o.dst = some t) (hg : o.guard = none) (ha : T[a]? = some (.pointer (some ⟨b, off, none⟩))) (hc : ∀ j v, cs[j]? = some v → W.cell? ⟨b, off + j, none⟩ = some v) (hu : P.underlying ty = some d) (hs : (match d with | .struct _ | .array _ _ => true | _ => false) = true) (hi : (P.info? ty).map (·.size) = some cs.size)
  (h : wpList P ops Q rest ⟨(T.set t (.agg cs)).toArray, []⟩ W) : wpList P ops Q (o :: rest) ⟨T.toArray, []⟩ W := by
 refine wpList_plain hg fun K hK => ?_
 unfold Oper.wp execOp
 simp only [ho, Zi5 ha, Instr.loadAt, Instr.sureAddr, Sem.run_bind, Sem.run_pure, Result.andThen_ok, Zho hc hu hs hi]
 refine hK _ _ ?_
 rw [Lq.put hd]
 exact h
theorem Zmo (ho : o.op = .alloc ty) (hd : o.dst = some t) (hg : o.guard = none) (hz : (P.info? ty).map (fun i => (i.zero, i.size)) = some (some (.agg z), size)) (h : wpList P ops Q rest ⟨(T.set t (.pointer (some ⟨W.heap.size, 0, none⟩))).toArray, []⟩ (W.alloc (.cells z ty))) : wpList P ops Q (o :: rest) ⟨T.toArray, []⟩ W := by
 refine wpList_plain hg fun K hK => ?_
 unfold Oper.wp execOp
 simp only [ho, Instr.alloc, Sem.run_bind, (zero_of_info hz).1, Result.andThen_ok, newVar, Value.cells]
 refine hK _ _ ?_
 rw [Lq.put hd]
 exact h
theorem Lq.st (ho : o.op = .store ty (.tmp p) (.tmp v)) (hd : o.dst = none) (hg : o.guard = none) (hp : T[p]? = some (.pointer (some ⟨W.heap.size, 0, none⟩))) (hv : T[v]? = some (.agg cs)) (hi : (P.info? ty).map (·.size) = some cs.size) (hz : z.size = cs.size) (h1 : ∀ v ∈ cs.toList, v.oneCell' = true)
  (h : wpList P ops Q rest ⟨T.toArray, []⟩ (W.alloc (.cells cs ty))) : wpList P ops Q (o :: rest) ⟨T.toArray, []⟩ (W.alloc (.cells z ty)) := by
 refine wpList_plain hg fun K hK => ?_
 unfold Oper.wp execOp
 simp only [ho, Zi5 hp, Zi5 hv, Instr.storeAt, Instr.sureAddr, Sem.run_bind, Sem.run_pure, Result.andThen_ok, run_storeVar_new W ty z cs hi hz (Array.all_eq_true_iff_forall_mem.2 (fun v hv => h1 v (by simpa using hv)))]
 refine hK _ _ ?_
 rw [hd]
 exact h
end
def Tk.E.ar (q : Tk.E) : Array Value := #[.int .i64 q.k, .int .i64 q.a, .int .i64 q.n, .string q.nm, .slice q.args.ad q.args.len q.args.cap]
theorem Tk.ELies.cells {w : World} {b o : Nat} {c : Tk.E} (h : Tk.ELies w b o c) : ∀ j v, c.ar[j]? = some v → w.cell? ⟨b, o + j, none⟩ = some v := by
 obtain ⟨x0, x1, x2, x3, x4⟩ := h
 intro j v hj
 match j, hj with
 | 0, hj => cases hj; exact x0
 | 1, hj => cases hj; exact x1
 | 2, hj => cases hj; exact x2
 | 3, hj => cases hj; exact x3
 | 4, hj => cases hj; exact x4
 | j + 5, hj => simp [Tk.E.ar] at hj
theorem ZhH (q : Tk.E) : ∀ v ∈ q.ar.toList, v.oneCell' = true := fun v hv => by simp [Tk.E.ar] at hv; rcases hv with h | h | h | h | h <;> subst h <;> rfl
theorem ZbU : (Tryz.prog.info? 52).map (fun i => (i.zero, i.size)) = some (some (.agg (Tk.E.mk 0 0 0 ⟨#[]⟩ ⟨none, 0, 0⟩).ar), 5) := by kernel_rfl
theorem Zgi (n m : Nat) (ih : ∀ (q q2 : Tk.E) (x : Zat n) (y : Zat m) (w : World), Tk.RE w n q x → Tk.RE w m q2 y → Calls Tryz.prog 86 #[.agg (q.ar), .agg (q2.ar)] w fun r w' => r = .returned (.bool (Zai n m x y)) ∧ Below w.heap.size w w')
  (s t : Tk.Sl) (l : List (Zat n)) (k : List (Zat m)) (w : World) (hs : Tk.RS w 5 (Tk.ELies w) (fun q x => Tk.RE w n q x) s l) (ht : Tk.RS w 5 (Tk.ELies w) (fun q x => Tk.RE w m q x) t k) :
  Calls Tryz.prog 133 #[.slice s.ad s.len s.cap, .slice t.ad t.len t.cap, .func (.func 86) #[] #[]] w fun r w' => r = .returned (.bool (Zaa (Zai n m) l k)) ∧ Below w.heap.size w w' := by
 have hlen := hs.len
 have hlen2 := ht.len
 have hfew := hs.few
 rw [← hlen] at hfew
 have IH := Hd ih
 have HS := Hd hs
 have HT := Hd ht
 clear hs ht ih
 by_cases hne : s.len = t.len
 · have g : ((s.len : Int) == (t.len : Int)) = true := by rw [hne]; exact beq_self_eq_true _
   have HLN := Hd hlen
   have HLN2 := Hd hlen2
   have HNE := Hd hne
   clear hlen hlen2 hne
   go_enter Tryz.func133, Tryz.ntmps133
   go_upto_region 3 with fail
   rename (((s.len : Int) != (t.len : Int)) = false) => h0
   clear g h0
   go_wp2_with fail
   go_loopw [17] (fun iv wr => ∃ i : Nat, i ≤ s.len ∧ iv = .int .i64 i ∧ (∀ j u v, j < i → l[j]? = some u → k[j]? = some v → (Zai n m) u v = true) ∧ Below w.heap.size w wr) (fun iv _ => s.len - (intOf iv).toNat)
   case atStart => exact ⟨0, Nat.zero_le _, rfl, fun j u v h => by omega, Zr⟩
   case round =>
    obtain ⟨i, hi, rfl, hall, hbe⟩ := hrel
    have hz := hbe.size
    have HAL := Hd hall
    have HBE := Hd hbe
    clear hall hbe
    by_cases hlt : i < s.len
    · have hlt1 : i < l.length := by have := uh HLN; omega
      have hlt2 : i < k.length := by have := uh HLN2; have := uh HNE; omega
      have hlt3 : i < t.len := by have := uh HNE; omega
      have hy := Zg hlt1
      have hy2 := Zg hlt2
      obtain ⟨b, o, q, had, hb, hlies, hrd⟩ := (uh HS).at_ i _ hy
      obtain ⟨b2, o2, q2, had2, hb2, hlies2, hrd2⟩ := (uh HT).at_ i _ hy2
      generalize l[i] = x at *
      generalize k[i] = y at *
      have HY := Hd (And.intro hy hy2)
      have hi0 : (i : Int) < (s.len : Int) := by omega
      have hcell : ∀ j v, (q.ar)[j]? = some v → wr.cell? ⟨b, o + i * 5 + j, none⟩ = some v := (hlies.later (uh HBE) Zl hb).cells
      have hcell0 : ∀ j v, (q2.ar)[j]? = some v → wr.cell? ⟨b2, o2 + i * 5 + j, none⟩ = some v := (hlies2.later (uh HBE) Zl hb2).cells
      have hbN := (Below.refl wr.heap.size wr).alloc Zl (Obj.cells (q.ar) 52)
      have hsN : (wr.alloc (Obj.cells (q.ar) 52)).heap.size = wr.heap.size + 1 := by simp
      have hcell2 : ∀ j v, (q2.ar)[j]? = some v → (wr.alloc (Obj.cells (q.ar) 52)).cell? ⟨b2, o2 + i * 5 + j, none⟩ = some v := fun j v h => (hbN.cell (p := ⟨b2, o2 + i * 5 + j, none⟩) (by show b2 < _; omega)).trans (hcell0 j v h)
      have hv1 : ∀ j v, (q.ar)[j]? = some v → (wr.alloc (Obj.cells (q.ar) 52)).cell? ⟨wr.heap.size, j, none⟩ = some v := fun j v h => (World.cell?_alloc_new wr (q.ar) 52 j).trans h
      have hr1 := ((((hrd).later (uh HBE) Zl)).later hbN Zl)
      have hr2 := ((((hrd2).later (uh HBE) Zl)).later hbN Zl)
      have hone1 : ∀ v ∈ (q.ar).toList, v.oneCell' = true := ZhH q
      have hone2 : ∀ v ∈ (q2.ar).toList, v.oneCell' = true := ZhH q2
      have HBN := Hd ((uh HBE).trans (hbN.mono hz))
      have HCE := Hd hcell2
      have HV1 := Hd hv1
      have HR := Hd (And.intro hr1 hr2)
      clear hcell0 hlies hlies2 hrd hrd2 hy hy2 hbN hcell2 hv1 hr1 hr2
      rw [had, had2]
      go_upto_region 5 with fail
      refine wp_region_lit ?_
      refine Zih (a := 17) (t := 19) rfl rfl rfl rfl ?_
      (try simp only [Zz, Zs])
      refine Zk1 (p := 15) (q := 17) (t := 20) rfl rfl rfl rfl rfl hlt Tryz.underlying50 (zero_of_info ZbU).2 ?_
      (try simp only [Zz, Zs])
      refine Zfu (a := 20) (t := 21) (cs := q.ar) rfl rfl rfl rfl hcell Tryz.underlying52 rfl (zero_of_info ZbU).2 ?_
      (try simp only [Zz, Zs])
      refine Zmo (t := 8) rfl rfl rfl ZbU ?_
      (try simp only [Zz, Zs])
      refine ZkO (a := 19) (t := 7) rfl rfl rfl rfl ?_
      (try simp only [Zz, Zs])
      refine Lq.st (p := 8) (v := 21) (cs := q.ar) rfl rfl rfl rfl rfl (zero_of_info ZbU).2 rfl hone1 ?_
      refine wpList_nil ?_
      generalize (wr.alloc (Obj.cells (q.ar) 52)) = w8 at *
      have hbM := (Below.refl w8.heap.size w8).alloc Zl (Obj.cells (q2.ar) 52)
      have hsM : (w8.alloc (Obj.cells (q2.ar) 52)).heap.size = w8.heap.size + 1 := by simp
      have hv2 : ∀ j v, (q2.ar)[j]? = some v → (w8.alloc (Obj.cells (q2.ar) 52)).cell? ⟨w8.heap.size, j, none⟩ = some v := fun j v h => (World.cell?_alloc_new w8 (q2.ar) 52 j).trans h
      have hv1 : ∀ j v, (q.ar)[j]? = some v → (w8.alloc (Obj.cells (q2.ar) 52)).cell? ⟨wr.heap.size, j, none⟩ = some v := fun j v h => (hbM.cell (p := ⟨wr.heap.size, j, none⟩) (by show wr.heap.size < _; omega)).trans ((uh HV1) j v h)
      have HQ := Hd ((uh IH) q q2 x y (w8.alloc (Obj.cells (q2.ar) 52)) (((uh HR).1).later hbM Zl) (((uh HR).2).later hbM Zl))
      have HBM := Hd ((uh HBN).trans (hbM.mono (uh HBN).size))
      have HV := Hd (And.intro hv1 hv2)
      clear hbM hv1 hv2 HR HV1 HBN hcell
      go_upto_region 6 with fail
      refine Zd5 (cs := q2.ar) (z := (Tk.E.mk 0 0 0 ⟨#[]⟩ ⟨none, 0, 0⟩).ar) (b := b2) (o := o2) (i := i) (a0 := 1) (a1 := 7) (p := 22) (q := 23) (tA := 24) (tL := 25) (tB := 9) rfl rfl rfl rfl rfl rfl rfl rfl rfl rfl rfl rfl rfl rfl rfl rfl rfl rfl rfl rfl (by simp) (by simp) (by decide) (by decide) hlt3 (by simp) (by simp) (by simp) (by decide) (by decide) Tryz.underlying50 ZbU rfl rfl Tryz.underlying52 rfl (uh HCE) hone2 ?_
      (try simp only [Zz, Zs])
      generalize (w8.alloc (Obj.cells (q2.ar) 52)) = w9 at *
      go_upto_region 7 with fail
      refine wp_region_lit ?_
      refine Zih (a := 2) (t := 26) rfl rfl rfl rfl ?_
      (try simp only [Zz, Zs])
      refine Zfu (a := 8) (t := 27) (b := wr.heap.size) (off := 0) (cs := q.ar) rfl rfl rfl rfl (fun j v h => by rw [Nat.zero_add]; exact (uh HV).1 j v h) Tryz.underlying52 rfl (zero_of_info ZbU).2 ?_
      (try simp only [Zz, Zs])
      refine Zfu (a := 9) (t := 28) (b := w8.heap.size) (off := 0) (cs := q2.ar) rfl rfl rfl rfl (fun j v h => by rw [Nat.zero_add]; exact (uh HV).2 j v h) Tryz.underlying52 rfl (zero_of_info ZbU).2 ?_
      (try simp only [Zz, Zs])
      go_wp2_with fail
      refine (uh HQ).mono ?_
      rintro r w10 ⟨rfl, hb⟩
      have HB3 := Hd ((uh HBM).trans (hb.mono (uh HBM).size))
      clear hb
      cases hx : (Zai n m) x y
      · have hf : Hid (Zaa (Zai n m) l k = false) := Zca _ l k i x y (uh HY).1 (uh HY).2 hx
        clear hx
        go_wp2_with fail
        go_ret
        exact ⟨Zaj (uh hf).symm, uh HB3⟩
      have HX := Hd hx
      clear hx
      go_wp2_with fail
      refine ⟨⟨i + 1, by omega, by go_num, ?_, uh HB3⟩, by simp [intOf]; omega⟩
      intro j u v hj hu hv
      by_cases e2 : j = i
      · subst e2
        have h1 := (uh HY).1
        have h2 := (uh HY).2
        rw [h1] at hu
        rw [h2] at hv
        cases hu
        cases hv
        exact uh HX
      exact (uh HAL) j u v (by omega) hu hv
    have hf : Hid (Zaa (Zai n m) l k = true) := ZbH _ l k (by have := uh HLN; have := uh HLN2; have := uh HNE; omega) (fun j u v hu hv => (uh HAL) j u v (by have := (List.getElem?_eq_some_iff.1 hu).1; have := uh HLN; omega) hu hv)
    go_wp2_with fail
    go_ret
    exact ⟨Zaj (uh hf).symm, uh HBE⟩
 have g : ((s.len : Int) == (t.len : Int)) = false := by rw [beq_eq_false_iff_ne]; omega
 have hf : Hid (Zaa (Zai n m) l k = false) := Zbx _ l k (by omega)
 clear hlen hlen2 hne
 go_enter Tryz.func133, Tryz.ntmps133
 go_wp2_with fail
 go_ret
 exact ⟨Zaj (uh hf).symm, Zr⟩
theorem ZfZ (m n m2 n2 : Nat) (ih : ∀ (q q2 : Tk.C) (x : Zap m n) (y : Zap m2 n2) (w : World), Tk.RC w m n q x → Tk.RC w m2 n2 q2 y → Calls Tryz.prog 85 #[.agg (q.cells), .agg (q2.cells)] w fun r w' => r = .returned (.bool (Zas n n2 x y)) ∧ Below w.heap.size w w')
  (s t : Tk.Sl) (l : List (Zap m n)) (k : List (Zap m2 n2)) (w : World) (hs : Tk.RS w 17 (Tk.LC w) (fun q x => Tk.RC w m n q x) s l) (ht : Tk.RS w 17 (Tk.LC w) (fun q x => Tk.RC w m2 n2 q x) t k) :
  Calls Tryz.prog 84 #[.slice s.ad s.len s.cap, .slice t.ad t.len t.cap, .func (.func 85) #[] #[]] w fun r w' => r = .returned (.bool (Zaa (Zas n n2) l k)) ∧ Below w.heap.size w w' := by
 have hlen := hs.len
 have hlen2 := ht.len
 have hfew := hs.few
 rw [← hlen] at hfew
 have IH := Hd ih
 have HS := Hd hs
 have HT := Hd ht
 clear hs ht ih
 by_cases hne : s.len = t.len
 · have g : ((s.len : Int) == (t.len : Int)) = true := by rw [hne]; exact beq_self_eq_true _
   have HLN := Hd hlen
   have HLN2 := Hd hlen2
   have HNE := Hd hne
   clear hlen hlen2 hne
   go_enter Tryz.func84, Tryz.ntmps84
   go_upto_region 3 with fail
   rename (((s.len : Int) != (t.len : Int)) = false) => h0
   clear g h0
   go_wp2_with fail
   go_loopw [17] (fun iv wr => ∃ i : Nat, i ≤ s.len ∧ iv = .int .i64 i ∧ (∀ j u v, j < i → l[j]? = some u → k[j]? = some v → (Zas n n2) u v = true) ∧ Below w.heap.size w wr) (fun iv _ => s.len - (intOf iv).toNat)
   case atStart => exact ⟨0, Nat.zero_le _, rfl, fun j u v h => by omega, Zr⟩
   case round =>
    obtain ⟨i, hi, rfl, hall, hbe⟩ := hrel
    have hz := hbe.size
    have HAL := Hd hall
    have HBE := Hd hbe
    clear hall hbe
    by_cases hlt : i < s.len
    · have hlt1 : i < l.length := by have := uh HLN; omega
      have hlt2 : i < k.length := by have := uh HLN2; have := uh HNE; omega
      have hlt3 : i < t.len := by have := uh HNE; omega
      have hy := Zg hlt1
      have hy2 := Zg hlt2
      obtain ⟨b, o, q, had, hb, hlies, hrd⟩ := (uh HS).at_ i _ hy
      obtain ⟨b2, o2, q2, had2, hb2, hlies2, hrd2⟩ := (uh HT).at_ i _ hy2
      generalize l[i] = x at *
      generalize k[i] = y at *
      have HY := Hd (And.intro hy hy2)
      have hi0 : (i : Int) < (s.len : Int) := by omega
      have hcell : ∀ j v, (q.cells)[j]? = some v → wr.cell? ⟨b, o + i * 17 + j, none⟩ = some v := (hlies.later (uh HBE) Zl hb).cells
      have hcell0 : ∀ j v, (q2.cells)[j]? = some v → wr.cell? ⟨b2, o2 + i * 17 + j, none⟩ = some v := (hlies2.later (uh HBE) Zl hb2).cells
      have hbN := (Below.refl wr.heap.size wr).alloc Zl (Obj.cells (q.cells) 56)
      have hsN : (wr.alloc (Obj.cells (q.cells) 56)).heap.size = wr.heap.size + 1 := by simp
      have hcell2 : ∀ j v, (q2.cells)[j]? = some v → (wr.alloc (Obj.cells (q.cells) 56)).cell? ⟨b2, o2 + i * 17 + j, none⟩ = some v := fun j v h => (hbN.cell (p := ⟨b2, o2 + i * 17 + j, none⟩) (by show b2 < _; omega)).trans (hcell0 j v h)
      have hv1 : ∀ j v, (q.cells)[j]? = some v → (wr.alloc (Obj.cells (q.cells) 56)).cell? ⟨wr.heap.size, j, none⟩ = some v := fun j v h => (World.cell?_alloc_new wr (q.cells) 56 j).trans h
      have hr1 := ((((hrd).later (uh HBE) Zl)).later hbN Zl)
      have hr2 := ((((hrd2).later (uh HBE) Zl)).later hbN Zl)
      have hone1 : ∀ v ∈ (q.cells).toList, v.oneCell' = true := Tk.C.one q
      have hone2 : ∀ v ∈ (q2.cells).toList, v.oneCell' = true := Tk.C.one q2
      have HBN := Hd ((uh HBE).trans (hbN.mono hz))
      have HCE := Hd hcell2
      have HV1 := Hd hv1
      have HR := Hd (And.intro hr1 hr2)
      clear hcell0 hlies hlies2 hrd hrd2 hy hy2 hbN hcell2 hv1 hr1 hr2
      rw [had, had2]
      go_upto_region 5 with fail
      refine wp_region_lit ?_
      refine Zih (a := 17) (t := 19) rfl rfl rfl rfl ?_
      (try simp only [Zz, Zs])
      refine Zk1 (p := 15) (q := 17) (t := 20) rfl rfl rfl rfl rfl hlt Tryz.underlying49 (zero_of_info ZaZ).2 ?_
      (try simp only [Zz, Zs])
      refine Zfu (a := 20) (t := 21) (cs := q.cells) rfl rfl rfl rfl hcell Tryz.underlying56 rfl (zero_of_info ZaZ).2 ?_
      (try simp only [Zz, Zs])
      refine Zmo (t := 8) rfl rfl rfl ZaZ ?_
      (try simp only [Zz, Zs])
      refine ZkO (a := 19) (t := 7) rfl rfl rfl rfl ?_
      (try simp only [Zz, Zs])
      refine Lq.st (p := 8) (v := 21) (cs := q.cells) rfl rfl rfl rfl rfl (zero_of_info ZaZ).2 rfl hone1 ?_
      refine wpList_nil ?_
      generalize (wr.alloc (Obj.cells (q.cells) 56)) = w8 at *
      have hbM := (Below.refl w8.heap.size w8).alloc Zl (Obj.cells (q2.cells) 56)
      have hsM : (w8.alloc (Obj.cells (q2.cells) 56)).heap.size = w8.heap.size + 1 := by simp
      have hv2 : ∀ j v, (q2.cells)[j]? = some v → (w8.alloc (Obj.cells (q2.cells) 56)).cell? ⟨w8.heap.size, j, none⟩ = some v := fun j v h => (World.cell?_alloc_new w8 (q2.cells) 56 j).trans h
      have hv1 : ∀ j v, (q.cells)[j]? = some v → (w8.alloc (Obj.cells (q2.cells) 56)).cell? ⟨wr.heap.size, j, none⟩ = some v := fun j v h => (hbM.cell (p := ⟨wr.heap.size, j, none⟩) (by show wr.heap.size < _; omega)).trans ((uh HV1) j v h)
      have HQ := Hd ((uh IH) q q2 x y (w8.alloc (Obj.cells (q2.cells) 56)) (((uh HR).1).later hbM Zl) (((uh HR).2).later hbM Zl))
      have HBM := Hd ((uh HBN).trans (hbM.mono (uh HBN).size))
      have HV := Hd (And.intro hv1 hv2)
      clear hbM hv1 hv2 HR HV1 HBN hcell
      go_upto_region 6 with fail
      refine Zd5 (cs := q2.cells) (z := Tk.C.zero.cells) (b := b2) (o := o2) (i := i) (a0 := 1) (a1 := 7) (p := 22) (q := 23) (tA := 24) (tL := 25) (tB := 9) rfl rfl rfl rfl rfl rfl rfl rfl rfl rfl rfl rfl rfl rfl rfl rfl rfl rfl rfl rfl (by simp) (by simp) (by decide) (by decide) hlt3 (by simp) (by simp) (by simp) (by decide) (by decide) Tryz.underlying49 ZaZ rfl rfl Tryz.underlying56 rfl (uh HCE) hone2 ?_
      (try simp only [Zz, Zs])
      generalize (w8.alloc (Obj.cells (q2.cells) 56)) = w9 at *
      go_upto_region 7 with fail
      refine wp_region_lit ?_
      refine Zih (a := 2) (t := 26) rfl rfl rfl rfl ?_
      (try simp only [Zz, Zs])
      refine Zfu (a := 8) (t := 27) (b := wr.heap.size) (off := 0) (cs := q.cells) rfl rfl rfl rfl (fun j v h => by rw [Nat.zero_add]; exact (uh HV).1 j v h) Tryz.underlying56 rfl (zero_of_info ZaZ).2 ?_
      (try simp only [Zz, Zs])
      refine Zfu (a := 9) (t := 28) (b := w8.heap.size) (off := 0) (cs := q2.cells) rfl rfl rfl rfl (fun j v h => by rw [Nat.zero_add]; exact (uh HV).2 j v h) Tryz.underlying56 rfl (zero_of_info ZaZ).2 ?_
      (try simp only [Zz, Zs])
      go_wp2_with fail
      refine (uh HQ).mono ?_
      rintro r w10 ⟨rfl, hb⟩
      have HB3 := Hd ((uh HBM).trans (hb.mono (uh HBM).size))
      clear hb
      cases hx : (Zas n n2) x y
      · have hf : Hid (Zaa (Zas n n2) l k = false) := Zca _ l k i x y (uh HY).1 (uh HY).2 hx
        clear hx
        go_wp2_with fail
        go_ret
        exact ⟨Zaj (uh hf).symm, uh HB3⟩
      have HX := Hd hx
      clear hx
      go_wp2_with fail
      refine ⟨⟨i + 1, by omega, by go_num, ?_, uh HB3⟩, by simp [intOf]; omega⟩
      intro j u v hj hu hv
      by_cases e2 : j = i
      · subst e2
        have h1 := (uh HY).1
        have h2 := (uh HY).2
        rw [h1] at hu
        rw [h2] at hv
        cases hu
        cases hv
        exact uh HX
      exact (uh HAL) j u v (by omega) hu hv
    have hf : Hid (Zaa (Zas n n2) l k = true) := ZbH _ l k (by have := uh HLN; have := uh HLN2; have := uh HNE; omega) (fun j u v hu hv => (uh HAL) j u v (by have := (List.getElem?_eq_some_iff.1 hu).1; have := uh HLN; omega) hu hv)
    go_wp2_with fail
    go_ret
    exact ⟨Zaj (uh hf).symm, uh HBE⟩
 have g : ((s.len : Int) == (t.len : Int)) = false := by rw [beq_eq_false_iff_ne]; omega
 have hf : Hid (Zaa (Zas n n2) l k = false) := Zbx _ l k (by omega)
 clear hlen hlen2 hne
 go_enter Tryz.func84, Tryz.ntmps84
 go_wp2_with fail
 go_ret
 exact ⟨Zaj (uh hf).symm, Zr⟩
theorem ZjN (m n m2 n2 : Nat) (ih : ∀ (q q2 : Tk.F) (x : Tk.FT m n) (y : Tk.FT m2 n2) (w : World), Tk.RF w m n q x → Tk.RF w m2 n2 q2 y → Calls Tryz.prog 46 #[.agg (q.cells), .agg (q2.cells)] w fun r w' => r = .returned (.bool (Zaw x y)) ∧ Below w.heap.size w w')
  (s t : Tk.Sl) (l : List (Tk.FT m n)) (k : List (Tk.FT m2 n2)) (w : World) (hs : Tk.RS w 10 (Tk.LF w) (fun q x => Tk.RF w m n q x) s l) (ht : Tk.RS w 10 (Tk.LF w) (fun q x => Tk.RF w m2 n2 q x) t k) :
  Calls Tryz.prog 45 #[.slice s.ad s.len s.cap, .slice t.ad t.len t.cap, .func (.func 46) #[] #[]] w fun r w' => r = .returned (.bool (Zaa (Zaw) l k)) ∧ Below w.heap.size w w' := by
 have hlen := hs.len
 have hlen2 := ht.len
 have hfew := hs.few
 rw [← hlen] at hfew
 have IH := Hd ih
 have HS := Hd hs
 have HT := Hd ht
 clear hs ht ih
 by_cases hne : s.len = t.len
 · have g : ((s.len : Int) == (t.len : Int)) = true := by rw [hne]; exact beq_self_eq_true _
   have HLN := Hd hlen
   have HLN2 := Hd hlen2
   have HNE := Hd hne
   clear hlen hlen2 hne
   go_enter Tryz.func45, Tryz.ntmps45
   go_upto_region 3 with fail
   rename (((s.len : Int) != (t.len : Int)) = false) => h0
   clear g h0
   go_wp2_with fail
   go_loopw [17] (fun iv wr => ∃ i : Nat, i ≤ s.len ∧ iv = .int .i64 i ∧ (∀ j u v, j < i → l[j]? = some u → k[j]? = some v → (Zaw) u v = true) ∧ Below w.heap.size w wr) (fun iv _ => s.len - (intOf iv).toNat)
   case atStart => exact ⟨0, Nat.zero_le _, rfl, fun j u v h => by omega, Zr⟩
   case round =>
    obtain ⟨i, hi, rfl, hall, hbe⟩ := hrel
    have hz := hbe.size
    have HAL := Hd hall
    have HBE := Hd hbe
    clear hall hbe
    by_cases hlt : i < s.len
    · have hlt1 : i < l.length := by have := uh HLN; omega
      have hlt2 : i < k.length := by have := uh HLN2; have := uh HNE; omega
      have hlt3 : i < t.len := by have := uh HNE; omega
      have hy := Zg hlt1
      have hy2 := Zg hlt2
      obtain ⟨b, o, q, had, hb, hlies, hrd⟩ := (uh HS).at_ i _ hy
      obtain ⟨b2, o2, q2, had2, hb2, hlies2, hrd2⟩ := (uh HT).at_ i _ hy2
      generalize l[i] = x at *
      generalize k[i] = y at *
      have HY := Hd (And.intro hy hy2)
      have hi0 : (i : Int) < (s.len : Int) := by omega
      have hcell : ∀ j v, (q.cells)[j]? = some v → wr.cell? ⟨b, o + i * 10 + j, none⟩ = some v := (hlies.later (uh HBE) Zl hb).cells
      have hcell0 : ∀ j v, (q2.cells)[j]? = some v → wr.cell? ⟨b2, o2 + i * 10 + j, none⟩ = some v := (hlies2.later (uh HBE) Zl hb2).cells
      have hbN := (Below.refl wr.heap.size wr).alloc Zl (Obj.cells (q.cells) 54)
      have hsN : (wr.alloc (Obj.cells (q.cells) 54)).heap.size = wr.heap.size + 1 := by simp
      have hcell2 : ∀ j v, (q2.cells)[j]? = some v → (wr.alloc (Obj.cells (q.cells) 54)).cell? ⟨b2, o2 + i * 10 + j, none⟩ = some v := fun j v h => (hbN.cell (p := ⟨b2, o2 + i * 10 + j, none⟩) (by show b2 < _; omega)).trans (hcell0 j v h)
      have hv1 : ∀ j v, (q.cells)[j]? = some v → (wr.alloc (Obj.cells (q.cells) 54)).cell? ⟨wr.heap.size, j, none⟩ = some v := fun j v h => (World.cell?_alloc_new wr (q.cells) 54 j).trans h
      have hr1 := ((((hrd).later (uh HBE) Zl)).later hbN Zl)
      have hr2 := ((((hrd2).later (uh HBE) Zl)).later hbN Zl)
      have hone1 : ∀ v ∈ (q.cells).toList, v.oneCell' = true := Tk.F.one q
      have hone2 : ∀ v ∈ (q2.cells).toList, v.oneCell' = true := Tk.F.one q2
      have HBN := Hd ((uh HBE).trans (hbN.mono hz))
      have HCE := Hd hcell2
      have HV1 := Hd hv1
      have HR := Hd (And.intro hr1 hr2)
      clear hcell0 hlies hlies2 hrd hrd2 hy hy2 hbN hcell2 hv1 hr1 hr2
      rw [had, had2]
      go_upto_region 5 with fail
      refine wp_region_lit ?_
      refine Zih (a := 17) (t := 19) rfl rfl rfl rfl ?_
      (try simp only [Zz, Zs])
      refine Zk1 (p := 15) (q := 17) (t := 20) rfl rfl rfl rfl rfl hlt Tryz.underlying22 (zero_of_info Zbs).2 ?_
      (try simp only [Zz, Zs])
      refine Zfu (a := 20) (t := 21) (cs := q.cells) rfl rfl rfl rfl hcell Tryz.underlying54 rfl (zero_of_info Zbs).2 ?_
      (try simp only [Zz, Zs])
      refine Zmo (t := 8) rfl rfl rfl Zbs ?_
      (try simp only [Zz, Zs])
      refine ZkO (a := 19) (t := 7) rfl rfl rfl rfl ?_
      (try simp only [Zz, Zs])
      refine Lq.st (p := 8) (v := 21) (cs := q.cells) rfl rfl rfl rfl rfl (zero_of_info Zbs).2 rfl hone1 ?_
      refine wpList_nil ?_
      generalize (wr.alloc (Obj.cells (q.cells) 54)) = w8 at *
      have hbM := (Below.refl w8.heap.size w8).alloc Zl (Obj.cells (q2.cells) 54)
      have hsM : (w8.alloc (Obj.cells (q2.cells) 54)).heap.size = w8.heap.size + 1 := by simp
      have hv2 : ∀ j v, (q2.cells)[j]? = some v → (w8.alloc (Obj.cells (q2.cells) 54)).cell? ⟨w8.heap.size, j, none⟩ = some v := fun j v h => (World.cell?_alloc_new w8 (q2.cells) 54 j).trans h
      have hv1 : ∀ j v, (q.cells)[j]? = some v → (w8.alloc (Obj.cells (q2.cells) 54)).cell? ⟨wr.heap.size, j, none⟩ = some v := fun j v h => (hbM.cell (p := ⟨wr.heap.size, j, none⟩) (by show wr.heap.size < _; omega)).trans ((uh HV1) j v h)
      have HQ := Hd ((uh IH) q q2 x y (w8.alloc (Obj.cells (q2.cells) 54)) (((uh HR).1).later hbM Zl) (((uh HR).2).later hbM Zl))
      have HBM := Hd ((uh HBN).trans (hbM.mono (uh HBN).size))
      have HV := Hd (And.intro hv1 hv2)
      clear hbM hv1 hv2 HR HV1 HBN hcell
      go_upto_region 6 with fail
      refine Zd5 (cs := q2.cells) (z := Tk.F.zero.cells) (b := b2) (o := o2) (i := i) (a0 := 1) (a1 := 7) (p := 22) (q := 23) (tA := 24) (tL := 25) (tB := 9) rfl rfl rfl rfl rfl rfl rfl rfl rfl rfl rfl rfl rfl rfl rfl rfl rfl rfl rfl rfl (by simp) (by simp) (by decide) (by decide) hlt3 (by simp) (by simp) (by simp) (by decide) (by decide) Tryz.underlying22 Zbs rfl rfl Tryz.underlying54 rfl (uh HCE) hone2 ?_
      (try simp only [Zz, Zs])
      generalize (w8.alloc (Obj.cells (q2.cells) 54)) = w9 at *
      go_upto_region 7 with fail
      refine wp_region_lit ?_
      refine Zih (a := 2) (t := 26) rfl rfl rfl rfl ?_
      (try simp only [Zz, Zs])
      refine Zfu (a := 8) (t := 27) (b := wr.heap.size) (off := 0) (cs := q.cells) rfl rfl rfl rfl (fun j v h => by rw [Nat.zero_add]; exact (uh HV).1 j v h) Tryz.underlying54 rfl (zero_of_info Zbs).2 ?_
      (try simp only [Zz, Zs])
      refine Zfu (a := 9) (t := 28) (b := w8.heap.size) (off := 0) (cs := q2.cells) rfl rfl rfl rfl (fun j v h => by rw [Nat.zero_add]; exact (uh HV).2 j v h) Tryz.underlying54 rfl (zero_of_info Zbs).2 ?_
      (try simp only [Zz, Zs])
      go_wp2_with fail
      refine (uh HQ).mono ?_
      rintro r w10 ⟨rfl, hb⟩
      have HB3 := Hd ((uh HBM).trans (hb.mono (uh HBM).size))
      clear hb
      cases hx : (Zaw) x y
      · have hf : Hid (Zaa (Zaw) l k = false) := Zca _ l k i x y (uh HY).1 (uh HY).2 hx
        clear hx
        go_wp2_with fail
        go_ret
        exact ⟨Zaj (uh hf).symm, uh HB3⟩
      have HX := Hd hx
      clear hx
      go_wp2_with fail
      refine ⟨⟨i + 1, by omega, by go_num, ?_, uh HB3⟩, by simp [intOf]; omega⟩
      intro j u v hj hu hv
      by_cases e2 : j = i
      · subst e2
        have h1 := (uh HY).1
        have h2 := (uh HY).2
        rw [h1] at hu
        rw [h2] at hv
        cases hu
        cases hv
        exact uh HX
      exact (uh HAL) j u v (by omega) hu hv
    have hf : Hid (Zaa (Zaw) l k = true) := ZbH _ l k (by have := uh HLN; have := uh HLN2; have := uh HNE; omega) (fun j u v hu hv => (uh HAL) j u v (by have := (List.getElem?_eq_some_iff.1 hu).1; have := uh HLN; omega) hu hv)
    go_wp2_with fail
    go_ret
    exact ⟨Zaj (uh hf).symm, uh HBE⟩
 have g : ((s.len : Int) == (t.len : Int)) = false := by rw [beq_eq_false_iff_ne]; omega
 have hf : Hid (Zaa (Zaw) l k = false) := Zbx _ l k (by omega)
 clear hlen hlen2 hne
 go_enter Tryz.func45, Tryz.ntmps45
 go_wp2_with fail
 go_ret
 exact ⟨Zaj (uh hf).symm, Zr⟩
theorem ZiP (s t : Tk.Sl) (l k : List (ByteArray)) (w : World) (hs : Tk.RS w 1 (ZeF w) Zcv s l) (ht : Tk.RS w 1 (ZeF w) Zcv t k) :
  Calls Tryz.prog 82 #[.slice s.ad s.len s.cap, .slice t.ad t.len t.cap] w fun r w' => r = .returned (.bool (Zaa (fun a b : ByteArray => a.toList == b.toList) l k)) ∧ Below w.heap.size w w' := by
 have hlen := hs.len
 have hlen2 := ht.len
 have hfew := hs.few
 rw [← hlen] at hfew
 have HS := Hd hs
 have HT := Hd ht
 clear hs ht
 by_cases hne : s.len = t.len
 · have g : ((s.len : Int) == (t.len : Int)) = true := by rw [hne]; exact beq_self_eq_true _
   have HLN := Hd hlen
   have HLN2 := Hd hlen2
   have HNE := Hd hne
   clear hlen hlen2 hne
   go_enter Tryz.func82, Tryz.ntmps82
   go_upto_region 3 with fail
   rename (((s.len : Int) != (t.len : Int)) = false) => h0
   clear g h0
   go_wp2_with fail
   go_loopw [13] (fun iv wr => ∃ i : Nat, i ≤ s.len ∧ iv = .int .i64 i ∧ (∀ j u v, j < i → l[j]? = some u → k[j]? = some v → ((fun a b : ByteArray => a.toList == b.toList)) u v = true) ∧ Below w.heap.size w wr) (fun iv _ => s.len - (intOf iv).toNat)
   case atStart => exact ⟨0, Nat.zero_le _, rfl, fun j u v h => by omega, Zr⟩
   case round =>
    obtain ⟨i, hi, rfl, hall, hbe⟩ := hrel
    have hz := hbe.size
    have HAL := Hd hall
    have HBE := Hd hbe
    clear hall hbe
    by_cases hlt : i < s.len
    · have hlt1 : i < l.length := by have := uh HLN; omega
      have hlt2 : i < k.length := by have := uh HLN2; have := uh HNE; omega
      have hlt3 : i < t.len := by have := uh HNE; omega
      have hy := Zg hlt1
      have hy2 := Zg hlt2
      obtain ⟨b, o, q, had, hb, hlies, hrd⟩ := (uh HS).at_ i _ hy
      obtain ⟨b2, o2, q2, had2, hb2, hlies2, hrd2⟩ := (uh HT).at_ i _ hy2
      generalize l[i] = x at *
      generalize k[i] = y at *
      have HY := Hd (And.intro hy hy2)
      clear hy hy2
      have hi0 : (0 : Int) ≤ (i : Int) := by omega
      have hi1 : (i : Int) < (s.len : Int) := by omega
      have hi2 : (i : Int) < (t.len : Int) := by omega
      rw [had, had2]
      obtain ⟨hrd, hrz⟩ := hrd
      obtain ⟨hrd2, hrz2⟩ := hrd2
      subst hrd
      subst hrd2
      have a0 : wr.cell? ⟨b, o + i, none⟩ = some (.string q) := by
       have h1 : w.cell? ⟨b, o + i * 1, none⟩ = some (.string q) := hlies
       rw [Nat.mul_one] at h1
       exact ((uh HBE).cell (p := ⟨b, o + i, none⟩) hb).trans h1
      have a1 : wr.cell? ⟨b2, o2 + i, none⟩ = some (.string q2) := by
       have h1 : w.cell? ⟨b2, o2 + i * 1, none⟩ = some (.string q2) := hlies2
       rw [Nat.mul_one] at h1
       exact ((uh HBE).cell (p := ⟨b2, o2 + i, none⟩) hb2).trans h1
      clear hlies hlies2
      cases hx : (q.toList == q2.toList)
      · have hf : Hid (Zaa ((fun a b : ByteArray => a.toList == b.toList)) l k = false) := Zca _ l k i _ _ (uh HY).1 (uh HY).2 hx
        have g2 : (q.toList != q2.toList) = true := by rw [bne, hx]; rfl
        have g3 : ¬ q.toList = q2.toList := by simpa using hx
        go_upto_region 6 with fail
        go_quiet (fail)
        have hbd := below_drewN (Below.refl wr.heap.size wr) nq
        have HB3 := Hd ((uh HBE).trans (hbd.mono hz))
        clear hbd g2 g3
        go_wp2_with fail
        go_ret
        exact ⟨Zaj (uh hf).symm, uh HB3⟩
      have HX := Hd hx
      have g3 : q.toList = q2.toList := by simpa using hx
      go_upto_region 6 with fail
      go_quiet (fail)
      have hbd := below_drewN (Below.refl wr.heap.size wr) nq
      have HB3 := Hd ((uh HBE).trans (hbd.mono hz))
      clear hbd g3
      go_wp2_with fail
      refine ⟨⟨i + 1, by omega, by go_num, ?_, uh HB3⟩, by simp [intOf]; omega⟩
      intro j u v hj hu hv
      by_cases e2 : j = i
      · subst e2
        have h1 := (uh HY).1
        have h2 := (uh HY).2
        rw [h1] at hu
        rw [h2] at hv
        cases hu
        cases hv
        exact uh HX
      exact (uh HAL) j u v (by omega) hu hv
    have hf : Hid (Zaa ((fun a b : ByteArray => a.toList == b.toList)) l k = true) := ZbH _ l k (by have := uh HLN; have := uh HLN2; have := uh HNE; omega) (fun j u v hu hv => (uh HAL) j u v (by have := (List.getElem?_eq_some_iff.1 hu).1; have := uh HLN; omega) hu hv)
    go_wp2_with fail
    go_ret
    exact ⟨Zaj (uh hf).symm, uh HBE⟩
 have g : ((s.len : Int) == (t.len : Int)) = false := by rw [beq_eq_false_iff_ne]; omega
 have hf : Hid (Zaa ((fun a b : ByteArray => a.toList == b.toList)) l k = false) := Zbx _ l k (by omega)
 clear hlen hlen2 hne
 go_enter Tryz.func82, Tryz.ntmps82
 go_wp2_with fail
 go_ret
 exact ⟨Zaj (uh hf).symm, Zr⟩
theorem Zkr (s t : Tk.Sl) (l k : List (ByteArray × Int)) (w : World) (hs : Tk.RS w 2 (Zew w) Zfe s l) (ht : Tk.RS w 2 (Zew w) Zfe t k) :
  Calls Tryz.prog 83 #[.slice s.ad s.len s.cap, .slice t.ad t.len t.cap] w fun r w' => r = .returned (.bool (Zaa (fun a b : ByteArray × Int => (a.1.toList == b.1.toList) && (a.2 == b.2)) l k)) ∧ Below w.heap.size w w' := by
 have hlen := hs.len
 have hlen2 := ht.len
 have hfew := hs.few
 rw [← hlen] at hfew
 have HS := Hd hs
 have HT := Hd ht
 clear hs ht
 by_cases hne : s.len = t.len
 · have g : ((s.len : Int) == (t.len : Int)) = true := by rw [hne]; exact beq_self_eq_true _
   have HLN := Hd hlen
   have HLN2 := Hd hlen2
   have HNE := Hd hne
   clear hlen hlen2 hne
   go_enter Tryz.func83, Tryz.ntmps83
   go_upto_region 3 with fail
   rename (((s.len : Int) != (t.len : Int)) = false) => h0
   clear g h0
   go_wp2_with fail
   go_loopw [13] (fun iv wr => ∃ i : Nat, i ≤ s.len ∧ iv = .int .i64 i ∧ (∀ j u v, j < i → l[j]? = some u → k[j]? = some v → ((fun a b : ByteArray × Int => (a.1.toList == b.1.toList) && (a.2 == b.2))) u v = true) ∧ Below w.heap.size w wr) (fun iv _ => s.len - (intOf iv).toNat)
   case atStart => exact ⟨0, Nat.zero_le _, rfl, fun j u v h => by omega, Zr⟩
   case round =>
    obtain ⟨i, hi, rfl, hall, hbe⟩ := hrel
    have hz := hbe.size
    have HAL := Hd hall
    have HBE := Hd hbe
    clear hall hbe
    by_cases hlt : i < s.len
    · have hlt1 : i < l.length := by have := uh HLN; omega
      have hlt2 : i < k.length := by have := uh HLN2; have := uh HNE; omega
      have hlt3 : i < t.len := by have := uh HNE; omega
      have hy := Zg hlt1
      have hy2 := Zg hlt2
      obtain ⟨b, o, q, had, hb, hlies, hrd⟩ := (uh HS).at_ i _ hy
      obtain ⟨b2, o2, q2, had2, hb2, hlies2, hrd2⟩ := (uh HT).at_ i _ hy2
      generalize l[i] = x at *
      generalize k[i] = y at *
      have HY := Hd (And.intro hy hy2)
      clear hy hy2
      have hi0 : (0 : Int) ≤ (i : Int) := by omega
      have hi1 : (i : Int) < (s.len : Int) := by omega
      have hi2 : (i : Int) < (t.len : Int) := by omega
      rw [had, had2]
      obtain ⟨hrd, hrz⟩ := hrd
      obtain ⟨hrd2, hrz2⟩ := hrd2
      subst hrd
      subst hrd2
      obtain ⟨un, uz⟩ := q
      obtain ⟨vn, vz⟩ := q2
      have a0 : wr.cell? ⟨b, o + i * 2, none⟩ = some (.string un) := ((uh HBE).cell (p := ⟨b, o + i * 2, none⟩) hb).trans hlies.1
      have a1 : wr.cell? ⟨b, o + i * 2 + 1, none⟩ = some (.int .i64 uz) := ((uh HBE).cell (p := ⟨b, o + i * 2 + 1, none⟩) hb).trans hlies.2
      have a2 : wr.cell? ⟨b2, o2 + i * 2, none⟩ = some (.string vn) := ((uh HBE).cell (p := ⟨b2, o2 + i * 2, none⟩) hb2).trans hlies2.1
      have a3 : wr.cell? ⟨b2, o2 + i * 2 + 1, none⟩ = some (.int .i64 vz) := ((uh HBE).cell (p := ⟨b2, o2 + i * 2 + 1, none⟩) hb2).trans hlies2.2
      clear hlies hlies2
      cases hx : ((un.toList == vn.toList) && (uz == vz))
      · have hf : Hid (Zaa ((fun a b : ByteArray × Int => (a.1.toList == b.1.toList) && (a.2 == b.2))) l k = false) := Zca _ l k i _ _ (uh HY).1 (uh HY).2 hx
        have hneq := fun W => ZgN un vn uz vz W
        rw [hx] at hneq
        clear hx
        go_upto_region 6 with fail
        go_quiet (fail)
        have hbd := below_drewN (Below.refl wr.heap.size wr) nq
        have HB3 := Hd ((uh HBE).trans (hbd.mono hz))
        clear hbd hneq
        go_wp2_with fail
        go_ret
        exact ⟨Zaj (uh hf).symm, uh HB3⟩
      have HX := Hd hx
      have hneq := fun W => ZgN un vn uz vz W
      rw [hx] at hneq
      clear hx
      go_upto_region 6 with fail
      go_quiet (fail)
      have hbd := below_drewN (Below.refl wr.heap.size wr) nq
      have HB3 := Hd ((uh HBE).trans (hbd.mono hz))
      clear hbd hneq
      go_wp2_with fail
      refine ⟨⟨i + 1, by omega, by go_num, ?_, uh HB3⟩, by simp [intOf]; omega⟩
      intro j u v hj hu hv
      by_cases e2 : j = i
      · subst e2
        have h1 := (uh HY).1
        have h2 := (uh HY).2
        rw [h1] at hu
        rw [h2] at hv
        cases hu
        cases hv
        exact uh HX
      exact (uh HAL) j u v (by omega) hu hv
    have hf : Hid (Zaa ((fun a b : ByteArray × Int => (a.1.toList == b.1.toList) && (a.2 == b.2))) l k = true) := ZbH _ l k (by have := uh HLN; have := uh HLN2; have := uh HNE; omega) (fun j u v hu hv => (uh HAL) j u v (by have := (List.getElem?_eq_some_iff.1 hu).1; have := uh HLN; omega) hu hv)
    go_wp2_with fail
    go_ret
    exact ⟨Zaj (uh hf).symm, uh HBE⟩
 have g : ((s.len : Int) == (t.len : Int)) = false := by rw [beq_eq_false_iff_ne]; omega
 have hf : Hid (Zaa ((fun a b : ByteArray × Int => (a.1.toList == b.1.toList) && (a.2 == b.2))) l k = false) := Zbx _ l k (by omega)
 clear hlen hlen2 hne
 go_enter Tryz.func83, Tryz.ntmps83
 go_wp2_with fail
 go_ret
 exact ⟨Zaj (uh hf).symm, Zr⟩
theorem ZcN : ∀ (n m : Nat) (e f : Tk.E) (x : Zat n) (y : Zat m) (w : World), Tk.RE w n e x → Tk.RE w m f y → Calls Tryz.prog 86 #[e.val, f.val] w fun r w' => r = .returned (.bool (Zai n m x y)) ∧ Below w.heap.size w w' := by
 intro n
 induction n with
 | zero => intro m e f x y w h; exact absurd h id
 | succ n ih =>
  intro m e f x y w h h2
  cases m with
  | zero => exact absurd h2 id
  | succ m =>
   obtain ⟨⟨f1, f2, f3, f4, f5⟩, hs⟩ := h
   obtain ⟨⟨g1, g2, g3, g4, g5⟩, ht⟩ := h2
   have hb : Below w.heap.size w ((w.alloc (Obj.cells #[.int .i64 e.k, .int .i64 e.a, .int .i64 e.n, .string e.nm, .slice e.args.ad e.args.len e.args.cap] 52)).alloc (Obj.cells #[.int .i64 f.k, .int .i64 f.a, .int .i64 f.n, .string f.nm, .slice f.args.ad f.args.len f.args.cap] 52)) := (Zr.alloc Zl _).alloc (by simp) _
   have HB := Hd hb
   have HQ := Hd (Zgi n m (fun q q2 x y w h1 h2 => ih m q q2 x y w h1 h2) e.args f.args x.2 y.2 ((w.alloc (Obj.cells #[.int .i64 e.k, .int .i64 e.a, .int .i64 e.n, .string e.nm, .slice e.args.ad e.args.len e.args.cap] 52)).alloc (Obj.cells #[.int .i64 f.k, .int .i64 f.a, .int .i64 f.n, .string f.nm, .slice f.args.ad f.args.len f.args.cap] 52)) (hs.laterE hb Zl) (ht.laterE hb Zl))
   have hx : Zai (n + 1) (m + 1) x y = ((e.k == f.k) && (e.n == f.n) && (e.nm.toList == f.nm.toList) && Zaa (Zai n m) x.2 y.2) := by rw [f1, f3, f4, g1, g3, g4]; rfl
   rw [hx]
   clear hx hs ht hb f1 f2 f3 f4 f5 g1 g2 g3 g4 g5 ih
   unfold Tk.E.val
   cases h1 : (e.k == f.k)
   · go_enter Tryz.func86, Tryz.ntmps86
     go_wp2_with fail
     go_ret
     exact ⟨rfl, uh HB⟩
   cases h2 : (e.n == f.n)
   · go_enter Tryz.func86, Tryz.ntmps86
     go_wp2_with fail
     go_ret
     exact ⟨rfl, uh HB⟩
   cases h3 : (e.nm.toList == f.nm.toList)
   · go_enter Tryz.func86, Tryz.ntmps86
     go_wp2_with fail
     go_ret
     exact ⟨rfl, uh HB⟩
   go_enter Tryz.func86, Tryz.ntmps86
   go_wp2_with fail
   refine (uh HQ).mono ?_
   rintro r w3 ⟨rfl, hb3⟩
   have HB3 := Hd ((uh HB).trans (hb3.mono (uh HB).size))
   clear hb3
   go_wp2_with fail
   go_ret
   exact ⟨rfl, uh HB3⟩
theorem ZiN {m m2 : Nat} : ∀ (n n2 : Nat) (c d : Tk.C) (x : Zap m n) (y : Zap m2 n2) (w : World), Tk.RC w m n c x → Tk.RC w m2 n2 d y → Calls Tryz.prog 85 #[c.val, d.val] w fun r w' => r = .returned (.bool (Zas n n2 x y)) ∧ Below w.heap.size w w' := by
 intro n
 induction n with
 | zero => intro n2 c d x y w h; exact absurd h id
 | succ n ih =>
  intro n2 c d x y w h h2
  cases n2 with
  | zero => exact absurd h2 id
  | succ n2 =>
   obtain ⟨⟨⟨hk, -, hn1, hn2⟩, hnm, hot⟩, ⟨hix, hex, hargs⟩, hth, hel⟩ := h
   obtain ⟨⟨⟨gk, -, gn1, gn2⟩, gnm, got⟩, ⟨gix, gex, gargs⟩, gth, gel⟩ := h2
   have hb : Below w.heap.size w ((w.alloc (Obj.cells #[.int .i64 c.k, .int .i64 c.a, .string c.nm, .string c.ot, .int .i64 c.ix.k, .int .i64 c.ix.a, .int .i64 c.ix.n, .string c.ix.nm, .slice c.ix.args.ad c.ix.args.len c.ix.args.cap, .int .i64 c.ex.k, .int .i64 c.ex.a, .int .i64 c.ex.n, .string c.ex.nm, .slice c.ex.args.ad c.ex.args.len c.ex.args.cap, .slice c.args.ad c.args.len c.args.cap, .slice c.th.ad c.th.len c.th.cap, .slice c.el.ad c.el.len c.el.cap] 56)).alloc (Obj.cells #[.int .i64 d.k, .int .i64 d.a, .string d.nm, .string d.ot, .int .i64 d.ix.k, .int .i64 d.ix.a, .int .i64 d.ix.n, .string d.ix.nm, .slice d.ix.args.ad d.ix.args.len d.ix.args.cap, .int .i64 d.ex.k, .int .i64 d.ex.a, .int .i64 d.ex.n, .string d.ex.nm, .slice d.ex.args.ad d.ex.args.len d.ex.args.cap, .slice d.args.ad d.args.len d.args.cap, .slice d.th.ad d.th.len d.th.cap, .slice d.el.ad d.el.len d.el.cap] 56)) := (Zr.alloc Zl _).alloc (by simp) _
   have HB := Hd hb
   have hsa : ((w.alloc (Obj.cells #[.int .i64 c.k, .int .i64 c.a, .string c.nm, .string c.ot, .int .i64 c.ix.k, .int .i64 c.ix.a, .int .i64 c.ix.n, .string c.ix.nm, .slice c.ix.args.ad c.ix.args.len c.ix.args.cap, .int .i64 c.ex.k, .int .i64 c.ex.a, .int .i64 c.ex.n, .string c.ex.nm, .slice c.ex.args.ad c.ex.args.len c.ex.args.cap, .slice c.args.ad c.args.len c.args.cap, .slice c.th.ad c.th.len c.th.cap, .slice c.el.ad c.el.len c.el.cap] 56)).alloc (Obj.cells #[.int .i64 d.k, .int .i64 d.a, .string d.nm, .string d.ot, .int .i64 d.ix.k, .int .i64 d.ix.a, .int .i64 d.ix.n, .string d.ix.nm, .slice d.ix.args.ad d.ix.args.len d.ix.args.cap, .int .i64 d.ex.k, .int .i64 d.ex.a, .int .i64 d.ex.n, .string d.ex.nm, .slice d.ex.args.ad d.ex.args.len d.ex.args.cap, .slice d.args.ad d.args.len d.args.cap, .slice d.th.ad d.th.len d.th.cap, .slice d.el.ad d.el.len d.el.cap] 56)).heap.size = w.heap.size + 2 := by simp
   have HX1 := Hd (show Tk.BV ((w.alloc (Obj.cells #[.int .i64 c.k, .int .i64 c.a, .string c.nm, .string c.ot, .int .i64 c.ix.k, .int .i64 c.ix.a, .int .i64 c.ix.n, .string c.ix.nm, .slice c.ix.args.ad c.ix.args.len c.ix.args.cap, .int .i64 c.ex.k, .int .i64 c.ex.a, .int .i64 c.ex.n, .string c.ex.nm, .slice c.ex.args.ad c.ex.args.len c.ex.args.cap, .slice c.args.ad c.args.len c.args.cap, .slice c.th.ad c.th.len c.th.cap, .slice c.el.ad c.el.len c.el.cap] 56)).alloc (Obj.cells #[.int .i64 d.k, .int .i64 d.a, .string d.nm, .string d.ot, .int .i64 d.ix.k, .int .i64 d.ix.a, .int .i64 d.ix.n, .string d.ix.nm, .slice d.ix.args.ad d.ix.args.len d.ix.args.cap, .int .i64 d.ex.k, .int .i64 d.ex.a, .int .i64 d.ex.n, .string d.ex.nm, .slice d.ex.args.ad d.ex.args.len d.ex.args.cap, .slice d.args.ad d.args.len d.args.cap, .slice d.th.ad d.th.len d.th.cap, .slice d.el.ad d.el.len d.el.cap] 56)) w.heap.size c.cells from fun j v h => (World.cell?_alloc2_first _ _ _ _).trans h)
   have HX2 := Hd (show Tk.BV ((w.alloc (Obj.cells #[.int .i64 c.k, .int .i64 c.a, .string c.nm, .string c.ot, .int .i64 c.ix.k, .int .i64 c.ix.a, .int .i64 c.ix.n, .string c.ix.nm, .slice c.ix.args.ad c.ix.args.len c.ix.args.cap, .int .i64 c.ex.k, .int .i64 c.ex.a, .int .i64 c.ex.n, .string c.ex.nm, .slice c.ex.args.ad c.ex.args.len c.ex.args.cap, .slice c.args.ad c.args.len c.args.cap, .slice c.th.ad c.th.len c.th.cap, .slice c.el.ad c.el.len c.el.cap] 56)).alloc (Obj.cells #[.int .i64 d.k, .int .i64 d.a, .string d.nm, .string d.ot, .int .i64 d.ix.k, .int .i64 d.ix.a, .int .i64 d.ix.n, .string d.ix.nm, .slice d.ix.args.ad d.ix.args.len d.ix.args.cap, .int .i64 d.ex.k, .int .i64 d.ex.a, .int .i64 d.ex.n, .string d.ex.nm, .slice d.ex.args.ad d.ex.args.len d.ex.args.cap, .slice d.args.ad d.args.len d.args.cap, .slice d.th.ad d.th.len d.th.cap, .slice d.el.ad d.el.len d.el.cap] 56)) (w.heap.size + 1) d.cells from fun j v h => (World.cell?_alloc2_new _ _ _ _).trans h)
   have HI := Hd (fun (V : World) (hV : Below w.heap.size w V) => ZcN m m2 c.ix d.ix x.2.1.1 y.2.1.1 V (hix.later hV Zl) (gix.later hV Zl))
   have HE := Hd (fun (V : World) (hV : Below w.heap.size w V) => ZcN m m2 c.ex d.ex x.2.1.2.1 y.2.1.2.1 V (hex.later hV Zl) (gex.later hV Zl))
   have HA := Hd (fun (V : World) (hV : Below w.heap.size w V) => Zgi m m2 (fun q q2 x y w h1 h2 => ZcN m m2 q q2 x y w h1 h2) c.args d.args x.2.1.2.2 y.2.1.2.2 V (hargs.laterE hV Zl) (gargs.laterE hV Zl))
   have HT := Hd (fun (V : World) (hV : Below w.heap.size w V) => ZfZ m n m2 n2 (fun q q2 x y w h1 h2 => ih n2 q q2 x y w h1 h2) c.th d.th x.2.2.1 y.2.2.1 V (hth.laterC hV Zl) (gth.laterC hV Zl))
   have HL := Hd (fun (V : World) (hV : Below w.heap.size w V) => ZfZ m n m2 n2 (fun q q2 x y w h1 h2 => ih n2 q q2 x y w h1 h2) c.el d.el x.2.2.2 y.2.2.2 V (hel.laterC hV Zl) (gel.laterC hV Zl))
   have hx : Zas (n + 1) (n2 + 1) x y = ((c.k == d.k) && (c.nm.toList == d.nm.toList) && (c.ot.toList == d.ot.toList) && Zai m m2 x.2.1.1 y.2.1.1 && Zai m m2 x.2.1.2.1 y.2.1.2.1 && Zaa (Zai m m2) x.2.1.2.2 y.2.1.2.2 && Zaa (Zas n n2) x.2.2.1 y.2.2.1 && Zaa (Zas n n2) x.2.2.2 y.2.2.2) := by rw [hk, hn1, hn2, gk, gn1, gn2]; rfl
   generalize Zai m m2 x.2.1.1 y.2.1.1 = b4 at *
   generalize Zai m m2 x.2.1.2.1 y.2.1.2.1 = b5 at *
   generalize Zaa (Zai m m2) x.2.1.2.2 y.2.1.2.2 = b6 at *
   generalize Zaa (Zas n n2) x.2.2.1 y.2.2.1 = b7 at *
   generalize Zaa (Zas n n2) x.2.2.2 y.2.2.2 = b8 at *
   generalize Zas (n + 1) (n2 + 1) x y = z at *
   have HZ := Hd hx
   clear hx hb hk hn1 hn2 gk gn1 gn2 hnm hot gnm got hix hex hargs hth hel gix gex gargs gth gel ih
   unfold Tk.C.val
   go_enter Tryz.func85, Tryz.ntmps85
   go_upto_region 1 with fail
   generalize ((w.alloc (Obj.cells #[.int .i64 c.k, .int .i64 c.a, .string c.nm, .string c.ot, .int .i64 c.ix.k, .int .i64 c.ix.a, .int .i64 c.ix.n, .string c.ix.nm, .slice c.ix.args.ad c.ix.args.len c.ix.args.cap, .int .i64 c.ex.k, .int .i64 c.ex.a, .int .i64 c.ex.n, .string c.ex.nm, .slice c.ex.args.ad c.ex.args.len c.ex.args.cap, .slice c.args.ad c.args.len c.args.cap, .slice c.th.ad c.th.len c.th.cap, .slice c.el.ad c.el.len c.el.cap] 56)).alloc (Obj.cells #[.int .i64 d.k, .int .i64 d.a, .string d.nm, .string d.ot, .int .i64 d.ix.k, .int .i64 d.ix.a, .int .i64 d.ix.n, .string d.ix.nm, .slice d.ix.args.ad d.ix.args.len d.ix.args.cap, .int .i64 d.ex.k, .int .i64 d.ex.a, .int .i64 d.ex.n, .string d.ex.nm, .slice d.ex.args.ad d.ex.args.len d.ex.args.cap, .slice d.args.ad d.args.len d.args.cap, .slice d.th.ad d.th.len d.th.cap, .slice d.el.ad d.el.len d.el.cap] 56)) = wa at *
   have p0 := (uh HX1) 0 (.int .i64 c.k) rfl
   have r0 := (uh HX2) 0 (.int .i64 d.k) rfl
   have p2 := (uh HX1) 2 (.string c.nm) rfl
   have r2 := (uh HX2) 2 (.string d.nm) rfl
   have p3 := (uh HX1) 3 (.string c.ot) rfl
   have r3 := (uh HX2) 3 (.string d.ot) rfl
   cases h1 : (c.k == d.k)
   · have hf : Hid (z = false) := by show _ = _; rw [uh HZ, h1]; simp
     go_wp2_with fail
     go_ret
     exact ⟨Zaj (uh hf).symm, uh HB⟩
   rw [h1] at HZ
   cases h2 : (c.nm.toList == d.nm.toList)
   · have hf : Hid (z = false) := by show _ = _; rw [uh HZ, h2]; simp
     go_wp2_with fail
     go_ret
     exact ⟨Zaj (uh hf).symm, uh HB⟩
   rw [h2] at HZ
   cases h3 : (c.ot.toList == d.ot.toList)
   · have hf : Hid (z = false) := by show _ = _; rw [uh HZ, h3]; simp
     go_wp2_with fail
     go_ret
     exact ⟨Zaj (uh hf).symm, uh HB⟩
   rw [h3] at HZ
   have p4 := (uh HX1) 4 (.int .i64 c.ix.k) rfl
   have r4 := (uh HX2) 4 (.int .i64 d.ix.k) rfl
   have p5 := (uh HX1) 5 (.int .i64 c.ix.a) rfl
   have r5 := (uh HX2) 5 (.int .i64 d.ix.a) rfl
   have p6 := (uh HX1) 6 (.int .i64 c.ix.n) rfl
   have r6 := (uh HX2) 6 (.int .i64 d.ix.n) rfl
   have p7 := (uh HX1) 7 (.string c.ix.nm) rfl
   have r7 := (uh HX2) 7 (.string d.ix.nm) rfl
   have p8 := (uh HX1) 8 (.slice c.ix.args.ad c.ix.args.len c.ix.args.cap) rfl
   have r8 := (uh HX2) 8 (.slice d.ix.args.ad d.ix.args.len d.ix.args.cap) rfl
   go_wp2_with fail
   refine ((uh HI) wa (uh HB)).mono ?_
   rintro r wb ⟨rfl, hb⟩
   have hswb := hb.size
   replace HX1 := Hd ((uh HX1).below hb (by omega))
   replace HX2 := Hd ((uh HX2).below hb (by omega))
   replace HB := Hd ((uh HB).trans (hb.mono (uh HB).size))
   clear hb p4 r4 p5 r5 p6 r6 p7 r7 p8 r8
   cases b4
   · have hf : Hid (z = false) := by show _ = _; rw [uh HZ]; simp
     go_wp2_with fail
     go_ret
     exact ⟨Zaj (uh hf).symm, uh HB⟩
   have p9 := (uh HX1) 9 (.int .i64 c.ex.k) rfl
   have r9 := (uh HX2) 9 (.int .i64 d.ex.k) rfl
   have p10 := (uh HX1) 10 (.int .i64 c.ex.a) rfl
   have r10 := (uh HX2) 10 (.int .i64 d.ex.a) rfl
   have p11 := (uh HX1) 11 (.int .i64 c.ex.n) rfl
   have r11 := (uh HX2) 11 (.int .i64 d.ex.n) rfl
   have p12 := (uh HX1) 12 (.string c.ex.nm) rfl
   have r12 := (uh HX2) 12 (.string d.ex.nm) rfl
   have p13 := (uh HX1) 13 (.slice c.ex.args.ad c.ex.args.len c.ex.args.cap) rfl
   have r13 := (uh HX2) 13 (.slice d.ex.args.ad d.ex.args.len d.ex.args.cap) rfl
   go_wp2_with fail
   refine ((uh HE) wb (uh HB)).mono ?_
   rintro r wc ⟨rfl, hb⟩
   have hswc := hb.size
   replace HX1 := Hd ((uh HX1).below hb (by omega))
   replace HX2 := Hd ((uh HX2).below hb (by omega))
   replace HB := Hd ((uh HB).trans (hb.mono (uh HB).size))
   clear hb p9 r9 p10 r10 p11 r11 p12 r12 p13 r13
   cases b5
   · have hf : Hid (z = false) := by show _ = _; rw [uh HZ]; simp
     go_wp2_with fail
     go_ret
     exact ⟨Zaj (uh hf).symm, uh HB⟩
   have p14 := (uh HX1) 14 (.slice c.args.ad c.args.len c.args.cap) rfl
   have r14 := (uh HX2) 14 (.slice d.args.ad d.args.len d.args.cap) rfl
   go_wp2_with fail
   refine ((uh HA) wc (uh HB)).mono ?_
   rintro r wd ⟨rfl, hb⟩
   have hswd := hb.size
   replace HX1 := Hd ((uh HX1).below hb (by omega))
   replace HX2 := Hd ((uh HX2).below hb (by omega))
   replace HB := Hd ((uh HB).trans (hb.mono (uh HB).size))
   clear hb p14 r14
   cases b6
   · have hf : Hid (z = false) := by show _ = _; rw [uh HZ]; simp
     go_wp2_with fail
     go_ret
     exact ⟨Zaj (uh hf).symm, uh HB⟩
   have p15 := (uh HX1) 15 (.slice c.th.ad c.th.len c.th.cap) rfl
   have r15 := (uh HX2) 15 (.slice d.th.ad d.th.len d.th.cap) rfl
   go_wp2_with fail
   refine ((uh HT) wd (uh HB)).mono ?_
   rintro r we ⟨rfl, hb⟩
   have hswe := hb.size
   replace HX1 := Hd ((uh HX1).below hb (by omega))
   replace HX2 := Hd ((uh HX2).below hb (by omega))
   replace HB := Hd ((uh HB).trans (hb.mono (uh HB).size))
   clear hb p15 r15
   cases b7
   · have hf : Hid (z = false) := by show _ = _; rw [uh HZ]; simp
     go_wp2_with fail
     go_ret
     exact ⟨Zaj (uh hf).symm, uh HB⟩
   have p16 := (uh HX1) 16 (.slice c.el.ad c.el.len c.el.cap) rfl
   have r16 := (uh HX2) 16 (.slice d.el.ad d.el.len d.el.cap) rfl
   go_wp2_with fail
   refine ((uh HL) we (uh HB)).mono ?_
   rintro r wf ⟨rfl, hb⟩
   have hswf := hb.size
   replace HX1 := Hd ((uh HX1).below hb (by omega))
   replace HX2 := Hd ((uh HX2).below hb (by omega))
   replace HB := Hd ((uh HB).trans (hb.mono (uh HB).size))
   clear hb p16 r16
   have hf : Hid (z = b8) := by show _ = _; rw [uh HZ]; simp
   go_wp2_with fail
   go_ret
   exact ⟨Zaj (uh hf).symm, uh HB⟩
theorem ZhF {m n m2 n2 : Nat} (c d : Tk.F) (x : Tk.FT m n) (y : Tk.FT m2 n2) (w : World) (h : Tk.RF w m n c x) (h2 : Tk.RF w m2 n2 d y) : Calls Tryz.prog 46 #[.agg c.cells, .agg d.cells] w fun r w' => r = .returned (.bool (Zaw x y)) ∧ Below w.heap.size w w' := by
 have hb : Below w.heap.size w ((w.alloc (Obj.cells #[.int .i64 c.a, .string c.nm, .slice c.ps.ad c.ps.len c.ps.cap, .slice c.vs.ad c.vs.len c.vs.cap, .slice c.cs.ad c.cs.len c.cs.cap, .int .i64 c.re.k, .int .i64 c.re.a, .int .i64 c.re.n, .string c.re.nm, .slice c.re.args.ad c.re.args.len c.re.args.cap] 54)).alloc (Obj.cells #[.int .i64 d.a, .string d.nm, .slice d.ps.ad d.ps.len d.ps.cap, .slice d.vs.ad d.vs.len d.vs.cap, .slice d.cs.ad d.cs.len d.cs.cap, .int .i64 d.re.k, .int .i64 d.re.a, .int .i64 d.re.n, .string d.re.nm, .slice d.re.args.ad d.re.args.len d.re.args.cap] 54)) := (Zr.alloc Zl _).alloc (by simp) _
 have HB := Hd hb
 have hsa : ((w.alloc (Obj.cells #[.int .i64 c.a, .string c.nm, .slice c.ps.ad c.ps.len c.ps.cap, .slice c.vs.ad c.vs.len c.vs.cap, .slice c.cs.ad c.cs.len c.cs.cap, .int .i64 c.re.k, .int .i64 c.re.a, .int .i64 c.re.n, .string c.re.nm, .slice c.re.args.ad c.re.args.len c.re.args.cap] 54)).alloc (Obj.cells #[.int .i64 d.a, .string d.nm, .slice d.ps.ad d.ps.len d.ps.cap, .slice d.vs.ad d.vs.len d.vs.cap, .slice d.cs.ad d.cs.len d.cs.cap, .int .i64 d.re.k, .int .i64 d.re.a, .int .i64 d.re.n, .string d.re.nm, .slice d.re.args.ad d.re.args.len d.re.args.cap] 54)).heap.size = w.heap.size + 2 := by simp
 have HX1 := Hd (show Tk.BV ((w.alloc (Obj.cells #[.int .i64 c.a, .string c.nm, .slice c.ps.ad c.ps.len c.ps.cap, .slice c.vs.ad c.vs.len c.vs.cap, .slice c.cs.ad c.cs.len c.cs.cap, .int .i64 c.re.k, .int .i64 c.re.a, .int .i64 c.re.n, .string c.re.nm, .slice c.re.args.ad c.re.args.len c.re.args.cap] 54)).alloc (Obj.cells #[.int .i64 d.a, .string d.nm, .slice d.ps.ad d.ps.len d.ps.cap, .slice d.vs.ad d.vs.len d.vs.cap, .slice d.cs.ad d.cs.len d.cs.cap, .int .i64 d.re.k, .int .i64 d.re.a, .int .i64 d.re.n, .string d.re.nm, .slice d.re.args.ad d.re.args.len d.re.args.cap] 54)) w.heap.size c.cells from fun j v h => (World.cell?_alloc2_first _ _ _ _).trans h)
 have HX2 := Hd (show Tk.BV ((w.alloc (Obj.cells #[.int .i64 c.a, .string c.nm, .slice c.ps.ad c.ps.len c.ps.cap, .slice c.vs.ad c.vs.len c.vs.cap, .slice c.cs.ad c.cs.len c.cs.cap, .int .i64 c.re.k, .int .i64 c.re.a, .int .i64 c.re.n, .string c.re.nm, .slice c.re.args.ad c.re.args.len c.re.args.cap] 54)).alloc (Obj.cells #[.int .i64 d.a, .string d.nm, .slice d.ps.ad d.ps.len d.ps.cap, .slice d.vs.ad d.vs.len d.vs.cap, .slice d.cs.ad d.cs.len d.cs.cap, .int .i64 d.re.k, .int .i64 d.re.a, .int .i64 d.re.n, .string d.re.nm, .slice d.re.args.ad d.re.args.len d.re.args.cap] 54)) (w.heap.size + 1) d.cells from fun j v h => (World.cell?_alloc2_new _ _ _ _).trans h)
 have HP := Hd (fun (V : World) (hV : Below w.heap.size w V) => ZiP c.ps d.ps x.ps y.ps V (h.ps.laterS hV Zl) (h2.ps.laterS hV Zl))
 have HV := Hd (fun (V : World) (hV : Below w.heap.size w V) => Zkr c.vs d.vs x.vs y.vs V (h.vs.laterV hV Zl) (h2.vs.laterV hV Zl))
 have HC := Hd (fun (V : World) (hV : Below w.heap.size w V) => ZfZ m n m2 n2 (fun q q2 x y w h1 h2 => ZiN n n2 q q2 x y w h1 h2) c.cs d.cs x.cs y.cs V (h.cs.laterC hV Zl) (h2.cs.laterC hV Zl))
 have HE := Hd (fun (V : World) (hV : Below w.heap.size w V) => ZcN m m2 c.re d.re x.re y.re V (h.re.later hV Zl) (h2.re.later hV Zl))
 have hx : Zaw x y = ((c.nm.toList == d.nm.toList) && Zaa (fun a b : ByteArray => a.toList == b.toList) x.ps y.ps && Zaa (fun a b : ByteArray × Int => (a.1.toList == b.1.toList) && (a.2 == b.2)) x.vs y.vs && Zaa (Zas n n2) x.cs y.cs && Zai m m2 x.re y.re) := by
  rw [h.nm, h2.nm]
  unfold Zaw
  have e1 : Zaa (fun a b : ByteArray => a.toList == b.toList) x.ps y.ps = true → (x.ps.length == y.ps.length) = true := fun hh => by
   rw [beq_iff_eq]
   exact Classical.byContradiction fun hn => by rw [Zbx (fun a b : ByteArray => a.toList == b.toList) x.ps y.ps hn] at hh; cases hh
  have e2 : Zaa (fun a b : ByteArray × Int => (a.1.toList == b.1.toList) && (a.2 == b.2)) x.vs y.vs = true → (x.vs.length == y.vs.length) = true := fun hh => by
   rw [beq_iff_eq]
   exact Classical.byContradiction fun hn => by rw [Zbx (fun a b : ByteArray × Int => (a.1.toList == b.1.toList) && (a.2 == b.2)) x.vs y.vs hn] at hh; cases hh
  revert e1 e2
  generalize Zaa (fun a b : ByteArray => a.toList == b.toList) x.ps y.ps = P1
  generalize Zaa (fun a b : ByteArray × Int => (a.1.toList == b.1.toList) && (a.2 == b.2)) x.vs y.vs = P2
  generalize (x.ps.length == y.ps.length) = A1
  generalize (x.vs.length == y.vs.length) = A2
  generalize Zaa (Zas n n2) x.cs y.cs = C1
  generalize Zai m m2 x.re y.re = E1
  generalize (x.nm.toList == y.nm.toList) = N1
  intro e1 e2
  cases P1 <;> cases P2 <;> cases A1 <;> cases A2 <;> cases C1 <;> cases E1 <;> cases N1 <;> simp_all
 generalize Zaa (fun a b : ByteArray => a.toList == b.toList) x.ps y.ps = b2 at *
 generalize Zaa (fun a b : ByteArray × Int => (a.1.toList == b.1.toList) && (a.2 == b.2)) x.vs y.vs = b3 at *
 generalize Zaa (Zas n n2) x.cs y.cs = b4 at *
 generalize Zai m m2 x.re y.re = b5 at *
 generalize Zaw x y = z at *
 have HZ := Hd hx
 clear hx hb h h2
 show Calls Tryz.prog 46 #[.agg #[.int .i64 c.a, .string c.nm, .slice c.ps.ad c.ps.len c.ps.cap, .slice c.vs.ad c.vs.len c.vs.cap, .slice c.cs.ad c.cs.len c.cs.cap, .int .i64 c.re.k, .int .i64 c.re.a, .int .i64 c.re.n, .string c.re.nm, .slice c.re.args.ad c.re.args.len c.re.args.cap], .agg #[.int .i64 d.a, .string d.nm, .slice d.ps.ad d.ps.len d.ps.cap, .slice d.vs.ad d.vs.len d.vs.cap, .slice d.cs.ad d.cs.len d.cs.cap, .int .i64 d.re.k, .int .i64 d.re.a, .int .i64 d.re.n, .string d.re.nm, .slice d.re.args.ad d.re.args.len d.re.args.cap]] w _
 go_enter Tryz.func46, Tryz.ntmps46
 go_upto_region 1 with fail
 generalize ((w.alloc (Obj.cells #[.int .i64 c.a, .string c.nm, .slice c.ps.ad c.ps.len c.ps.cap, .slice c.vs.ad c.vs.len c.vs.cap, .slice c.cs.ad c.cs.len c.cs.cap, .int .i64 c.re.k, .int .i64 c.re.a, .int .i64 c.re.n, .string c.re.nm, .slice c.re.args.ad c.re.args.len c.re.args.cap] 54)).alloc (Obj.cells #[.int .i64 d.a, .string d.nm, .slice d.ps.ad d.ps.len d.ps.cap, .slice d.vs.ad d.vs.len d.vs.cap, .slice d.cs.ad d.cs.len d.cs.cap, .int .i64 d.re.k, .int .i64 d.re.a, .int .i64 d.re.n, .string d.re.nm, .slice d.re.args.ad d.re.args.len d.re.args.cap] 54)) = wa at *
 have p1 := (uh HX1) 1 (.string c.nm) rfl
 have r1 := (uh HX2) 1 (.string d.nm) rfl
 cases h1 : (c.nm.toList == d.nm.toList)
 · have hf : Hid (z = false) := by show _ = _; rw [uh HZ, h1]; simp
   go_wp2_with fail
   go_ret
   exact ⟨Zaj (uh hf).symm, uh HB⟩
 rw [h1] at HZ
 have p2 := (uh HX1) 2 (.slice c.ps.ad c.ps.len c.ps.cap) rfl
 have r2 := (uh HX2) 2 (.slice d.ps.ad d.ps.len d.ps.cap) rfl
 go_wp2_with fail
 refine ((uh HP) wa (uh HB)).mono ?_
 rintro r wb ⟨rfl, hb⟩
 have hswb := hb.size
 replace HX1 := Hd ((uh HX1).below hb (by omega))
 replace HX2 := Hd ((uh HX2).below hb (by omega))
 replace HB := Hd ((uh HB).trans (hb.mono (uh HB).size))
 clear hb p2 r2
 cases b2
 · have hf : Hid (z = false) := by show _ = _; rw [uh HZ]; simp
   go_wp2_with fail
   go_ret
   exact ⟨Zaj (uh hf).symm, uh HB⟩
 have p3 := (uh HX1) 3 (.slice c.vs.ad c.vs.len c.vs.cap) rfl
 have r3 := (uh HX2) 3 (.slice d.vs.ad d.vs.len d.vs.cap) rfl
 go_wp2_with fail
 refine ((uh HV) wb (uh HB)).mono ?_
 rintro r wc ⟨rfl, hb⟩
 have hswc := hb.size
 replace HX1 := Hd ((uh HX1).below hb (by omega))
 replace HX2 := Hd ((uh HX2).below hb (by omega))
 replace HB := Hd ((uh HB).trans (hb.mono (uh HB).size))
 clear hb p3 r3
 cases b3
 · have hf : Hid (z = false) := by show _ = _; rw [uh HZ]; simp
   go_wp2_with fail
   go_ret
   exact ⟨Zaj (uh hf).symm, uh HB⟩
 have p4 := (uh HX1) 4 (.slice c.cs.ad c.cs.len c.cs.cap) rfl
 have r4 := (uh HX2) 4 (.slice d.cs.ad d.cs.len d.cs.cap) rfl
 go_wp2_with fail
 refine ((uh HC) wc (uh HB)).mono ?_
 rintro r wd ⟨rfl, hb⟩
 have hswd := hb.size
 replace HX1 := Hd ((uh HX1).below hb (by omega))
 replace HX2 := Hd ((uh HX2).below hb (by omega))
 replace HB := Hd ((uh HB).trans (hb.mono (uh HB).size))
 clear hb p4 r4
 cases b4
 · have hf : Hid (z = false) := by show _ = _; rw [uh HZ]; simp
   go_wp2_with fail
   go_ret
   exact ⟨Zaj (uh hf).symm, uh HB⟩
 have p5 := (uh HX1) 5 (.int .i64 c.re.k) rfl
 have r5 := (uh HX2) 5 (.int .i64 d.re.k) rfl
 have p6 := (uh HX1) 6 (.int .i64 c.re.a) rfl
 have r6 := (uh HX2) 6 (.int .i64 d.re.a) rfl
 have p7 := (uh HX1) 7 (.int .i64 c.re.n) rfl
 have r7 := (uh HX2) 7 (.int .i64 d.re.n) rfl
 have p8 := (uh HX1) 8 (.string c.re.nm) rfl
 have r8 := (uh HX2) 8 (.string d.re.nm) rfl
 have p9 := (uh HX1) 9 (.slice c.re.args.ad c.re.args.len c.re.args.cap) rfl
 have r9 := (uh HX2) 9 (.slice d.re.args.ad d.re.args.len d.re.args.cap) rfl
 go_wp2_with fail
 refine ((uh HE) wd (uh HB)).mono ?_
 rintro r we ⟨rfl, hb⟩
 have hswe := hb.size
 replace HX1 := Hd ((uh HX1).below hb (by omega))
 replace HX2 := Hd ((uh HX2).below hb (by omega))
 replace HB := Hd ((uh HB).trans (hb.mono (uh HB).size))
 clear hb p5 r5 p6 r6 p7 r7 p8 r8 p9 r9
 have hf : Hid (z = b5) := by show _ = _; rw [uh HZ]; simp
 go_wp2_with fail
 go_ret
 exact ⟨Zaj (uh hf).symm, uh HB⟩
theorem Zb0 {m n m2 n2 : Nat} (s t : Tk.Sl) (l : List (Tk.FT m n)) (k : List (Tk.FT m2 n2)) (w : World) (hs : Tk.RT w m n s l) (ht : Tk.RT w m2 n2 t k) : Calls Tryz.prog 20 #[.agg #[.slice s.ad s.len s.cap], .agg #[.slice t.ad t.len t.cap]] w fun r w' => r = .returned (.bool (Zaa Zaw l k)) ∧ Below w.heap.size w w' := by
 have hb : Below w.heap.size w ((w.alloc (Obj.cells #[.slice s.ad s.len s.cap] 24)).alloc (Obj.cells #[.slice t.ad t.len t.cap] 24)) := (Zr.alloc Zl _).alloc (by simp) _
 have HB := Hd hb
 have HQ := Hd (ZjN m n m2 n2 (fun q q2 x y w h1 h2 => ZhF q q2 x y w h1 h2) s t l k ((w.alloc (Obj.cells #[.slice s.ad s.len s.cap] 24)).alloc (Obj.cells #[.slice t.ad t.len t.cap] 24)) (Tk.RT.later hs hb Zl) (Tk.RT.later ht hb Zl))
 clear hb hs ht
 go_enter Tryz.func20, Tryz.ntmps20
 go_wp2_with fail
 refine (uh HQ).mono ?_
 rintro r w3 ⟨rfl, hb3⟩
 have HB3 := Hd ((uh HB).trans (hb3.mono (uh HB).size))
 clear hb3
 go_wp2_with fail
 go_ret
 exact ⟨rfl, uh HB3⟩
end Go.Proofs.YtfccpddehpgfoaaGreatDoor
