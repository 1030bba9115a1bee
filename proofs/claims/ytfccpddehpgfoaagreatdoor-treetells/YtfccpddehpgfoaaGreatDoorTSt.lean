/-
  The document's SameTree, where places are not asked. By the verifier.
-/
import Derived.Test.YtfccpddehpgfoaaGreatDoorTSc
import Derived.Test.YtfccpddehpgfoaaGreatDoorTCk3
import Derived.Test.YtfccpddehpgfoaaGreatDoorTSv
import Derived.Deep.QuietTactic
import Derived.BigQuiet
set_option maxRecDepth 100000
set_option maxHeartbeats 3200000
namespace Go.Proofs.YtfccpddehpgfoaaGreatDoor
open Go.RowKit
set_option linter.unusedVariables false
theorem Tryz.sizTF : (Tryz.prog.info? 54).map (·.size) = some 10 := by kernel_rfl
def Tk.sameF {m n m' n' : Nat} (x : Tk.FT m n) (y : Tk.FT m' n') : Bool := (x.nm.toList == y.nm.toList) && (x.ps.length == y.ps.length) && (x.vs.length == y.vs.length) && Tk.sameL (Tk.sameC n n') x.cs y.cs && Tk.sameE m m' x.re y.re && Tk.sameL (fun a b : ByteArray => a.toList == b.toList) x.ps y.ps && Tk.sameL (fun a b : ByteArray × Int => (a.1.toList == b.1.toList) && (a.2 == b.2)) x.vs y.vs
theorem SameTree_any {m n m' n' : Nat} (s t : Tk.Sl) (l : List (Tk.FT m n)) (k : List (Tk.FT m' n')) (w : World) (hs : Tk.RT w m n s l) (ht : Tk.RT w m' n' t k) :
  Calls Tryz.prog 16 #[.agg #[.slice s.ad s.len s.cap], .agg #[.slice t.ad t.len t.cap], .bool false] w fun r w' => r = .returned (.bool (Tk.sameL Tk.sameF l k)) ∧ Below w.heap.size w w' := by
 have hlen := hs.len
 have hfew := hs.few
 rw [← hlen] at hfew
 have hlen2 := ht.len
 have hbA : Below w.heap.size w ((w.alloc (Obj.cells #[.slice s.ad s.len s.cap] 24)).alloc (Obj.cells #[.slice t.ad t.len t.cap] 24)) := ((Below.refl _ _).alloc (Nat.le_refl _) _).alloc (by simp) _
 have HBA := hide hbA
 have HS := hide hs
 have HT := hide ht
 have HLN := hide hlen
 have HLN2 := hide hlen2
 have hsa : ((w.alloc (Obj.cells #[.slice s.ad s.len s.cap] 24)).alloc (Obj.cells #[.slice t.ad t.len t.cap] 24)).heap.size = w.heap.size + 2 := by simp
 have HR := hide (show ((w.alloc (Obj.cells #[.slice s.ad s.len s.cap] 24)).alloc (Obj.cells #[.slice t.ad t.len t.cap] 24)).cell? ⟨w.heap.size, 0, none⟩ = some (.slice s.ad s.len s.cap) ∧ ((w.alloc (Obj.cells #[.slice s.ad s.len s.cap] 24)).alloc (Obj.cells #[.slice t.ad t.len t.cap] 24)).cell? ⟨w.heap.size + 1, 0, none⟩ = some (.slice t.ad t.len t.cap) from ⟨by go_simp, by go_simp⟩)
 clear hs ht hlen hlen2 hbA
 by_cases hne : s.len = t.len
 · have g0 : ((s.len : Int) != (t.len : Int)) = false := by rw [hne]; simp
   have HNE := hide hne
   clear hne
   go_enter Tryz.func16, Tryz.ntmps16
   (try simp only [List.append_eq, List.cons_append, List.nil_append])
   go_wp2_with fail
   generalize ((w.alloc (Obj.cells #[.slice s.ad s.len s.cap] 24)).alloc (Obj.cells #[.slice t.ad t.len t.cap] 24)) = wa at *
   go_loopw [7] (fun iv wr => ∃ i : Nat, i ≤ s.len ∧ iv = .int .i64 i ∧ (∀ j x y, j < i → l[j]? = some x → k[j]? = some y → Tk.sameF x y = true) ∧ Below wa.heap.size wa wr) (fun iv _ => s.len - (intOf iv).toNat)
   case atStart => exact ⟨0, Nat.zero_le _, rfl, fun j x y h => by omega, Below.refl _ _⟩
   case round =>
    obtain ⟨i, hi, rfl, hall, hbe⟩ := hrel
    have hz := hbe.size
    have HAL := hide hall
    have HBE := hide ((unhide HBA).trans (hbe.mono (by omega)))
    have r1 := (hbe.cell (p := ⟨w.heap.size, 0, none⟩) (by show w.heap.size < _; omega)).trans (unhide HR).1
    have r2 := (hbe.cell (p := ⟨w.heap.size + 1, 0, none⟩) (by show w.heap.size + 1 < _; omega)).trans (unhide HR).2
    have HBW := hide hbe
    clear hall hbe
    by_cases hlt : i < s.len
    · have hlt1 : i < l.length := by have := unhide HLN; omega
      have hlt2 : i < k.length := by have := unhide HLN2; have := unhide HNE; omega
      have hy := List.getElem?_eq_getElem hlt1
      have hy2 := List.getElem?_eq_getElem hlt2
      obtain ⟨b, o, q, had, hb, hlies, hrd⟩ := (unhide HS).at_ i _ hy
      obtain ⟨b2, o2, q2, had2, hb2, hlies2, hrd2⟩ := (unhide HT).at_ i _ hy2
      generalize l[i] = x at *
      generalize k[i] = y at *
      have hzz := (unhide HBE).size
      rw [had] at r1
      rw [had2] at r2
      have HSS := hide (show (fun V => V.cell? ⟨w.heap.size, 0, none⟩ = some (.slice (some ⟨b, o, none⟩) s.len s.cap) ∧ V.cell? ⟨w.heap.size + 1, 0, none⟩ = some (.slice (some ⟨b2, o2, none⟩) t.len t.cap) ∧ (∀ j v, q.cells[j]? = some v → V.cell? ⟨b, o + i * 10 + j, none⟩ = some v) ∧ (∀ j v, q2.cells[j]? = some v → V.cell? ⟨b2, o2 + i * 10 + j, none⟩ = some v)) wr.drew from ⟨r1, r2, ((hlies.later (unhide HBE) (Nat.le_refl _) hb).later (Below.refl _ _).drew (Nat.le_refl _) (by omega)).cells, ((hlies2.later (unhide HBE) (Nat.le_refl _) hb2).later (Below.refl _ _).drew (Nat.le_refl _) (by omega)).cells⟩)
      have HRD := hide (fun (V : World) (hb : Below w.heap.size w V) => hrd.later hb (Nat.le_refl _))
      have HRD2 := hide (fun (V : World) (hb : Below w.heap.size w V) => hrd2.later hb (Nat.le_refl _))
      have HY := hide (And.intro hy hy2)
      clear hlies hrd hlies2 hrd2 hy hy2
      have hi0 : (0 : Int) ≤ (i : Int) := by omega
      have hi1 : (i : Int) < (s.len : Int) := by omega
      have hlt3 : i < t.len := by have := unhide HNE; omega
      have hi2 : (i : Int) < (t.len : Int) := by omega
      rw [had, had2]
      go_upto_region 6 with fail
      go_cut [8, 9] from 19 to 122 (fun v8 v9 W => ∃ b1 b3, v8 = .pointer (some ⟨b1, 0, none⟩) ∧ v9 = .pointer (some ⟨b3, 0, none⟩) ∧ Tk.BV W b1 q.cells ∧ Tk.BV W b3 q2.cells ∧ b1 < W.heap.size ∧ b3 < W.heap.size ∧ Below wr.heap.size wr W)
      case first =>
       refine Rq.begin (fun j => Nat.beq j 13) (fun V => V.cell? ⟨w.heap.size, 0, none⟩ = some (.slice (some ⟨b, o, none⟩) s.len s.cap) ∧ V.cell? ⟨w.heap.size + 1, 0, none⟩ = some (.slice (some ⟨b2, o2, none⟩) t.len t.cap) ∧ (∀ j v, q.cells[j]? = some v → V.cell? ⟨b, o + i * 10 + j, none⟩ = some v) ∧ (∀ j v, q2.cells[j]? = some v → V.cell? ⟨b2, o2 + i * 10 + j, none⟩ = some v)) (by kernel_rfl) (unhide HSS) (fun hHeld hcl => ?_)
       have HBD := hide (Below.refl wr.heap.size wr).drew
       generalize wr.drew = wd at *
       refine Rq.tk 0 (.pointer (some ⟨w.heap.size, 0, none⟩)) Rq.z (by kernel_rfl) (by kernel_rfl) (by kernel_rfl) (by kernel_rfl) (fun _ _ _ h => h) (by assumption) (by assumption) (by rfl) (fun w hSw => by (try dsimp only at hSw); have hA := hSw.1; have hB := hSw.2.1; clear hSw; go_simp) (fun hcl => ?_)
       (try simp only [Act.put, List.setIfInBounds_toArray, List.set_cons_zero, List.set_cons_succ])
       refine Rq.tk 1 (.slice (some ⟨b, o, none⟩) s.len s.cap) (Rq.s Rq.z) (by kernel_rfl) (by kernel_rfl) (by kernel_rfl) (by kernel_rfl) (fun _ _ _ h => h) (by assumption) (by assumption) (by rfl) (fun w hSw => by (try dsimp only at hSw); have hA := hSw.1; have hB := hSw.2.1; clear hSw; go_simp) (fun hcl => ?_)
       (try simp only [Act.put, List.setIfInBounds_toArray, List.set_cons_zero, List.set_cons_succ])
       refine Rq.tk 2 (.int .i64 i) (Rq.s (Rq.s Rq.z)) (by kernel_rfl) (by kernel_rfl) (by kernel_rfl) (by kernel_rfl) (fun _ _ _ h => h) (by assumption) (by assumption) (by rfl) (fun w hSw => by (try dsimp only at hSw); have hA := hSw.1; have hB := hSw.2.1; clear hSw; go_simp) (fun hcl => ?_)
       (try simp only [Act.put, List.setIfInBounds_toArray, List.set_cons_zero, List.set_cons_succ])
       refine Rq.tk 3 (.pointer (some ⟨b, o + i * 10, none⟩)) (Rq.s (Rq.s (Rq.s Rq.z))) (by kernel_rfl) (by kernel_rfl) (by kernel_rfl) (by kernel_rfl) (fun _ _ _ h => h) (by assumption) (by assumption) (by rfl) (fun w hSw => by (try dsimp only at hSw); have hA := hSw.1; have hB := hSw.2.1; clear hSw; go_simp) (fun hcl => ?_)
       (try simp only [Act.put, List.setIfInBounds_toArray, List.set_cons_zero, List.set_cons_succ])
       refine Rq.tk 4 (.agg q.cells) (Rq.s (Rq.s (Rq.s (Rq.s Rq.z)))) (by kernel_rfl) (by kernel_rfl) (by kernel_rfl) (by kernel_rfl) (fun _ _ _ h => h) (by assumption) (by assumption) (by rfl) (fun w hSw => by exact Tp.runLoad (cs := q.cells) rfl rfl hSw.2.2.1 Tryz.underlying54 rfl Tryz.sizTF) (fun hcl => ?_)
       (try simp only [Act.put, List.setIfInBounds_toArray, List.set_cons_zero, List.set_cons_succ])
       refine Rq.tk 5 (.pointer (some ⟨w.heap.size + 1, 0, none⟩)) (Rq.s (Rq.s (Rq.s (Rq.s (Rq.s Rq.z))))) (by kernel_rfl) (by kernel_rfl) (by kernel_rfl) (by kernel_rfl) (fun _ _ _ h => h) (by assumption) (by assumption) (by rfl) (fun w hSw => by (try dsimp only at hSw); have hA := hSw.1; have hB := hSw.2.1; clear hSw; go_simp) (fun hcl => ?_)
       (try simp only [Act.put, List.setIfInBounds_toArray, List.set_cons_zero, List.set_cons_succ])
       refine Rq.tk 6 (.slice (some ⟨b2, o2, none⟩) t.len t.cap) (Rq.s (Rq.s (Rq.s (Rq.s (Rq.s (Rq.s Rq.z)))))) (by kernel_rfl) (by kernel_rfl) (by kernel_rfl) (by kernel_rfl) (fun _ _ _ h => h) (by assumption) (by assumption) (by rfl) (fun w hSw => by (try dsimp only at hSw); have hA := hSw.1; have hB := hSw.2.1; clear hSw; go_simp) (fun hcl => ?_)
       (try simp only [Act.put, List.setIfInBounds_toArray, List.set_cons_zero, List.set_cons_succ])
       refine Rq.tk 7 (.int .i64 i) (Rq.s (Rq.s (Rq.s (Rq.s (Rq.s (Rq.s (Rq.s Rq.z))))))) (by kernel_rfl) (by kernel_rfl) (by kernel_rfl) (by kernel_rfl) (fun _ _ _ h => h) (by assumption) (by assumption) (by rfl) (fun w hSw => by (try dsimp only at hSw); have hA := hSw.1; have hB := hSw.2.1; clear hSw; go_simp) (fun hcl => ?_)
       (try simp only [Act.put, List.setIfInBounds_toArray, List.set_cons_zero, List.set_cons_succ])
       refine Rq.tk 8 (.pointer (some ⟨b2, o2 + i * 10, none⟩)) (Rq.s (Rq.s (Rq.s (Rq.s (Rq.s (Rq.s (Rq.s (Rq.s Rq.z)))))))) (by kernel_rfl) (by kernel_rfl) (by kernel_rfl) (by kernel_rfl) (fun _ _ _ h => h) (by assumption) (by assumption) (by rfl) (fun w hSw => by (try dsimp only at hSw); have hA := hSw.1; have hB := hSw.2.1; clear hSw; go_simp) (fun hcl => ?_)
       (try simp only [Act.put, List.setIfInBounds_toArray, List.set_cons_zero, List.set_cons_succ])
       refine Rq.tk 9 (.agg q2.cells) (Rq.s (Rq.s (Rq.s (Rq.s (Rq.s (Rq.s (Rq.s (Rq.s (Rq.s Rq.z))))))))) (by kernel_rfl) (by kernel_rfl) (by kernel_rfl) (by kernel_rfl) (fun _ _ _ h => h) (by assumption) (by assumption) (by rfl) (fun w hSw => by exact Tp.runLoad (cs := q2.cells) rfl rfl hSw.2.2.2 Tryz.underlying54 rfl Tryz.sizTF) (fun hcl => ?_)
       (try simp only [Act.put, List.setIfInBounds_toArray, List.set_cons_zero, List.set_cons_succ])
       have hwd0 := (unhide HBD).size
       have hwdb : b < wd.heap.size := by omega
       have hwdb2 : b2 < wd.heap.size := by omega
       have hwdr : w.heap.size + 1 < wd.heap.size := by omega
       refine Rq.two 10 11 (Rq.s (Rq.s (Rq.s (Rq.s (Rq.s (Rq.s (Rq.s (Rq.s (Rq.s (Rq.s Rq.z)))))))))).is (Rq.s (Rq.s (Rq.s (Rq.s (Rq.s (Rq.s (Rq.s (Rq.s (Rq.s (Rq.s (Rq.s Rq.z))))))))))).is (by kernel_rfl) (by assumption) (fun K hK => ?_) (fun K hK => ?_)
       · have hb1 : Below wd.heap.size wd (wd.alloc (Obj.cells Tk.F.zero.cells 54)) := (Below.refl _ _).alloc (Nat.le_refl _) _
         have hb2' : Below wd.heap.size wd ((wd.alloc (Obj.cells Tk.F.zero.cells 54)).alloc (Obj.cells Tk.F.zero.cells 54)) := hb1.alloc (by simp) _
         have hs1 : (wd.alloc (Obj.cells Tk.F.zero.cells 54)).heap.size = wd.heap.size + 1 := by simp
         have hs2 : ((wd.alloc (Obj.cells Tk.F.zero.cells 54)).alloc (Obj.cells Tk.F.zero.cells 54)).heap.size = wd.heap.size + 2 := by simp
         have hg1 : ((wd.alloc (Obj.cells Tk.F.zero.cells 54)).alloc (Obj.cells Tk.F.zero.cells 54)).heap[wd.heap.size]? = some (.cells Tk.F.zero.cells 54 (0, 0)) := heap_alloc2_old _ _ _
         have hg2 : ((wd.alloc (Obj.cells Tk.F.zero.cells 54)).alloc (Obj.cells Tk.F.zero.cells 54)).heap[wd.heap.size + 1]? = some (.cells Tk.F.zero.cells 54 (0, 0)) := heap_alloc2_new _ _ _
         refine Tp.onAlloc (by rfl) rfl Tryz.zeroTF ?_
         refine hK _ _ (fun _ => ⟨(hb1.cell (p := ⟨w.heap.size, 0, none⟩) (by show w.heap.size < _; omega)).trans hHeld.1, (hb1.cell (p := ⟨w.heap.size + 1, 0, none⟩) (by show w.heap.size + 1 < _; omega)).trans hHeld.2.1, fun j v hj => (hb1.cell (p := ⟨b, o + i * 10 + j, none⟩) (by show b < _; omega)).trans (hHeld.2.2.1 j v hj), fun j v hj => (hb1.cell (p := ⟨b2, o2 + i * 10 + j, none⟩) (by show b2 < _; omega)).trans (hHeld.2.2.2 j v hj)⟩) (fun hcl => ?_)
         (try simp only [Act.put, List.setIfInBounds_toArray, List.set_cons_zero, List.set_cons_succ])
         clear hK K
         refine Rq.on 11 (Rq.s (Rq.s (Rq.s (Rq.s (Rq.s (Rq.s (Rq.s (Rq.s (Rq.s (Rq.s (Rq.s Rq.z))))))))))) (by kernel_rfl) (by assumption) (fun K hK => ?_)
         refine Tp.onAlloc (by rfl) rfl Tryz.zeroTF ?_
         rw [hs1]
         refine hK _ _ (fun _ => ⟨(hb2'.cell (p := ⟨w.heap.size, 0, none⟩) (by show w.heap.size < _; omega)).trans hHeld.1, (hb2'.cell (p := ⟨w.heap.size + 1, 0, none⟩) (by show w.heap.size + 1 < _; omega)).trans hHeld.2.1, fun j v hj => (hb2'.cell (p := ⟨b, o + i * 10 + j, none⟩) (by show b < _; omega)).trans (hHeld.2.2.1 j v hj), fun j v hj => (hb2'.cell (p := ⟨b2, o2 + i * 10 + j, none⟩) (by show b2 < _; omega)).trans (hHeld.2.2.2 j v hj)⟩) (fun hcl => ?_)
         (try simp only [Act.put, List.setIfInBounds_toArray, List.set_cons_zero, List.set_cons_succ])
         clear hK K
         have HB2 := hide hb2'
         generalize ((wd.alloc (Obj.cells Tk.F.zero.cells 54)).alloc (Obj.cells Tk.F.zero.cells 54)) = wa2 at *
         refine Rq.on 12 (Rq.s (Rq.s (Rq.s (Rq.s (Rq.s (Rq.s (Rq.s (Rq.s (Rq.s (Rq.s (Rq.s (Rq.s Rq.z)))))))))))) (by kernel_rfl) (by assumption) (fun K hK => ?_)
         refine Tp.onStore (cs := q.cells) (by rfl) rfl rfl rfl hg1 Tryz.sizTF rfl (Tk.F.one q) ?_
         have hb3 := Tp.setRow_below (b := wd.heap.size) (unhide HB2) (by omega) q.cells
         have hs3 := Tp.setRow_size wa2 wd.heap.size q.cells
         have hr1 : (wa2.setRow wd.heap.size q.cells).heap[wd.heap.size]? = some (.cells q.cells 54 (0, 0)) := setRow_heap _ _ _ _ _ _ hg1
         have hr2 : (wa2.setRow wd.heap.size q.cells).heap[(wd.heap.size + 1)]? = some (.cells Tk.F.zero.cells 54 (0, 0)) := (setRow_other _ _ _ _ (by omega)).trans hg2
         refine hK _ _ (fun _ => ⟨(hb3.cell (p := ⟨w.heap.size, 0, none⟩) (by show w.heap.size < _; omega)).trans hHeld.1, (hb3.cell (p := ⟨w.heap.size + 1, 0, none⟩) (by show w.heap.size + 1 < _; omega)).trans hHeld.2.1, fun j v hj => (hb3.cell (p := ⟨b, o + i * 10 + j, none⟩) (by show b < _; omega)).trans (hHeld.2.2.1 j v hj), fun j v hj => (hb3.cell (p := ⟨b2, o2 + i * 10 + j, none⟩) (by show b2 < _; omega)).trans (hHeld.2.2.2 j v hj)⟩) (fun hcl => ?_)
         (try simp only [Act.put])
         clear hK K
         generalize (wa2.setRow wd.heap.size q.cells) = wb at *
         refine Rq.on 13 (Rq.s (Rq.s (Rq.s (Rq.s (Rq.s (Rq.s (Rq.s (Rq.s (Rq.s (Rq.s (Rq.s (Rq.s (Rq.s Rq.z))))))))))))) (by kernel_rfl) (by assumption) (fun K hK => ?_)
         refine Tp.onStore (cs := q2.cells) (by rfl) rfl rfl rfl hr2 Tryz.sizTF rfl (Tk.F.one q2) ?_
         have hb4 := Tp.setRow_below (b := (wd.heap.size + 1)) hb3 (by omega) q2.cells
         have hs4 := Tp.setRow_size wb (wd.heap.size + 1) q2.cells
         have ht2 : (wb.setRow (wd.heap.size + 1) q2.cells).heap[(wd.heap.size + 1)]? = some (.cells q2.cells 54 (0, 0)) := setRow_heap _ _ _ _ _ _ hr2
         have ht1 : (wb.setRow (wd.heap.size + 1) q2.cells).heap[wd.heap.size]? = some (.cells q.cells 54 (0, 0)) := (setRow_other _ _ _ _ (by omega)).trans hr1
         refine hK _ _ (fun e => absurd e (by decide)) (fun hcl => ?_)
         (try simp only [Act.put])
         refine Rq.done (by kernel_rfl) ?_ _
         clear hK K hcl
         generalize (wb.setRow (wd.heap.size + 1) q2.cells) = wc at *
         have HREL := hide (show ∃ b1 b3, Value.pointer (some ⟨wd.heap.size, 0, none⟩) = .pointer (some ⟨b1, 0, none⟩) ∧ Value.pointer (some ⟨(wd.heap.size + 1), 0, none⟩) = .pointer (some ⟨b3, 0, none⟩) ∧ Tk.BV wc b1 q.cells ∧ Tk.BV wc b3 q2.cells ∧ b1 < wc.heap.size ∧ b3 < wc.heap.size ∧ Below wr.heap.size wr wc from
          ⟨wd.heap.size, (wd.heap.size + 1), rfl, rfl, Tk.BV.row ht1, Tk.BV.row ht2, by omega, by omega, (unhide HBD).trans (hb4.mono hwd0)⟩)
         clear hb4 hs4 ht1 ht2 hb3 hs3 hr1 hr2 hg1 hg2 hHeld hs1 hs2 hb1 hb2'
         go_wp2_with fail
         go_meet
         case rel => exact unhide HREL
       · have hb1 : Below wd.heap.size wd (wd.alloc (Obj.cells Tk.F.zero.cells 54)) := (Below.refl _ _).alloc (Nat.le_refl _) _
         have hb2' : Below wd.heap.size wd ((wd.alloc (Obj.cells Tk.F.zero.cells 54)).alloc (Obj.cells Tk.F.zero.cells 54)) := hb1.alloc (by simp) _
         have hs1 : (wd.alloc (Obj.cells Tk.F.zero.cells 54)).heap.size = wd.heap.size + 1 := by simp
         have hs2 : ((wd.alloc (Obj.cells Tk.F.zero.cells 54)).alloc (Obj.cells Tk.F.zero.cells 54)).heap.size = wd.heap.size + 2 := by simp
         have hg1 : ((wd.alloc (Obj.cells Tk.F.zero.cells 54)).alloc (Obj.cells Tk.F.zero.cells 54)).heap[wd.heap.size]? = some (.cells Tk.F.zero.cells 54 (0, 0)) := heap_alloc2_old _ _ _
         have hg2 : ((wd.alloc (Obj.cells Tk.F.zero.cells 54)).alloc (Obj.cells Tk.F.zero.cells 54)).heap[wd.heap.size + 1]? = some (.cells Tk.F.zero.cells 54 (0, 0)) := heap_alloc2_new _ _ _
         refine Tp.onAlloc (by rfl) rfl Tryz.zeroTF ?_
         refine hK _ _ (fun _ => ⟨(hb1.cell (p := ⟨w.heap.size, 0, none⟩) (by show w.heap.size < _; omega)).trans hHeld.1, (hb1.cell (p := ⟨w.heap.size + 1, 0, none⟩) (by show w.heap.size + 1 < _; omega)).trans hHeld.2.1, fun j v hj => (hb1.cell (p := ⟨b, o + i * 10 + j, none⟩) (by show b < _; omega)).trans (hHeld.2.2.1 j v hj), fun j v hj => (hb1.cell (p := ⟨b2, o2 + i * 10 + j, none⟩) (by show b2 < _; omega)).trans (hHeld.2.2.2 j v hj)⟩) (fun hcl => ?_)
         (try simp only [Act.put, List.setIfInBounds_toArray, List.set_cons_zero, List.set_cons_succ])
         clear hK K
         refine Rq.on 10 (Rq.s (Rq.s (Rq.s (Rq.s (Rq.s (Rq.s (Rq.s (Rq.s (Rq.s (Rq.s Rq.z)))))))))) (by kernel_rfl) (by assumption) (fun K hK => ?_)
         refine Tp.onAlloc (by rfl) rfl Tryz.zeroTF ?_
         rw [hs1]
         refine hK _ _ (fun _ => ⟨(hb2'.cell (p := ⟨w.heap.size, 0, none⟩) (by show w.heap.size < _; omega)).trans hHeld.1, (hb2'.cell (p := ⟨w.heap.size + 1, 0, none⟩) (by show w.heap.size + 1 < _; omega)).trans hHeld.2.1, fun j v hj => (hb2'.cell (p := ⟨b, o + i * 10 + j, none⟩) (by show b < _; omega)).trans (hHeld.2.2.1 j v hj), fun j v hj => (hb2'.cell (p := ⟨b2, o2 + i * 10 + j, none⟩) (by show b2 < _; omega)).trans (hHeld.2.2.2 j v hj)⟩) (fun hcl => ?_)
         (try simp only [Act.put, List.setIfInBounds_toArray, List.set_cons_zero, List.set_cons_succ])
         clear hK K
         have HB2 := hide hb2'
         generalize ((wd.alloc (Obj.cells Tk.F.zero.cells 54)).alloc (Obj.cells Tk.F.zero.cells 54)) = wa2 at *
         refine Rq.on 12 (Rq.s (Rq.s (Rq.s (Rq.s (Rq.s (Rq.s (Rq.s (Rq.s (Rq.s (Rq.s (Rq.s (Rq.s Rq.z)))))))))))) (by kernel_rfl) (by assumption) (fun K hK => ?_)
         refine Tp.onStore (cs := q.cells) (by rfl) rfl rfl rfl hg2 Tryz.sizTF rfl (Tk.F.one q) ?_
         have hb3 := Tp.setRow_below (b := (wd.heap.size + 1)) (unhide HB2) (by omega) q.cells
         have hs3 := Tp.setRow_size wa2 (wd.heap.size + 1) q.cells
         have hr1 : (wa2.setRow (wd.heap.size + 1) q.cells).heap[(wd.heap.size + 1)]? = some (.cells q.cells 54 (0, 0)) := setRow_heap _ _ _ _ _ _ hg2
         have hr2 : (wa2.setRow (wd.heap.size + 1) q.cells).heap[wd.heap.size]? = some (.cells Tk.F.zero.cells 54 (0, 0)) := (setRow_other _ _ _ _ (by omega)).trans hg1
         refine hK _ _ (fun _ => ⟨(hb3.cell (p := ⟨w.heap.size, 0, none⟩) (by show w.heap.size < _; omega)).trans hHeld.1, (hb3.cell (p := ⟨w.heap.size + 1, 0, none⟩) (by show w.heap.size + 1 < _; omega)).trans hHeld.2.1, fun j v hj => (hb3.cell (p := ⟨b, o + i * 10 + j, none⟩) (by show b < _; omega)).trans (hHeld.2.2.1 j v hj), fun j v hj => (hb3.cell (p := ⟨b2, o2 + i * 10 + j, none⟩) (by show b2 < _; omega)).trans (hHeld.2.2.2 j v hj)⟩) (fun hcl => ?_)
         (try simp only [Act.put])
         clear hK K
         generalize (wa2.setRow (wd.heap.size + 1) q.cells) = wb at *
         refine Rq.on 13 (Rq.s (Rq.s (Rq.s (Rq.s (Rq.s (Rq.s (Rq.s (Rq.s (Rq.s (Rq.s (Rq.s (Rq.s (Rq.s Rq.z))))))))))))) (by kernel_rfl) (by assumption) (fun K hK => ?_)
         refine Tp.onStore (cs := q2.cells) (by rfl) rfl rfl rfl hr2 Tryz.sizTF rfl (Tk.F.one q2) ?_
         have hb4 := Tp.setRow_below (b := wd.heap.size) hb3 (by omega) q2.cells
         have hs4 := Tp.setRow_size wb wd.heap.size q2.cells
         have ht2 : (wb.setRow wd.heap.size q2.cells).heap[wd.heap.size]? = some (.cells q2.cells 54 (0, 0)) := setRow_heap _ _ _ _ _ _ hr2
         have ht1 : (wb.setRow wd.heap.size q2.cells).heap[(wd.heap.size + 1)]? = some (.cells q.cells 54 (0, 0)) := (setRow_other _ _ _ _ (by omega)).trans hr1
         refine hK _ _ (fun e => absurd e (by decide)) (fun hcl => ?_)
         (try simp only [Act.put])
         refine Rq.done (by kernel_rfl) ?_ _
         clear hK K hcl
         generalize (wb.setRow wd.heap.size q2.cells) = wc at *
         have HREL := hide (show ∃ b1 b3, Value.pointer (some ⟨(wd.heap.size + 1), 0, none⟩) = .pointer (some ⟨b1, 0, none⟩) ∧ Value.pointer (some ⟨wd.heap.size, 0, none⟩) = .pointer (some ⟨b3, 0, none⟩) ∧ Tk.BV wc b1 q.cells ∧ Tk.BV wc b3 q2.cells ∧ b1 < wc.heap.size ∧ b3 < wc.heap.size ∧ Below wr.heap.size wr wc from
          ⟨(wd.heap.size + 1), wd.heap.size, rfl, rfl, Tk.BV.row ht1, Tk.BV.row ht2, by omega, by omega, (unhide HBD).trans (hb4.mono hwd0)⟩)
         clear hb4 hs4 ht1 ht2 hb3 hs3 hr1 hr2 hg1 hg2 hHeld hs1 hs2 hb1 hb2'
         go_wp2_with fail
         go_meet
         case rel => exact unhide HREL
      case rest =>
       obtain ⟨b1, b3, rfl, rfl, hv1, hv2, hl1, hl2, hbc⟩ := hcut
       have hw := (unhide HRD) w (Below.refl _ _)
       have hw2 := (unhide HRD2) w (Below.refl _ _)
       have hZ : Tk.sameF x y = ((q.nm.toList == q2.nm.toList) && (x.ps.length == y.ps.length) && (x.vs.length == y.vs.length) && Tk.sameL (Tk.sameC n n') x.cs y.cs && Tk.sameE m m' x.re y.re && Tk.sameL (fun a b : ByteArray => a.toList == b.toList) x.ps y.ps && Tk.sameL (fun a b : ByteArray × Int => (a.1.toList == b.1.toList) && (a.2 == b.2)) x.vs y.vs) := by
        rw [hw.nm, hw2.nm]
        rfl
       have hbw : Below w.heap.size w wc := (unhide HBE).trans (hbc.mono hzz)
       have HPS := hide (fun (V : World) (hb : Below w.heap.size w V) => ((unhide HRD) V hb).ps)
       have HPS2 := hide (fun (V : World) (hb : Below w.heap.size w V) => ((unhide HRD2) V hb).ps)
       have HVS := hide (fun (V : World) (hb : Below w.heap.size w V) => ((unhide HRD) V hb).vs)
       have HVS2 := hide (fun (V : World) (hb : Below w.heap.size w V) => ((unhide HRD2) V hb).vs)
       have hpl := hw.ps.len
       have hpl2 := hw2.ps.len
       have hvl := hw.vs.len
       have hvl2 := hw2.vs.len
       have hpf := hw.ps.few
       have hvf := hw.vs.few
       have hpf2 := hw2.ps.few
       have hvf2 := hw2.vs.few
       rw [← hpl] at hpf
       rw [← hvl] at hvf
       rw [← hpl2] at hpf2
       rw [← hvl2] at hvf2
       rw [← hpl, ← hpl2, ← hvl, ← hvl2] at hZ
       have HPL := hide (And.intro hpl hpl2)
       have HVL := hide (And.intro hvl hvl2)
       have HC1 := hide (fun (V : World) (hb : Below w.heap.size w V) => sameTreeCmds_any n n' q.cs q2.cs x.cs y.cs V ((unhide HRD) V hb).cs ((unhide HRD2) V hb).cs)
       have HC2 := hide (fun (V : World) (hb : Below w.heap.size w V) => show Calls Tryz.prog 37 #[.agg #[.int .i64 q.re.k, .int .i64 q.re.a, .int .i64 q.re.n, .string q.re.nm, .slice q.re.args.ad q.re.args.len q.re.args.cap], .agg #[.int .i64 q2.re.k, .int .i64 q2.re.a, .int .i64 q2.re.n, .string q2.re.nm, .slice q2.re.args.ad q2.re.args.len q2.re.args.cap], .bool false] V fun r w' => r = .returned (.bool (Tk.sameE m m' x.re y.re)) ∧ Below V.heap.size V w' from sameTreeExpr_any m m' q.re q2.re x.re y.re V ((unhide HRD) V hb).re ((unhide HRD2) V hb).re)
       generalize Tk.sameL (Tk.sameC n n') x.cs y.cs = c1 at *
       generalize Tk.sameE m m' x.re y.re = c2 at *
       have HZ := hide hZ
       have HNO := hide (fun (h : Tk.sameF x y = false) => show Tk.sameL Tk.sameF l k = false from Tk.sameL_no _ l k i x y (unhide HY).1 (unhide HY).2 h)
       have HV1 := hide hv1
       have HV2 := hide hv2
       have HB := hide hbw
       have HBR := hide ((unhide HBW).trans (hbc.mono hz))
       have d1 := (unhide HV1) 1 (.string q.nm) rfl
       have e1 := (unhide HV2) 1 (.string q2.nm) rfl
       have d2 := (unhide HV1) 2 (.slice q.ps.ad q.ps.len q.ps.cap) rfl
       have e2 := (unhide HV2) 2 (.slice q2.ps.ad q2.ps.len q2.ps.cap) rfl
       have d3 := (unhide HV1) 3 (.slice q.vs.ad q.vs.len q.vs.cap) rfl
       have e3 := (unhide HV2) 3 (.slice q2.vs.ad q2.vs.len q2.vs.cap) rfl
       have d4 := (unhide HV1) 4 (.slice q.cs.ad q.cs.len q.cs.cap) rfl
       have e4 := (unhide HV2) 4 (.slice q2.cs.ad q2.cs.len q2.cs.cap) rfl
       clear hZ hw hw2 hv1 hv2 hbw hbc HSS HBW hpl hpl2 hvl hvl2 r1 r2
       by_cases p2 : q.nm.toList = q2.nm.toList
       · by_cases p3 : q.ps.len = q2.ps.len
         · have gp : ((q.ps.len : Int) != (q2.ps.len : Int)) = false := by rw [p3]; simp
           by_cases p4 : q.vs.len = q2.vs.len
           · have gv : ((q.vs.len : Int) != (q2.vs.len : Int)) = false := by rw [p4]; simp
             have HZ2 := hide (show Tk.sameF x y = (c1 && c2 && Tk.sameL (fun a b : ByteArray => a.toList == b.toList) x.ps y.ps && Tk.sameL (fun a b : ByteArray × Int => (a.1.toList == b.1.toList) && (a.2 == b.2)) x.vs y.vs) by rw [unhide HZ, p2, p3, p4]; simp)
             have HPE := hide p3
             have HVE := hide p4
             clear HZ p3 p4
             have HZ := HZ2
             clear HZ2
             go_wp2_with fail
             refine ((unhide HC1) wc (unhide HB)).mono ?_
             rintro r x1 ⟨rfl, hb⟩
             replace HB := hide ((unhide HB).trans (hb.mono (unhide HB).size))
             replace HBR := hide ((unhide HBR).trans (hb.mono (unhide HBR).size))
             replace HV1 := hide ((unhide HV1).below hb (by omega))
             replace HV2 := hide ((unhide HV2).below hb (by omega))
             have hsx1 := hb.size
             clear hb HC1 d1 e1 d2 e2 d3 e3 d4 e4 p2
             cases c1
             · have hf : Hid (Tk.sameL Tk.sameF l k = false) := (unhide HNO) (by rw [unhide HZ]; simp)
               go_wp2_with fail
               go_ret
               exact ⟨ret_bool (unhide hf).symm, unhide HB⟩
             · have d5 := (unhide HV1) 5 (.int .i64 q.re.k) rfl
               have e5 := (unhide HV2) 5 (.int .i64 q2.re.k) rfl
               have d6 := (unhide HV1) 6 (.int .i64 q.re.a) rfl
               have e6 := (unhide HV2) 6 (.int .i64 q2.re.a) rfl
               have d7 := (unhide HV1) 7 (.int .i64 q.re.n) rfl
               have e7 := (unhide HV2) 7 (.int .i64 q2.re.n) rfl
               have d8 := (unhide HV1) 8 (.string q.re.nm) rfl
               have e8 := (unhide HV2) 8 (.string q2.re.nm) rfl
               have d9 := (unhide HV1) 9 (.slice q.re.args.ad q.re.args.len q.re.args.cap) rfl
               have e9 := (unhide HV2) 9 (.slice q2.re.args.ad q2.re.args.len q2.re.args.cap) rfl
               go_wp2_with fail
               refine ((unhide HC2) x1 (unhide HB)).mono ?_
               rintro r x2 ⟨rfl, hb⟩
               replace HB := hide ((unhide HB).trans (hb.mono (unhide HB).size))
               replace HBR := hide ((unhide HBR).trans (hb.mono (unhide HBR).size))
               replace HV1 := hide ((unhide HV1).below hb (by omega))
               replace HV2 := hide ((unhide HV2).below hb (by omega))
               have hsx2 := hb.size
               clear hb HC2 d5 e5 d6 e6 d7 e7 d8 e8 d9 e9
               cases c2
               · have hf : Hid (Tk.sameL Tk.sameF l k = false) := (unhide HNO) (by rw [unhide HZ]; simp)
                 go_wp2_with fail
                 go_ret
                 exact ⟨ret_bool (unhide hf).symm, unhide HB⟩
               · obtain ⟨wo, hwo⟩ : ∃ wo, wo = wr := ⟨_, rfl⟩
                 subst hwo
                 go_wp2_with fail
                 go_loopw [10] (fun iv wr => ∃ j : Nat, j ≤ q.ps.len ∧ iv = .int .i64 j ∧ (∀ a u v, a < j → x.ps[a]? = some u → y.ps[a]? = some v → (u.toList == v.toList) = true) ∧ Below x2.heap.size x2 wr) (fun iv _ => q.ps.len - (intOf iv).toNat)
                 case atStart => exact ⟨0, Nat.zero_le _, rfl, fun j x y h => by omega, Below.refl _ _⟩
                 case round =>
                  obtain ⟨j, hj, rfl, hall2, hbe2⟩ := hrel
                  have hz2 := hbe2.size
                  have HAL2 := hide hall2
                  have HBE2 := hide hbe2
                  have HBw := hide ((unhide HB).trans (hbe2.mono (unhide HB).size))
                  have d2 := ((unhide HV1).below hbe2 (by omega)) 2 (.slice q.ps.ad q.ps.len q.ps.cap) rfl
                  have e2 := ((unhide HV2).below hbe2 (by omega)) 2 (.slice q2.ps.ad q2.ps.len q2.ps.cap) rfl
                  clear hall2 hbe2
                  by_cases hjl : j < q.ps.len
                  · have hl1 : j < x.ps.length := by have := (unhide HPL).1; omega
                    have hl2 : j < y.ps.length := by have := (unhide HPL).2; have := unhide HPE; omega
                    have hu := List.getElem?_eq_getElem hl1
                    have hv := List.getElem?_eq_getElem hl2
                    obtain ⟨bb, oo, uu, had3, hb3, hlies3, hrd3, _⟩ := ((unhide HPS) wr (unhide HBw)).at_ j _ hu
                    obtain ⟨bb2, oo2, vv, had4, hb4, hlies4, hrd4, _⟩ := ((unhide HPS2) wr (unhide HBw)).at_ j _ hv
                    generalize x.ps[j] = xu at *
                    generalize y.ps[j] = yv at *
                    subst hrd3
                    subst hrd4
                    have a0 : wr.cell? ⟨bb, oo + j, none⟩ = some (.string uu) := by have h : wr.cell? ⟨bb, oo + j * 1, none⟩ = some (.string uu) := hlies3; rwa [Nat.mul_one] at h
                    have a1 : wr.cell? ⟨bb2, oo2 + j, none⟩ = some (.string vv) := by have h : wr.cell? ⟨bb2, oo2 + j * 1, none⟩ = some (.string vv) := hlies4; rwa [Nat.mul_one] at h
                    have HUV := hide (And.intro hu hv)
                    clear hlies3 hlies4 hu hv
                    have hj0 : (0 : Int) ≤ (j : Int) := by omega
                    have hj1 : (j : Int) < (q.ps.len : Int) := by omega
                    have hj2 : (j : Int) < (q2.ps.len : Int) := by have := unhide HPE; omega
                    rw [had3] at d2
                    rw [had4] at e2
                    by_cases huv : uu.toList = vv.toList
                    · have HX := hide (show (uu.toList == vv.toList) = true by simpa using huv)
                      go_upto_region 12 with fail
                      go_quiet (fail)
                      have hbd := below_drewN (Below.refl wr.heap.size wr) nq
                      have HB3 := hide ((unhide HBE2).trans (hbd.mono hz2))
                      have HBF := hide ((unhide HB).trans ((unhide HB3).mono (unhide HB).size))
                      clear hbd
                      go_wp2_with fail
                      refine ⟨⟨j + 1, by omega, by go_num, ?_, unhide HB3⟩, by simp [intOf]; omega⟩
                      intro a u v ha hu hv
                      by_cases e3 : a = j
                      · subst e3
                        have h1 := (unhide HUV).1
                        have h2 := (unhide HUV).2
                        rw [h1] at hu
                        rw [h2] at hv
                        cases hu
                        cases hv
                        exact unhide HX
                      · exact (unhide HAL2) a u v (by omega) hu hv
                    · have hf : Hid (Tk.sameL Tk.sameF l k = false) := (unhide HNO) (by
                       rw [unhide HZ, Tk.sameL_no (fun a b : ByteArray => a.toList == b.toList) x.ps y.ps j uu vv (unhide HUV).1 (unhide HUV).2 (by simpa using huv)]
                       simp)
                      have h2 : (uu.toList == vv.toList) = false := by simpa using huv
                      have g2 : (uu.toList != vv.toList) = true := by rw [bne, h2]; rfl
                      go_upto_region 12 with fail
                      go_quiet (fail)
                      have hbd := below_drewN (Below.refl wr.heap.size wr) nq
                      have HB3 := hide ((unhide HBE2).trans (hbd.mono hz2))
                      have HBF := hide ((unhide HB).trans ((unhide HB3).mono (unhide HB).size))
                      clear hbd
                      go_wp2_with fail
                      go_ret
                      exact ⟨ret_bool (unhide hf).symm, unhide HBF⟩
                  · have hps : Tk.sameL (fun a b : ByteArray => a.toList == b.toList) x.ps y.ps = true := Tk.sameL_all _ _ _ (by have := (unhide HPL).1; have := (unhide HPL).2; have := unhide HPE; omega) (fun a u v h1 h2 => (unhide HAL2) a u v (by have := (List.getElem?_eq_some_iff.1 h1).1; have := (unhide HPL).1; omega) h1 h2)
                    have HZ3 := hide (show Tk.sameF x y = Tk.sameL (fun a b : ByteArray × Int => (a.1.toList == b.1.toList) && (a.2 == b.2)) x.vs y.vs by rw [unhide HZ, hps]; simp)
                    obtain ⟨wp, hwp⟩ : ∃ wp, wp = wr := ⟨_, rfl⟩
                    subst hwp
                    have HVp := hide ((unhide HV1).below (unhide HBE2) (by omega))
                    have HVp2 := hide ((unhide HV2).below (unhide HBE2) (by omega))
                    have HBRp := hide ((unhide HBR).trans ((unhide HBE2).mono (unhide HBR).size))
                    have HBp := hide (unhide HBw)
                    clear hps HZ HAL2 e2
                    go_wp2_with fail
                    go_loopw [11] (fun iv wr => ∃ j : Nat, j ≤ q.vs.len ∧ iv = .int .i64 j ∧ (∀ a u v, a < j → x.vs[a]? = some u → y.vs[a]? = some v → ((u.1.toList == v.1.toList) && (u.2 == v.2)) = true) ∧ Below wp.heap.size wp wr) (fun iv _ => q.vs.len - (intOf iv).toNat)
                    case atStart => exact ⟨0, Nat.zero_le _, rfl, fun j x y h => by omega, Below.refl _ _⟩
                    case round =>
                     clear d2
                     obtain ⟨g, hg, rfl, hall3, hbe3⟩ := hrel
                     have hz3 := hbe3.size
                     have HAL3 := hide hall3
                     have HBE3 := hide hbe3
                     have HBv := hide ((unhide HBp).trans (hbe3.mono (unhide HBp).size))
                     have HBRv := hide ((unhide HBRp).trans (hbe3.mono (unhide HBRp).size))
                     have d3 := ((unhide HVp).below hbe3 (by omega)) 3 (.slice q.vs.ad q.vs.len q.vs.cap) rfl
                     have e3 := ((unhide HVp2).below hbe3 (by omega)) 3 (.slice q2.vs.ad q2.vs.len q2.vs.cap) rfl
                     clear hall3 hbe3
                     by_cases hgl : g < q.vs.len
                     · have hl1 : g < x.vs.length := by have := (unhide HVL).1; omega
                       have hl2 : g < y.vs.length := by have := (unhide HVL).2; have := unhide HVE; omega
                       have hu := List.getElem?_eq_getElem hl1
                       have hv := List.getElem?_eq_getElem hl2
                       obtain ⟨bb, oo, uu, had3, hb3, ⟨hla, hlb⟩, hrd3, _⟩ := ((unhide HVS) wr (unhide HBv)).at_ g _ hu
                       obtain ⟨bb2, oo2, vv, had4, hb4, ⟨hlc, hld⟩, hrd4, _⟩ := ((unhide HVS2) wr (unhide HBv)).at_ g _ hv
                       generalize x.vs[g] = xu at *
                       generalize y.vs[g] = yv at *
                       subst hrd3
                       subst hrd4
                       obtain ⟨un, uz⟩ := uu
                       obtain ⟨vn, vz⟩ := vv
                       have HUV := hide (And.intro hu hv)
                       clear hu hv
                       have hj0 : (0 : Int) ≤ (g : Int) := by omega
                       have hj1 : (g : Int) < (q.vs.len : Int) := by omega
                       have hj2 : (g : Int) < (q2.vs.len : Int) := by have := unhide HVE; omega
                       have hgt := Tryz.guardTV
                       rw [had3] at d3
                       rw [had4] at e3
                       have a0 : wr.cell? ⟨bb, oo + g * 2, none⟩ = some (.string un) := hla
                       have a1 : wr.cell? ⟨bb, oo + g * 2 + 1, none⟩ = some (.int .i64 uz) := hlb
                       have a2 : wr.cell? ⟨bb2, oo2 + g * 2, none⟩ = some (.string vn) := hlc
                       have a3 : wr.cell? ⟨bb2, oo2 + g * 2 + 1, none⟩ = some (.int .i64 vz) := hld
                       clear hla hlb hlc hld
                       cases huv : ((un.toList == vn.toList) && (uz == vz))
                       · have hf : Hid (Tk.sameL Tk.sameF l k = false) := (unhide HNO) (by
                          rw [unhide HZ3, Tk.sameL_no (fun a b : ByteArray × Int => (a.1.toList == b.1.toList) && (a.2 == b.2)) x.vs y.vs g (un, uz) (vn, vz) (unhide HUV).1 (unhide HUV).2 huv])
                         have hneq := fun W => Tryz.neqTV un vn uz vz W
                         rw [huv] at hneq
                         clear huv
                         go_upto_region 17 with fail
                         go_quiet (fail)
                         have hbd := below_drewN (Below.refl wr.heap.size wr) nq
                         have HB3 := hide ((unhide HBE3).trans (hbd.mono hz3))
                         have HBF := hide ((unhide HBp).trans ((unhide HB3).mono (unhide HBp).size))
                         clear hbd hneq hgt
                         go_wp2_with fail
                         go_ret
                         exact ⟨ret_bool (unhide hf).symm, unhide HBF⟩
                       · have HX := hide huv
                         have hneq := fun W => Tryz.neqTV un vn uz vz W
                         rw [huv] at hneq
                         clear huv
                         go_upto_region 17 with fail
                         go_quiet (fail)
                         have hbd := below_drewN (Below.refl wr.heap.size wr) nq
                         have HB3 := hide ((unhide HBE3).trans (hbd.mono hz3))
                         have HBF := hide ((unhide HBp).trans ((unhide HB3).mono (unhide HBp).size))
                         clear hbd hneq hgt
                         go_wp2_with fail
                         refine ⟨⟨g + 1, by omega, by go_num, ?_, unhide HB3⟩, by simp [intOf]; omega⟩
                         intro a u v ha hu hv
                         by_cases e4 : a = g
                         · subst e4
                           have h1 := (unhide HUV).1
                           have h2 := (unhide HUV).2
                           rw [h1] at hu
                           rw [h2] at hv
                           cases hu
                           cases hv
                           exact unhide HX
                         · exact (unhide HAL3) a u v (by omega) hu hv
                     · have hvs : Tk.sameL (fun a b : ByteArray × Int => (a.1.toList == b.1.toList) && (a.2 == b.2)) x.vs y.vs = true := Tk.sameL_all _ _ _ (by have := (unhide HVL).1; have := (unhide HVL).2; have := unhide HVE; omega) (fun a u v h1 h2 => (unhide HAL3) a u v (by have := (List.getElem?_eq_some_iff.1 h1).1; have := (unhide HVL).1; omega) h1 h2)
                       have HX := hide (show Tk.sameF x y = true by rw [unhide HZ3]; exact hvs)
                       clear hvs HAL3 e3
                       go_wp2_with fail
                       refine ⟨⟨i + 1, by omega, by go_num, ?_, unhide HBRv⟩, by simp [intOf]; omega⟩
                       intro a u v ha hu hv
                       by_cases e4 : a = i
                       · subst e4
                         have h1 := (unhide HY).1
                         have h2 := (unhide HY).2
                         rw [h1] at hu
                         rw [h2] at hv
                         cases hu
                         cases hv
                         exact unhide HX
                       · exact (unhide HAL) a u v (by omega) hu hv
           · have gv : ((q.vs.len : Int) != (q2.vs.len : Int)) = true := by simp; omega
             have hf : Hid (Tk.sameL Tk.sameF l k = false) := (unhide HNO) (by rw [unhide HZ]; simp; intro _ _ h; exact absurd h p4)
             go_wp2_with fail
             go_ret
             exact ⟨ret_bool (unhide hf).symm, unhide HB⟩
         · have gp : ((q.ps.len : Int) != (q2.ps.len : Int)) = true := by simp; omega
           have hf : Hid (Tk.sameL Tk.sameF l k = false) := (unhide HNO) (by rw [unhide HZ]; simp; intro _ h; exact absurd h p3)
           go_wp2_with fail
           go_ret
           exact ⟨ret_bool (unhide hf).symm, unhide HB⟩
       · have hf : Hid (Tk.sameL Tk.sameF l k = false) := (unhide HNO) (by rw [unhide HZ]; simp; intro h; exact absurd h p2)
         go_wp2_with fail
         go_ret
         exact ⟨ret_bool (unhide hf).symm, unhide HB⟩
    · have hf : Hid (Tk.sameL Tk.sameF l k = true) := by
       show _ = _
       have e1 := unhide HLN
       have e2 := unhide HLN2
       have e3 := unhide HNE
       exact Tk.sameL_all _ l k (by omega) (fun j x y h1 h2 => (unhide HAL) j x y (by have := (List.getElem?_eq_some_iff.1 h1).1; omega) h1 h2)
      go_wp2_with fail
      go_ret
      exact ⟨ret_bool (unhide hf).symm, unhide HBE⟩
 · have g0 : ((s.len : Int) != (t.len : Int)) = true := by simp; omega
   have hf : Hid (Tk.sameL Tk.sameF l k = false) := Tk.sameL_len _ l k (by have := unhide HLN; have := unhide HLN2; omega)
   clear hne
   go_enter Tryz.func16, Tryz.ntmps16
   (try simp only [List.append_eq, List.cons_append, List.nil_append])
   go_wp2_with fail
   go_ret
   exact ⟨ret_bool (unhide hf).symm, unhide HBA⟩
end Go.Proofs.YtfccpddehpgfoaaGreatDoor
