/-
  Code that came in. By the verifier.
-/
import Derived.Test.YtpfogjplnodacaaGreatXArg
import Derived.Test.YtpfogjplnodacaaGreatLG
namespace Go.Proofs.YtpfogjplnodacaaGreat
open Go.RowKit
set_option linter.unusedVariables false
theorem Tryz.kcellsC : Tryz.prog.cellsOf 26 = 3 := by kernel_rfl
theorem Tryz.kcellsI : Tryz.prog.cellsOf 54 = 3 := by kernel_rfl
theorem Tryz.kcellsIs : Tryz.prog.cellsOf 22 = 1 := by kernel_rfl
theorem Tryz.kcellsV : Tryz.prog.cellsOf 24 = 1 := by kernel_rfl
theorem Tryz.kbytesI : Tryz.prog.bytesOf 54 = 24 := by kernel_rfl
section
variable {H : Type} {enc : TypeId × Value → H} {W : World}
theorem Kd.open_code {fuel : Nat} {cs : List Value} {d : DataW H} {p : List MemPlace} (h : DataW.trod enc Tryz.prog W 0 (fun _ => true) true fuel 26 cs = some (d, p)) (hwt : Pg.Lt 26 d) :
  ∃ (si sf sz : Pg.Sl) (l : List Kd.I) (fs : List Int) (ss : List (List Int)), cs = [.slice si.ad si.len si.cap, .slice sf.ad sf.len sf.cap, .slice sz.ad sz.len sz.cap] ∧ Kd.RCo W si sf sz l fs ss := by
 obtain ⟨xs, n, hfu, hx, hl, hlen, hf⟩ := DataW.trod_struct Tryz.underlying26 h
 have hd : d = .agg (xs.map (·.1)) := (Prod.mk.inj hx).1
 rw [Tryz.kcellsC] at hl
 obtain ⟨v0, v1, v2, rfl⟩ := Pg.len3 hl
 obtain ⟨x0, x1, x2, rfl⟩ := Pg.len3 (show xs.length = 3 from hlen)
 have f0 : DataW.trod enc Tryz.prog W 0 (fun _ => true) true n 22 (([v0, v1, v2].drop 0).take (Tryz.prog.cellsOf 22)) = some x0 := hf 0 _ rfl
 have f1 : DataW.trod enc Tryz.prog W 0 (fun _ => true) true n 23 (([v0, v1, v2].drop 1).take (Tryz.prog.cellsOf 23)) = some x1 := hf 1 _ rfl
 have f2 : DataW.trod enc Tryz.prog W 0 (fun _ => true) true n 24 (([v0, v1, v2].drop 2).take (Tryz.prog.cellsOf 24)) = some x2 := hf 2 _ rfl
 rw [Tryz.kcellsIs] at f0
 rw [Tryz.pcellsIs] at f1
 rw [Tryz.kcellsV] at f2
 have hw : ∀ (j : Nat) (t : TypeId) (y : DataW H × List MemPlace), [22, 23, 24][j]? = some t → ([x0, x1, x2].map (·.1))[j]? = some y.1 → Pg.Lt t y.1 := fun j t y hj hy k hk => hwt k (by
  rw [hd]
  unfold DataW.weights
  rw [Tryz.underlying26]
  exact DataW.weights_mem_each (j := j) hj hy k hk)
 obtain ⟨si, l, e0, _, hs⟩ := Pg.open_rs (lies := fun b o (z : Kd.I) => W.cell? ⟨b, o, none⟩ = some (.int .i64 z.k) ∧ W.cell? ⟨b, o + 1, none⟩ = some (.int .i64 z.a) ∧ W.cell? ⟨b, o + 2, none⟩ = some (.int .i64 z.b)) (reads := fun z (y : Kd.I) => z = y) (cl := fun z => [.int .i64 z.k, .int .i64 z.a, .int .i64 z.b]) Tryz.underlying22 Tryz.kcellsI (by omega) (by rw [Tryz.kbytesI]; omega) (fun b o c hc => ⟨hc 0 _ rfl, hc 1 _ rfl, hc 2 _ rfl⟩) (show DataW.trod enc Tryz.prog W 0 (fun _ => true) true n 22 [v0] = some (x0.1, x0.2) from f0) (hw 0 _ x0 rfl rfl) (fun m cs' d' p' hm ht hlt => by
  obtain ⟨ys, k, hfk, hy, hl', hlen', hf'⟩ := DataW.trod_struct Tryz.underlying54 ht
  rw [Tryz.kcellsI] at hl'
  obtain ⟨u0, u1, u2, rfl⟩ := Pg.len3 hl'
  obtain ⟨y0, y1, y2, rfl⟩ := Pg.len3 (show ys.length = 3 from hlen')
  have g0 : DataW.trod enc Tryz.prog W 0 (fun _ => true) true k 3 (([u0, u1, u2].drop 0).take (Tryz.prog.cellsOf 3)) = some y0 := hf' 0 _ rfl
  have g1 : DataW.trod enc Tryz.prog W 0 (fun _ => true) true k 3 (([u0, u1, u2].drop 1).take (Tryz.prog.cellsOf 3)) = some y1 := hf' 1 _ rfl
  have g2 : DataW.trod enc Tryz.prog W 0 (fun _ => true) true k 3 (([u0, u1, u2].drop 2).take (Tryz.prog.cellsOf 3)) = some y2 := hf' 2 _ rfl
  rw [Tryz.pcells3] at g0 g1 g2
  obtain ⟨z0, e0, _, _⟩ := DataW.trod_int Tryz.underlying3 g0
  obtain ⟨z1, e1, _, _⟩ := DataW.trod_int Tryz.underlying3 g1
  obtain ⟨z2, e2, _, _⟩ := DataW.trod_int Tryz.underlying3 g2
  simp at e0 e1 e2
  subst e0 e1 e2
  exact ⟨⟨z0, z1, z2⟩, ⟨z0, z1, z2⟩, rfl, rfl⟩)
 obtain ⟨sf, fs, e1, hfs⟩ := Pg.open_ints (show DataW.trod enc Tryz.prog W 0 (fun _ => true) true n 23 [v1] = some (x1.1, x1.2) from f1) (hw 1 _ x1 rfl rfl)
 obtain ⟨sz, ss, e2, _, hsz⟩ := Pg.open_vars (show DataW.trod enc Tryz.prog W 0 (fun _ => true) true n 24 [v2] = some (x2.1, x2.2) from f2) (hw 2 _ x2 rfl rfl)
 subst e0 e1 e2
 refine ⟨si, sf, sz, l, fs, ss, rfl, ⟨hs.len, hs.cap, hs.few, fun i x hi => ?_⟩, hfs, hsz⟩
 obtain ⟨b, o, c, h1, h2, h3, h4⟩ := hs.at_ i x hi
 subst h4
 exact ⟨b, o, h1, h2, h3⟩
end
end Go.Proofs.YtpfogjplnodacaaGreat
