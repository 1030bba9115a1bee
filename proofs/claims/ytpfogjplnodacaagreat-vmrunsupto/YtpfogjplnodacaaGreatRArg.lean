/-
  Code that came in, of so much bulk at most. By the verifier.
-/
import Derived.Test.YtpfogjplnodacaaGreatRows
import Derived.Test.YtpfogjplnodacaaGreatKArg
namespace Go.Proofs.YtpfogjplnodacaaGreat
open Go.RowKit Go.Deep Go.ChangeShapes
set_option linter.unusedVariables false
section
variable {H : Type} {enc : TypeId × Value → H} {W : World}
theorem Rm.one_le (d : DataW H) : 1 ≤ Rows.uptoBulk d := by
 cases d with
 | lit l => cases l <;> simp [Rows.uptoBulk]
 | nil => simp [Rows.uptoBulk]
 | ptr d => simp [Rows.uptoBulk]
 | slice a b => simp [Rows.uptoBulk]
 | agg l => simp [Rows.uptoBulk]
 | iface t d => simp [Rows.uptoBulk]
 | map l => simp [Rows.uptoBulk]
 | held h => simp [Rows.uptoBulk]
theorem Rm.part_le {d : DataW H} : ∀ {l : List (DataW H)}, d ∈ l → Rows.uptoBulk d ≤ Rows.uptoBulkAll l
 | [], h => by cases h
 | x :: r, h => by
  simp only [Rows.uptoBulkAll]
  rcases List.mem_cons.1 h with rfl | h
  · omega
  · have := Rm.part_le h
    omega
theorem Rm.len_le : ∀ l : List (DataW H), l.length ≤ Rows.uptoBulkAll l
 | [] => by simp [Rows.uptoBulkAll]
 | x :: r => by
  have h1 := Rm.one_le x
  have h2 := Rm.len_le r
  simp only [Rows.uptoBulkAll, List.length_cons]
  omega
theorem Rm.row_few {fuel : Nat} {v : Value} {d : DataW H} {p : List MemPlace} (h : DataW.trod enc Tryz.prog W 0 (fun _ => true) true fuel 23 [v] = some (d, p)) {t : Pg.Sl} (hv : v = .slice t.ad t.len t.cap) : t.len ≤ Rows.uptoBulk d := by
 rcases DataW.trod_slice Tryz.underlying23 h with ⟨hcs, hx⟩ | ⟨a, len, cap, elems, rest, m, hfm, hcs, hx, hb, hle, hm, hlen2, hel, hsp, hns⟩
 · rw [hv] at hcs
   simp at hcs
   omega
 · rw [hv] at hcs
   simp at hcs
   have hd : d = .slice (elems.map (·.1)) (rest.map (·.1)) := (Prod.mk.inj hx).1
   have h1 := Rm.len_le (elems.map (·.1))
   rw [List.length_map] at h1
   rw [hd]
   simp only [Rows.uptoBulk]
   omega
theorem Rm.rows_few {fuel : Nat} {v : Value} {d : DataW H} {p : List MemPlace} (h : DataW.trod enc Tryz.prog W 0 (fun _ => true) true fuel 24 [v] = some (d, p)) {s : Pg.Sl} {ss : List (List Int)} (hv : v = .slice s.ad s.len s.cap) (hr : Pg.RV W s ss) : ∀ r ∈ ss, r.length ≤ Rows.uptoBulk d := by
 intro r hmem
 obtain ⟨i, hi, rfl⟩ := List.getElem_of_mem hmem
 obtain ⟨b, o, t, had, hb, hc, hrn⟩ := hr.at_ i _ (List.getElem?_eq_getElem hi)
 have hsl : s.len = ss.length := hr.len
 have htl := hrn.len
 rcases DataW.trod_slice Tryz.underlying24 h with ⟨hcs, hx⟩ | ⟨a, len, cap, elems, rest, m, hfm, hcs, hx, hb2, hle, hm, hlen2, hel, hsp, hns⟩
 · rw [hv] at hcs
   simp at hcs
   omega
 · rw [hv] at hcs
   simp at hcs
   obtain ⟨h1, h2, h3⟩ := hcs
   rw [had] at h1
   have ha : a = ⟨b, o, none⟩ := (Option.some.inj h1).symm
   have hd : d = .slice (elems.map (·.1)) (rest.map (·.1)) := (Prod.mk.inj hx).1
   have hie : i < elems.length := by omega
   have h4 := hel i (by omega)
   rw [Tryz.pcellsIs, List.getElem?_eq_getElem hie] at h4
   cases hcc : W.cells? 0 (a.add (i * 1)) 1 with
   | none => rw [hcc] at h4; cases h4
   | some cs' =>
    rw [hcc] at h4
    obtain ⟨_, hl', hcell⟩ := World.cells?_some hcc
    obtain ⟨u, rfl⟩ := Pg.len1 hl'
    have e0 := hcell 0 (by omega)
    rw [add_add, ha, Go.WideShapes.add_plain, Nat.mul_one, Nat.add_zero, hc] at e0
    have hu : u = .slice t.ad t.len t.cap := by simpa using e0.symm
    have h5 : DataW.trod enc Tryz.prog W 0 (fun _ => true) true m 23 [u] = some ((elems[i]'hie).1, (elems[i]'hie).2) := h4
    have h6 := Rm.row_few h5 hu
    have h7 := Rm.part_le (d := (elems[i]'hie).1) (l := elems.map (·.1)) (List.mem_map_of_mem (List.getElem_mem hie))
    rw [hd]
    simp only [Rows.uptoBulk]
    omega
theorem Rm.open_code {fuel : Nat} {cs : List Value} {d : DataW H} {p : List MemPlace} (h : DataW.trod enc Tryz.prog W 0 (fun _ => true) true fuel 26 cs = some (d, p)) (hwt : Pg.Lt 26 d) :
  ∃ (si sf sz : Pg.Sl) (l : List Kd.I) (fs : List Int) (ss : List (List Int)), cs = [.slice si.ad si.len si.cap, .slice sf.ad sf.len sf.cap, .slice sz.ad sz.len sz.cap] ∧ Kd.RCo W si sf sz l fs ss ∧ ∀ r ∈ ss, r.length ≤ Rows.uptoBulk d := by
 obtain ⟨si, sf, sz, l, fs, ss, hcs, hco⟩ := Kd.open_code h hwt
 refine ⟨si, sf, sz, l, fs, ss, hcs, hco, ?_⟩
 subst hcs
 obtain ⟨xs, n, hfu, hx, hl, hlen, hf⟩ := DataW.trod_struct Tryz.underlying26 h
 have hd : d = .agg (xs.map (·.1)) := (Prod.mk.inj hx).1
 obtain ⟨x0, x1, x2, rfl⟩ := Pg.len3 (show xs.length = 3 from hlen)
 have f2 : DataW.trod enc Tryz.prog W 0 (fun _ => true) true n 24 (([Value.slice si.ad si.len si.cap, .slice sf.ad sf.len sf.cap, .slice sz.ad sz.len sz.cap].drop 2).take (Tryz.prog.cellsOf 24)) = some x2 := hf 2 _ rfl
 rw [Tryz.kcellsV] at f2
 have f3 : DataW.trod enc Tryz.prog W 0 (fun _ => true) true n 24 [Value.slice sz.ad sz.len sz.cap] = some (x2.1, x2.2) := f2
 intro r hr
 have h1 := Rm.rows_few f3 rfl hco.szs r hr
 have h2 : Rows.uptoBulk x2.1 ≤ Rows.uptoBulkAll ([x0, x1, x2].map (·.1)) := Rm.part_le (by simp)
 rw [hd]
 simp only [Rows.uptoBulk]
 omega
end
end Go.Proofs.YtpfogjplnodacaaGreat
