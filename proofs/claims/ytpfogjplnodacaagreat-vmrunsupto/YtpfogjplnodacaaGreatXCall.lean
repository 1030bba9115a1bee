/-
  The contract of the runner's call, by that of function. By the verifier.
-/
import Derived.Test.YtpfogjplnodacaaGreatLK
set_option maxRecDepth 100000
set_option maxHeartbeats 12800000
namespace Go.Proofs.YtpfogjplnodacaaGreat
open Go.RowKit
set_option linter.unusedVariables false
theorem Xr.Inv1.val {s : Xr.S} {k n : Nat} (h : Xr.Inv1 s k) (f : Xr.F) (x : Pg.XT n) : Xr.Inv1 (Xr.valS s f x) k := by
 unfold Xr.valS
 split
 · exact h
 · split
   · exact h
   · exact ⟨by rw [Xr.fuel_fin]; exact h.fuel, by show (Xr.fin _ _ _ _).made ≤ 600; rw [show (Xr.fin s f f.at_ (Pg.val f.vs n x).2).made = s.made by unfold Xr.fin Xr.tell; split <;> rfl]; exact h.made, fun e => (by cases e), Xr.fin_room f _ _ (fun e => by have := (h.go e).2; omega) h.room⟩
section
variable {m n : Nat}
structure Xr.Ag (w0 W W1 : World) (br : Nat) (fs : Pg.Sl) (bf : Nat) (gv : Option Nat) (vb : List Nat) (f : Xr.F) (ev : Value) (s : Xr.S) (l : List (Pg.XT m)) (i : Nat) (av : Value) (V : World) : Prop where
 it : ∃ zs s2 ev2, Xr.Ca w0 W W1 br fs bf gv vb f ev V s2 ev2 av zs ∧ zs.length = i ∧ Xr.argS f l s = Xr.argS f (l.drop i) s2 ∧ Xr.argV f l s = zs ++ Xr.argV f (l.drop i) s2 ∧ (∀ k, Xr.Inv1 s k → Xr.Inv1 s2 k) ∧ s2.fuel = s.fuel
structure Xr.Pa (w0 W W1 : World) (br : Nat) (fs : Pg.Sl) (bf : Nat) (gv : Option Nat) (vb : List Nat) (f : Xr.F) (ev : Value) (av : Value) (zs : List Int) (bg : Nat) (gg : Option Nat) (gb : List Nat) (g0 : Xr.F) (s0 : Xr.S) (sz : List Int) (i : Nat) (V : World) : Prop where
 it : ∃ s2 ev2 g, Xr.Cg w0 W W1 br fs bf gv vb f ev V s2 ev2 av zs bg gg gb g ∧ Xr.parS g0 f.at_ 0 zs s0 = Xr.parS g f.at_ i (zs.drop i) s2 ∧ Xr.parF 0 zs g0 = Xr.parF i (zs.drop i) g ∧ Xr.Sh g.vs sz ∧ (∀ k, Xr.Inv s0 (k + 3) → Xr.Inv s2 (k + (3 - i))) ∧ g.deep = g0.deep ∧ s2.fuel = s0.fuel
theorem Xr.parS_num {g g' : Xr.F} (h : g.num = g'.num) (a : Int) : ∀ (l : List Int) (i : Nat) (s : Xr.S), Xr.parS g a i l s = Xr.parS g' a i l s
 | [], _, _ => rfl
 | z :: r, i, s => by
  show Xr.parS g a (i + 1) r (Xr.tell s ⟨2, g.num, a, (i : Nat), 0, z⟩) = Xr.parS g' a (i + 1) r (Xr.tell s ⟨2, g'.num, a, (i : Nat), 0, z⟩)
  rw [h]
  exact Xr.parS_num h a r (i + 1) _
structure Xr.Nf (w0 V2 V : World) (g : Xr.F) : Prop where
 bel : Below V2.heap.size V2 V
 it : ∃ gg gb, Xr.Fm w0 V V2.heap.size gg gb g ∧ ∀ q ∈ Xr.own V2.heap.size gg gb, V2.heap.size ≤ q
theorem Xr.head_ok {last : Bool} {pa : Int} {sz : List Int} (h : Pg.whead last pa sz = 0) : 0 ≤ pa ∧ pa ≤ sz.length ∧ sz.length ≤ 9 ∧ ∀ z ∈ sz, 0 ≤ z ∧ z ≤ 8 := by
 unfold Pg.whead at h
 split at h
 · cases h
 rename_i h1
 split at h
 · cases h
 rename_i h2
 split at h
 · cases h
 rename_i h3
 refine ⟨by omega, by omega, by omega, fun z hz => ?_⟩
 have h4 : ¬ Pg.noSize z = true := fun e => h3 (List.any_eq_true.2 ⟨z, hz, e⟩)
 unfold Pg.noSize at h4
 rw [decide_eq_true_eq] at h4
 omega
def Xr.FnOk (w0 : World) (br : Nat) (fs : Pg.Sl) (p : List (Pg.FT m n)) (d : Nat) : Prop :=
 ∀ (q : Nat) (x : Pg.FT m n), p[q]? = some x → ∀ (W : World) (s : Xr.S) (ev : Value) (bf : Nat) (gv : Option Nat) (vb : List Nat) (f : Xr.F),
  Xr.J w0 W br fs s ev bf gv vb f → Xr.Sh f.vs x.sizes → f.deep + d = 5 → Xr.Inv s 0 →
  Calls Tryz.prog 68 #[.pointer (some ⟨br, 0, none⟩), .pointer (some ⟨bf, 0, none⟩), .int .i64 (q : Nat)] W (Xr.Post w0 br fs x.sizes bf gv vb W ev s f (Xr.fn p (Xr.call p d) q s f))
variable {w0 : World} {br : Nat} {fs : Pg.Sl} {p : List (Pg.FT m n)}
theorem xcall_any (d : Nat) (hpp : Xr.PP w0 fs p) (hfn : ∀ e, d = e + 1 → Xr.FnOk w0 br fs p e) : Xr.CallOk w0 br fs p d := by
 intro now x hx j c y W s ev bf gv vb f h hre hw h3 hsh hd hinv
 obtain ⟨⟨hk, hv, hf⟩, ⟨hix, hex, hag⟩, hrt, hrl⟩ := id hre
 obtain ⟨ww1, ww2, ww3, ww4, ww5, ww6⟩ := Xr.wc_ok (show Pg.wc y.1.1 (Pg.at? x.sizes y.1.2.1) (Pg.may now p.length y.1.2.2) _ (decide ((y.2.1.2.2.length : Int) = Pg.parOf p y.1.2.2)) _ _ (Pg.first (y.2.1.2.2.map (Pg.chkX x.sizes m))) = 0 from hw)
 obtain ⟨hmy, hpa⟩ := ww3 h3
 obtain ⟨z0, hz0⟩ := ww2 (by omega)
 obtain ⟨v, lv, hv1, hv2, hv3, hv4⟩ := hsh.var hz0
 have hm : 0 ≤ y.1.2.2 ∧ y.1.2.2 ≤ (now : Int) ∧ y.1.2.2 < (p.length : Int) - 1 := by unfold Pg.may at hmy; exact of_decide_eq_true hmy
 obtain ⟨q, hq⟩ : ∃ q : Nat, y.1.2.2 = q := ⟨y.1.2.2.toNat, by omega⟩
 have hql : q < p.length := by omega
 have hxq := List.getElem?_eq_getElem hql
 generalize p[q] = xq at hxq
 obtain ⟨hwh, hwc, hwr⟩ := hpp.parts hxq
 have hb0 := (Below.refl W.heap.size W).alloc (Nat.le_refl _) (Obj.cells #[.int .i64 c.k, .int .i64 c.v, .int .i64 c.f, .int .i64 c.ix.k, .int .i64 c.ix.n, .slice c.ix.args.ad c.ix.args.len c.ix.args.cap, .int .i64 c.ex.k, .int .i64 c.ex.n, .slice c.ex.args.ad c.ex.args.len c.ex.args.cap, .slice c.args.ad c.args.len c.args.cap, .slice c.thn.ad c.thn.len c.thn.cap, .slice c.els.ad c.els.len c.els.cap] 107)
 have hCa0 : Xr.Ca w0 W (W.alloc (Obj.cells #[.int .i64 c.k, .int .i64 c.v, .int .i64 c.f, .int .i64 c.ix.k, .int .i64 c.ix.n, .slice c.ix.args.ad c.ix.args.len c.ix.args.cap, .int .i64 c.ex.k, .int .i64 c.ex.n, .slice c.ex.args.ad c.ex.args.len c.ex.args.cap, .slice c.args.ad c.args.len c.args.cap, .slice c.thn.ad c.thn.len c.thn.cap, .slice c.els.ad c.els.len c.els.cap] 107)) br fs bf gv vb f ev (W.alloc (Obj.cells #[.int .i64 c.k, .int .i64 c.v, .int .i64 c.f, .int .i64 c.ix.k, .int .i64 c.ix.n, .slice c.ix.args.ad c.ix.args.len c.ix.args.cap, .int .i64 c.ex.k, .int .i64 c.ex.n, .slice c.ex.args.ad c.ex.args.len c.ex.args.cap, .slice c.args.ad c.args.len c.args.cap, .slice c.thn.ad c.thn.len c.thn.cap, .slice c.els.ad c.els.len c.els.cap] 107)) s ev (.slice none 0 0) [] :=
  ⟨h.below hb0, Xr.Kp.below hb0, rfl, h.m.safe_new _, ⟨rfl, .inl ⟨rfl, rfl⟩⟩, (fun q hq => by cases hq), h.m.bel.size⟩
 have HC := hide (show ∀ V : World, V.heap[W.heap.size]? = (W.alloc (Obj.cells #[.int .i64 c.k, .int .i64 c.v, .int .i64 c.f, .int .i64 c.ix.k, .int .i64 c.ix.n, .slice c.ix.args.ad c.ix.args.len c.ix.args.cap, .int .i64 c.ex.k, .int .i64 c.ex.n, .slice c.ex.args.ad c.ex.args.len c.ex.args.cap, .slice c.args.ad c.args.len c.args.cap, .slice c.thn.ad c.thn.len c.thn.cap, .slice c.els.ad c.els.len c.els.cap] 107)).heap[W.heap.size]? → V.cell? ⟨W.heap.size, 1, none⟩ = some (.int .i64 (v : Nat)) ∧ V.cell? ⟨W.heap.size, 2, none⟩ = some (.int .i64 (q : Nat)) ∧ V.cell? ⟨W.heap.size, 9, none⟩ = some (.slice c.args.ad c.args.len c.args.cap) from fun V hV => by
  refine ⟨?_, ?_, ?_⟩
  · rw [Xr.cell_kept hV 1, show ((v : Nat) : Int) = c.v by rw [hv, hv1]]; go_simp
  · rw [Xr.cell_kept hV 2, show ((q : Nat) : Int) = c.f by rw [hf, hq]]; go_simp
  · rw [Xr.cell_kept hV 9]; go_simp)
 obtain ⟨q1, q2, q9⟩ := (unhide HC) _ rfl
 have halen := hag.len
 have HAG := hide (show ∀ i z, y.2.1.2.2[i]? = some z → ∃ (b o : Nat) (e : Pg.E), c.args.ad = some ⟨b, o, none⟩ ∧ b < w0.heap.size ∧ Pg.LE w0 b (o + i * 3) e ∧ ∀ (V : World) (ev' : Value) (s2 : Xr.S), Xr.J w0 V br fs s2 ev' bf gv vb f → Xr.Rm s2 4000 → Calls Tryz.prog 131 #[.pointer (some ⟨br, 0, none⟩), .pointer (some ⟨bf, 0, none⟩), e.val] V fun r W' => r = .returned (.int .i64 (Xr.valV s2 f z)) ∧ ∃ ev'', Xr.M w0 W' br fs (Xr.valS s2 f z) ev'' ∧ Xr.Kp br ev' ev'' [] V W' from fun i z hz => by
  obtain ⟨b, o, e, h4, h5, h6, h7⟩ := hag.at_ i z hz
  exact ⟨b, o, e, h4, h5, h6, fun V ev' s2 hJ hr => value_any m e z V hJ h7 (hsh.okX h7 (Pg.first_zero ww6 _ (List.mem_map_of_mem (List.mem_of_getElem? hz)))) hr⟩)
 have hal3 : c.args.len ≤ 3 := by
  have h1 : (y.2.1.2.2.length : Int) = Pg.parOf p y.1.2.2 := of_decide_eq_true hpa
  have h2 : Pg.parOf p y.1.2.2 = xq.params := by unfold Pg.parOf; rw [hq, Int.toNat_natCast, hxq]; rfl
  unfold Pg.whead at hwh
  split at hwh
  · cases hwh
  split at hwh
  · cases hwh
  rename_i h8
  omega
 have hpar : (c.args.len : Int) = xq.params := by
  have h1 : (y.2.1.2.2.length : Int) = Pg.parOf p y.1.2.2 := of_decide_eq_true hpa
  have h2 : Pg.parOf p y.1.2.2 = xq.params := by unfold Pg.parOf; rw [hq, Int.toNat_natCast, hxq]; rfl
  omega
 have HA0 := hide (show Xr.Ag w0 W _ br fs bf gv vb f ev s y.2.1.2.2 0 (.slice none 0 0) _ from ⟨[], s, ev, hCa0, rfl, rfl, rfl, fun k hk => hk, rfl⟩)
 have HINV := hide hinv
 have HLN := hide halen
 have HPP := hide hpp
 have HFN := hide hfn
 have HSH := hide hsh
 have HXQ := hide hxq
 have HQ := hide (And.intro hv1 hq)
 have HV2 := hide (And.intro hv2 hv3)
 have HPR := hide (And.intro hpar (And.intro hwh hwr))
 have HHD := hide hd
 have HNW9 := hide (show W.heap.size ∉ Xr.own bf gv vb from fun e => by have := (h.fm.hge _ e).2; omega)
 have hqn : q + 1 < p.length := by omega
 obtain ⟨i3, hi3, hz3, hz3', hz3''⟩ := info_of Tryz.infoI3
 have HI := hide hi3
 have HZ0 := hide hz3
 have HZ1 := hide hz3'
 have HZ2 := hide hz3''
 have HT0 := hide (show ∀ T, T = Xr.call p d s f y.1.2.1 y.1.2.2 y.2.1.2.2 → T = Xr.call p d s f y.1.2.1 y.1.2.2 y.2.1.2.2 from fun T h => h)
 obtain ⟨T, hT⟩ : ∃ T, T = Xr.call p d s f y.1.2.1 y.1.2.2 y.2.1.2.2 := ⟨_, rfl⟩
 rw [← hT]
 have HT := hide hT
 clear h hre hw h3 hsh hd hinv hk hv hf hix hex hag hrt hrl ww1 ww2 ww3 ww4 ww5 ww6 hmy hpa hz0 hv1 hv2 hv3 hv4 hm hq hql hxq hwh hwc hwr hb0 hCa0 halen hpar hpp hfn hx hi3 hz3 hz3' hz3'' hT HT0
 unfold Pg.C.val
 go_enter Tryz.func133, Tryz.ntmps133
 go_upto_block 0 with fail
 generalize W.alloc (Obj.cells #[.int .i64 c.k, .int .i64 c.v, .int .i64 c.f, .int .i64 c.ix.k, .int .i64 c.ix.n, .slice c.ix.args.ad c.ix.args.len c.ix.args.cap, .int .i64 c.ex.k, .int .i64 c.ex.n, .slice c.ex.args.ad c.ex.args.len c.ex.args.cap, .slice c.args.ad c.args.len c.args.cap, .slice c.thn.ad c.thn.len c.thn.cap, .slice c.els.ad c.els.len c.els.cap] 107) = W1 at *
 obtain ⟨ck, cv, cf, cix, cex, ⟨aa, al, ac⟩, cth, cel⟩ := c
 dsimp only at *
 go_cut [6] (fun av V => Xr.Ag w0 W W1 br fs bf gv vb f ev s y.2.1.2.2 al av V)
 case first =>
  go_wp2_with fail
  go_loopw [6, 16] (fun av iv wr => ∃ i : Nat, i ≤ al ∧ iv = .int .i64 i ∧ Xr.Ag w0 W W1 br fs bf gv vb f ev s y.2.1.2.2 i av wr) (fun _ iv _ => al - (intOf iv).toNat)
  case atStart => exact ⟨0, Nat.zero_le _, rfl, unhide HA0⟩
  case round =>
   obtain ⟨i, hi, rfl, hgo⟩ := hrel
   by_cases hlt : i < al
   · obtain ⟨zs, s2, ev2, hca, hzl, has, hav, hin, hfu⟩ := hgo.it
     have hlt2 : i < y.2.1.2.2.length := by have := unhide HLN; omega
     have hy := List.getElem?_eq_getElem hlt2
     obtain ⟨b, o, e, had, hb, hlies, hcl⟩ := (unhide HAG) i _ hy
     have hDr : y.2.1.2.2.drop i = y.2.1.2.2[i] :: y.2.1.2.2.drop (i + 1) := List.drop_eq_getElem_cons hlt2
     rw [hDr] at has hav
     generalize y.2.1.2.2[i] = z at *
     obtain ⟨p0, p1, p2⟩ := hlies.later hca.j.m.bel (Nat.le_refl _) hb
     have hal := (Below.refl wr.heap.size wr).alloc (Nat.le_refl _) (Obj.cells #[.int .i64 e.k, .int .i64 e.n, .slice e.args.ad e.args.len e.args.cap] 69)
     have hca1 := hca.below hal
     have HCL := hide (hcl _ ev2 s2 hca1.j ((hin 0 (unhide HINV)).inv.rm.le (by omega)))
     unfold Pg.E.val at HCL
     have HCA := hide hca1
     obtain ⟨a0, c0, rfl⟩ := hca.form
     have HE := hide (And.intro hzl (And.intro has (And.intro hav (And.intro hin hfu))))
     have hzz : zs.length ≤ 3 := by omega
     have HVI := hide (fun k (hk : Xr.Inv1 s k) => (hin k hk).val f z)
     have HVF := hide (Xr.fuel_val s2 f z)
     have HAE := hide (show Xr.argS f (z :: y.2.1.2.2.drop (i + 1)) s2 = Xr.argS f (y.2.1.2.2.drop (i + 1)) (Xr.valS s2 f z) ∧ Xr.argV f (z :: y.2.1.2.2.drop (i + 1)) s2 = Xr.valV s2 f z :: Xr.argV f (y.2.1.2.2.drop (i + 1)) (Xr.valS s2 f z) from ⟨rfl, rfl⟩)
     generalize Xr.valV s2 f z = vz at *
     generalize Xr.valS s2 f z = s3 at *
     have had' : aa = some ⟨b, o, none⟩ := had
     subst had'
     have hi0 : (0 : Int) ≤ (i : Int) := by omega
     have hi1 : (i : Int) < (al : Int) := by omega
     clear hgo hca hzl has hav hin hfu hy hb hlies hcl hDr hal hca1 had hlt2
     go_wp2_with fail
     refine (unhide HCL).mono ?_
     rintro r w5 ⟨rfl, ev5, hm5, hk5⟩
     have hca5 := (unhide HCA).tell hm5 hk5
     have HROW := hide hca5.row
     have HC5 := hide hca5
     have HAPP := hide (fun (V2 w6 : World) (h1 : Below w5.heap.size w5 V2) (h2 : V2.grownBy w6 (Value.slice a0 zs.length c0).ownBlock) (g cc : Nat) (h3 : w6.ownsRow (W.heap.size + 1) 3 1 (.slice (some ⟨g, 0, none⟩) (zs.length + 1) cc) (zs.length + 1) (zs.map (Value.int .i64) ++ [.int .i64 vz])) (h4 : (Value.slice a0 zs.length c0).ownBlock = some g ∨ g = V2.heap.size) => hca5.app h1 h2 vz g cc h3 h4)
     have hwl5 : W.heap.size < w5.heap.size := hca5.lt
     have HBK := hide (heap_alloc_new w5 (Obj.cells #[.int .i64 vz] 3))
     have HBD := hide (show Below w5.heap.size w5 (w5.alloc (Obj.cells #[.int .i64 vz] 3)) from (Below.refl _ _).alloc (Nat.le_refl _) _)
     clear hca5 hm5 hk5
     go_wp2_with (at_builtin; refine wpList_append_lies _ (by rfl) _ _ _ (by rfl) (W.heap.size + 1) 3 i3 _ 1 8 Tryz.underlying23 (unhide HI) (unhide HZ0) (unhide HZ1) (unhide HZ2) rfl (by omega) (.slice a0 zs.length c0) zs.length (zs.map (Value.int .i64)) (by rfl) (Pg.ow_below (unhide HROW) (unhide HBD)) ⟨w5.heap.size, 0, none⟩ 1 1 [.int .i64 vz] (by rfl) (by rfl) (World.news_of_block (unhide HBK)) (by simp [Value.oneCell']) (by omega) (by unfold maxLen; omega) (by omega) (by simp; omega) (w5.heap.size + 1) (by simp) ?_; intro gA cA w6 hoA hgA hatA hltA; have HOA := hide hoA; have HGA := hide hgA; have HAT := hide hatA; clear hoA hgA hatA hltA)
     have HAG6 := hide (show Xr.Ag w0 W W1 br fs bf gv vb f ev s y.2.1.2.2 (i + 1) (.slice (some ⟨gA, 0, none⟩) (zs.length + 1) cA) w6 from ⟨zs ++ [vz], s3, ev5, (unhide HAPP) _ _ (unhide HBD) (unhide HGA) _ _ (unhide HOA) (by rcases unhide HAT with e | e; exact .inl e; exact .inr (by rw [e]; simp)), by rw [List.length_append, (unhide HE).1]; rfl, by rw [(unhide HE).2.1, (unhide HAE).1], by rw [(unhide HE).2.2.1, (unhide HAE).2]; simp, unhide HVI, (unhide HVF).trans (unhide HE).2.2.2.2⟩)
     exact ⟨⟨i + 1, by omega, by go_num, unhide HAG6⟩, by simp [intOf]; omega⟩
   · have hia : i = al := by omega
     subst hia
     have HG := hide hgo
     clear hgo
     go_wp2_with fail
     go_meet
     case rel => exact unhide HG
 case rest =>
  rename World => V1
  obtain ⟨zs, s2, ev2, hca, hzl, has, hav, hin, hfu⟩ := hcut.it
  obtain ⟨a0, c0, rfl⟩ := hca.form
  have hdn : y.2.1.2.2.drop al = [] := List.drop_of_length_le (by have := unhide HLN; omega)
  rw [hdn] at has hav
  have has : Xr.argS f y.2.1.2.2 s = s2 := has
  have hav : Xr.argV f y.2.1.2.2 s = zs := by rw [hav]; exact List.append_nil _
  have m1 := hca.j.fm.c1
  have m2 := hca.j.fm.c2
  have hdd := unhide HHD
  clear q1 q2 q9 hcut hdn
  cases d with
  | zero =>
   have HTT := hide (show T = (Xr.fin s2 f f.at_ 4, f) by rw [unhide HT]; show (Xr.fin (Xr.argS f y.2.1.2.2 s) f f.at_ 4, f) = _; rw [has])
   have hd5 : f.deep = 5 := by omega
   have HE := hide (end_any f.at_ 4 V1 hca.j ((hin 0 (unhide HINV)).inv.rm.le (by omega)))
   have HCA := hide hca
   have HR := hide (And.intro hin hfu)
   rw [hd5] at m1
   clear hca hzl has hav hin hfu hdd hd5
   go_wp2_with fail
   refine (unhide HE).mono ?_
   rintro r w5 ⟨rfl, ev5, hm5, hk5⟩
   have HC5 := hide ((unhide HCA).tell hm5 hk5)
   clear hm5 hk5
   go_wp2_with fail
   try simp only [Exit.inBlock, Exit.then]
   refine bodyPost_ret (results_none rfl _ _ _) rfl ?_
   rw [unhide HTT]
   exact ⟨rfl, ev5, (unhide HC5).j, (unhide HC5).k, unhide HSH, fun k hk => ((unhide HR).1 k hk).inv.fin _ _ _ _, rfl, by show (Xr.fin _ _ _ _).fuel ≤ _; rw [Xr.fuel_fin, (unhide HR).2]; exact Nat.le_refl _⟩
  | succ e =>
   have hq := (unhide HQ).2
   have hv1 := (unhide HQ).1
   have HTT := hide (show T = Xr.callB p (Xr.call p e) xq q zs v s2 f by
    rw [unhide HT]
    show (match p[(y.1.2.2).toNat]? with | none => (s, f) | some x => Xr.callB p (Xr.call p e) x (y.1.2.2).toNat (Xr.argV f y.2.1.2.2 s) y.1.2.1 (Xr.argS f y.2.1.2.2 s) f) = _
    rw [hq, Int.toNat_natCast, unhide HXQ, has, hav, hv1])
   have hde : f.deep ≤ 4 := by omega
   have HFE := hide ((unhide HFN) e rfl)
   have hfe : f.deep + 1 + e = 5 := by omega
   have hin0 := hin 0 (unhide HINV)
   have hmd : s2.made ≤ 600 := hin0.made
   obtain ⟨bq, oq, fq, hfs, hbq, hlq, hrq⟩ := (unhide HPP).rp.at_ q xq (unhide HXQ)
   have hql : q < fs.len := by rw [(unhide HPP).rp.len]; exact (List.getElem?_eq_some_iff.1 (unhide HXQ)).1
   have hfl : fs.len ≤ 6 := by rw [(unhide HPP).rp.len]; exact (unhide HPP).few
   have hca2 : Xr.Ca w0 W W1 br fs bf gv vb f ev (V1.setCell ⟨br, 3, none⟩ (.int .i64 ((s2.made : Int) + 1))) { s2 with made := s2.made + 1 } ev2 (.slice a0 zs.length c0) zs := by
    have h1 := hca.j.m.set3 (s2.made + 1)
    have h2 := (Xr.Kp.refl br ev2 [] V1).set br 3 (.int .i64 ((s2.made + 1 : Nat) : Int)) (.inl rfl)
    rw [show ((s2.made + 1 : Nat) : Int) = (s2.made : Int) + 1 by omega] at h1 h2
    exact hca.tell h1 h2
   have c3 := hca.j.m.c3
   have z3 := hca.j.m.fz 3
   have HCA2 := hide hca2
   have HE1 := hide (And.intro hzl (And.intro hin hfu))
   clear hca hca2 hzl has hav hin hfu hdd hq hv1 hin0
   go_upto_region 10 with fail
   generalize V1.setCell ⟨br, 3, none⟩ (.int .i64 ((s2.made : Int) + 1)) = V2 at *
   obtain ⟨fa, fl, fc⟩ := fs
   have hfs' : fa = some ⟨bq, oq, none⟩ := hfs
   subst hfs'
   dsimp only at *
   obtain ⟨hd0, hd1, hd2, hd3⟩ := Xr.head_ok (unhide HPR).2.1
   have HLQ := hide (fun (V : World) (hV : Below w0.heap.size w0 V) => hlq.later hV (Nat.le_refl _) hbq)
   have hres : Pg.chkX xq.sizes m xq.res = 0 := by
    have h1 := (unhide HPR).2.2
    have h2 : decide (q + 1 = p.length) = false := by
     rw [decide_eq_false_iff_not]
     have h3 : fl = p.length := (unhide HPP).rp.len
     have h4 := hqn
     omega
    rw [h2] at h1
    exact h1
   have HRX := hide (fun (V : World) (ev' : Value) (s5 : Xr.S) (bg : Nat) (gg : Option Nat) (gb : List Nat) (g5 : Xr.F) (hJ : Xr.J w0 V br ⟨some ⟨bq, oq, none⟩, fl, fc⟩ s5 ev' bg gg gb g5) (hs : Xr.Sh g5.vs xq.sizes) (hr : Xr.Rm s5 4000) => show Calls Tryz.prog 131 #[.pointer (some ⟨br, 0, none⟩), .pointer (some ⟨bg, 0, none⟩), .agg #[.int .i64 fq.res.k, .int .i64 fq.res.n, .slice fq.res.args.ad fq.res.args.len fq.res.args.cap]] V fun r W' => r = .returned (.int .i64 (Xr.valV s5 g5 xq.res)) ∧ ∃ ev'', Xr.M w0 W' br ⟨some ⟨bq, oq, none⟩, fl, fc⟩ (Xr.valS s5 g5 xq.res) ev'' ∧ Xr.Kp br ev' ev'' [] V W' from value_any m fq.res xq.res V hJ hrq.res (hs.okX hrq.res hres) hr)
   have HNF := hide (fun (V : World) (hV : Below V2.heap.size V2 V) => show Calls Tryz.prog 67 #[.int .i64 ((s2.made : Int) + 1), .int .i64 ((f.deep : Int) + 1), .slice fq.sizes.ad fq.sizes.len fq.sizes.cap] V fun r W' => ∃ gv vb, r = .returned (.pointer (some ⟨V.heap.size, 0, none⟩)) ∧ Xr.Fm w0 W' V.heap.size gv vb (Xr.newF (s2.made + 1) (f.deep + 1) xq.sizes) ∧ (∀ q ∈ Xr.own V.heap.size gv vb, V.heap.size ≤ q) ∧ Below V.heap.size V W' from by
    have hbv := (unhide HCA2).j.m.bel.trans (hV.mono (unhide HCA2).j.m.bel.size)
    have := newFrame_any (w0 := w0) (s2.made + 1) (f.deep + 1) fq.sizes xq.sizes V hbv.size (hrq.sizes.later hbv (Nat.le_refl _)) (by omega) (fun z hz => by have := hd3 z hz; omega)
    rw [show ((s2.made + 1 : Nat) : Int) = (s2.made : Int) + 1 by omega, show ((f.deep + 1 : Nat) : Int) = (f.deep : Int) + 1 by omega] at this
    exact this)
   have HTB := hide (show T = (Xr.wrS (Xr.tell (Xr.valS (Xr.fn p (Xr.call p e) q (Xr.parS (Xr.newF (s2.made + 1) (f.deep + 1) xq.sizes) f.at_ 0 zs (Xr.tell { s2 with made := s2.made + 1 } ⟨5, f.num, f.at_, (q : Nat), 0, (Xr.newF (s2.made + 1) (f.deep + 1) xq.sizes).num⟩)) (Xr.parF 0 zs (Xr.newF (s2.made + 1) (f.deep + 1) xq.sizes))).1 (Xr.fn p (Xr.call p e) q (Xr.parS (Xr.newF (s2.made + 1) (f.deep + 1) xq.sizes) f.at_ 0 zs (Xr.tell { s2 with made := s2.made + 1 } ⟨5, f.num, f.at_, (q : Nat), 0, (Xr.newF (s2.made + 1) (f.deep + 1) xq.sizes).num⟩)) (Xr.parF 0 zs (Xr.newF (s2.made + 1) (f.deep + 1) xq.sizes))).2 xq.res) ⟨6, (Xr.fn p (Xr.call p e) q (Xr.parS (Xr.newF (s2.made + 1) (f.deep + 1) xq.sizes) f.at_ 0 zs (Xr.tell { s2 with made := s2.made + 1 } ⟨5, f.num, f.at_, (q : Nat), 0, (Xr.newF (s2.made + 1) (f.deep + 1) xq.sizes).num⟩)) (Xr.parF 0 zs (Xr.newF (s2.made + 1) (f.deep + 1) xq.sizes))).2.num, f.at_, 0, 0, Xr.valV (Xr.fn p (Xr.call p e) q (Xr.parS (Xr.newF (s2.made + 1) (f.deep + 1) xq.sizes) f.at_ 0 zs (Xr.tell { s2 with made := s2.made + 1 } ⟨5, f.num, f.at_, (q : Nat), 0, (Xr.newF (s2.made + 1) (f.deep + 1) xq.sizes).num⟩)) (Xr.parF 0 zs (Xr.newF (s2.made + 1) (f.deep + 1) xq.sizes))).1 (Xr.fn p (Xr.call p e) q (Xr.parS (Xr.newF (s2.made + 1) (f.deep + 1) xq.sizes) f.at_ 0 zs (Xr.tell { s2 with made := s2.made + 1 } ⟨5, f.num, f.at_, (q : Nat), 0, (Xr.newF (s2.made + 1) (f.deep + 1) xq.sizes).num⟩)) (Xr.parF 0 zs (Xr.newF (s2.made + 1) (f.deep + 1) xq.sizes))).2 xq.res⟩) f f.at_ v 0 (Xr.valV (Xr.fn p (Xr.call p e) q (Xr.parS (Xr.newF (s2.made + 1) (f.deep + 1) xq.sizes) f.at_ 0 zs (Xr.tell { s2 with made := s2.made + 1 } ⟨5, f.num, f.at_, (q : Nat), 0, (Xr.newF (s2.made + 1) (f.deep + 1) xq.sizes).num⟩)) (Xr.parF 0 zs (Xr.newF (s2.made + 1) (f.deep + 1) xq.sizes))).1 (Xr.fn p (Xr.call p e) q (Xr.parS (Xr.newF (s2.made + 1) (f.deep + 1) xq.sizes) f.at_ 0 zs (Xr.tell { s2 with made := s2.made + 1 } ⟨5, f.num, f.at_, (q : Nat), 0, (Xr.newF (s2.made + 1) (f.deep + 1) xq.sizes).num⟩)) (Xr.parF 0 zs (Xr.newF (s2.made + 1) (f.deep + 1) xq.sizes))).2 xq.res), Xr.wrF f v 0 (Xr.valV (Xr.fn p (Xr.call p e) q (Xr.parS (Xr.newF (s2.made + 1) (f.deep + 1) xq.sizes) f.at_ 0 zs (Xr.tell { s2 with made := s2.made + 1 } ⟨5, f.num, f.at_, (q : Nat), 0, (Xr.newF (s2.made + 1) (f.deep + 1) xq.sizes).num⟩)) (Xr.parF 0 zs (Xr.newF (s2.made + 1) (f.deep + 1) xq.sizes))).1 (Xr.fn p (Xr.call p e) q (Xr.parS (Xr.newF (s2.made + 1) (f.deep + 1) xq.sizes) f.at_ 0 zs (Xr.tell { s2 with made := s2.made + 1 } ⟨5, f.num, f.at_, (q : Nat), 0, (Xr.newF (s2.made + 1) (f.deep + 1) xq.sizes).num⟩)) (Xr.parF 0 zs (Xr.newF (s2.made + 1) (f.deep + 1) xq.sizes))).2 xq.res)) from (unhide HTT).trans rfl)
   have HSN := hide (Xr.Sh.new (s2.made + 1) (f.deep + 1) xq.sizes)
   have hgd : (Xr.newF (s2.made + 1) (f.deep + 1) xq.sizes).deep + e = 5 := hfe
   generalize Xr.newF (s2.made + 1) (f.deep + 1) xq.sizes = g0 at *
   have HI3 := hide (fun k (hk : Xr.Inv1 s k) => show Xr.Inv (Xr.tell { s2 with made := s2.made + 1 } ⟨5, f.num, f.at_, (q : Nat), 0, g0.num⟩) (k + 5) from Xr.Inv.tell (k := k + 5) (by
    have h1 := (unhide HE1).2.1 k hk
    exact ⟨h1.fuel, by show s2.made + 1 ≤ 700; have := h1.made; omega, fun en => ⟨by show s2.made + 1 + s2.fuel ≤ 600; have := (h1.go en).1; omega, (h1.go en).2⟩, h1.room⟩) _)
   have HF3 := hide (show (Xr.tell { s2 with made := s2.made + 1 } ⟨5, f.num, f.at_, (q : Nat), 0, g0.num⟩).fuel = s.fuel by rw [Xr.fuel_tell]; exact (unhide HE1).2.2)
   have HT5 := hide (fun (V : World) (ev' : Value) (hJ : Xr.J w0 V br ⟨some ⟨bq, oq, none⟩, fl, fc⟩ { s2 with made := s2.made + 1 } ev' bf gv vb f) => show Calls Tryz.prog 107 #[.pointer (some ⟨br, 0, none⟩), .agg #[.int .i64 5, .int .i64 (f.num : Nat), .int .i64 f.at_, .int .i64 (q : Nat), .int .i64 0, .int .i64 (g0.num : Nat)]] V fun r W' => r = .returned (.tuple #[]) ∧ ∃ ev'', Xr.M w0 W' br ⟨some ⟨bq, oq, none⟩, fl, fc⟩ (Xr.tell { s2 with made := s2.made + 1 } ⟨5, f.num, f.at_, (q : Nat), 0, g0.num⟩) ev'' ∧ Xr.Kp br ev' ev'' [] V W' from tell_any br _ _ ev' ⟨5, f.num, f.at_, (q : Nat), 0, g0.num⟩ V hJ.m (by
    have h1 := (unhide HE1).2.1 0 (unhide HINV)
    exact fun en => by have := (h1.go en).2; show s2.evs.length ≤ 4000; omega))
   generalize Xr.tell { s2 with made := s2.made + 1 } ⟨5, f.num, f.at_, (q : Nat), 0, g0.num⟩ = s3 at *
   generalize ht4 : Xr.fn p (Xr.call p e) q (Xr.parS g0 f.at_ 0 zs s3) (Xr.parF 0 zs g0) = t4 at *
   have d3 : V2.cell? ⟨br, 3, none⟩ = some (.int .i64 ((s2.made : Int) + 1)) := by
    have := (unhide HCA2).j.m.c3
    rw [this]
    show some (Value.int .i64 ((s2.made + 1 : Nat) : Int)) = _
    rw [show ((s2.made + 1 : Nat) : Int) = (s2.made : Int) + 1 by omega]
   have d1 := (unhide HCA2).j.fm.c1
   have d0 : V2.cell? ⟨br, 0, none⟩ = some (.slice (some ⟨bq, oq, none⟩) fl fc) := (unhide HCA2).j.m.c0
   have b2 := ((unhide HC) V2 (unhide HCA2).b).2.1
   have l1 := ((unhide HLQ) V2 (unhide HCA2).j.m.bel).c1
   have hi0 : (0 : Int) ≤ (q : Int) := by omega
   have hi1 : (q : Int) < (fl : Int) := by omega
   have hw1 : IntKind.i64.wrap ((f.deep : Int) + 1) = (f.deep : Int) + 1 := Xr.wrap_id (by omega) (by omega)
   have HKM := hide (show ∀ V : World, Below V2.heap.size V2 V → (V.cell? ⟨br, 3, none⟩ = some (.int .i64 ((s2.made : Int) + 1)) ∧ V.cell? ⟨bf, 1, none⟩ = some (.int .i64 (f.deep : Nat)) ∧ V.cell? ⟨br, 0, none⟩ = some (.slice (some ⟨bq, oq, none⟩) fl fc) ∧ V.cell? ⟨W.heap.size, 2, none⟩ = some (.int .i64 (q : Nat)) ∧ V.cell? ⟨bq, oq + q * 6 + 1, none⟩ = some (.slice fq.sizes.ad fq.sizes.len fq.sizes.cap) ∧ Below V2.heap.size V2 V) from fun V hV => ⟨(hV.cell (p := ⟨br, 3, none⟩) (World.block_lt_of_cell? _ _ d3)).trans d3, (hV.cell (p := ⟨bf, 1, none⟩) (World.block_lt_of_cell? _ _ d1)).trans d1, (hV.cell (p := ⟨br, 0, none⟩) (World.block_lt_of_cell? _ _ d0)).trans d0, (hV.cell (p := ⟨W.heap.size, 2, none⟩) (World.block_lt_of_cell? _ _ b2)).trans b2, (hV.cell (p := ⟨bq, oq + q * 6 + 1, none⟩) (World.block_lt_of_cell? _ _ l1)).trans l1, hV⟩)
   clear hfs hlq hrq hbq d3 d1 d0 b2 l1 m1 m2 c3 z3 hres hd3 HTT HT
   go_cut [9] (fun t V => t = .pointer (some ⟨V2.heap.size, 0, none⟩) ∧ Xr.Nf w0 V2 V g0)
   case first =>
    go_region_held3 (fun V => V.cell? ⟨br, 3, none⟩ = some (.int .i64 ((s2.made : Int) + 1)) ∧ V.cell? ⟨bf, 1, none⟩ = some (.int .i64 (f.deep : Nat)) ∧ V.cell? ⟨br, 0, none⟩ = some (.slice (some ⟨bq, oq, none⟩) fl fc) ∧ V.cell? ⟨W.heap.size, 2, none⟩ = some (.int .i64 (q : Nat)) ∧ V.cell? ⟨bq, oq + q * 6 + 1, none⟩ = some (.slice fq.sizes.ad fq.sizes.len fq.sizes.cap) ∧ Below V2.heap.size V2 V)
     (first | assumption | exact (unhide HKM) _ ((Below.refl _ _).drew) | exact (unhide HKM) _ (unhide HN5).bel)
     (first | (go_at_call 67; refine ((unhide HNF) _ ?_).mono ?_; exact (Below.refl _ _).drew; rintro r w5 ⟨gg, gb, rfl, hf5, hg5, hb5⟩; have HN5 := hide (show Xr.Nf w0 V2 w5 g0 from ⟨((Below.refl V2.heap.size V2).drew).trans (hb5.mono (Nat.le_refl _)), gg, gb, hf5, hg5⟩); clear hf5 hg5 hb5))
    all_goals
     go_wp2_with fail
     go_meet
     case rel => exact ⟨rfl, unhide HN5⟩
   case rest =>
    rename World => V3
    obtain ⟨rfl, hnf⟩ := hcut
    obtain ⟨gg, gb, hfm, hge⟩ := hnf.it
    have hcg := (unhide HCA2).made hnf.bel hfm hge
    have HCG := hide hcg
    have b0 := hcg.ca.j.fm.c0
    have b2 := hcg.ca.j.fm.c2
    have bb := ((unhide HC) V3 hcg.ca.b).2.1
    have bg0 := hcg.jg.fm.c0
    clear hnf hfm hge hcg HKM HNF
    generalize V2.heap.size = bg at *
    go_upto_region 11 with fail
    go_cut [] (fun V => ∃ ev3, Xr.Cg w0 W W1 br ⟨some ⟨bq, oq, none⟩, fl, fc⟩ bf gv vb f ev V s3 ev3 (.slice a0 zs.length c0) zs bg gg gb g0)
    case first =>
     have HKM := hide (show (fun V : World => V.cell? ⟨bf, 0, none⟩ = some (.int .i64 (f.num : Nat)) ∧ V.cell? ⟨bf, 2, none⟩ = some (.int .i64 f.at_) ∧ V.cell? ⟨W.heap.size, 2, none⟩ = some (.int .i64 (q : Nat)) ∧ V.cell? ⟨bg, 0, none⟩ = some (.int .i64 (g0.num : Nat))) V3.drew from ⟨b0, b2, bb, bg0⟩)
     clear b0 b2 bb bg0
     go_region_held3 (fun V => V.cell? ⟨bf, 0, none⟩ = some (.int .i64 (f.num : Nat)) ∧ V.cell? ⟨bf, 2, none⟩ = some (.int .i64 f.at_) ∧ V.cell? ⟨W.heap.size, 2, none⟩ = some (.int .i64 (q : Nat)) ∧ V.cell? ⟨bg, 0, none⟩ = some (.int .i64 (g0.num : Nat)))
      (first | assumption | exact unhide HKM | exact ⟨(unhide HG5).ca.j.fm.c0, (unhide HG5).ca.j.fm.c2, ((unhide HC) _ (unhide HG5).ca.b).2.1, (unhide HG5).jg.fm.c0⟩)
      (first | (go_at_call 107; refine ((unhide HT5) _ ev2 ?_).mono ?_; exact ((unhide HCG).below ((Below.refl _ _).drew)).ca.j; rintro r w5 ⟨rfl, ev5, hm5, hk5⟩; have HG5 := hide (((unhide HCG).below ((Below.refl _ _).drew)).tell hm5 hk5); clear hm5 hk5))
     all_goals
      go_wp2_with fail
      go_meet
      case rel => exact ⟨_, unhide HG5⟩
    case rest =>
     rename World => V4
     obtain ⟨ev3, hcg4⟩ := hcut
     have HCG4 := hide hcg4
     clear hcg4 b0 b2 bb bg0
     have HP0 := hide (show Xr.Pa w0 W W1 br ⟨some ⟨bq, oq, none⟩, fl, fc⟩ bf gv vb f ev (.slice a0 zs.length c0) zs bg gg gb g0 s3 xq.sizes 0 V4 from ⟨s3, ev3, g0, unhide HCG4, rfl, rfl, unhide HSN, fun k hk => hk, rfl, rfl⟩)
     have hzl3 : zs.length = al := (unhide HE1).1
     have hpz : (zs.length : Int) ≤ (xq.sizes.length : Int) := by have h1 := (unhide HPR).1; omega
     have hz3 : zs.length ≤ 3 := by omega
     clear hzl3
     have HI30 := hide ((unhide HI3) 0 (unhide HINV))
     go_upto_block 2 with fail
     go_cut [] (fun V => Xr.Pa w0 W W1 br ⟨some ⟨bq, oq, none⟩, fl, fc⟩ bf gv vb f ev (.slice a0 zs.length c0) zs bg gg gb g0 s3 xq.sizes zs.length V)
     case first =>
      rcases Nat.eq_zero_or_pos zs.length with hz9 | hz9
      · have HZN := hide hz9
        clear hz9
        go_wp2_with fail
        go_loopw [86] (fun iv wr => ∃ i : Nat, i ≤ zs.length ∧ iv = .int .i64 i ∧ Xr.Pa w0 W W1 br ⟨some ⟨bq, oq, none⟩, fl, fc⟩ bf gv vb f ev (.slice a0 zs.length c0) zs bg gg gb g0 s3 xq.sizes i wr) (fun iv _ => zs.length - (intOf iv).toNat)
        case atStart => exact ⟨0, Nat.zero_le _, rfl, unhide HP0⟩
        case round =>
         obtain ⟨i, hi, rfl, hpa⟩ := hrel
         have hie : i = zs.length := by have := unhide HZN; omega
         subst hie
         have HP := hide hpa
         clear hpa
         go_wp2_with fail
         go_meet
         case rel => exact unhide HP
      · obtain ⟨ga, c', hav, hcl9⟩ := (unhide HCG4).ca.cell (List.getElem?_eq_getElem hz9)
        clear hcl9 hz9
        cases hav
        go_wp2_with fail
        go_loopw [86] (fun iv wr => ∃ i : Nat, i ≤ zs.length ∧ iv = .int .i64 i ∧ Xr.Pa w0 W W1 br ⟨some ⟨bq, oq, none⟩, fl, fc⟩ bf gv vb f ev (.slice (some ⟨ga, 0, none⟩) zs.length c0) zs bg gg gb g0 s3 xq.sizes i wr) (fun iv _ => zs.length - (intOf iv).toNat)
        case atStart => exact ⟨0, Nat.zero_le _, rfl, unhide HP0⟩
        case round =>
         obtain ⟨i, hi, rfl, hpa⟩ := hrel
         by_cases hlt : i < zs.length
         · obtain ⟨s5, ev5, g5, hcg5, hps, hpf, hsh5, hin5, hdp5, hfu5⟩ := hpa.it
           have hz := List.getElem?_eq_getElem hlt
           have hdr : zs.drop i = zs[i] :: zs.drop (i + 1) := List.drop_eq_getElem_cons hlt
           rw [hdr] at hps hpf
           generalize zs[i] = z at *
           obtain ⟨ga2, c2, hav, hcl⟩ := hcg5.ca.cell hz
           have hvl : i < g5.vs.length := by rw [hsh5.len]; omega
           have hgv := List.getElem?_eq_getElem hvl
           have hgp := hsh5.pos i _ hgv
           have HWR := hide (show Calls Tryz.prog 130 #[.pointer (some ⟨br, 0, none⟩), .pointer (some ⟨bg, 0, none⟩), .int .i64 f.at_, .int .i64 (i : Nat), .int .i64 0, .int .i64 z] wr fun r W' => r = .returned (.tuple #[]) ∧ ∃ ev', Xr.J w0 W' br ⟨some ⟨bq, oq, none⟩, fl, fc⟩ (Xr.wrS s5 g5 f.at_ (i : Nat) 0 z) ev' bg gg gb (Xr.wrF g5 (i : Nat) 0 z) ∧ Xr.Kp br ev5 ev' (Xr.ws bg gb) wr W' from write_any f.at_ i 0 _ z wr hcg5.jg ((hin5 0 ((unhide HI30).le (by omega))).rm.le (by omega)) hgv hgp)
           have m2 := hcg5.ca.j.fm.c2
           have HNX := hide (fun (V : World) (ev' : Value) (hJ : Xr.J w0 V br ⟨some ⟨bq, oq, none⟩, fl, fc⟩ (Xr.wrS s5 g5 f.at_ (i : Nat) 0 z) ev' bg gg gb (Xr.wrF g5 (i : Nat) 0 z)) (hk : Xr.Kp br ev5 ev' (Xr.ws bg gb) wr V) => show Xr.Pa w0 W W1 br ⟨some ⟨bq, oq, none⟩, fl, fc⟩ bf gv vb f ev (.slice (some ⟨ga, 0, none⟩) zs.length c0) zs bg gg gb g0 s3 xq.sizes (i + 1) V from ⟨_, ev', _, hcg5.act hJ hk, hps.trans (Xr.parS_num (g := g5) (g' := Xr.wrF g5 (i : Nat) 0 z) rfl f.at_ (zs.drop (i + 1)) (i + 1) (Xr.wrS s5 g5 f.at_ (i : Nat) 0 z)), hpf, hsh5.upd _ _ _, fun k hk => ((hin5 k hk).le (show k + (3 - (i + 1)) + 1 ≤ k + (3 - i) by omega)).wr _ _ _ _ _, hdp5, by show (Xr.tell _ _).fuel = _; rw [Xr.fuel_tell]; exact hfu5⟩)
           cases hav
           have hi0' : (0 : Int) ≤ (i : Int) := by omega
           have hi1' : (i : Int) < (zs.length : Int) := by omega
           clear hpa hcg5 hps hpf hsh5 hin5 hdp5 hfu5 hz hdr hgv hgp hvl
           go_wp2_with fail
           refine (unhide HWR).mono ?_
           rintro r w6 ⟨rfl, ev6, hJ6, hk6⟩
           have HP6 := hide ((unhide HNX) _ _ hJ6 hk6)
           clear hJ6 hk6
           go_wp2_with fail
           exact ⟨⟨i + 1, by omega, by go_num, unhide HP6⟩, by simp [intOf]; omega⟩
         · have hie : i = zs.length := by omega
           subst hie
           have HP := hide hpa
           clear hpa
           go_wp2_with fail
           go_meet
           case rel => exact unhide HP
     case rest =>
      rename World => V5
      obtain ⟨s5, ev5, g5, hcg5, hps, hpf, hsh5, hin5, hdp5, hfu5⟩ := hcut.it
      have hdn : zs.drop zs.length = [] := List.drop_of_length_le (Nat.le_refl _)
      rw [hdn] at hps hpf
      have hps : Xr.parS g0 f.at_ 0 zs s3 = s5 := hps
      have hpf : Xr.parF 0 zs g0 = g5 := hpf
      rw [hps, hpf] at ht4
      have bb := ((unhide HC) V5 hcg5.ca.b).2.1
      have HF5 := hide ((unhide HFE) q xq (unhide HXQ) V5 s5 ev5 bg gg gb g5 hcg5.jg hsh5 (by rw [hdp5]; exact hgd) ((hin5 0 ((unhide HI30).le (by omega))).le (by omega)))
      rw [ht4] at HF5
      have HCG5 := hide hcg5
      have HE5 := hide (And.intro hin5 (And.intro hdp5 hfu5))
      clear hcut hcg5 hps hpf hsh5 hin5 hdp5 hfu5 hdn ht4
      go_wp2_with fail
      refine (unhide HF5).mono ?_
      rintro r V6 ⟨rfl, ev6, hJ6, hk6, hsh6, hin6, hdp6, hfu6⟩
      have hcg6 := (unhide HCG5).act hJ6 hk6
      have HCG6 := hide hcg6
      have HI6 := hide (fun k (hk : Xr.Inv1 s k) => show Xr.Inv t4.1 (k + 2) from hin6 (k + 2) (((unhide HE5).1 (k + 2) ((unhide HI3) k hk)).le (by omega)))
      have HFU6 := hide (show t4.1.fuel ≤ s.fuel by have h1 := (unhide HE5).2.2; have h2 := unhide HF3; omega)
      have HV6 := hide (fun (V : World) (hJ : Xr.J w0 V br ⟨some ⟨bq, oq, none⟩, fl, fc⟩ t4.1 ev6 bg gg gb t4.2) => (unhide HRX) V ev6 t4.1 bg gg gb t4.2 hJ hsh6 ((hin6 0 (((unhide HE5).1 0 ((unhide HI30).le (by omega))).le (by omega))).rm.le (by omega)))
      have d0 : V6.cell? ⟨br, 0, none⟩ = some (.slice (some ⟨bq, oq, none⟩) fl fc) := hcg6.ca.j.m.c0
      have b2' := ((unhide HC) V6 hcg6.ca.b).2.1
      have lq := (unhide HLQ) V6 hcg6.ca.j.m.bel
      have HKM := hide (show (fun V : World => V.cell? ⟨br, 0, none⟩ = some (.slice (some ⟨bq, oq, none⟩) fl fc) ∧ V.cell? ⟨W.heap.size, 2, none⟩ = some (.int .i64 (q : Nat)) ∧ V.cell? ⟨bq, oq + q * 6 + 3, none⟩ = some (.int .i64 fq.res.k) ∧ V.cell? ⟨bq, oq + q * 6 + 4, none⟩ = some (.int .i64 fq.res.n) ∧ V.cell? ⟨bq, oq + q * 6 + 5, none⟩ = some (.slice fq.res.args.ad fq.res.args.len fq.res.args.cap)) V6.drew from ⟨d0, b2', lq.c3, lq.c4, lq.c5⟩)
      clear hJ6 hk6 hsh6 hin6 hdp6 hfu6 hcg6 d0 b2' lq bb
      generalize hzA : Xr.valV t4.1 t4.2 xq.res = zA at *
      generalize hsA : Xr.valS t4.1 t4.2 xq.res = sA at *
      have HIA := hide (fun k (hk : Xr.Inv1 s k) => show Xr.Inv sA (k + 2) from hsA ▸ ((unhide HI6) k hk).val t4.2 xq.res)
      have HFA := hide (show sA.fuel ≤ s.fuel by rw [← hsA, Xr.fuel_val]; exact unhide HFU6)
      clear hzA hsA
      go_upto_region 18 with fail
      go_cut [12] (fun t V => t = .int .i64 zA ∧ ∃ ev7, Xr.Cg w0 W W1 br ⟨some ⟨bq, oq, none⟩, fl, fc⟩ bf gv vb f ev V sA ev7 (.slice a0 zs.length c0) zs bg gg gb t4.2)
      case first =>
       go_region_held3 (fun V => V.cell? ⟨br, 0, none⟩ = some (.slice (some ⟨bq, oq, none⟩) fl fc) ∧ V.cell? ⟨W.heap.size, 2, none⟩ = some (.int .i64 (q : Nat)) ∧ V.cell? ⟨bq, oq + q * 6 + 3, none⟩ = some (.int .i64 fq.res.k) ∧ V.cell? ⟨bq, oq + q * 6 + 4, none⟩ = some (.int .i64 fq.res.n) ∧ V.cell? ⟨bq, oq + q * 6 + 5, none⟩ = some (.slice fq.res.args.ad fq.res.args.len fq.res.args.cap))
        (first | assumption | exact unhide HKM | exact ⟨(unhide HG7).ca.j.m.c0, ((unhide HC) _ (unhide HG7).ca.b).2.1, ((unhide HLQ) _ (unhide HG7).ca.j.m.bel).c3, ((unhide HLQ) _ (unhide HG7).ca.j.m.bel).c4, ((unhide HLQ) _ (unhide HG7).ca.j.m.bel).c5⟩)
        (first | (go_at_call 131; refine ((unhide HV6) _ ?_).mono ?_; exact ((unhide HCG6).below ((Below.refl _ _).drew)).jg; rintro r w7 ⟨rfl, ev7, hm7, hk7⟩; have HG7 := hide (((unhide HCG6).below ((Below.refl _ _).drew)).tell hm7 hk7); clear hm7 hk7))
       all_goals
        go_wp2_with fail
        go_meet
        case rel => exact ⟨rfl, _, unhide HG7⟩
      case rest =>
       rename World => V7
       obtain ⟨rfl, ev7, hcg7⟩ := hcut
       have HCG7 := hide hcg7
       have n0 := hcg7.jg.fm.c0
       have n2 := hcg7.ca.j.fm.c2
       have HT6 := hide (fun (V : World) (hJ : Xr.J w0 V br ⟨some ⟨bq, oq, none⟩, fl, fc⟩ sA ev7 bf gv vb f) => show Calls Tryz.prog 107 #[.pointer (some ⟨br, 0, none⟩), .agg #[.int .i64 6, .int .i64 (t4.2.num : Nat), .int .i64 f.at_, .int .i64 0, .int .i64 0, .int .i64 zA]] V fun r W' => r = .returned (.tuple #[]) ∧ ∃ ev'', Xr.M w0 W' br ⟨some ⟨bq, oq, none⟩, fl, fc⟩ (Xr.tell sA ⟨6, t4.2.num, f.at_, 0, 0, zA⟩) ev'' ∧ Xr.Kp br ev7 ev'' [] V W' from tell_any br _ _ ev7 ⟨6, t4.2.num, f.at_, 0, 0, zA⟩ V hJ.m (((unhide HIA) 0 (unhide HINV)).rm.le (by omega)))
       have HI8 := hide (fun k (hk : Xr.Inv1 s k) => show Xr.Inv (Xr.tell sA ⟨6, t4.2.num, f.at_, 0, 0, zA⟩) (k + 1) from Xr.Inv.tell (k := k + 1) ((unhide HIA) k hk) _)
       have HF8 := hide (show (Xr.tell sA ⟨6, t4.2.num, f.at_, 0, 0, zA⟩).fuel ≤ s.fuel by rw [Xr.fuel_tell]; exact unhide HFA)
       generalize Xr.tell sA ⟨6, t4.2.num, f.at_, 0, 0, zA⟩ = s8 at *
       clear hcg7
       go_upto_region 19 with fail
       go_cut [] (fun V => ∃ ev8, Xr.Cg w0 W W1 br ⟨some ⟨bq, oq, none⟩, fl, fc⟩ bf gv vb f ev V s8 ev8 (.slice a0 zs.length c0) zs bg gg gb t4.2)
       case first =>
        have HKM := hide (show (fun V : World => V.cell? ⟨bg, 0, none⟩ = some (.int .i64 (t4.2.num : Nat)) ∧ V.cell? ⟨bf, 2, none⟩ = some (.int .i64 f.at_)) V7.drew from ⟨n0, n2⟩)
        clear n0 n2
        go_region_held3 (fun V => V.cell? ⟨bg, 0, none⟩ = some (.int .i64 (t4.2.num : Nat)) ∧ V.cell? ⟨bf, 2, none⟩ = some (.int .i64 f.at_))
         (first | assumption | exact unhide HKM | exact ⟨(unhide HG8).jg.fm.c0, (unhide HG8).ca.j.fm.c2⟩)
         (first | (go_at_call 107; refine ((unhide HT6) _ ?_).mono ?_; exact ((unhide HCG7).below ((Below.refl _ _).drew)).ca.j; rintro r w8 ⟨rfl, ev8, hm8, hk8⟩; have HG8 := hide (((unhide HCG7).below ((Below.refl _ _).drew)).tell hm8 hk8); clear hm8 hk8))
        all_goals
         go_wp2_with fail
         go_meet
         case rel => exact ⟨_, unhide HG8⟩
       case rest =>
        rename World => V8
        obtain ⟨ev8, hcg8⟩ := hcut
        clear n0 n2
        have n2 := hcg8.ca.j.fm.c2
        have n1 := ((unhide HC) V8 hcg8.ca.b).1
        have HCA8 := hide hcg8.ca
        have HW8 := hide (fun (V : World) (hJ : Xr.J w0 V br ⟨some ⟨bq, oq, none⟩, fl, fc⟩ s8 ev8 bf gv vb f) => show Calls Tryz.prog 130 #[.pointer (some ⟨br, 0, none⟩), .pointer (some ⟨bf, 0, none⟩), .int .i64 f.at_, .int .i64 (v : Nat), .int .i64 0, .int .i64 zA] V fun r W' => r = .returned (.tuple #[]) ∧ ∃ ev', Xr.J w0 W' br ⟨some ⟨bq, oq, none⟩, fl, fc⟩ (Xr.wrS s8 f f.at_ (v : Nat) 0 zA) ev' bf gv vb (Xr.wrF f (v : Nat) 0 zA) ∧ Xr.Kp br ev8 ev' (Xr.ws bf vb) V W' from write_any f.at_ v 0 lv zA V hJ (((unhide HI8) 0 (unhide HINV)).rm.le (by omega)) (unhide HV2).1 (unhide HV2).2)
        have hnw : W.heap.size ∉ Xr.ws bf vb := fun e => by
         have h1 := (unhide HCA8).asf
         exact absurd (unhide HNW9) (fun h => h (Xr.ws_own e))
        clear hcg8
        go_upto_region 20 with fail
        have HKM := hide (show (fun V : World => V.cell? ⟨bf, 2, none⟩ = some (.int .i64 f.at_) ∧ V.cell? ⟨W.heap.size, 1, none⟩ = some (.int .i64 (v : Nat))) V8.drew from ⟨n2, n1⟩)
        clear n2 n1
        go_region_held3 (fun V => V.cell? ⟨bf, 2, none⟩ = some (.int .i64 f.at_) ∧ V.cell? ⟨W.heap.size, 1, none⟩ = some (.int .i64 (v : Nat)))
         (first | assumption | exact unhide HKM | exact ⟨(unhide HJ9).fm.c2, ((unhide HC) _ (unhide HB9)).1⟩)
         (first | (go_at_call 130; refine ((unhide HW8) _ ?_).mono ?_; exact ((unhide HCA8).below ((Below.refl _ _).drew)).j; rintro r w9 ⟨rfl, ev9, hJ9, hk9⟩; have HJ9 := hide hJ9; have HK9 := hide hk9; have HB9 := hide ((hk9.safe (q := W.heap.size) ⟨(unhide HCA8).sf.lt, (unhide HCA8).sf.br, (unhide HCA8).sf.ev⟩ hnw).2.trans (unhide HCA8).b); clear hJ9 hk9))
        all_goals
         go_wp2_with fail
         go_end0
         have HTF := (unhide HTB)
         rw [HTF]
         exact ⟨rfl, _, unhide HJ9, ((unhide HCA8).k.trans (Xr.Kp.below ((Below.refl _ _).drew))).trans (unhide HK9), (unhide HSH).upd _ _ _, fun k hk => Xr.Inv.wr ((unhide HI8) k hk) _ _ _ _ _, rfl, by show (Xr.tell _ _).fuel ≤ _; rw [Xr.fuel_tell]; exact unhide HF8⟩
end
end Go.Proofs.YtpfogjplnodacaaGreat
