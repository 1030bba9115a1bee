/-
  Ask of the document's Reader, ParseAsk, and the walk of QueryParses. By the verifier.
-/
import Derived.Test.YtfhlnelgnnkeoaaGreatDoorQU6
import Derived.Test.YtfhlnelgnnkeoaaGreatDoorQU7
import Derived.Test.YtfhlnelgnnkeoaaGreatDoorRefScan
import Derived.Test.YtfhlnelgnnkeoaaGreatDoorQBegun
namespace Go.Proofs.YtfhlnelgnnkeoaaGreatDoor
open Go.RowKit
set_option linter.unusedVariables false

set_option maxRecDepth 100000 in
set_option maxHeartbeats 1600000 in
theorem Ask_last (l : List Qp.T) (ta : Option Addr) (c bp i : Nat) (e : Int) (w : World) (hp : Qp.Rd w bp ta l.length c (i : Nat) e false) (hr : Qp.RT w ta l) (hne : ∀ b o, ta = some ⟨b, o, none⟩ → b ≠ bp) (hf : l.length ≤ 10000) (hi : i ≤ l.length) (hin : Qp.inW [⟨#[40]⟩] (Qp.tk l i).t = true) :
    Calls Tryz.prog 34 #[.pointer (some ⟨bp, 0, none⟩), .int .i64 60] w (Qp.AskP bp ta l c e w (Except.error i : Except Nat (Qk.AT 1 × Nat))) := by
  have HR := hide (fun (W : World) (hb : Qk.But1 bp w.heap.size w W) => hr.but hne hb)
  have HT := hide (fun (W : World) (h1 : Qp.Rd W bp ta l.length c (i : Nat) e false) (h2 : Qp.RT W ta l) => Text_any l ta c bp i e false W h1 h2 hf (by omega))
  have hop := Qp.rt_in hin
  rw [Qp.toList_40] at hop
  have HP := hide hp
  have hblt := hp.lt
  clear hp hr hin
  go_enter Tryz.func34, Tryz.ntmps34
  go_wp2_with fail
  have hLA : Qp.Lp w ((w.alloc (Obj.cells #[.int .i64 0, .int .i64 0, .slice none 0 0] 24)).alloc (Obj.cells #[.int .i64 0, .int .i64 0, .slice none 0 0] 24)) ((w.alloc (Obj.cells #[.int .i64 0, .int .i64 0, .slice none 0 0] 24)).alloc (Obj.cells #[.int .i64 0, .int .i64 0, .slice none 0 0] 24)) bp ta l.length c i e false 0 :=
    have hb := ((Below.refl w.heap.size w).alloc (Nat.le_refl _) (Obj.cells #[.int .i64 0, .int .i64 0, .slice none 0 0] 24)).alloc (by simp) (Obj.cells #[.int .i64 0, .int .i64 0, .slice none 0 0] 24)
    ⟨⟨by go_simp, by go_simp, by go_simp⟩, ⟨⟨.int .i64 0, by go_simp⟩, ⟨.int .i64 0, by go_simp⟩, ⟨.slice none 0 0, by go_simp⟩, fun i => by go_simp⟩, ⟨⟨.int .i64 0, by go_simp⟩, ⟨.int .i64 0, by go_simp⟩, ⟨.slice none 0 0, by go_simp⟩, fun i => by go_simp⟩, (unhide HP).below hb, (Qk.But1.refl bp w.heap.size w).below hb, Qp.Ab.refl _ _⟩
  have hsA : ((w.alloc (Obj.cells #[.int .i64 0, .int .i64 0, .slice none 0 0] 24)).alloc (Obj.cells #[.int .i64 0, .int .i64 0, .slice none 0 0] 24)).heap.size = w.heap.size + 2 := by simp
  have HLA := hide hLA
  clear hLA
  generalize ((w.alloc (Obj.cells #[.int .i64 0, .int .i64 0, .slice none 0 0] 24)).alloc (Obj.cells #[.int .i64 0, .int .i64 0, .slice none 0 0] 24)) = WA at *
  refine ((unhide HT) _ (unhide HLA).r ((unhide HR) _ (unhide HLA).b)).mono ?_
  rintro r wr ⟨rfl, hb0⟩
  have HL := hide ((unhide HLA).below hb0)
  clear hb0
  obtain ⟨u0, u1, u2⟩ := (unhide HL).q
  obtain ⟨r0, r1, r2, r3, rf1, rf3⟩ := (unhide HL).r
  obtain ⟨v0, m0⟩ := (unhide HL).z.c0
  obtain ⟨v1, m1⟩ := (unhide HL).z.c1
  obtain ⟨v2, m2⟩ := (unhide HL).z.c2
  have z0 := (unhide HL).z.f 0
  have z1 := (unhide HL).z.f 1
  have z2 := (unhide HL).z.f 2
  have hz := (unhide HL).lt
  have hneq : bp ≠ w.heap.size := by omega
  have hneq2 : bp ≠ w.heap.size + 1 := by omega
  have HSR := hide (Qp.ret3 ((unhide HL).z.kept (show (wr.setCell ⟨bp, 3, none⟩ (.bool true)).heap[w.heap.size]? = wr.heap[w.heap.size]? from Below.heap_setCell _ _ _ _ (show w.heap.size ≠ bp by omega))) (.int .i64 0) (.int .i64 0) (.slice none 0 0))
  go_wp2_with fail
  obtain ⟨⟨s0, s1, s2⟩, hsS, hbS, haS, hkS⟩ := unhide HSR
  refine bodyPost_ret (v := .agg #[.int .i64 0, .int .i64 0, .slice none 0 0]) (by simp [results, Tryz.results34, go_sem, s0, s1, s2]) rfl ?_
  exact ⟨⟨0, 0, ⟨none, 0, 0⟩⟩, i, true, rfl, (unhide HL).r.fail.kept (hkS bp (by omega)), ((unhide HL).b.set (o := 3) _).below hbS, hi, rfl, rfl⟩

theorem Ask_any (l : List Qp.T) (ta : Option Addr) (c bp : Nat) (e : Int) (hne : ∀ b o, ta = some ⟨b, o, none⟩ → b ≠ bp) (hf : l.length ≤ 10000) (hg : Qp.Good l) : ∀ (d : Nat), d < 61 → ∀ (i : Nat) (f : Bool) (w : World), Qp.Rd w bp ta l.length c (i : Nat) e f → Qp.RT w ta l → i ≤ l.length →
    Calls Tryz.prog 34 #[.pointer (some ⟨bp, 0, none⟩), .int .i64 ((60 - d : Nat) : Int)] w (Qp.AskP bp ta l c e w (Qp.orec (Qp.q l (d + 1)) i f)) := by
  intro d
  induction d with
  | zero =>
    intro _ i f w hp hr hi
    cases f
    · show Calls _ _ _ _ (Qp.AskP bp ta l c e w (Qp.q l 1 i))
      unfold Qp.q
      cases hin : Qp.inW [⟨#[40]⟩] (Qp.tk l i).t
      · exact by
          show Calls _ _ _ _ (Qp.AskP bp ta l c e w (Qp.wordF l (Qp.q l 0) i))
          cases hfd : Qp.find Qp.ones (Qp.tk l i).t with
          | none => exact Ask_none l ta c bp i 60 _ e w hp hr hne hf hg hi (by omega) hin (Qp.q l 0) (fun _ _ => rfl) (fun h => absurd h (by decide)) hfd
          | some k =>
            have hm := (Qp.find_some hfd).2
            simp only [Qp.ones, List.mem_cons, List.not_mem_nil, or_false] at hm
            rcases hm with rfl | rfl | rfl | rfl | rfl | rfl | rfl | rfl | rfl | rfl | rfl
            · exact Ask_k1 l ta c bp i 60 _ e w hp hr hne hf hg hi (by omega) hin (Qp.q l 0) (fun _ _ => rfl) (fun h => absurd h (by decide)) hfd
            · exact Ask_k2 l ta c bp i 60 _ e w hp hr hne hf hg hi (by omega) hin (Qp.q l 0) (fun _ _ => rfl) (fun h => absurd h (by decide)) hfd
            · exact Ask_k3 l ta c bp i 60 _ e w hp hr hne hf hg hi (by omega) hin (Qp.q l 0) (fun _ _ => rfl) (fun h => absurd h (by decide)) hfd
            · exact Ask_k4 l ta c bp i 60 _ e w hp hr hne hf hg hi (by omega) hin (Qp.q l 0) (fun _ _ => rfl) (fun h => absurd h (by decide)) hfd
            · exact Ask_k5 l ta c bp i 60 _ e w hp hr hne hf hg hi (by omega) hin (Qp.q l 0) (fun _ _ => rfl) (fun h => absurd h (by decide)) hfd
            · exact Ask_k6 l ta c bp i 60 _ e w hp hr hne hf hg hi (by omega) hin (Qp.q l 0) (fun _ _ => rfl) (fun h => absurd h (by decide)) hfd
            · exact Ask_k7 l ta c bp i 60 _ e w hp hr hne hf hg hi (by omega) hin (Qp.q l 0) (fun _ _ => rfl) (fun h => absurd h (by decide)) hfd
            · exact Ask_k10 l ta c bp i 60 _ e w hp hr hne hf hg hi (by omega) hin (Qp.q l 0) (fun _ _ => rfl) (fun h => absurd h (by decide)) hfd
            · exact Ask_k11 l ta c bp i 60 _ e w hp hr hne hf hg hi (by omega) hin (Qp.q l 0) (fun _ _ => rfl) (fun h => absurd h (by decide)) hfd
            · exact Ask_k12 l ta c bp i 60 _ e w hp hr hne hf hg hi (by omega) hin (Qp.q l 0) (fun _ _ => rfl) (fun h => absurd h (by decide)) hfd
            · exact Ask_k14 l ta c bp i 60 _ e w hp hr hne hf hg hi (by omega) hin (Qp.q l 0) (fun _ _ => rfl) (fun h => absurd h (by decide)) hfd
      · exact Ask_last l ta c bp i e w hp hr hne hf hi hin
    · exact (Ask_failed l ta c bp i _ e w hp hr hne hf (by omega)).mono fun r w' ⟨⟨E, h1⟩, h2, h3⟩ => ⟨E, i, true, h1, h2, h3, hi, rfl, rfl⟩
  | succ d ih =>
    intro hd i f w hp hr hi
    cases f
    · show Calls _ _ _ _ (Qp.AskP bp ta l c e w (Qp.q l (d + 1 + 1) i))
      obtain ⟨a, ha⟩ : ∃ a, 60 - (d + 1) = a := ⟨_, rfl⟩
      rw [ha]
      have HQ : ∀ (k : Nat) (f : Bool) (W : World), Qp.Rd W bp ta l.length c (k : Nat) e f → Qp.RT W ta l → k ≤ l.length → Calls Tryz.prog 34 #[.pointer (some ⟨bp, 0, none⟩), .int .i64 ((a : Int) + 1)] W (Qp.AskP bp ta l c e W (Qp.orec (Qp.q l (d + 1)) k f)) := fun k f W h1 h2 h3 => by
        have := ih (by omega) k f W h1 h2 h3
        have e1 : ((60 - d : Nat) : Int) = (a : Int) + 1 := by omega
        rw [e1] at this
        exact this
      unfold Qp.q
      cases hin : Qp.inW [⟨#[40]⟩] (Qp.tk l i).t
      · exact by
          show Calls _ _ _ _ (Qp.AskP bp ta l c e w (Qp.wordF l (Qp.q l (d + 1)) i))
          cases hfd : Qp.find Qp.ones (Qp.tk l i).t with
          | none => exact Ask_none l ta c bp i a _ e w hp hr hne hf hg hi (by omega) hin (Qp.q l (d + 1)) (fun h => absurd h (by omega)) (fun _ => HQ) hfd
          | some k =>
            have hm := (Qp.find_some hfd).2
            simp only [Qp.ones, List.mem_cons, List.not_mem_nil, or_false] at hm
            rcases hm with rfl | rfl | rfl | rfl | rfl | rfl | rfl | rfl | rfl | rfl | rfl
            · exact Ask_k1 l ta c bp i a _ e w hp hr hne hf hg hi (by omega) hin (Qp.q l (d + 1)) (fun h => absurd h (by omega)) (fun _ => HQ) hfd
            · exact Ask_k2 l ta c bp i a _ e w hp hr hne hf hg hi (by omega) hin (Qp.q l (d + 1)) (fun h => absurd h (by omega)) (fun _ => HQ) hfd
            · exact Ask_k3 l ta c bp i a _ e w hp hr hne hf hg hi (by omega) hin (Qp.q l (d + 1)) (fun h => absurd h (by omega)) (fun _ => HQ) hfd
            · exact Ask_k4 l ta c bp i a _ e w hp hr hne hf hg hi (by omega) hin (Qp.q l (d + 1)) (fun h => absurd h (by omega)) (fun _ => HQ) hfd
            · exact Ask_k5 l ta c bp i a _ e w hp hr hne hf hg hi (by omega) hin (Qp.q l (d + 1)) (fun h => absurd h (by omega)) (fun _ => HQ) hfd
            · exact Ask_k6 l ta c bp i a _ e w hp hr hne hf hg hi (by omega) hin (Qp.q l (d + 1)) (fun h => absurd h (by omega)) (fun _ => HQ) hfd
            · exact Ask_k7 l ta c bp i a _ e w hp hr hne hf hg hi (by omega) hin (Qp.q l (d + 1)) (fun h => absurd h (by omega)) (fun _ => HQ) hfd
            · exact Ask_k10 l ta c bp i a _ e w hp hr hne hf hg hi (by omega) hin (Qp.q l (d + 1)) (fun h => absurd h (by omega)) (fun _ => HQ) hfd
            · exact Ask_k11 l ta c bp i a _ e w hp hr hne hf hg hi (by omega) hin (Qp.q l (d + 1)) (fun h => absurd h (by omega)) (fun _ => HQ) hfd
            · exact Ask_k12 l ta c bp i a _ e w hp hr hne hf hg hi (by omega) hin (Qp.q l (d + 1)) (fun h => absurd h (by omega)) (fun _ => HQ) hfd
            · exact Ask_k14 l ta c bp i a _ e w hp hr hne hf hg hi (by omega) hin (Qp.q l (d + 1)) (fun h => absurd h (by omega)) (fun _ => HQ) hfd
      · simp only [if_true, Nat.add_eq_zero_iff, Nat.one_ne_zero, and_false, if_false]
        exact Ask_open l ta c bp i a (d + 1) e w hp hr hne hf hi (by omega) hin (Qp.q l (d + 1)) HQ
    · exact (Ask_failed l ta c bp i _ e w hp hr hne hf (by omega)).mono fun r w' ⟨⟨E, h1⟩, h2, h3⟩ => ⟨E, i, true, h1, h2, h3, hi, rfl, rfl⟩

set_option maxRecDepth 100000 in
set_option maxHeartbeats 1600000 in
theorem ParseAsk_bad (s : ByteArray) (w : World) (hs : s.size ≤ maxLen) (h0 : (Tk.scanR s).2.2 ≠ 0) :
    Calls Tryz.prog 14 #[.string s] w fun r w' => r = .returned (.tuple #[.agg #[.int .i64 0, .int .i64 0, .slice none 0 0], .int .i64 ((Tk.scanR s).2.1 : Int), .int .i64 ((Tk.scanR s).2.2 : Int)]) ∧ Below w.heap.size w w' := by
  have HS := hide (fun (W : World) => show Calls Tryz.prog 33 #[.string s] W fun r w' => (∃ ad n cap, r = .returned (.tuple #[.slice ad n cap, .int .i64 ((Tk.scanR s).2.1 : Int), .int .i64 ((Tk.scanR s).2.2 : Int)])) ∧ Below W.heap.size W w' by
    refine (ScanOf_any s W hs).mono ?_
    rintro r w' ⟨v, rfl, ho, hb⟩
    obtain ⟨ad, cap, rfl⟩ := Qp.own_slice ho
    exact ⟨⟨ad, _, cap, rfl⟩, hb⟩)
  generalize (Tk.scanR s).2.1 = A at *
  generalize (Tk.scanR s).2.2 = Y at *
  have hy : ((Y : Int) != 0) = true := by simp; omega
  clear h0
  go_enter Tryz.func14, Tryz.ntmps14
  go_wp2_with fail
  have hbA := (Below.refl w.heap.size w).alloc (Nat.le_refl _) (Obj.cells #[.int .i64 0, .int .i64 0, .slice none 0 0] 24)
  have hzA : Qp.Z3 (w.alloc (Obj.cells #[.int .i64 0, .int .i64 0, .slice none 0 0] 24)) w.heap.size := ⟨⟨.int .i64 0, by go_simp⟩, ⟨.int .i64 0, by go_simp⟩, ⟨.slice none 0 0, by go_simp⟩, fun i => by go_simp⟩
  have HBA := hide hbA
  have HZA := hide hzA
  clear hbA hzA
  generalize (w.alloc (Obj.cells #[.int .i64 0, .int .i64 0, .slice none 0 0] 24)) = WA at *
  refine ((unhide HS) _).mono ?_
  rintro r w1 ⟨⟨ad, n, cap, rfl⟩, hb1⟩
  have HZ1 := hide ((unhide HZA).later hb1)
  have HB1 := hide ((unhide HBA).trans (hb1.mono (unhide HBA).size))
  clear hb1
  have HSR := hide (Qp.ret3 (unhide HZ1) (.int .i64 0) (.int .i64 0) (.slice none 0 0))
  obtain ⟨v0, m0⟩ := (unhide HZ1).c0
  obtain ⟨v1, m1⟩ := (unhide HZ1).c1
  obtain ⟨v2, m2⟩ := (unhide HZ1).c2
  have z0 := (unhide HZ1).f 0
  have z1 := (unhide HZ1).f 1
  have z2 := (unhide HZ1).f 2
  have hltw := (unhide HZ1).lt
  go_wp2_with fail
  obtain ⟨⟨s0, s1, s2⟩, hsS, hbS, haS, hkS⟩ := unhide HSR
  refine bodyPost_ret (v := .tuple #[.agg #[.int .i64 0, .int .i64 0, .slice none 0 0], .int .i64 (A : Int), .int .i64 (Y : Int)]) (by simp [results, Tryz.results14, go_sem, s0, s1, s2]) rfl ?_
  exact ⟨rfl, (unhide HB1).trans hbS⟩

set_option maxRecDepth 100000 in
set_option maxHeartbeats 3200000 in
theorem ParseAsk_good (s : ByteArray) (w : World) (hs : s.size ≤ maxLen) (h0 : (Tk.scanR s).2.2 = 0) (o : Except (Int × Nat) (Qk.AT 61)) (ho : Qp.out s = o) :
    Calls Tryz.prog 14 #[.string s] w (Qp.OutS w o) := by
  have hm : s.size ≤ 6000 := Qp.scan_6000 s h0
  have hO : o = (match Qp.prs (Qp.toks s (Tk.scanR s).1) with
    | .error j => .error (Qp.pl (Qp.toks s (Tk.scanR s).1) (s.size : Int) j, 1)
    | .ok x => if Qk.chk 61 x = 0 then .ok x else .error (0, Qk.chk 61 x)) := by
    rw [← ho]
    unfold Qp.out
    rw [if_pos h0]
    try rfl
  have HS := hide (fun (W : World) => show Calls Tryz.prog 33 #[.string s] W fun r w' => (∃ ad cap, r = .returned (.tuple #[.slice ad (Qp.toks s (Tk.scanR s).1).length cap, .int .i64 ((Tk.scanR s).2.1 : Int), .int .i64 0]) ∧ Qp.RT w' ad (Qp.toks s (Tk.scanR s).1) ∧ ∀ b o, ad = some ⟨b, o, none⟩ → b < w'.heap.size) ∧ Below W.heap.size W w' by
    refine (ScanOf_any s W hs).mono ?_
    rintro r w' ⟨v, rfl, ho, hb⟩
    obtain ⟨ad, cap, rfl⟩ := Qp.own_slice ho
    refine ⟨⟨ad, cap, ?_, Qp.rt_own ho, Qp.own_lt ho⟩, hb⟩
    rw [h0, show (Qp.toks s (Tk.scanR s).1).length = (Tk.scanR s).1.length by unfold Qp.toks; rw [List.length_map]]
    rfl)
  have hlen : (Qp.toks s (Tk.scanR s).1).length ≤ 10000 := by have := Qp.toks_len s h0; omega
  have HG := hide (Qp.good s h0)
  have HC := hide (fun (W : World) (E : Qk.E) (x : Qk.AT 61) (h : Qk.RA W 61 E x) => show Calls Tryz.prog 9 #[.agg #[.int .i64 E.k, .int .i64 E.n, .slice E.args.ad E.args.len E.args.cap]] W fun r w' => r = .returned (.int .i64 ((Qk.chk 61 x : Nat) : Int)) ∧ Below W.heap.size W w' from CheckAsk_any 61 E x W h)
  have HO := hide hO
  clear hO ho h0
  generalize Qp.toks s (Tk.scanR s).1 = L at *
  generalize (Tk.scanR s).2.1 = A at *
  go_enter Tryz.func14, Tryz.ntmps14
  go_wp2_with fail
  have hbA := (Below.refl w.heap.size w).alloc (Nat.le_refl _) (Obj.cells #[.int .i64 0, .int .i64 0, .slice none 0 0] 24)
  have hzA : Qp.Z3 (w.alloc (Obj.cells #[.int .i64 0, .int .i64 0, .slice none 0 0] 24)) w.heap.size := ⟨⟨.int .i64 0, by go_simp⟩, ⟨.int .i64 0, by go_simp⟩, ⟨.slice none 0 0, by go_simp⟩, fun i => by go_simp⟩
  have HBA := hide hbA
  have HZA := hide hzA
  clear hbA hzA
  generalize (w.alloc (Obj.cells #[.int .i64 0, .int .i64 0, .slice none 0 0] 24)) = WA at *
  refine ((unhide HS) _).mono ?_
  rintro r w1 ⟨⟨ad, cap, rfl, hrt, hlt⟩, hb1⟩
  have HZ1 := hide ((unhide HZA).later hb1)
  have HB1 := hide ((unhide HBA).trans (hb1.mono (unhide HBA).size))
  have HRT := hide (And.intro hrt (show ∀ b o, ad = some ⟨b, o, none⟩ → b ≠ w1.heap.size from fun b o h => by have := hlt b o h; omega))
  have hz1 := (unhide HZ1).lt
  clear hb1 hrt hlt
  go_wp2_with fail
  have hb2 := (Below.refl w1.heap.size w1).alloc (Nat.le_refl _) (Obj.cells #[.slice ad L.length cap, .int .i64 0, .int .i64 (s.size : Int), .bool false] 57)
  have HRD2 := hide (show Qp.Rd (w1.alloc (Obj.cells #[.slice ad L.length cap, .int .i64 0, .int .i64 (s.size : Int), .bool false] 57)) w1.heap.size ad L.length cap ((0 : Nat) : Int) (s.size : Int) false from ⟨by go_simp, by go_simp, by go_simp, by go_simp, by go_simp, by go_simp⟩)
  have hs2 : (w1.alloc (Obj.cells #[.slice ad L.length cap, .int .i64 0, .int .i64 (s.size : Int), .bool false] 57)).heap.size = w1.heap.size + 1 := by simp
  have HZ2 := hide ((unhide HZ1).later hb2)
  have HB2 := hide ((unhide HB1).trans (hb2.mono (unhide HB1).size))
  have HRT2 := hide ((unhide HRT).1.below hb2)
  clear hb2
  generalize (w1.alloc (Obj.cells #[.slice ad L.length cap, .int .i64 0, .int .i64 (s.size : Int), .bool false] 57)) = W2 at *
  refine (show Calls Tryz.prog 34 #[.pointer (some ⟨w1.heap.size, 0, none⟩), .int .i64 0] W2 (Qp.AskP w1.heap.size ad L cap (s.size : Int) W2 (Qp.q L 61 0)) from Ask_any L ad cap w1.heap.size (s.size : Int) (unhide HRT).2 hlen (unhide HG) 60 (by decide) 0 false W2 (unhide HRD2) (unhide HRT2) (Nat.zero_le _)).mono ?_
  rintro r w3 ⟨E, j, g, rfl, hrd3, hb3, hj, hst⟩
  have HZ3 := hide ((unhide HZ2).but hb3 (by omega))
  have HRD3 := hide hrd3
  have HRT3 := hide ((unhide HRT2).but (unhide HRT).2 hb3)
  have HB3 := hide (show Below w.heap.size w w3 from ⟨hb3.os.trans (unhide HB2).os, hb3.tape.trans (unhide HB2).tape, hb3.output.trans (unhide HB2).output, Nat.le_trans (unhide HB2).size hb3.size, fun q h => (hb3.block q (by omega) (by omega)).trans ((unhide HB2).block q h)⟩)
  have HST := hide hst
  have hs3 := hb3.size
  clear hrd3 hb3 hst
  have hbC := (Below.refl w3.heap.size w3).alloc (Nat.le_refl _) (Obj.cells #[.int .i64 E.k, .int .i64 E.n, .slice E.args.ad E.args.len E.args.cap] 24)
  have hsC : (w3.alloc (Obj.cells #[.int .i64 E.k, .int .i64 E.n, .slice E.args.ad E.args.len E.args.cap] 24)).heap.size = w3.heap.size + 1 := by simp
  have HLC := hide (Qp.lies_new w3 E)
  have HZC := hide ((unhide HZ3).later hbC)
  have HRDC := hide ((unhide HRD3).below hbC)
  have HRTC := hide ((unhide HRT3).below hbC)
  have HBC := hide ((unhide HB3).trans (hbC.mono (unhide HB3).size))
  have HAC := hide (Qp.Ab.of_below (B := W2.heap.size) hbC)
  clear hbC
  obtain ⟨r0, r1, r2, r3, rf1, rf3⟩ := unhide HRD3
  have hlt3 := (unhide HRD3).lt
  by_cases hbad : g = true ∨ j < L.length
  · have HOB := hide (show o = .error (Qp.pl L (s.size : Int) j, 1) by
      rw [unhide HO]
      have hst := unhide HST
      have : Qp.prs L = .error j := by
        unfold Qp.prs
        cases hd : Qp.q L 61 0 with
        | error j' => rw [hd] at hst; rw [hst.2]
        | ok p =>
          obtain ⟨x, j'⟩ := p
          rw [hd] at hst
          obtain ⟨hg, hj', _⟩ := hst
          rcases hbad with hb | hb
          · rw [hg] at hb; cases hb
          · show (if j' < L.length then _ else _) = _
            rw [← hj', if_pos hb]
      rw [this])
    have HHE := hide (fun (W : World) (h1 : Qp.Rd W w1.heap.size ad L.length cap (j : Nat) (s.size : Int) g) (h2 : Qp.RT W ad L) => Here_any L ad cap w1.heap.size j (s.size : Int) g W h1 h2 hlen)
    have hcase : g = true ∨ (g = false ∧ (j : Int) < (L.length : Int)) := by
      rcases hbad with hb | hb
      · exact Or.inl hb
      · cases g
        · exact Or.inr ⟨rfl, by omega⟩
        · exact Or.inl rfl
    clear hbad
    rcases hcase with rfl | ⟨rfl, hjl⟩
    all_goals
      go_wp2_with fail
      clear r0 r1 r2 r3 rf1 rf3
      generalize (w3.alloc (Obj.cells #[.int .i64 E.k, .int .i64 E.n, .slice E.args.ad E.args.len E.args.cap] 24)) = WC at *
      refine ((unhide HHE) _ (unhide HRDC) (unhide HRTC)).mono ?_
      rintro r w4 ⟨rfl, hb4⟩
      have HZ4 := hide ((unhide HZC).later hb4)
      have HB4 := hide ((unhide HBC).trans (hb4.mono (unhide HBC).size))
      clear hb4
      have HSR := hide (Qp.ret3 (unhide HZ4) (.int .i64 0) (.int .i64 0) (.slice none 0 0))
      obtain rfl : o = .error (Qp.pl L (s.size : Int) j, 1) := unhide HOB
      obtain ⟨v0, m0⟩ := (unhide HZ4).c0
      obtain ⟨v1, m1⟩ := (unhide HZ4).c1
      obtain ⟨v2, m2⟩ := (unhide HZ4).c2
      have z0 := (unhide HZ4).f 0
      have z1 := (unhide HZ4).f 1
      have z2 := (unhide HZ4).f 2
      have hltw := (unhide HZ4).lt
      go_wp2_with fail
      obtain ⟨⟨s0, s1, s2⟩, hsS, hbS, haS, hkS⟩ := unhide HSR
      refine bodyPost_ret (v := .tuple #[.agg #[.int .i64 0, .int .i64 0, .slice none 0 0], .int .i64 (Qp.pl L (s.size : Int) j), .int .i64 1]) (by simp [results, Tryz.results14, go_sem, s0, s1, s2]) rfl ?_
      exact ⟨rfl, (unhide HB4).trans hbS⟩
  · have hg : g = false := by cases g; rfl; exact absurd (Or.inl rfl) hbad
    have hjl : ¬ j < L.length := fun h => hbad (Or.inr h)
    subst hg
    obtain ⟨x, hx, hro⟩ : ∃ x, Qp.prs L = .ok x ∧ Qp.RO W2.heap.size w3 61 E x := by
      have hst := unhide HST
      unfold Qp.prs
      cases hd : Qp.q L 61 0 with
      | error j' => rw [hd] at hst; exact absurd hst.1 (by decide)
      | ok p =>
        obtain ⟨x, j'⟩ := p
        rw [hd] at hst
        obtain ⟨_, hj', hro⟩ := hst
        refine ⟨x, ?_, hro⟩
        show (if j' < L.length then _ else _) = _
        rw [← hj', if_neg hjl]
    have HO2 := hide (show o = if Qk.chk 61 x = 0 then .ok x else .error (0, Qk.chk 61 x) by rw [unhide HO, hx])
    have HROC := hide (hro.ab (unhide HAC))
    have hjl2 : ¬ (j : Int) < (L.length : Int) := by omega
    clear hro hx hbad hjl HO
    go_wp2_with fail
    clear r0 r1 r2 r3 rf1 rf3
    generalize (w3.alloc (Obj.cells #[.int .i64 E.k, .int .i64 E.n, .slice E.args.ad E.args.len E.args.cap] 24)) = WC at *
    refine ((unhide HC) WC E x (unhide HROC).ra).mono ?_
    rintro r w4 ⟨rfl, hb4⟩
    have HL4 := hide ((unhide HLC).bel hb4)
    have HZ4 := hide ((unhide HZC).later hb4)
    have HB4 := hide ((unhide HBC).trans (hb4.mono (unhide HBC).size))
    have HRO4 := hide ((unhide HROC).ab (Qp.Ab.of_below hb4))
    have hs4 := hb4.size
    clear hb4
    obtain ⟨y0, y1, y2⟩ := unhide HL4
    obtain ⟨v0, m0⟩ := (unhide HZ4).c0
    obtain ⟨v1, m1⟩ := (unhide HZ4).c1
    obtain ⟨v2, m2⟩ := (unhide HZ4).c2
    have z0 := (unhide HZ4).f 0
    have z1 := (unhide HZ4).f 1
    have z2 := (unhide HZ4).f 2
    have hltw := (unhide HZ4).lt
    by_cases hc : Qk.chk 61 x = 0
    · have HSR := hide (Qp.ret3 (unhide HZ4) (.int .i64 E.k) (.int .i64 E.n) (.slice E.args.ad E.args.len E.args.cap))
      obtain rfl : o = .ok x := by rw [unhide HO2, if_pos hc]
      rw [hc]
      go_wp2_with fail
      obtain ⟨⟨s0, s1, s2⟩, hsS, hbS, haS, hkS⟩ := unhide HSR
      refine bodyPost_ret (v := .tuple #[.agg #[.int .i64 E.k, .int .i64 E.n, .slice E.args.ad E.args.len E.args.cap], .int .i64 0, .int .i64 0]) (by simp [results, Tryz.results14, go_sem, s0, s1, s2]) rfl ?_
      exact ⟨⟨E, rfl, ((unhide HRO4).ab (haS _ (by omega))).ra⟩, (unhide HB4).trans hbS⟩
    · have HSR := hide (Qp.ret3 (unhide HZ4) (.int .i64 0) (.int .i64 0) (.slice none 0 0))
      obtain rfl : o = .error (0, Qk.chk 61 x) := by rw [unhide HO2, if_neg hc]
      generalize Qk.chk 61 x = C at *
      have hc1 : ((C : Int) != 0) = true := by simp; omega
      clear hc
      go_wp2_with fail
      obtain ⟨⟨s0, s1, s2⟩, hsS, hbS, haS, hkS⟩ := unhide HSR
      refine bodyPost_ret (v := .tuple #[.agg #[.int .i64 0, .int .i64 0, .slice none 0 0], .int .i64 0, .int .i64 (C : Int)]) (by simp [results, Tryz.results14, go_sem, s0, s1, s2]) rfl ?_
      exact ⟨rfl, (unhide HB4).trans hbS⟩

theorem ParseAsk_any (s : ByteArray) (w : World) (hs : s.size ≤ maxLen) :
    Calls Tryz.prog 14 #[.string s] w (Qp.OutS w (Qp.out s)) := by
  by_cases h0 : (Tk.scanR s).2.2 = 0
  · exact ParseAsk_good s w hs h0 _ rfl
  · have e : Qp.out s = .error (((Tk.scanR s).2.1 : Int), (Tk.scanR s).2.2) := by unfold Qp.out; rw [if_neg h0]
    rw [e]
    exact ParseAsk_bad s w hs h0
end Go.Proofs.YtfhlnelgnnkeoaaGreatDoor
