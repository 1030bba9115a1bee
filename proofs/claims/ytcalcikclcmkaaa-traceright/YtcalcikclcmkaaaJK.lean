/-
  XRtP, XRt, XRo. By the verifier.
-/
import Derived.Test.YtcalcikclcmkaaaXGo
import Derived.Test.YtcalcikclcmkaaaJJ
import Derived.Test.YtcalcikclcmkaaaJA
set_option maxRecDepth 100000
set_option maxHeartbeats 3200000
namespace Go.Proofs.Ytcalcikclcmkaaa
open Go.RowKit
set_option linter.unusedVariables false
theorem Xr.cl_came (inp0 : List Int) : Xr.Cl (fun s => (s.ended = false → s.inp = inp0.drop (Xr.rds s.evs)) ∧ ∀ (i : Nat) (e : Ev), (Xr.that 3 s.evs)[i]? = some e → e.n5 = (inp0[i]?).getD 0) := by
 have ht : ∀ (s : Xr.S) (e : Ev), e.n0 ≠ 3 → ((s.ended = false → s.inp = inp0.drop (Xr.rds s.evs)) ∧ ∀ (i : Nat) (e : Ev), (Xr.that 3 s.evs)[i]? = some e → e.n5 = (inp0[i]?).getD 0) → (((Xr.tell s e).ended = false → (Xr.tell s e).inp = inp0.drop (Xr.rds (Xr.tell s e).evs)) ∧ ∀ (i : Nat) (d : Ev), (Xr.that 3 (Xr.tell s e).evs)[i]? = some d → d.n5 = (inp0[i]?).getD 0) := fun s e he hu => by
  cases hs : s.ended with
  | true => rw [Xr.tell_yes hs]; exact hu
  | false =>
   rw [Xr.tell_no hs]
   have h3 : Xr.that 3 (s.evs ++ [e]) = Xr.that 3 s.evs := by rw [Xr.that_snoc, if_neg (by simpa using he)]
   show (s.ended = false → s.inp = inp0.drop (Xr.that 3 (s.evs ++ [e])).length) ∧ ∀ (i : Nat) (d : Ev), (Xr.that 3 (s.evs ++ [e]))[i]? = some d → d.n5 = (inp0[i]?).getD 0
   rw [h3]
   exact hu
 have hf : ∀ (s : Xr.S) (f : Xr.F) (a how : Int), ((s.ended = false → s.inp = inp0.drop (Xr.rds s.evs)) ∧ ∀ (i : Nat) (e : Ev), (Xr.that 3 s.evs)[i]? = some e → e.n5 = (inp0[i]?).getD 0) → (((Xr.fin s f a how).ended = false → (Xr.fin s f a how).inp = inp0.drop (Xr.rds (Xr.fin s f a how).evs)) ∧ ∀ (i : Nat) (d : Ev), (Xr.that 3 (Xr.fin s f a how).evs)[i]? = some d → d.n5 = (inp0[i]?).getD 0) := fun s f a how hu =>
  ⟨fun h => (by cases h), (ht s _ (by show (7 : Int) ≠ 3; omega) hu).2⟩
 refine ⟨fun s e he hu => ht s e (by rcases he with h | h | h <;> omega) hu, hf, fun s f a hu => ?_, fun s f hu => ?_, fun s f q hu => ht _ _ (by show (5 : Int) ≠ 3; omega) hu⟩
 · unfold Xr.stepS
   by_cases hs : s.fuel = 0
   · simp only [if_pos hs]
     exact hf s f a 1 hu
   · simp only [if_neg hs]
     exact ht { s with fuel := s.fuel - 1 } ⟨1, f.num, a, 0, 0, 0⟩ (by show (1 : Int) ≠ 3; omega) hu
 · unfold Xr.rdS
   cases hs : s.ended with
   | true => rw [Xr.tell_yes (show (Xr.inS s).ended = true from hs)]; exact ⟨fun h => (by rw [show (Xr.inS s).ended = s.ended from rfl, hs] at h; cases h), hu.2⟩
   | false =>
    have hi := hu.1 hs
    rw [Xr.tell_no (show (Xr.inS s).ended = false from hs)]
    have h3 : Xr.that 3 (s.evs ++ [⟨3, f.num, f.at_, 0, 0, Xr.inZ s⟩]) = Xr.that 3 s.evs ++ [⟨3, f.num, f.at_, 0, 0, Xr.inZ s⟩] := by rw [Xr.that_snoc, if_pos (by simp)]
    show (s.ended = false → s.inp.tail = inp0.drop (Xr.that 3 (s.evs ++ [_])).length) ∧ ∀ (i : Nat) (d : Ev), (Xr.that 3 (s.evs ++ [_]))[i]? = some d → d.n5 = (inp0[i]?).getD 0
    rw [h3]
    refine ⟨fun _ => by rw [hi, List.tail_drop, List.length_append]; rfl, fun i d hd => ?_⟩
    by_cases hlt : i < (Xr.that 3 s.evs).length
    · rw [List.getElem?_append_left hlt] at hd
      exact hu.2 i d hd
    · rw [List.getElem?_append_right (by omega)] at hd
      have hie : i = (Xr.that 3 s.evs).length := by
       have := (List.getElem?_eq_some_iff.1 hd).1
       simp at this
       omega
      rw [hie, Nat.sub_self] at hd
      have hd2 : (⟨3, f.num, f.at_, 0, 0, Xr.inZ s⟩ : Ev) = d := by simpa using hd
      rw [← hd2, hie]
      show s.inp.headD 0 = _
      rw [hi]
      show (inp0.drop (Xr.that 3 s.evs).length).headD 0 = _
      by_cases hl : (Xr.that 3 s.evs).length < inp0.length
      · rw [List.drop_eq_getElem_cons hl, List.getElem?_eq_getElem hl]; rfl
      · rw [List.drop_eq_nil_of_le (by omega), List.getElem?_eq_none (by omega)]; rfl
def Xr.okIn (l : List Ev) : Prop := ∀ (i : Nat) (e : Ev), (Xr.that 3 l)[i]? = some e → Pg.beyond e.n5 = false ∧ (50 ≤ i → e.n5 = 0)
section
variable {m n : Nat} {p : List (Pg.FT m n)}
theorem Xr.in_len (l : List Ev) : (Xr.inOf l).length ≤ 50 := by
 unfold Xr.inOf
 rw [List.length_map, List.length_take]
 omega
theorem Xr.in_fit {l : List Ev} (h : Xr.okIn l) : (Xr.inOf l).any Pg.beyond = false := by
 rw [Bool.eq_false_iff]
 intro ha
 obtain ⟨z, hz, hb⟩ := List.any_eq_true.1 ha
 unfold Xr.inOf at hz
 obtain ⟨e, he, rfl⟩ := List.mem_map.1 hz
 obtain ⟨i, hi⟩ := List.getElem?_of_mem (List.mem_of_mem_take he)
 rw [(h i e hi).1] at hb
 cases hb
theorem Xr.right_of {l : List Ev} (h0 : Xr.chkL p l = 0) (ha : Xr.Ok p (Xr.inOf l) ((Xr.stp l : Nat) : Int)) (hm : l <+: Xr.main p (Xr.inOf l) (Xr.stp l)) : Xr.right p l = true := by
 unfold Xr.right
 have ho : Xr.out p (Xr.inOf l) (((Xr.that 1 l).length : Nat) : Int) = Xr.main p (Xr.inOf l) (Xr.stp l) := ha.out
 have hk : Xr.chkR p (Xr.inOf l) (((Xr.that 1 l).length : Nat) : Int) = 0 := ha.chkR
 rw [ho, hk, h0]
 have h1 := hm.length_le
 have h2 : Xr.sameL l ((Xr.main p (Xr.inOf l) (Xr.stp l)).take l.length) = true := (Xr.sameL_iff _ _).2 (List.prefix_iff_eq_take.1 hm)
 simp [h1, h2]
theorem Xr.chk_of {l : List Ev} (h : Xr.chkL p l = 0) : Pg.chkP p = 0 ∧ l.length ≤ 4000 := by
 unfold Xr.chkL at h
 split at h
 · rename_i h1
   split at h
   · cases h
   · exact ⟨h1, by omega⟩
 · rename_i h1
   exact absurd h h1
theorem Xr.right_iff {l : List Ev} (h0 : Xr.chkL p l = 0) : Xr.right p l = true ↔ Xr.okIn l ∧ (l <+: Xr.main p (Xr.inOf l) 500 ∨ (Xr.stp l ≤ 500 ∧ l <+: Xr.main p (Xr.inOf l) (Xr.stp l))) := by
 obtain ⟨hc, hl⟩ := Xr.chk_of h0
 obtain ⟨x, hx⟩ := Xr.last_of hc
 constructor
 · intro hr
   unfold Xr.right at hr
   simp only [Bool.and_eq_true, decide_eq_true_eq] at hr
   obtain ⟨⟨⟨_, h1⟩, h2⟩, h3⟩ := hr
   have ha := Xr.Ok.of h1
   rw [ha.out] at h3
   have h4 := List.prefix_iff_eq_take.2 ((Xr.sameL_iff _ _).1 h3)
   rw [show ((((Xr.that 1 l).length : Nat) : Int)).toNat = Xr.stp l from rfl] at h4
   have hs : Xr.stp l ≤ 500 := by have := ha.hi; show (Xr.that 1 l).length ≤ 500; omega
   refine ⟨fun i e hi => ?_, .inr ⟨hs, h4⟩⟩
   obtain ⟨s, hs1, _, hs3⟩ := (Xr.cl_came (Xr.inOf l)).all hx (Xr.inOf l) (Xr.stp l) ⟨fun _ => rfl, fun i e hi => by simp [Xr.that] at hi⟩
   rw [← hs3] at h4
   obtain ⟨t, ht⟩ := Xr.that_pre 3 h4
   have hlt := (List.getElem?_eq_some_iff.1 hi).1
   have he := hs1.2 i e (by rw [← ht, List.getElem?_append_left hlt]; exact hi)
   by_cases h50 : i < (Xr.inOf l).length
   · rw [List.getElem?_eq_getElem h50] at he
     have hb : Pg.beyond e.n5 = false := by
      cases hbe : Pg.beyond e.n5 with
      | false => rfl
      | true =>
       have hm : e.n5 ∈ Xr.inOf l := by rw [he]; exact List.getElem_mem h50
       have h5 := List.any_eq_true.2 ⟨_, hm, hbe⟩
       rw [ha.fit] at h5
       cases h5
     exact ⟨hb, fun h => by have := Xr.in_len l; omega⟩
   · rw [List.getElem?_eq_none (by omega)] at he
     have he0 : e.n5 = 0 := he
     rw [he0]
     exact ⟨by decide, fun _ => rfl⟩
 · rintro ⟨hi, h | ⟨h1, h2⟩⟩
   · have ho : Xr.Ok p (Xr.inOf l) 500 := ⟨hc, Xr.in_len l, Xr.in_fit hi, by omega, by omega⟩
     have hp : l <+: Xr.out p (Xr.inOf l) 500 := by rw [ho.out]; exact h
     exact Xr.right_of h0 (ho.again hp) (Xr.main_pre hx (Xr.in_len l) h)
   · exact Xr.right_of h0 ⟨hc, Xr.in_len l, Xr.in_fit hi, by omega, by omega⟩ h2
end
end Go.Proofs.Ytcalcikclcmkaaa
namespace Go.Proofs.Ytcalcikclcmkaaa
open Go.RowKit
set_option linter.unusedVariables false
theorem SameEvents_any (l1 l2 : List Ev) (ad bd : Option Addr) (cap dap : Nat) (w : World) (hr : Cl.RE w ad l1) (hr2 : Cl.RE w bd l2) (hl : l1.length ≤ 4000) (hl2 : l2.length ≤ 4000) :
  Calls Try.prog 19 #[.slice ad l1.length cap, .slice bd l2.length dap] w fun e w' => e = .returned (.bool (Xr.sameL l1 l2)) ∧ Below w.heap.size w w' := by
 obtain ⟨R, hR⟩ : ∃ R, R = Xr.sameL l1 l2 := ⟨_, rfl⟩
 rw [← hR]
 have HR := hide hr
 have HR2 := hide hr2
 by_cases hll : l1.length = l2.length
 · have HN1 := hide (Eq.refl l1.length)
   obtain ⟨nl, hnl⟩ : ∃ nl, nl = l1.length := ⟨_, rfl⟩
   rw [← hll, ← hnl]
   have HL1 := hide hnl
   have HL2 := hide (hnl.trans hll)
   have hn4 : nl ≤ 4000 := by omega
   have HRR := hide hR
   have gll : ((nl : Int) != (nl : Int)) = false := by simp
   clear hr hr2 hll hnl hl hl2 hR HN1
   go_enter Try.func19, Try.ntmps19
   go_wp2_with fail
   go_loopw [5] (fun v wr => ∃ k : Nat, k ≤ nl ∧ v = .int .i64 (k : Nat) ∧ Hid (R = Xr.sameL (l1.drop k) (l2.drop k)) ∧ Below w.heap.size w wr) (fun v _ => nl - (intOf v).toNat)
   case atStart => exact ⟨0, by omega, rfl, by show _ = _; rw [List.drop_zero, List.drop_zero]; exact unhide HRR, Below.refl _ _⟩
   case round =>
    obtain ⟨k, hk, rfl, hrel2, hbe⟩ := hrel
    have HRK := hide (unhide hrel2)
    have HBE := hide hbe
    clear hbe hrel2
    by_cases hlt : k < nl
    · obtain ⟨x, hx⟩ : ∃ x, l1[k]? = some x := ⟨_, List.getElem?_eq_getElem (by have := unhide HL1; omega)⟩
      obtain ⟨y, hy⟩ : ∃ y, l2[k]? = some y := ⟨_, List.getElem?_eq_getElem (by have := unhide HL2; omega)⟩
      obtain ⟨b, o, had, hb, c0, c1, c2, c3, c4, c5⟩ := ((unhide HR).later (unhide HBE) (Nat.le_refl _)).at_ k x hx
      obtain ⟨b', o', hbd, hb', d0, d1, d2, d3, d4, d5⟩ := ((unhide HR2).later (unhide HBE) (Nat.le_refl _)).at_ k y hy
      have HDR := hide (Xr.sameL_drop hx hy)
      subst had
      subst hbd
      clear hx hy
      have hk1 : (0 : Int) ≤ (k : Int) := by omega
      have hk2 : (k : Int) < (nl : Int) := by omega
      cases hsame : Ev.same x y
      · have HN := hide (show R = false by rw [unhide HRK, unhide HDR, hsame]; rfl)
        have heq : ∀ V : World, (Op.equalIn 10000 50 (.agg #[.int .i64 x.n0, .int .i64 x.n1, .int .i64 x.n2, .int .i64 x.n3, .int .i64 x.n4, .int .i64 x.n5]) (.agg #[.int .i64 y.n0, .int .i64 y.n1, .int .i64 y.n2, .int .i64 y.n3, .int .i64 y.n4, .int .i64 y.n5])).run Try.prog V = .ok false V := fun V => by rw [Xr.eq6, hsame]
        clear hsame
        go_wp2_with fail
        go_quiet (fail)
        go_wp2_with fail
        go_ret
        exact ⟨ret_bool (by rw [unhide HN]), below_drewN (unhide HBE) _⟩
      · have HN := hide (show R = Xr.sameL (l1.drop (k + 1)) (l2.drop (k + 1)) by rw [unhide HRK, unhide HDR, hsame]; rfl)
        have hxy := (Ev.same_iff x y).1 hsame
        subst hxy
        clear hsame
        go_wp2_with fail
        go_quiet (fail)
        go_wp2_with fail
        exact ⟨⟨k + 1, by omega, by go_num, by show _ = _; exact unhide HN, below_drewN (unhide HBE) _⟩, by simp [intOf]; omega⟩
    · have HN := hide (show R = true by rw [unhide HRK, List.drop_of_length_le (by have := unhide HL1; omega), List.drop_of_length_le (by have := unhide HL2; omega)]; rfl)
      have hk2 : ¬ (k : Int) < (nl : Int) := by omega
      go_wp2_with fail
      go_ret
      exact ⟨ret_bool (by rw [unhide HN]), unhide HBE⟩
 · have HN := hide (show R = false by rw [hR]; exact Xr.sameL_len hll)
   have gll : ((l1.length : Int) != (l2.length : Int)) = true := by simp; omega
   clear hr hr2 hll hR
   generalize l1.length = n1 at *
   generalize l2.length = n2 at *
   go_enter Try.func19, Try.ntmps19
   go_wp2_with fail
   go_ret
   exact ⟨ret_bool (by rw [unhide HN]), Below.refl _ _⟩
def Xr.begins (l m : List Ev) : Bool := decide (l.length ≤ m.length) && Xr.sameL l (m.take l.length)
theorem Xr.begins_iff (l m : List Ev) : Xr.begins l m = true ↔ l <+: m := by
 unfold Xr.begins
 rw [Bool.and_eq_true, decide_eq_true_eq, Xr.sameL_iff]
 constructor
 · exact fun h => List.prefix_iff_eq_take.2 h.2
 · exact fun h => ⟨h.length_le, List.prefix_iff_eq_take.1 h⟩
theorem Begins_any (l m : List Ev) (ad bd : Option Addr) (cap dap : Nat) (w : World) (hr : Cl.RE w ad l) (hr2 : Cl.RE w bd m) (hl : l.length ≤ 4000) (hm : m.length ≤ dap) :
  Calls Try.prog 50 #[.slice ad l.length cap, .slice bd m.length dap] w fun e w' => e = .returned (.bool (Xr.begins l m)) ∧ Below w.heap.size w w' := by
 by_cases hlm : l.length ≤ m.length
 · have HS := hide (show Calls Try.prog 19 #[.slice ad l.length cap, .slice bd l.length dap] w fun e w' => e = .returned (.bool (Xr.begins l m)) ∧ Below w.heap.size w w' from by
    have h := SameEvents_any l (m.take l.length) ad bd cap dap w hr (hr2.takeN _) hl (by rw [List.length_take]; omega)
    rw [List.length_take, Nat.min_eq_left hlm] at h
    unfold Xr.begins
    rw [decide_eq_true hlm, Bool.true_and]
    exact h)
   generalize Xr.begins l m = B at *
   generalize l.length = nl at *
   generalize m.length = nm at *
   have h1 : (nl : Int) ≤ (nm : Int) := by omega
   have h2 : (nl : Int) ≤ (dap : Int) := by omega
   have h3 : (0 : Int) ≤ (nl : Int) := by omega
   clear hr hr2 hlm
   go_enter Try.func50, Try.ntmps50
   go_wp2_with fail
   refine (unhide HS).mono ?_
   rintro r w1 ⟨rfl, hb1⟩
   have HB := hide hb1
   clear hb1
   go_wp2_with fail
   go_ret
   exact ⟨rfl, unhide HB⟩
 · have HB := hide (show Xr.begins l m = false by unfold Xr.begins; rw [decide_eq_false hlm]; rfl)
   generalize Xr.begins l m = B at *
   generalize l.length = nl at *
   generalize m.length = nm at *
   have h1 : ¬ (nl : Int) ≤ (nm : Int) := by omega
   clear hr hr2 hlm
   go_enter Try.func50, Try.ntmps50
   go_wp2_with fail
   go_ret
   exact ⟨ret_bool (by rw [unhide HB]), Below.refl _ _⟩
end Go.Proofs.Ytcalcikclcmkaaa
namespace Go.Proofs.Ytcalcikclcmkaaa
open Go.RowKit
set_option linter.unusedVariables false
def Xr.rdN (l : List Ev) : List Int := (Xr.that 3 l).map (fun e => e.n5)
theorem Xr.inOf_rd (l : List Ev) : Xr.inOf l = (Xr.rdN l).take 50 := by unfold Xr.inOf Xr.rdN; rw [List.map_take]
def Xr.badAt (i : Nat) (z : Int) : Bool := Pg.beyond z || (decide (50 ≤ i) && (z != 0))
theorem Xr.okIn_iff (l : List Ev) : Xr.okIn l ↔ ∀ (i : Nat) (z : Int), (Xr.rdN l)[i]? = some z → Xr.badAt i z = false := by
 unfold Xr.okIn Xr.rdN Xr.badAt
 constructor
 · intro h i z hz
   rw [List.getElem?_map] at hz
   cases he : (Xr.that 3 l)[i]? with
   | none => rw [he] at hz; cases hz
   | some e =>
    rw [he] at hz
    have hz2 : e.n5 = z := by simpa using hz
    obtain ⟨h1, h2⟩ := h i e he
    rw [← hz2, h1, Bool.false_or]
    by_cases h5 : 50 ≤ i
    · rw [h2 h5, decide_eq_true h5]; rfl
    · rw [decide_eq_false h5]; rfl
 · intro h i e he
   have h1 := h i e.n5 (by rw [List.getElem?_map, he]; rfl)
   rw [Bool.or_eq_false_iff] at h1
   refine ⟨h1.1, fun h5 => ?_⟩
   have h2 := h1.2
   rw [decide_eq_true h5, Bool.true_and] at h2
   simpa using h2
theorem RightOf_any {m n : Nat} (fs : Pg.Sl) (p : List (Pg.FT m n)) (l : List Ev) (ad : Option Addr) (cap : Nat) (w : World) (hp : Pg.RP w m n fs p) (h0 : Xr.chkL p l = 0) (hr : Cl.RE w ad l) :
  Calls Try.prog 18 #[.agg #[.slice fs.ad fs.len fs.cap], .slice ad l.length cap] w fun r w' => r = .returned (.bool (Xr.right p l)) ∧ Below w.heap.size w w' := by
 obtain ⟨hc, hl⟩ := Xr.chk_of h0
 obtain ⟨hpp, hp0⟩ := Xr.PP.of hp hc
 obtain ⟨i3, hi3, hz3, hz3', hz3''⟩ := info_of Try.infoI3
 have HI := hide hi3
 have HZ0 := hide hz3
 have HZ1 := hide hz3'
 have HZ2 := hide hz3''
 have HR := hide hr
 have HIF := hide (Xr.right_iff h0)
 have HTR := hide (fun (V : World) (hV : Below w.heap.size w V) (ts : Pg.Sl) (inp : List Int) (fuel : Nat) (hf : fuel ≤ 500) (hin : Pg.RN V ts inp) => TraceOf_any fs p ts inp fuel hf V (Xr.PP.of (Pg.RP.later hp hV (Nat.le_refl _)) hc).1 hp0 hin)
 have HBG := hide (fun (V : World) (hV : Below w.heap.size w V) (M : List Ev) (bd : Option Addr) (dap : Nat) (hM : Cl.RE V bd M) (h1 : M.length ≤ dap) => Begins_any l M ad bd cap dap V (hr.later hV (Nat.le_refl _)) hM hl h1)
 have hb0 := (Below.refl w.heap.size w).alloc (Nat.le_refl _) (Obj.cells #[.slice fs.ad fs.len fs.cap] 36)
 have q0 : (w.alloc (Obj.cells #[.slice fs.ad fs.len fs.cap] 36)).cell? ⟨w.heap.size, 0, none⟩ = some (.slice fs.ad fs.len fs.cap) := by go_simp
 have HB0 := hide hb0
 obtain ⟨R, hR⟩ : ∃ R, R = Xr.right p l := ⟨_, rfl⟩
 rw [← hR] at HIF ⊢
 obtain ⟨nl, hnl⟩ : ∃ nl, nl = l.length := ⟨_, rfl⟩
 rw [← hnl] at hl HBG ⊢
 have HNL := hide hnl
 clear hi3 hz3 hz3' hz3'' hp hr hpp hb0 hR hnl hc h0 hp0
 go_enter Try.func18, Try.ntmps18
 go_wp2_with fail
 generalize w.alloc (Obj.cells #[.slice fs.ad fs.len fs.cap] 36) = W0 at *
 have hlt0 := World.block_lt_of_cell? _ _ q0
 go_loopw [5, 6, 7] (fun mv sv iv wr => ∃ (i k c st : Nat) (a : Option Addr), i ≤ nl ∧ iv = .int .i64 i ∧ sv = .int .i64 st ∧ st ≤ i ∧ mv = .slice a k c ∧ k ≤ i ∧ Hid (k = (Xr.rdN (l.take i)).length ∧ st = Xr.stp (l.take i)) ∧ wr.ownsRow W0.heap.size 3 1 (.slice a k c) k ((Xr.rdN (l.take i)).map (Value.int .i64)) ∧ Below W0.heap.size W0 wr) (fun _ _ iv _ => nl - (intOf iv).toNat)
 case atStart => exact ⟨0, 0, 0, 0, none, Nat.zero_le _, rfl, rfl, Nat.le_refl _, rfl, Nat.le_refl _, ⟨rfl, rfl⟩, ⟨rfl, .inl ⟨rfl, rfl⟩⟩, Below.refl _ _⟩
 case round =>
  obtain ⟨i, k, c, st, a, hi, rfl, rfl, hst, rfl, hki, hkk, how, hbe⟩ := hrel
  have HK := hide (unhide hkk)
  clear hkk
  by_cases hlt : i < nl
  · have hlt2 : i < l.length := by have := unhide HNL; omega
    have hy := List.getElem?_eq_getElem hlt2
    have hbw := (unhide HB0).trans (hbe.mono (unhide HB0).size)
    obtain ⟨b, o, had, hb, p0, p1, p2, p3, p4, p5⟩ := ((unhide HR).later hbw (Nat.le_refl _)).at_ i _ hy
    have HS1 := hide (Xr.that_step (k := 1) hy)
    have HS3 := hide (Xr.that_step (k := 3) hy)
    generalize l[i] = e at *
    have had' : ad = some ⟨b, o, none⟩ := had
    subst had'
    have hi0' : (0 : Int) ≤ (i : Int) := by omega
    have hi1' : (i : Int) < (nl : Int) := by omega
    have HOW := hide how
    have HBE := hide hbe
    have hbz := hbe.size
    clear hy hbw had hlt2 how hbe
    by_cases hk1 : e.n0 = 1
    · have bk : (e.n0 == 1) = true := by simp [hk1]
      have bk3 : (e.n0 == 3) = false := by simp [hk1]
      have HN := hide (show Xr.stp (l.take (i + 1)) = Xr.stp (l.take i) + 1 ∧ Xr.rdN (l.take (i + 1)) = Xr.rdN (l.take i) by
       unfold Xr.stp Xr.rdN
       rw [unhide HS1, unhide HS3, if_pos bk, if_neg (by rw [bk3]; decide), List.length_append]
       exact ⟨rfl, rfl⟩)
      clear hk1
      go_wp2_with fail
      refine ⟨⟨i + 1, k, c, st + 1, a, by omega, by go_num, by go_num, by omega, rfl, by omega, ?_, ?_, unhide HBE⟩, by simp [intOf]; omega⟩
      · show _ ∧ _
        rw [(unhide HN).1, (unhide HN).2]
        exact ⟨(unhide HK).1, congrArg (· + 1) (unhide HK).2⟩
      · rw [(unhide HN).2]
        exact unhide HOW
    · have bk : (e.n0 == 1) = false := by simpa using hk1
      by_cases hk3 : e.n0 = 3
      · have bk3 : (e.n0 == 3) = true := by simp [hk3]
        have HN := hide (show Xr.stp (l.take (i + 1)) = Xr.stp (l.take i) ∧ Xr.rdN (l.take (i + 1)) = Xr.rdN (l.take i) ++ [e.n5] by
         unfold Xr.stp Xr.rdN
         rw [unhide HS1, unhide HS3, if_pos bk3, if_neg (by rw [bk]; decide), List.map_append]
         exact ⟨rfl, rfl⟩)
        obtain ⟨xs, hxs⟩ : ∃ xs, xs = (Xr.rdN (l.take i)).map (Value.int .i64) := ⟨_, rfl⟩
        rw [← hxs] at HOW
        have HXS := hide hxs
        have HBK := hide (heap_alloc_new wr (Obj.cells #[.int .i64 e.n5] 3))
        have HBD := hide (show Below wr.heap.size wr (wr.alloc (Obj.cells #[.int .i64 e.n5] 3)) from (Below.refl _ _).alloc (Nat.le_refl _) _)
        have HLT := hide (show ∀ q, (Value.slice a k c).ownBlock = some q → W0.heap.size ≤ q from fun q hq => ((unhide HOW).lt q hq).1)
        clear hk1 hk3 hxs
        go_wp2_with (at_builtin; refine wpList_append_lies _ (by rfl) _ _ _ (by rfl) W0.heap.size 3 i3 _ 1 8 Try.underlying37 (unhide HI) (unhide HZ0) (unhide HZ1) (unhide HZ2) rfl (by omega) (.slice a k c) k xs (by rfl) (Pg.ow_below (unhide HOW) (unhide HBD)) ⟨wr.heap.size, 0, none⟩ 1 1 [.int .i64 e.n5] (by rfl) (by rfl) (World.news_of_block (unhide HBK)) (by simp [Value.oneCell']) (by omega) (by unfold maxLen; omega) (by omega) (by simp; omega) (wr.heap.size + 1) (by simp) ?_; intro gA cA w6 hoA hgA hatA hltA; have HOA := hide hoA; have HGA := hide hgA; clear hoA hgA hatA hltA)
        refine ⟨⟨i + 1, k + 1, cA, st, some ⟨gA, 0, none⟩, by omega, by go_num, rfl, by omega, rfl, by omega, ?_, ?_, ?_⟩, by simp [intOf]; omega⟩
        · show _ ∧ _
          rw [(unhide HN).1, (unhide HN).2, List.length_append]
          exact ⟨congrArg (· + 1) (unhide HK).1, (unhide HK).2⟩
        · rw [(unhide HN).2, List.map_append, ← unhide HXS]
          exact unhide HOA
        · exact Below.grown ((unhide HBE).trans ((unhide HBD).mono (unhide HBE).size)) (unhide HGA) (Nat.le_trans (unhide HBE).size (unhide HBD).size) (unhide HLT)
      · have bk3 : (e.n0 == 3) = false := by simpa using hk3
        have HN := hide (show Xr.stp (l.take (i + 1)) = Xr.stp (l.take i) ∧ Xr.rdN (l.take (i + 1)) = Xr.rdN (l.take i) by
         unfold Xr.stp Xr.rdN
         rw [unhide HS1, unhide HS3, if_neg (by rw [bk]; decide), if_neg (by rw [bk3]; decide)]
         exact ⟨rfl, rfl⟩)
        clear hk1 hk3
        go_wp2_with fail
        refine ⟨⟨i + 1, k, c, st, a, by omega, by go_num, rfl, by omega, rfl, by omega, ?_, ?_, unhide HBE⟩, by simp [intOf]; omega⟩
        · show _ ∧ _
          rw [(unhide HN).1, (unhide HN).2]
          exact unhide HK
        · rw [(unhide HN).2]
          exact unhide HOW
  · have hix : i = nl := by omega
    subst hix
    have htk : l.take i = l := List.take_of_length_le (by have := unhide HNL; omega)
    rw [htk] at how HK
    obtain ⟨hk, hst2⟩ := unhide HK
    have hk4 : k ≤ 4000 := by omega
    have HRN := hide (Xr.rn_own (by exact hk.symm) hk4 how)
    have HKL := hide hk
    have HSL := hide hst2
    have HBE := hide hbe
    obtain ⟨wo, hwo⟩ : ∃ wo, wo = wr := ⟨_, rfl⟩
    subst hwo
    have hnlt : ¬ (i : Int) < (i : Int) := by omega
    clear how hbe HK hk hst2 htk hlt
    go_wp2_with fail
    go_loopw [8] (fun jv wr => ∃ j : Nat, j ≤ k ∧ jv = .int .i64 j ∧ Hid (∀ (j' : Nat) (z : Int), j' < j → (Xr.rdN l)[j']? = some z → Xr.badAt j' z = false) ∧ wr = wo) (fun jv _ => k - (intOf jv).toNat)
    case atStart => exact ⟨0, Nat.zero_le _, rfl, fun j' z h => by omega, rfl⟩
    case round =>
     obtain ⟨j, hj, rfl, hok, hwr⟩ := hrel
     subst hwr
     have HOK := hide (unhide hok)
     clear hok
     by_cases hlt : j < k
     · have hlt2 : j < (Xr.rdN l).length := by have := unhide HKL; omega
       have hy := List.getElem?_eq_getElem hlt2
       obtain ⟨b, o, had, hb, pz⟩ := (unhide HRN).at_ j _ hy
       have had' : a = some ⟨b, o, none⟩ := had
       subst had'
       generalize (Xr.rdN l)[j] = z at *
       have HY := hide hy
       have hi0' : (0 : Int) ≤ (j : Int) := by omega
       have hi1' : (j : Int) < (k : Int) := by omega
       clear hy hb had hlt2
       by_cases hbz : Pg.beyond z = true
       · have HF := hide (show R = false by
          cases hR : R with
          | false => rfl
          | true =>
           have h1 := (Xr.okIn_iff l).1 ((unhide HIF).1 hR).1 j z (unhide HY)
           unfold Xr.badAt at h1
           rw [hbz] at h1
           cases h1)
         go_wp2_with fail
         refine (IsNumber_any z _).mono ?_
         rintro r w1 ⟨rfl, hw1⟩
         subst hw1
         rw [hbz]
         go_wp2_with fail
         go_ret
         exact ⟨ret_bool (by rw [unhide HF]), (unhide HB0).trans ((unhide HBE).mono (unhide HB0).size)⟩
       · have hbf : Pg.beyond z = false := by simpa using hbz
         clear hbz
         by_cases h50 : 50 ≤ j
         · have g50 : (50 : Int) ≤ (j : Int) := by omega
           by_cases hz0 : z = 0
           · have HOK2 := hide (show ∀ (j' : Nat) (z : Int), j' < j + 1 → (Xr.rdN l)[j']? = some z → Xr.badAt j' z = false from fun j' z' h1 h2 => by
              by_cases h3 : j' < j
              · exact (unhide HOK) j' z' h3 h2
              · obtain rfl : j' = j := by omega
                rw [unhide HY] at h2
                cases h2
                unfold Xr.badAt
                rw [hbf, hz0]
                simp)
             subst hz0
             go_wp2_with fail
             refine (IsNumber_any 0 _).mono ?_
             rintro r w1 ⟨rfl, hw1⟩
             subst hw1
             rw [hbf]
             go_wp2_with fail
             exact ⟨⟨j + 1, by omega, by go_num, unhide HOK2, trivial⟩, by simp [intOf]; omega⟩
           · have HF := hide (show R = false by
              cases hR : R with
              | false => rfl
              | true =>
               have h1 := (Xr.okIn_iff l).1 ((unhide HIF).1 hR).1 j z (unhide HY)
               unfold Xr.badAt at h1
               rw [hbf, decide_eq_true h50] at h1
               simp at h1
               exact absurd h1 hz0)
             have bz : (z != 0) = true := by simpa using hz0
             go_wp2_with fail
             refine (IsNumber_any z _).mono ?_
             rintro r w1 ⟨rfl, hw1⟩
             subst hw1
             rw [hbf]
             clear hz0
             go_wp2_with fail
             go_ret
             exact ⟨ret_bool (by rw [unhide HF]), (unhide HB0).trans ((unhide HBE).mono (unhide HB0).size)⟩
         · have g50 : ¬ (50 : Int) ≤ (j : Int) := by omega
           have HOK2 := hide (show ∀ (j' : Nat) (z : Int), j' < j + 1 → (Xr.rdN l)[j']? = some z → Xr.badAt j' z = false from fun j' z' h1 h2 => by
            by_cases h3 : j' < j
            · exact (unhide HOK) j' z' h3 h2
            · obtain rfl : j' = j := by omega
              rw [unhide HY] at h2
              cases h2
              unfold Xr.badAt
              rw [hbf, decide_eq_false h50]
              rfl)
           go_wp2_with fail
           refine (IsNumber_any z _).mono ?_
           rintro r w1 ⟨rfl, hw1⟩
           subst hw1
           rw [hbf]
           go_wp2_with fail
           exact ⟨⟨j + 1, by omega, by go_num, unhide HOK2, trivial⟩, by simp [intOf]; omega⟩
     · have hjk : j = k := by omega
       subst hjk
       have HIN := hide (show Xr.okIn l from (Xr.okIn_iff l).2 (fun j' z h => (unhide HOK) j' z (by have := (List.getElem?_eq_some_iff.1 h).1; have := unhide HKL; omega) h))
       have hnlt : ¬ (j : Int) < (j : Int) := by omega
       clear HOK hlt
       go_upto_region 15 with fail
       go_cut [62] (fun v V => V = wr ∧ v = .bool (decide (50 < j)))
       case first =>
        by_cases h50 : 50 < j
        · have g50 : (j : Int) > 50 := by omega
          have HD := hide (decide_eq_true h50)
          go_wp2_with fail
          go_meet
          case rel => exact ⟨rfl, by rw [unhide HD]⟩
        · have g50 : ¬ (j : Int) > 50 := by omega
          have HD := hide (decide_eq_false h50)
          go_wp2_with fail
          go_meet
          case rel => exact ⟨rfl, by rw [unhide HD]⟩
       case rest =>
       rename World => W5
       obtain ⟨hV, rfl⟩ := hcut
       obtain rfl : wr = W5 := hV.symm
       go_upto_if 62 with fail
       go_cut [5] (fun t5 V => V = wr ∧ ∃ n', t5 = .slice a n' c ∧ Hid (Pg.RN wr ⟨a, n', c⟩ (Xr.inOf l)))
       case first =>
        by_cases h50 : 50 < j
        · have hrn := unhide HRN
          have hjc : j ≤ c := hrn.cap
          have h5c : (50 : Int) ≤ (c : Int) := by omega
          have HR5 := hide (show Pg.RN wr ⟨a, 50, c⟩ (Xr.inOf l) from ⟨by rw [Xr.inOf_rd, List.length_take]; have := unhide HKL; show 50 = _; omega, by show 50 ≤ c; omega, by rw [Xr.inOf_rd, List.length_take]; omega, fun i z hz => by
           rw [Xr.inOf_rd, List.getElem?_take] at hz
           split at hz
           · exact hrn.at_ i z hz
           · cases hz⟩)
          have hd := decide_eq_true h50
          clear hrn h50
          rw [hd]
          clear hd
          go_wp2_with fail
          go_meet
          case rel => exact ⟨rfl, 50, rfl, unhide HR5⟩
        · have HR5 := hide (show Pg.RN wr ⟨a, j, c⟩ (Xr.inOf l) from by
           rw [Xr.inOf_rd, List.take_of_length_le (by have := unhide HKL; omega)]
           exact unhide HRN)
          have hd := decide_eq_false h50
          clear h50
          rw [hd]
          clear hd
          go_wp2_with fail
          go_meet
          case rel => exact ⟨rfl, j, rfl, unhide HR5⟩
       case rest =>
        rename World => W4
        obtain ⟨hV, n', rfl, hrn⟩ := hcut
        subst hV
        have HBW := hide ((unhide HB0).trans ((unhide HBE).mono (unhide HB0).size))
        have q1 := ((unhide HBE).cell (p := ⟨w.heap.size, 0, none⟩) hlt0).trans q0
        obtain ⟨M5, hM5⟩ : ∃ M5, M5 = Xr.main p (Xr.inOf l) 500 := ⟨_, rfl⟩
        obtain ⟨n5, hn5⟩ : ∃ n5, n5 = M5.length := ⟨_, rfl⟩
        obtain ⟨MS, hMS⟩ : ∃ MS, MS = Xr.main p (Xr.inOf l) (Xr.stp l) := ⟨_, rfl⟩
        obtain ⟨nS, hnS⟩ : ∃ nS, nS = MS.length := ⟨_, rfl⟩
        have HT5 := hide (show Calls Try.prog 14 #[.agg #[.slice fs.ad fs.len fs.cap], .slice a n' c, .int .i64 500] W4 (fun r w' => ∃ a c, r = .returned (.slice a n5 c) ∧ w'.ownsRow W4.heap.size 50 6 (.slice a n5 c) n5 (Xr.evC M5) ∧ Below W4.heap.size W4 w') from by
         rw [hn5, hM5]
         exact (unhide HTR) W4 (unhide HBW) ⟨a, n', c⟩ (Xr.inOf l) 500 (Nat.le_refl _) (unhide hrn))
        have HTS := hide (fun (h5 : st ≤ 500) (V : World) (hV : Below W4.heap.size W4 V) => show Calls Try.prog 14 #[.agg #[.slice fs.ad fs.len fs.cap], .slice a n' c, .int .i64 (st : Nat)] V (fun r w' => ∃ a c, r = .returned (.slice a nS c) ∧ w'.ownsRow V.heap.size 50 6 (.slice a nS c) nS (Xr.evC MS) ∧ Below V.heap.size V w') from by
         rw [hnS, hMS, ← unhide HSL]
         exact (unhide HTR) V ((unhide HBW).trans (hV.mono (unhide HBW).size)) ⟨a, n', c⟩ (Xr.inOf l) st h5 ((unhide hrn).later hV (Nat.le_refl _)))
        have HIF2 := hide (show R = true ↔ (l <+: M5 ∨ (st ≤ 500 ∧ l <+: MS)) from by
         rw [unhide HIF, hM5, hMS, unhide HSL]
         exact ⟨fun h => h.2, fun h => ⟨unhide HIN, h⟩⟩)
        have HN5 := hide hn5
        have HNS := hide hnS
        clear hM5 hn5 hMS hnS hrn HIF HTR HRN HIN
        go_wp2_with fail
        refine (unhide HT5).mono ?_
        rintro r w1 ⟨a1, c1, rfl, how1, hb1⟩
        have HB1 := hide hb1
        have HBW1 := hide ((unhide HBW).trans (hb1.mono (unhide HBW).size))
        have q2 := (hb1.cell (p := ⟨w.heap.size, 0, none⟩) (World.block_lt_of_cell? _ _ q1)).trans q1
        have hc1 := Xr.own_cap how1
        have HBE5 := hide (show Calls Try.prog 50 #[.slice ad i cap, .slice a1 n5 c1] w1 (fun e w' => e = .returned (.bool (Xr.begins l M5)) ∧ Below w1.heap.size w1 w') from by
         rw [unhide HN5]
         exact (unhide HBG) w1 (unhide HBW1) M5 a1 c1 (Xr.re_own (unhide HN5).symm how1) (by have := unhide HN5; omega))
        clear how1 hb1
        go_wp2_with fail
        refine (unhide HBE5).mono ?_
        rintro r w2 ⟨rfl, hb2⟩
        have HB2 := hide ((unhide HB1).trans (hb2.mono (unhide HB1).size))
        have HBW2 := hide ((unhide HBW1).trans (hb2.mono (unhide HBW1).size))
        have q3 := (hb2.cell (p := ⟨w.heap.size, 0, none⟩) (World.block_lt_of_cell? _ _ q2)).trans q2
        clear hb2
        cases hb5 : Xr.begins l M5
        · have HNP := hide (show ¬ l <+: M5 from fun h => by rw [(Xr.begins_iff _ _).2 h] at hb5; cases hb5)
          clear hb5
          by_cases hs5 : st ≤ 500
          · have g5 : (st : Int) ≤ 500 := by omega
            have HTS2 := hide ((unhide HTS) hs5 w2 (unhide HB2))
            have HS5 := hide hs5
            clear hs5
            go_wp2_with fail
            refine (unhide HTS2).mono ?_
            rintro r w3 ⟨a3, c3, rfl, how3, hb3⟩
            have HBW3 := hide ((unhide HBW2).trans (hb3.mono (unhide HBW2).size))
            have hc3 := Xr.own_cap how3
            have HBES := hide (show Calls Try.prog 50 #[.slice ad i cap, .slice a3 nS c3] w3 (fun e w' => e = .returned (.bool (Xr.begins l MS)) ∧ Below w3.heap.size w3 w') from by
             rw [unhide HNS]
             exact (unhide HBG) w3 (unhide HBW3) MS a3 c3 (Xr.re_own (unhide HNS).symm how3) (by have := unhide HNS; omega))
            clear how3 hb3
            go_wp2_with fail
            refine (unhide HBES).mono ?_
            rintro r w4 ⟨rfl, hb4⟩
            have HBW4 := hide ((unhide HBW3).trans (hb4.mono (unhide HBW3).size))
            clear hb4
            have HRR := hide (show R = Xr.begins l MS from by
             rw [Bool.eq_iff_iff, unhide HIF2, Xr.begins_iff]
             exact ⟨fun h => h.elim (fun h => absurd h (unhide HNP)) (fun h => h.2), fun h => .inr ⟨unhide HS5, h⟩⟩)
            generalize Xr.begins l MS = BS at *
            go_wp2_with fail
            go_ret
            exact ⟨ret_bool (by rw [unhide HRR]), unhide HBW4⟩
          · have g5 : ¬ (st : Int) ≤ 500 := by omega
            have HRR := hide (show R = false from by
             cases hR : R with
             | false => rfl
             | true => exact ((unhide HIF2).1 hR).elim (fun h => absurd h (unhide HNP)) (fun h => absurd h.1 hs5))
            clear hs5
            go_wp2_with fail
            go_ret
            exact ⟨ret_bool (by rw [unhide HRR]), unhide HBW2⟩
        · have HRR := hide (show R = true from (unhide HIF2).2 (.inl ((Xr.begins_iff _ _).1 hb5)))
          clear hb5
          go_wp2_with fail
          go_ret
          exact ⟨ret_bool (by rw [unhide HRR]), unhide HBW2⟩
end Go.Proofs.Ytcalcikclcmkaaa
