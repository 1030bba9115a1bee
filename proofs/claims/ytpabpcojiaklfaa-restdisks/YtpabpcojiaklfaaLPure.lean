/-
  What lies on a disk of the log, as a list: batches go there and come back. By the verifier.
-/
import Derived.Test.YtpabpcojiaklfaaLAppend
namespace Go.Proofs.Ytpabpcojiaklfaa
open Go.RowKit
set_option linter.unusedVariables false

theorem Cl.bts_str (l : List Nat) (h : ∀ b ∈ l, b < 256) : Cl.bts (Cl.str l) = l := Lg.str_inj (Cl.bts_byte _) h (Cl.str_bts _)
theorem Lg.sec_byte (m : List Nat) (e : Ev) (hm : ∀ b ∈ m, b < 256) : ∀ b ∈ Lg.sec m e, b < 256 := by
  rw [← Lg.secTo_six]
  exact Lg.secTo_byte m e hm 6
theorem Lg.nm_sc (m : List Nat) (e : Ev) (hm : ∀ b ∈ m, b < 256) (hml : m.length = 8) (he : e.ok = true) : Lg.nm m (Lg.sc m e) = some e := by
  have hb : Cl.bts (Lg.sc m e) = Lg.sec m e := Cl.bts_str _ (Lg.sec_byte m e hm)
  have c := fun i => Ev.ok_col he i
  have c0 := c 0
  have c1 := c 1
  have c2 := c 2
  have c3 := c 3
  have c4 := c 4
  have c5 := c 5
  simp only [Ev.col] at c0 c1 c2 c3 c4 c5
  have n0 : Lg.nth (Lg.sec m e) 0 = e.n0 := by
    unfold Lg.nth Lg.sec
    rw [show (8 + 0 * 4) = m.length by omega]
    simp only [List.append_assoc]
    rw [List.drop_left']
    · exact Lg.num_le4 _ c0.1 c0.2 _
    · rfl
  have n1 : Lg.nth (Lg.sec m e) 1 = e.n1 := by
    unfold Lg.nth Lg.sec
    rw [show (8 + 1 * 4) = (m ++ Lg.le4 e.n0).length by rw [List.length_append, hml]; rfl, List.append_assoc _ _ (Lg.le4 e.n5), List.append_assoc _ _ (Lg.le4 e.n4 ++ _), List.append_assoc _ _ (Lg.le4 e.n3 ++ _), List.append_assoc _ _ (Lg.le4 e.n2 ++ _), List.drop_left']
    · exact Lg.num_le4 _ c1.1 c1.2 _
    · rfl
  have n2 : Lg.nth (Lg.sec m e) 2 = e.n2 := by
    unfold Lg.nth Lg.sec
    rw [show (8 + 2 * 4) = (m ++ Lg.le4 e.n0 ++ Lg.le4 e.n1).length by simp only [List.length_append, hml]; rfl, List.append_assoc _ _ (Lg.le4 e.n5), List.append_assoc _ _ (Lg.le4 e.n4 ++ _), List.append_assoc _ _ (Lg.le4 e.n3 ++ _), List.drop_left']
    · exact Lg.num_le4 _ c2.1 c2.2 _
    · rfl
  have n3 : Lg.nth (Lg.sec m e) 3 = e.n3 := by
    unfold Lg.nth Lg.sec
    rw [show (8 + 3 * 4) = (m ++ Lg.le4 e.n0 ++ Lg.le4 e.n1 ++ Lg.le4 e.n2).length by simp only [List.length_append, hml]; rfl, List.append_assoc _ _ (Lg.le4 e.n5), List.append_assoc _ _ (Lg.le4 e.n4 ++ _), List.drop_left']
    · exact Lg.num_le4 _ c3.1 c3.2 _
    · rfl
  have n4 : Lg.nth (Lg.sec m e) 4 = e.n4 := by
    unfold Lg.nth Lg.sec
    rw [show (8 + 4 * 4) = (m ++ Lg.le4 e.n0 ++ Lg.le4 e.n1 ++ Lg.le4 e.n2 ++ Lg.le4 e.n3).length by simp only [List.length_append, hml]; rfl, List.append_assoc _ _ (Lg.le4 e.n5), List.drop_left']
    · exact Lg.num_le4 _ c4.1 c4.2 _
    · rfl
  have n5 : Lg.nth (Lg.sec m e) 5 = e.n5 := by
    unfold Lg.nth Lg.sec
    rw [show (8 + 5 * 4) = (m ++ Lg.le4 e.n0 ++ Lg.le4 e.n1 ++ Lg.le4 e.n2 ++ Lg.le4 e.n3 ++ Lg.le4 e.n4).length by simp only [List.length_append, hml]; rfl, List.drop_left']
    · have := Lg.num_le4 _ c5.1 c5.2 []
      rw [List.append_nil] at this
      exact this
    · rfl
  unfold Lg.nm
  rw [hb, if_pos]
  · show some (Lg.nums (Lg.sec m e)) = some e
    unfold Lg.nums
    rw [n0, n1, n2, n3, n4, n5]
  · unfold Lg.sec
    simp only [List.append_assoc]
    rw [List.take_left' hml]

theorem Lg.evOf_laid (l : List Ev) (h : l.all Ev.ok = true) : Lg.evOf (l.map (Lg.sc Lg.eventM)) = some l := by
  induction l with
  | nil => rfl
  | cons e r ih =>
    simp only [List.all_cons, Bool.and_eq_true] at h
    show (Lg.nm Lg.eventM (Lg.sc Lg.eventM e)).bind (fun e => (Lg.evOf (r.map (Lg.sc Lg.eventM))).map (e :: ·)) = _
    rw [Lg.nm_sc _ _ (by decide) rfl h.1, ih h.2]
    rfl

/-- A batch that may lie there. -/
structure Lg.Good (l : List Ev) : Prop where
  ok : l.all Ev.ok = true
  len : l.length ≤ 60

theorem Lg.batchAt_laid (l : List Ev) (h : Lg.Good l) (r : List ByteArray) : Lg.batchAt (Lg.laid l ++ r) = some l := by
  have hl := h.len
  show (match Lg.nm Lg.batchM (Lg.sc Lg.batchM ⟨l.length, 0, 0, 0, 0, 0⟩) with | none => none | some e => if e.n0 < 0 ∨ (((l.map (Lg.sc Lg.eventM) ++ r).length : Nat) : Int) < e.n0 then none else Lg.evOf ((l.map (Lg.sc Lg.eventM) ++ r).take e.n0.toNat)) = some l
  rw [Lg.nm_sc _ _ (by decide) rfl (by simp [Ev.ok, Cl.isN]; omega)]
  show (if (l.length : Int) < 0 ∨ (((l.map (Lg.sc Lg.eventM) ++ r).length : Nat) : Int) < (l.length : Int) then none else Lg.evOf ((l.map (Lg.sc Lg.eventM) ++ r).take (l.length : Int).toNat)) = some l
  rw [if_neg (by rw [List.length_append, List.length_map]; omega), show (l.length : Int).toNat = (l.map (Lg.sc Lg.eventM)).length by simp, List.take_left]
  exact Lg.evOf_laid l h.ok

/-- What lies on a disk that has batches, and what lies behind them. -/
def Lg.img (there : List (List Ev)) (free : List ByteArray) : List ByteArray := Lg.hd there.length :: (there.flatMap Lg.laid ++ free)
def Lg.used (there : List (List Ev)) : Nat := (there.flatMap Lg.laid).length + 1
theorem Lg.img_len (there : List (List Ev)) (free : List ByteArray) : (Lg.img there free).length = Lg.used there + free.length := by
  unfold Lg.img Lg.used
  simp
  omega
theorem Lg.used_snoc (there : List (List Ev)) (l : List Ev) : Lg.used (there ++ [l]) = Lg.used there + (l.length + 1) := by
  unfold Lg.used
  rw [List.flatMap_append, List.length_append]
  simp [Lg.laid_len]
  omega

theorem Lg.batches_succ (ks : List ByteArray) (k : Nat) : Lg.batches ks (k + 1) = (Lg.batches ks k).bind fun x => (Lg.batchAt x.2).map fun l => (x.1 ++ [l], x.2.drop (1 + l.length)) := rfl
theorem Lg.batches_zero (ks : List ByteArray) : Lg.batches ks 0 = some ([], ks) := rfl
theorem Lg.batches_img : ∀ (more there : List (List Ev)) (free : List ByteArray), (∀ l ∈ there, Lg.Good l) → (∀ l ∈ more, Lg.Good l) → Lg.batches (there.flatMap Lg.laid ++ (more.flatMap Lg.laid ++ free)) there.length = some (there, more.flatMap Lg.laid ++ free) := by
  intro more there
  induction h : there.length generalizing there more with
  | zero =>
    intro free _ _
    obtain rfl : there = [] := List.length_eq_zero_iff.1 h
    rw [Lg.batches_zero, List.flatMap_nil, List.nil_append]
  | succ n ih =>
    intro free ht hm
    obtain ⟨r, x, rfl⟩ : ∃ r x, there = r ++ [x] := by
      rcases List.eq_nil_or_concat there with rfl | ⟨r, x, hx⟩
      · simp at h
      · exact ⟨r, x, by rw [hx, List.concat_eq_append]⟩
    have hn : r.length = n := by simp at h; exact h
    have := ih (x :: more) r hn free (fun l hl => ht l (List.mem_append_left _ hl)) (fun l hl => by
      cases hl with
      | head => exact ht x (by simp)
      | tail _ hl => exact hm l hl)
    have e : (r ++ [x]).flatMap Lg.laid ++ (more.flatMap Lg.laid ++ free) = r.flatMap Lg.laid ++ ((x :: more).flatMap Lg.laid ++ free) := by simp
    have e2 : (x :: more).flatMap Lg.laid ++ free = Lg.laid x ++ (more.flatMap Lg.laid ++ free) := by simp
    have e3 := Lg.batchAt_laid x (ht x (by simp)) (more.flatMap Lg.laid ++ free)
    have e4 : (Lg.laid x ++ (more.flatMap Lg.laid ++ free)).drop (1 + x.length) = more.flatMap Lg.laid ++ free := by
      rw [show 1 + x.length = (Lg.laid x).length by rw [Lg.laid_len]; omega, List.drop_left]
    rw [Lg.batches_succ, e, this, e2]
    rw [Option.bind_some, e3, Option.map_some, e4]

theorem Lg.batchesOf_img (there : List (List Ev)) (free : List ByteArray) (h : ∀ l ∈ there, Lg.Good l) (hn : there.length ≤ 1000) : Lg.batchesOf (Lg.img there free) = some (there, free) := by
  show (match Lg.nm Lg.headM (Lg.hd there.length) with | none => none | some e => Lg.batches (there.flatMap Lg.laid ++ free) e.n0.toNat) = _
  unfold Lg.hd
  rw [Lg.nm_sc _ _ (by decide) rfl (by simp [Ev.ok, Cl.isN]; omega)]
  show Lg.batches (there.flatMap Lg.laid ++ free) (there.length : Int).toNat = _
  have := Lg.batches_img [] there free h (by simp)
  simpa using this

theorem Lg.set_img (there : List (List Ev)) (free : List ByteArray) (i : Nat) (s : ByteArray) : (Lg.img there free).set (Lg.used there + i) s = Lg.img there (free.set i s) := by
  unfold Lg.img Lg.used
  rw [show (there.flatMap Lg.laid).length + 1 + i = ((there.flatMap Lg.laid).length + i) + 1 by omega, List.set_cons_succ, List.set_append_right _ _ (by omega), Nat.add_sub_cancel_left]

/-- Whatever of what is written behind is kept, the batches stay. -/
theorem Lg.kept_img (p : Nat → Bool) (there : List (List Ev)) (free ss : List ByteArray) (hs : ∀ s ∈ ss, s.size = 32) : ∀ (k : Nat), ∃ free', free'.length = free.length ∧ ((∀ s ∈ free, s.size = 32) → ∀ s ∈ free', s.size = 32) ∧ Dk.keptTo p (Lg.img there free) (Lg.wrs (Lg.used there) ss) k = Lg.img there free' := by
  intro k
  induction k with
  | zero => exact ⟨free, rfl, fun h => h, rfl⟩
  | succ k ih =>
    obtain ⟨f, h1, h3, h2⟩ := ih
    cases hw : (Lg.wrs (Lg.used there) ss)[k]? with
    | none =>
      refine ⟨f, h1, h3, ?_⟩
      show (match (Lg.wrs (Lg.used there) ss)[k]? with | some x => _ | none => _) = _
      rw [hw]
      exact h2
    | some x =>
      rw [Dk.keptTo_step p _ _ k x hw, h2]
      cases p k
      · exact ⟨f, h1, h3, rfl⟩
      · obtain ⟨s, hs1, rfl⟩ : ∃ s, ss[k]? = some s ∧ x = (((Lg.used there + k : Nat) : Int), s) := by
          unfold Lg.wrs at hw
          rw [List.getElem?_mapIdx] at hw
          cases hk : ss[k]? with
          | none => rw [hk] at hw; cases hw
          | some s => rw [hk] at hw; cases hw; exact ⟨s, rfl, rfl⟩
        refine ⟨f.set k s, by rw [List.length_set]; exact h1, fun h t ht => ?_, ?_⟩
        · rcases List.mem_or_eq_of_mem_set ht with ht | rfl
          · exact h3 h t ht
          · exact hs _ (List.mem_of_getElem? hs1)
        · show (Lg.img there f).set (((Lg.used there + k : Nat) : Int)).toNat s = _
          rw [Int.toNat_natCast, Lg.set_img]

theorem Lg.ks1_at (there : List (List Ev)) (free ss : List ByteArray) : ∀ k, k ≤ ss.length → ss.length ≤ free.length → Dk.keptTo (fun _ => true) (Lg.img there free) (Lg.wrs (Lg.used there) ss) k = Lg.img there (ss.take k ++ free.drop k) := by
  intro k
  induction k with
  | zero => intro _ _; simp; rfl
  | succ k ih =>
    intro hk hf
    have hx : ss[k]? = some ss[k] := List.getElem?_eq_getElem (by omega)
    have hw : (Lg.wrs (Lg.used there) ss)[k]? = some (((Lg.used there + k : Nat) : Int), ss[k]) := by
      unfold Lg.wrs
      rw [List.getElem?_mapIdx, hx]
      rfl
    rw [Dk.keptTo_step _ _ _ k _ hw, if_pos rfl, ih (by omega) hf]
    show (Lg.img there (ss.take k ++ free.drop k)).set (((Lg.used there + k : Nat) : Int)).toNat ss[k] = _
    rw [Int.toNat_natCast, Lg.set_img]
    congr 1
    rw [List.set_append_right _ _ (by rw [List.length_take]; omega), List.length_take, Nat.min_eq_left (by omega), Nat.sub_self, List.drop_eq_getElem_cons (by omega : k < free.length), List.set_cons_zero, List.take_succ_eq_append_getElem (by omega), List.append_assoc]
    rfl
theorem Lg.ks1_img (there : List (List Ev)) (free ss : List ByteArray) (h : ss.length ≤ free.length) : Lg.ks1 (Lg.img there free) (Lg.used there) ss = Lg.img there (ss ++ free.drop ss.length) := by
  unfold Lg.ks1
  rw [Lg.wrs_len, Lg.ks1_at there free ss ss.length (Nat.le_refl _) h, List.take_length]
theorem Lg.img_head (there : List (List Ev)) (l : List Ev) (free : List ByteArray) : (Lg.img there (Lg.laid l ++ free)).set 0 (Lg.hd (there.length + 1)) = Lg.img (there ++ [l]) free := by
  unfold Lg.img
  rw [List.set_cons_zero]
  simp
theorem Lg.kept_head (p : Nat → Bool) (there : List (List Ev)) (l : List Ev) (free : List ByteArray) : Dk.keptTo p (Lg.img there (Lg.laid l ++ free)) [(0, Lg.hd (there.length + 1))] 1 = if p 0 then Lg.img (there ++ [l]) free else Lg.img there (Lg.laid l ++ free) := by
  rw [Dk.keptTo_step p _ _ 0 _ rfl]
  show (if p 0 then (Lg.img there (Lg.laid l ++ free)).set 0 (Lg.hd (there.length + 1)) else _) = _
  rw [Lg.img_head]
  rfl
theorem Lg.ks2_img (there : List (List Ev)) (l : List Ev) (free : List ByteArray) (h : (Lg.laid l).length ≤ free.length) : Lg.ks2 (Lg.img there free) (Lg.used there) (Lg.laid l) (Lg.hd (there.length + 1)) = Lg.img (there ++ [l]) (free.drop (Lg.laid l).length) := by
  unfold Lg.ks2
  rw [Lg.ks1_img there free _ h, Lg.kept_head]
  rfl
theorem Lg.fmt_img (n : Nat) : Lg.fmt n = Lg.img [] (List.replicate (n - 1) (Dk.zeros 32)) := rfl

/-- One disk is a Flush, or a Write, further than another one. -/
def Lg.Step (d d' : List ByteArray × List (Int × ByteArray)) : Prop :=
  Dk.chk d.1 d.2 = 0 ∧ (d' = (Dk.keptTo (fun _ => true) d.1 d.2 d.2.length, []) ∨ ∃ i s, d' = (d.1, d.2 ++ [(i, s)]) ∧ 0 ≤ i ∧ i < (d.1.length : Int) ∧ s.size = 32 ∧ d.2.length < 600)
theorem Lg.way_at (ks : List ByteArray) (o : Nat) (ss : List ByteArray) (h : ByteArray) (j : Nat) (d : List ByteArray × List (Int × ByteArray)) (hd : (Lg.way ks o ss h)[j]? = some d) :
    (j < ss.length ∧ d = (ks, (Lg.wrs o ss).take (j + 1))) ∨ (j = ss.length ∧ d = (Lg.ks1 ks o ss, [])) ∨ (j = ss.length + 1 ∧ d = (Lg.ks1 ks o ss, [(0, h)])) ∨ (j = ss.length + 2 ∧ d = (Lg.ks2 ks o ss h, [])) := by
  unfold Lg.way at hd
  rw [List.append_assoc, List.append_assoc] at hd
  rcases Nat.lt_or_ge j ss.length with hj | hj
  · rw [List.getElem?_append_left (by rw [Lg.wayA_len]; exact hj)] at hd
    unfold Lg.wayA at hd
    rw [List.getElem?_map, List.getElem?_range hj] at hd
    cases hd
    exact Or.inl ⟨hj, rfl⟩
  · rw [List.getElem?_append_right (by rw [Lg.wayA_len]; exact hj), Lg.wayA_len] at hd
    obtain ⟨m, rfl⟩ : ∃ m, j = ss.length + m := ⟨j - ss.length, by omega⟩
    rw [Nat.add_sub_cancel_left] at hd
    match m, hd with
    | 0, hd => cases hd; exact Or.inr (Or.inl ⟨rfl, rfl⟩)
    | 1, hd => cases hd; exact Or.inr (Or.inr (Or.inl ⟨rfl, rfl⟩))
    | 2, hd => cases hd; exact Or.inr (Or.inr (Or.inr ⟨rfl, rfl⟩))
    | m + 3, hd => simp at hd
theorem Lg.way_len (ks : List ByteArray) (o : Nat) (ss : List ByteArray) (h : ByteArray) : (Lg.way ks o ss h).length = ss.length + 3 := by
  unfold Lg.way
  simp [Lg.wayA_len]
theorem Lg.ks1_len (ks : List ByteArray) (o : Nat) (ss : List ByteArray) : (Lg.ks1 ks o ss).length = ks.length := Dk.keptTo_length _ _ _ _

section
variable {ks : List ByteArray} {o : Nat} {ss : List ByteArray} {h : ByteArray}
theorem Lg.wrs_ok (h1 : 1 ≤ ks.length) (h2 : ks.length ≤ 600) (h3 : ∀ s ∈ ks, s.size = 32) (hss : ∀ s ∈ ss, s.size = 32) (hol : o + ss.length ≤ ks.length) (m : Nat) : Dk.chk ks ((Lg.wrs o ss).take m) = 0 :=
  Dk.chk_of h1 h2 h3 (by rw [List.length_take, Lg.wrs_len]; omega) (fun x hx => Lg.wrs_chk _ o ss hss hol x (List.mem_of_mem_take hx))
theorem Lg.ks1_ok (h1 : 1 ≤ ks.length) (h2 : ks.length ≤ 600) (h3 : ∀ s ∈ ks, s.size = 32) (hss : ∀ s ∈ ss, s.size = 32) (hol : o + ss.length ≤ ks.length) : ∀ s ∈ Lg.ks1 ks o ss, s.size = 32 := by
  have := Lg.wrs_ok h1 h2 h3 hss hol ss.length
  rw [List.take_of_length_le (by rw [Lg.wrs_len]; exact Nat.le_refl _)] at this
  exact Dk.keptTo_32 _ this _
theorem Lg.way_ok (h1 : 1 ≤ ks.length) (h2 : ks.length ≤ 600) (h3 : ∀ s ∈ ks, s.size = 32) (hss : ∀ s ∈ ss, s.size = 32) (hh : h.size = 32) (hol : o + ss.length ≤ ks.length) (j : Nat) (d : List ByteArray × List (Int × ByteArray)) (hd : (Lg.way ks o ss h)[j]? = some d) : Dk.chk d.1 d.2 = 0 ∧ d.1.length = ks.length := by
  have hl := Lg.ks1_len ks o ss
  have h32 := Lg.ks1_ok h1 h2 h3 hss hol
  have h0 : Dk.chk (Lg.ks1 ks o ss) [(0, h)] = 0 := Dk.chk_of (by omega) (by omega) h32 (by simp) (fun x hx => by
    simp at hx
    subst hx
    exact Dk.chkW_of (by omega) (by omega) hh)
  rcases Lg.way_at ks o ss h j d hd with ⟨_, rfl⟩ | ⟨_, rfl⟩ | ⟨_, rfl⟩ | ⟨_, rfl⟩
  · exact ⟨Lg.wrs_ok h1 h2 h3 hss hol _, rfl⟩
  · exact ⟨Dk.chk_of (by simp only; omega) (by simp only; omega) h32 (by simp) (by simp), hl⟩
  · exact ⟨h0, hl⟩
  · have e : (Lg.ks2 ks o ss h).length = ks.length := (Dk.keptTo_length _ _ _ _).trans hl
    exact ⟨Dk.chk_of (by simp only; omega) (by simp only; omega) (Dk.keptTo_32 _ h0 _) (by simp) (by simp), e⟩
theorem Lg.way_step (h1 : 1 ≤ ks.length) (h2 : ks.length ≤ 600) (h3 : ∀ s ∈ ks, s.size = 32) (hss : ∀ s ∈ ss, s.size = 32) (hh : h.size = 32) (hol : o + ss.length ≤ ks.length) (hs6 : ss.length ≤ 100) (j : Nat) (d d' : List ByteArray × List (Int × ByteArray)) (hd : ((ks, []) :: Lg.way ks o ss h)[j]? = some d) (hd' : (Lg.way ks o ss h)[j]? = some d') : Lg.Step d d' := by
  have hl := Lg.ks1_len ks o ss
  have hprev : (j ≤ ss.length ∧ d = (ks, (Lg.wrs o ss).take j)) ∨ (j = ss.length + 1 ∧ d = (Lg.ks1 ks o ss, [])) ∨ (j = ss.length + 2 ∧ d = (Lg.ks1 ks o ss, [(0, h)])) ∨ (j = ss.length + 3) := by
    match j, hd with
    | 0, hd => cases hd; exact Or.inl ⟨Nat.zero_le _, by simp⟩
    | j + 1, hd =>
      rcases Lg.way_at ks o ss h j d (by simpa using hd) with ⟨a, rfl⟩ | ⟨a, rfl⟩ | ⟨a, rfl⟩ | ⟨a, rfl⟩
      · exact Or.inl ⟨by omega, rfl⟩
      · exact Or.inr (Or.inl ⟨by omega, rfl⟩)
      · exact Or.inr (Or.inr (Or.inl ⟨by omega, rfl⟩))
      · exact Or.inr (Or.inr (Or.inr (by omega)))
  have hc : Dk.chk d.1 d.2 = 0 := by
    match j, hd with
    | 0, hd =>
      cases hd
      exact Dk.chk_of h1 h2 h3 (by simp) (by simp)
    | j + 1, hd => exact (Lg.way_ok h1 h2 h3 hss hh hol j d (by simpa using hd)).1
  refine ⟨hc, ?_⟩
  rcases Lg.way_at ks o ss h j d' hd' with ⟨a, rfl⟩ | ⟨a, rfl⟩ | ⟨a, rfl⟩ | ⟨a, rfl⟩
  · rcases hprev with ⟨_, rfl⟩ | ⟨b, _⟩ | ⟨b, _⟩ | b
    · refine Or.inr ⟨_, _, by rw [Lg.wrs_at o ss j _ (List.getElem?_eq_getElem a)], by omega, by simp only; omega, hss _ (List.getElem_mem _), by simp only [List.length_take, Lg.wrs_len]; omega⟩
    · omega
    · omega
    · omega
  · rcases hprev with ⟨_, rfl⟩ | ⟨b, _⟩ | ⟨b, _⟩ | b
    · refine Or.inl ?_
      subst a
      unfold Lg.ks1
      rw [List.take_of_length_le (by rw [Lg.wrs_len]; exact Nat.le_refl _)]
    · omega
    · omega
    · omega
  · rcases hprev with ⟨b, _⟩ | ⟨_, rfl⟩ | ⟨b, _⟩ | b
    · omega
    · exact Or.inr ⟨0, h, rfl, by omega, by simp only; omega, hh, by simp⟩
    · omega
    · omega
  · rcases hprev with ⟨b, _⟩ | ⟨b, _⟩ | ⟨_, rfl⟩ | b
    · omega
    · omega
    · exact Or.inl rfl
    · omega
end

theorem Dk.keptTo_take (p : Nat → Bool) (ks : List ByteArray) (ws : List (Int × ByteArray)) (m : Nat) : ∀ k, k ≤ m → Dk.keptTo p ks (ws.take m) k = Dk.keptTo p ks ws k
  | 0, _ => rfl
  | k + 1, h => by
    have e : (ws.take m)[k]? = ws[k]? := List.getElem?_take_of_lt (by omega)
    show (match (ws.take m)[k]? with | some x => if p k then (Dk.keptTo p ks (ws.take m) k).set x.1.toNat x.2 else Dk.keptTo p ks (ws.take m) k | none => Dk.keptTo p ks (ws.take m) k) = (match ws[k]? with | some x => if p k then (Dk.keptTo p ks ws k).set x.1.toNat x.2 else Dk.keptTo p ks ws k | none => Dk.keptTo p ks ws k)
    rw [e, Dk.keptTo_take p ks ws m k (by omega)]

/-- Whatever crash there is on the way: all batches are there, and this one, whole or not at all; behind the last step it is. -/
theorem Lg.way_crash (p : Nat → Bool) (there : List (List Ev)) (free : List ByteArray) (l : List Ev) (hr : (Lg.laid l).length ≤ free.length) (h3 : ∀ s ∈ free, s.size = 32) (j : Nat) (d : List ByteArray × List (Int × ByteArray))
    (hd : (Lg.way (Lg.img there free) (Lg.used there) (Lg.laid l) (Lg.hd (there.length + 1)))[j]? = some d) :
    ∃ f, (∀ s ∈ f, s.size = 32) ∧ ((Dk.keptTo p d.1 d.2 d.2.length = Lg.img there f ∧ f.length = free.length ∧ j < (Lg.laid l).length + 2) ∨ (Dk.keptTo p d.1 d.2 d.2.length = Lg.img (there ++ [l]) f ∧ f.length + (Lg.laid l).length = free.length)) := by
  have hss := Lg.laid_32 l
  have h32 : ∀ s ∈ Lg.laid l ++ free.drop (Lg.laid l).length, s.size = 32 := fun s hs => by
    rcases List.mem_append.1 hs with hs | hs
    · exact hss s hs
    · exact h3 s (List.mem_of_mem_drop hs)
  rcases Lg.way_at _ _ _ _ j d hd with ⟨a, rfl⟩ | ⟨a, rfl⟩ | ⟨a, rfl⟩ | ⟨a, rfl⟩
  · obtain ⟨f, k1, k2, k3⟩ := Lg.kept_img p there free (Lg.laid l) hss (j + 1)
    refine ⟨f, k2 h3, Or.inl ⟨?_, k1, by omega⟩⟩
    show Dk.keptTo p (Lg.img there free) ((Lg.wrs (Lg.used there) (Lg.laid l)).take (j + 1)) ((Lg.wrs (Lg.used there) (Lg.laid l)).take (j + 1)).length = _
    rw [List.length_take, Lg.wrs_len, Nat.min_eq_left (by omega), Dk.keptTo_take p _ _ _ _ (Nat.le_refl _)]
    exact k3
  · refine ⟨_, h32, Or.inl ⟨?_, ?_, by omega⟩⟩
    · show Lg.ks1 _ _ _ = _
      exact Lg.ks1_img there free _ hr
    · rw [List.length_append, List.length_drop]
      omega
  · rw [Lg.ks1_img there free _ hr]
    show ∃ f, _ ∧ ((Dk.keptTo p (Lg.img there (Lg.laid l ++ free.drop (Lg.laid l).length)) [(0, Lg.hd (there.length + 1))] 1 = _ ∧ _ ∧ _) ∨ (Dk.keptTo p (Lg.img there (Lg.laid l ++ free.drop (Lg.laid l).length)) [(0, Lg.hd (there.length + 1))] 1 = _ ∧ _))
    rw [Lg.kept_head]
    cases p 0
    · exact ⟨Lg.laid l ++ free.drop (Lg.laid l).length, h32, Or.inl ⟨rfl, by rw [List.length_append, List.length_drop]; omega, by omega⟩⟩
    · exact ⟨free.drop (Lg.laid l).length, fun s hs => h3 s (List.mem_of_mem_drop hs), Or.inr ⟨rfl, by rw [List.length_drop]; omega⟩⟩
  · refine ⟨free.drop (Lg.laid l).length, fun s hs => h3 s (List.mem_of_mem_drop hs), Or.inr ⟨?_, by rw [List.length_drop]; omega⟩⟩
    show Lg.ks2 _ _ _ _ = _
    exact Lg.ks2_img there l free hr
end Go.Proofs.Ytpabpcojiaklfaa
