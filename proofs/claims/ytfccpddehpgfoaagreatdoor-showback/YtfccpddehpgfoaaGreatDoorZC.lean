/- By the verifier. -/
import Derived.Test.YtfccpddehpgfoaaGreatDoorZB
set_option maxRecDepth 100000
set_option maxHeartbeats 3200000
namespace Go.Proofs.YtfccpddehpgfoaaGreatDoor
open Go.RowKit
set_option linter.unusedVariables false
theorem ZaU {α β γ : Type} {f : α → β → Bool} {g : α → γ} {h : β → γ} (hf : ∀ a b, f a b = true → g a = h b) : ∀ (l : List α) (m : List β), Zaa f l m = true → l.map g = m.map h
 | [], [], _ => rfl
 | [], b :: q, e => by cases e
 | a :: r, [], e => by cases e
 | a :: r, b :: q, e => by
  have e : (f a b && Zaa f r q) = true := e
  rw [Bool.and_eq_true] at e
  rw [List.map_cons, List.map_cons, hf a b e.1, ZaU hf r q e.2]
theorem Zbh {α β : Type} {f : α → β → Bool} (l : List α) (m : List β) (h : Zaa f l m = true) : l.length = m.length := by
 have := congrArg List.length (ZaU (f := f) (g := fun _ => ()) (h := fun _ => ()) (fun _ _ _ => rfl) l m h)
 simpa using this
theorem Tb.all_map {α : Type} (p : α → Bool) (l : List α) : l.all p = (l.map p).all id := by rw [List.all_map]; rfl
theorem Tb.any_map {α : Type} (p : α → Bool) (l : List α) : l.any p = (l.map p).any id := by rw [List.any_map]; rfl
theorem Zen {α β γ : Type} {f : α → β → Bool} {p : γ → α → γ} {q : γ → β → γ} (hf : ∀ a b s, f a b = true → p s a = q s b) : ∀ (l : List α) (m : List β) (s : γ), Zaa f l m = true → l.foldl p s = m.foldl q s
 | [], [], _, _ => rfl
 | [], b :: q, _, e => by cases e
 | a :: r, [], _, e => by cases e
 | a :: r, b :: t, s, e => by
  have e : (f a b && Zaa f r t) = true := e
  rw [Bool.and_eq_true] at e
  rw [List.foldl_cons, List.foldl_cons, hf a b s e.1]
  exact Zen hf r t _ e.2
theorem Zc3 {a b : ByteArray} (h : (a.toList == b.toList) = true) : a = b := by
 have h : a.toList = b.toList := by simpa using h
 rw [ByteArray.toList_eq, ByteArray.toList_eq] at h
 cases a; cases b
 congr 1
 exact Array.toList_inj.1 h
theorem Zce : ∀ (n d : Nat) (x : Zat n) (y : Zat d), Zai n d x y = true → Zab n x = Zab d y ∧ Zac n x = Zac d y ∧ Zb3 n x = Zb3 d y := by
 intro n
 induction n with
 | zero => intro d x y h; cases d <;> cases h
 | succ n ih =>
  intro d x y h
  cases d with
  | zero => cases h
  | succ d =>
   have h : ((x.1.1 == y.1.1) && (x.1.2.2.1 == y.1.2.2.1) && (x.1.2.2.2.toList == y.1.2.2.2.toList) && Zaa (Zai n d) x.2 y.2) = true := h
   simp only [Bool.and_eq_true, beq_iff_eq (α := Int)] at h
   obtain ⟨⟨⟨h1, h2⟩, h3⟩, h4⟩ := h
   have h3 := Zc3 h3
   have hl := Zbh _ _ h4
   have e1 := ZaU (g := Zab n) (h := Zab d) (fun a b h => (ih d a b h).1) _ _ h4
   have e2 := ZaU (g := Zac n) (h := Zac d) (fun a b h => (ih d a b h).2.1) _ _ h4
   refine ⟨?_, ?_, ?_⟩
   · show 1 + (x.2.map (Zab n)).sum = 1 + (y.2.map (Zab d)).sum
     rw [e1]
   · show Zbj x.1.1 x.1.2.2.1 x.1.2.2.2 x.2.length (x.2.all (Zac n)) = Zbj y.1.1 y.1.2.2.1 y.1.2.2.2 y.2.length (y.2.all (Zac d))
     rw [Tb.all_map, Tb.all_map (Zac d), e2, h1, h2, h3, hl]
   show (decide (x.1.1 = 0) && decide (x.1.2.2.1 = 0) && x.1.2.2.2.toList.isEmpty && decide (x.2.length = 0)) = (decide (y.1.1 = 0) && decide (y.1.2.2.1 = 0) && y.1.2.2.2.toList.isEmpty && decide (y.2.length = 0))
   rw [h1, h2, h3, hl]
theorem ZdW {n d : Nat} {x : Zat n} {y : Zat d} (h : Zai n d x y = true) (b : Bool) : Zan n x b = Zan d y b := by
 unfold Zan
 rw [(Zce n d x y h).2.1, (Zce n d x y h).2.2]
structure Tb.Sm {m n m' n' : Nat} (x : Zap m (n + 1)) (y : Zap m' (n' + 1)) : Prop where
 k : x.1.1 = y.1.1
 nm : x.1.2.2.1 = y.1.2.2.1
 ot : x.1.2.2.2 = y.1.2.2.2
 ix : Zai m m' x.2.1.1 y.2.1.1 = true
 ex : Zai m m' x.2.1.2.1 y.2.1.2.1 = true
 ar : Zaa (Zai m m') x.2.1.2.2 y.2.1.2.2 = true
 th : Zaa (Zas n n') x.2.2.1 y.2.2.1 = true
 el : Zaa (Zas n n') x.2.2.2 y.2.2.2 = true
theorem Tb.sm {m n m' n' : Nat} (x : Zap m (n + 1)) (y : Zap m' (n' + 1)) (h : Zas (n + 1) (n' + 1) x y = true) : Tb.Sm x y := by
 have h : ((x.1.1 == y.1.1) && (x.1.2.2.1.toList == y.1.2.2.1.toList) && (x.1.2.2.2.toList == y.1.2.2.2.toList) && Zai m m' x.2.1.1 y.2.1.1 && Zai m m' x.2.1.2.1 y.2.1.2.1 && Zaa (Zai m m') x.2.1.2.2 y.2.1.2.2 && Zaa (Zas n n') x.2.2.1 y.2.2.1 && Zaa (Zas n n') x.2.2.2 y.2.2.2) = true := h
 simp only [Bool.and_eq_true, beq_iff_eq (α := Int)] at h
 obtain ⟨⟨⟨⟨⟨⟨⟨h1, h2⟩, h3⟩, h4⟩, h5⟩, h6⟩, h7⟩, h8⟩ := h
 exact ⟨h1, Zc3 h2, Zc3 h3, h4, h5, h6, h7, h8⟩
theorem ZjK {m n m' n' : Nat} {x : Zap m (n + 1)} {y : Zap m' (n' + 1)} (h : Tb.Sm x y) : Tk.long x = Tk.long y := by
 unfold Tk.long
 have e1 := ZaU (g := fun e => decide (15 < Zab m e)) (h := fun e => decide (15 < Zab m' e)) (fun a b h => by rw [(Zce m m' a b h).1]) _ _ h.ar
 rw [Zbh _ _ h.ar, (Zce _ _ _ _ h.ix).1, (Zce _ _ _ _ h.ex).1, Tb.any_map, e1, ← Tb.any_map]
theorem ZhQ {m m' : Nat} : ∀ (n n' : Nat) (deep a : Int) (l : List (Zap m n)) (k : List (Zap m' n')), Zaa (Zas n n') l k = true → Zae n deep a l = Zae n' deep a k := by
 intro n
 induction n with
 | zero =>
  intro n' deep a l k h
  cases l with
  | nil =>
   cases k with
   | nil => cases n' <;> rfl
   | cons b q => cases h
  | cons x r => exact nomatch (show Empty from x)
 | succ n ih =>
  intro n' deep a l k h
  cases n' with
  | zero =>
   cases k with
   | nil =>
    cases l with
    | nil => rfl
    | cons x r => cases h
   | cons x r => exact nomatch (show Empty from x)
  | succ n' =>
   show l.foldl _ a = k.foldl _ a
   refine Zen (fun x y s hxy => ?_) l k a h
   have hs := Tb.sm x y hxy
   rw [ZjK hs, ih n' (deep + 1) (s - 1) _ _ hs.th, ih n' (deep + 1) _ _ _ hs.el]
theorem ZiZ {m m' : Nat} : ∀ (n n' : Nat) (x : Zap m n) (y : Zap m' n'), Zas n n' x y = true → Zaf n x = Zaf n' y := by
 intro n
 induction n with
 | zero => intro n' x y h; cases n' <;> cases h
 | succ n ih =>
  intro n' x y h
  cases n' with
  | zero => cases h
  | succ n' =>
   have hs := Tb.sm x y h
   have e1 := ZaU (g := Zac m) (h := Zac m') (fun a b h => (Zce m m' a b h).2.1) _ _ hs.ar
   have e2 := ZaU (g := Zaf n) (h := Zaf n') (fun a b h => ih n' a b h) _ _ hs.th
   have e3 := ZaU (g := Zaf n) (h := Zaf n') (fun a b h => ih n' a b h) _ _ hs.el
   show (match ZaS x.1.1 with
    | none => false
    | some (f1, f2, f3, f4, f5, f6, f7) => Zar x.1.2.2.1 f1 && Zar x.1.2.2.2 f2 && Zan m x.2.1.1 f3 && Zan m x.2.1.2.1 f4 && (x.2.1.2.2.all (Zac m) && (f5 || decide (x.2.1.2.2.length = 0))) &&
     (x.2.2.1.all (Zaf n) && (f6 || decide (x.2.2.1.length = 0))) && (x.2.2.2.all (Zaf n) && (f7 || decide (x.2.2.2.length = 0)))) =
    (match ZaS y.1.1 with
    | none => false
    | some (f1, f2, f3, f4, f5, f6, f7) => Zar y.1.2.2.1 f1 && Zar y.1.2.2.2 f2 && Zan m' y.2.1.1 f3 && Zan m' y.2.1.2.1 f4 && (y.2.1.2.2.all (Zac m') && (f5 || decide (y.2.1.2.2.length = 0))) &&
     (y.2.2.1.all (Zaf n') && (f6 || decide (y.2.2.1.length = 0))) && (y.2.2.2.all (Zaf n') && (f7 || decide (y.2.2.2.length = 0))))
   rw [hs.k]
   cases ZaS y.1.1 with
   | none => rfl
   | some t =>
    obtain ⟨f1, f2, f3, f4, f5, f6, f7⟩ := t
    dsimp only
    rw [hs.nm, hs.ot, ZdW hs.ix, ZdW hs.ex, Zbh _ _ hs.ar, Zbh _ _ hs.th, Zbh _ _ hs.el, Tb.all_map (Zac m), e1, ← Tb.all_map, Tb.all_map (Zaf n), e2, ← Tb.all_map, Tb.all_map (Zaf n), e3, ← Tb.all_map]
structure Tb.Sf {m n m' n' : Nat} (x : Tk.FT m n) (y : Tk.FT m' n') : Prop where
 nm : x.nm = y.nm
 cs : Zaa (Zas n n') x.cs y.cs = true
 re : Zai m m' x.re y.re = true
 ps : x.ps = y.ps
 vs : x.vs = y.vs
theorem Tb.sf {m n m' n' : Nat} (x : Tk.FT m n) (y : Tk.FT m' n') (h : Zaw x y = true) : Tb.Sf x y := by
 unfold Zaw at h
 simp only [Bool.and_eq_true] at h
 obtain ⟨⟨⟨⟨⟨⟨h1, _⟩, _⟩, h4⟩, h5⟩, h6⟩, h7⟩ := h
 have e1 := ZaU (g := fun a : ByteArray => a) (h := fun a => a) (fun a b h => Zc3 h) _ _ h6
 have e2 := ZaU (g := fun a : ByteArray × Int => a) (h := fun a => a) (fun a b h => by
  have h : ((a.1.toList == b.1.toList) && (a.2 == b.2)) = true := h
  rw [Bool.and_eq_true, beq_iff_eq (α := Int)] at h
  exact Prod.ext (Zc3 h.1) h.2) _ _ h7
 rw [List.map_id', List.map_id'] at e1 e2
 exact ⟨Zc3 h1, h4, h5, e1, e2⟩
theorem Zjq {m n m' n' : Nat} (x : Tk.FT m n) (y : Tk.FT m' n') (h : Zaw x y = true) (b : Bool) : ZaR x b = ZaR y b := by
 have hs := Tb.sf x y h
 have e1 := ZaU (g := Zaf n) (h := Zaf n') (fun a b h => ZiZ n n' a b h) _ _ hs.cs
 unfold ZaR
 rw [hs.nm, hs.ps, hs.vs, ZdW hs.re, Tb.all_map (Zaf n), e1, ← Tb.all_map]
theorem ZeL {m n m' n' : Nat} : ∀ (l : List (Tk.FT m n)) (k : List (Tk.FT m' n')), Zaa Zaw l k = true → ZaC l = ZaC k
 | [], [], _ => rfl
 | [], b :: q, e => by cases e
 | a :: r, [], e => by cases e
 | a :: r, b :: q, e => by
  have e : (Zaw a b && Zaa Zaw r q) = true := e
  rw [Bool.and_eq_true] at e
  have hl := Zbh _ _ e.2
  have he : r.isEmpty = q.isEmpty := by cases r <;> cases q <;> first | rfl | (exfalso; simp at hl)
  show (ZaR a r.isEmpty && ZaC r) = (ZaR b q.isEmpty && ZaC q)
  rw [he, Zjq a b e.1, ZeL r q e.2]
theorem Zfa {m n m' n' : Nat} : ∀ (l : List (Tk.FT m n)) (k : List (Tk.FT m' n')) (left : Int), Zaa Zaw l k = true → ZaN left l = ZaN left k
 | [], [], _, _ => rfl
 | [], b :: q, _, e => by cases e
 | a :: r, [], _, e => by cases e
 | a :: r, b :: q, left, e => by
  have e : (Zaw a b && Zaa Zaw r q) = true := e
  rw [Bool.and_eq_true] at e
  have hs := Tb.sf a b e.1
  show (decide (3 < a.ps.length) || decide (6 < a.vs.length) || decide (15 < Zab m a.re) || decide (Zae n 1 left a.cs < 0) || ZaN (Zae n 1 left a.cs) r) = (decide (3 < b.ps.length) || decide (6 < b.vs.length) || decide (15 < Zab m' b.re) || decide (Zae n' 1 left b.cs < 0) || ZaN (Zae n' 1 left b.cs) q)
  rw [hs.ps, hs.vs, (Zce _ _ _ _ hs.re).1, ZhQ n n' 1 left _ _ hs.cs, Zfa r q _ e.2]
theorem Zjd {m n m' n' : Nat} (l : List (Tk.FT m n)) (k : List (Tk.FT m' n')) (h : Zaa Zaw l k = true) : Zay l = Zay k := by
 unfold Zay Zcs
 rw [Zbh _ _ h, Zfa l k 40 h, ZeL l k h]
section
variable {l : List Tp.T}
theorem Zig : ∀ (vs : List (ByteArray × Int)) (i fuel : Nat) (acc : List (ByteArray × Int)), vs.length < fuel → (∀ y ∈ vs, Za5 y = true) → Tp.Is l i (vs.flatMap Tb.var) → Zal l (i + (vs.flatMap Tb.var).length) ⟨#[118, 97, 114]⟩ = false → Zal l (i + (vs.flatMap Tb.var).length) ⟨#[97, 114, 114]⟩ = false →
  Tp.vars l fuel i acc = .ok (acc ++ vs, i + (vs.flatMap Tb.var).length) := by
 intro vs
 induction vs with
 | nil =>
  intro i fuel acc hf _ _ h1 h2
  cases fuel with
  | zero => exact absurd hf (by simp)
  | succ fuel =>
   have h1 : Zal l i ⟨#[118, 97, 114]⟩ = false := h1
   have h2 : Zal l i ⟨#[97, 114, 114]⟩ = false := h2
   unfold Tp.vars
   rw [h1, h2, if_neg (by decide), if_neg (by decide), List.append_nil]
   rfl
 | cons y r ih =>
  intro i fuel acc hf hb hI h1 h2
  cases fuel with
  | zero => exact absurd hf (by simp)
  | succ fuel =>
   rw [List.flatMap_cons] at hI h1 h2 ⊢
   rw [Za] at h1 h2 ⊢
   have hy := hb y (by simp)
   unfold Za5 at hy
   simp only [Bool.and_eq_true, decide_eq_true_eq] at hy
   obtain ⟨⟨hn, h0⟩, h9⟩ := hy
   have hr := ih (i + (Tb.var y).length) fuel (acc ++ [y]) (by rw [Zo] at hf; omega) (fun z hz => hb z (List.mem_cons_of_mem _ hz)) hI.right (by rw [Nat.add_assoc]; exact h1) (by rw [Nat.add_assoc]; exact h2)
   rw [List.append_assoc, Nat.add_assoc] at hr
   have hIv := hI.left
   obtain ⟨nm, z⟩ := y
   have hn : Zam nm = true := hn
   unfold Tp.vars
   by_cases hz : z = 0
   · subst hz
     have hv : Tb.var (nm, 0) = [(1, [118, 97, 114]), (1, Tk.B nm), (3, [59])] := if_pos rfl
     rw [hv] at hIv hr ⊢
     have t1 := hIv.first
     have t2 := hIv.rest.first
     have t3 := hIv.rest.rest.first
     have e1 : Zal l i ⟨#[118, 97, 114]⟩ = true := ZaM t1.2
     have e2 := ZbK t2.1 t2.2 hn
     have e3 : Zak l ⟨#[59]⟩ (i + 1 + 1) = .ok (i + 1 + 1 + 1) := Zau t3.2
     simp only [e1, e2, e3, if_true]
     exact hr
   have hv : Tb.var (nm, z) = (1, [97, 114, 114]) :: (1, Tk.B nm) :: (Tb.num z ++ [(3, [59])]) := if_neg hz
   obtain ⟨u, rfl⟩ : ∃ u : Nat, z = (u : Int) := ⟨z.toNat, by have h0 : 0 ≤ z := h0; omega⟩
   have h9 : (u : Int) ≤ 9999999 := h9
   have hnum : Tb.num (u : Int) = [(2, Tk.B (Qd.D u))] := by
    unfold Tb.num
    rw [if_neg (by omega), show ((u : Int)).toNat = u by omega]
   rw [hnum] at hv
   rw [hv] at hIv hr ⊢
   have t1 := hIv.first
   have t2 := hIv.rest.first
   have t3 := hIv.rest.rest.first
   have t4 := hIv.rest.rest.rest.first
   have e0 : Zal l i ⟨#[118, 97, 114]⟩ = false := Zao (by rw [t1.2]; decide)
   have e1 : Zal l i ⟨#[97, 114, 114]⟩ = true := ZaM t1.2
   have e2 := ZbK t2.1 t2.2 hn
   have e3 := Zgr (u := u) (by omega) (by omega) t3.1 t3.2
   have e4 : Zak l ⟨#[59]⟩ (i + 1 + 1 + 1) = .ok (i + 1 + 1 + 1 + 1) := Zau t4.2
   simp only [e0, e1, e2, e3, e4, Zb, if_false, if_true]
   exact hr
theorem ZkA (y : ByteArray × Int) : 0 < (Tb.var y).length := by
 unfold Tb.var
 split <;> simp
theorem Zgx : ∀ (vs : List (ByteArray × Int)), vs.length ≤ (vs.flatMap Tb.var).length
 | [] => Nat.zero_le _
 | y :: r => by
  have h1 := ZkA y
  have h2 := Zgx r
  rw [List.flatMap_cons, Za, Zo]
  omega
theorem ZeP {m n : Nat} (e : Int) (x : Tk.FT m n) (b : Bool) (hF : Tb.Ff x b) (hok : Pr.fok x) (N i : Nat) (hN : l.length ≤ N) (hin : i + 1 + (Tb.bd x).length ≤ l.length) {ks : List (Nat × List Int)} (hI : Tp.Is l i ((3, [123]) :: (Tb.bd x ++ ks)))
  (hc : Zcu l (i + 1 + (Tb.bd x).length) = false) (he : Zal l (i + 1 + (Tb.bd x).length) ⟨#[101, 108, 115, 101]⟩ = false) (hv : Zal l (i + 1 + (Tb.bd x).length) ⟨#[118, 97, 114]⟩ = false) (ha : Zal l (i + 1 + (Tb.bd x).length) ⟨#[97, 114, 114]⟩ = false) :
  ∃ cs', Tp.body l e N i = .ok ((x.vs, cs'), i + 1 + (Tb.bd x).length) ∧ Zaa (Zas n N) x.cs cs' = true := by
 have t1 := hI.first
 have hIb := hI.rest.left
 unfold Tb.bd at hIb hin hc he hv ha ⊢
 rw [Za] at hin hc he hv ha ⊢
 have hIc := hIb.right
 have hva : Zal l (i + 1 + (x.vs.flatMap Tb.var).length) ⟨#[118, 97, 114]⟩ = false ∧ Zal l (i + 1 + (x.vs.flatMap Tb.var).length) ⟨#[97, 114, 114]⟩ = false := by
  cases hcs : x.cs with
  | nil =>
   rw [hcs] at hv ha
   exact ⟨hv, ha⟩
  | cons c r =>
   rw [hcs, List.flatMap_cons] at hIc
   have := Zdq c (hF.cs c (by rw [hcs]; simp)) _ hIc.left
   exact this.2.2.2
 have hcl := ZdU x.cs hF.cs
 have hvl := Zgx x.vs
 have h1 := Zig x.vs (i + 1) (l.length + 1) [] (by omega) hF.vs hIb.left hva.1 hva.2
 obtain ⟨cs', h2, h3⟩ := Ze3 (Tp.cmd l e N) x.cs (i + 1 + (x.vs.flatMap Tb.var).length) (l.length + 1) [] (by omega) hF.cs (fun c hc i' h1 h2 h3 => Zi2 e n c (hF.cs c hc) 5 (hok.cs c hc) N i' (by omega) h1 h2 h3) (by omega) hIc (by rw [Nat.add_assoc (i + 1)]; exact hc) (by rw [Nat.add_assoc (i + 1)]; exact he)
 refine ⟨cs', ?_, h3⟩
 unfold Tp.body
 rw [Zau (s := ⟨#[123]⟩) t1.2]
 rw [List.nil_append] at h1 h2
 simp only [h1, h2]
 rw [Nat.add_assoc (i + 1)]
theorem Zda {α : Type} (f : α → α → Bool) (h : ∀ a, f a a = true) : ∀ l, Zaa f l l = true
 | [] => rfl
 | a :: r => by
  show (f a a && Zaa f r r) = true
  rw [h a, Zda f h r]
  rfl
theorem ZeQ {m n N : Nat} (x : Tk.FT m n) (a : Int) (nm : ByteArray) (ps : List ByteArray) (cs' : List (Zap 61 N)) (re : Zat 61) (h1 : x.nm = nm) (h2 : x.ps = ps) (h3 : Zaa (Zas n N) x.cs cs' = true) (h4 : Zai m 61 x.re re = true) : Zaw x (⟨a, nm, ps, x.vs, cs', re⟩ : Tk.FT 61 N) = true := by
 unfold Zaw
 show ((x.nm.toList == nm.toList) && (x.ps.length == ps.length) && (x.vs.length == x.vs.length) && Zaa (Zas n N) x.cs cs' && Zai m 61 x.re re && Zaa (fun a b : ByteArray => a.toList == b.toList) x.ps ps && Zaa (fun a b : ByteArray × Int => (a.1.toList == b.1.toList) && (a.2 == b.2)) x.vs x.vs) = true
 rw [h1, h2, h3, h4, Zda _ (fun a => by simp), Zda _ (fun a => by simp)]
 simp
theorem ZhX {m n : Nat} (e : Int) (x : Tk.FT m n) (hF : Tb.Ff x false) (hok : Pr.fok x) (hre : Zab m x.re ≤ 15) (N i : Nat) (hN : l.length ≤ N) (hin : i + (Tb.func x).length ≤ l.length) (hI : Tp.Is l i (Tb.func x)) :
  ∃ y : Tk.FT 61 N, Tp.func l e N i = .ok (y, i + (Tb.func x).length) ∧ Zaw x y = true := by
 have hI0 : Tp.Is l i ((1, [102, 117, 110, 99]) :: (1, Tk.B x.nm) :: (3, [40]) :: (Tb.join (x.ps.map fun t => [(1, Tk.B t)]) ++ (3, [41]) :: (3, [123]) :: (Tb.bd x ++ (1, [114, 101, 116, 117, 114, 110]) :: (Tb.ex m x.re ++ [(3, [59]), (3, [125])])))) := hI
 have hlen : (Tb.func x).length = (Tb.join (x.ps.map fun t => [((1 : Nat), Tk.B t)])).length + (Tb.bd x).length + (Tb.ex m x.re).length + 8 := by
  show ((1, [102, 117, 110, 99]) :: (1, Tk.B x.nm) :: (3, [40]) :: (Tb.join (x.ps.map fun t => [((1 : Nat), Tk.B t)]) ++ (3, [41]) :: (3, [123]) :: (Tb.bd x ++ (1, [114, 101, 116, 117, 114, 110]) :: (Tb.ex m x.re ++ [(3, [59]), (3, [125])])))).length = _
  simp only [Zo, Za, List.length_nil]
  omega
 rw [hlen] at hin ⊢
 have t1 := hI0.first
 have t2 := hI0.rest.first
 have hIl := hI0.rest.rest
 have e0 : (3, [40]) :: (Tb.join (x.ps.map fun t => [((1 : Nat), Tk.B t)]) ++ (3, [41]) :: (3, [123]) :: (Tb.bd x ++ (1, [114, 101, 116, 117, 114, 110]) :: (Tb.ex m x.re ++ [(3, [59]), (3, [125])]))) = ((3, [40]) :: (Tb.join (x.ps.map fun t => [((1 : Nat), Tk.B t)]) ++ [(3, [41])])) ++ ((3, [123]) :: (Tb.bd x ++ (1, [114, 101, 116, 117, 114, 110]) :: (Tb.ex m x.re ++ [((3 : Nat), ([59] : List Int)), (3, [125])]))) := by simp
 rw [e0] at hIl
 have hjl := ZfV (fun t : ByteArray => [((1 : Nat), Tk.B t)]) x.ps
 obtain ⟨ps', hls, hsl⟩ := ZeK (Tp.name l) (fun t : ByteArray => [((1 : Nat), Tk.B t)]) (fun a b : ByteArray => a.toList == b.toList) x.ps (i + 1 + 1) (by omega) (fun a ha i' hIa _ => ⟨a, ZbK hIa.first.1 hIa.first.2 (hF.ps a ha), by simp⟩) (fun a ha i' hIa => Zao (by rw [hIa.first.2]; exact Zcf (c := 41) (r := []) (hF.ps a ha) rfl (by decide))) hIl.left
 have hps : x.ps = ps' := by
  have := ZaU (g := fun a : ByteArray => a) (h := fun a => a) (fun a b h => Zc3 h) _ _ hsl
  rw [List.map_id', List.map_id'] at this
  exact this
 have hIb := hIl.right
 have eJ : i + 1 + 1 + ((3, [40]) :: (Tb.join (x.ps.map fun t => [((1 : Nat), Tk.B t)]) ++ [((3 : Nat), ([41] : List Int))])).length = i + 1 + 1 + 1 + (Tb.join (x.ps.map fun t => [((1 : Nat), Tk.B t)])).length + 1 := by
  simp only [Zo, Za, List.length_nil]
  omega
 rw [eJ] at hIb
 generalize hj : i + 1 + 1 + 1 + (Tb.join (x.ps.map fun t => [((1 : Nat), Tk.B t)])).length + 1 = j at *
 have hIr := hIb.rest.right
 have r1 := hIr.first
 have hIx := hIr.rest
 have r2 := hIx.right.first
 have r3 := hIx.right.rest.first
 obtain ⟨cs', hbd, hsc⟩ := ZeP e x false hF hok N j hN (by omega) hIb (Zey (s := ⟨#[114, 101, 116, 117, 114, 110]⟩) r1.2 (.inr (by decide)) (by decide) (by decide) (by decide)) (Zao (by rw [r1.2]; decide)) (Zao (by rw [r1.2]; decide)) (Zao (by rw [r1.2]; decide))
 obtain ⟨re', hre', hsr⟩ := Zcx x.re (Zb1 hF.re) hre e 0 (j + 1 + (Tb.bd x).length + 1) (by omega) hIx.left (s := ⟨#[59]⟩) r2.2 (by decide)
 have w1 : Zak l ⟨#[102, 117, 110, 99]⟩ i = .ok (i + 1) := Zau t1.2
 have w2 := ZbK t2.1 t2.2 hF.nm
 have w3 : Zak l ⟨#[114, 101, 116, 117, 114, 110]⟩ (j + 1 + (Tb.bd x).length) = .ok (j + 1 + (Tb.bd x).length + 1) := Zau r1.2
 have w4 : Zak l ⟨#[59]⟩ (j + 1 + (Tb.bd x).length + 1 + (Tb.ex m x.re).length) = .ok (j + 1 + (Tb.bd x).length + 1 + (Tb.ex m x.re).length + 1) := Zau r2.2
 have w5 : Zak l ⟨#[125]⟩ (j + 1 + (Tb.bd x).length + 1 + (Tb.ex m x.re).length + 1) = .ok (j + 1 + (Tb.bd x).length + 1 + (Tb.ex m x.re).length + 1 + 1) := Zau r3.2
 refine ⟨⟨Zaz l e i, x.nm, ps', x.vs, cs', re'⟩, ?_, ZeQ x _ _ _ _ _ rfl hps hsc hsr⟩
 unfold Tp.func
 simp only [w1, w2, hls, hbd, w3, hre', w4, w5]
 congr 2
 omega
theorem Zie {m n : Nat} (e : Int) (x : Tk.FT m n) (hF : Tb.Ff x true) (hok : Pr.fok x) (N i : Nat) (hN : l.length ≤ N) (hin : i + (Tb.main x).length ≤ l.length) (hI : Tp.Is l i (Tb.main x)) :
  ∃ y : Tk.FT 61 N, Tp.main l e N i = .ok (y, i + (Tb.main x).length) ∧ Zaw x y = true := by
 have hI0 : Tp.Is l i ((1, [109, 97, 105, 110]) :: (3, [123]) :: (Tb.bd x ++ [(3, [125])])) := hI
 have hlen : (Tb.main x).length = (Tb.bd x).length + 3 := by
  show ((1, [109, 97, 105, 110]) :: (3, [123]) :: (Tb.bd x ++ [((3 : Nat), ([125] : List Int))])).length = _
  simp only [Zo, Za, List.length_nil]
 rw [hlen] at hin ⊢
 have t1 := hI0.first
 have hIb := hI0.rest
 have r1 := hIb.rest.right.first
 obtain ⟨cs', hbd, hsc⟩ := ZeP e x true hF hok N (i + 1) hN (by omega) hIb (Zey (s := ⟨#[125]⟩) r1.2 (.inl (by rw [r1.1]; decide)) (by decide) (by decide) (by decide)) (Zao (by rw [r1.2]; decide)) (Zao (by rw [r1.2]; decide)) (Zao (by rw [r1.2]; decide))
 have w1 : Zak l ⟨#[109, 97, 105, 110]⟩ i = .ok (i + 1) := Zau t1.2
 have w5 : Zak l ⟨#[125]⟩ (i + 1 + 1 + (Tb.bd x).length) = .ok (i + 1 + 1 + (Tb.bd x).length + 1) := Zau r1.2
 refine ⟨⟨Zaz l e i, ⟨#[]⟩, [], x.vs, cs', ZaO⟩, ?_, ZeQ x _ _ _ _ _ (ZbR hF.nm) (hF.ps0 rfl) hsc (Za4 _ hF.re)⟩
 unfold Tp.main
 simp only [w1, hbd, w5]
 congr 2
 omega
theorem ZhA {m n : Nat} (e : Int) (N : Nat) (hN : l.length ≤ N) : ∀ (xs : List (Tk.FT m n)) (i fuel : Nat) (acc : List (Tk.FT 61 N)), xs.length < fuel → (∀ x ∈ xs, Tb.Ff x false ∧ Pr.fok x ∧ Zab m x.re ≤ 15) → i + (xs.flatMap Tb.func).length ≤ l.length → Tp.Is l i (xs.flatMap Tb.func) → Zal l (i + (xs.flatMap Tb.func).length) ⟨#[102, 117, 110, 99]⟩ = false →
  ∃ ys, Zct l e N fuel i acc = .ok (acc ++ ys, i + (xs.flatMap Tb.func).length) ∧ Zaa Zaw xs ys = true := by
 intro xs
 induction xs with
 | nil =>
  intro i fuel acc hf _ _ _ hs
  cases fuel with
  | zero => exact absurd hf (by simp)
  | succ fuel =>
   refine ⟨[], ?_, rfl⟩
   have hs : Zal l i ⟨#[102, 117, 110, 99]⟩ = false := hs
   unfold Zct
   rw [hs, if_neg (by decide), List.append_nil]
   rfl
 | cons x r ih =>
  intro i fuel acc hf hok hin hI hs
  cases fuel with
  | zero => exact absurd hf (by simp)
  | succ fuel =>
   rw [List.flatMap_cons] at hI hin hs ⊢
   rw [Za] at hin hs ⊢
   obtain ⟨h1, h2, h3⟩ := hok x (by simp)
   obtain ⟨y, hy, hsy⟩ := ZhX e x h1 h2 h3 N i hN (by omega) hI.left
   obtain ⟨ys, hys, hss⟩ := ih (i + (Tb.func x).length) fuel (acc ++ [y]) (by rw [Zo] at hf; omega) (fun z hz => hok z (List.mem_cons_of_mem _ hz)) (by omega) hI.right (by rw [Nat.add_assoc]; exact hs)
   have hsee : Zal l i ⟨#[102, 117, 110, 99]⟩ = true := ZaM (by have := hI.left.first (p := (1, [102, 117, 110, 99])); exact this.2)
   refine ⟨y :: ys, ?_, ?_⟩
   · unfold Zct
     rw [hsee, if_pos rfl, hy]
     show Zct l e N fuel (i + (Tb.func x).length) (acc ++ [y]) = _
     rw [hys, List.append_assoc, Nat.add_assoc]
     rfl
   show (Zaw x y && Zaa Zaw r ys) = true
   rw [hsy, hss]
   rfl
theorem ZeX {α β : Type} (f : α → β → Bool) (z : α) (w : β) (hz : f z w = true) : ∀ (l : List α) (m : List β), Zaa f l m = true → Zaa f (l ++ [z]) (m ++ [w]) = true
 | [], [], _ => by
  show (f z w && true) = true
  rw [hz]
  rfl
 | [], b :: q, e => by cases e
 | a :: r, [], e => by cases e
 | a :: r, b :: q, e => by
  have e : (f a b && Zaa f r q) = true := e
  rw [Bool.and_eq_true] at e
  show (f a b && Zaa f (r ++ [z]) (q ++ [w])) = true
  rw [e.1, ZeX f z w hz r q e.2]
  rfl
theorem Zfq {m n : Nat} : ∀ (xs : List (Tk.FT m n)), xs.length ≤ (xs.flatMap Tb.func).length
 | [] => Nat.zero_le _
 | x :: r => by
  have h := Zfq r
  have h1 : 0 < (Tb.func x).length := by unfold Tb.func; simp
  rw [List.flatMap_cons, Za, Zo]
  omega
theorem Ziv {m n : Nat} (e : Int) (N : Nat) (hN : l.length ≤ N) (r : List (Tk.FT m n)) (z : Tk.FT m n) (hr : ∀ x ∈ r, Tb.Ff x false ∧ Pr.fok x ∧ Zab m x.re ≤ 15) (hz : Tb.Ff z true ∧ Pr.fok z) (hlen : l.length = (r.flatMap Tb.func ++ Tb.main z).length) (hI : Tp.Is l 0 (r.flatMap Tb.func ++ Tb.main z)) :
  ∃ ts, Tp.tree l e N = .ok ts ∧ Zaa Zaw (r ++ [z]) ts = true := by
 rw [Za] at hlen
 have hfp := Zfq r
 have hIm := hI.right
 rw [Nat.zero_add] at hIm
 have hm1 := hIm.first (p := (1, [109, 97, 105, 110]))
 obtain ⟨fs, hfs, hss⟩ := ZhA e N hN r 0 (l.length + 1) [] (by omega) hr (by omega) hI.left (by rw [Nat.zero_add]; exact Zao (by rw [hm1.2]; decide))
 obtain ⟨y, hy, hsy⟩ := Zie e z hz.1 hz.2 N (r.flatMap Tb.func).length hN (by omega) hIm
 refine ⟨fs ++ [y], ?_, ZeX _ z y hsy r fs hss⟩
 unfold Tp.tree
 rw [Nat.zero_add, List.nil_append] at hfs
 simp only [hfs, hy]
 rw [if_neg (by omega)]
end
theorem Zke {s : ByteArray} {m : List (Nat × Nat × Nat)} {ks : List (Nat × List Int)} (h : m.map (fun t => (t.1, ((Tk.B s).drop t.2.1).take t.2.2)) = ks) : Tp.Is (ZaP s m) 0 ks := by
 intro j p hj
 rw [← h, List.getElem?_map] at hj
 cases hm : m[j]? with
 | none => rw [hm] at hj; cases hj
 | some t =>
  rw [hm] at hj
  cases hj
  rw [Nat.zero_add]
  have ht : (ZaP s m)[j]? = some ⟨(t.1 : Int), (t.2.1 : Int), s.extract t.2.1 (t.2.1 + t.2.2)⟩ := by
   unfold ZaP
   rw [List.getElem?_map, hm]
   rfl
  rw [Zci ht]
  exact ⟨rfl, Ze4 s t.2.1 t.2.2⟩
theorem Zmk {m n : Nat} (x : List (Tk.FT m n)) (hc : Zay x = 0) (hsz : (Tt.out x).size ≤ 6000) : ∃ y, Tp.out (Tt.out x) = .ok y ∧ Zaa Zaw x y = true ∧ Zay y = 0 := by
 obtain ⟨r, z, rfl, hok⟩ := Tt.ok_of x hc
 have hw : ZaC (r ++ [z]) = true := by
  unfold Zay at hc
  split at hc
  · cases hc
  split at hc
  · next h => rw [Bool.and_eq_true] at h; exact h.1
  cases hc
 obtain ⟨hf, hz⟩ := ZdP z r hw
 have hFr : ∀ x ∈ r, Tb.Ff x false := fun x hx => Tb.ff x false (hf x hx)
 have hFz := Tb.ff z true hz
 have hO : Tt.out (r ++ [z]) = Pr.by (r.flatMap (Tt.fb false) ++ Tt.fb true z) := by
  unfold Tt.out
  rw [if_pos hc, Zei]
 rw [hO] at hsz ⊢
 generalize hS : Pr.by (r.flatMap (Tt.fb false) ++ Tt.fb true z) = S at *
 have hB : Tk.B S = Tb.I (r.flatMap (Tt.fb false) ++ Tt.fb true z) := by rw [← hS]; rfl
 obtain ⟨ms, h1, h2, h3⟩ := Qp.Sc.tree r z hFr hFz [] 0 []
 rw [← hB] at h1 h3
 have hs : Zah S = (ms, 0, 0) := by
  rw [Zc7 _ hsz, ← List.append_nil (Tk.B S), h1, Tk.scl_nil]
  rfl
 have hk : ms.map (fun t => (t.1, ((Tk.B S).drop t.2.1).take t.2.2)) = r.flatMap Tb.func ++ Tb.main z := by
  rw [← h3]
  refine List.map_congr_left fun t _ => ?_
  rw [List.append_nil, Nat.sub_zero]
 have hlen : (ZaP S ms).length = (r.flatMap Tb.func ++ Tb.main z).length := by
  unfold ZaP
  rw [List.length_map, ← hk, List.length_map]
 have hle := ZdT S (by rw [hs])
 rw [hs] at hle
 obtain ⟨ts, ht, hsm⟩ := Ziv (l := ZaP S ms) (S.size : Int) 6000 hle r z (fun x hx => ⟨hFr x hx, (hok.fok x (List.mem_append_left _ hx)).1, (hok.re x hx).2⟩) ⟨hFz, (hok.fok z (by simp)).1⟩ hlen (Zke hk)
 have hct := (Zjd _ _ hsm).symm.trans hc
 refine ⟨ts, ?_, hsm, hct⟩
 unfold Tp.out
 rw [hs, if_pos rfl]
 show (match Tp.tree (ZaP S ms) (S.size : Int) 6000 with | .error j => _ | .ok x => if Zay x = 0 then _ else _) = _
 rw [ht]
 show (if Zay ts = 0 then _ else _) = _
 rw [if_pos hct]
def Tb.got (s : ByteArray) : List (Tk.FT 61 6000) := match Tp.out s with
 | .ok x => x
 | .error _ => []
def ZcK (s : ByteArray) : Nat := match Tp.out s with
 | .ok _ => 0
 | .error e => e.2
theorem Zdj (s : ByteArray) (h : ZcK s = 0) : Zay (Tb.got s) = 0 := by
 unfold ZcK at h
 unfold Tb.got
 unfold Tp.out at h ⊢
 by_cases h0 : (Zah s).2.2 = 0
 · rw [if_pos h0] at h ⊢
   cases ht : Tp.tree (ZaP s (Zah s).1) (s.size : Int) 6000 with
   | error j => rw [ht] at h; cases h
   | ok x =>
    rw [ht] at h
    dsimp only at h ⊢
    by_cases hc : Zay x = 0
    · rw [if_pos hc]; exact hc
    rw [if_neg hc] at h; exact absurd h hc
 rw [if_neg h0] at h
 exact absurd h h0
theorem ZdO (s : ByteArray) (h : ZcK s ≠ 0) : Tb.got s = [] := by
 unfold ZcK at h
 unfold Tb.got
 cases ho : Tp.out s with
 | ok x => rw [ho] at h; exact absurd rfl h
 | error e => rfl
theorem ZcR {m n : Nat} (x : List (Tk.FT m n)) (hc : Zay x = 0) (hsz : (Tt.out x).size ≤ 6000) : ZcK (Tt.out x) = 0 ∧ Zaa Zaw x (Tb.got (Tt.out x)) = true := by
 obtain ⟨y, h1, h2, _⟩ := Zmk x hc hsz
 unfold ZcK Tb.got
 rw [h1]
 exact ⟨rfl, h2⟩
theorem Zcj (s : ByteArray) (w : World) (hs : s.size ≤ maxLen) : Calls Tryz.prog 13 #[.string s] w fun r w' => (∃ (q : Tk.Sl) (a : Int), r = .returned (.tuple #[.agg #[.slice q.ad q.len q.cap], .int .i64 a, .int .i64 (ZcK s : Nat)]) ∧ Tk.RT w' 61 6000 q (Tb.got s) ∧ q.len ≤ q.cap) ∧ Below w.heap.size w w' := by
 refine (ZgC s w hs).mono ?_
 intro r w' h
 unfold ZcK Tb.got
 cases ho : Tp.out s with
 | ok x =>
  rw [ho] at h
  obtain ⟨⟨q, hr, hrt, hc⟩, hb⟩ := h
  exact ⟨⟨q, 0, hr, hrt, hc⟩, hb⟩
 | error e =>
  rw [ho] at h
  obtain ⟨a, y⟩ := e
  obtain ⟨hr, hb⟩ := h
  exact ⟨⟨⟨none, 0, 0⟩, a, hr, Zav _ _ _ _, Nat.le_refl _⟩, hb⟩
theorem Zc4 {m n : Nat} (l : List (Tk.FT m n)) : (Tt.out l).size ≤ 1000000 := by
 unfold Tt.out
 split
 · next h =>
   obtain ⟨r, z, rfl, hok⟩ := Tt.ok_of l h
   rw [Zei, ZjL, Za]
   exact hok.len
 exact Nat.zero_le _
theorem Zki {m n : Nat} (s : Tk.Sl) (l : List (Tk.FT m n)) (t : ByteArray) (w : World) (hs : Tk.RT w m n s l) (hcap : s.len ≤ s.cap) (ht : t.size ≤ maxLen) (htab : ZdL w) : Calls Tryz.prog 7 #[.agg #[.slice s.ad s.len s.cap], .string t] w fun r w' => r = .returned (.bool true) ∧ Below w.heap.size w w' := by
 have hbA := (Below.refl w.heap.size w).alloc Zl (Obj.cells #[.slice s.ad s.len s.cap] 24)
 have HB := Hd hbA
 have HRS := Hd (Tk.RT.later hs hbA Zl)
 have HTB := Hd (ZbI htab hbA)
 have hsa : (w.alloc (Obj.cells #[.slice s.ad s.len s.cap] 24)).heap.size = w.heap.size + 1 := by simp
 have hc0 : (w.alloc (Obj.cells #[.slice s.ad s.len s.cap] 24)).cell? ⟨w.heap.size, 0, none⟩ = some (.slice s.ad s.len s.cap) := by go_simp
 have HT := Hd ht
 clear hs hbA htab ht
 go_enter Tryz.func7, Tryz.ntmps7
 (try simp only [List.append_eq, List.cons_append, List.nil_append])
 go_upto_region 1 with fail
 generalize w.alloc (Obj.cells #[.slice s.ad s.len s.cap] 24) = wa at *
 have HK0 := Hd (fun (V : World) (hV : Below wa.heap.size wa V) => (hV.cell (p := ⟨w.heap.size, 0, none⟩) (by show w.heap.size < _; omega)).trans hc0)
 go_wp2_with fail
 refine (Zhb wa).mono ?_
 rintro r w1 ⟨rfl, hb1⟩
 have HB1 := Hd hb1
 clear hb1
 go_wp2_with fail
 refine (Zhe w1).mono ?_
 rintro r w2 ⟨rfl, hb2⟩
 have HB2 := Hd ((uh HB1).trans (hb2.mono (uh HB1).size))
 clear hb2
 have x2 := (uh HK0) w2 (uh HB2)
 go_wp2_with fail
 refine (Zfm s l w2 (Tk.RT.later (uh HRS) (uh HB2) Zl) hcap (ZbI (uh HTB) (uh HB2))).mono ?_
 rintro r w3 ⟨rfl, hb3⟩
 have HB3 := Hd ((uh HB2).trans (hb3.mono (uh HB2).size))
 clear hb3
 have hsz := Zc4 l
 have HBK := Hd (ZcR l)
 generalize Tt.out l = tx at *
 generalize Zay l = ck at *
 go_upto_region 4 with fail
 by_cases hA : ck = 0 ∧ tx.size ≤ 6000
 · obtain ⟨h0, h1⟩ := hA
   subst h0
   obtain ⟨b1, b2⟩ := (uh HBK) rfl h1
   have hle : (tx.size : Int) ≤ 6000 := by omega
   have HP := Hd (Zcj tx w3 (by unfold maxLen; omega))
   rw [b1] at HP
   have HSM := Hd b2
   clear b2
   go_wp2_with fail
   refine (uh HP).mono ?_
   rintro r w4 ⟨⟨q, a, rfl, hrt, _⟩, hb4⟩
   have hbN := (Below.refl w4.heap.size w4).alloc Zl (Obj.cells #[.slice q.ad q.len q.cap] 24)
   have HB4 := Hd (((uh HB3).trans (hb4.mono (uh HB3).size)).trans (hbN.mono (by have := (uh HB3).size; have := hb4.size; omega)))
   have HRQ := Hd (Tk.RT.later hrt hbN Zl)
   have x4 := (uh HK0) _ (uh HB4)
   have y4 : (w4.alloc (Obj.cells #[.slice q.ad q.len q.cap] 24)).cell? ⟨w4.heap.size, 0, none⟩ = some (.slice q.ad q.len q.cap) := by go_simp
   clear hrt hb4 hbN
   go_wp2_with fail
   have hQ := Zb0 s q l _ _ (Tk.RT.later (uh HRS) (uh HB4) Zl) (uh HRQ)
   rw [uh HSM] at hQ
   refine hQ.mono ?_
   rintro r w5 ⟨rfl, hb5⟩
   have HBC := Hd ((uh HB4).trans (hb5.mono (uh HB4).size))
   clear hb5 hQ
   go_upto_region 8 with fail
   go_wp2_with fail
   refine (Zcj t _ (uh HT)).mono ?_
   rintro r w6 ⟨⟨q2, a2, rfl, hrt2, hcap2⟩, hb6⟩
   have HB6 := Hd ((uh HBC).trans (hb6.mono (uh HBC).size))
   have hs6 := (uh HB6).size
   have hbN2 := (Below.refl w6.heap.size w6).alloc Zl (Obj.cells #[.slice q2.ad q2.len q2.cap] 24)
   have HB7 := Hd ((uh HB6).trans (hbN2.mono hs6))
   have HR7 := Hd (Tk.RT.later hrt2 hbN2 Zl)
   have HQ2 := Hd hrt2.len
   have y7 : (w6.alloc (Obj.cells #[.slice q2.ad q2.len q2.cap] 24)).cell? ⟨w6.heap.size, 0, none⟩ = some (.slice q2.ad q2.len q2.cap) := by go_simp
   have hs7 : (w6.alloc (Obj.cells #[.slice q2.ad q2.len q2.cap] 24)).heap.size = w6.heap.size + 1 := by simp
   have HCZ := Hd (Zdj t)
   have HCN := Hd (ZdO t)
   clear hb6 hrt2 hbN2
   generalize Tb.got t = u at *
   generalize ZcK t = cs at *
   by_cases hcs : cs = 0
   · subst hcs
     have hu := (uh HCZ) rfl
     have hsz2 := Zc4 u
     have HBK2 := Hd (ZcR u hu)
     have hsh := Zfm q2 u _ (uh HR7) hcap2 (ZbI (uh HTB) (uh HB7))
     rw [hu] at hsh
     have HSH := Hd hsh
     clear hsh hu
     generalize Tt.out u = tx2 at *
     go_wp2_with fail
     generalize (w6.alloc (Obj.cells #[.slice q2.ad q2.len q2.cap] 24)) = w7 at *
     refine (uh HSH).mono ?_
     rintro r w8 ⟨rfl, hb8⟩
     have HB8 := Hd ((uh HB7).trans (hb8.mono (uh HB7).size))
     have HR8 := Hd (Tk.RT.later (uh HR7) hb8 Zl)
     have hs8 := hb8.size
     have y8 := (hb8.cell (p := ⟨w6.heap.size, 0, none⟩) (by show w6.heap.size < _; omega)).trans y7
     clear hb8
     go_wp2_with fail
     refine (Zcj tx2 w8 (by unfold maxLen; omega)).mono ?_
     rintro r w9 ⟨⟨q3, a3, rfl, hrt3, _⟩, hb9⟩
     have hs9 := hb9.size
     have hbN3 := (Below.refl w9.heap.size w9).alloc Zl (Obj.cells #[.slice q3.ad q3.len q3.cap] 24)
     have hb10 := hb9.trans (hbN3.mono hs9)
     have HB10 := Hd ((uh HB8).trans (hb10.mono (uh HB8).size))
     have HR10 := Hd (Tk.RT.later (uh HR8) hb10 Zl)
     have HR11 := Hd (Tk.RT.later hrt3 hbN3 Zl)
     have y10 := (hb10.cell (p := ⟨w6.heap.size, 0, none⟩) (by show w6.heap.size < _; omega)).trans y8
     have z10 : (w9.alloc (Obj.cells #[.slice q3.ad q3.len q3.cap] 24)).cell? ⟨w9.heap.size, 0, none⟩ = some (.slice q3.ad q3.len q3.cap) := by go_simp
     clear hb9 hrt3 hbN3 hb10
     by_cases hbig : tx2.size ≤ 6000
     · obtain ⟨b3, b4⟩ := (uh HBK2) hbig
       rw [b3]
       have hng : ¬ (tx2.size : Int) > 6000 := by omega
       have hsm := Zb0 q2 q3 u _ _ (uh HR10) (uh HR11)
       rw [b4] at hsm
       have HSM2 := Hd hsm
       clear hsm b4
       go_wp2_with fail
       refine (uh HSM2).mono ?_
       rintro r w11 ⟨rfl, hb11⟩
       have HB11 := Hd ((uh HB).trans (((uh HB10).trans (hb11.mono (uh HB10).size)).mono (uh HB).size))
       clear hb11
       go_wp2_with fail
       go_ret
       exact ⟨rfl, uh HB11⟩
     have hng : (tx2.size : Int) > 6000 := by omega
     have HB11 := Hd ((uh HB).trans ((uh HB10).mono (uh HB).size))
     go_wp2_with fail
     go_ret
     exact ⟨rfl, uh HB11⟩
   have hu := (uh HCN) hcs
   have hl0 : q2.len = 0 := by rw [uh HQ2, hu]; rfl
   have hcs0 : ((cs : Int) == 0) = false := by rw [beq_eq_false_iff_ne]; omega
   have hcs1 : ¬ (cs : Int) = 0 := by omega
   rw [hl0] at y7
   rw [hl0]
   have HB11 := Hd ((uh HB).trans ((uh HB7).mono (uh HB).size))
   rw [hl0] at HB11
   go_wp2_with fail
   go_ret
   exact ⟨rfl, uh HB11⟩
 by_cases h0 : ck = 0
 · subst h0
   have hle : ¬ (tx.size : Int) ≤ 6000 := by omega
   have HBC := Hd (uh HB3)
   go_upto_region 8 with fail
   go_wp2_with fail
   refine (Zcj t _ (uh HT)).mono ?_
   rintro r w6 ⟨⟨q2, a2, rfl, hrt2, hcap2⟩, hb6⟩
   have HB6 := Hd ((uh HBC).trans (hb6.mono (uh HBC).size))
   have hs6 := (uh HB6).size
   have hbN2 := (Below.refl w6.heap.size w6).alloc Zl (Obj.cells #[.slice q2.ad q2.len q2.cap] 24)
   have HB7 := Hd ((uh HB6).trans (hbN2.mono hs6))
   have HR7 := Hd (Tk.RT.later hrt2 hbN2 Zl)
   have HQ2 := Hd hrt2.len
   have y7 : (w6.alloc (Obj.cells #[.slice q2.ad q2.len q2.cap] 24)).cell? ⟨w6.heap.size, 0, none⟩ = some (.slice q2.ad q2.len q2.cap) := by go_simp
   have hs7 : (w6.alloc (Obj.cells #[.slice q2.ad q2.len q2.cap] 24)).heap.size = w6.heap.size + 1 := by simp
   have HCZ := Hd (Zdj t)
   have HCN := Hd (ZdO t)
   clear hb6 hrt2 hbN2
   generalize Tb.got t = u at *
   generalize ZcK t = cs at *
   by_cases hcs : cs = 0
   · subst hcs
     have hu := (uh HCZ) rfl
     have hsz2 := Zc4 u
     have HBK2 := Hd (ZcR u hu)
     have hsh := Zfm q2 u _ (uh HR7) hcap2 (ZbI (uh HTB) (uh HB7))
     rw [hu] at hsh
     have HSH := Hd hsh
     clear hsh hu
     generalize Tt.out u = tx2 at *
     go_wp2_with fail
     generalize (w6.alloc (Obj.cells #[.slice q2.ad q2.len q2.cap] 24)) = w7 at *
     refine (uh HSH).mono ?_
     rintro r w8 ⟨rfl, hb8⟩
     have HB8 := Hd ((uh HB7).trans (hb8.mono (uh HB7).size))
     have HR8 := Hd (Tk.RT.later (uh HR7) hb8 Zl)
     have hs8 := hb8.size
     have y8 := (hb8.cell (p := ⟨w6.heap.size, 0, none⟩) (by show w6.heap.size < _; omega)).trans y7
     clear hb8
     go_wp2_with fail
     refine (Zcj tx2 w8 (by unfold maxLen; omega)).mono ?_
     rintro r w9 ⟨⟨q3, a3, rfl, hrt3, _⟩, hb9⟩
     have hs9 := hb9.size
     have hbN3 := (Below.refl w9.heap.size w9).alloc Zl (Obj.cells #[.slice q3.ad q3.len q3.cap] 24)
     have hb10 := hb9.trans (hbN3.mono hs9)
     have HB10 := Hd ((uh HB8).trans (hb10.mono (uh HB8).size))
     have HR10 := Hd (Tk.RT.later (uh HR8) hb10 Zl)
     have HR11 := Hd (Tk.RT.later hrt3 hbN3 Zl)
     have y10 := (hb10.cell (p := ⟨w6.heap.size, 0, none⟩) (by show w6.heap.size < _; omega)).trans y8
     have z10 : (w9.alloc (Obj.cells #[.slice q3.ad q3.len q3.cap] 24)).cell? ⟨w9.heap.size, 0, none⟩ = some (.slice q3.ad q3.len q3.cap) := by go_simp
     clear hb9 hrt3 hbN3 hb10
     by_cases hbig : tx2.size ≤ 6000
     · obtain ⟨b3, b4⟩ := (uh HBK2) hbig
       rw [b3]
       have hng : ¬ (tx2.size : Int) > 6000 := by omega
       have hsm := Zb0 q2 q3 u _ _ (uh HR10) (uh HR11)
       rw [b4] at hsm
       have HSM2 := Hd hsm
       clear hsm b4
       go_wp2_with fail
       refine (uh HSM2).mono ?_
       rintro r w11 ⟨rfl, hb11⟩
       have HB11 := Hd ((uh HB).trans (((uh HB10).trans (hb11.mono (uh HB10).size)).mono (uh HB).size))
       clear hb11
       go_wp2_with fail
       go_ret
       exact ⟨rfl, uh HB11⟩
     have hng : (tx2.size : Int) > 6000 := by omega
     have HB11 := Hd ((uh HB).trans ((uh HB10).mono (uh HB).size))
     go_wp2_with fail
     go_ret
     exact ⟨rfl, uh HB11⟩
   have hu := (uh HCN) hcs
   have hl0 : q2.len = 0 := by rw [uh HQ2, hu]; rfl
   have hcs0 : ((cs : Int) == 0) = false := by rw [beq_eq_false_iff_ne]; omega
   have hcs1 : ¬ (cs : Int) = 0 := by omega
   rw [hl0] at y7
   rw [hl0]
   have HB11 := Hd ((uh HB).trans ((uh HB7).mono (uh HB).size))
   rw [hl0] at HB11
   go_wp2_with fail
   go_ret
   exact ⟨rfl, uh HB11⟩
 have HBC := Hd (uh HB3)
 have hk0 : ((ck : Int) == 0) = false := by rw [beq_eq_false_iff_ne]; omega
 have hk1 : ¬ (ck : Int) = 0 := by omega
 go_upto_region 8 with fail
 go_wp2_with fail
 refine (Zcj t _ (uh HT)).mono ?_
 rintro r w6 ⟨⟨q2, a2, rfl, hrt2, hcap2⟩, hb6⟩
 have HB6 := Hd ((uh HBC).trans (hb6.mono (uh HBC).size))
 have hs6 := (uh HB6).size
 have hbN2 := (Below.refl w6.heap.size w6).alloc Zl (Obj.cells #[.slice q2.ad q2.len q2.cap] 24)
 have HB7 := Hd ((uh HB6).trans (hbN2.mono hs6))
 have HR7 := Hd (Tk.RT.later hrt2 hbN2 Zl)
 have HQ2 := Hd hrt2.len
 have y7 : (w6.alloc (Obj.cells #[.slice q2.ad q2.len q2.cap] 24)).cell? ⟨w6.heap.size, 0, none⟩ = some (.slice q2.ad q2.len q2.cap) := by go_simp
 have hs7 : (w6.alloc (Obj.cells #[.slice q2.ad q2.len q2.cap] 24)).heap.size = w6.heap.size + 1 := by simp
 have HCZ := Hd (Zdj t)
 have HCN := Hd (ZdO t)
 clear hb6 hrt2 hbN2
 generalize Tb.got t = u at *
 generalize ZcK t = cs at *
 by_cases hcs : cs = 0
 · subst hcs
   have hu := (uh HCZ) rfl
   have hsz2 := Zc4 u
   have HBK2 := Hd (ZcR u hu)
   have hsh := Zfm q2 u _ (uh HR7) hcap2 (ZbI (uh HTB) (uh HB7))
   rw [hu] at hsh
   have HSH := Hd hsh
   clear hsh hu
   generalize Tt.out u = tx2 at *
   go_wp2_with fail
   generalize (w6.alloc (Obj.cells #[.slice q2.ad q2.len q2.cap] 24)) = w7 at *
   refine (uh HSH).mono ?_
   rintro r w8 ⟨rfl, hb8⟩
   have HB8 := Hd ((uh HB7).trans (hb8.mono (uh HB7).size))
   have HR8 := Hd (Tk.RT.later (uh HR7) hb8 Zl)
   have hs8 := hb8.size
   have y8 := (hb8.cell (p := ⟨w6.heap.size, 0, none⟩) (by show w6.heap.size < _; omega)).trans y7
   clear hb8
   go_wp2_with fail
   refine (Zcj tx2 w8 (by unfold maxLen; omega)).mono ?_
   rintro r w9 ⟨⟨q3, a3, rfl, hrt3, _⟩, hb9⟩
   have hs9 := hb9.size
   have hbN3 := (Below.refl w9.heap.size w9).alloc Zl (Obj.cells #[.slice q3.ad q3.len q3.cap] 24)
   have hb10 := hb9.trans (hbN3.mono hs9)
   have HB10 := Hd ((uh HB8).trans (hb10.mono (uh HB8).size))
   have HR10 := Hd (Tk.RT.later (uh HR8) hb10 Zl)
   have HR11 := Hd (Tk.RT.later hrt3 hbN3 Zl)
   have y10 := (hb10.cell (p := ⟨w6.heap.size, 0, none⟩) (by show w6.heap.size < _; omega)).trans y8
   have z10 : (w9.alloc (Obj.cells #[.slice q3.ad q3.len q3.cap] 24)).cell? ⟨w9.heap.size, 0, none⟩ = some (.slice q3.ad q3.len q3.cap) := by go_simp
   clear hb9 hrt3 hbN3 hb10
   by_cases hbig : tx2.size ≤ 6000
   · obtain ⟨b3, b4⟩ := (uh HBK2) hbig
     rw [b3]
     have hng : ¬ (tx2.size : Int) > 6000 := by omega
     have hsm := Zb0 q2 q3 u _ _ (uh HR10) (uh HR11)
     rw [b4] at hsm
     have HSM2 := Hd hsm
     clear hsm b4
     go_wp2_with fail
     refine (uh HSM2).mono ?_
     rintro r w11 ⟨rfl, hb11⟩
     have HB11 := Hd ((uh HB).trans (((uh HB10).trans (hb11.mono (uh HB10).size)).mono (uh HB).size))
     clear hb11
     go_wp2_with fail
     go_ret
     exact ⟨rfl, uh HB11⟩
   have hng : (tx2.size : Int) > 6000 := by omega
   have HB11 := Hd ((uh HB).trans ((uh HB10).mono (uh HB).size))
   go_wp2_with fail
   go_ret
   exact ⟨rfl, uh HB11⟩
 have hu := (uh HCN) hcs
 have hl0 : q2.len = 0 := by rw [uh HQ2, hu]; rfl
 have hcs0 : ((cs : Int) == 0) = false := by rw [beq_eq_false_iff_ne]; omega
 have hcs1 : ¬ (cs : Int) = 0 := by omega
 rw [hl0] at y7
 rw [hl0]
 have HB11 := Hd ((uh HB).trans ((uh HB7).mono (uh HB).size))
 rw [hl0] at HB11
 go_wp2_with fail
 go_ret
 exact ⟨rfl, uh HB11⟩
end Go.Proofs.YtfccpddehpgfoaaGreatDoor
