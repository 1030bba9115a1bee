/-
  TEr, TErC, Begun, PlScan, BackJoin. By the verifier.
-/
import Derived.Test.YtfccpddehpgfoaaGreatDoorUE
import Derived.Test.YtfccpddehpgfoaaGreatDoorUC
import Derived.Test.YtfccpddehpgfoaaGreatDoorUB
set_option maxHeartbeats 800000
namespace Go.Proofs.YtfccpddehpgfoaaGreatDoor
open Go.RowKit
set_option linter.unusedVariables false
def Tp.er (l : List Tp.T) : List Tp.T := l.map fun t => ⟨t.k, 0, t.t⟩
def Tk.erE : (n : Nat) → Tk.ET n → Tk.ET n
 | 0, x => x
 | n + 1, x => ((x.1.1, 0, x.1.2.2.1, x.1.2.2.2), x.2.map (Tk.erE n))
def Tk.erC {m : Nat} : (n : Nat) → Tk.CT m n → Tk.CT m n
 | 0, y => y
 | n + 1, y => ((y.1.1, 0, y.1.2.2.1, y.1.2.2.2), (Tk.erE m y.2.1.1, Tk.erE m y.2.1.2.1, y.2.1.2.2.map (Tk.erE m)), (y.2.2.1.map (Tk.erC n), y.2.2.2.map (Tk.erC n)))
def Tk.erF {m n : Nat} (f : Tk.FT m n) : Tk.FT m n := ⟨0, f.nm, f.ps, f.vs, f.cs.map (Tk.erC n), Tk.erE m f.re⟩
def Tp.mp {α β : Type} (f : α → β) : Except Nat (α × Nat) → Except Nat (β × Nat)
 | .error j => .error j
 | .ok p => .ok (f p.1, p.2)
theorem Tp.mp_id {α : Type} (o : Except Nat (α × Nat)) : Tp.mp id o = o := by
 cases o <;> rfl
section
variable (l : List Tp.T)
theorem Tp.er_len : (Tp.er l).length = l.length := by simp [Tp.er]
theorem Tp.er_tk (i : Nat) : Tp.tk (Tp.er l) i = ⟨(Tp.tk l i).k, 0, (Tp.tk l i).t⟩ := by
 unfold Tp.tk Tp.er
 rw [List.getElem?_map]
 cases l[i]? <;> rfl
theorem Tp.er_pl (i : Nat) : Tp.pl (Tp.er l) 0 i = 0 := by
 unfold Tp.pl Tp.er
 rw [List.getElem?_map]
 cases l[i]? <;> rfl
theorem Tp.er_see (i : Nat) (s : ByteArray) : Tp.see (Tp.er l) i s = Tp.see l i s := by unfold Tp.see; rw [Tp.er_tk]
theorem Tp.er_isN (i : Nat) : Tp.isN (Tp.er l) i = Tp.isN l i := by unfold Tp.isN; rw [Tp.er_tk]
theorem Tp.er_want (s : ByteArray) (i : Nat) : Tp.want (Tp.er l) s i = Tp.want l s i := by unfold Tp.want; rw [Tp.er_see]
theorem Tp.er_name (i : Nat) : Tp.name (Tp.er l) i = Tp.name l i := by unfold Tp.name; rw [Tp.er_isN, Tp.er_tk]
theorem Tp.er_number (i : Nat) : Tp.number (Tp.er l) i = Tp.number l i := by unfold Tp.number; rw [Tp.er_tk]
theorem Tp.er_count (i : Nat) : Tp.count (Tp.er l) i = Tp.count l i := by unfold Tp.count; rw [Tp.er_see, Tp.er_number]
theorem Tp.er_opens (s : ByteArray) (b i : Nat) : Tp.opens (Tp.er l) s b i = Tp.opens l s b i := by unfold Tp.opens; rw [Tp.er_want]
theorem Tp.er_isC (i : Nat) : Tp.isC (Tp.er l) i = Tp.isC l i := by unfold Tp.isC; rw [Tp.er_isN, Tp.er_see, Tp.er_see, Tp.er_see]
theorem Tp.er_index {α β : Type} (f : α → β) (rec : Nat → Nat → Except Nat (α × Nat)) (rec' : Nat → Nat → Except Nat (β × Nat)) (h : ∀ b i, rec' b i = Tp.mp f (rec b i)) (b i : Nat) :
  Tp.index (Tp.er l) rec' b i = Tp.mp f (Tp.index l rec b i) := by
 unfold Tp.index
 rw [Tp.er_opens]
 cases Tp.opens l ⟨#[91]⟩ b i with
 | error j => rfl
 | ok i1 =>
  dsimp only
  rw [h]
  cases rec (b + 1) i1 with
  | error j => rfl
  | ok p =>
   obtain ⟨x, j⟩ := p
   dsimp only [Tp.mp]
   rw [Tp.er_want]
   cases Tp.want l ⟨#[93]⟩ j <;> rfl
theorem Tp.er_oper {α β : Type} (f : α → β) (rec : Nat → Nat → Except Nat (α × Nat)) (rec' : Nat → Nat → Except Nat (β × Nat)) (h : ∀ b i, rec' b i = Tp.mp f (rec b i)) (b i : Nat) :
  Tp.oper (Tp.er l) rec' b i = Tp.mp (fun p : Nat × α × α => (p.1, f p.2.1, f p.2.2)) (Tp.oper l rec b i) := by
 unfold Tp.oper
 rw [Tp.er_opens]
 cases Tp.opens l ⟨#[40]⟩ b i with
 | error j => rfl
 | ok i1 =>
  dsimp only
  rw [h]
  cases rec (b + 1) i1 with
  | error j => rfl
  | ok p =>
   obtain ⟨x, j⟩ := p
   dsimp only [Tp.mp]
   rw [Tp.er_tk]
   dsimp only
   by_cases hk : Tp.opK (Tp.tk l j).t = 0
   · rw [if_pos hk, if_pos hk]
   · rw [if_neg hk, if_neg hk, h]
     cases rec (b + 1) (j + 1) with
     | error j' => rfl
     | ok p' =>
      obtain ⟨y, j'⟩ := p'
      dsimp only [Tp.mp]
      rw [Tp.er_want]
      cases Tp.want l ⟨#[41]⟩ j' <;> rfl
theorem Tp.er_exprF (e : Int) {d : Nat} (rec rec' : Nat → Nat → Except Nat (Tk.ET d × Nat)) (h : ∀ b i, rec' b i = Tp.mp (Tk.erE d) (rec b i)) (b i : Nat) :
  Tp.exprF (Tp.er l) 0 rec' b i = Tp.mp (Tk.erE (d + 1)) (Tp.exprF l e rec b i) := by
 unfold Tp.exprF
 rw [Tp.er_see, Tp.er_see, Tp.er_see, Tp.er_isN, Tp.er_pl, Tp.er_oper l (Tk.erE d) rec rec' h, Tp.er_count, Tp.er_index l (Tk.erE d) rec rec' h, Tp.er_number, Tp.er_tk]
 by_cases h1 : Tp.see l i ⟨#[40]⟩ = true
 · rw [if_pos h1, if_pos h1]
   cases Tp.oper l rec b i <;> rfl
 · rw [if_neg h1, if_neg h1]
   by_cases h2 : Tp.see l i ⟨#[45]⟩ = true
   · rw [if_pos h2, if_pos h2]
     cases Tp.count l (i + 1) <;> rfl
   · rw [if_neg h2, if_neg h2]
     by_cases h3 : Tp.isN l i = true
     · rw [if_pos h3, if_pos h3]
       by_cases h4 : Tp.see l (i + 1) ⟨#[91]⟩ = true
       · rw [if_pos h4, if_pos h4]
         cases Tp.index l rec b (i + 1) <;> rfl
       · rw [if_neg h4, if_neg h4]; rfl
     · rw [if_neg h3, if_neg h3]
       cases Tp.number l i <;> rfl
theorem Tp.er_expr (e : Int) : ∀ (d b i : Nat), Tp.expr (Tp.er l) 0 d b i = Tp.mp (Tk.erE d) (Tp.expr l e d b i)
 | 0, _, _ => rfl
 | d + 1, b, i => Tp.er_exprF l e (Tp.expr l e d) (Tp.expr (Tp.er l) 0 d) (Tp.er_expr e d) b i
theorem Tp.er_more {α β : Type} (f : α → β) (thing : Nat → Except Nat (α × Nat)) (thing' : Nat → Except Nat (β × Nat)) (h : ∀ i, thing' i = Tp.mp f (thing i)) : ∀ (k i : Nat) (acc : List α),
  Tp.more (Tp.er l) thing' k i (acc.map f) = Tp.mp (List.map f) (Tp.more l thing k i acc)
 | 0, i, acc => rfl
 | k + 1, i, acc => by
  unfold Tp.more
  rw [Tp.er_see]
  by_cases h1 : Tp.see l i ⟨#[44]⟩ = true
  · rw [if_pos h1, if_pos h1, h]
    cases thing (i + 1) with
    | error j => rfl
    | ok p =>
     obtain ⟨x, j⟩ := p
     dsimp only [Tp.mp]
     have := Tp.er_more f thing thing' h k j (acc ++ [x])
     rw [List.map_append] at this
     exact this
  · rw [if_neg h1, if_neg h1]; rfl
theorem Tp.er_items {α β : Type} (f : α → β) (thing : Nat → Except Nat (α × Nat)) (thing' : Nat → Except Nat (β × Nat)) (h : ∀ i, thing' i = Tp.mp f (thing i)) (i : Nat) :
  Tp.items (Tp.er l) thing' i = Tp.mp (List.map f) (Tp.items l thing i) := by
 unfold Tp.items
 rw [Tp.er_see, Tp.er_len]
 by_cases h1 : Tp.see l i ⟨#[41]⟩ = true
 · rw [if_pos h1, if_pos h1]; rfl
 · rw [if_neg h1, if_neg h1, h]
   cases thing i with
   | error j => rfl
   | ok p => exact Tp.er_more l f thing thing' h (l.length + 1) p.2 [p.1]
theorem Tp.er_list {α β : Type} (f : α → β) (thing : Nat → Except Nat (α × Nat)) (thing' : Nat → Except Nat (β × Nat)) (h : ∀ i, thing' i = Tp.mp f (thing i)) (i : Nat) :
  Tp.list (Tp.er l) thing' i = Tp.mp (List.map f) (Tp.list l thing i) := by
 unfold Tp.list
 rw [Tp.er_want]
 cases Tp.want l ⟨#[40]⟩ i with
 | error j => rfl
 | ok i1 =>
  dsimp only
  rw [Tp.er_items l f thing thing' h]
  cases Tp.items l thing i1 with
  | error j => rfl
  | ok p =>
   obtain ⟨xs, j⟩ := p
   dsimp only [Tp.mp]
   rw [Tp.er_want]
   cases Tp.want l ⟨#[41]⟩ j <;> rfl
theorem Tp.er_vars : ∀ (k i : Nat) (acc : List (ByteArray × Int)), Tp.vars (Tp.er l) k i acc = Tp.vars l k i acc
 | 0, _, _ => rfl
 | k + 1, i, acc => by
  unfold Tp.vars
  rw [Tp.er_see, Tp.er_see, Tp.er_name]
  simp only [Tp.er_want, Tp.er_count, Tp.er_vars k]
theorem Tp.er_cmds {α β : Type} (f : α → β) (rec : Nat → Except Nat (α × Nat)) (rec' : Nat → Except Nat (β × Nat)) (h : ∀ i, rec' i = Tp.mp f (rec i)) : ∀ (k i : Nat) (acc : List α),
  Tp.cmds (Tp.er l) rec' k i (acc.map f) = Tp.mp (List.map f) (Tp.cmds l rec k i acc)
 | 0, i, acc => rfl
 | k + 1, i, acc => by
  unfold Tp.cmds
  rw [Tp.er_isC]
  by_cases h1 : Tp.isC l i = true
  · rw [if_pos h1, if_pos h1, h]
    cases rec i with
    | error j => rfl
    | ok p =>
     obtain ⟨x, j⟩ := p
     dsimp only [Tp.mp]
     have := Tp.er_cmds f rec rec' h k j (acc ++ [x])
     rw [List.map_append] at this
     exact this
  · rw [if_neg h1, if_neg h1]; rfl
theorem Tp.er_block {α β : Type} (f : α → β) (rec : Nat → Except Nat (α × Nat)) (rec' : Nat → Except Nat (β × Nat)) (h : ∀ i, rec' i = Tp.mp f (rec i)) (i : Nat) :
  Tp.block (Tp.er l) rec' i = Tp.mp (List.map f) (Tp.block l rec i) := by
 unfold Tp.block
 rw [Tp.er_want, Tp.er_len]
 cases Tp.want l ⟨#[123]⟩ i with
 | error j => rfl
 | ok i1 =>
  dsimp only
  have h2 := Tp.er_cmds l f rec rec' h (l.length + 1) i1 []
  rw [List.map_nil] at h2
  rw [h2]
  cases Tp.cmds l rec (l.length + 1) i1 [] with
  | error j => rfl
  | ok p =>
   obtain ⟨xs, j⟩ := p
   dsimp only [Tp.mp]
   rw [Tp.er_want]
   cases Tp.want l ⟨#[125]⟩ j <;> rfl
theorem Tp.er_change (e : Int) {n : Nat} (i : Nat) : Tp.change (n := n) (Tp.er l) 0 i = Tp.mp (Tk.erC (n + 1)) (Tp.change (n := n) l e i) := by
 unfold Tp.change
 rw [Tp.er_name]
 cases Tp.name l i with
 | error j => rfl
 | ok p =>
  obtain ⟨nm, i1⟩ := p
  dsimp only
  rw [Tp.er_see, Tp.er_index l (Tk.erE 61) _ _ (Tp.er_expr l e 61), Tp.er_want, Tp.er_pl]
  by_cases h1 : Tp.see l i1 ⟨#[91]⟩ = true
  · rw [if_pos h1, if_pos h1]
    cases Tp.index l (Tp.expr l e 61) 0 i1 with
    | error j => rfl
    | ok q =>
     obtain ⟨x, j⟩ := q
     dsimp only [Tp.mp]
     rw [Tp.er_want]
     cases Tp.want l ⟨#[61]⟩ j with
     | error j' => rfl
     | ok j' =>
      dsimp only
      rw [Tp.er_expr l e]
      cases Tp.expr l e 61 0 j' <;> rfl
  · rw [if_neg h1, if_neg h1]
    cases Tp.want l ⟨#[61]⟩ i1 with
    | error j => rfl
    | ok i2 =>
     dsimp only
     rw [Tp.er_see, Tp.er_see, Tp.er_isN, Tp.er_tk, Tp.er_expr l e, Tp.er_list l (Tk.erE 61) _ _ (Tp.er_expr l e 61 1)]
     by_cases h2 : Tp.see l i2 ⟨#[114, 101, 97, 100]⟩ = true
     · rw [if_pos h2, if_pos h2]; rfl
     · rw [if_neg h2, if_neg h2]
       by_cases h3 : (Tp.isN l i2 && Tp.see l (i2 + 1) ⟨#[40]⟩) = true
       · rw [if_pos h3, if_pos h3]
         cases Tp.list l (Tp.expr l e 61 1) (i2 + 1) <;> rfl
       · rw [if_neg h3, if_neg h3]
         cases Tp.expr l e 61 0 i2 <;> rfl
theorem Tp.er_cmdF (e : Int) {n : Nat} (rec rec' : Nat → Except Nat (Tk.CT 61 n × Nat)) (h : ∀ i, rec' i = Tp.mp (Tk.erC n) (rec i)) (i : Nat) :
  Tp.cmdF (Tp.er l) 0 rec' i = Tp.mp (Tk.erC (n + 1)) (Tp.cmdF l e rec i) := by
 unfold Tp.cmdF
 rw [Tp.er_see, Tp.er_see, Tp.er_see, Tp.er_pl, Tp.er_expr l e, Tp.er_change l e]
 by_cases h1 : Tp.see l i ⟨#[112, 114, 105, 110, 116]⟩ = true
 · rw [if_pos h1, if_pos h1]
   cases Tp.expr l e 61 0 (i + 1) with
   | error j => rfl
   | ok p =>
    obtain ⟨x, j⟩ := p
    dsimp only [Tp.mp]
    rw [Tp.er_want]
    cases Tp.want l ⟨#[59]⟩ j <;> rfl
 · rw [if_neg h1, if_neg h1]
   by_cases h2 : Tp.see l i ⟨#[105, 102]⟩ = true
   · rw [if_pos h2, if_pos h2]
     cases Tp.expr l e 61 0 (i + 1) with
     | error j => rfl
     | ok p =>
      obtain ⟨x, j⟩ := p
      dsimp only [Tp.mp]
      rw [Tp.er_block l (Tk.erC n) rec rec' h]
      cases Tp.block l rec j with
      | error j' => rfl
      | ok p =>
       obtain ⟨th, j'⟩ := p
       dsimp only [Tp.mp]
       rw [Tp.er_see]
       by_cases h3 : Tp.see l j' ⟨#[101, 108, 115, 101]⟩ = true
       · rw [if_pos h3, if_pos h3, Tp.er_block l (Tk.erC n) rec rec' h]
         cases Tp.block l rec (j' + 1) <;> rfl
       · rw [if_neg h3, if_neg h3]; rfl
   · rw [if_neg h2, if_neg h2]
     by_cases h3 : Tp.see l i ⟨#[119, 104, 105, 108, 101]⟩ = true
     · rw [if_pos h3, if_pos h3]
       cases Tp.expr l e 61 0 (i + 1) with
       | error j => rfl
       | ok p =>
        obtain ⟨x, j⟩ := p
        dsimp only [Tp.mp]
        rw [Tp.er_block l (Tk.erC n) rec rec' h]
        cases Tp.block l rec j <;> rfl
     · rw [if_neg h3, if_neg h3]
       cases Tp.change (n := n) l e i with
       | error j => rfl
       | ok p =>
        obtain ⟨x, j⟩ := p
        dsimp only [Tp.mp]
        rw [Tp.er_want]
        cases Tp.want l ⟨#[59]⟩ j <;> rfl
theorem Tp.er_cmd (e : Int) : ∀ (n i : Nat), Tp.cmd (Tp.er l) 0 n i = Tp.mp (Tk.erC n) (Tp.cmd l e n i)
 | 0, _ => rfl
 | n + 1, i => Tp.er_cmdF l e (Tp.cmd l e n) (Tp.cmd (Tp.er l) 0 n) (Tp.er_cmd e n) i
theorem Tp.er_body (e : Int) (n i : Nat) : Tp.body (Tp.er l) 0 n i = Tp.mp (fun p : List (ByteArray × Int) × List (Tk.CT 61 n) => (p.1, p.2.map (Tk.erC n))) (Tp.body l e n i) := by
 unfold Tp.body
 rw [Tp.er_want, Tp.er_len]
 cases Tp.want l ⟨#[123]⟩ i with
 | error j => rfl
 | ok i1 =>
  dsimp only
  rw [Tp.er_vars]
  cases Tp.vars l (l.length + 1) i1 [] with
  | error j => rfl
  | ok p =>
   obtain ⟨vs, i2⟩ := p
   dsimp only
   have h2 := Tp.er_cmds l (Tk.erC n) _ _ (Tp.er_cmd l e n) (l.length + 1) i2 []
   rw [List.map_nil] at h2
   rw [h2]
   cases Tp.cmds l (Tp.cmd l e n) (l.length + 1) i2 [] <;> rfl
theorem Tp.er_func (e : Int) (n i : Nat) : Tp.func (Tp.er l) 0 n i = Tp.mp Tk.erF (Tp.func l e n i) := by
 have hn : ∀ k, Tp.name (Tp.er l) k = Tp.mp id (Tp.name l k) := fun k => by rw [Tp.mp_id, Tp.er_name]
 unfold Tp.func
 rw [Tp.er_want]
 cases Tp.want l ⟨#[102, 117, 110, 99]⟩ i with
 | error j => rfl
 | ok i1 =>
  dsimp only
  rw [Tp.er_name]
  cases Tp.name l i1 with
  | error j => rfl
  | ok p =>
   obtain ⟨nm, i2⟩ := p
   dsimp only
   rw [Tp.er_list l id _ _ hn]
   cases Tp.list l (Tp.name l) i2 with
   | error j => rfl
   | ok p =>
    obtain ⟨ps, i3⟩ := p
    dsimp only [Tp.mp]
    rw [Tp.er_body l e]
    cases Tp.body l e n i3 with
    | error j => rfl
    | ok p =>
     obtain ⟨⟨vs, cs⟩, i4⟩ := p
     dsimp only [Tp.mp]
     rw [Tp.er_want]
     cases Tp.want l ⟨#[114, 101, 116, 117, 114, 110]⟩ i4 with
     | error j => rfl
     | ok i5 =>
      dsimp only
      rw [Tp.er_expr l e]
      cases Tp.expr l e 61 0 i5 with
      | error j => rfl
      | ok p =>
       obtain ⟨x, i6⟩ := p
       dsimp only [Tp.mp]
       rw [Tp.er_want]
       cases Tp.want l ⟨#[59]⟩ i6 with
       | error j => rfl
       | ok i7 =>
        dsimp only
        rw [Tp.er_want]
        cases Tp.want l ⟨#[125]⟩ i7 with
        | error j => rfl
        | ok i8 =>
         dsimp only
         rw [Tp.er_pl, List.map_id]
         rfl
theorem Tp.er_main (e : Int) (n i : Nat) : Tp.main (Tp.er l) 0 n i = Tp.mp Tk.erF (Tp.main l e n i) := by
 unfold Tp.main
 rw [Tp.er_want]
 cases Tp.want l ⟨#[109, 97, 105, 110]⟩ i with
 | error j => rfl
 | ok i1 =>
  dsimp only
  rw [Tp.er_body l e]
  cases Tp.body l e n i1 with
  | error j => rfl
  | ok p =>
   obtain ⟨⟨vs, cs⟩, i2⟩ := p
   dsimp only [Tp.mp]
   rw [Tp.er_want]
   cases Tp.want l ⟨#[125]⟩ i2 with
   | error j => rfl
   | ok i3 =>
    dsimp only
    rw [Tp.er_pl]
    rfl
theorem Tp.er_funs (e : Int) (n : Nat) : ∀ (k i : Nat) (acc : List (Tk.FT 61 n)), Tp.funs (Tp.er l) 0 n k i (acc.map Tk.erF) = Tp.mp (List.map Tk.erF) (Tp.funs l e n k i acc)
 | 0, _, _ => rfl
 | k + 1, i, acc => by
  unfold Tp.funs
  rw [Tp.er_see, Tp.er_func l e]
  by_cases h1 : Tp.see l i ⟨#[102, 117, 110, 99]⟩ = true
  · rw [if_pos h1, if_pos h1]
    cases Tp.func l e n i with
    | error j => rfl
    | ok p =>
     obtain ⟨x, j⟩ := p
     dsimp only [Tp.mp]
     have := Tp.er_funs e n k j (acc ++ [x])
     rw [List.map_append] at this
     exact this
  · rw [if_neg h1, if_neg h1]; rfl
theorem Tp.er_tree (e : Int) (n : Nat) : Tp.tree (Tp.er l) 0 n = match Tp.tree l e n with | .error j => .error j | .ok fs => .ok (fs.map Tk.erF) := by
 unfold Tp.tree
 have h := Tp.er_funs l e n (l.length + 1) 0 []
 rw [List.map_nil] at h
 rw [Tp.er_len, h]
 cases Tp.funs l e n (l.length + 1) 0 [] with
 | error j => rfl
 | ok p =>
  obtain ⟨fs, j⟩ := p
  dsimp only [Tp.mp]
  rw [Tp.er_main l e]
  cases Tp.main l e n j with
  | error j' => rfl
  | ok p =>
   obtain ⟨m, j'⟩ := p
   dsimp only [Tp.mp]
   by_cases hj : j' < l.length
   · rw [if_pos hj, if_pos hj]
   · rw [if_neg hj, if_neg hj]
     dsimp only
     rw [List.map_append]
     rfl
end
theorem Tp.er_same {l m : List Tp.T} (h : Tp.er l = Tp.er m) (e e' : Int) (n : Nat) :
  (match Tp.tree l e n with | .error j => (.error j : Except Nat (List (Tk.FT 61 n))) | .ok fs => .ok (fs.map Tk.erF)) = match Tp.tree m e' n with | .error j => .error j | .ok fs => .ok (fs.map Tk.erF) := by
 rw [← Tp.er_tree l e, ← Tp.er_tree m e', h]
end Go.Proofs.YtfccpddehpgfoaaGreatDoor
namespace Go.Proofs.YtfccpddehpgfoaaGreatDoor
open Go.RowKit
set_option linter.unusedVariables false
theorem Tk.parts_er : ∀ (n : Nat) (x : Tk.ET n), Tk.parts n (Tk.erE n x) = Tk.parts n x
 | 0, _ => rfl
 | n + 1, x => by
  show 1 + ((x.2.map (Tk.erE n)).map (Tk.parts n)).sum = 1 + (x.2.map (Tk.parts n)).sum
  rw [List.map_map]
  congr 2
  exact List.map_congr_left (fun y _ => Tk.parts_er n y)
theorem Tk.all_er {α β : Type} (f : α → β) (p : β → Bool) (q : α → Bool) (h : ∀ x, p (f x) = q x) (l : List α) : (l.map f).all p = l.all q := by
 rw [List.all_map]
 congr 1
 exact funext h
theorem Tk.exprB_er : ∀ (n : Nat) (x : Tk.ET n), Tk.exprB n (Tk.erE n x) = Tk.exprB n x
 | 0, _ => rfl
 | n + 1, x => by
  show Tk.coreB x.1.1 x.1.2.2.1 x.1.2.2.2 (x.2.map (Tk.erE n)).length ((x.2.map (Tk.erE n)).all (Tk.exprB n)) = Tk.coreB x.1.1 x.1.2.2.1 x.1.2.2.2 x.2.length (x.2.all (Tk.exprB n))
  rw [List.length_map, Tk.all_er _ _ _ (Tk.exprB_er n)]
theorem Tk.noE_er : ∀ (n : Nat) (x : Tk.ET n), Tk.noE n (Tk.erE n x) = Tk.noE n x
 | 0, _ => rfl
 | n + 1, x => by
  show (decide (x.1.1 = 0) && decide (x.1.2.2.1 = 0) && x.1.2.2.2.toList.isEmpty && decide ((x.2.map (Tk.erE n)).length = 0)) = _
  rw [List.length_map]
  rfl
theorem Tk.exprFit_er (m : Nat) (x : Tk.ET m) (b : Bool) : Tk.exprFit m (Tk.erE m x) b = Tk.exprFit m x b := by
 unfold Tk.exprFit
 rw [Tk.exprB_er, Tk.noE_er]
theorem Tk.long_er {m n : Nat} (y : Tk.CT m (n + 1)) : Tk.long (Tk.erC (n + 1) y) = Tk.long y := by
 show (decide (3 < (y.2.1.2.2.map (Tk.erE m)).length) || decide (15 < Tk.parts m (Tk.erE m y.2.1.1)) || decide (15 < Tk.parts m (Tk.erE m y.2.1.2.1)) || (y.2.1.2.2.map (Tk.erE m)).any fun e => decide (15 < Tk.parts m e)) = _
 rw [List.length_map, Tk.parts_er, Tk.parts_er, List.any_map]
 unfold Tk.long
 congr 2
 exact funext (fun e => by show decide (15 < Tk.parts m (Tk.erE m e)) = _; rw [Tk.parts_er])
theorem Tk.leftC_er {m : Nat} : ∀ (n : Nat) (deep left : Int) (l : List (Tk.CT m n)), Tk.leftC n deep left (l.map (Tk.erC n)) = Tk.leftC n deep left l
 | 0, _, _, _ => rfl
 | n + 1, deep, left, l => by
  unfold Tk.leftC
  rw [List.foldl_map]
  congr 1
  funext a y
  rw [Tk.long_er]
  show (if a ≤ 0 ∨ 5 < deep ∨ Tk.long y = true then -1 else Tk.leftC n (deep + 1) (Tk.leftC n (deep + 1) (a - 1) (y.2.2.1.map (Tk.erC n))) (y.2.2.2.map (Tk.erC n))) = _
  rw [Tk.leftC_er n, Tk.leftC_er n]
theorem Tk.muchL_er {m n : Nat} : ∀ (left : Int) (l : List (Tk.FT m n)), Tk.muchL left (l.map Tk.erF) = Tk.muchL left l
 | _, [] => rfl
 | left, f :: r => by
  show (decide (3 < f.ps.length) || decide (6 < f.vs.length) || decide (15 < Tk.parts m (Tk.erE m f.re)) || decide (Tk.leftC n 1 left (f.cs.map (Tk.erC n)) < 0) || Tk.muchL (Tk.leftC n 1 left (f.cs.map (Tk.erC n))) (r.map Tk.erF)) = _
  rw [Tk.parts_er, Tk.leftC_er, Tk.muchL_er]
  rfl
theorem Tk.cmdB_er {m : Nat} : ∀ (n : Nat) (y : Tk.CT m n), Tk.cmdB n (Tk.erC n y) = Tk.cmdB n y
 | 0, _ => rfl
 | n + 1, y => by
  unfold Tk.cmdB
  show (match Tk.flds y.1.1 with
   | none => false
   | some (f1, f2, f3, f4, f5, f6, f7) => Tk.fitsB y.1.2.2.1 f1 && Tk.fitsB y.1.2.2.2 f2 && Tk.exprFit m (Tk.erE m y.2.1.1) f3 && Tk.exprFit m (Tk.erE m y.2.1.2.1) f4 && ((y.2.1.2.2.map (Tk.erE m)).all (Tk.exprB m) && (f5 || decide ((y.2.1.2.2.map (Tk.erE m)).length = 0))) &&
    ((y.2.2.1.map (Tk.erC n)).all (Tk.cmdB n) && (f6 || decide ((y.2.2.1.map (Tk.erC n)).length = 0))) && ((y.2.2.2.map (Tk.erC n)).all (Tk.cmdB n) && (f7 || decide ((y.2.2.2.map (Tk.erC n)).length = 0)))) = _
  cases Tk.flds y.1.1 with
  | none => rfl
  | some f =>
   obtain ⟨f1, f2, f3, f4, f5, f6, f7⟩ := f
   simp only [Tk.exprFit_er, Tk.all_er _ _ _ (Tk.exprB_er m), Tk.all_er _ _ _ (Tk.cmdB_er n), List.length_map]
theorem Tk.funB_er {m n : Nat} (f : Tk.FT m n) (b : Bool) : Tk.funB (Tk.erF f) b = Tk.funB f b := by
 show (!(b && decide (0 < f.ps.length)) && f.ps.all Tk.nameB && f.vs.all Tk.varB && Tk.fitsB f.nm (!b) && (f.cs.map (Tk.erC n)).all (Tk.cmdB n) && Tk.exprFit m (Tk.erE m f.re) (!b)) = _
 rw [Tk.exprFit_er, Tk.all_er _ _ _ (Tk.cmdB_er n)]
 rfl
theorem Tk.wellL_er {m n : Nat} : ∀ (l : List (Tk.FT m n)), Tk.wellL (l.map Tk.erF) = Tk.wellL l
 | [] => rfl
 | f :: r => by
  show (Tk.funB (Tk.erF f) (r.map Tk.erF).isEmpty && Tk.wellL (r.map Tk.erF)) = _
  rw [Tk.funB_er, Tk.wellL_er, List.isEmpty_map]
  rfl
theorem Tk.chkT_er {m n : Nat} (l : List (Tk.FT m n)) : Tk.chkT (l.map Tk.erF) = Tk.chkT l := by
 unfold Tk.chkT Tk.much
 rw [List.length_map, Tk.muchL_er, Tk.wellL_er]
end Go.Proofs.YtfccpddehpgfoaaGreatDoor
namespace Go.Proofs.YtfccpddehpgfoaaGreatDoor
open Go.RowKit
set_option linter.unusedVariables false
def Tk.toks (s : ByteArray) (l : List (Nat × Nat × Nat)) : List (Int × Int × ByteArray) := l.map fun t => ((t.1 : Int), (t.2.1 : Int), s.extract t.2.1 (t.2.1 + t.2.2))
theorem Tk.toks_length (s : ByteArray) (l : List (Nat × Nat × Nat)) : (Tk.toks s l).length = l.length := by simp [Tk.toks]
theorem Tk.cells_at (s : ByteArray) (l : List (Nat × Nat × Nat)) : ∀ (i : Nat) (t : Nat × Nat × Nat), l[i]? = some t →
  (Tk.cells s l)[i * 3]? = some (.int .i64 (t.1 : Int)) ∧ (Tk.cells s l)[i * 3 + 1]? = some (.int .i64 (t.2.1 : Int)) ∧ (Tk.cells s l)[i * 3 + 2]? = some (.string (s.extract t.2.1 (t.2.1 + t.2.2))) := by
 induction l with
 | nil => intro i t h; simp at h
 | cons x r ih =>
  intro i t h
  cases i with
  | zero => simp at h; subst h; simp [Tk.cells]
  | succ i =>
   rw [List.getElem?_cons_succ] at h
   obtain ⟨h1, h2, h3⟩ := ih i t h
   have e : Tk.cells s (x :: r) = .int .i64 (x.1 : Int) :: .int .i64 (x.2.1 : Int) :: .string (s.extract x.2.1 (x.2.1 + x.2.2)) :: Tk.cells s r := rfl
   have e0 : (i + 1) * 3 = i * 3 + 1 + 1 + 1 := by omega
   rw [e, e0]
   exact ⟨h1, h2, h3⟩
theorem Tk.add_at (g j : Nat) : (⟨g, 0, none⟩ : Addr).add j = ⟨g, j, none⟩ := by unfold Addr.add; split <;> simp_all
theorem Tk.reads_own {w : World} {base : Nat} {ad : Option Addr} {n cap : Nat} {s : ByteArray} {l : List (Nat × Nat × Nat)} (hs : s.size ≤ maxLen) (h : w.ownsRow base 63 3 (.slice ad n cap) l.length (Tk.cells s l)) :
  Tk.Reads w ad (Tk.toks s l) := by
 refine ⟨fun i t hi => ?_⟩
 unfold Tk.toks at hi
 rw [List.getElem?_map] at hi
 cases hx : l[i]? with
 | none => rw [hx] at hi; cases hi
 | some x =>
  rw [hx] at hi
  simp at hi
  subst hi
  have hn : 0 < l.length := by
   have := (List.getElem?_eq_some_iff.1 hx).1; omega
  obtain ⟨g, cap', hv, hg1, hg2⟩ := h.form hn
  have hc := h.cells (g := g) (by rw [hv]; rfl)
  obtain ⟨h1, h2, h3⟩ := Tk.cells_at s l i x hx
  cases hv
  refine ⟨g, 0, rfl, hg2, ?_, ?_, ?_, ?_⟩
  · have := hc _ _ h1; rw [Nat.zero_add]; rw [Tk.add_at] at this; exact this
  · have := hc _ _ h2; rw [Nat.zero_add]; rw [Tk.add_at] at this; exact this
  · have := hc _ _ h3; rw [Nat.zero_add]; rw [Tk.add_at] at this; exact this
  · show (s.extract _ _).size ≤ maxLen
    rw [ByteArray.size_extract]
    unfold maxLen at hs ⊢
    omega
def Tk.small : ByteArray := ⟨#[97, 98, 32, 61, 61, 32, 55, 59, 35, 120]⟩
theorem Tk.small_scan : Tk.scanR Tk.small = ([(1, 0, 2), (3, 3, 2), (2, 6, 1), (3, 7, 1)], 0, 0) := by decide +kernel
theorem Tk.small_join : Tk.joinR (Tk.toks Tk.small [(1, 0, 2), (3, 3, 2), (2, 6, 1), (3, 7, 1)]) = (⟨#[97, 98, 32, 61, 61, 32, 55, 32, 59]⟩, 0) := by decide +kernel
theorem Tk.small_two : Tk.small.extract 3 5 = ⟨#[61, 61]⟩ := by decide +kernel
theorem tokenBegun_any (w : World) : Calls Tryz.prog 12 #[] w fun e w' => e = .returned (.bool true) ∧ Below w.heap.size w w' := by
 go_enter Tryz.func12, Tryz.ntmps12
 go_wp2_with fail
 refine (Scan_any Tk.small _ (by unfold maxLen; decide)).mono ?_
 rintro e w1 ⟨v, rfl, ho, hb⟩
 rw [Tk.small_scan] at ho ⊢
 obtain ⟨g, cap, rfl, hg1, hg2⟩ := ho.form (by decide)
 have hrd := Tk.reads_own (by unfold maxLen; decide) ho
 have c3 : w1.cell? ⟨g, 3, none⟩ = some (.int .i64 3) := ho.cells (g := g) rfl 3 _ rfl
 have c4 : w1.cell? ⟨g, 4, none⟩ = some (.int .i64 3) := ho.cells (g := g) rfl 4 _ rfl
 have c5 : w1.cell? ⟨g, 5, none⟩ = some (.string ⟨#[61, 61]⟩) := ho.cells (g := g) rfl 5 _ (by rw [← Tk.small_two]; rfl)
 have HRD := hide hrd
 have HB := hide hb
 have hz := hb.size
 clear ho hb hrd
 go_wp2_with fail
 refine (Join_any (Tk.toks Tk.small [(1, 0, 2), (3, 3, 2), (2, 6, 1), (3, 7, 1)]) (some ⟨g, 0, none⟩) cap _ (unhide HRD) (by decide)).mono ?_
 rintro e w2 ⟨rfl, hb2⟩
 rw [Tk.small_join]
 have d3 : w2.cell? ⟨g, 3, none⟩ = some (.int .i64 3) := (hb2.cell (p := ⟨g, 3, none⟩) hg2).trans c3
 have d4 : w2.cell? ⟨g, 4, none⟩ = some (.int .i64 3) := (hb2.cell (p := ⟨g, 4, none⟩) hg2).trans c4
 have d5 : w2.cell? ⟨g, 5, none⟩ = some (.string ⟨#[61, 61]⟩) := (hb2.cell (p := ⟨g, 5, none⟩) hg2).trans c5
 have HB2 := hide hb2
 clear hb2 c3 c4 c5
 go_wp2_with fail
 go_ret
 exact ⟨rfl, (unhide HB).trans ((unhide HB2).mono hz)⟩
end Go.Proofs.YtfccpddehpgfoaaGreatDoor
namespace Go.Proofs.YtfccpddehpgfoaaGreatDoor
open Go.RowKit
set_option linter.unusedVariables false
theorem Tk.scanR_6000 (s : ByteArray) (h : (Tk.scanR s).2.2 = 0) : s.size ≤ 6000 := by
 apply Classical.byContradiction; intro hh
 have : Tk.scanR s = ([], 0, 2) := by unfold Tk.scanR; rw [if_pos (by omega)]
 rw [this] at h; cases h
theorem Tk.scanR_ord (s : ByteArray) (h : (Tk.scanR s).2.2 = 0) : Tk.ordd s.size 0 (Tk.scanR s).1 := by
 have hs := Tk.scanR_6000 s h
 rw [Tk.scanR_small s hs] at h ⊢
 obtain ⟨m, h1, h2⟩ := Tk.scl_ord (Tk.B s) 0 0 false [] (Nat.zero_le _) h
 rw [h1]
 simpa [Tk.B_length] using h2
theorem Tk.scanR_err (s : ByteArray) (h : (Tk.scanR s).2.2 ≠ 0) : (Tk.scanR s).1 = [] := by
 by_cases hs : s.size ≤ 6000
 · rw [Tk.scanR_small s hs] at h ⊢; exact Tk.scl_err _ _ _ _ _ h
 · unfold Tk.scanR; rw [if_pos (by omega)]
theorem Tk.Reads.drewN {w : World} {ad : Option Addr} {l : List (Int × Int × ByteArray)} (h : Tk.Reads w ad l) (n : Nat) : Tk.Reads (w.drewN n) ad l := h.later (below_drewN (Below.refl w.heap.size w) n) (Nat.le_refl _)
theorem Tk.scanR_length (s : ByteArray) : (Tk.scanR s).1.length ≤ 6000 := by
 by_cases h : (Tk.scanR s).2.2 = 0
 · have h1 := Tk.scanR_6000 s h
   have := Tk.ordd_length _ _ _ (Nat.zero_le _) (Tk.scanR_ord s h)
   omega
 · rw [Tk.scanR_err s h]; exact Nat.zero_le _
theorem Tk.joinR_size (l : List (Int × Int × ByteArray)) : (Tk.joinR l).1.size ≤ maxLen := by
 unfold Tk.joinR maxLen
 split
 · split
   · exact Nat.zero_le _
   · show (Tk.jnTo l l.length).toArray.size ≤ _
     rw [List.size_toArray]; omega
 · exact Nat.zero_le _
end Go.Proofs.YtfccpddehpgfoaaGreatDoor
namespace Go.Proofs.YtfccpddehpgfoaaGreatDoor
open Go.RowKit
set_option linter.unusedVariables false
def Tk.L (l : List UInt8) : List Int := l.map fun c => (c.toNat : Int)
theorem Tk.B_mk (l : List UInt8) : Tk.B ⟨l.toArray⟩ = Tk.L l := rfl
theorem Tk.B_L (s : ByteArray) : Tk.B s = Tk.L s.data.toList := rfl
theorem Tk.L_append (a b : List UInt8) : Tk.L (a ++ b) = Tk.L a ++ Tk.L b := by simp [Tk.L]
theorem Tk.L_length (a : List UInt8) : (Tk.L a).length = a.length := by simp [Tk.L]
def Tk.jt : Bool → List (Int × Int × ByteArray) → List UInt8
 | _, [] => []
 | first, t :: r => (if first then [] else [32]) ++ (t.2.2.data.toList ++ Tk.jt false r)
def Tk.pt : Bool → Nat → List (Int × Int × ByteArray) → List (Nat × Nat × Nat)
 | _, _, [] => []
 | first, pos, t :: r => (Tk.tokK (Tk.B t.2.2), pos + (if first then 0 else 1), t.2.2.size) :: Tk.pt false (pos + (if first then 0 else 1) + t.2.2.size) r
theorem Tk.jt_apart (r : List (Int × Int × ByteArray)) : Tk.apart (Tk.L (Tk.jt false r)) := by
 cases r with
 | nil => exact Or.inl rfl
 | cons t r => exact Or.inr ⟨Tk.L (t.2.2.data.toList ++ Tk.jt false r), rfl⟩
theorem Tk.jn_jt (l : List (Int × Int × ByteArray)) : ∀ k, k ≤ l.length → Tk.jnTo l k ++ Tk.jt (decide (k = 0)) (l.drop k) = Tk.jt true l := by
 intro k
 induction k with
 | zero => intro _; rfl
 | succ k ih =>
  intro hk
  have hlt : k < l.length := by omega
  have hx := List.getElem?_eq_getElem hlt
  have hd := List.drop_eq_getElem_cons hlt
  generalize l[k] = t at *
  rw [Tk.jnTo_step l k t hx, ← ih (by omega), hd]
  have e1 : decide (k + 1 = 0) = false := by simp
  rw [e1, List.append_assoc, List.append_assoc]
  by_cases h0 : k = 0
  · subst h0
    simp [Tk.jt]
  · rw [if_neg h0, decide_eq_false h0]
    simp [Tk.jt]
theorem Tk.jn_all (l : List (Int × Int × ByteArray)) : Tk.jnTo l l.length = Tk.jt true l := by
 have := Tk.jn_jt l l.length (Nat.le_refl _)
 rw [List.drop_length] at this
 simpa [Tk.jt] using this
theorem Tk.scan_jt : ∀ (l : List (Int × Int × ByteArray)) (first : Bool) (pos : Nat) (acc : List (Nat × Nat × Nat)), (∀ t ∈ l, Tk.isTok t.1 (Tk.B t.2.2) = true) →
  Tk.scl (Tk.L (Tk.jt first l)) pos 0 false acc = (acc ++ Tk.pt first pos l, 0, 0) := by
 intro l
 induction l with
 | nil => intro first pos acc _; show Tk.scl [] pos 0 false acc = _; rw [Tk.scl_nil]; simp [Tk.pt]
 | cons t r ih =>
  intro first pos acc h
  obtain ⟨_, hg, hb, hk, hn⟩ := (Tk.isTok_iff _ _).1 (h t (by simp))
  have hr := fun u hu => h u (List.mem_cons_of_mem _ hu)
  have hsz : (Tk.B t.2.2).length = t.2.2.size := Tk.B_length _
  have body : ∀ p acc, Tk.scl (Tk.B t.2.2 ++ Tk.L (Tk.jt false r)) p 0 false acc = (acc ++ ((Tk.tokK (Tk.B t.2.2), p, t.2.2.size) :: Tk.pt false (p + t.2.2.size) r), 0, 0) := by
   intro p acc
   cases hB : Tk.B t.2.2 with
   | nil => rw [hB] at hb; cases hb
   | cons c q =>
    rw [hB] at hg hb hn hsz
    obtain ⟨a1, a2, a3⟩ := Tk.tok_apart c q _ (Tk.jt_apart r) hn hb
    rw [List.cons_append] at a1 a2 a3 ⊢
    rw [Tk.scl_tok c _ p acc ((Tk.gap_free c q).1 hg) a3, a1, a2, hsz]
    rw [← List.cons_append, List.drop_append_of_le_length (by omega), ← hsz, List.drop_length, List.nil_append, hsz, ih false _ _ hr]
    simp
  cases first
  · have e : Tk.L (Tk.jt false (t :: r)) = 32 :: (Tk.B t.2.2 ++ Tk.L (Tk.jt false r)) := by
     show Tk.L ([32] ++ (t.2.2.data.toList ++ Tk.jt false r)) = _
     rw [Tk.L_append, Tk.L_append]; rfl
    rw [e, Tk.scl_blank 32 _ _ _ (by decide) (by decide), body]
    rfl
  · have e : Tk.L (Tk.jt true (t :: r)) = Tk.B t.2.2 ++ Tk.L (Tk.jt false r) := by
     show Tk.L ([] ++ (t.2.2.data.toList ++ Tk.jt false r)) = _
     rw [List.nil_append, Tk.L_append]; rfl
    rw [e, body]
    rfl
theorem Tk.pt_length : ∀ (l : List (Int × Int × ByteArray)) (first : Bool) (pos : Nat), (Tk.pt first pos l).length = l.length := by
 intro l
 induction l with
 | nil => intro _ _; rfl
 | cons t r ih => intro first pos; show (Tk.pt false _ r).length + 1 = _; rw [ih]; rfl
theorem Tk.pt_text : ∀ (l : List (Int × Int × ByteArray)) (first : Bool) (pre : List UInt8) (i : Nat) (t : Int × Int × ByteArray) (u : Nat × Nat × Nat), l[i]? = some t → (Tk.pt first pre.length l)[i]? = some u →
  u.1 = Tk.tokK (Tk.B t.2.2) ∧ u.2.2 = t.2.2.size ∧ ((pre ++ Tk.jt first l).drop u.2.1).take u.2.2 = t.2.2.data.toList := by
 intro l
 induction l with
 | nil => intro _ _ i t u h; simp at h
 | cons x r ih =>
  intro first pre i t u ht hu
  have hx : x.2.2.data.toList.length = x.2.2.size := by rw [Array.length_toList]; rfl
  cases i with
  | zero =>
   simp at ht
   subst ht
   have hu' : some (Tk.tokK (Tk.B x.2.2), pre.length + (if first then 0 else 1), x.2.2.size) = some u := hu
   injection hu' with hu'
   subst hu'
   refine ⟨rfl, rfl, ?_⟩
   show ((pre ++ ((if first then [] else [32]) ++ (x.2.2.data.toList ++ Tk.jt false r))).drop (pre.length + (if first then 0 else 1))).take x.2.2.size = _
   rw [← List.append_assoc pre]
   have hl : (pre ++ (if first then [] else [32]) : List UInt8).length = pre.length + (if first then 0 else 1) := by cases first <;> simp
   rw [← hl, List.drop_left, ← hx, List.take_left]
  | succ i =>
   rw [List.getElem?_cons_succ] at ht
   have hu' : (Tk.pt false (pre.length + (if first then 0 else 1) + x.2.2.size) r)[i]? = some u := hu
   have hl : (pre ++ (if first then [] else [32]) ++ x.2.2.data.toList : List UInt8).length = pre.length + (if first then 0 else 1) + x.2.2.size := by cases first <;> simp [hx] <;> omega
   rw [← hl] at hu'
   obtain ⟨h1, h2, h3⟩ := ih false _ i t u ht hu'
   refine ⟨h1, h2, ?_⟩
   have e : pre ++ Tk.jt first (x :: r) = pre ++ (if first then [] else [32]) ++ x.2.2.data.toList ++ Tk.jt false r := by
    show pre ++ ((if first then [] else [32]) ++ (x.2.2.data.toList ++ Tk.jt false r)) = _
    simp only [List.append_assoc]
   rw [e]
   exact h3
theorem Tk.join_scan (l : List (Int × Int × ByteArray)) (h : (Tk.joinR l).2 = 0) :
  (Tk.scanR (Tk.joinR l).1).2.2 = 0 ∧ (Tk.toks (Tk.joinR l).1 (Tk.scanR (Tk.joinR l).1).1).length = l.length ∧
  ∀ (i : Nat) t u, l[i]? = some t → (Tk.toks (Tk.joinR l).1 (Tk.scanR (Tk.joinR l).1).1)[i]? = some u → t.1 = u.1 ∧ t.2.2 = u.2.2 := by
 have hat : Tk.allTok l = true := by
  cases ha : Tk.allTok l
  · unfold Tk.joinR at h; rw [ha] at h; cases h
  · rfl
 have h6 : ¬ 6000 < (Tk.jnTo l l.length).length := by
  intro hh; unfold Tk.joinR at h; rw [hat, if_pos rfl, if_pos hh] at h; cases h
 have hR : Tk.joinR l = (⟨(Tk.jnTo l l.length).toArray⟩, 0) := by unfold Tk.joinR; rw [hat, if_pos rfl, if_neg h6]
 have hall : ∀ t ∈ l, Tk.isTok t.1 (Tk.B t.2.2) = true := List.all_eq_true.1 hat
 rw [hR, Tk.jn_all]
 rw [Tk.jn_all] at h6
 have hsc := Tk.scan_jt l true 0 [] hall
 have hs : Tk.scanR ⟨(Tk.jt true l).toArray⟩ = (Tk.pt true 0 l, 0, 0) := by
  rw [Tk.scanR_small _ (by show (Tk.jt true l).toArray.size ≤ 6000; rw [List.size_toArray]; omega), Tk.B_mk, hsc]
  simp
 rw [hs]
 refine ⟨rfl, by rw [Tk.toks_length, Tk.pt_length], ?_⟩
 intro i t u ht hu
 unfold Tk.toks at hu
 rw [List.getElem?_map] at hu
 cases hx : (Tk.pt true 0 l)[i]? with
 | none => rw [hx] at hu; cases hu
 | some x =>
  rw [hx] at hu
  simp at hu
  subst hu
  obtain ⟨h1, h2, h3⟩ := Tk.pt_text l true [] i t x ht hx
  have hk := ((Tk.isTok_iff _ _).1 (hall t (List.mem_of_getElem? ht))).2.2.2.1
  refine ⟨by rw [h1]; exact hk.symm, ?_⟩
  show t.2.2 = (⟨(Tk.jt true l).toArray⟩ : ByteArray).extract x.2.1 (x.2.1 + x.2.2)
  rw [Lib.extract_eq]
  apply ByteArray.ext
  show t.2.2.data = _
  rw [Nat.add_sub_cancel_left]
  rw [List.nil_append] at h3
  show t.2.2.data = (((Tk.jt true l).drop x.2.1).take x.2.2).toArray
  rw [h3]
theorem Tk.scan_join (s : ByteArray) (h : (Tk.scanR s).2.2 = 0) : (Tk.joinR (Tk.toks s (Tk.scanR s).1)).2 = 0 ∨ (Tk.joinR (Tk.toks s (Tk.scanR s).1)).2 = 2 := by
 have hs := Tk.scanR_6000 s h
 have hat : Tk.allTok (Tk.toks s (Tk.scanR s).1) = true := by
  unfold Tk.allTok Tk.toks
  rw [List.all_eq_true]
  intro t ht
  obtain ⟨x, hx, rfl⟩ := List.mem_map.1 ht
  rw [Tk.scanR_small s hs] at h hx
  obtain ⟨m, h1, h2⟩ := Tk.scl_toks (Tk.B s) 0 0 false [] h
  rw [h1, List.nil_append] at hx
  obtain ⟨j, hj, hk⟩ := h2 x hx
  have e : Tk.B (s.extract x.2.1 (x.2.1 + x.2.2)) = ((Tk.B s).drop j).take x.2.2 := by
   rw [Tk.B_L, Lib.extract_data, Tk.B_L, Nat.add_sub_cancel_left, hj, Nat.zero_add]
   simp [Tk.L, List.map_take, List.map_drop]
  show Tk.isTok (x.1 : Int) (Tk.B (s.extract x.2.1 (x.2.1 + x.2.2))) = true
  rw [e]; exact hk
 unfold Tk.joinR
 rw [hat, if_pos rfl]
 split
 · exact Or.inr rfl
 · exact Or.inl rfl
end Go.Proofs.YtfccpddehpgfoaaGreatDoor
