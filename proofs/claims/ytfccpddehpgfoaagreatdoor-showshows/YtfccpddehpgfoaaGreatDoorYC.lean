/-
  SR2, SR3. By the verifier.
-/
import Derived.Test.YtfccpddehpgfoaaGreatDoorXC
import Derived.Test.YtfccpddehpgfoaaGreatDoorYA
set_option maxRecDepth 100000
set_option maxHeartbeats 800000
namespace Go.Proofs.YtfccpddehpgfoaaGreatDoor
open Go.RowKit
set_option linter.unusedVariables false
theorem Pr.join_last (sep : List UInt8) (y : List UInt8) : ∀ (xs : List (List UInt8)), xs ≠ [] → Lib.join (xs ++ [y]) sep = Lib.join xs sep ++ sep ++ y
 | [], h => absurd rfl h
 | [x], _ => by
  show List.intercalate sep [x, y] = _
  rw [Lib.join_one, List.intercalate_cons_cons]
  have e : List.intercalate sep [y] = y := Lib.join_one y sep
  rw [e, List.append_assoc]
 | x :: z :: r, _ => by
  have ih := Pr.join_last sep y (z :: r) (by simp)
  unfold Lib.join at ih ⊢
  rw [List.cons_append, List.cons_append, List.intercalate_cons_cons, List.intercalate_cons_cons, ← List.cons_append, ih]
  simp [List.append_assoc]
theorem Pr.ba_ext {a b : ByteArray} (h : a.data.toList = b.data.toList) : a = b := ByteArray.ext (Array.toList_inj.1 h)
theorem Pr.ba_app (a b : ByteArray) : (a ++ b).data.toList = a.data.toList ++ b.data.toList := by rw [ByteArray.data_append, Array.toList_append]
theorem Pr.commas_list (l : List ByteArray) : (Pr.commas l).data.toList = Lib.join (l.map (·.data.toList)) [44, 32] := rfl
theorem Pr.commas_one (l : List ByteArray) (t : ByteArray) (h : l[0]? = some t) : ⟨#[]⟩ ++ t = Pr.commas (l.take (0 + 1)) := by
 rw [List.take_add_one, h]
 refine Pr.ba_ext ?_
 rw [Pr.ba_app, Pr.commas_list]
 show [] ++ t.data.toList = Lib.join [t.data.toList] [44, 32]
 rw [Lib.join_one, List.nil_append]
theorem Pr.commas_more (l : List ByteArray) (i : Nat) (t : ByteArray) (h : l[i]? = some t) (hi : 0 < i) : (Pr.commas (l.take i) ++ ⟨#[44, 32]⟩) ++ t = Pr.commas (l.take (i + 1)) := by
 have hlt := (List.getElem?_eq_some_iff.1 h).1
 rw [List.take_add_one, h]
 refine Pr.ba_ext ?_
 rw [Pr.ba_app, Pr.ba_app, Pr.commas_list, Pr.commas_list, List.map_append]
 show _ = Lib.join ((l.take i).map (·.data.toList) ++ [t.data.toList]) [44, 32]
 rw [Pr.join_last _ _ _ (by intro he; have := congrArg List.length he; rw [List.length_map, List.length_take, List.length_nil] at this; omega)]
theorem Pr.commas_few (ts : List ByteArray) (i : Nat) (h : ∀ t ∈ ts, t.size ≤ 2000) (hn : ts.length ≤ 1000) : (Pr.commas (ts.take i)).size ≤ 2002000 := by
 have h1 := Pr.join_le (ts.take i) (fun t ht => h t (List.mem_of_mem_take ht))
 have h2 : (Pr.commas (ts.take i)).size = (Lib.join ((ts.take i).map (·.data.toList)) [44, 32]).length := by unfold Pr.commas; exact List.size_toArray
 have h3 : (ts.take i).length ≤ 1000 := by rw [List.length_take]; omega
 have h4 : 2002 * (ts.take i).length ≤ 2002 * 1000 := Nat.mul_le_mul_left _ h3
 omega
theorem refCommas_any (ad : Option Addr) (cap : Nat) (l : List ByteArray) (w : World) (hc : ∀ i t, l[i]? = some t → ∃ b o, ad = some ⟨b, o, none⟩ ∧ w.cell? ⟨b, o + i, none⟩ = some (.string t)) (hfew : l.length ≤ 1000) (hsz : ∀ t ∈ l, t.size ≤ 2000) :
  Calls Tryz.prog 40 #[.slice ad l.length cap] w fun r w' => r = .returned (.string (Pr.commas l)) ∧ w' = w := by
 have HC := hide hc
 have HSZ := hide hsz
 have HF := hide hfew
 clear hc hsz hfew
 go_enter Tryz.func40, Tryz.ntmps40
 go_wp2_with fail
 go_loopw [3, 4] (fun sv iv wr => ∃ i : Nat, i ≤ l.length ∧ iv = .int .i64 i ∧ sv = .string (Pr.commas (l.take i)) ∧ wr = w) (fun _ iv _ => l.length - (intOf iv).toNat)
 case atStart => exact ⟨0, Nat.zero_le _, rfl, rfl, rfl⟩
 case round =>
  obtain ⟨i, hi, rfl, rfl, rfl⟩ := hrel
  by_cases hlt : i < l.length
  · have hy := List.getElem?_eq_getElem hlt
    obtain ⟨b, o, rfl, a0⟩ := (unhide HC) i _ hy
    have ht := (unhide HSZ) l[i] (List.getElem_mem hlt)
    have hfw := unhide HF
    have hs0 := Pr.commas_few l i (unhide HSZ) hfw
    have h1 := Pr.commas_one l
    have h2 := Pr.commas_more l i l[i] hy
    generalize l[i] = t at *
    have hi0 : (0 : Int) ≤ (i : Int) := by omega
    have hi1 : (i : Int) < (l.length : Int) := by omega
    by_cases hz : i = 0
    · subst hz
      have h3 := h1 t hy
      have hg : ¬ ((0 : Nat) : Int) > 0 := by omega
      have e0 : Pr.commas (l.take 0) = ⟨#[]⟩ := rfl
      rw [e0]
      rw [Nat.add_zero] at a0
      have z0 : (⟨#[]⟩ : ByteArray).size = 0 := rfl
      have a2 : ∀ W : World, (Op.stringOp .add ⟨#[]⟩ t).run Tryz.prog W = .ok (.string (Pr.commas (l.take (0 + 1)))) W := fun W => by rw [← h3]; exact run_string_add_sum W _ _ (by omega)
      obtain ⟨R, hR⟩ : ∃ R, R = Pr.commas (l.take (0 + 1)) := ⟨_, rfl⟩
      rw [← hR] at a2
      have HR := hide hR
      clear h1 h2 h3 hy hR
      go_wp2_with fail
      exact ⟨⟨0 + 1, by omega, by go_num, by rw [unhide HR], by first | rfl | trivial⟩, by simp [intOf]; omega⟩
    · have h3 := h2 (by omega)
      have hg : (i : Int) > 0 := by omega
      have z0 : (⟨#[44, 32]⟩ : ByteArray).size = 2 := rfl
      have a1 : ∀ W : World, (Op.stringOp .add (Pr.commas (l.take i)) ⟨#[44, 32]⟩).run Tryz.prog W = .ok (.string (Pr.commas (l.take i) ++ ⟨#[44, 32]⟩)) W := fun W => run_string_add_sum W _ _ (by omega)
      have a2 : ∀ W : World, (Op.stringOp .add (Pr.commas (l.take i) ++ ⟨#[44, 32]⟩) t).run Tryz.prog W = .ok (.string ((Pr.commas (l.take i) ++ ⟨#[44, 32]⟩) ++ t)) W := fun W => run_string_add_sum W _ _ (by rw [ByteArray.size_append]; omega)
      have HR := hide h3
      generalize Pr.commas (l.take i) = S at *
      clear h1 h2 h3 hy
      go_wp2_with fail
      exact ⟨⟨i + 1, by omega, by go_num, by rw [unhide HR], by first | rfl | trivial⟩, by simp [intOf]; omega⟩
  · have e : i = l.length := by omega
    subst e
    rw [List.take_length]
    go_wp2_with fail
    go_ret
    exact ⟨rfl, rfl⟩
theorem refCommas_own (B : Nat) (v : Value) (ts : List ByteArray) (w : World) (h : w.ownsRow B 9 1 v ts.length (ts.map Value.string)) (hlen : ts.length ≤ 1000) (hsz : ∀ t ∈ ts, t.size ≤ 2000) :
  Calls Tryz.prog 40 #[v] w fun r w' => r = .returned (.string (Pr.commas ts)) ∧ Below w.heap.size w w' := by
 have hm : ∀ {r w'}, (r = Ending.returned (.string (Pr.commas ts)) ∧ w' = w) → r = .returned (.string (Pr.commas ts)) ∧ Below w.heap.size w w' := fun ⟨h1, h2⟩ => ⟨h1, by rw [h2]; exact Below.refl _ _⟩
 rcases h.2 with ⟨hv, hz⟩ | ⟨g, cap, cur, hv, hg, hh, hnc, r⟩
 · have h0 : ts = [] := List.eq_nil_of_length_eq_zero hz
   subst h0
   subst hv
   exact (refCommas_any none 0 [] w (fun i t ht => by simp at ht) (by decide) hsz).mono fun _ _ => hm
 · subst hv
   refine (refCommas_any (some ⟨g, 0, none⟩) cap ts w (fun j x hx => ?_) hlen hsz).mono fun _ _ => hm
   have hjl := (List.getElem?_eq_some_iff.1 hx).1
   refine ⟨g, 0, rfl, ?_⟩
   rw [Nat.zero_add, h.cellAt j (by omega), List.getElem?_map, hx]
   rfl
end Go.Proofs.YtfccpddehpgfoaaGreatDoor
namespace Go.Proofs.YtfccpddehpgfoaaGreatDoor
open Go.RowKit
set_option linter.unusedVariables false
def Pr.by (l : List UInt8) : ByteArray := ⟨l.toArray⟩
def Pr.bl (k : Nat) : ByteArray := Pr.by (List.replicate k 32)
theorem Pr.by_list (l : List UInt8) : (Pr.by l).data.toList = l := rfl
theorem Pr.bl_list (k : Nat) : (Pr.bl k).data.toList = List.replicate k 32 := rfl
theorem Pr.by_size (l : List UInt8) : (Pr.by l).size = l.length := List.size_toArray
theorem Pr.bl_size (k : Nat) : (Pr.bl k).size = k := (Pr.by_size _).trans List.length_replicate
theorem Pr.bl_two (k : Nat) : Pr.bl k ++ ⟨#[32, 32]⟩ = Pr.bl (k + 2) := by
 refine Pr.ba_ext ?_
 rw [Pr.ba_app, Pr.bl_list, Pr.bl_list, List.replicate_succ', List.replicate_succ']
 simp
section
variable (num : Int → ByteArray) {m n : Nat} (A : List UInt8) (k : Nat) (nm ot : ByteArray)
theorem Pr.t_set (x : Tk.ET m) : Pr.by A ++ ((((Pr.bl k ++ nm) ++ ⟨#[32, 61, 32]⟩) ++ Pr.text num m x) ++ ⟨#[59, 10]⟩) = Pr.by (A ++ Pr.set num k nm x) := by
 refine Pr.ba_ext ?_
 unfold Pr.set Sp.ln Sp.flat
 simp [Pr.by_list, Pr.bl_list]
theorem Pr.t_put (i x : Tk.ET m) : Pr.by A ++ ((((((Pr.bl k ++ nm) ++ ⟨#[91]⟩) ++ Pr.text num m i) ++ ⟨#[93, 32, 61, 32]⟩) ++ Pr.text num m x) ++ ⟨#[59, 10]⟩) = Pr.by (A ++ Pr.put num k nm i x) := by
 refine Pr.ba_ext ?_
 unfold Pr.put Sp.ln Sp.flat Pr.cell
 simp [Pr.by_list, Pr.bl_list]
theorem Pr.t_call (l : List (Tk.ET m)) : Pr.by A ++ ((((((Pr.bl k ++ nm) ++ ⟨#[32, 61, 32]⟩) ++ ot) ++ ⟨#[40]⟩) ++ Pr.commas (l.map (Pr.text num m))) ++ ⟨#[41, 59, 10]⟩) = Pr.by (A ++ Pr.call num k nm ot l) := by
 refine Pr.ba_ext ?_
 unfold Pr.call Sp.ln Sp.flat
 simp [Pr.by_list, Pr.bl_list]
theorem Pr.t_read : Pr.by A ++ ((Pr.bl k ++ nm) ++ ⟨#[32, 61, 32, 114, 101, 97, 100, 59, 10]⟩) = Pr.by (A ++ Pr.read k nm) := by
 refine Pr.ba_ext ?_
 unfold Pr.read Sp.ln Sp.flat
 simp [Pr.by_list, Pr.bl_list]
theorem Pr.t_prin (x : Tk.ET m) : Pr.by A ++ (((Pr.bl k ++ ⟨#[112, 114, 105, 110, 116, 32]⟩) ++ Pr.text num m x) ++ ⟨#[59, 10]⟩) = Pr.by (A ++ Pr.prin num k x) := by
 refine Pr.ba_ext ?_
 unfold Pr.prin Sp.ln Sp.flat
 simp [Pr.by_list, Pr.bl_list]
def Pr.if1 (f : Tk.CT m n → List UInt8) (ex : Tk.ET m) (th : List (Tk.CT m n)) : List UInt8 := Sp.ln k [⟨#[105, 102, 32]⟩, Pr.text num m ex, ⟨#[32, 123]⟩] ++ th.flatMap f
theorem Pr.t_if1 (f : Tk.CT m n → List UInt8) (ex : Tk.ET m) (th : List (Tk.CT m n)) : Pr.by A ++ ((((Pr.bl k ++ ⟨#[105, 102, 32]⟩) ++ Pr.text num m ex) ++ ⟨#[32, 123, 10]⟩) ++ Pr.by (th.flatMap f)) = Pr.by (A ++ Pr.if1 num k f ex th) := by
 refine Pr.ba_ext ?_
 unfold Pr.if1 Sp.ln Sp.flat
 simp [Pr.by_list, Pr.bl_list]
theorem Pr.t_if2 (f : Tk.CT m n → List UInt8) (el : List (Tk.CT m n)) (h : 0 < el.length) : Pr.by A ++ ((Pr.bl k ++ ⟨#[125, 32, 101, 108, 115, 101, 32, 123, 10]⟩) ++ Pr.by (el.flatMap f)) = Pr.by (A ++ Pr.els k f el) := by
 refine Pr.ba_ext ?_
 unfold Pr.els
 rw [if_neg (by omega)]
 unfold Sp.ln Sp.flat
 simp [Pr.by_list, Pr.bl_list]
theorem Pr.t_if0 (f : Tk.CT m n → List UInt8) (el : List (Tk.CT m n)) (h : ¬ 0 < el.length) : A = A ++ Pr.els k f el := by
 unfold Pr.els
 rw [if_pos (by omega), List.append_nil]
theorem Pr.t_end : Pr.by A ++ (Pr.bl k ++ ⟨#[125, 10]⟩) = Pr.by (A ++ Sp.ln k [⟨#[125]⟩]) := by
 refine Pr.ba_ext ?_
 unfold Sp.ln Sp.flat
 simp [Pr.by_list, Pr.bl_list]
theorem Pr.iff_is (f : Tk.CT m n → List UInt8) (ex : Tk.ET m) (th el : List (Tk.CT m n)) : A ++ Pr.if1 num k f ex th ++ Pr.els k f el ++ Sp.ln k [⟨#[125]⟩] = A ++ Pr.iff num k f ex th el := by
 unfold Pr.iff Pr.if1
 simp only [List.append_assoc]
theorem Pr.t_whil (f : Tk.CT m n → List UInt8) (ex : Tk.ET m) (th : List (Tk.CT m n)) : Pr.by A ++ ((((((Pr.bl k ++ ⟨#[119, 104, 105, 108, 101, 32]⟩) ++ Pr.text num m ex) ++ ⟨#[32, 123, 10]⟩) ++ Pr.by (th.flatMap f)) ++ Pr.bl k) ++ ⟨#[125, 10]⟩) = Pr.by (A ++ Pr.whil num k f ex th) := by
 refine Pr.ba_ext ?_
 unfold Pr.whil Sp.ln Sp.flat
 simp [Pr.by_list, Pr.bl_list]
end
end Go.Proofs.YtfccpddehpgfoaaGreatDoor
