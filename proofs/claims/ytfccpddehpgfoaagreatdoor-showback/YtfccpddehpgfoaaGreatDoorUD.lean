/- By the verifier. -/
import Derived.Test.YtfccpddehpgfoaaGreatDoorUC
set_option maxHeartbeats 1600000
namespace Go.Proofs.YtfccpddehpgfoaaGreatDoor
open Go.RowKit
set_option linter.unusedVariables false
structure Tk.Sl where
 ad : Option Addr
 len : Nat
 cap : Nat
structure Tk.E where
 k : Int
 a : Int
 n : Int
 nm : ByteArray
 args : Tk.Sl
def Tk.E.val (e : Tk.E) : Value := .agg #[.int .i64 e.k, .int .i64 e.a, .int .i64 e.n, .string e.nm, .slice e.args.ad e.args.len e.args.cap]
def Zat : Nat → Type
 | 0 => Empty
 | n + 1 => (Int × Int × Int × ByteArray) × List (Zat n)
structure Tk.ELies (w : World) (b o : Nat) (c : Tk.E) : Prop where
 c0 : w.cell? ⟨b, o, none⟩ = some (.int .i64 c.k)
 c1 : w.cell? ⟨b, o + 1, none⟩ = some (.int .i64 c.a)
 c2 : w.cell? ⟨b, o + 2, none⟩ = some (.int .i64 c.n)
 c3 : w.cell? ⟨b, o + 3, none⟩ = some (.string c.nm)
 c4 : w.cell? ⟨b, o + 4, none⟩ = some (.slice c.args.ad c.args.len c.args.cap)
structure Tk.RS {α β : Type} (w : World) (wide : Nat) (lies : Nat → Nat → α → Prop) (reads : α → β → Prop) (s : Tk.Sl) (l : List β) : Prop where
 len : s.len = l.length
 few : l.length ≤ 35184372088832
 at_ : ∀ i y, l[i]? = some y → ∃ (b o : Nat) (c : α), s.ad = some ⟨b, o, none⟩ ∧ b < w.heap.size ∧ lies b (o + i * wide) c ∧ reads c y
def Tk.RE (w : World) : (n : Nat) → Tk.E → Zat n → Prop
 | 0, _, _ => False
 | n + 1, e, x => (e.k = x.1.1 ∧ e.a = x.1.2.1 ∧ e.n = x.1.2.2.1 ∧ e.nm = x.1.2.2.2 ∧ e.nm.size ≤ maxLen) ∧ Tk.RS w 5 (Tk.ELies w) (Tk.RE w n) e.args x.2
theorem Tk.RS.later {α β : Type} {w w' : World} {wide : Nat} {lies lies' : Nat → Nat → α → Prop} {reads reads' : α → β → Prop} {s : Tk.Sl} {l : List β} (h : Tk.RS w wide lies reads s l)
  (hz : w.heap.size ≤ w'.heap.size) (hl : ∀ b o c, b < w.heap.size → lies b o c → lies' b o c) (hr : ∀ c y, y ∈ l → reads c y → reads' c y) : Tk.RS w' wide lies' reads' s l :=
 ⟨h.len, h.few, fun i y hy => by
  obtain ⟨b, o, c, h1, h2, h3, h4⟩ := h.at_ i y hy
  exact ⟨b, o, c, h1, by omega, hl _ _ _ h2 h3, hr _ _ (List.mem_of_getElem? hy) h4⟩⟩
theorem Tk.ELies.later {w w' : World} {B b o : Nat} {c : Tk.E} (h : Tk.ELies w b o c) (hb : Below B w w') (hB : w.heap.size ≤ B) (hlt : b < w.heap.size) : Tk.ELies w' b o c := by
 have hc : ∀ j, w'.cell? ⟨b, j, none⟩ = w.cell? ⟨b, j, none⟩ := fun j => hb.cell (p := ⟨b, j, none⟩) (by show b < B; omega)
 exact ⟨by rw [hc]; exact h.c0, by rw [hc]; exact h.c1, by rw [hc]; exact h.c2, by rw [hc]; exact h.c3, by rw [hc]; exact h.c4⟩
theorem Tk.RE.later {w w' : World} {B : Nat} (hb : Below B w w') (hB : w.heap.size ≤ B) : ∀ (n : Nat) {e : Tk.E} {x : Zat n}, Tk.RE w n e x → Tk.RE w' n e x
 | 0, _, _, h => h
 | n + 1, _, _, h => ⟨h.1, h.2.later hb.size (fun b o c hlt hl => hl.later hb hB hlt) (fun c y _ hr => Tk.RE.later hb hB n hr)⟩
theorem Tk.RS.laterE {w w' : World} {B n : Nat} {s : Tk.Sl} {l : List (Zat n)} (h : Tk.RS w 5 (Tk.ELies w) (Tk.RE w n) s l) (hb : Below B w w') (hB : w.heap.size ≤ B) : Tk.RS w' 5 (Tk.ELies w') (Tk.RE w' n) s l :=
 h.later hb.size (fun b o c hlt hl => hl.later hb hB hlt) (fun c y _ hr => hr.later hb hB)
def Zab : (n : Nat) → Zat n → Nat
 | 0, _ => 0
 | n + 1, x => 1 + (x.2.map (Zab n)).sum
theorem Zfb : ∀ (n : Nat) (x : Zat n), 0 < n → 0 < Zab n x
 | 0, _, h => by omega
 | n + 1, x, _ => by show 0 < 1 + _; omega
def Zbt : List (List UInt8) := [[102, 117, 110, 99], [109, 97, 105, 110], [118, 97, 114], [97, 114, 114], [114, 101, 97, 100], [112, 114, 105, 110, 116], [105, 102], [101, 108, 115, 101], [119, 104, 105, 108, 101], [114, 101, 116, 117, 114, 110]]
def Tk.wordB (l : List UInt8) : Bool := Zbt.contains l
def Zam (t : ByteArray) : Bool := Tk.isTok 1 (Tk.B t) && !Tk.wordB t.toList
def Zar (t : ByteArray) (named : Bool) : Bool := if named then Zam t else t.toList.isEmpty
theorem Zhd (l : List UInt8) : (Tk.wordB l = false ∧ (l == [102, 117, 110, 99]) = false ∧ (l == [109, 97, 105, 110]) = false ∧ (l == [118, 97, 114]) = false ∧ (l == [97, 114, 114]) = false ∧ (l == [114, 101, 97, 100]) = false ∧ (l == [112, 114, 105, 110, 116]) = false ∧ (l == [105, 102]) = false ∧ (l == [101, 108, 115, 101]) = false ∧ (l == [119, 104, 105, 108, 101]) = false ∧ (l == [114, 101, 116, 117, 114, 110]) = false) ∨ (Tk.wordB l = true ∧ (l == [102, 117, 110, 99]) = true) ∨ (Tk.wordB l = true ∧ (l == [102, 117, 110, 99]) = false ∧ (l == [109, 97, 105, 110]) = true) ∨ (Tk.wordB l = true ∧ (l == [102, 117, 110, 99]) = false ∧ (l == [109, 97, 105, 110]) = false ∧ (l == [118, 97, 114]) = true) ∨ (Tk.wordB l = true ∧ (l == [102, 117, 110, 99]) = false ∧ (l == [109, 97, 105, 110]) = false ∧ (l == [118, 97, 114]) = false ∧ (l == [97, 114, 114]) = true) ∨ (Tk.wordB l = true ∧ (l == [102, 117, 110, 99]) = false ∧ (l == [109, 97, 105, 110]) = false ∧ (l == [118, 97, 114]) = false ∧ (l == [97, 114, 114]) = false ∧ (l == [114, 101, 97, 100]) = true) ∨ (Tk.wordB l = true ∧ (l == [102, 117, 110, 99]) = false ∧ (l == [109, 97, 105, 110]) = false ∧ (l == [118, 97, 114]) = false ∧ (l == [97, 114, 114]) = false ∧ (l == [114, 101, 97, 100]) = false ∧ (l == [112, 114, 105, 110, 116]) = true) ∨ (Tk.wordB l = true ∧ (l == [102, 117, 110, 99]) = false ∧ (l == [109, 97, 105, 110]) = false ∧ (l == [118, 97, 114]) = false ∧ (l == [97, 114, 114]) = false ∧ (l == [114, 101, 97, 100]) = false ∧ (l == [112, 114, 105, 110, 116]) = false ∧ (l == [105, 102]) = true) ∨ (Tk.wordB l = true ∧ (l == [102, 117, 110, 99]) = false ∧ (l == [109, 97, 105, 110]) = false ∧ (l == [118, 97, 114]) = false ∧ (l == [97, 114, 114]) = false ∧ (l == [114, 101, 97, 100]) = false ∧ (l == [112, 114, 105, 110, 116]) = false ∧ (l == [105, 102]) = false ∧ (l == [101, 108, 115, 101]) = true) ∨ (Tk.wordB l = true ∧ (l == [102, 117, 110, 99]) = false ∧ (l == [109, 97, 105, 110]) = false ∧ (l == [118, 97, 114]) = false ∧ (l == [97, 114, 114]) = false ∧ (l == [114, 101, 97, 100]) = false ∧ (l == [112, 114, 105, 110, 116]) = false ∧ (l == [105, 102]) = false ∧ (l == [101, 108, 115, 101]) = false ∧ (l == [119, 104, 105, 108, 101]) = true) ∨ (Tk.wordB l = true ∧ (l == [102, 117, 110, 99]) = false ∧ (l == [109, 97, 105, 110]) = false ∧ (l == [118, 97, 114]) = false ∧ (l == [97, 114, 114]) = false ∧ (l == [114, 101, 97, 100]) = false ∧ (l == [112, 114, 105, 110, 116]) = false ∧ (l == [105, 102]) = false ∧ (l == [101, 108, 115, 101]) = false ∧ (l == [119, 104, 105, 108, 101]) = false ∧ (l == [114, 101, 116, 117, 114, 110]) = true) := by
 cases h0 : (l == [102, 117, 110, 99])
 · cases h1 : (l == [109, 97, 105, 110])
   · cases h2 : (l == [118, 97, 114])
     · cases h3 : (l == [97, 114, 114])
       · cases h4 : (l == [114, 101, 97, 100])
         · cases h5 : (l == [112, 114, 105, 110, 116])
           · cases h6 : (l == [105, 102])
             · cases h7 : (l == [101, 108, 115, 101])
               · cases h8 : (l == [119, 104, 105, 108, 101])
                 · cases h9 : (l == [114, 101, 116, 117, 114, 110])
                   · exact Or.inl ⟨by unfold Tk.wordB Zbt; simp only [List.contains_cons, h0, h1, h2, h3, h4, h5, h6, h7, h8, h9]; rfl, rfl, rfl, rfl, rfl, rfl, rfl, rfl, rfl, rfl, rfl⟩
                   exact Or.inr (Or.inr (Or.inr (Or.inr (Or.inr (Or.inr (Or.inr (Or.inr (Or.inr (Or.inr (⟨by unfold Tk.wordB Zbt; rw [beq_iff_eq] at h9; subst h9; decide, rfl, rfl, rfl, rfl, rfl, rfl, rfl, rfl, rfl, rfl⟩))))))))))
                 exact Or.inr (Or.inr (Or.inr (Or.inr (Or.inr (Or.inr (Or.inr (Or.inr (Or.inr (Or.inl (⟨by unfold Tk.wordB Zbt; rw [beq_iff_eq] at h8; subst h8; decide, rfl, rfl, rfl, rfl, rfl, rfl, rfl, rfl, rfl⟩))))))))))
               exact Or.inr (Or.inr (Or.inr (Or.inr (Or.inr (Or.inr (Or.inr (Or.inr (Or.inl (⟨by unfold Tk.wordB Zbt; rw [beq_iff_eq] at h7; subst h7; decide, rfl, rfl, rfl, rfl, rfl, rfl, rfl, rfl⟩)))))))))
             exact Or.inr (Or.inr (Or.inr (Or.inr (Or.inr (Or.inr (Or.inr (Or.inl (⟨by unfold Tk.wordB Zbt; rw [beq_iff_eq] at h6; subst h6; decide, rfl, rfl, rfl, rfl, rfl, rfl, rfl⟩))))))))
           exact Or.inr (Or.inr (Or.inr (Or.inr (Or.inr (Or.inr (Or.inl (⟨by unfold Tk.wordB Zbt; rw [beq_iff_eq] at h5; subst h5; decide, rfl, rfl, rfl, rfl, rfl, rfl⟩)))))))
         exact Or.inr (Or.inr (Or.inr (Or.inr (Or.inr (Or.inl (⟨by unfold Tk.wordB Zbt; rw [beq_iff_eq] at h4; subst h4; decide, rfl, rfl, rfl, rfl, rfl⟩))))))
       exact Or.inr (Or.inr (Or.inr (Or.inr (Or.inl (⟨by unfold Tk.wordB Zbt; rw [beq_iff_eq] at h3; subst h3; decide, rfl, rfl, rfl, rfl⟩)))))
     exact Or.inr (Or.inr (Or.inr (Or.inl (⟨by unfold Tk.wordB Zbt; rw [beq_iff_eq] at h2; subst h2; decide, rfl, rfl, rfl⟩))))
   exact Or.inr (Or.inr (Or.inl (⟨by unfold Tk.wordB Zbt; rw [beq_iff_eq] at h1; subst h1; decide, rfl, rfl⟩)))
 exact Or.inr (Or.inl (⟨by unfold Tk.wordB Zbt; rw [beq_iff_eq] at h0; subst h0; decide, rfl⟩))
theorem Zgm (t : ByteArray) (w : World) : Calls Tryz.prog 144 #[.string t] w fun e w' => e = .returned (.bool (Tk.wordB t.toList)) ∧ w' = w := by
 rcases Zhd t.toList with ⟨hw, h0, h1, h2, h3, h4, h5, h6, h7, h8, h9⟩ | ⟨hw, h0⟩ | ⟨hw, h0, h1⟩ | ⟨hw, h0, h1, h2⟩ | ⟨hw, h0, h1, h2, h3⟩ | ⟨hw, h0, h1, h2, h3, h4⟩ | ⟨hw, h0, h1, h2, h3, h4, h5⟩ | ⟨hw, h0, h1, h2, h3, h4, h5, h6⟩ | ⟨hw, h0, h1, h2, h3, h4, h5, h6, h7⟩ | ⟨hw, h0, h1, h2, h3, h4, h5, h6, h7, h8⟩ | ⟨hw, h0, h1, h2, h3, h4, h5, h6, h7, h8, h9⟩
 all_goals
  rw [hw]
  clear hw
  go_enter Tryz.func144, Tryz.ntmps144
  go_wp2_with fail
  go_ret
  exact ⟨rfl, rfl⟩
def Zcn (i : Nat) : ByteArray := ⟨(Zbt.getD i []).toArray⟩
theorem ZdH (i : Nat) : (Zcn i).toList = Zbt.getD i [] := by unfold Zcn; rw [ByteArray.toList_mk]
theorem Zkh (i : Nat) (hi : i < 10) (l : List UInt8) (h : (Zcn i).toList = l) : Tk.wordB l = true := by
 rw [ZdH] at h
 unfold Tk.wordB
 rw [List.contains_iff_mem, ← h]
 have hlt : i < Zbt.length := hi
 rw [List.getD_eq_getElem?_getD, Zg hlt]
 exact List.getElem_mem hlt
theorem Tk.no_word (l : List UInt8) (h : ∀ i, i < 10 → (Zcn i).toList ≠ l) : Tk.wordB l = false := by
 apply Bool.eq_false_iff.2
 intro hc
 unfold Tk.wordB at hc
 rw [List.contains_iff_mem] at hc
 obtain ⟨q, hq⟩ := List.getElem?_of_mem hc
 have hl : q < Zbt.length := (List.getElem?_eq_some_iff.1 hq).1
 apply h q hl
 rw [ZdH, List.getD_eq_getElem?_getD, hq]; rfl
theorem Zf3 : ∀ i, i < 10 → (#[.string ⟨#[102, 117, 110, 99]⟩, .string ⟨#[109, 97, 105, 110]⟩, .string ⟨#[118, 97, 114]⟩, .string ⟨#[97, 114, 114]⟩, .string ⟨#[114, 101, 97, 100]⟩, .string ⟨#[112, 114, 105, 110, 116]⟩, .string ⟨#[105, 102]⟩, .string ⟨#[101, 108, 115, 101]⟩, .string ⟨#[119, 104, 105, 108, 101]⟩, .string ⟨#[114, 101, 116, 117, 114, 110]⟩] : Array Value)[i]? = some (.string (Zcn i))
 | 0, _ => rfl
 | 1, _ => rfl
 | 2, _ => rfl
 | 3, _ => rfl
 | 4, _ => rfl
 | 5, _ => rfl
 | 6, _ => rfl
 | 7, _ => rfl
 | 8, _ => rfl
 | 9, _ => rfl
 | n + 10, h => by omega
theorem Zix (t : ByteArray) (w : World) : Calls Tryz.prog 63 #[.string t] w fun e w' => e = .returned (.bool (Tk.wordB t.toList)) ∧ Below w.heap.size w w' := by
 have hcs := Hd Zf3
 go_enter Tryz.func63, Tryz.ntmps63
 go_wp2_with fail
 generalize hA : (#[.string ⟨#[102, 117, 110, 99]⟩, .string ⟨#[109, 97, 105, 110]⟩, .string ⟨#[118, 97, 114]⟩, .string ⟨#[97, 114, 114]⟩, .string ⟨#[114, 101, 97, 100]⟩, .string ⟨#[112, 114, 105, 110, 116]⟩, .string ⟨#[105, 102]⟩, .string ⟨#[101, 108, 115, 101]⟩, .string ⟨#[119, 104, 105, 108, 101]⟩, .string ⟨#[114, 101, 116, 117, 114, 110]⟩] : Array Value) = cs at *
 clear hA
 go_loop [4] (fun iv => ∃ i : Nat, i ≤ 10 ∧ iv = .int .i64 i ∧ ∀ q, q < i → (Zcn q).toList ≠ t.toList) (fun iv => 10 - (intOf iv).toNat)
 case atStart => exact ⟨0, by omega, rfl, fun q hq => by omega⟩
 case round =>
  obtain ⟨i, hi, rfl, hall⟩ := hrel
  have HA := Hd hall
  clear hall
  by_cases hlt : (i : Int) < 10
  · have hi0 : (0 : Int) ≤ (i : Int) := by omega
    have hc := (uh hcs) i (by omega)
    have hcell : (w.alloc (.cells cs 9)).cell? ⟨w.heap.size, i, none⟩ = some (.string (Zcn i)) := by simpa using hc
    cases hq : ((Zcn i).toList == t.toList)
    · have HQ := Hd hq
      go_wp2_with fail
      go_round
      case rel =>
       refine ⟨i + 1, by omega, by go_num, fun q hq2 => ?_⟩
       by_cases e : q = i
       · subst e; have := uh HQ; rw [beq_eq_false_iff_ne] at this; exact this
       exact (uh HA) q (by omega)
      case measure => simp [intOf]; omega
    have hw : Hid (Tk.wordB t.toList = true) := Zkh i (by omega) _ (by rw [beq_iff_eq] at hq; exact hq)
    go_wp2_with fail
    go_ret
    exact ⟨Zaj (by rw [uh hw]), Zr.alloc Zl _⟩
  have hw : Hid (Tk.wordB t.toList = false) := Tk.no_word _ (fun q hq => (uh HA) q (by omega))
  go_wp2_with fail
  go_ret
  exact ⟨Zaj (by rw [uh hw]), Zr.alloc Zl _⟩
theorem ZbB (t : ByteArray) (w : World) (ht : t.size ≤ maxLen) : Calls Tryz.prog 27 #[.string t] w fun e w' => e = .returned (.bool (Zam t)) ∧ Below w.heap.size w w' := by
 have HT := Hd ht
 clear ht
 cases h : Tk.isTok 1 (Tk.B t)
 · have hn : Zam t = false := by unfold Zam; rw [h]; rfl
   rw [hn]
   have HH := Hd h
   clear h hn
   go_enter Tryz.func27, Tryz.ntmps27
   go_wp2_with fail
   refine (Zf0 1 t _ (uh HT)).mono ?_
   rintro e w1 ⟨rfl, rfl⟩
   rw [uh HH]
   go_wp2_with fail
   go_ret
   exact ⟨rfl, Zr⟩
 have hn : Zam t = !Tk.wordB t.toList := by unfold Zam; rw [h]; rfl
 rw [hn]
 have HH := Hd h
 clear h hn
 go_enter Tryz.func27, Tryz.ntmps27
 go_wp2_with fail
 refine (Zf0 1 t _ (uh HT)).mono ?_
 rintro e w1 ⟨rfl, rfl⟩
 rw [uh HH]
 go_wp2_with fail
 refine (Zix t _).mono ?_
 rintro e w2 ⟨rfl, hb⟩
 have HB := Hd hb
 clear hb
 go_wp2_with fail
 go_ret
 exact ⟨rfl, uh HB⟩
theorem Tk.join_one (t : ByteArray) (h6 : t.size ≤ 6000) : (ZbP [((1 : Int), (0 : Int), t)]).2 = if Tk.isTok 1 (Tk.B t) then 0 else 1 := by
 unfold ZbP Zcr
 simp only [List.all_cons, List.all_nil, Bool.and_true]
 cases h : Tk.isTok 1 (Tk.B t)
 · rfl
 have hl : (Zbq [((1 : Int), (0 : Int), t)] [((1 : Int), (0 : Int), t)].length).length = t.size := by
  show (Zbq [((1 : Int), (0 : Int), t)] 1).length = _
  rw [ZcM _ 0 _ rfl]
  show ([] ++ [] ++ t.data.toList).length = _
  rw [List.nil_append, List.nil_append, Array.length_toList]; rfl
 simp only [if_true]
 rw [hl, if_neg (by omega)]
theorem Zjh (t : ByteArray) : ((((ZbP [((1 : Int), (0 : Int), t)]).2 : Nat) : Int) == 0) = Tk.isTok 1 (Tk.B t) := by
 by_cases h6 : t.size ≤ 6000
 · rw [Tk.join_one t h6]; cases Tk.isTok 1 (Tk.B t) <;> rfl
 have hf := Zd9 1 t h6
 rw [hf]
 unfold ZbP Zcr
 simp only [List.all_cons, List.all_nil, Bool.and_true, hf]
 rfl
theorem Zev (t : ByteArray) (w : World) (ht : t.size ≤ maxLen) : Calls Tryz.prog 103 #[.string t] w fun e w' => e = .returned (.bool (Zam t)) ∧ Below w.heap.size w w' := by
 have HT := Hd ht
 have hje := Zjh t
 clear ht
 cases h : Tk.isTok 1 (Tk.B t)
 all_goals
  rw [h] at hje
  have hrd : ∀ ww : World, Hid (Tk.Reads (ww.alloc (.cells #[.int .i64 1, .int .i64 0, .string t] 63)) (some ⟨ww.heap.size, 0, none⟩) [((1 : Int), (0 : Int), t)]) := fun ww => by
   refine ⟨fun i u hi => ?_⟩
   cases i with
   | zero => simp at hi; subst hi; exact ⟨ww.heap.size, 0, rfl, by simp, by simp, by simp, by simp, uh HT⟩
   | succ i => simp at hi
  go_enter Tryz.func103, Tryz.ntmps103
  go_wp2_with fail
  refine (ZlA [((1 : Int), (0 : Int), t)] (some ⟨w.heap.size, 0, none⟩) 1 _ (uh (hrd w)) (by show 1 ≤ _; omega)).mono ?_
  rintro e w1 ⟨rfl, hb⟩
  have HB := Hd (Zbk hb)
  have hz := hb.size
  simp at hz
  clear hb hrd
 · have hn : Zam t = false := by unfold Zam; rw [h]; rfl
   have HNN := Hd hn
   clear h hn
   go_wp2_with fail
   go_ret
   exact ⟨Zaj (by rw [uh HNN]), uh HB⟩
 have hn : Zam t = !Tk.wordB t.toList := by unfold Zam; rw [h]; rfl
 have HNN := Hd hn
 clear h hn
 go_wp2_with fail
 refine (Zgm t _).mono ?_
 rintro e w2 ⟨rfl, rfl⟩
 go_wp2_with fail
 go_ret
 exact ⟨Zaj (by rw [uh HNN]), uh HB⟩
theorem ZbF (t : ByteArray) (named : Bool) (w : World) (ht : t.size ≤ maxLen) : Calls Tryz.prog 104 #[.string t, .bool named] w fun e w' => e = .returned (.bool (Zar t named)) ∧ Below w.heap.size w w' := by
 have HT := Hd ht
 clear ht
 cases named
 · go_enter Tryz.func104, Tryz.ntmps104
   go_wp2_with fail
   go_ret
   exact ⟨rfl, Zr⟩
 go_enter Tryz.func104, Tryz.ntmps104
 go_wp2_with fail
 refine (Zev t _ (uh HT)).mono ?_
 rintro e w1 ⟨rfl, hb⟩
 have HB := Hd hb
 clear hb
 go_wp2_with fail
 go_ret
 exact ⟨rfl, uh HB⟩
def ZbL (l : Int) (p : Nat) : Int := if (p : Int) ≤ l then l - p else -1
def Za9 (enough : Int) (p : Nat) : Int := if (p : Int) ≤ enough then p else enough + 1
def Zb8 {α : Type} (f : α → Nat) (l : List α) (k : Nat) : Nat := ((l.take k).map f).sum
theorem Zc5 {α : Type} (f : α → Nat) (l : List α) (k : Nat) (y : α) (h : l[k]? = some y) : Zb8 f l (k + 1) = Zb8 f l k + f y := by
 unfold Zb8
 have hlt : k < l.length := (List.getElem?_eq_some_iff.1 h).1
 have hy : l[k] = y := (List.getElem?_eq_some_iff.1 h).2
 rw [List.take_succ_eq_append_getElem hlt, hy]
 simp
theorem Zdi {α : Type} (f : α → Nat) (l : List α) : Zb8 f l l.length = (l.map f).sum := by simp [Zb8]
theorem ZdV {α : Type} (f : α → Nat) (l : List α) (k : Nat) (h : k ≤ l.length) : Zb8 f l k ≤ (l.map f).sum := by
 have : ∀ d, ∀ k, k + d = l.length → Zb8 f l k ≤ (l.map f).sum := by
  intro d
  induction d with
  | zero => intro k hk; rw [show k = l.length from by omega, Zdi]; exact Nat.le_refl _
  | succ d ih =>
   intro k hk
   have hlt : k < l.length := by omega
   have h1 := Zc5 f l k l[k] (Zg hlt)
   have h2 := ih (k + 1) (by omega)
   omega
 exact this (l.length - k) k (by omega)
theorem ZfM : ∀ (n : Nat) (e : Tk.E) (x : Zat n) (w : World) (left : Int), Tk.RE w n e x → 0 ≤ left → left ≤ 1000 →
  Calls Tryz.prog 101 #[e.val, .int .i64 left] w fun r w' => r = .returned (.int .i64 (ZbL left (Zab n x))) ∧ Below w.heap.size w w' := by
 intro n
 induction n with
 | zero => intro e x w left h; exact absurd h id
 | succ n ih =>
  intro e x w left hre h0 h1
  obtain ⟨hf, hs⟩ := hre
  have hlen := hs.len
  have hfew := hs.few
  rw [← hlen] at hfew
  have HS := Hd hs
  have HLN := Hd hlen
  have IH := Hd ih
  clear hs hf hlen ih
  unfold Tk.E.val
  go_enter Tryz.func101, Tryz.ntmps101
  go_wp2_with fail
  go_loopw [1, 12] (fun lv iv wr => ∃ (i : Nat) (l : Int), i ≤ e.args.len ∧ iv = .int .i64 i ∧ lv = .int .i64 l ∧ l = ZbL left (1 + Zb8 (Zab n) x.2 i) ∧ Below w.heap.size w wr) (fun _ iv _ => e.args.len - (intOf iv).toNat)
  case atStart =>
   refine ⟨0, left - 1, Nat.zero_le _, rfl, rfl, ?_, Zr.alloc Zl _⟩
   show _ = ZbL left 1
   unfold ZbL; split <;> omega
  case round =>
   obtain ⟨i, l, hi, rfl, rfl, hl, hbe⟩ := hrel
   have hl1 : -1 ≤ l := by rw [hl]; unfold ZbL; split <;> omega
   have hl2 : l ≤ 1000 := by rw [hl]; unfold ZbL; split <;> omega
   have hz := hbe.size
   have HL := Hd hl
   have HBE := Hd hbe
   clear hl hbe
   by_cases hlt : i < e.args.len
   · have hlt2 : i < x.2.length := by have := uh HLN; omega
     have hy := Zg hlt2
     obtain ⟨b, o, c, had, hb, hlies, hrd⟩ := (uh HS).at_ i _ hy
     have hsum := Zc5 (Zab n) x.2 i _ hy
     generalize x.2[i] = y at *
     have hll := hlies.later (uh HBE) Zl hb
     obtain ⟨p0, p1, p2, p3, p4⟩ := hll
     have HRD := Hd (hrd.later (uh HBE) Zl)
     have HSU := Hd hsum
     clear hlies hrd hsum hy
     have hi0 : (0 : Int) ≤ (i : Int) := by omega
     have hi1 : (i : Int) < (e.args.len : Int) := by omega
     rw [had]
     have hpar : Zab (n + 1) x = 1 + (x.2.map (Zab n)).sum := rfl
     have hsle := ZdV (Zab n) x.2 (i + 1) hlt2
     by_cases hneg : l < 0
     · have hfin : Hid (l = ZbL left (Zab (n + 1) x)) := by
        show _ = _
        have a := uh HL
        have b := uh HSU
        unfold ZbL at a ⊢
        rw [hpar]
        split at a
        · omega
        rw [if_neg (by omega)]; omega
       clear hpar hsle
       go_wp2_with fail
       go_ret
       exact ⟨Za2 (uh hfin), (uh HBE).alloc hz _⟩
     clear hpar hsle
     go_wp2_with fail
     refine ((uh IH) c y _ l ((uh HRD).later (Zr.alloc Zl _) Zl) (by omega) hl2).mono ?_
     rintro r w1 ⟨rfl, hb1⟩
     have HB1 := Hd (((uh HBE).alloc hz _).trans (hb1.mono (by simp; omega)))
     clear hb1
     have hnew : Hid (ZbL l (Zab n y) = ZbL left (1 + Zb8 (Zab n) x.2 (i + 1))) := by
      show _ = _
      have a := uh HL
      have b := uh HSU
      rw [b]
      unfold ZbL at a ⊢
      split at a
      · by_cases hc : ((Zab n y : Nat) : Int) ≤ l
        · rw [if_pos hc, if_pos (by omega)]; omega
        rw [if_neg hc, if_neg (by omega)]
      omega
     go_wp2_with fail
     exact ⟨⟨i + 1, _, by omega, by go_num, rfl, uh hnew, uh HB1⟩, by simp [intOf]; omega⟩
   go_wp2_with fail
   go_ret
   refine ⟨Za2 ?_, uh HBE⟩
   have a := uh HL
   have e1 : i = x.2.length := by have := uh HLN; omega
   rw [a, e1, Zdi]; rfl
theorem Zcy (n : Nat) (e : Tk.E) (x : Zat n) (w : World) (h : Tk.RE w n e x) :
  Calls Tryz.prog 57 #[e.val] w fun r w' => r = .returned (.bool (decide (15 < Zab n x))) ∧ Below w.heap.size w w' := by
 have HH := Hd h
 clear h
 unfold Tk.E.val
 go_enter Tryz.func57, Tryz.ntmps57
 go_wp2_with fail
 refine (ZfM n e x _ 15 ((uh HH).later (Zr.alloc Zl _) Zl) (by omega) (by omega)).mono ?_
 rintro r w1 ⟨rfl, hb1⟩
 have HB := Hd (Zbk hb1)
 clear hb1
 have hlp : Hid (decide (ZbL 15 (Zab n x) < 0) = decide (15 < Zab n x)) := by
  show _ = _
  rw [decide_eq_decide]; unfold ZbL; split <;> omega
 go_wp2_with fail
 go_ret
 exact ⟨Zaj (uh hlp), uh HB⟩
theorem ZcZ : ∀ (n : Nat) (e : Tk.E) (x : Zat n) (w : World) (enough : Int), Tk.RE w n e x → 0 ≤ enough → enough ≤ 1000 →
  Calls Tryz.prog 60 #[e.val, .int .i64 enough] w fun r w' => r = .returned (.int .i64 (Za9 enough (Zab n x))) ∧ Below w.heap.size w w' := by
 intro n
 induction n with
 | zero => intro e x w enough h; exact absurd h id
 | succ n ih =>
  intro e x w enough hre h0 h1
  obtain ⟨hf, hs⟩ := hre
  have hlen := hs.len
  have hfew := hs.few
  rw [← hlen] at hfew
  have HS := Hd hs
  have HLN := Hd hlen
  have IH := Hd ih
  clear hs hf hlen ih
  unfold Tk.E.val
  go_enter Tryz.func60, Tryz.ntmps60
  go_wp2_with fail
  go_loopw [5, 6] (fun nv iv wr => ∃ (i : Nat) (l : Int), i ≤ e.args.len ∧ iv = .int .i64 i ∧ nv = .int .i64 l ∧ l = Za9 enough (1 + Zb8 (Zab n) x.2 i) ∧ w.heap.size + 1 ≤ wr.heap.size ∧
   Below (w.heap.size + 1) (w.alloc (.cells #[.int .i64 e.k, .int .i64 e.a, .int .i64 e.n, .string e.nm, .slice e.args.ad e.args.len e.args.cap] 52)) wr) (fun _ iv _ => e.args.len - (intOf iv).toNat)
  case atStart =>
   refine ⟨0, 1, Nat.zero_le _, rfl, rfl, ?_, by simp, Zr⟩
   show _ = Za9 enough 1
   unfold Za9; split <;> omega
  case round =>
   obtain ⟨i, l, hi, rfl, rfl, hl, hz, hbe⟩ := hrel
   have hl1 : 0 ≤ l := by rw [hl]; unfold Za9; split <;> omega
   have hl2 : l ≤ 1001 := by rw [hl]; unfold Za9; split <;> omega
   have b4 : wr.cell? ⟨w.heap.size, 4, none⟩ = some (.slice e.args.ad e.args.len e.args.cap) := (hbe.cell (p := ⟨w.heap.size, 4, none⟩) (by show w.heap.size < _; omega)).trans (by simp)
   have HL := Hd hl
   have hbw : Below w.heap.size w wr := (Zr.alloc Zl _).trans (hbe.mono (by omega))
   have HBW := Hd hbw
   have HBE := Hd hbe
   clear hl hbe hbw
   by_cases hlt : i < e.args.len
   · have hlt2 : i < x.2.length := by have := uh HLN; omega
     have hy := Zg hlt2
     obtain ⟨b, o, c, had, hb, hlies, hrd⟩ := (uh HS).at_ i _ hy
     have hsum := Zc5 (Zab n) x.2 i _ hy
     have hpar : Zab (n + 1) x = 1 + (x.2.map (Zab n)).sum := rfl
     have hsle := ZdV (Zab n) x.2 i (by omega)
     have hsle2 := ZdV (Zab n) x.2 (i + 1) hlt2
     generalize x.2[i] = y at *
     have hll := hlies.later (uh HBW) Zl hb
     obtain ⟨p0, p1, p2, p3, p4⟩ := hll
     have HRD := Hd (hrd.later (uh HBW) Zl)
     have HSU := Hd hsum
     clear hlies hrd hsum hy
     have hi0 : (0 : Int) ≤ (i : Int) := by omega
     have hi1 : (i : Int) < (e.args.len : Int) := by omega
     rw [had] at b4
     rw [had]
     by_cases hle : l ≤ enough
     · have hnew : Hid (l + Za9 (enough - l) (Zab n y) = Za9 enough (1 + Zb8 (Zab n) x.2 (i + 1))) := by
        show _ = _
        have a := uh HL
        have b := uh HSU
        rw [b]
        unfold Za9 at a ⊢
        split at a
        · by_cases hc : ((Zab n y : Nat) : Int) ≤ enough - l
          · rw [if_pos hc, if_pos (by omega)]; omega
          rw [if_neg hc, if_neg (by omega)]; omega
        omega
       have hcb : 0 ≤ Za9 (enough - l) (Zab n y) ∧ Za9 (enough - l) (Zab n y) ≤ 1001 := by unfold Za9; split <;> omega
       have HCB := Hd hcb
       clear hpar hsle hsle2 hcb
       go_wp2_with fail
       refine ((uh IH) c y _ (enough - l) (uh HRD) (by omega) (by omega)).mono ?_
       rintro r w1 ⟨rfl, hb1⟩
       have hz1 := hb1.size
       have HB1 := Hd ((uh HBE).trans (hb1.mono (by omega)))
       clear hb1
       obtain ⟨hcb1, hcb2⟩ := uh HCB
       have HNW := hnew
       clear hnew
       go_wp2_with fail
       exact ⟨⟨i + 1, l + Za9 (enough - l) (Zab n y), by omega, by go_num, rfl, uh HNW, by omega, by have := uh HB1; rw [had] at this; exact this⟩, by simp [intOf]; omega⟩
     have hfin : Hid (l = Za9 enough (Zab (n + 1) x)) := by
      show _ = _
      have a := uh HL
      unfold Za9 at a ⊢
      rw [hpar]
      split at a
      · omega
      rw [if_neg (by omega)]; omega
     clear hpar hsle hsle2
     go_wp2_with fail
     go_ret
     exact ⟨Za2 (uh hfin), uh HBW⟩
   have hfin : Hid (l = Za9 enough (Zab (n + 1) x)) := by
    show _ = _
    have a := uh HL
    have e1 : i = x.2.length := by have := uh HLN; omega
    rw [a, e1, Zdi]; rfl
   go_wp2_with fail
   go_ret
   exact ⟨Za2 (uh hfin), uh HBW⟩
end Go.Proofs.YtfccpddehpgfoaaGreatDoor
