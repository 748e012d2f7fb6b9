/- Stage 19: lists of backends in pure words: their order by name. -/
import Derived.Test.YtfchmmojhfjibaaPqa
import Derived.Laws.Cover1
import Derived.Sort.Walk0
namespace Go.Proofs.Ytfchmmojhfjibaa
set_option maxRecDepth 100000
open Go.RowKit Go.Shelf
theorem bl_irrefl : ∀ x : List UInt8, Op.bytesLess x x = false
  | [] => rfl
  | a :: x => by
    have h : ¬ a < a := UInt8.lt_irrefl a
    simp [Op.bytesLess, h, bl_irrefl x]
theorem bl_tri : ∀ x y : List UInt8, Op.bytesLess x y = true ∨ x = y ∨ Op.bytesLess y x = true
  | [], [] => .inr (.inl rfl)
  | [], _ :: _ => .inl rfl
  | _ :: _, [] => .inr (.inr rfl)
  | a :: x, b :: y => by
    rcases (show a.toNat < b.toNat ∨ a.toNat = b.toNat ∨ b.toNat < a.toNat by omega) with h | h | h
    · exact .inl (by simp [Op.bytesLess, UInt8.lt_iff_toNat_lt, h])
    · obtain rfl := UInt8.toNat_inj.1 h
      rcases bl_tri x y with q | q | q
      · exact .inl (by simp [Op.bytesLess, q])
      · exact .inr (.inl (by rw [q]))
      · exact .inr (.inr (by simp [Op.bytesLess, q]))
    · exact .inr (.inr (by simp [Op.bytesLess, UInt8.lt_iff_toNat_lt, h]))
theorem bl_trans : ∀ x y z : List UInt8, Op.bytesLess x y = true → Op.bytesLess y z = true → Op.bytesLess x z = true
  | [], [], _, h, _ => by cases h
  | [], _ :: _, [], _, h => by cases h
  | [], _ :: _, _ :: _, _, _ => rfl
  | _ :: _, [], _, h, _ => by cases h
  | _ :: _, _ :: _, [], _, h => by cases h
  | a :: x, b :: y, c :: z, h, k => by
    simp only [Op.bytesLess, UInt8.lt_iff_toNat_lt, Bool.or_eq_true, Bool.and_eq_true, decide_eq_true_eq, beq_iff_eq] at h k ⊢
    rcases h with h | ⟨rfl, h⟩ <;> rcases k with k | ⟨rfl, k⟩
    · exact .inl (by omega)
    · exact .inl h
    · exact .inl k
    · exact .inr ⟨rfl, bl_trans x y z h k⟩
/-- One name below another one. -/
def ltB (a b : ByteArray) : Bool := Op.bytesLess a.toList b.toList
def leB (a b : ByteArray) : Bool := Op.bytesLess a.toList b.toList || a.toList == b.toList
theorem tl_inj {a b : ByteArray} (h : a.toList = b.toList) : a = b := by
  rw [ByteArray.toList_eq, ByteArray.toList_eq] at h
  cases a
  cases b
  exact congrArg ByteArray.mk (Array.toList_inj.1 h)
theorem tl_beq (a b : ByteArray) : (a.toList == b.toList) = decide (a = b) := by
  rw [Bool.eq_iff_iff, beq_iff_eq, decide_eq_true_eq]
  exact ⟨tl_inj, fun h => by rw [h]⟩
theorem ltB_irrefl (a : ByteArray) : ltB a a = false := bl_irrefl _
theorem ltB_trans {a b c : ByteArray} (h : ltB a b = true) (k : ltB b c = true) : ltB a c = true := bl_trans _ _ _ h k
theorem ltB_tri (a b : ByteArray) : ltB a b = true ∨ a = b ∨ ltB b a = true := by
  rcases bl_tri a.toList b.toList with h | h | h
  · exact .inl h
  · exact .inr (.inl (tl_inj h))
  · exact .inr (.inr h)
theorem leB_iff (a b : ByteArray) : leB a b = true ↔ ltB a b = true ∨ a = b := by
  unfold leB ltB
  rw [Bool.or_eq_true, beq_iff_eq]
  exact ⟨fun h => h.imp id tl_inj, fun h => h.imp id fun h => by rw [h]⟩
theorem leB_not (a b : ByteArray) : leB a b = false ↔ ltB b a = true := by
  rw [← Bool.not_eq_true, leB_iff]
  rcases ltB_tri a b with h | h | h
  · refine ⟨fun q => absurd (.inl h) q, fun q => ?_⟩
    have := ltB_trans h q
    rw [ltB_irrefl] at this
    cases this
  · refine ⟨fun q => absurd (.inr h) q, fun q => ?_⟩
    rw [h, ltB_irrefl] at q
    cases q
  · refine ⟨fun _ => h, fun q r => ?_⟩
    rcases r with r | r
    · have := ltB_trans r q
      rw [ltB_irrefl] at this
      cases this
    · rw [r, ltB_irrefl] at h
      cases h
/-- A backend: its name, its weight. -/
structure Wt where
  s : ByteArray
  w : Int
/-- Which one stands at i. -/
def wa (l : List Wt) (i : Nat) : Wt := l[i]?.getD ⟨⟨#[]⟩, 0⟩
/-- .. as cells. -/
def wf (l : List Wt) (k : Nat) : Value := if k % 2 = 0 then .string (wa l (k / 2)).s else .int .i64 (wa l (k / 2)).w
theorem wf_s (l : List Wt) (i : Nat) : wf l (i * 2) = .string (wa l i).s := by
  unfold wf
  rw [if_pos (by omega), show i * 2 / 2 = i by omega]
theorem wf_w (l : List Wt) (i : Nat) : wf l (i * 2 + 1) = .int .i64 (wa l i).w := by
  unfold wf
  rw [if_neg (by omega), show (i * 2 + 1) / 2 = i by omega]
theorem wa_at {l : List Wt} {i : Nat} (h : i < l.length) : wa l i = l[i] := by
  unfold wa
  rw [List.getElem?_eq_getElem h]
  rfl
theorem wa_mem {l : List Wt} {i : Nat} (h : i < l.length) : wa l i ∈ l := by
  rw [wa_at h]
  exact List.getElem_mem h
/-- i goes ahead of j. -/
def lti (l : List Wt) (i j : Nat) : Prop := ltB (wa l i).s (wa l j).s = true ∨ ((wa l i).s = (wa l j).s ∧ i < j)
theorem lti_irrefl (l : List Wt) (i : Nat) : ¬ lti l i i := fun h => by
  rcases h with h | h
  · rw [ltB_irrefl] at h
    cases h
  · omega
theorem lti_trans {l : List Wt} {i j k : Nat} (h : lti l i j) (q : lti l j k) : lti l i k := by
  rcases h with h | ⟨h, h1⟩ <;> rcases q with q | ⟨q, q1⟩
  · exact .inl (ltB_trans h q)
  · exact .inl (q ▸ h)
  · exact .inl (h ▸ q)
  · exact .inr ⟨h.trans q, by omega⟩
/-- Two rows in one strict order with the same things are the same. -/
theorem sorted_one {α : Type} {R : α → α → Prop} (ir : ∀ i, ¬ R i i) (tr : ∀ i j k, R i j → R j k → R i k) : ∀ {x y : List α}, x.Pairwise R → y.Pairwise R → (∀ i, i ∈ x ↔ i ∈ y) → x = y
  | [], [], _, _, _ => rfl
  | [], b :: y, _, _, h => absurd ((h b).2 (.head _)) (by simp)
  | a :: x, [], _, _, h => absurd ((h a).1 (.head _)) (by simp)
  | a :: x, b :: y, hx, hy, h => by
    rw [List.pairwise_cons] at hx hy
    have hab : a = b := by
      rcases List.mem_cons.1 ((h a).1 (.head _)) with e | e
      · exact e
      · rcases List.mem_cons.1 ((h b).2 (.head _)) with q | q
        · exact q.symm
        · exact absurd (tr _ _ _ (hx.1 b q) (hy.1 a e)) (ir a)
    subst hab
    rw [sorted_one ir tr hx.2 hy.2 fun i => ?_]
    constructor
    · intro hi
      rcases List.mem_cons.1 ((h i).1 (.tail _ hi)) with e | e
      · subst e
        exact absurd (hx.1 i hi) (ir i)
      · exact e
    · intro hi
      rcases List.mem_cons.1 ((h i).2 (.tail _ hi)) with e | e
      · subst e
        exact absurd (hy.1 i hi) (ir i)
      · exact e
/-- The numbers of those that take part, in their order. -/
structure Srt (l : List Wt) (o : List Nat) (n : Nat) : Prop where
  ord : o.Pairwise (lti l)
  mem : ∀ i, i ∈ o ↔ i < n ∧ 0 < (wa l i).w
theorem Srt.one {l : List Wt} {o p : List Nat} {n : Nat} (h : Srt l o n) (k : Srt l p n) : o = p :=
  sorted_one (lti_irrefl l) (fun _ _ _ => lti_trans) h.ord k.ord fun i => (h.mem i).trans (k.mem i).symm
/-- How many of a row go ahead of a name (they or their like). -/
def cutN (l : List Wt) (s : ByteArray) : List Nat → Nat
  | [] => 0
  | a :: x => if leB (wa l a).s s = true then cutN l s x + 1 else 0
theorem cutN_is (l : List Wt) (s : ByteArray) : ∀ (o : List Nat) (k : Nat), k ≤ o.length → (∀ j, j < k → leB (wa l (o[j]?.getD 0)).s s = true) → (k < o.length → leB (wa l (o[k]?.getD 0)).s s = false) → cutN l s o = k
  | [], k, h, _, _ => by
    have : k = 0 := by simpa using h
    subst this
    rfl
  | a :: x, 0, _, _, h => by
    have := h (by simp)
    unfold cutN
    rw [if_neg (by simpa using this)]
  | a :: x, k + 1, h1, h2, h3 => by
    unfold cutN
    rw [if_pos (by simpa using h2 0 (by omega)), cutN_is l s x k (by simp at h1; omega) (fun j hj => by simpa using h2 (j + 1) (by omega)) fun q => by simpa using h3 (by simp; omega)]
/-- .. with one more. -/
def insO (l : List Wt) (o : List Nat) (i : Nat) : List Nat := o.take (cutN l (wa l i).s o) ++ i :: o.drop (cutN l (wa l i).s o)
def ordN (l : List Wt) : Nat → List Nat
  | 0 => []
  | n + 1 => if 0 < (wa l n).w then insO l (ordN l n) n else ordN l n
theorem insO_sorted (l : List Wt) : ∀ (o : List Nat) (i : Nat), o.Pairwise (lti l) → (∀ j, j ∈ o → j < i) → (insO l o i).Pairwise (lti l)
  | [], i, _, _ => by simp [insO, cutN]
  | a :: x, i, h, hlt => by
    have h2 := List.pairwise_cons.1 h
    by_cases q : leB (wa l a).s (wa l i).s = true
    · have e : insO l (a :: x) i = a :: insO l x i := by
        unfold insO
        simp [cutN, q]
      rw [e, List.pairwise_cons]
      refine ⟨fun j hj => ?_, insO_sorted l x i h2.2 fun j hj => hlt j (.tail _ hj)⟩
      have hj' : j = i ∨ j ∈ x := by
        unfold insO at hj
        rcases List.mem_append.1 hj with r | r
        · exact .inr (List.mem_of_mem_take r)
        · rcases List.mem_cons.1 r with r | r
          · exact .inl r
          · exact .inr (List.mem_of_mem_drop r)
      rcases hj' with rfl | r
      · rcases (leB_iff _ _).1 q with p | p
        · exact .inl p
        · exact .inr ⟨p, hlt a (.head _)⟩
      · exact h2.1 j r
    · have e : insO l (a :: x) i = i :: a :: x := by
        unfold insO
        simp [cutN, q]
      rw [e, List.pairwise_cons]
      have hb : lti l i a := .inl ((leB_not _ _).1 (by simpa using q))
      refine ⟨fun j hj => ?_, h⟩
      rcases List.mem_cons.1 hj with rfl | r
      · exact hb
      · exact lti_trans hb (h2.1 j r)
theorem insO_mem (l : List Wt) (o : List Nat) (i j : Nat) : j ∈ insO l o i ↔ j = i ∨ j ∈ o := by
  unfold insO
  have e := List.take_append_drop (cutN l (wa l i).s o) o
  constructor
  · intro h
    rcases List.mem_append.1 h with r | r
    · exact .inr (List.mem_of_mem_take r)
    · rcases List.mem_cons.1 r with r | r
      · exact .inl r
      · exact .inr (List.mem_of_mem_drop r)
  · intro h
    rcases h with h | h
    · exact List.mem_append.2 (.inr (h ▸ .head _))
    · rw [← e] at h
      rcases List.mem_append.1 h with r | r
      · exact List.mem_append.2 (.inl r)
      · exact List.mem_append.2 (.inr (.tail _ r))
theorem ordN_srt (l : List Wt) : ∀ n, Srt l (ordN l n) n
  | 0 => ⟨.nil, fun i => ⟨(fun h => nomatch h), fun h => absurd h.1 (by omega)⟩⟩
  | n + 1 => by
    have ih := ordN_srt l n
    by_cases h : 0 < (wa l n).w
    · have e : ordN l (n + 1) = insO l (ordN l n) n := by show (if _ then _ else _) = _; rw [if_pos h]
      rw [e]
      refine ⟨insO_sorted l _ n ih.ord fun j hj => ((ih.mem j).1 hj).1, fun i => ?_⟩
      rw [insO_mem, ih.mem]
      constructor
      · rintro (rfl | q)
        · exact ⟨by omega, h⟩
        · exact ⟨by omega, q.2⟩
      · rintro ⟨q, r⟩
        rcases (show i = n ∨ i < n by omega) with e | e
        · exact .inl e
        · exact .inr ⟨e, r⟩
    · have e : ordN l (n + 1) = ordN l n := by show (if _ then _ else _) = _; rw [if_neg h]
      rw [e]
      refine ⟨ih.ord, fun i => ?_⟩
      rw [ih.mem]
      constructor
      · rintro ⟨q, r⟩
        exact ⟨by omega, r⟩
      · rintro ⟨q, r⟩
        rcases (show i = n ∨ i < n by omega) with rfl | e
        · exact absurd r h
        · exact ⟨e, r⟩
def ordL (l : List Wt) : List Nat := ordN l l.length
theorem ordL_srt (l : List Wt) : Srt l (ordL l) l.length := ordN_srt l _
theorem ordL_is {l : List Wt} {o : List Nat} (h : Srt l o l.length) : o = ordL l := h.one (ordL_srt l)
theorem Srt.nodup {l : List Wt} {o : List Nat} {n : Nat} (h : Srt l o n) : o.Nodup := List.Pairwise.imp (S := fun a b => a ≠ b) (fun {a b} q (e : a = b) => lti_irrefl l b (by rw [e] at q; exact q)) h.ord
/-- A row of numbers below m without two that are the same has at most m. -/
theorem pigeon : ∀ (m : Nat) (x : List Nat), x.Nodup → (∀ i, i ∈ x → i < m) → x.length ≤ m
  | 0, [], _, _ => Nat.le_refl _
  | 0, a :: x, _, h => absurd (h a (.head _)) (by omega)
  | m + 1, x, hn, h => by
    by_cases hm : m ∈ x
    · have h1 := pigeon m (x.erase m) (hn.erase m) fun i hi => by
        have h2 := h i (List.mem_of_mem_erase hi)
        have h3 : i ≠ m := fun e => by
          rw [e] at hi
          exact (hn.not_mem_erase) hi
        omega
      rw [List.length_erase_of_mem hm] at h1
      omega
    · have h1 := pigeon m x hn fun i hi => by
        have h2 := h i hi
        have h3 : i ≠ m := fun e => hm (e ▸ hi)
        omega
      omega
theorem ordN_len (l : List Wt) (n : Nat) : (ordN l n).length ≤ n := pigeon n _ (ordN_srt l n).nodup fun i hi => (((ordN_srt l n).mem i).1 hi).1
/-- What may be. -/
def sumN (l : List Wt) : Nat → Int
  | 0 => 0
  | n + 1 => sumN l n + (wa l n).w
structure OkL (l : List Wt) (m : Int) : Prop where
  sz : szP m = true
  len : l.length ≤ 16
  one : ∀ i, i < l.length → (wa l i).s.size ≠ 0 ∧ (wa l i).s.size ≤ 16 ∧ 0 ≤ (wa l i).w ∧ (wa l i).w ≤ 100
  two : ∀ i k, i < l.length → k < i → (wa l k).s ≠ (wa l i).s
  sum : sumN l l.length ≤ m
noncomputable def mayW (l : List Wt) (m : Int) : Bool := @decide (OkL l m) (Classical.propDecidable _)
theorem mayW_iff {l : List Wt} {m : Int} : mayW l m = true ↔ OkL l m := by
  classical
  unfold mayW
  exact decide_eq_true_iff
end Go.Proofs.Ytfchmmojhfjibaa
