import Derived.Test.YtimcdnbfdkpffaaGreatGm24
import Derived.Test.YtimcdnbfdkpffaaGreatGm6
/- Stage 14: the document's Has, Drop, Left, Marks. -/
namespace Go.Proofs.YtimcdnbfdkpffaaGreat
set_option maxRecDepth 100000
open Go.RowKit Go.Shelf
section
variable {w w' : World} {q qn qx : Nat} {s : Gr} {G Gn Gx : Nat → Prop}
theorem fdV_none {t : Tb} {H X : Nat} (h : t.find H X = none) : t.fdV H X = #[.int .i64 0, .bool false] := by unfold Tb.fdV; rw [h]
theorem fdV_some {t : Tb} {H X k : Nat} (h : t.find H X = some k) : t.fdV H X = #[.int .i64 (k : Int), .bool true] := by unfold Tb.fdV; rw [h]
end
end Go.Proofs.YtimcdnbfdkpffaaGreat
/- A region that draws its order, told in two phases: ahead of one operation (a call that turns what is old) and behind it; frames told by closed keys. Over any program. -/
namespace Go.Proofs.YtimcdnbfdkpffaaGreat
open Go.RowKit
section
variable {P : Program} {ops : Array Oper} {Q : Exit → Act → World → Prop}
end
/-- The entries (place, slot, value) off closed keys. -/
def kv (K : List (Nat × Nat)) (V : Nat → Value) : List (Nat × Nat × Value) := K.map fun x => (x.1, x.2, V x.1)
def keyB (K : List (Nat × Nat)) (i s : Nat) : Bool := K.contains (i, s) && K.all fun x => (x.1 == i && x.2 == s) || (x.1 != i && x.2 != s)
section
variable {a0 a : Act} {K : List (Nat × Nat)} {V : Nat → Value} {l : Array Bool}
theorem FrU.putK (h : FrU a0 (kv K V) l a) (i s : Nat) (v : Value) (hs : s < a0.tmps.size) (hk : keyB K i s = true) (hv : V i = v) : FrU a0 (kv K V) (l.setIfInBounds i true) (a.put (some s) v) := by
  unfold keyB at hk
  rw [Bool.and_eq_true] at hk
  refine h.put i s v hs ⟨(i, s, V i), List.mem_map.2 ⟨(i, s), by simpa using hk.1, rfl⟩, rfl⟩ (fun x hx => ?_) fun x hx => ⟨x, hx, rfl⟩
  obtain ⟨y, hy, rfl⟩ := List.mem_map.1 hx
  have := List.all_eq_true.1 hk.2 y hy
  simp only [Bool.or_eq_true, Bool.and_eq_true, beq_iff_eq, bne_iff_ne, ne_eq] at this
  rcases this with ⟨e1, e2⟩ | ⟨e1, e2⟩
  · exact .inl ⟨e1, e2, by show V y.1 = v; rw [e1]; exact hv⟩
  · exact .inr ⟨e1, e2, hx⟩
theorem FrU.slotK (h : FrU a0 (kv K V) l a) {i s : Nat} {v : Value} (hk : K.contains (i, s) = true) (hl : l.getD i false = true) (hv : V i = v) : a.tmps[s]?.getD undef = v := by
  rw [← hv]
  exact h.slot (List.mem_map.2 ⟨(i, s), by simpa using hk, rfl⟩) hl
theorem FrU.baseK (h : FrU a0 (kv K V) l a) (s : Nat) (hk : (K.all fun x => x.2 != s) = true) {v : Value} (h0 : a0.tmps[s]?.getD undef = v) : a.tmps[s]?.getD undef = v := by
  refine h.base s (fun x hx => ?_) h0
  obtain ⟨y, hy, rfl⟩ := List.mem_map.1 hx
  have := List.all_eq_true.1 hk y hy
  simpa using this
def keysB : List (Nat × Nat) → Bool
  | [] => true
  | x :: r => r.all (fun y => x.2 != y.2) && keysB r
theorem keysB_spec : ∀ {K : List (Nat × Nat)}, keysB K = true → ∀ V, (kv K V).Pairwise fun x y => x.2.1 ≠ y.2.1
  | [], _, _ => .nil
  | x :: r, h, V => by
    unfold keysB at h
    rw [Bool.and_eq_true] at h
    refine List.pairwise_cons.2 ⟨fun z hz => ?_, keysB_spec h.2 V⟩
    obtain ⟨y, hy, rfl⟩ := List.mem_map.1 hz
    have := List.all_eq_true.1 h.1 y hy
    simpa using this
theorem FrU.allK (h : FrU a0 (kv K V) l a) {n : Nat} (hl : ∀ i, i < n → l.getD i false = true) (hk : (keysB K && K.all fun x => decide (x.1 < n) && decide (x.2 < a0.tmps.size)) = true) : a = { tmps := setAll (kv K V) a0.tmps, defers := a0.defers } := by
  rw [Bool.and_eq_true] at hk
  refine h.all (fun x hx => ?_) (keysB_spec hk.1 V) fun x hx => ?_
  all_goals
    obtain ⟨y, hy, rfl⟩ := List.mem_map.1 hx
    have := List.all_eq_true.1 hk.2 y hy
    simp only [Bool.and_eq_true, decide_eq_true_eq] at this
  · exact hl _ this.1
  · exact this.2
end
end Go.Proofs.YtimcdnbfdkpffaaGreat
/- Frames told by closed keys: one entry told anew; all at once. For qreg.py's regions; over any program. -/
namespace Go.Proofs.YtimcdnbfdkpffaaGreat
open Go.RowKit
/-- One entry told anew, that has not come. -/
theorem FrU.swapQ {a0 a : Act} {K : List (Nat × Nat)} {V V' : Nat → Value} {l : Array Bool} (h : FrU a0 (kv K V) l a) (i : Nat) (hn : l.getD i true = false) (hV : ∀ k, k ≠ i → V k = V' k) : FrU a0 (kv K V') l a := by
  obtain ⟨h1, h2, h3, h4⟩ := h
  refine ⟨h1, h2, fun x hx hl => ?_, fun s hs => h4 s fun x hx => ?_⟩
  · obtain ⟨y, hy, rfl⟩ := List.mem_map.1 hx
    by_cases e : y.1 = i
    · have hl : l.getD y.1 false = true := hl
      rw [e] at hl
      rw [Array.getD_eq_getD_getElem?] at hl hn
      cases hq : l[i]? with
      | none => rw [hq] at hl; cases hl
      | some b =>
        rw [hq] at hl hn
        have e1 : b = true := hl
        have e2 : b = false := hn
        rw [e1] at e2
        cases e2
    · show a.tmps[y.2]?.getD undef = V' y.1
      rw [← hV y.1 e]
      exact h3 _ (List.mem_map.2 ⟨y, hy, rfl⟩) hl
  · obtain ⟨y, hy, rfl⟩ := List.mem_map.1 hx
    exact hs (y.1, y.2, V' y.1) (List.mem_map.2 ⟨y, hy, rfl⟩)
theorem FrU.allQ {a0 a : Act} {K : List (Nat × Nat)} {V : Nat → Value} {BL : List (Nat × Nat × Value)} {l : Array Bool} (h : FrU a0 (kv K V) l a) (hB : kv K V = BL) {n : Nat} (hl : ∀ i, i < n → l.getD i false = true) (hk : (keysB K && K.all fun x => decide (x.1 < n) && decide (x.2 < a0.tmps.size)) = true) : a = { tmps := setAll BL a0.tmps, defers := a0.defers } := by
  subst hB
  exact h.allK hl hk
end Go.Proofs.YtimcdnbfdkpffaaGreat
