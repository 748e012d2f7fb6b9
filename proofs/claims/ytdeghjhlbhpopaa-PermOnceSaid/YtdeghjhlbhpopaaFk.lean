/- A region that draws its order, told in two phases: ahead of one operation (a call that turns what is old) and behind it; frames told by closed keys. Over any program. -/
import Derived.Test.YtdeghjhlbhpopaaInW
namespace Go.Proofs.Ytdeghjhlbhpopaa
open Go.RowKit
section
variable {P : Program} {ops : Array Oper} {Q : Exit → Act → World → Prop}
/-- Whatever stands behind the n-th operation waits for it, or for another one behind it. -/
def lateB (ops : Array Oper) (n : Nat) : Bool := decide (n < ops.size) && (List.range ops.size).all fun i => decide (i ≤ n) || (match ops[i]? with | some o => o.after.any (fun e => Region.binds .any e && decide (n ≤ e.on)) | none => true)
theorem lateB_spec {n : Nat} (h : lateB ops n = true) : n < ops.size ∧ ∀ (i : Nat) (o : Oper), ops[i]? = some o → n < i → ∃ e, e ∈ o.after ∧ Region.binds .any e = true ∧ n ≤ e.on := by
  unfold lateB at h
  rw [Bool.and_eq_true] at h
  refine ⟨of_decide_eq_true h.1, fun i o ho hi => ?_⟩
  have hs : i < ops.size := (Array.getElem?_eq_some_iff.1 ho).1
  have r := List.all_eq_true.1 h.2 i (List.mem_range.2 hs)
  rw [ho] at r
  have h0 : decide (i ≤ n) = false := by simp; omega
  rw [h0, Bool.false_or] at r
  obtain ⟨e, he, hb⟩ := Array.any_eq_true'.1 r
  rw [Bool.and_eq_true] at hb
  exact ⟨e, he, hb.1, of_decide_eq_true hb.2⟩
theorem wpAny_switch (n : Nat) (hn : n < ops.size) (I : Array Bool → Act → World → Prop) (hI : ∀ l a w, I l a w → l.size = ops.size) (hord : ∀ (i : Nat) (o : Oper), ops[i]? = some o → ∀ e, e ∈ o.after → Region.binds .any e = true → e.on < i)
    (hlate : ∀ (i : Nat) (o : Oper), ops[i]? = some o → n < i → ∃ e, e ∈ o.after ∧ Region.binds .any e = true ∧ n ≤ e.on)
    (hstep : ∀ l a w i o, I l a w → i < n → ops[i]? = some o → l.getD i true = false → (∀ e, e ∈ o.after → Region.binds .any e = true → l.getD e.on false = true) → Region.wanted o (yielded ops a.tmps) = true ∧ o.wp P a w (fun a' w' => I (l.setIfInBounds i true) a' w') Q)
    (hsw : ∀ l a w i o, I l a w → i = n → ops[i]? = some o → l.getD i true = false → (∀ j, n ≤ j → l.getD j false = false) → (∀ e, e ∈ o.after → Region.binds .any e = true → l.getD e.on false = true) → Region.wanted o (yielded ops a.tmps) = true ∧ o.wp P a w (fun a' w' => ∀ fuel, unl (l.setIfInBounds i true) ≤ fuel → wpAny P .any ops Q fuel (l.setIfInBounds i true) a' w') Q) :
    ∀ fuel l a w, I l a w → (∀ j, n ≤ j → l.getD j false = false) → unl l ≤ fuel → wpAny P .any ops Q fuel l a w
  | 0, l, a, w, h, hz, hf => by
    exfalso
    have hr : Region.ready .any ops l = [] := by
      cases hc : Region.ready .any ops l with
      | nil => rfl
      | cons i r =>
        have hm : i ∈ Region.ready .any ops l := by rw [hc]; exact .head _
        exact absurd (Nat.le_zero.1 hf) (unl_none (rdy_spec hm).2.1)
    have hc := all_come hord (hI l a w h) hr n hn
    rw [hz n (Nat.le_refl _)] at hc
    cases hc
  | fuel + 1, l, a, w, h, hz, hf => by
    refine ⟨fun hr => ?_, fun i hi => ?_⟩
    · have hc := all_come hord (hI l a w h) hr n hn
      rw [hz n (Nat.le_refl _)] at hc
      cases hc
    obtain ⟨h1, h2, h3⟩ := rdy_spec hi
    have ho : ops[i]? = some ops[i] := Array.getElem?_eq_getElem h1
    unfold wpOp
    rw [ho]
    show if Region.wanted ops[i] (yielded ops a.tmps) = true then _ else _
    rcases Nat.lt_trichotomy i n with hlt | heq | hgt
    · obtain ⟨hw, hs⟩ := hstep l a w i _ h hlt ho h2 (h3 _ ho)
      rw [if_pos hw]
      refine .inl (Oper.wp_mono (fun a' w' h' => ?_) hs)
      exact wpAny_switch n hn I hI hord hlate hstep hsw fuel _ a' w' h' (fun j hj => by rw [getD_set (by omega)]; exact hz j hj) (by have := unl_set h2; omega)
    · obtain ⟨hw, hs⟩ := hsw l a w i _ h heq ho h2 hz (h3 _ ho)
      rw [if_pos hw]
      exact .inl (Oper.wp_mono (fun a' w' h' => h' fuel (by have := unl_set h2; omega)) hs)
    · exfalso
      obtain ⟨e, he, hb, hle⟩ := hlate i _ ho hgt
      have hc := h3 _ ho e he hb
      rw [hz e.on hle] at hc
      cases hc
theorem wp_region_switch {id : Nat} {a : Act} {w : World} (n : Nat) (I : Act → Array Bool → Act → World → Prop) (hm : P.follows .mixedOrders = true) (hI : ∀ l a' w, I a l a' w → l.size = ops.size)
    (hB : ordG ops = true) (hL : lateB ops n = true) (h0 : I a (Array.replicate ops.size false) a w.drew)
    (hstep : ∀ l a' w i o, I a l a' w → i < n → ops[i]? = some o → l.getD i true = false → (∀ e, e ∈ o.after → Region.binds .any e = true → l.getD e.on false = true) → Region.wanted o (yielded ops a'.tmps) = true ∧ o.wp P a' w (fun a'' w' => I a (l.setIfInBounds i true) a'' w') Q)
    (hsw : ∀ l a' w i o, I a l a' w → i = n → ops[i]? = some o → l.getD i true = false → (∀ j, n ≤ j → l.getD j false = false) → (∀ e, e ∈ o.after → Region.binds .any e = true → l.getD e.on false = true) → Region.wanted o (yielded ops a'.tmps) = true ∧ o.wp P a' w (fun a'' w' => ∀ fuel, unl (l.setIfInBounds i true) ≤ fuel → wpAny P .any ops Q fuel (l.setIfInBounds i true) a'' w') Q) : (Code.region id ops true).wp P Q a w :=
  wp_region_any hm (wpAny_switch n (lateB_spec hL).1 (I a) hI (ordG_spec hB) (lateB_spec hL).2 hstep hsw ops.size _ _ _ h0 (fun j _ => getD_none _ j) (by
    unfold unl
    have := List.countP_le_length (p := fun b => !b) (l := (Array.replicate ops.size false).toList)
    simpa using this))
end
/-- The entries (place, slot, value) off closed keys. -/
def kv (K : List (Nat × Nat)) (V : Nat → Value) : List (Nat × Nat × Value) := K.map fun x => (x.1, x.2, V x.1)
def keyB (K : List (Nat × Nat)) (i s : Nat) : Bool := K.contains (i, s) && K.all fun x => (x.1 == i && x.2 == s) || (x.1 != i && x.2 != s)
section
variable {a0 a : Act} {K : List (Nat × Nat)} {V : Nat → Value} {l : Array Bool}
theorem FrU.putK (h : FrU a0 (kv K V) l a) (i s : Nat) (v : Value) (hs : s < a0.tmps.size) (hk : keyB K i s = true) (hv : V i = v) : FrU a0 (kv K V) (l.setIfInBounds i true) (a.put (some s) v) := by
  unfold keyB at hk
  rw [Bool.and_eq_true] at hk
  refine h.put i s v hs ⟨(i, s, V i), List.mem_map.2 ⟨(i, s), by simpa using hk.1, rfl⟩, rfl⟩ (fun x hx => ?_) fun x hx => ⟨x, hx, rfl⟩
  obtain ⟨y, hy, rfl⟩ := List.mem_map.1 hx
  have := List.all_eq_true.1 hk.2 y hy
  simp only [Bool.or_eq_true, Bool.and_eq_true, beq_iff_eq, bne_iff_ne, ne_eq] at this
  rcases this with ⟨e1, e2⟩ | ⟨e1, e2⟩
  · exact .inl ⟨e1, e2, by show V y.1 = v; rw [e1]; exact hv⟩
  · exact .inr ⟨e1, e2, hx⟩
theorem FrU.slotK (h : FrU a0 (kv K V) l a) {i s : Nat} {v : Value} (hk : K.contains (i, s) = true) (hl : l.getD i false = true) (hv : V i = v) : a.tmps[s]?.getD undef = v := by
  rw [← hv]
  exact h.slot (List.mem_map.2 ⟨(i, s), by simpa using hk, rfl⟩) hl
theorem FrU.baseK (h : FrU a0 (kv K V) l a) (s : Nat) (hk : (K.all fun x => x.2 != s) = true) {v : Value} (h0 : a0.tmps[s]?.getD undef = v) : a.tmps[s]?.getD undef = v := by
  refine h.base s (fun x hx => ?_) h0
  obtain ⟨y, hy, rfl⟩ := List.mem_map.1 hx
  have := List.all_eq_true.1 hk y hy
  simpa using this
def keysB : List (Nat × Nat) → Bool
  | [] => true
  | x :: r => r.all (fun y => x.2 != y.2) && keysB r
theorem keysB_spec : ∀ {K : List (Nat × Nat)}, keysB K = true → ∀ V, (kv K V).Pairwise fun x y => x.2.1 ≠ y.2.1
  | [], _, _ => .nil
  | x :: r, h, V => by
    unfold keysB at h
    rw [Bool.and_eq_true] at h
    refine List.pairwise_cons.2 ⟨fun z hz => ?_, keysB_spec h.2 V⟩
    obtain ⟨y, hy, rfl⟩ := List.mem_map.1 hz
    have := List.all_eq_true.1 h.1 y hy
    simpa using this
theorem FrU.allK (h : FrU a0 (kv K V) l a) {n : Nat} (hl : ∀ i, i < n → l.getD i false = true) (hk : (keysB K && K.all fun x => decide (x.1 < n) && decide (x.2 < a0.tmps.size)) = true) : a = { tmps := setAll (kv K V) a0.tmps, defers := a0.defers } := by
  rw [Bool.and_eq_true] at hk
  refine h.all (fun x hx => ?_) (keysB_spec hk.1 V) fun x hx => ?_
  all_goals
    obtain ⟨y, hy, rfl⟩ := List.mem_map.1 hx
    have := List.all_eq_true.1 hk.2 y hy
    simp only [Bool.and_eq_true, decide_eq_true_eq] at this
  · exact hl _ this.1
  · exact this.2
/-- More keys, none of which has come. -/
theorem FrU.wideK {K' : List (Nat × Nat)} {V' : Nat → Value} {n : Nat} (h : FrU a0 (kv K V) l a) (hz : ∀ j, n ≤ j → l.getD j false = false) (hsub : (K.all fun x => K'.contains x) = true) (hnew : (K'.all fun x => decide (n ≤ x.1) || K.contains x) = true) (hV : ∀ i, i < n → V i = V' i) : FrU a0 (kv K' V') l a := by
  obtain ⟨h1, h2, h3, h4⟩ := h
  refine ⟨h1, h2, fun x hx hl => ?_, fun s hs => h4 s fun x hx => ?_⟩
  · obtain ⟨y, hy, rfl⟩ := List.mem_map.1 hx
    by_cases hn : n ≤ y.1
    · have := hz y.1 hn
      rw [show l.getD y.1 false = true from hl] at this
      cases this
    · have := List.all_eq_true.1 hnew y hy
      simp only [Bool.or_eq_true, decide_eq_true_eq] at this
      have hm : y ∈ K := by rcases this with q | q; exact absurd q hn; simpa using q
      show a.tmps[y.2]?.getD undef = V' y.1
      rw [← hV y.1 (by omega)]
      exact h3 _ (List.mem_map.2 ⟨y, hm, rfl⟩) hl
  · obtain ⟨y, hy, rfl⟩ := List.mem_map.1 hx
    have := List.all_eq_true.1 hsub y hy
    exact hs (y.1, y.2, V' y.1) (List.mem_map.2 ⟨y, by simpa using this, rfl⟩)
end
end Go.Proofs.Ytdeghjhlbhpopaa
