/- Sorting that keeps what is the same in its order: stretches exchanged, two parts rotated. -/
import Derived.Sort.LotA
import Derived.Shelf.SlSortCmp.Insertion1
import Derived.Test.YtfchmmojhfjibaaQg
import Derived.Test.YtfchmmojhfjibaaFacts
namespace Go.Proofs.Ytfchmmojhfjibaa
open Go.Sort
variable {α : Type} [Inhabited α]
/-- Within [a, b) a row was laid otherwise: elsewhere it is as it was, there it has the same things. -/
structure Seg (d d' : Array α) (a b : Nat) : Prop where
  size : d'.size = d.size
  out : ∀ k, ¬ (a ≤ k ∧ k < b) → d'[k]! = d[k]!
  mem : ∀ x, (∃ k, a ≤ k ∧ k < b ∧ d'[k]! = x) ↔ ∃ k, a ≤ k ∧ k < b ∧ d[k]! = x
theorem Seg.refl (d : Array α) (a b : Nat) : Seg d d a b := ⟨rfl, fun _ _ => rfl, fun _ => Iff.rfl⟩
theorem Seg.trans {d d' d'' : Array α} {a b : Nat} (h : Seg d d' a b) (k : Seg d' d'' a b) : Seg d d'' a b :=
  ⟨k.size.trans h.size, fun i hi => (k.out i hi).trans (h.out i hi), fun x => (k.mem x).trans (h.mem x)⟩
theorem Seg.wide {d d' : Array α} {a b a' b' : Nat} (h : Seg d d' a b) (ha : a' ≤ a) (hb : b ≤ b') : Seg d d' a' b' := by
  refine ⟨h.size, fun k hk => h.out k (by omega), fun x => ⟨?_, ?_⟩⟩
  · rintro ⟨k, h1, h2, e⟩
    by_cases q : a ≤ k ∧ k < b
    · obtain ⟨k2, h3, h4, e2⟩ := (h.mem x).1 ⟨k, q.1, q.2, e⟩
      exact ⟨k2, by omega, by omega, e2⟩
    · exact ⟨k, h1, h2, by rw [← h.out k q]; exact e⟩
  · rintro ⟨k, h1, h2, e⟩
    by_cases q : a ≤ k ∧ k < b
    · obtain ⟨k2, h3, h4, e2⟩ := (h.mem x).2 ⟨k, q.1, q.2, e⟩
      exact ⟨k2, by omega, by omega, e2⟩
    · exact ⟨k, h1, h2, by rw [h.out k q]; exact e⟩
/-- [a, b) stands in order. -/
def Sd (R : α → α → Prop) (d : Array α) (a b : Nat) : Prop := ∀ i j, a ≤ i → i < j → j < b → R d[i]! d[j]!
theorem Sd.same {R : α → α → Prop} {d d' : Array α} {a b : Nat} (h : Sd R d a b) (e : ∀ k, a ≤ k → k < b → d'[k]! = d[k]!) : Sd R d' a b := fun i j h1 h2 h3 => by
  rw [e i h1 (by omega), e j (by omega) h3]
  exact h i j h1 h2 h3
theorem Sd.few {R : α → α → Prop} {d : Array α} {a b : Nat} (h : b ≤ a + 1) : Sd R d a b := fun i j h1 h2 h3 => by omega
/-- What is asked tells the order between the two parts. -/
def St (lt : α → α → Bool) (R : α → α → Prop) (d : Array α) (a m b : Nat) : Prop := ∀ i j, a ≤ i → i < m → m ≤ j → j < b → (lt d[j]! d[i]! = true → R d[j]! d[i]!) ∧ (lt d[j]! d[i]! = false → R d[i]! d[j]!)
/-- Two neighbouring parts, the one put for the other. -/
def rotV (d : Array α) (a m b k : Nat) : α := if a ≤ k ∧ k < a + (b - m) then d[k + (m - a)]! else if a + (b - m) ≤ k ∧ k < b then d[k - (b - m)]! else d[k]!
structure Rot (d d' : Array α) (a m b : Nat) : Prop where
  size : d'.size = d.size
  at_ : ∀ k, d'[k]! = rotV d a m b k
theorem rot_seg {d d' : Array α} {a m b : Nat} (h : Rot d d' a m b) (h1 : a ≤ m) (h2 : m ≤ b) : Seg d d' a b := by
  refine ⟨h.size, fun k hk => ?_, fun x => ⟨?_, ?_⟩⟩
  · rw [h.at_, rotV, if_neg (by omega), if_neg (by omega)]
  · rintro ⟨k, q1, q2, e⟩
    rw [h.at_, rotV] at e
    by_cases q : k < a + (b - m)
    · rw [if_pos ⟨q1, q⟩] at e
      exact ⟨_, by omega, by omega, e⟩
    · rw [if_neg (by omega), if_pos ⟨by omega, q2⟩] at e
      exact ⟨_, by omega, by omega, e⟩
  · rintro ⟨k, q1, q2, e⟩
    by_cases q : k < m
    · refine ⟨k + (b - m), by omega, by omega, ?_⟩
      rw [h.at_, rotV, if_neg (by omega), if_pos (by omega), show k + (b - m) - (b - m) = k by omega]
      exact e
    · refine ⟨k - (m - a), by omega, by omega, ?_⟩
      rw [h.at_, rotV, if_pos (by omega), show k - (m - a) + (m - a) = k by omega]
      exact e
/-- A stretch of n places at a and at b, the one put for the other. -/
structure Swr (d d' : Array α) (a b n : Nat) : Prop where
  size : d'.size = d.size
  at_ : ∀ k, d'[k]! = if a ≤ k ∧ k < a + n then d[k + (b - a)]! else if b ≤ k ∧ k < b + n then d[k - (b - a)]! else d[k]!
theorem Swr.zero (d : Array α) (a b : Nat) : Swr d d a b 0 := ⟨rfl, fun k => by rw [if_neg (by omega), if_neg (by omega)]⟩
theorem Swr.step {d d' : Array α} {a b i : Nat} (h : Swr d d' a b i) (hab : a + i < b) (hb : b + i < d.size) : Swr d (swp d' (a + i) (b + i)) a b (i + 1) := by
  refine ⟨by rw [swp_size, h.size], fun k => ?_⟩
  rw [swp_get d' (by rw [h.size]; omega) (by rw [h.size]; omega)]
  by_cases e1 : k = b + i
  · subst e1
    rw [if_pos rfl, h.at_, if_neg (by omega), if_neg (by omega), if_neg (by omega), if_pos (by omega), show b + i - (b - a) = a + i by omega]
  · rw [if_neg e1]
    by_cases e2 : k = a + i
    · subst e2
      rw [if_pos rfl, h.at_, if_neg (by omega), if_neg (by omega), if_pos (by omega), show a + i + (b - a) = b + i by omega]
    · rw [if_neg e2, h.at_]
      by_cases q1 : a ≤ k ∧ k < a + i
      · rw [if_pos q1, if_pos (by omega)]
      · rw [if_neg q1, if_neg (show ¬ (a ≤ k ∧ k < a + (i + 1)) by omega)]
        by_cases q2 : b ≤ k ∧ k < b + i
        · rw [if_pos q2, if_pos (by omega)]
        · rw [if_neg q2, if_neg (by omega)]
/-- The last two stretches. -/
theorem rot_last {d d' : Array α} {m i : Nat} (hi : i ≤ m) (h : Swr d d' (m - i) m i) : Rot d d' (m - i) m (m + i) := by
  refine ⟨h.size, fun k => ?_⟩
  rw [h.at_, rotV, show m + i - m = i by omega, show m - (m - i) = i by omega, show m - i + i = m by omega]
theorem rot_left {d d' : Array α} {m i j : Nat} (hi : i ≤ m) (hj : j < i) (h : Swr d d' (m - i) m j) (k : Nat) : rotV d' (m - (i - j)) m (m + j) k = rotV d (m - i) m (m + j) k := by
  unfold rotV
  rw [show m + j - m = j by omega, show m - (m - (i - j)) = i - j by omega, show m - (m - i) = i by omega]
  have hm : m - (m - i) = i := by omega
  by_cases q1 : m - i ≤ k ∧ k < m - i + j
  · rw [if_neg (by omega), if_neg (by omega), if_pos q1, h.at_, if_pos q1, hm]
  · rw [if_neg q1]
    by_cases q2 : m - i + j ≤ k ∧ k < m + j
    · rw [if_pos q2]
      by_cases q3 : k < m - (i - j) + j
      · rw [if_pos (by omega), h.at_, if_neg (by omega), if_pos (by omega), hm, show k + (i - j) - i = k - j by omega]
      · rw [if_neg (by omega), if_pos (by omega), h.at_, if_neg (by omega), if_neg (by omega)]
    · rw [if_neg q2, if_neg (by omega), if_neg (by omega), h.at_, if_neg (by omega), if_neg (by omega)]
theorem rot_right {d d' : Array α} {m i j : Nat} (hi : i ≤ m) (hj : i < j) (h : Swr d d' (m - i) (m + j - i) i) (k : Nat) : rotV d' (m - i) m (m + (j - i)) k = rotV d (m - i) m (m + j) k := by
  unfold rotV
  rw [show m + j - m = j by omega, show m + (j - i) - m = j - i by omega, show m - (m - i) = i by omega]
  have hm : m + j - i - (m - i) = j := by omega
  by_cases q1 : m - i ≤ k ∧ k < m - i + j
  · rw [if_pos q1]
    by_cases q3 : k < m - i + (j - i)
    · rw [if_pos (by omega), h.at_, if_neg (by omega), if_neg (by omega)]
    · rw [if_neg (by omega)]
      by_cases q4 : k < m + (j - i)
      · rw [if_pos (by omega), h.at_, if_pos (by omega), hm, show k - (j - i) + j = k + i by omega]
      · omega
  · rw [if_neg q1]
    by_cases q2 : m - i + j ≤ k ∧ k < m + j
    · rw [if_pos q2, if_neg (by omega), if_neg (by omega), h.at_, if_neg (by omega), if_pos (by omega), hm]
    · rw [if_neg q2, if_neg (by omega), if_neg (by omega), h.at_, if_neg (by omega), if_neg (by omega)]
/-- One that is moved up by exchanges. -/
theorem rot_up0 (d : Array α) (a : Nat) : Rot d d a (a + 1) (a + 1) := ⟨rfl, fun k => by
  unfold rotV
  by_cases q : a ≤ k ∧ k < a + 1
  · rw [if_neg (by omega), if_pos (by omega), Nat.sub_self, Nat.sub_zero]
  · rw [if_neg (by omega), if_neg (by omega)]⟩
theorem rot_up {d d' : Array α} {a k : Nat} (h : Rot d d' a (a + 1) (k + 1)) (ha : a ≤ k) (hk : k + 1 < d.size) : Rot d (swp d' k (k + 1)) a (a + 1) (k + 2) := by
  refine ⟨by rw [swp_size, h.size], fun x => ?_⟩
  rw [swp_get d' (by rw [h.size]; omega) (by rw [h.size]; omega), h.at_, h.at_, h.at_]
  unfold rotV
  by_cases e1 : x = k + 1
  · subst e1
    rw [if_pos rfl, if_neg (by omega), if_pos (by omega), if_neg (by omega), if_pos (by omega), show k + 1 - (k + 2 - (a + 1)) = k - (k + 1 - (a + 1)) by omega]
  · rw [if_neg e1]
    by_cases e2 : x = k
    · subst e2
      rw [if_pos rfl, if_neg (by omega), if_neg (by omega), if_pos (by omega), show x + (a + 1 - a) = x + 1 by omega]
    · rw [if_neg e2]
      by_cases q1 : a ≤ x ∧ x < a + (k + 1 - (a + 1))
      · rw [if_pos q1, if_pos (by omega)]
      · rw [if_neg q1, if_neg (by omega), if_neg (by omega), if_neg (by omega)]
/-- .. down. -/
theorem rot_down0 (d : Array α) (m : Nat) : Rot d d m m (m + 1) := ⟨rfl, fun k => by
  unfold rotV
  by_cases q : m ≤ k ∧ k < m + (m + 1 - m)
  · rw [if_pos q, Nat.sub_self, Nat.add_zero]
  · rw [if_neg q, if_neg (by omega)]⟩
theorem rot_down {d d' : Array α} {m k : Nat} (h : Rot d d' (k + 1) m (m + 1)) (hk : k + 1 ≤ m) (hm : m < d.size) : Rot d (swp d' (k + 1) k) k m (m + 1) := by
  refine ⟨by rw [swp_size, h.size], fun x => ?_⟩
  rw [swp_get d' (by rw [h.size]; omega) (by rw [h.size]; omega), h.at_, h.at_, h.at_]
  unfold rotV
  by_cases e1 : x = k
  · subst e1
    rw [if_pos rfl, if_pos (by omega), if_pos (by omega), show x + 1 + (m - (x + 1)) = x + (m - x) by omega]
  · rw [if_neg e1]
    by_cases e2 : x = k + 1
    · subst e2
      rw [if_pos rfl, if_neg (by omega), if_neg (by omega), if_neg (by omega), if_pos (by omega), show k + 1 - (m + 1 - m) = k by omega]
    · rw [if_neg e2]
      by_cases q2 : k + 1 + 1 ≤ x ∧ x < m + 1
      · rw [if_neg (by omega), if_pos (by omega), if_neg (by omega), if_pos (by omega)]
      · rw [if_neg (by omega), if_neg (by omega), if_neg (by omega), if_neg (by omega)]
/-- One is put where it belongs. -/
theorem put_up {R : α → α → Prop} {d d' : Array α} {a b i : Nat} (_tr : ∀ x y z, R x y → R y z → R x z) (hs : Sd R d (a + 1) b) (ha : a + 1 ≤ i) (hi : i ≤ b) (hl : ∀ k, a + 1 ≤ k → k < i → R d[k]! d[a]!) (hr : ∀ k, i ≤ k → k < b → R d[a]! d[k]!) (h : Rot d d' a (a + 1) i) : Seg d d' a b ∧ Sd R d' a b := by
  refine ⟨(rot_seg h (by omega) ha).wide (Nat.le_refl _) hi, fun x y h1 h2 h3 => ?_⟩
  rw [h.at_, h.at_]
  unfold rotV
  by_cases p1 : y < a + (i - (a + 1))
  · rw [if_pos (by omega), if_pos (by omega)]
    exact hs _ _ (by omega) (by omega) (by omega)
  · by_cases p2 : y < i
    · rw [if_pos (by omega), if_neg (by omega), if_pos (by omega), show y - (i - (a + 1)) = a by omega]
      exact hl _ (by omega) (by omega)
    · rw [if_neg (show ¬ (a ≤ y ∧ y < a + (i - (a + 1))) by omega), if_neg (show ¬ (a + (i - (a + 1)) ≤ y ∧ y < i) by omega)]
      by_cases p3 : x < a + (i - (a + 1))
      · rw [if_pos (by omega)]
        exact hs _ _ (by omega) (by omega) (by omega)
      · by_cases p4 : x < i
        · rw [if_neg (by omega), if_pos (by omega), show x - (i - (a + 1)) = a by omega]
          exact hr _ (by omega) (by omega)
        · rw [if_neg (by omega), if_neg (by omega)]
          exact hs _ _ (by omega) (by omega) (by omega)
theorem put_down {R : α → α → Prop} {d d' : Array α} {a m i : Nat} (hs : Sd R d a m) (hi : a ≤ i) (him : i ≤ m) (hl : ∀ k, a ≤ k → k < i → R d[k]! d[m]!) (hr : ∀ k, i ≤ k → k < m → R d[m]! d[k]!) (h : Rot d d' i m (m + 1)) : Seg d d' a (m + 1) ∧ Sd R d' a (m + 1) := by
  refine ⟨(rot_seg h him (by omega)).wide hi (Nat.le_refl _), fun x y h1 h2 h3 => ?_⟩
  rw [h.at_, h.at_]
  unfold rotV
  by_cases p1 : x < i
  · rw [if_neg (show ¬ (i ≤ x ∧ x < i + (m + 1 - m)) by omega), if_neg (show ¬ (i + (m + 1 - m) ≤ x ∧ x < m + 1) by omega)]
    by_cases p2 : y < i
    · rw [if_neg (by omega), if_neg (by omega)]
      exact hs _ _ h1 h2 (by omega)
    · by_cases p3 : y = i
      · rw [if_pos (by omega), show y + (m - i) = m by omega]
        exact hl _ h1 p1
      · rw [if_neg (by omega), if_pos (by omega)]
        exact hs _ _ h1 (by omega) (by omega)
  · by_cases p3 : x = i
    · rw [if_pos (by omega), if_neg (by omega), if_pos (by omega), show x + (m - i) = m by omega]
      exact hr _ (by omega) (by omega)
    · rw [if_neg (by omega), if_pos (by omega), if_neg (by omega), if_pos (by omega)]
      exact hs _ _ (by omega) (by omega) (by omega)
/-- What the search of the merge has found. -/
structure Cut (R : α → α → Prop) (d : Array α) (a m b s e : Nat) : Prop where
  le1 : a ≤ s
  le2 : s ≤ m
  le3 : m ≤ e
  le4 : e ≤ b
  ll : ∀ i j, a ≤ i → i < s → e ≤ j → j < b → R d[i]! d[j]!
  rr : ∀ i j, m ≤ i → i < e → s ≤ j → j < m → R d[i]! d[j]!
/-- The two parts behind the rotation. -/
structure Two (lt : α → α → Bool) (R : α → α → Prop) (d d' : Array α) (a s mid e b : Nat) : Prop where
  seg : Seg d d' a b
  l1 : Sd R d' a s
  l2 : Sd R d' s mid
  r1 : Sd R d' mid e
  r2 : Sd R d' e b
  sl : St lt R d' a s mid
  sr : St lt R d' mid e b
  x : ∀ i j, a ≤ i → i < mid → mid ≤ j → j < b → R d'[i]! d'[j]!
theorem two_of {lt : α → α → Bool} {R : α → α → Prop} {d d' : Array α} {a m b s e mid : Nat} (h1 : Sd R d a m) (h2 : Sd R d m b) (hst : St lt R d a m b) (hc : Cut R d a m b s e) (hm : mid + m = s + e) (h : Rot d d' s m e) : Two lt R d d' a s mid e b := by
  obtain ⟨c1, c2, c3, c4, ll, rr⟩ := hc
  have hem : e - m = mid - s := by omega
  have lo : ∀ k, k < s → d'[k]! = d[k]! := fun k hk => by rw [h.at_, rotV, if_neg (by omega), if_neg (by omega)]
  have m1 : ∀ k, s ≤ k → k < mid → d'[k]! = d[k + (m - s)]! := fun k hk hk2 => by rw [h.at_, rotV, if_pos (by omega)]
  have m2 : ∀ k, mid ≤ k → k < e → d'[k]! = d[k - (e - m)]! := fun k hk hk2 => by rw [h.at_, rotV, if_neg (by omega), if_pos (by omega)]
  have hi : ∀ k, e ≤ k → d'[k]! = d[k]! := fun k hk => by rw [h.at_, rotV, if_neg (by omega), if_neg (by omega)]
  refine ⟨(rot_seg h c2 c3).wide c1 c4, ?_, ?_, ?_, ?_, ?_, ?_, ?_⟩
  · intro i j q1 q2 q3
    rw [lo i (by omega), lo j q3]
    exact h1 i j q1 q2 (by omega)
  · intro i j q1 q2 q3
    rw [m1 i q1 (by omega), m1 j (by omega) q3]
    exact h2 _ _ (by omega) (by omega) (by omega)
  · intro i j q1 q2 q3
    rw [m2 i q1 (by omega), m2 j (by omega) q3]
    exact h1 _ _ (by omega) (by omega) (by omega)
  · intro i j q1 q2 q3
    rw [hi i q1, hi j (by omega)]
    exact h2 i j (by omega) q2 q3
  · intro i j q1 q2 q3 q4
    rw [lo i q2, m1 j q3 q4]
    exact hst _ _ q1 (by omega) (by omega) (by omega)
  · intro i j q1 q2 q3 q4
    rw [m2 i q1 q2, hi j q3]
    exact hst _ _ (by omega) (by omega) (by omega) q4
  · intro i j q1 q2 q3 q4
    by_cases p1 : i < s
    · rw [lo i p1]
      by_cases p2 : j < e
      · rw [m2 j q3 p2]
        exact h1 _ _ q1 (by omega) (by omega)
      · rw [hi j (by omega)]
        exact ll _ _ q1 p1 (by omega) q4
    · rw [m1 i (by omega) q2]
      by_cases p2 : j < e
      · rw [m2 j q3 p2]
        exact rr _ _ (by omega) (by omega) (by omega) (by omega)
      · rw [hi j (by omega)]
        exact h2 _ _ (by omega) (by omega) q4
/-- Both parts in order: the whole. -/
theorem two_done {R : α → α → Prop} {d1 d2 d3 : Array α} {a mid b : Nat} (hx : ∀ i j, a ≤ i → i < mid → mid ≤ j → j < b → R d1[i]! d1[j]!) (h1 : Seg d1 d2 a mid) (s1 : Sd R d2 a mid) (h2 : Seg d2 d3 mid b) (s2 : Sd R d3 mid b) (ha : a ≤ mid) (hb : mid ≤ b) : Seg d1 d3 a b ∧ Sd R d3 a b := by
  refine ⟨(h1.wide (Nat.le_refl _) hb).trans (h2.wide ha (Nat.le_refl _)), fun i j q1 q2 q3 => ?_⟩
  by_cases p1 : j < mid
  · rw [h2.out i (by omega), h2.out j (by omega)]
    exact s1 i j q1 q2 p1
  · by_cases p2 : i < mid
    · obtain ⟨i2, r1, r2, e1⟩ := (h1.mem d3[i]!).1 ⟨i, q1, p2, (h2.out i (by omega)).symm⟩
      obtain ⟨j2, r3, r4, e2⟩ := (h2.mem d3[j]!).1 ⟨j, by omega, q3, rfl⟩
      rw [h1.out j2 (by omega)] at e2
      rw [← e1, ← e2]
      exact hx i2 j2 r1 r2 r3 r4
    · exact s2 i j (by omega) q2 q3
/-- One more put in by exchanges with its left neighbour. -/
theorem insInner_sd {lt : α → α → Bool} {R : α → α → Prop} (tr : ∀ x y z, R x y → R y z → R x z) (a i : Nat) : ∀ (j : Nat) (d : Array α), a ≤ j → j ≤ i → i < d.size → Sd R d a j → Sd R d (j + 1) (i + 1) → (∀ p q, a ≤ p → p < j → j < q → q ≤ i → R d[p]! d[q]!) → (∀ q, j < q → q ≤ i → R d[j]! d[q]!) → (∀ p, a ≤ p → p < j → (lt d[j]! d[p]! = true → R d[j]! d[p]!) ∧ (lt d[j]! d[p]! = false → R d[p]! d[j]!)) → Seg d (insInner lt a j d) a (i + 1) ∧ Sd R (insInner lt a j d) a (i + 1)
  | 0, d, h1, h2, h3, s1, s2, hx, hr, hl => by
    refine ⟨Seg.refl _ _ _, fun p q q1 q2 q3 => ?_⟩
    show R d[p]! d[q]!
    rcases Nat.eq_zero_or_pos p with rfl | hp
    · exact hr q q2 (by omega)
    · exact s2 p q hp q2 q3
  | j + 1, d, h1, h2, h3, s1, s2, hx, hr, hl => by
    unfold insInner
    by_cases c : (decide (j + 1 > a) && lt d[j + 1]! d[j]!) = true
    · rw [if_pos c]
      have c1 : a < j + 1 := by simp at c; omega
      have c2 : lt d[j + 1]! d[j]! = true := by simp at c; exact c.2
      have g := swp_get d (i := j + 1) (j := j) (by omega) (by omega)
      have gj : (swp d (j + 1) j)[j]! = d[j + 1]! := by rw [g, if_pos rfl]
      have gj1 : (swp d (j + 1) j)[j + 1]! = d[j]! := by rw [g, if_neg (by omega), if_pos rfl]
      have go : ∀ k, k ≠ j → k ≠ j + 1 → (swp d (j + 1) j)[k]! = d[k]! := fun k k1 k2 => by rw [g, if_neg k1, if_neg k2]
      have hlt := (hl j (by omega) (by omega)).1 c2
      have ih := insInner_sd tr a i j (swp d (j + 1) j) (by omega) (by omega) (by rw [swp_size]; exact h3)
        (fun p q q1 q2 q3 => by rw [go p (by omega) (by omega), go q (by omega) (by omega)]; exact s1 p q q1 q2 (by omega))
        (fun p q q1 q2 q3 => by
          rw [go q (by omega) (by omega)]
          by_cases e : p = j + 1
          · rw [e, gj1]; exact hx j q (by omega) (by omega) (by omega) (by omega)
          · rw [go p (by omega) e]; exact s2 p q (by omega) q2 q3)
        (fun p q q1 q2 q3 q4 => by
          rw [go p (by omega) (by omega)]
          by_cases e : q = j + 1
          · rw [e, gj1]; exact s1 p j q1 q2 (by omega)
          · rw [go q (by omega) e]; exact hx p q q1 (by omega) (by omega) q4)
        (fun q q1 q2 => by
          rw [gj]
          by_cases e : q = j + 1
          · rw [e, gj1]; exact hlt
          · rw [go q (by omega) e]; exact hr q (by omega) q2)
        (fun p q1 q2 => by
          rw [gj, go p (by omega) (by omega)]
          exact hl p q1 (by omega))
      refine ⟨Seg.trans ⟨swp_size _ _ _, fun k hk => go k (by omega) (by omega), fun x => ⟨?_, ?_⟩⟩ ih.1, ih.2⟩
      · rintro ⟨k, q1, q2, e⟩
        by_cases e1 : k = j
        · rw [e1, gj] at e; exact ⟨j + 1, by omega, by omega, e⟩
        · by_cases e2 : k = j + 1
          · rw [e2, gj1] at e; exact ⟨j, by omega, by omega, e⟩
          · rw [go k e1 e2] at e; exact ⟨k, q1, q2, e⟩
      · rintro ⟨k, q1, q2, e⟩
        by_cases e1 : k = j
        · exact ⟨j + 1, by omega, by omega, by rw [gj1, ← e1]; exact e⟩
        · by_cases e2 : k = j + 1
          · exact ⟨j, by omega, by omega, by rw [gj, ← e2]; exact e⟩
          · exact ⟨k, q1, q2, by rw [go k e1 e2]; exact e⟩
    · rw [if_neg c]
      refine ⟨Seg.refl _ _ _, ?_⟩
      have hleft : ∀ p, a ≤ p → p < j + 1 → R d[p]! d[j + 1]! := fun p q1 q2 => by
        have c2 : lt d[j + 1]! d[j]! = false := by
          cases hq : lt d[j + 1]! d[j]! with
          | false => rfl
          | true => exact absurd (by simp [hq]; omega) c
        have hj := (hl j (by omega) (by omega)).2 c2
        rcases (show p < j ∨ p = j by omega) with r | rfl
        · exact tr _ _ _ (s1 p j q1 r (by omega)) hj
        · exact hj
      intro p q q1 q2 q3
      rcases Nat.lt_trichotomy q (j + 1) with r | r | r
      · exact s1 p q q1 q2 r
      · rw [r]; exact hleft p q1 (by omega)
      · rcases Nat.lt_trichotomy p (j + 1) with t | t | t
        · exact hx p q q1 t r (by omega)
        · rw [t]; exact hr q r (by omega)
        · exact s2 p q (by omega) q2 q3
/-- Insertion: what is asked tells the order of a later one against an earlier one. -/
theorem insOuter_sd {lt : α → α → Bool} {R : α → α → Prop} (tr : ∀ x y z, R x y → R y z → R x z) (a b : Nat) (d0 : Array α) (hb : b ≤ d0.size) (hl : ∀ i j, a ≤ i → i < j → j < b → (lt d0[j]! d0[i]! = true → R d0[j]! d0[i]!) ∧ (lt d0[j]! d0[i]! = false → R d0[i]! d0[j]!)) : ∀ (n i : Nat) (d : Array α), b - i = n → a < i → Seg d0 d a i → Sd R d a i → Seg d0 (insOuter lt a b i d) a (max i b) ∧ Sd R (insOuter lt a b i d) a (max i b)
  | 0, i, d, hn, ha, hs, hd => by
    unfold insOuter
    rw [if_neg (by omega), show max i b = i by omega]
    exact ⟨hs, hd⟩
  | n + 1, i, d, hn, ha, hs, hd => by
    unfold insOuter
    rw [if_pos (by omega)]
    have hi : d[i]! = d0[i]! := hs.out i (by omega)
    have h := insInner_sd (lt := lt) tr a i i d (by omega) (Nat.le_refl _) (by rw [hs.size]; omega) hd (Sd.few (by omega)) (fun p q q1 q2 q3 q4 => by omega) (fun q q1 q2 => by omega) fun p q1 q2 => by
      obtain ⟨k, k1, k2, e⟩ := (hs.mem d[p]!).1 ⟨p, q1, q2, rfl⟩
      rw [hi, ← e]
      exact hl k i k1 k2 (by omega)
    have r := insOuter_sd tr a b d0 hb hl n (i + 1) (insInner lt a i d) (by omega) (by omega) ((hs.wide (Nat.le_refl _) (by omega)).trans h.1) h.2
    rw [show max (i + 1) b = max i b by omega] at r
    exact r
theorem insertion_sd {lt : α → α → Bool} {R : α → α → Prop} (tr : ∀ x y z, R x y → R y z → R x z) (a b : Nat) (d : Array α) (hab : a ≤ b) (hb : b ≤ d.size) (hl : ∀ i j, a ≤ i → i < j → j < b → (lt d[j]! d[i]! = true → R d[j]! d[i]!) ∧ (lt d[j]! d[i]! = false → R d[i]! d[j]!)) : Seg d (insertionSort lt d a b) a b ∧ Sd R (insertionSort lt d a b) a b := by
  unfold insertionSort
  rcases (show a = b ∨ a + 1 ≤ b by omega) with rfl | h
  · unfold insOuter
    rw [if_neg (by omega)]
    exact ⟨Seg.refl _ _ _, Sd.few (by omega)⟩
  · have r := insOuter_sd tr a b d hb hl _ (a + 1) d rfl (by omega) (Seg.refl _ _ _) (Sd.few (by omega))
    rw [show max (a + 1) b = b by omega] at r
    exact r
end Go.Proofs.Ytfchmmojhfjibaa
namespace Go.Proofs.Ytfchmmojhfjibaa
set_option maxRecDepth 100000
open Go.RowKit Go.Shelf
/-- A number below N + 1, as a cell. -/
def eN {N : Nat} (x : Fin (N + 1)) : Value := .int .i64 (x.val : Int)
theorem eN_one {N : Nat} : OneCell (eN (N := N)) := fun _ => rfl
/-- A row of numbers that is being sorted. -/
abbrev SWn {N : Nat} (w0 : World) (blk off : Nat) (d : Array (Fin (N + 1))) (w : World) : Prop := SW (eN (N := N)) w0 blk off d w
set_option maxHeartbeats 2000000 in
theorem swr_any {N : Nat} (blk off cap : Nat) (d0 d : Array (Fin (N + 1))) (w0 w : World) (g : Nat) (cb : Array Value) (R : Row1 eN w0 blk off d0) (hs : d0.size = d.size) (S : SWn w0 blk off d w) (a b n : Nat) (hab : a + n ≤ b) (hb : b + n ≤ d.size) (hsz : d.size ≤ 100000) :
    Calls Try.prog 58 #[.slice (some ⟨blk, off, none⟩) d.size cap, .int .i64 (a : Int), .int .i64 (b : Int), .int .i64 (n : Int), .func (.func g) #[] cb] w fun e w' => e = .returned (.tuple #[]) ∧ ∃ d', Swr d d' a b n ∧ SWn w0 blk off d' w' := by
  have HS0 := Lib.hid S
  obtain ⟨L, hL⟩ : ∃ L, L = d.size := ⟨_, rfl⟩
  rw [← hL] at hb hsz hs ⊢
  have HL := Lib.hid hL
  clear S hL
  go_enter Try.func58, Try.ntmps58
  go_wp2_with fail
  go_loopw [10] (fun vi wr => ∃ (i : Nat) (dk : Array (Fin (N + 1))), i ≤ n ∧ vi = .int .i64 (i : Int) ∧ Swr d dk a b i ∧ SWn w0 blk off dk wr) (fun vi _ => n - (intOf vi).toNat)
  case atStart => exact ⟨0, d, Nat.zero_le _, rfl, Swr.zero _ _ _, HS0.out⟩
  case round =>
    obtain ⟨i, dk, hi, rfl, hw, hS⟩ := hrel
    have HW := Lib.hid hw
    have HS := Lib.hid hS
    have hk : dk.size = d0.size := hw.size.trans (HL.out.symm.trans hs.symm)
    clear hw hS HS0
    by_cases hlt : i < n
    · have l1 : (i : Int) < (n : Int) := by omega
      obtain ⟨p, hp⟩ : ∃ p, p = a + i := ⟨_, rfl⟩
      obtain ⟨q, hq⟩ : ∃ q, q = b + i := ⟨_, rfl⟩
      have z1 : IntKind.i64.wrap ((a : Int) + (i : Int)) = (p : Int) := by rw [IntKind.wrap_i64]; omega
      have z2 : IntKind.i64.wrap ((b : Int) + (i : Int)) = (q : Int) := by rw [IntKind.wrap_i64]; omega
      have z3 : IntKind.i64.wrap ((i : Int) + 1) = (i : Int) + 1 := by rw [IntKind.wrap_i64]; omega
      have p0 : (0 : Int) ≤ (p : Int) := by omega
      have p1 : (p : Int) < (L : Int) := by omega
      have p2 : ((p : Int)).toNat = p := by omega
      have q0 : (0 : Int) ≤ (q : Int) := by omega
      have q1 : (q : Int) < (L : Int) := by omega
      have q2 : ((q : Int)).toNat = q := by omega
      have ca := HS.out.c1 R hk p (by omega)
      have cb' := HS.out.c1 R hk q (by omega)
      have fa := HS.out.f1 R hk p (by omega)
      have fb := HS.out.f1 R hk q (by omega)
      obtain ⟨u, cc⟩ := HS.out.c2 R hk p q (by omega) (by omega) (eN dk[q]!)
      have S3 : Hid (SWn w0 blk off (Sort.swp dk p q) ((wr.setCell ⟨blk, off + p, none⟩ (eN dk[q]!)).setCell ⟨blk, off + q, none⟩ (eN dk[p]!)).drew) := Lib.hid (HS.out.swapped R p q (by omega) (by omega))
      have W3 : Hid (Swr d (Sort.swp dk p q) a b (i + 1)) := Lib.hid (by rw [hp, hq]; exact HW.out.step (by omega) (by rw [← HL.out]; omega))
      obtain ⟨x, hx⟩ : ∃ x, x = dk[p]! := ⟨_, rfl⟩
      obtain ⟨y, hy⟩ : ∃ y, y = dk[q]! := ⟨_, rfl⟩
      rw [← hx] at ca S3
      rw [← hy] at cb' cc S3
      unfold eN at ca cb' cc S3
      clear hx hy HS HW hp hq hk
      go_wp2_with fail
      have mixed : Try.prog.follows Departure.mixedOrders = true := by kernel_rfl
      go_big_region_o
      clear mixed
      clear ca cb' cc fa fb
      generalize ((wr.setCell ⟨blk, off + p, none⟩ (.int .i64 (y.val : Int))).setCell ⟨blk, off + q, none⟩ (.int .i64 (x.val : Int))).drew = w3 at S3 ⊢
      go_wp2_with fail
      go_roundw
      case rel => exact ⟨i + 1, _, by omega, by go_num, W3.out, S3.out⟩
      case measure => simp [intOf]; omega
    · obtain rfl : i = n := by omega
      go_wp2_with fail
      go_end0
      exact ⟨rfl, dk, HW.out, HS.out⟩
set_option maxHeartbeats 1000000 in
theorem rota_any {N : Nat} (blk off cap : Nat) (d0 d : Array (Fin (N + 1))) (w0 w : World) (g : Nat) (cb : Array Value) (R : Row1 eN w0 blk off d0) (hs : d0.size = d.size) (S : SWn w0 blk off d w) (a m b : Nat) (ham : a < m) (hmb : m < b) (hb : b ≤ d.size) (hsz : d.size ≤ 100000) :
    Calls Try.prog 54 #[.slice (some ⟨blk, off, none⟩) d.size cap, .int .i64 (a : Int), .int .i64 (m : Int), .int .i64 (b : Int), .func (.func g) #[] cb] w fun e w' => e = .returned (.tuple #[]) ∧ ∃ d', Rot d d' a m b ∧ SWn w0 blk off d' w' := by
  have HS0 := Lib.hid S
  have HSW : Hid (∀ (dk : Array (Fin (N + 1))) (x y n : Nat) (W : World), dk.size = d.size → SWn w0 blk off dk W → x + n ≤ y → y + n ≤ d.size → Calls Try.prog 58 #[.slice (some ⟨blk, off, none⟩) d.size cap, .int .i64 (x : Int), .int .i64 (y : Int), .int .i64 (n : Int), .func (.func g) #[] cb] W fun e w' => e = .returned (.tuple #[]) ∧ ∃ d', Swr dk d' x y n ∧ SWn w0 blk off d' w') := Lib.hid fun dk x y n W h1 h2 h3 h4 => by
    have h := swr_any blk off cap d0 dk w0 W g cb R (hs.trans h1.symm) h2 x y n h3 (by rw [h1]; exact h4) (by rw [h1]; exact hsz)
    rw [h1] at h
    exact h
  obtain ⟨L, hL⟩ : ∃ L, L = d.size := ⟨_, rfl⟩
  rw [← hL] at hb hsz HSW ⊢
  have HL := Lib.hid hL
  have z1 : IntKind.i64.wrap ((m : Int) - (a : Int)) = ((m - a : Nat) : Int) := by rw [IntKind.wrap_i64]; omega
  have z2 : IntKind.i64.wrap ((b : Int) - (m : Int)) = ((b - m : Nat) : Int) := by rw [IntKind.wrap_i64]; omega
  clear S hL hs R
  go_enter Try.func54, Try.ntmps54
  go_wp2_with fail
  go_loopw [10, 11] (fun vi vj wr => ∃ (i j : Nat) (dk : Array (Fin (N + 1))), 0 < i ∧ 0 < j ∧ i ≤ m ∧ m + j ≤ L ∧ vi = .int .i64 (i : Int) ∧ vj = .int .i64 (j : Int) ∧ dk.size = L ∧ (∀ k, rotV dk (m - i) m (m + j) k = rotV d a m b k) ∧ SWn w0 blk off dk wr) (fun vi vj _ => (intOf vi).toNat + (intOf vj).toNat)
  case atStart => exact ⟨m - a, b - m, d, by omega, by omega, by omega, by omega, rfl, rfl, HL.out.symm, fun k => by rw [show m - (m - a) = a by omega, show m + (b - m) = b by omega], HS0.out⟩
  case round =>
    obtain ⟨i, j, dk, hi0, hj0, him, hmj, rfl, rfl, hk, hro, hS⟩ := hrel
    have HS := Lib.hid hS
    have HR := Lib.hid hro
    clear hro hS HS0 z1 z2
    obtain ⟨s, es⟩ : ∃ s, s = m - i := ⟨_, rfl⟩
    have z1 : IntKind.i64.wrap ((m : Int) - (i : Int)) = (s : Int) := by rw [IntKind.wrap_i64]; omega
    rcases Nat.lt_trichotomy i j with hlt | heq | hgt
    · have l1 : ¬ (i : Int) = (j : Int) := by omega
      have l2 : ¬ (j : Int) < (i : Int) := by omega
      obtain ⟨x, ex⟩ : ∃ x, x = m + j := ⟨_, rfl⟩
      obtain ⟨t, et⟩ : ∃ t, t = m + j - i := ⟨_, rfl⟩
      obtain ⟨v, ev⟩ : ∃ v, v = j - i := ⟨_, rfl⟩
      have z2 : IntKind.i64.wrap ((m : Int) + (j : Int)) = (x : Int) := by rw [IntKind.wrap_i64]; omega
      have z3 : IntKind.i64.wrap ((x : Int) - (i : Int)) = (t : Int) := by rw [IntKind.wrap_i64]; omega
      have z4 : IntKind.i64.wrap ((j : Int) - (i : Int)) = (v : Int) := by rw [IntKind.wrap_i64]; omega
      have HE := Lib.hid (show s = m - i ∧ t = m + j - i ∧ v = j - i from ⟨es, et, ev⟩)
      have HC := Lib.hid (HSW.out dk s t i wr hk HS.out (by omega) (by omega))
      clear es ex et ev
      go_wp2_with (first
        | (go_at_call 58
           refine HC.out.mono ?_
           rintro e u ⟨rfl, d2, hsw, hS2⟩
           have HS2 := Lib.hid hS2
           rw [HE.out.1, HE.out.2.1] at hsw
           have HR2 : Hid (∀ k, rotV d2 (m - i) m (m + (j - i)) k = rotV d a m b k) := Lib.hid fun k => (rot_right him hlt hsw k).trans (HR.out k)
           have hk2 : d2.size = L := hsw.size.trans hk
           clear hsw hS2))
      go_roundw
      case rel => exact ⟨i, j - i, d2, hi0, by omega, him, by omega, rfl, by rw [HE.out.2.2], hk2, HR2.out, HS2.out⟩
      case measure => simp [intOf]; have := HE.out; omega
    · subst heq
      have HC := Lib.hid (HSW.out dk s m i wr hk HS.out (by omega) (by omega))
      have HE := Lib.hid es
      clear es
      go_wp2_with (first
        | (go_at_call 58
           refine HC.out.mono ?_
           rintro e u ⟨rfl, d2, hsw, hS2⟩
           have HS2 := Lib.hid hS2
           rw [HE.out] at hsw
           have HR2 : Hid (Rot d d2 a m b) := Lib.hid (by
             have h := rot_last him hsw
             exact ⟨h.size.trans (hk.trans HL.out), fun k => (h.at_ k).trans (HR.out k)⟩)
           clear hsw hS2))
      go_end0
      exact ⟨rfl, d2, HR2.out, HS2.out⟩
    · have l1 : ¬ (i : Int) = (j : Int) := by omega
      have l2 : (j : Int) < (i : Int) := by omega
      obtain ⟨v, ev⟩ : ∃ v, v = i - j := ⟨_, rfl⟩
      have z4 : IntKind.i64.wrap ((i : Int) - (j : Int)) = (v : Int) := by rw [IntKind.wrap_i64]; omega
      have HE := Lib.hid (show s = m - i ∧ v = i - j from ⟨es, ev⟩)
      have HC := Lib.hid (HSW.out dk s m j wr hk HS.out (by omega) (by omega))
      clear es ev
      go_wp2_with (first
        | (go_at_call 58
           refine HC.out.mono ?_
           rintro e u ⟨rfl, d2, hsw, hS2⟩
           have HS2 := Lib.hid hS2
           rw [HE.out.1] at hsw
           have HR2 : Hid (∀ k, rotV d2 (m - (i - j)) m (m + j) k = rotV d a m b k) := Lib.hid fun k => (rot_left him hgt hsw k).trans (HR.out k)
           have hk2 : d2.size = L := hsw.size.trans hk
           clear hsw hS2))
      go_roundw
      case rel => exact ⟨i - j, j, d2, by omega, hj0, by omega, hmj, by rw [HE.out.2], rfl, hk2, HR2.out, HS2.out⟩
      case measure => simp [intOf]; have := HE.out; omega
end Go.Proofs.Ytfchmmojhfjibaa
