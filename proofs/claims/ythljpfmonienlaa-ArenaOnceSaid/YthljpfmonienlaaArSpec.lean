/- Stage 9's pure words: an arena as the document defines it (of each cell the serial of who has it; what was freed and is free, the last one last; how many were taken), what take, free and live do to it, and what always holds. -/
import Derived.Test.YthljpfmonienlaaLaw
namespace Go.Proofs.Ythljpfmonienlaa

structure Ar where
  has : List Nat
  freed : List Nat
  serial : Nat

namespace Ar
def new (n : Nat) : Ar := ⟨List.replicate n 0, [], 0⟩
/-- The cell that is taken next. -/
def which (s : Ar) : Option Nat := match s.freed.getLast? with
  | some i => some i
  | none => s.has.findIdx? (· == 0)
def at_ (s : Ar) (i : Nat) : Nat := (s.has[i]?).getD 0
def live (s : Ar) (i : Int) (k : Nat) : Bool := decide (0 ≤ i) && decide (k ≠ 0) && (s.at_ i.toNat == k)
def taken (s : Ar) (i : Nat) : Ar := ⟨s.has.set i (s.serial + 1), s.freed.dropLast, s.serial + 1⟩
def gone (s : Ar) (i : Nat) : Ar := ⟨s.has.set i 0, s.freed ++ [i], s.serial⟩
/-- How many are taken. -/
def count (s : Ar) : Nat := s.has.countP (fun x => x != 0)

structure Ok (s : Ar) : Prop where
  low : ∀ i, i ∈ s.freed → s.has[i]? = some 0
  nodup : s.freed.Nodup
  le : ∀ i, s.at_ i ≤ s.serial
  one : ∀ i j, s.at_ i ≠ 0 → s.at_ i = s.at_ j → i = j

theorem at_set {s : Ar} {i v : Nat} (hi : i < s.has.length) (j : Nat) : ((s.has.set i v)[j]?).getD 0 = if j = i then v else s.at_ j := by
  unfold at_
  rw [List.getElem?_set]
  by_cases h : i = j
  · subst h; simp [hi]
  · have h' : ¬ j = i := fun e => h e.symm
    simp [h, h']

theorem at_out {s : Ar} {i : Nat} (h : s.has.length ≤ i) : s.at_ i = 0 := by
  unfold at_
  rw [List.getElem?_eq_none h]; rfl

theorem ok_new (n : Nat) : (new n).Ok := by
  have h : ∀ i, (new n).at_ i = 0 := by
    intro i
    unfold at_ new
    rw [List.getElem?_replicate]
    split <;> rfl
  exact ⟨fun i hi => by simp [new] at hi, by simp [new], fun i => by rw [h]; omega, fun i j hi => absurd (h i) hi⟩

/-- The next cell is one that is free. -/
theorem which_free {s : Ar} (hs : s.Ok) {i : Nat} (h : s.which = some i) : s.has[i]? = some 0 := by
  unfold which at h
  split at h
  · rename_i k hk
    cases h
    exact hs.low _ (List.mem_of_getLast? hk)
  · obtain ⟨hlt, h0, _⟩ := List.findIdx?_eq_some_iff_getElem.mp h
    rw [List.getElem?_eq_getElem hlt]
    simpa using h0

theorem which_lt {s : Ar} (hs : s.Ok) {i : Nat} (h : s.which = some i) : i < s.has.length := by
  have := which_free hs h
  exact (List.getElem?_eq_some_iff.mp this).1

theorem which_at {s : Ar} (hs : s.Ok) {i : Nat} (h : s.which = some i) : s.at_ i = 0 := by
  unfold at_; rw [which_free hs h]; rfl

/-- None is free: each cell is taken. -/
theorem count_full {s : Ar} (h : s.which = none) : s.count = s.has.length := by
  unfold which at h
  split at h
  · cases h
  · rw [List.findIdx?_eq_none_iff] at h
    unfold count
    rw [List.countP_eq_length]
    intro x hx
    have := h x hx
    simpa using this

theorem at_taken {s : Ar} (hs : s.Ok) {i : Nat} (h : s.which = some i) (j : Nat) : (s.taken i).at_ j = if j = i then s.serial + 1 else s.at_ j :=
  at_set (which_lt hs h) j

theorem at_gone {s : Ar} {i : Nat} (h : s.at_ i ≠ 0) (j : Nat) : (s.gone i).at_ j = if j = i then 0 else s.at_ j := by
  have hi : i < s.has.length := Nat.lt_of_not_le fun hle => h (at_out hle)
  exact at_set hi j

theorem ok_taken {s : Ar} (hs : s.Ok) {i : Nat} (h : s.which = some i) : (s.taken i).Ok := by
  have hat := at_taken hs h
  have hlt := which_lt hs h
  refine ⟨?_, ?_, ?_, ?_⟩
  · intro j hj
    have hj' : j ∈ s.freed := (List.dropLast_sublist _).subset hj
    have hne : i ≠ j := by
      rintro rfl
      unfold which at h
      split at h
      · rename_i k hk
        cases h
        obtain ⟨ys, hys⟩ := List.getLast?_eq_some_iff.mp hk
        have hn := hs.nodup
        have hj2 : i ∈ s.freed.dropLast := hj
        rw [hys] at hn hj2
        rw [List.dropLast_concat] at hj2
        rw [List.nodup_append] at hn
        exact hn.2.2 i hj2 i (by simp) rfl
      · rename_i hk
        rw [List.getLast?_eq_none_iff] at hk
        rw [hk] at hj'
        cases hj'
    show (s.has.set i (s.serial + 1))[j]? = some 0
    rw [List.getElem?_set_ne hne]
    exact hs.low j hj'
  · exact hs.nodup.sublist (List.dropLast_sublist _)
  · intro j
    rw [hat]
    show _ ≤ s.serial + 1
    split
    · omega
    · have := hs.le j; omega
  · intro a b ha hab
    rw [hat, hat] at hab
    rw [hat] at ha
    have la := hs.le a
    have lb := hs.le b
    split at hab <;> split at hab
    · omega
    · omega
    · omega
    · rename_i h1 h2
      rw [if_neg h1] at ha
      exact hs.one a b ha hab

theorem ok_gone {s : Ar} (hs : s.Ok) {i : Nat} (h : s.at_ i ≠ 0) : (s.gone i).Ok := by
  have hat := at_gone h
  have hlt : i < s.has.length := Nat.lt_of_not_le fun hle => h (at_out hle)
  refine ⟨?_, ?_, ?_, ?_⟩
  · intro j hj
    show (s.has.set i 0)[j]? = some 0
    rw [List.getElem?_set]
    by_cases e : i = j
    · subst e; simp [hlt]
    · rw [if_neg e]
      rcases List.mem_append.mp hj with hj | hj
      · exact hs.low j hj
      · simp at hj; exact absurd hj.symm e
  · show (s.freed ++ [i]).Nodup
    rw [List.nodup_append]
    refine ⟨hs.nodup, by simp, ?_⟩
    intro a ha b hb e
    simp at hb
    subst hb; subst e
    apply h
    unfold at_
    rw [hs.low _ ha]; rfl
  · intro j
    rw [hat]
    show _ ≤ s.serial
    split
    · omega
    · exact hs.le j
  · intro a b ha hab
    rw [hat, hat] at hab
    rw [hat] at ha
    split at hab <;> split at hab
    · omega
    · rename_i h1 _; rw [if_pos h1] at ha; omega
    · rename_i h1 _; rw [if_neg h1] at ha; omega
    · rename_i h1 h2
      rw [if_neg h1] at ha
      exact hs.one a b ha hab

theorem count_set {l : List Nat} {i v : Nat} (hi : i < l.length) : (l.set i v).countP (fun x => x != 0) + (if l[i] != 0 then 1 else 0) = l.countP (fun x => x != 0) + (if v != 0 then 1 else 0) := by
  induction l generalizing i with
  | nil => simp at hi
  | cons a t ih =>
    cases i with
    | zero => simp only [List.set_cons_zero, List.countP_cons, List.getElem_cons_zero]; omega
    | succ j =>
      have := ih (i := j) (by simpa using hi)
      simp only [List.set_cons_succ, List.countP_cons, List.getElem_cons_succ]
      omega

theorem count_taken {s : Ar} (hs : s.Ok) {i : Nat} (h : s.which = some i) : (s.taken i).count = s.count + 1 := by
  have hlt := which_lt hs h
  have h0 : s.has[i] = 0 := by
    have := which_free hs h
    rw [List.getElem?_eq_getElem hlt] at this
    exact Option.some.inj this
  have := count_set (v := s.serial + 1) hlt
  rw [h0] at this
  simpa [count, taken] using this

theorem count_gone {s : Ar} {i : Nat} (h : s.at_ i ≠ 0) : (s.gone i).count + 1 = s.count := by
  have hlt : i < s.has.length := Nat.lt_of_not_le fun hle => h (at_out hle)
  have h0 : s.has[i] ≠ 0 := by
    have h' := h
    unfold at_ at h'
    rw [List.getElem?_eq_getElem hlt] at h'
    exact h'
  have := count_set (v := 0) hlt
  simpa [count, gone, h0] using this

theorem live_iff {s : Ar} {i : Int} {k : Nat} : s.live i k = true ↔ 0 ≤ i ∧ k ≠ 0 ∧ s.at_ i.toNat = k := by
  unfold live; simp [and_assoc]

/-- A handle that is taken was never live: its serial is above all. -/
theorem not_live {s : Ar} (hs : s.Ok) {i : Int} {k : Nat} (h : s.serial < k) : s.live i k = false := by
  have := hs.le i.toNat
  cases e : s.live i k with
  | false => rfl
  | true => obtain ⟨_, _, h3⟩ := live_iff.mp e; omega

theorem live_taken {s : Ar} (hs : s.Ok) {i : Nat} (h : s.which = some i) (j : Int) (k : Nat) (hk : k ≤ s.serial) : (s.taken i).live j k = s.live j k := by
  have h0 := which_at hs h
  unfold live
  rw [at_taken hs h]
  split
  · rename_i e
    rw [e, h0]
    by_cases hk0 : k = 0
    · simp [hk0]
    · have h1 : (s.serial + 1 == k) = false := by simp; omega
      have h2 : (0 == k) = false := by simp; omega
      rw [h1, h2]
  · rfl

theorem live_new {s : Ar} (hs : s.Ok) {i : Nat} (h : s.which = some i) : (s.taken i).live (i : Int) (s.serial + 1) = true := by
  rw [live_iff]
  refine ⟨by omega, by omega, ?_⟩
  rw [at_taken hs h]; simp

theorem live_gone {s : Ar} (hs : s.Ok) {i : Nat} (h : s.at_ i ≠ 0) (j : Int) (k : Nat) : (s.gone i).live j k = (s.live j k && (k != s.at_ i)) := by
  unfold live
  rw [at_gone h]
  by_cases e : j.toNat = i
  · rw [if_pos e, e]
    by_cases h1 : s.at_ i = k
    · subst h1; simp; intro _ e; omega
    · have h3 : (s.at_ i == k) = false := by simp [h1]
      rw [h3]
      by_cases hk0 : k = 0
      · simp [hk0]
      · have : (0 == k) = false := by simp; omega
        rw [this]; simp
  · rw [if_neg e]
    by_cases h1 : s.at_ j.toNat = k
    · subst h1
      by_cases h2 : s.at_ j.toNat = 0
      · simp [h2]
      · have : s.at_ j.toNat ≠ s.at_ i := fun e' => e (hs.one _ _ h2 e')
        have h4 : (s.at_ j.toNat != s.at_ i) = true := by simp [this]
        rw [h4]; simp
    · simp [h1]
end Ar
end Go.Proofs.Ythljpfmonienlaa
