/- Stage 9's pure words: the handles that an arena has told so far, in the order of their taking: each has a serial of its own; as many are live as cells are taken; a handle that is live is freed, and then it alone is live no more. -/
import Derived.Test.YthljpfmonienlaaArSpec
namespace Go.Proofs.Ythljpfmonienlaa
namespace Ar

theorem countP_out (p : Nat × Nat → Bool) (K : Nat) : ∀ (l : List (Nat × Nat)), (l.map Prod.snd).Nodup → (∃ x, x ∈ l ∧ x.2 = K ∧ p x = true) → l.countP (fun x => p x && (x.2 != K)) + 1 = l.countP p
  | [], _, h => by obtain ⟨x, hx, _⟩ := h; cases hx
  | a :: t, hd, h => by
    rw [List.map_cons, List.nodup_cons] at hd
    obtain ⟨x, hx, hK, hp⟩ := h
    by_cases e : a.2 = K
    · have hax : x = a := by
        rcases List.mem_cons.mp hx with h | h
        · exact h
        · exact absurd (List.mem_map.mpr ⟨x, h, by rw [hK, e]⟩) hd.1
      subst hax
      have hc : t.countP (fun x => p x && (x.2 != K)) = t.countP p := by
        apply List.countP_congr
        intro y hy
        have : y.2 ≠ K := fun h => hd.1 (List.mem_map.mpr ⟨y, hy, by rw [h, hK]⟩)
        simp [this]
      simp only [List.countP_cons, hc, hp, e]
      simp
    · have hx' : x ∈ t := by
        rcases List.mem_cons.mp hx with h | h
        · subst h; exact absurd hK e
        · exact h
      have ih := countP_out p K t hd.2 ⟨x, hx', hK, hp⟩
      have e' : (a.2 != K) = true := by simp [e]
      simp only [List.countP_cons, e', Bool.and_true]
      omega

structure Hist (s : Ar) (hs : List (Nat × Nat)) : Prop where
  len : hs.length = s.serial
  ser : ∀ j x, hs[j]? = some x → x.2 = j + 1
  num : s.count = hs.countP (fun h => s.live (h.1 : Int) h.2)

theorem Hist.nodup {s : Ar} {hs : List (Nat × Nat)} (h : Hist s hs) : (hs.map Prod.snd).Nodup := by
  have : hs.map Prod.snd = List.range' 1 hs.length := by
    apply List.ext_getElem?
    intro j
    rw [List.getElem?_map]
    by_cases hj : j < hs.length
    · rw [List.getElem?_eq_getElem hj, List.getElem?_range' (by omega)]
      have := h.ser j _ (List.getElem?_eq_getElem hj)
      simp [this]; omega
    · rw [List.getElem?_eq_none (by omega), List.getElem?_eq_none (by simp; omega)]; rfl
  rw [this]
  exact List.nodup_range'

theorem Hist.mem_le {s : Ar} {hs : List (Nat × Nat)} (h : Hist s hs) {x : Nat × Nat} (hx : x ∈ hs) : 1 ≤ x.2 ∧ x.2 ≤ s.serial := by
  obtain ⟨j, hj, rfl⟩ := List.mem_iff_getElem.mp hx
  have := h.ser j _ (List.getElem?_eq_getElem hj)
  have := h.len
  omega

theorem Hist.new (n : Nat) : Hist (Ar.new n) [] := by
  refine ⟨rfl, fun j x h => by simp at h, ?_⟩
  unfold count Ar.new
  simp [List.countP_replicate]

theorem Hist.taken {s : Ar} (hs : s.Ok) {l : List (Nat × Nat)} (h : Hist s l) {i : Nat} (hw : s.which = some i) : Hist (s.taken i) (l ++ [(i, s.serial + 1)]) := by
  refine ⟨by rw [List.length_append, h.len]; rfl, ?_, ?_⟩
  · intro j x hx
    rw [List.getElem?_append] at hx
    split at hx
    · exact h.ser j x hx
    · rename_i hj
      have hl := h.len
      by_cases e : j - l.length = 0
      · rw [e] at hx
        cases hx
        show s.serial + 1 = j + 1
        omega
      · rw [List.getElem?_eq_none (by simp; omega)] at hx
        cases hx
  · rw [count_taken hs hw, h.num, List.countP_append]
    have h1 : l.countP (fun h => (s.taken i).live (h.1 : Int) h.2) = l.countP (fun h => s.live (h.1 : Int) h.2) := by
      apply List.countP_congr
      intro x hx
      rw [live_taken hs hw _ _ (h.mem_le hx).2]
    rw [h1]
    simp [live_new hs hw]

/-- A handle that is live is freed. -/
theorem Hist.gone {s : Ar} (hs : s.Ok) {l : List (Nat × Nat)} (h : Hist s l) {i k : Nat} (hm : (i, k) ∈ l) (hl : s.live (i : Int) k = true) : Hist (s.gone i) l := by
  obtain ⟨_, h0, hk⟩ := live_iff.mp hl
  rw [Int.toNat_natCast] at hk
  have hne : s.at_ i ≠ 0 := by omega
  refine ⟨h.len, h.ser, ?_⟩
  have h1 := count_gone hne
  have h2 := countP_out (fun h => s.live (h.1 : Int) h.2) k l h.nodup ⟨(i, k), hm, rfl, hl⟩
  have h3 : l.countP (fun h => (s.gone i).live (h.1 : Int) h.2) = l.countP (fun x => s.live (x.1 : Int) x.2 && (x.2 != k)) := by
    apply List.countP_congr
    intro x _
    rw [live_gone hs hne, hk]
  rw [h3]
  have := h.num
  omega

/-- No handle is told twice. -/
theorem Hist.inj {s : Ar} {l : List (Nat × Nat)} (h : Hist s l) {a b : Nat} {x : Nat × Nat} (ha : l[a]? = some x) (hb : l[b]? = some x) : a = b := by
  have := h.ser a x ha
  have := h.ser b x hb
  omega

/-- No two live ones have one index. -/
theorem Hist.apart {s : Ar} {l : List (Nat × Nat)} (h : Hist s l) {a b : Nat} {x y : Nat × Nat} (ha : l[a]? = some x) (hb : l[b]? = some y) (hx : s.live (x.1 : Int) x.2 = true) (hy : s.live (y.1 : Int) y.2 = true) (e : x.1 = y.1) : a = b := by
  obtain ⟨_, _, h1⟩ := live_iff.mp hx
  obtain ⟨_, _, h2⟩ := live_iff.mp hy
  rw [e] at h1
  have := h.ser a x ha
  have := h.ser b y hb
  omega
end Ar
end Go.Proofs.Ythljpfmonienlaa
