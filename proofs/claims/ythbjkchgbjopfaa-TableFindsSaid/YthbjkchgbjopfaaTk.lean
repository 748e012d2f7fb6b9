/- Stage 13: what TableFinds rests on, in pure words. -/
import Derived.Test.YthbjkchgbjopfaaTa
namespace Go.Proofs.Ythbjkchgbjopfaa
set_option maxRecDepth 100000
/-- A map of flags, as a list of its keys in the order of their coming. -/
def mlook (x : Nat) : List (Nat × Bool) → Bool
  | [] => false
  | p :: r => if x = p.1 then p.2 else mlook x r
def mput (x : Nat) (v : Bool) : List (Nat × Bool) → List (Nat × Bool)
  | [] => [(x, v)]
  | p :: r => if x = p.1 then (x, v) :: r else p :: mput x v r
def trues : List (Nat × Bool) → Nat
  | [] => 0
  | p :: r => (if p.2 then 1 else 0) + trues r
theorem mlook_put (y x : Nat) (v : Bool) : ∀ M, mlook y (mput x v M) = if y = x then v else mlook y M
  | [] => by
    show (if y = x then v else false) = _
    rfl
  | p :: r => by
    unfold mput
    by_cases e : x = p.1
    · rw [if_pos e]
      show (if y = x then v else mlook y r) = if y = x then v else (if y = p.1 then p.2 else mlook y r)
      by_cases q : y = x
      · rw [if_pos q, if_pos q]
      · rw [if_neg q, if_neg q, if_neg (by rw [← e]; exact q)]
    · rw [if_neg e]
      show (if y = p.1 then p.2 else mlook y (mput x v r)) = if y = x then v else (if y = p.1 then p.2 else mlook y r)
      rw [mlook_put y x v r]
      by_cases q : y = p.1
      · rw [if_pos q, if_pos q, if_neg (by rw [q]; exact fun h => e h.symm)]
      · rw [if_neg q, if_neg q]
theorem trues_put (x : Nat) (v : Bool) : ∀ M, trues (mput x v M) + (if mlook x M then 1 else 0) = trues M + (if v then 1 else 0)
  | [] => by
    show (if v then 1 else 0) + 0 + 0 = 0 + (if v then 1 else 0)
    omega
  | p :: r => by
    unfold mput
    by_cases e : x = p.1
    · rw [if_pos e]
      show (if v then 1 else 0) + trues r + (if (if x = p.1 then p.2 else mlook x r) then 1 else 0) = (if p.2 then 1 else 0) + trues r + _
      rw [if_pos e]
      omega
    · rw [if_neg e]
      show (if p.2 then 1 else 0) + trues (mput x v r) + (if (if x = p.1 then p.2 else mlook x r) then 1 else 0) = (if p.2 then 1 else 0) + trues r + _
      rw [if_neg e]
      have := trues_put x v r
      omega
theorem mput_len (x : Nat) (v : Bool) : ∀ M, (mput x v M).length ≤ M.length + 1
  | [] => Nat.le_refl _
  | p :: r => by
    unfold mput
    split
    · simp
    · have := mput_len x v r
      simp only [List.length_cons]
      omega
theorem trues_le : ∀ M, trues M ≤ M.length
  | [] => Nat.le_refl _
  | p :: r => by
    have := trues_le r
    unfold trues
    simp only [List.length_cons]
    split <;> omega
namespace Tb
variable {s : Tb}
theorem st_inj (hs : s.Ok) {h i j : Nat} (hi : i < s.n) (hj : j < s.n) (e : s.st h i = s.st h j) : i = j := by
  unfold st at e
  have hm := Nat.mod_lt h hs.pos
  generalize h % s.n = a at *
  by_cases q1 : a + i < s.n
  · by_cases q2 : a + j < s.n
    · rw [Nat.mod_eq_of_lt q1, Nat.mod_eq_of_lt q2] at e
      omega
    · rw [Nat.mod_eq_of_lt q1, Nat.mod_eq_sub_mod (by omega), Nat.mod_eq_of_lt (by omega)] at e
      omega
  · by_cases q2 : a + j < s.n
    · rw [Nat.mod_eq_sub_mod (by omega), Nat.mod_eq_of_lt (by omega), Nat.mod_eq_of_lt q2] at e
      omega
    · rw [Nat.mod_eq_sub_mod (by omega), Nat.mod_eq_of_lt (show a + i - s.n < s.n by omega), Nat.mod_eq_sub_mod (by omega), Nat.mod_eq_of_lt (show a + j - s.n < s.n by omega)] at e
      omega
theorem st_onto (hs : s.Ok) (h : Nat) {k : Nat} (hk : k < s.n) : ∃ i, i < s.n ∧ s.st h i = k := by
  unfold st
  have hm := Nat.mod_lt h hs.pos
  generalize h % s.n = a at *
  by_cases q : a ≤ k
  · exact ⟨k - a, by omega, by rw [Nat.mod_eq_of_lt (by omega)]; omega⟩
  · exact ⟨k + s.n - a, by omega, by rw [show a + (k + s.n - a) = k + s.n by omega, Nat.add_mod_right, Nat.mod_eq_of_lt hk]⟩
/-- Ahead of a place, on its entry's way, none is empty. -/
def Rch (s : Tb) (k : Nat) : Prop := ∀ i, i < s.n → s.st (s.eh k) i = k → ∀ j, j < i → s.ful (s.st (s.eh k) j) = true ∨ s.mrk (s.st (s.eh k) j) = true
theorem rch_way (hs : s.Ok) {k : Nat} (hk : k < s.n) (hf : s.ful k = true) (hr : s.Rch k) : k ∈ s.way (s.eh k) := by
  obtain ⟨i, hi, e⟩ := st_onto hs (s.eh k) hk
  refine wayU_mem.2 ⟨i, ?_, ?_, e⟩
  · rcases Nat.lt_or_ge i (s.lim (s.eh k)) with q | q
    · exact q
    · exfalso
      have hl : s.lim (s.eh k) < s.n := by omega
      have h2 := lim_end hl
      rcases Nat.lt_or_ge (s.lim (s.eh k)) i with r | r
      · rcases hr i hi e _ r with a | a
        · rw [h2.1] at a; cases a
        · rw [h2.2] at a; cases a
      · have : s.lim (s.eh k) = i := by omega
        rw [this, e, hf] at h2
        cases h2.1
  · unfold on
    rw [e, hf]
    simp
/-- What is there once, and can be reached, is found. -/
theorem find_one (hs : s.Ok) {k h x : Nat} (hk : k < s.n) (hf : s.ful k = true) (hh : s.eh k = h) (hx : s.ew k = x) (hr : s.Rch k) (ho : ∀ j, j < s.n → s.ful j = true → s.ew j = x → j = k) : s.find h x = some k := by
  subst hh
  have hm := rch_way hs hk hf hr
  cases hq : s.find (s.eh k) x with
  | none =>
    unfold find at hq
    rw [List.find?_eq_none] at hq
    have := hq k hm
    simp [hx] at this
  | some j =>
    obtain ⟨h1, _, h3⟩ := find_ful hq
    rw [ho j (find_lt hs hq) h1 h3]
/-- What TableFinds keeps. -/
structure Fi (s : Tb) (M : List (Nat × Bool)) : Prop where
  n32 : s.n = 32
  ok : s.Ok
  own : ∀ k, k < 32 → s.ful k = true → s.ew k < 256 ∧ s.eh k = s.ew k % 5 ∧ mlook (s.ew k) M = true
  one : ∀ k j, k < 32 → j < 32 → s.ful k = true → s.ful j = true → s.ew k = s.ew j → k = j
  has : ∀ x, mlook x M = true → ∃ k, k < 32 ∧ s.ful k = true ∧ s.ew k = x
  rch : ∀ k, k < 32 → s.ful k = true → s.Rch k
  cnt : trues M = s.entries
theorem fi_new : Fi (new 32) [] := ⟨rfl, ok_new (by decide) (by decide), fun _ _ h => (by cases h), fun _ _ _ _ h => (by cases h), fun _ h => (by cases h), fun _ _ h => (by cases h), by decide⟩
variable {M : List (Nat × Bool)}
theorem Fi.find_yes (h : Fi s M) {x : Nat} (hm : mlook x M = true) : ∃ k, s.find (x % 5) x = some k ∧ k < 32 ∧ s.ful k = true ∧ s.ew k = x ∧ s.eh k = x % 5 := by
  obtain ⟨k, hk, hf, hx⟩ := h.has x hm
  have ho := h.own k hk hf
  exact ⟨k, find_one h.ok (by rw [h.n32]; exact hk) hf (by rw [ho.2.1, hx]) hx (h.rch k hk hf) fun j hj hf' he => h.one j k (by rw [← h.n32]; exact hj) hk hf' hf (by rw [he, hx]), hk, hf, hx, by rw [ho.2.1, hx]⟩
theorem Fi.find_no (h : Fi s M) {x : Nat} (hm : mlook x M = false) : s.find (x % 5) x = none := by
  cases hq : s.find (x % 5) x with
  | none => rfl
  | some k =>
    obtain ⟨h1, _, h3⟩ := find_ful hq
    have := (h.own k (by have := find_lt h.ok hq; rw [h.n32] at this; exact this) h1).2.2
    rw [h3, hm] at this
    cases this
/-- Of a full table each flag counts. -/
theorem Fi.full (h : Fi s M) {x : Nat} (hf : s.free x = none) : trues M = 32 := by
  rw [h.cnt]
  unfold entries
  have key : ∀ m, m ≤ 32 → cntI s.ful m = m := by
    intro m
    induction m with
    | zero => exact fun _ => rfl
    | succ m ih =>
      intro hm
      have hfm : s.ful m = true := by
        obtain ⟨i, hi, e⟩ := st_onto h.ok x (k := m) (by rw [h.n32]; omega)
        have := fstI_none.1 hf i hi
        rw [e] at this
        simpa using this
      show cntI s.ful m + (if s.ful m then 1 else 0) = m + 1
      rw [ih (by omega), hfm]
      rfl
  rw [h.n32]
  exact key 32 (Nat.le_refl _)
theorem st_put (h x k j i : Nat) : (s.put k h x).st j i = s.st j i := rfl
theorem st_gone (k j i : Nat) : (s.gone k).st j i = s.st j i := rfl
/-- An entry that is not there is put. -/
theorem Fi.put_new (h : Fi s M) {x i : Nat} (hx : x < 256) (hm : mlook x M = false) (hf : s.free (x % 5) = some i) : Fi (s.put (s.st (x % 5) i) (x % 5) x) (mput x true M) := by
  obtain ⟨hi, hnf, hbf⟩ := fstI_some.1 hf
  have hnf : s.ful (s.st (x % 5) i) = false := by simpa using hnf
  have hbf : ∀ j, j < i → s.ful (s.st (x % 5) j) = true := fun j hj => by simpa using hbf j hj
  have hk : s.st (x % 5) i < 32 := by rw [← h.n32]; exact st_lt h.ok _ _
  have hne : ∀ k, s.ful k = true → k ≠ s.st (x % 5) i := fun k hk e => by rw [e, hnf] at hk; cases hk
  generalize hK : s.st (x % 5) i = K at *
  have fu : ∀ k, (s.put K (x % 5) x).ful k = true → k = K ∨ (k ≠ K ∧ s.ful k = true) := fun k hk' => by
    by_cases e : k = K
    · exact .inl e
    · refine .inr ⟨e, ?_⟩
      have hk' : updB s.ful K true k = true := hk'
      rwa [updB_ne e] at hk'
  have ew0 : (s.put K (x % 5) x).ew K = x := updN_at ..
  have eh0 : (s.put K (x % 5) x).eh K = x % 5 := updN_at ..
  have ew1 : ∀ k, k ≠ K → (s.put K (x % 5) x).ew k = s.ew k := fun k e => updN_ne e
  have eh1 : ∀ k, k ≠ K → (s.put K (x % 5) x).eh k = s.eh k := fun k e => updN_ne e
  have live : ∀ k, s.ful k = true ∨ s.mrk k = true → (s.put K (x % 5) x).ful k = true ∨ (s.put K (x % 5) x).mrk k = true := fun k hk' => by
    by_cases e : k = K
    · subst e
      exact .inl (updB_at ..)
    · show updB s.ful K true k = true ∨ updB s.mrk K false k = true
      rw [updB_ne e, updB_ne e]
      exact hk'
  have xnot : ∀ k, k < 32 → s.ful k = true → s.ew k ≠ x := fun k hk' hf' e => by
    have := (h.own k hk' hf').2.2
    rw [e, hm] at this
    cases this
  refine ⟨h.n32, ok_put h.ok K (Nat.lt_of_le_of_lt (Nat.mod_le x 5) (by omega)) (by omega), fun k hk' hf' => ?_, fun k j hk' hj hfk hfj e => ?_, fun y hy => ?_, fun k hk' hf' => ?_, ?_⟩
  · rcases fu k hf' with rfl | ⟨e, hfk⟩
    · rw [ew0, eh0]
      exact ⟨hx, rfl, by rw [mlook_put, if_pos rfl]⟩
    · rw [ew1 k e, eh1 k e]
      have := h.own k hk' hfk
      exact ⟨this.1, this.2.1, by rw [mlook_put, if_neg (xnot k hk' hfk)]; exact this.2.2⟩
  · rcases fu k hfk with rfl | ⟨e1, q1⟩
    · rcases fu j hfj with rfl | ⟨e2, q2⟩
      · rfl
      · rw [ew0, ew1 j e2] at e
        exact absurd e.symm (xnot j hj q2)
    · rcases fu j hfj with rfl | ⟨e2, q2⟩
      · rw [ew0, ew1 k e1] at e
        exact absurd e (xnot k hk' q1)
      · rw [ew1 k e1, ew1 j e2] at e
        exact h.one k j hk' hj q1 q2 e
  · rw [mlook_put] at hy
    by_cases e : y = x
    · exact ⟨K, hk, updB_at .., by rw [ew0, e]⟩
    · rw [if_neg e] at hy
      obtain ⟨k, hk', hf', he⟩ := h.has y hy
      exact ⟨k, hk', by show updB s.ful K true k = true; rw [updB_ne (hne k hf')]; exact hf', by rw [ew1 k (hne k hf')]; exact he⟩
  · intro a ha e j hj
    rcases fu k hf' with rfl | ⟨e1, q1⟩
    · rw [eh0] at e ⊢
      rw [st_put] at e ⊢
      have : a = i := st_inj h.ok ha hi (e.trans hK.symm)
      exact live _ (.inl (hbf j (by omega)))
    · rw [eh1 k e1] at e ⊢
      rw [st_put] at e ⊢
      exact live _ (h.rch k hk' q1 a ha e j hj)
  · have h1 := trues_put x true M
    rw [hm] at h1
    have h2 := cntI_upd s.ful K true (m := 32) hk
    rw [hnf] at h2
    have h3 := h.cnt
    unfold entries at h3 ⊢
    show trues (mput x true M) = cntI (updB s.ful K true) s.n
    rw [h.n32] at h3 ⊢
    simp only [if_true] at h1 h2
    have h1 : trues (mput x true M) + 0 = trues M + 1 := h1
    have h2 : cntI (updB s.ful K true) 32 + 0 = cntI s.ful 32 + 1 := h2
    omega
theorem gone_live {K : Nat} : ∀ k, s.ful k = true ∨ s.mrk k = true → (s.gone K).ful k = true ∨ (s.gone K).mrk k = true := fun k hk => by
  by_cases e : k = K
  · subst e
    exact .inr (updB_at ..)
  · show updB s.ful K false k = true ∨ updB s.mrk K true k = true
    rw [updB_ne e, updB_ne e]
    exact hk
theorem gone_ful {K : Nat} : ∀ k, (s.gone K).ful k = true → k ≠ K ∧ s.ful k = true := fun k hk => by
  have hk : updB s.ful K false k = true := hk
  by_cases e : k = K
  · rw [e, updB_at] at hk
    cases hk
  · rw [updB_ne e] at hk
    exact ⟨e, hk⟩
theorem gone_eh {K k : Nat} (e : k ≠ K) : (s.gone K).eh k = s.eh k := updN_ne e
theorem gone_ew {K k : Nat} (e : k ≠ K) : (s.gone K).ew k = s.ew k := updN_ne e
theorem gone_rch {K k : Nat} (e : k ≠ K) (h : s.Rch k) : (s.gone K).Rch k := fun i hi hq j hj => by
  rw [gone_eh e] at hq ⊢
  exact gone_live _ (h i hi hq j hj)
/-- One that is there is dropped. -/
theorem Fi.drop (h : Fi s M) {x k : Nat} (hm : mlook x M = true) (hk : k < 32) (hf : s.ful k = true) (hx : s.ew k = x) : Fi (s.gone k) (mput x false M) := by
  refine ⟨h.n32, ok_gone h.ok k, fun j hj hfj => ?_, fun j i hj hi hfj hfi e => ?_, fun y hy => ?_, fun j hj hfj => ?_, ?_⟩
  · obtain ⟨e, q⟩ := gone_ful j hfj
    rw [gone_ew e, gone_eh e]
    have := h.own j hj q
    refine ⟨this.1, this.2.1, ?_⟩
    rw [mlook_put, if_neg (fun e' => e (h.one j k hj hk q hf (by rw [e', hx])))]
    exact this.2.2
  · obtain ⟨e1, q1⟩ := gone_ful j hfj
    obtain ⟨e2, q2⟩ := gone_ful i hfi
    rw [gone_ew e1, gone_ew e2] at e
    exact h.one j i hj hi q1 q2 e
  · rw [mlook_put] at hy
    by_cases e : y = x
    · rw [if_pos e] at hy
      cases hy
    · rw [if_neg e] at hy
      obtain ⟨j, hj, hfj, he⟩ := h.has y hy
      have hjk : j ≠ k := fun q => e (by rw [← he, q, hx])
      exact ⟨j, hj, by show updB s.ful k false j = true; rw [updB_ne hjk]; exact hfj, by rw [gone_ew hjk]; exact he⟩
  · obtain ⟨e, q⟩ := gone_ful j hfj
    exact gone_rch e (h.rch j hj q)
  · have h1 := trues_put x false M
    rw [hm] at h1
    have h2 := cntI_upd s.ful k false (m := 32) hk
    rw [hf] at h2
    have h3 := h.cnt
    unfold entries at h3 ⊢
    show trues (mput x false M) = cntI (updB s.ful k false) s.n
    rw [h.n32] at h3 ⊢
    have h1 : trues (mput x false M) + 1 = trues M + 0 := h1
    have h2 : cntI (updB s.ful k false) 32 + 1 = cntI s.ful 32 + 0 := h2
    omega
/-- One that is there is put once more, and both are dropped. -/
theorem Fi.twice (h : Fi s M) {x k i : Nat} (hx : x < 256) (hm : mlook x M = true) (hk : k < 32) (hf : s.ful k = true) (hw : s.ew k = x) (hfr : s.free (x % 5) = some i) :
    s.st (x % 5) i < 32 ∧ s.st (x % 5) i ≠ k ∧ ((s.put (s.st (x % 5) i) (x % 5) x).gone k).find (x % 5) x = some (s.st (x % 5) i) ∧ ((s.put (s.st (x % 5) i) (x % 5) x).gone k).ful (s.st (x % 5) i) = true ∧ Fi (((s.put (s.st (x % 5) i) (x % 5) x).gone k).gone (s.st (x % 5) i)) (mput x false M) := by
  obtain ⟨hi, hnf, hbf⟩ := fstI_some.1 hfr
  have hnf : s.ful (s.st (x % 5) i) = false := by simpa using hnf
  have hbf : ∀ j, j < i → s.ful (s.st (x % 5) j) = true := fun j hj => by simpa using hbf j hj
  have hK : s.st (x % 5) i < 32 := by rw [← h.n32]; exact st_lt h.ok _ _
  have hKk : s.st (x % 5) i ≠ k := fun e => by rw [e, hf] at hnf; cases hnf
  generalize hKe : s.st (x % 5) i = K at *
  have hkK := hKk.symm
  have f1 : ((s.put K (x % 5) x).gone k).ful K = true := by
    show updB (updB s.ful K true) k false K = true
    rw [updB_ne hKk, updB_at]
  have w1 : ((s.put K (x % 5) x).gone k).ew K = x := by
    show updN (updN s.ew K x) k 0 K = x
    rw [updN_ne hKk, updN_at]
  have e1 : ((s.put K (x % 5) x).gone k).eh K = x % 5 := by
    show updN (updN s.eh K (x % 5)) k 0 K = x % 5
    rw [updN_ne hKk, updN_at]
  have ok1 : (s.put K (x % 5) x).Ok := ok_put h.ok K (Nat.lt_of_le_of_lt (Nat.mod_le x 5) (by omega)) (by omega)
  have live : ∀ j, s.ful j = true ∨ s.mrk j = true → (s.put K (x % 5) x).ful j = true ∨ (s.put K (x % 5) x).mrk j = true := fun j hj => by
    by_cases e : j = K
    · subst e
      exact .inl (updB_at ..)
    · show updB s.ful K true j = true ∨ updB s.mrk K false j = true
      rw [updB_ne e, updB_ne e]
      exact hj
  have ful2 : ∀ j, ((s.put K (x % 5) x).gone k).ful j = true → j = K ∨ (j ≠ K ∧ j ≠ k ∧ s.ful j = true) := fun j hj => by
    obtain ⟨a, b⟩ := gone_ful j hj
    by_cases e : j = K
    · exact .inl e
    · have b : updB s.ful K true j = true := b
      rw [updB_ne e] at b
      exact .inr ⟨e, a, b⟩
  have r1 : ((s.put K (x % 5) x).gone k).Rch K := by
    intro a ha e j hj
    rw [e1] at e ⊢
    have hai : a = i := st_inj h.ok ha hi (e.trans hKe.symm)
    exact gone_live _ (live _ (.inl (hbf j (by omega))))
  refine ⟨hK, hKk, find_one (ok_gone ok1 k) (by show K < s.n; rw [h.n32]; exact hK) f1 e1 w1 r1 fun j hj hfj hej => ?_, f1, ?_⟩
  · rcases ful2 j hfj with q | ⟨a, b, c⟩
    · exact q
    · exfalso
      have hj : j < 32 := by have : j < s.n := hj; rw [h.n32] at this; exact this
      have : ((s.put K (x % 5) x).gone k).ew j = s.ew j := by
        show updN (updN s.ew K x) k 0 j = _
        rw [updN_ne b, updN_ne a]
      rw [this] at hej
      exact b (h.one j k hj hk c hf (by rw [hej, hw]))
  · have ful3 : ∀ j, (((s.put K (x % 5) x).gone k).gone K).ful j = true → j ≠ K ∧ j ≠ k ∧ s.ful j = true := fun j hj => by
      obtain ⟨a, b⟩ := gone_ful j hj
      rcases ful2 j b with q | q
      · exact absurd q a
      · exact q
    have ew3 : ∀ j, j ≠ K → j ≠ k → (((s.put K (x % 5) x).gone k).gone K).ew j = s.ew j := fun j a b => by
      show updN (updN (updN s.ew K x) k 0) K 0 j = _
      rw [updN_ne a, updN_ne b, updN_ne a]
    have eh3 : ∀ j, j ≠ K → j ≠ k → (((s.put K (x % 5) x).gone k).gone K).eh j = s.eh j := fun j a b => by
      show updN (updN (updN s.eh K (x % 5)) k 0) K 0 j = _
      rw [updN_ne a, updN_ne b, updN_ne a]
    refine ⟨h.n32, ok_gone (ok_gone ok1 k) K, fun j hj hfj => ?_, fun j l hj hl hfj hfl e => ?_, fun y hy => ?_, fun j hj hfj => ?_, ?_⟩
    · obtain ⟨a, b, c⟩ := ful3 j hfj
      rw [ew3 j a b, eh3 j a b]
      have := h.own j hj c
      refine ⟨this.1, this.2.1, ?_⟩
      rw [mlook_put, if_neg (fun e' => b (h.one j k hj hk c hf (by rw [e', hw])))]
      exact this.2.2
    · obtain ⟨a, b, c⟩ := ful3 j hfj
      obtain ⟨a', b', c'⟩ := ful3 l hfl
      rw [ew3 j a b, ew3 l a' b'] at e
      exact h.one j l hj hl c c' e
    · rw [mlook_put] at hy
      by_cases e : y = x
      · rw [if_pos e] at hy
        cases hy
      · rw [if_neg e] at hy
        obtain ⟨j, hj, hfj, he⟩ := h.has y hy
        have hjk : j ≠ k := fun q => e (by rw [← he, q, hw])
        have hjK : j ≠ K := fun q => by rw [q, hnf] at hfj; cases hfj
        refine ⟨j, hj, ?_, by rw [ew3 j hjK hjk]; exact he⟩
        show updB (updB (updB s.ful K true) k false) K false j = true
        rw [updB_ne hjK, updB_ne hjk, updB_ne hjK]
        exact hfj
    · obtain ⟨a, b, c⟩ := ful3 j hfj
      intro l hl e q hq
      rw [eh3 j a b] at e ⊢
      exact gone_live _ (gone_live _ (live _ (h.rch j hj c l hl e q hq)))
    · have h1 := trues_put x false M
      rw [hm] at h1
      have h2 := cntI_upd s.ful K true (m := 32) hK
      rw [hnf] at h2
      have h4 := cntI_upd (updB s.ful K true) k false (m := 32) hk
      rw [updB_ne hkK, hf] at h4
      have h5 := cntI_upd (updB (updB s.ful K true) k false) K false (m := 32) hK
      rw [updB_ne hKk, updB_at] at h5
      have h3 := h.cnt
      unfold entries at h3 ⊢
      show trues (mput x false M) = cntI (updB (updB (updB s.ful K true) k false) K false) s.n
      rw [h.n32] at h3 ⊢
      have h1 : trues (mput x false M) + 1 = trues M + 0 := h1
      have h2 : cntI (updB s.ful K true) 32 + 0 = cntI s.ful 32 + 1 := h2
      have h4 : cntI (updB (updB s.ful K true) k false) 32 + 1 = cntI (updB s.ful K true) 32 + 0 := h4
      have h5 : cntI (updB (updB (updB s.ful K true) k false) K false) 32 + 1 = cntI (updB (updB s.ful K true) k false) 32 + 0 := h5
      omega
/-- What is asked about: of the hash alone, none twice. -/
theorem wayU_nodup (hs : s.Ok) (h : Nat) : ∀ {m : Nat}, m ≤ s.n → (s.wayU h m).Nodup
  | 0, _ => List.nodup_nil
  | m + 1, hm => by
    unfold wayU
    refine List.nodup_append.2 ⟨wayU_nodup hs h (by omega), ?_, fun a ha b hb => ?_⟩
    · split
      · exact List.nodup_cons.2 ⟨by simp, List.nodup_nil⟩
      · exact List.nodup_nil
    · split at hb
      · rw [List.mem_singleton] at hb
        subst hb
        obtain ⟨i, hi, _, e⟩ := wayU_mem.1 ha
        intro q
        have := st_inj hs (by omega) (by omega) (e.trans q)
        omega
      · cases hb
theorem Fi.asks (h : Fi s M) (y : Nat) : ((s.way (y % 5)).map s.ew).Nodup ∧ ∀ w, w ∈ (s.way (y % 5)).map s.ew → w < 256 ∧ w % 5 = y % 5 := by
  constructor
  · have hn := wayU_nodup h.ok (y % 5) (lim_le s (y % 5))
    refine List.pairwise_map.2 (hn.imp_of_mem ?_)
    intro a b ha hb hne he
    obtain ⟨i, hi, ho, ea⟩ := wayU_mem.1 ha
    obtain ⟨j, hj, ho', eb⟩ := wayU_mem.1 hb
    unfold on at ho ho'
    rw [ea, Bool.and_eq_true] at ho
    rw [eb, Bool.and_eq_true] at ho'
    have h1 : a < 32 := by rw [← h.n32]; exact wayU_lt h.ok _ ha
    have h2 : b < 32 := by rw [← h.n32]; exact wayU_lt h.ok _ hb
    exact hne (h.one a b h1 h2 ho.1 ho'.1 he)
  · intro w hw
    obtain ⟨a, ha, rfl⟩ := List.mem_map.1 hw
    obtain ⟨i, hi, ho, ea⟩ := wayU_mem.1 ha
    unfold on at ho
    rw [ea, Bool.and_eq_true, beq_iff_eq] at ho
    have h1 : a < 32 := by rw [← h.n32]; exact wayU_lt h.ok _ ha
    have := h.own a h1 ho.1
    exact ⟨this.1, by rw [← this.2.1, ho.2]⟩
end Tb
end Go.Proofs.Ythbjkchgbjopfaa
