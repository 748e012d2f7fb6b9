import Derived.Test.YthjghofjdcepmaaGm0
import Derived.Test.YthjghofjdcepmaaGm16
import Derived.MapKept
import Derived.Laws.EntriesVeiled
import Derived.Laws.StructEq
/- Stage 13: what TableFinds rests on, in pure words. -/
namespace Go.Proofs.Ythjghofjdcepmaa
set_option maxRecDepth 100000
/-- A map of flags, as a list of its keys in the order of their coming. -/
def mlook (x : Nat) : List (Nat × Bool) → Bool
  | [] => false
  | p :: r => if x = p.1 then p.2 else mlook x r
def mput (x : Nat) (v : Bool) : List (Nat × Bool) → List (Nat × Bool)
  | [] => [(x, v)]
  | p :: r => if x = p.1 then (x, v) :: r else p :: mput x v r
def trues : List (Nat × Bool) → Nat
  | [] => 0
  | p :: r => (if p.2 then 1 else 0) + trues r
theorem mlook_put (y x : Nat) (v : Bool) : ∀ M, mlook y (mput x v M) = if y = x then v else mlook y M
  | [] => by
    show (if y = x then v else false) = _
    rfl
  | p :: r => by
    unfold mput
    by_cases e : x = p.1
    · rw [if_pos e]
      show (if y = x then v else mlook y r) = if y = x then v else (if y = p.1 then p.2 else mlook y r)
      by_cases q : y = x
      · rw [if_pos q, if_pos q]
      · rw [if_neg q, if_neg q, if_neg (by rw [← e]; exact q)]
    · rw [if_neg e]
      show (if y = p.1 then p.2 else mlook y (mput x v r)) = if y = x then v else (if y = p.1 then p.2 else mlook y r)
      rw [mlook_put y x v r]
      by_cases q : y = p.1
      · rw [if_pos q, if_pos q, if_neg (by rw [q]; exact fun h => e h.symm)]
      · rw [if_neg q, if_neg q]
theorem trues_put (x : Nat) (v : Bool) : ∀ M, trues (mput x v M) + (if mlook x M then 1 else 0) = trues M + (if v then 1 else 0)
  | [] => by
    show (if v then 1 else 0) + 0 + 0 = 0 + (if v then 1 else 0)
    omega
  | p :: r => by
    unfold mput
    by_cases e : x = p.1
    · rw [if_pos e]
      show (if v then 1 else 0) + trues r + (if (if x = p.1 then p.2 else mlook x r) then 1 else 0) = (if p.2 then 1 else 0) + trues r + _
      rw [if_pos e]
      omega
    · rw [if_neg e]
      show (if p.2 then 1 else 0) + trues (mput x v r) + (if (if x = p.1 then p.2 else mlook x r) then 1 else 0) = (if p.2 then 1 else 0) + trues r + _
      rw [if_neg e]
      have := trues_put x v r
      omega
theorem mput_len (x : Nat) (v : Bool) : ∀ M, (mput x v M).length ≤ M.length + 1
  | [] => Nat.le_refl _
  | p :: r => by
    unfold mput
    split
    · simp
    · have := mput_len x v r
      simp only [List.length_cons]
      omega
theorem trues_le : ∀ M, trues M ≤ M.length
  | [] => Nat.le_refl _
  | p :: r => by
    have := trues_le r
    unfold trues
    simp only [List.length_cons]
    split <;> omega
namespace Tb
variable {s : Tb}
theorem st_inj (hs : s.Ok) {h i j : Nat} (hi : i < s.n) (hj : j < s.n) (e : s.st h i = s.st h j) : i = j := by
  unfold st at e
  have hm := Nat.mod_lt h hs.pos
  generalize h % s.n = a at *
  by_cases q1 : a + i < s.n
  · by_cases q2 : a + j < s.n
    · rw [Nat.mod_eq_of_lt q1, Nat.mod_eq_of_lt q2] at e
      omega
    · rw [Nat.mod_eq_of_lt q1, Nat.mod_eq_sub_mod (by omega), Nat.mod_eq_of_lt (by omega)] at e
      omega
  · by_cases q2 : a + j < s.n
    · rw [Nat.mod_eq_sub_mod (by omega), Nat.mod_eq_of_lt (by omega), Nat.mod_eq_of_lt q2] at e
      omega
    · rw [Nat.mod_eq_sub_mod (by omega), Nat.mod_eq_of_lt (show a + i - s.n < s.n by omega), Nat.mod_eq_sub_mod (by omega), Nat.mod_eq_of_lt (show a + j - s.n < s.n by omega)] at e
      omega
theorem st_onto (hs : s.Ok) (h : Nat) {k : Nat} (hk : k < s.n) : ∃ i, i < s.n ∧ s.st h i = k := by
  unfold st
  have hm := Nat.mod_lt h hs.pos
  generalize h % s.n = a at *
  by_cases q : a ≤ k
  · exact ⟨k - a, by omega, by rw [Nat.mod_eq_of_lt (by omega)]; omega⟩
  · exact ⟨k + s.n - a, by omega, by rw [show a + (k + s.n - a) = k + s.n by omega, Nat.add_mod_right, Nat.mod_eq_of_lt hk]⟩
/-- Ahead of a place, on its entry's way, none is empty. -/
def Rch (s : Tb) (k : Nat) : Prop := ∀ i, i < s.n → s.st (s.eh k) i = k → ∀ j, j < i → s.ful (s.st (s.eh k) j) = true ∨ s.mrk (s.st (s.eh k) j) = true
theorem rch_way (hs : s.Ok) {k : Nat} (hk : k < s.n) (hf : s.ful k = true) (hr : s.Rch k) : k ∈ s.way (s.eh k) := by
  obtain ⟨i, hi, e⟩ := st_onto hs (s.eh k) hk
  refine wayU_mem.2 ⟨i, ?_, ?_, e⟩
  · rcases Nat.lt_or_ge i (s.lim (s.eh k)) with q | q
    · exact q
    · exfalso
      have hl : s.lim (s.eh k) < s.n := by omega
      have h2 := lim_end hl
      rcases Nat.lt_or_ge (s.lim (s.eh k)) i with r | r
      · rcases hr i hi e _ r with a | a
        · rw [h2.1] at a; cases a
        · rw [h2.2] at a; cases a
      · have : s.lim (s.eh k) = i := by omega
        rw [this, e, hf] at h2
        cases h2.1
  · unfold on
    rw [e, hf]
    simp
/-- What is there once, and can be reached, is found. -/
theorem find_one (hs : s.Ok) {k h x : Nat} (hk : k < s.n) (hf : s.ful k = true) (hh : s.eh k = h) (hx : s.ew k = x) (hr : s.Rch k) (ho : ∀ j, j < s.n → s.ful j = true → s.ew j = x → j = k) : s.find h x = some k := by
  subst hh
  have hm := rch_way hs hk hf hr
  cases hq : s.find (s.eh k) x with
  | none =>
    unfold find at hq
    rw [List.find?_eq_none] at hq
    have := hq k hm
    simp [hx] at this
  | some j =>
    obtain ⟨h1, _, h3⟩ := find_ful hq
    rw [ho j (find_lt hs hq) h1 h3]
/-- What TableFinds keeps. -/
structure Fi (s : Tb) (M : List (Nat × Bool)) : Prop where
  n32 : s.n = 32
  ok : s.Ok
  own : ∀ k, k < 32 → s.ful k = true → s.ew k < 256 ∧ s.eh k = s.ew k % 5 ∧ mlook (s.ew k) M = true
  one : ∀ k j, k < 32 → j < 32 → s.ful k = true → s.ful j = true → s.ew k = s.ew j → k = j
  has : ∀ x, mlook x M = true → ∃ k, k < 32 ∧ s.ful k = true ∧ s.ew k = x
  rch : ∀ k, k < 32 → s.ful k = true → s.Rch k
  cnt : trues M = s.entries
theorem fi_new : Fi (new 32) [] := ⟨rfl, ok_new (by decide) (by decide), fun _ _ h => (by cases h), fun _ _ _ _ h => (by cases h), fun _ h => (by cases h), fun _ _ h => (by cases h), by decide⟩
variable {M : List (Nat × Bool)}
theorem Fi.find_yes (h : Fi s M) {x : Nat} (hm : mlook x M = true) : ∃ k, s.find (x % 5) x = some k ∧ k < 32 ∧ s.ful k = true ∧ s.ew k = x ∧ s.eh k = x % 5 := by
  obtain ⟨k, hk, hf, hx⟩ := h.has x hm
  have ho := h.own k hk hf
  exact ⟨k, find_one h.ok (by rw [h.n32]; exact hk) hf (by rw [ho.2.1, hx]) hx (h.rch k hk hf) fun j hj hf' he => h.one j k (by rw [← h.n32]; exact hj) hk hf' hf (by rw [he, hx]), hk, hf, hx, by rw [ho.2.1, hx]⟩
theorem Fi.find_no (h : Fi s M) {x : Nat} (hm : mlook x M = false) : s.find (x % 5) x = none := by
  cases hq : s.find (x % 5) x with
  | none => rfl
  | some k =>
    obtain ⟨h1, _, h3⟩ := find_ful hq
    have := (h.own k (by have := find_lt h.ok hq; rw [h.n32] at this; exact this) h1).2.2
    rw [h3, hm] at this
    cases this
/-- Of a full table each flag counts. -/
theorem Fi.full (h : Fi s M) {x : Nat} (hf : s.free x = none) : trues M = 32 := by
  rw [h.cnt]
  unfold entries
  have key : ∀ m, m ≤ 32 → cntI s.ful m = m := by
    intro m
    induction m with
    | zero => exact fun _ => rfl
    | succ m ih =>
      intro hm
      have hfm : s.ful m = true := by
        obtain ⟨i, hi, e⟩ := st_onto h.ok x (k := m) (by rw [h.n32]; omega)
        have := fstI_none.1 hf i hi
        rw [e] at this
        simpa using this
      show cntI s.ful m + (if s.ful m then 1 else 0) = m + 1
      rw [ih (by omega), hfm]
      rfl
  rw [h.n32]
  exact key 32 (Nat.le_refl _)
theorem st_put (h x k j i : Nat) : (s.put k h x).st j i = s.st j i := rfl
theorem st_gone (k j i : Nat) : (s.gone k).st j i = s.st j i := rfl
/-- An entry that is not there is put. -/
theorem Fi.put_new (h : Fi s M) {x i : Nat} (hx : x < 256) (hm : mlook x M = false) (hf : s.free (x % 5) = some i) : Fi (s.put (s.st (x % 5) i) (x % 5) x) (mput x true M) := by
  obtain ⟨hi, hnf, hbf⟩ := fstI_some.1 hf
  have hnf : s.ful (s.st (x % 5) i) = false := by simpa using hnf
  have hbf : ∀ j, j < i → s.ful (s.st (x % 5) j) = true := fun j hj => by simpa using hbf j hj
  have hk : s.st (x % 5) i < 32 := by rw [← h.n32]; exact st_lt h.ok _ _
  have hne : ∀ k, s.ful k = true → k ≠ s.st (x % 5) i := fun k hk e => by rw [e, hnf] at hk; cases hk
  generalize hK : s.st (x % 5) i = K at *
  have fu : ∀ k, (s.put K (x % 5) x).ful k = true → k = K ∨ (k ≠ K ∧ s.ful k = true) := fun k hk' => by
    by_cases e : k = K
    · exact .inl e
    · refine .inr ⟨e, ?_⟩
      have hk' : updB s.ful K true k = true := hk'
      rwa [updB_ne e] at hk'
  have ew0 : (s.put K (x % 5) x).ew K = x := updN_at ..
  have eh0 : (s.put K (x % 5) x).eh K = x % 5 := updN_at ..
  have ew1 : ∀ k, k ≠ K → (s.put K (x % 5) x).ew k = s.ew k := fun k e => updN_ne e
  have eh1 : ∀ k, k ≠ K → (s.put K (x % 5) x).eh k = s.eh k := fun k e => updN_ne e
  have live : ∀ k, s.ful k = true ∨ s.mrk k = true → (s.put K (x % 5) x).ful k = true ∨ (s.put K (x % 5) x).mrk k = true := fun k hk' => by
    by_cases e : k = K
    · subst e
      exact .inl (updB_at ..)
    · show updB s.ful K true k = true ∨ updB s.mrk K false k = true
      rw [updB_ne e, updB_ne e]
      exact hk'
  have xnot : ∀ k, k < 32 → s.ful k = true → s.ew k ≠ x := fun k hk' hf' e => by
    have := (h.own k hk' hf').2.2
    rw [e, hm] at this
    cases this
  refine ⟨h.n32, ok_put h.ok K (Nat.lt_of_le_of_lt (Nat.mod_le x 5) (by omega)) (by omega), fun k hk' hf' => ?_, fun k j hk' hj hfk hfj e => ?_, fun y hy => ?_, fun k hk' hf' => ?_, ?_⟩
  · rcases fu k hf' with rfl | ⟨e, hfk⟩
    · rw [ew0, eh0]
      exact ⟨hx, rfl, by rw [mlook_put, if_pos rfl]⟩
    · rw [ew1 k e, eh1 k e]
      have := h.own k hk' hfk
      exact ⟨this.1, this.2.1, by rw [mlook_put, if_neg (xnot k hk' hfk)]; exact this.2.2⟩
  · rcases fu k hfk with rfl | ⟨e1, q1⟩
    · rcases fu j hfj with rfl | ⟨e2, q2⟩
      · rfl
      · rw [ew0, ew1 j e2] at e
        exact absurd e.symm (xnot j hj q2)
    · rcases fu j hfj with rfl | ⟨e2, q2⟩
      · rw [ew0, ew1 k e1] at e
        exact absurd e (xnot k hk' q1)
      · rw [ew1 k e1, ew1 j e2] at e
        exact h.one k j hk' hj q1 q2 e
  · rw [mlook_put] at hy
    by_cases e : y = x
    · exact ⟨K, hk, updB_at .., by rw [ew0, e]⟩
    · rw [if_neg e] at hy
      obtain ⟨k, hk', hf', he⟩ := h.has y hy
      exact ⟨k, hk', by show updB s.ful K true k = true; rw [updB_ne (hne k hf')]; exact hf', by rw [ew1 k (hne k hf')]; exact he⟩
  · intro a ha e j hj
    rcases fu k hf' with rfl | ⟨e1, q1⟩
    · rw [eh0] at e ⊢
      rw [st_put] at e ⊢
      have : a = i := st_inj h.ok ha hi (e.trans hK.symm)
      exact live _ (.inl (hbf j (by omega)))
    · rw [eh1 k e1] at e ⊢
      rw [st_put] at e ⊢
      exact live _ (h.rch k hk' q1 a ha e j hj)
  · have h1 := trues_put x true M
    rw [hm] at h1
    have h2 := cntI_upd s.ful K true (m := 32) hk
    rw [hnf] at h2
    have h3 := h.cnt
    unfold entries at h3 ⊢
    show trues (mput x true M) = cntI (updB s.ful K true) s.n
    rw [h.n32] at h3 ⊢
    simp only [if_true] at h1 h2
    have h1 : trues (mput x true M) + 0 = trues M + 1 := h1
    have h2 : cntI (updB s.ful K true) 32 + 0 = cntI s.ful 32 + 1 := h2
    omega
theorem gone_live {K : Nat} : ∀ k, s.ful k = true ∨ s.mrk k = true → (s.gone K).ful k = true ∨ (s.gone K).mrk k = true := fun k hk => by
  by_cases e : k = K
  · subst e
    exact .inr (updB_at ..)
  · show updB s.ful K false k = true ∨ updB s.mrk K true k = true
    rw [updB_ne e, updB_ne e]
    exact hk
theorem gone_ful {K : Nat} : ∀ k, (s.gone K).ful k = true → k ≠ K ∧ s.ful k = true := fun k hk => by
  have hk : updB s.ful K false k = true := hk
  by_cases e : k = K
  · rw [e, updB_at] at hk
    cases hk
  · rw [updB_ne e] at hk
    exact ⟨e, hk⟩
theorem gone_eh {K k : Nat} (e : k ≠ K) : (s.gone K).eh k = s.eh k := updN_ne e
theorem gone_ew {K k : Nat} (e : k ≠ K) : (s.gone K).ew k = s.ew k := updN_ne e
theorem gone_rch {K k : Nat} (e : k ≠ K) (h : s.Rch k) : (s.gone K).Rch k := fun i hi hq j hj => by
  rw [gone_eh e] at hq ⊢
  exact gone_live _ (h i hi hq j hj)
/-- One that is there is dropped. -/
theorem Fi.drop (h : Fi s M) {x k : Nat} (hm : mlook x M = true) (hk : k < 32) (hf : s.ful k = true) (hx : s.ew k = x) : Fi (s.gone k) (mput x false M) := by
  refine ⟨h.n32, ok_gone h.ok k, fun j hj hfj => ?_, fun j i hj hi hfj hfi e => ?_, fun y hy => ?_, fun j hj hfj => ?_, ?_⟩
  · obtain ⟨e, q⟩ := gone_ful j hfj
    rw [gone_ew e, gone_eh e]
    have := h.own j hj q
    refine ⟨this.1, this.2.1, ?_⟩
    rw [mlook_put, if_neg (fun e' => e (h.one j k hj hk q hf (by rw [e', hx])))]
    exact this.2.2
  · obtain ⟨e1, q1⟩ := gone_ful j hfj
    obtain ⟨e2, q2⟩ := gone_ful i hfi
    rw [gone_ew e1, gone_ew e2] at e
    exact h.one j i hj hi q1 q2 e
  · rw [mlook_put] at hy
    by_cases e : y = x
    · rw [if_pos e] at hy
      cases hy
    · rw [if_neg e] at hy
      obtain ⟨j, hj, hfj, he⟩ := h.has y hy
      have hjk : j ≠ k := fun q => e (by rw [← he, q, hx])
      exact ⟨j, hj, by show updB s.ful k false j = true; rw [updB_ne hjk]; exact hfj, by rw [gone_ew hjk]; exact he⟩
  · obtain ⟨e, q⟩ := gone_ful j hfj
    exact gone_rch e (h.rch j hj q)
  · have h1 := trues_put x false M
    rw [hm] at h1
    have h2 := cntI_upd s.ful k false (m := 32) hk
    rw [hf] at h2
    have h3 := h.cnt
    unfold entries at h3 ⊢
    show trues (mput x false M) = cntI (updB s.ful k false) s.n
    rw [h.n32] at h3 ⊢
    have h1 : trues (mput x false M) + 1 = trues M + 0 := h1
    have h2 : cntI (updB s.ful k false) 32 + 1 = cntI s.ful 32 + 0 := h2
    omega
/-- One that is there is put once more, and both are dropped. -/
theorem Fi.twice (h : Fi s M) {x k i : Nat} (hx : x < 256) (hm : mlook x M = true) (hk : k < 32) (hf : s.ful k = true) (hw : s.ew k = x) (hfr : s.free (x % 5) = some i) :
    s.st (x % 5) i < 32 ∧ s.st (x % 5) i ≠ k ∧ ((s.put (s.st (x % 5) i) (x % 5) x).gone k).find (x % 5) x = some (s.st (x % 5) i) ∧ ((s.put (s.st (x % 5) i) (x % 5) x).gone k).ful (s.st (x % 5) i) = true ∧ Fi (((s.put (s.st (x % 5) i) (x % 5) x).gone k).gone (s.st (x % 5) i)) (mput x false M) := by
  obtain ⟨hi, hnf, hbf⟩ := fstI_some.1 hfr
  have hnf : s.ful (s.st (x % 5) i) = false := by simpa using hnf
  have hbf : ∀ j, j < i → s.ful (s.st (x % 5) j) = true := fun j hj => by simpa using hbf j hj
  have hK : s.st (x % 5) i < 32 := by rw [← h.n32]; exact st_lt h.ok _ _
  have hKk : s.st (x % 5) i ≠ k := fun e => by rw [e, hf] at hnf; cases hnf
  generalize hKe : s.st (x % 5) i = K at *
  have hkK := hKk.symm
  have f1 : ((s.put K (x % 5) x).gone k).ful K = true := by
    show updB (updB s.ful K true) k false K = true
    rw [updB_ne hKk, updB_at]
  have w1 : ((s.put K (x % 5) x).gone k).ew K = x := by
    show updN (updN s.ew K x) k 0 K = x
    rw [updN_ne hKk, updN_at]
  have e1 : ((s.put K (x % 5) x).gone k).eh K = x % 5 := by
    show updN (updN s.eh K (x % 5)) k 0 K = x % 5
    rw [updN_ne hKk, updN_at]
  have ok1 : (s.put K (x % 5) x).Ok := ok_put h.ok K (Nat.lt_of_le_of_lt (Nat.mod_le x 5) (by omega)) (by omega)
  have live : ∀ j, s.ful j = true ∨ s.mrk j = true → (s.put K (x % 5) x).ful j = true ∨ (s.put K (x % 5) x).mrk j = true := fun j hj => by
    by_cases e : j = K
    · subst e
      exact .inl (updB_at ..)
    · show updB s.ful K true j = true ∨ updB s.mrk K false j = true
      rw [updB_ne e, updB_ne e]
      exact hj
  have ful2 : ∀ j, ((s.put K (x % 5) x).gone k).ful j = true → j = K ∨ (j ≠ K ∧ j ≠ k ∧ s.ful j = true) := fun j hj => by
    obtain ⟨a, b⟩ := gone_ful j hj
    by_cases e : j = K
    · exact .inl e
    · have b : updB s.ful K true j = true := b
      rw [updB_ne e] at b
      exact .inr ⟨e, a, b⟩
  have r1 : ((s.put K (x % 5) x).gone k).Rch K := by
    intro a ha e j hj
    rw [e1] at e ⊢
    have hai : a = i := st_inj h.ok ha hi (e.trans hKe.symm)
    exact gone_live _ (live _ (.inl (hbf j (by omega))))
  refine ⟨hK, hKk, find_one (ok_gone ok1 k) (by show K < s.n; rw [h.n32]; exact hK) f1 e1 w1 r1 fun j hj hfj hej => ?_, f1, ?_⟩
  · rcases ful2 j hfj with q | ⟨a, b, c⟩
    · exact q
    · exfalso
      have hj : j < 32 := by have : j < s.n := hj; rw [h.n32] at this; exact this
      have : ((s.put K (x % 5) x).gone k).ew j = s.ew j := by
        show updN (updN s.ew K x) k 0 j = _
        rw [updN_ne b, updN_ne a]
      rw [this] at hej
      exact b (h.one j k hj hk c hf (by rw [hej, hw]))
  · have ful3 : ∀ j, (((s.put K (x % 5) x).gone k).gone K).ful j = true → j ≠ K ∧ j ≠ k ∧ s.ful j = true := fun j hj => by
      obtain ⟨a, b⟩ := gone_ful j hj
      rcases ful2 j b with q | q
      · exact absurd q a
      · exact q
    have ew3 : ∀ j, j ≠ K → j ≠ k → (((s.put K (x % 5) x).gone k).gone K).ew j = s.ew j := fun j a b => by
      show updN (updN (updN s.ew K x) k 0) K 0 j = _
      rw [updN_ne a, updN_ne b, updN_ne a]
    have eh3 : ∀ j, j ≠ K → j ≠ k → (((s.put K (x % 5) x).gone k).gone K).eh j = s.eh j := fun j a b => by
      show updN (updN (updN s.eh K (x % 5)) k 0) K 0 j = _
      rw [updN_ne a, updN_ne b, updN_ne a]
    refine ⟨h.n32, ok_gone (ok_gone ok1 k) K, fun j hj hfj => ?_, fun j l hj hl hfj hfl e => ?_, fun y hy => ?_, fun j hj hfj => ?_, ?_⟩
    · obtain ⟨a, b, c⟩ := ful3 j hfj
      rw [ew3 j a b, eh3 j a b]
      have := h.own j hj c
      refine ⟨this.1, this.2.1, ?_⟩
      rw [mlook_put, if_neg (fun e' => b (h.one j k hj hk c hf (by rw [e', hw])))]
      exact this.2.2
    · obtain ⟨a, b, c⟩ := ful3 j hfj
      obtain ⟨a', b', c'⟩ := ful3 l hfl
      rw [ew3 j a b, ew3 l a' b'] at e
      exact h.one j l hj hl c c' e
    · rw [mlook_put] at hy
      by_cases e : y = x
      · rw [if_pos e] at hy
        cases hy
      · rw [if_neg e] at hy
        obtain ⟨j, hj, hfj, he⟩ := h.has y hy
        have hjk : j ≠ k := fun q => e (by rw [← he, q, hw])
        have hjK : j ≠ K := fun q => by rw [q, hnf] at hfj; cases hfj
        refine ⟨j, hj, ?_, by rw [ew3 j hjK hjk]; exact he⟩
        show updB (updB (updB s.ful K true) k false) K false j = true
        rw [updB_ne hjK, updB_ne hjk, updB_ne hjK]
        exact hfj
    · obtain ⟨a, b, c⟩ := ful3 j hfj
      intro l hl e q hq
      rw [eh3 j a b] at e ⊢
      exact gone_live _ (gone_live _ (live _ (h.rch j hj c l hl e q hq)))
    · have h1 := trues_put x false M
      rw [hm] at h1
      have h2 := cntI_upd s.ful K true (m := 32) hK
      rw [hnf] at h2
      have h4 := cntI_upd (updB s.ful K true) k false (m := 32) hk
      rw [updB_ne hkK, hf] at h4
      have h5 := cntI_upd (updB (updB s.ful K true) k false) K false (m := 32) hK
      rw [updB_ne hKk, updB_at] at h5
      have h3 := h.cnt
      unfold entries at h3 ⊢
      show trues (mput x false M) = cntI (updB (updB (updB s.ful K true) k false) K false) s.n
      rw [h.n32] at h3 ⊢
      have h1 : trues (mput x false M) + 1 = trues M + 0 := h1
      have h2 : cntI (updB s.ful K true) 32 + 0 = cntI s.ful 32 + 1 := h2
      have h4 : cntI (updB (updB s.ful K true) k false) 32 + 1 = cntI (updB s.ful K true) 32 + 0 := h4
      have h5 : cntI (updB (updB (updB s.ful K true) k false) K false) 32 + 1 = cntI (updB (updB s.ful K true) k false) 32 + 0 := h5
      omega
/-- What is asked about: of the hash alone, none twice. -/
theorem wayU_nodup (hs : s.Ok) (h : Nat) : ∀ {m : Nat}, m ≤ s.n → (s.wayU h m).Nodup
  | 0, _ => List.nodup_nil
  | m + 1, hm => by
    unfold wayU
    refine List.nodup_append.2 ⟨wayU_nodup hs h (by omega), ?_, fun a ha b hb => ?_⟩
    · split
      · exact List.nodup_cons.2 ⟨by simp, List.nodup_nil⟩
      · exact List.nodup_nil
    · split at hb
      · rw [List.mem_singleton] at hb
        subst hb
        obtain ⟨i, hi, _, e⟩ := wayU_mem.1 ha
        intro q
        have := st_inj hs (by omega) (by omega) (e.trans q)
        omega
      · cases hb
theorem Fi.asks (h : Fi s M) (y : Nat) : ((s.way (y % 5)).map s.ew).Nodup ∧ ∀ w, w ∈ (s.way (y % 5)).map s.ew → w < 256 ∧ w % 5 = y % 5 := by
  constructor
  · have hn := wayU_nodup h.ok (y % 5) (lim_le s (y % 5))
    refine List.pairwise_map.2 (hn.imp_of_mem ?_)
    intro a b ha hb hne he
    obtain ⟨i, hi, ho, ea⟩ := wayU_mem.1 ha
    obtain ⟨j, hj, ho', eb⟩ := wayU_mem.1 hb
    unfold on at ho ho'
    rw [ea, Bool.and_eq_true] at ho
    rw [eb, Bool.and_eq_true] at ho'
    have h1 : a < 32 := by rw [← h.n32]; exact wayU_lt h.ok _ ha
    have h2 : b < 32 := by rw [← h.n32]; exact wayU_lt h.ok _ hb
    exact hne (h.one a b h1 h2 ho.1 ho'.1 he)
  · intro w hw
    obtain ⟨a, ha, rfl⟩ := List.mem_map.1 hw
    obtain ⟨i, hi, ho, ea⟩ := wayU_mem.1 ha
    unfold on at ho
    rw [ea, Bool.and_eq_true, beq_iff_eq] at ho
    have h1 : a < 32 := by rw [← h.n32]; exact wayU_lt h.ok _ ha
    have := h.own a h1 ho.1
    exact ⟨this.1, by rw [← this.2.1, ho.2]⟩
end Tb
end Go.Proofs.Ythjghofjdcepmaa
/- Stage 14: a table that holds just the numbers of a set, each under a hash of it; a growing one; in pure words. -/
namespace Go.Proofs.Ythjghofjdcepmaa
set_option maxRecDepth 100000
namespace Tb
/-- It holds just the numbers of A, once each, x under the hash f x. -/
structure Sd (f : Nat → Nat) (s : Tb) (A : Nat → Bool) : Prop where
  ok : s.Ok
  own : ∀ k, k < s.n → s.ful k = true → s.ew k < 256 ∧ s.eh k = f (s.ew k) ∧ A (s.ew k) = true
  one : ∀ k j, k < s.n → j < s.n → s.ful k = true → s.ful j = true → s.ew k = s.ew j → k = j
  has : ∀ x, A x = true → ∃ k, k < s.n ∧ s.ful k = true ∧ s.ew k = x
  rch : ∀ k, k < s.n → s.ful k = true → s.Rch k
section
variable {f : Nat → Nat} {s : Tb} {A : Nat → Bool}
theorem sd_new {n : Nat} (h : 0 < n) (h' : n ≤ 262144) : Sd f (new n) (fun _ => false) := ⟨ok_new h h', fun _ _ h => (by cases h), fun _ _ _ _ h => (by cases h), fun _ h => (by cases h), fun _ _ h => (by cases h)⟩
theorem Sd.small (h : Sd f s A) {x : Nat} (hx : A x = true) : x < 256 := by
  obtain ⟨k, hk, hf, e⟩ := h.has x hx
  rw [← e]
  exact (h.own k hk hf).1
theorem Sd.find_yes (h : Sd f s A) {x : Nat} (hm : A x = true) : ∃ k, s.find (f x) x = some k ∧ k < s.n ∧ s.ful k = true ∧ s.ew k = x ∧ s.eh k = f x := by
  obtain ⟨k, hk, hf, hx⟩ := h.has x hm
  have ho := h.own k hk hf
  exact ⟨k, find_one h.ok hk hf (by rw [ho.2.1, hx]) hx (h.rch k hk hf) fun j hj hf' he => h.one j k hj hk hf' hf (by rw [he, hx]), hk, hf, hx, by rw [ho.2.1, hx]⟩
theorem Sd.find_no (h : Sd f s A) {x g : Nat} (hm : A x = false) : s.find g x = none := by
  cases hq : s.find g x with
  | none => rfl
  | some k =>
    obtain ⟨h1, _, h3⟩ := find_ful hq
    have := (h.own k (find_lt h.ok hq) h1).2.2
    rw [h3, hm] at this
    cases this
/-- Of a table that has less entries than places, one is free. -/
theorem free_room (h : s.Ok) (g : Nat) (hc : s.entries < s.n) : ∃ i, s.free g = some i := by
  cases hf : s.free g with
  | some i => exact ⟨i, rfl⟩
  | none =>
    exfalso
    have key : ∀ m, m ≤ s.n → cntI s.ful m = m := by
      intro m
      induction m with
      | zero => exact fun _ => rfl
      | succ m ih =>
        intro hm
        have hfm : s.ful m = true := by
          obtain ⟨i, hi, e⟩ := st_onto h g (k := m) (by omega)
          have := fstI_none.1 hf i hi
          rw [e] at this
          simpa using this
        show cntI s.ful m + (if s.ful m then 1 else 0) = m + 1
        rw [ih (by omega), hfm]
        rfl
    have := key s.n (Nat.le_refl _)
    unfold entries at hc
    omega
/-- A number that is not there is put. -/
theorem Sd.put_new (h : Sd f s A) {x i : Nat} (hx : x < 256) (hfx : f x < 18446744073709551616) (hm : A x = false) (hf : s.free (f x) = some i) :
    Sd f (s.put (s.st (f x) i) (f x) x) (updB A x true) ∧ (s.put (s.st (f x) i) (f x) x).entries = s.entries + 1 ∧ (s.put (s.st (f x) i) (f x) x).marks ≤ s.marks := by
  obtain ⟨hi, hnf, hbf⟩ := fstI_some.1 hf
  have hnf : s.ful (s.st (f x) i) = false := by simpa using hnf
  have hbf : ∀ j, j < i → s.ful (s.st (f x) j) = true := fun j hj => by simpa using hbf j hj
  have hk : s.st (f x) i < s.n := st_lt h.ok _ _
  have hne : ∀ k, s.ful k = true → k ≠ s.st (f x) i := fun k hk e => by rw [e, hnf] at hk; cases hk
  generalize hK : s.st (f x) i = K at *
  have fu : ∀ k, (s.put K (f x) x).ful k = true → k = K ∨ (k ≠ K ∧ s.ful k = true) := fun k hk' => by
    by_cases e : k = K
    · exact .inl e
    · refine .inr ⟨e, ?_⟩
      have hk' : updB s.ful K true k = true := hk'
      rwa [updB_ne e] at hk'
  have ew0 : (s.put K (f x) x).ew K = x := updN_at ..
  have eh0 : (s.put K (f x) x).eh K = f x := updN_at ..
  have ew1 : ∀ k, k ≠ K → (s.put K (f x) x).ew k = s.ew k := fun k e => updN_ne e
  have eh1 : ∀ k, k ≠ K → (s.put K (f x) x).eh k = s.eh k := fun k e => updN_ne e
  have live : ∀ k, s.ful k = true ∨ s.mrk k = true → (s.put K (f x) x).ful k = true ∨ (s.put K (f x) x).mrk k = true := fun k hk' => by
    by_cases e : k = K
    · subst e
      exact .inl (updB_at ..)
    · show updB s.ful K true k = true ∨ updB s.mrk K false k = true
      rw [updB_ne e, updB_ne e]
      exact hk'
  have xnot : ∀ k, k < s.n → s.ful k = true → s.ew k ≠ x := fun k hk' hf' e => by
    have := (h.own k hk' hf').2.2
    rw [e, hm] at this
    cases this
  refine ⟨⟨ok_put h.ok K hfx (by omega), fun k hk' hf' => ?_, fun k j hk' hj hfk hfj e => ?_, fun y hy => ?_, fun k hk' hf' => ?_⟩, ?_, ?_⟩
  · rcases fu k hf' with rfl | ⟨e, hfk⟩
    · rw [ew0, eh0]
      exact ⟨hx, rfl, updB_at ..⟩
    · rw [ew1 k e, eh1 k e]
      have := h.own k hk' hfk
      exact ⟨this.1, this.2.1, by rw [updB_ne (xnot k hk' hfk)]; exact this.2.2⟩
  · rcases fu k hfk with rfl | ⟨e1, q1⟩
    · rcases fu j hfj with rfl | ⟨e2, q2⟩
      · rfl
      · rw [ew0, ew1 j e2] at e
        exact absurd e.symm (xnot j hj q2)
    · rcases fu j hfj with rfl | ⟨e2, q2⟩
      · rw [ew0, ew1 k e1] at e
        exact absurd e (xnot k hk' q1)
      · rw [ew1 k e1, ew1 j e2] at e
        exact h.one k j hk' hj q1 q2 e
  · by_cases e : y = x
    · exact ⟨K, hk, updB_at .., by rw [ew0, e]⟩
    · rw [updB_ne e] at hy
      obtain ⟨k, hk', hf', he⟩ := h.has y hy
      exact ⟨k, hk', by show updB s.ful K true k = true; rw [updB_ne (hne k hf')]; exact hf', by rw [ew1 k (hne k hf')]; exact he⟩
  · intro a ha e j hj
    rcases fu k hf' with rfl | ⟨e1, q1⟩
    · rw [eh0] at e ⊢
      rw [st_put] at e ⊢
      have : a = i := st_inj h.ok ha hi (e.trans hK.symm)
      exact live _ (.inl (hbf j (by omega)))
    · rw [eh1 k e1] at e ⊢
      rw [st_put] at e ⊢
      exact live _ (h.rch k hk' q1 a ha e j hj)
  · have h2 := cntI_upd s.ful K true (m := s.n) hk
    rw [hnf] at h2
    have h2 : cntI (updB s.ful K true) s.n + 0 = cntI s.ful s.n + 1 := h2
    show cntI (updB s.ful K true) s.n = cntI s.ful s.n + 1
    omega
  · have h2 := cntI_upd s.mrk K false (m := s.n) hk
    have h2 : cntI (updB s.mrk K false) s.n + _ = cntI s.mrk s.n + 0 := h2
    show cntI (updB s.mrk K false) s.n ≤ cntI s.mrk s.n
    omega
/-- One that is there is dropped. -/
theorem Sd.drop (h : Sd f s A) {x k : Nat} (hk : k < s.n) (hf : s.ful k = true) (hx : s.ew k = x) :
    Sd f (s.gone k) (updB A x false) ∧ (s.gone k).entries + 1 = s.entries ∧ (s.gone k).marks = s.marks + 1 := by
  have hnm : s.mrk k = false := by
    cases hm : s.mrk k with
    | false => rfl
    | true =>
      have := h.ok.one k hm
      rw [hf] at this
      cases this
  refine ⟨⟨ok_gone h.ok k, fun j hj hfj => ?_, fun j i hj hi hfj hfi e => ?_, fun y hy => ?_, fun j hj hfj => ?_⟩, ?_, ?_⟩
  · obtain ⟨e, q⟩ := gone_ful j hfj
    rw [gone_ew e, gone_eh e]
    have := h.own j hj q
    refine ⟨this.1, this.2.1, ?_⟩
    rw [updB_ne (fun e' => e (h.one j k hj hk q hf (by rw [e', hx])))]
    exact this.2.2
  · obtain ⟨e1, q1⟩ := gone_ful j hfj
    obtain ⟨e2, q2⟩ := gone_ful i hfi
    rw [gone_ew e1, gone_ew e2] at e
    exact h.one j i hj hi q1 q2 e
  · by_cases e : y = x
    · rw [e, updB_at] at hy
      cases hy
    · rw [updB_ne e] at hy
      obtain ⟨j, hj, hfj, he⟩ := h.has y hy
      have hjk : j ≠ k := fun q => e (by rw [← he, q, hx])
      exact ⟨j, hj, by show updB s.ful k false j = true; rw [updB_ne hjk]; exact hfj, by rw [gone_ew hjk]; exact he⟩
  · obtain ⟨e, q⟩ := gone_ful j hfj
    exact gone_rch e (h.rch j hj q)
  · have h2 := cntI_upd s.ful k false (m := s.n) hk
    rw [hf] at h2
    have h2 : cntI (updB s.ful k false) s.n + 1 = cntI s.ful s.n + 0 := h2
    show cntI (updB s.ful k false) s.n + 1 = cntI s.ful s.n
    omega
  · have h2 := cntI_upd s.mrk k true (m := s.n) hk
    rw [hnm] at h2
    have h2 : cntI (updB s.mrk k true) s.n + 0 = cntI s.mrk s.n + 1 := h2
    show cntI (updB s.mrk k true) s.n = cntI s.mrk s.n + 1
    omega
theorem Sd.same (h : Sd f s A) {B : Nat → Bool} (e : ∀ x, A x = B x) : Sd f s B := ⟨h.ok, fun k hk hf => by rw [← e]; exact h.own k hk hf, h.one, fun x hx => h.has x (by rw [e]; exact hx), h.rch⟩
theorem isF_nat {k : Nat} (hk : k < s.n) : s.isF (k : Int) = s.ful k := by
  unfold isF
  rw [decide_eq_true (show (0 : Int) ≤ (k : Int) by omega), decide_eq_true (show (k : Int) < (s.n : Int) by omega), Int.toNat_natCast]
  rfl
theorem dr_nat {k : Nat} (hk : k < s.n) (hf : s.ful k = true) : s.dr (k : Int) = s.gone k ∧ s.drE (k : Int) = 0 := by
  refine ⟨?_, ?_⟩
  · unfold dr
    rw [isF_nat hk, hf, Int.toNat_natCast]
    rfl
  · unfold drE
    rw [decide_eq_true (show (0 : Int) ≤ (k : Int) by omega), decide_eq_true (show (k : Int) < (s.n : Int) by omega), Int.toNat_natCast, hf]
    rfl
theorem pt_some {h x i : Nat} (hf : s.free h = some i) : s.pt h x = s.put (s.st h i) h x ∧ s.ptE h = 0 := by
  refine ⟨?_, ?_⟩
  · unfold pt
    rw [hf]
  · unfold ptE
    rw [hf]
end
end Tb
end Go.Proofs.Ythjghofjdcepmaa
/- Stage 14: what ResizeKeeps keeps, in pure words. -/
namespace Go.Proofs.Ythjghofjdcepmaa
set_option maxRecDepth 100000
theorem szF_get : ∀ f {n m : Nat}, m ≤ n * 2 ^ f → m ≤ szF f n m
  | 0, n, m, h => by
    unfold szF
    omega
  | f + 1, n, m, h => by
    unfold szF
    split
    · exact szF_get f (by rw [Nat.pow_succ, ← Nat.mul_assoc] at h; rw [Nat.mul_comm 2 n, Nat.mul_assoc, Nat.mul_comm 2 (2 ^ f), ← Nat.mul_assoc]; exact h)
    · omega
theorem szN_get {m : Nat} (h : m ≤ 1048576) : m ≤ szN m := szF_get 20 (by omega)
namespace Gr
open Tb
/-- Just the numbers of M that are true, x under the hash f x, are in a growing table of most 128 that has room. -/
structure Ki (f : Nat → Nat) (s : Gr) (M : List (Nat × Bool)) (A B : Nat → Bool) : Prop where
  ok : s.Ok
  most : s.most = 128
  now : Sd f s.now A
  next : s.mv = true → Sd f s.next B
  off : s.mv = false → ∀ x, B x = false
  dis : ∀ x, A x = true → B x = false
  look : ∀ x, mlook x M = (A x || B x)
  cnt : trues M = s.entries
  top : s.now.n ≤ 128
  topx : s.mv = true → s.next.n ≤ 128
  room : s.mv = false → s.now.entries + s.now.marks ≤ s.now.n / 4 * 3
  roomx : s.mv = true → s.next.entries + s.next.marks + s.now.entries ≤ s.next.n / 4 * 3
  gone : s.mv = true → ∀ k, k < s.at_ → s.now.ful k = false
section
variable {f : Nat → Nat} {s : Gr} {M : List (Nat × Bool)} {A B : Nat → Bool}
theorem cntI_none (n : Nat) : cntI (fun _ => false) n = 0 := cntI_zero fun _ _ => rfl
theorem ki_new : Ki f (new 128) [] (fun _ => false) (fun _ => false) := by
  refine ⟨ok_new (by decide) (by decide), rfl, sd_new (by decide) (by decide), fun e => (by cases e), fun _ _ => rfl, fun _ h => (by cases h), fun _ => rfl, by decide, by decide, fun e => (by cases e), fun _ => by decide, fun e => (by cases e), fun e => (by cases e)⟩
theorem Ki.has_ (h : Ki f s M A B) (x : Nat) : s.has (f x) x = mlook x M := by
  rw [h.look]
  unfold has
  cases ha : A x with
  | true =>
    obtain ⟨k, e, _⟩ := h.now.find_yes ha
    rw [e]
    rfl
  | false =>
    rw [h.now.find_no ha]
    cases hm : s.mv with
    | false =>
      rw [h.off hm x]
      rfl
    | true =>
      cases hb : B x with
      | true =>
        obtain ⟨k, e, _⟩ := (h.next hm).find_yes hb
        rw [e]
        rfl
      | false =>
        rw [(h.next hm).find_no hb]
        rfl
theorem Ki.begun_ (h : Ki f s M A B) : Ki f s.begun M A B := by
  unfold begun
  split
  · rename_i hb
    have hmv : s.mv = false := by
      unfold begs at hb
      cases e : s.mv with
      | false => rfl
      | true => rw [e] at hb; cases hb
    have hso := size_ok h.ok
    have he : s.now.entries ≤ s.size / 4 * 3 := by
      have h1 := h.room hmv
      have h2 := h.top
      have h3 := szN_get (m := 4 * s.now.entries) (by omega)
      unfold size
      rw [h.most]
      split <;> omega
    have hs128 : s.size ≤ 128 := by
      unfold size
      rw [h.most]
      split <;> omega
    have e1 : (Tb.new s.size).entries = 0 := cntI_none _
    have e2 : (Tb.new s.size).marks = 0 := cntI_none _
    have hB := h.off hmv
    refine ⟨⟨h.ok.now, fun _ => Tb.ok_new (by omega) hso.2, h.ok.low, h.ok.top, fun _ => h.ok.now.pos⟩, h.most, h.now, fun _ => (sd_new (by omega) hso.2).same fun x => (hB x).symm, fun e => (by cases e), h.dis, h.look, ?_, h.top, fun _ => hs128, fun e => (by cases e), fun _ => ?_, fun _ k hk => absurd hk (Nat.not_lt_zero _)⟩
    · rw [h.cnt]
      unfold entries
      rw [hmv]
      show s.now.entries + 0 = s.now.entries + (Tb.new s.size).entries
      rw [e1]
    · show (Tb.new s.size).entries + (Tb.new s.size).marks + s.now.entries ≤ s.size / 4 * 3
      rw [e1, e2]
      omega
  · exact h
theorem begun_at : s.begun.now = s.now ∧ (s.begun.mv = false → s.begun = s) ∧ (s.mv = true → s.begun = s) ∧ (s.mv = false → s.begun.mv = true → s.begun.at_ = 0) := by
  unfold begun
  split
  · rename_i hb
    have hmv : s.mv = false := by
      unfold begs at hb
      cases e : s.mv with
      | false => rfl
      | true => rw [e] at hb; cases hb
    exact ⟨rfl, fun e => (by cases e), fun e => (by rw [hmv] at e; cases e), fun _ _ => rfl⟩
  · exact ⟨rfl, fun _ => rfl, fun _ => rfl, fun h h' => (by rw [h] at h'; cases h')⟩
/-- A number that is not there is put, if it has room. -/
theorem Ki.laid_ (h : Ki f s M A B) {x : Nat} (hx : x < 256) (hfx : f x < 18446744073709551616) (hm : mlook x M = false) (hf : s.full = false) :
    s.tgt.ptE (f x) = 0 ∧ ∃ A' B', Ki f (s.laid (f x) x) (mput x true M) A' B' := by
  have hAB := h.look x
  rw [hm] at hAB
  have hA : A x = false := by cases e : A x with | false => rfl | true => rw [e] at hAB; cases hAB
  have hB : B x = false := by cases e : B x with | false => rfl | true => rw [e, hA] at hAB; cases hAB
  have hfull : ¬ s.tgt.n / 4 * 3 < s.tgt.entries + s.tgt.marks + s.more + 1 := by
    unfold full at hf
    simpa using hf
  have htr : trues (mput x true M) = trues M + 1 := by
    have h1 := trues_put x true M
    rw [hm] at h1
    have h1 : trues (mput x true M) + 0 = trues M + 1 := h1
    omega
  have hlk : ∀ y, mlook y (mput x true M) = if y = x then true else (A y || B y) := fun y => by rw [mlook_put, h.look]
  cases hmv : s.mv with
  | true =>
    have e1 : s.tgt = s.next := by unfold tgt; rw [hmv]; rfl
    have e2 : s.more = s.now.entries := by unfold more; rw [hmv]; rfl
    rw [e1, e2] at hfull
    obtain ⟨i, hi⟩ := free_room (h.next hmv).ok (f x) (by have := (h.next hmv).ok.pos; omega)
    obtain ⟨p1, p2, p3⟩ := (h.next hmv).put_new hx hfx hB hi
    obtain ⟨q1, q2⟩ := pt_some (x := x) hi
    rw [e1]
    refine ⟨q2, A, updB B x true, ?_⟩
    have el : s.laid (f x) x = ⟨s.now, s.next.pt (f x) x, true, s.most, s.at_⟩ := by unfold laid; rw [hmv]; rfl
    have hok := ok_laid h.ok (h := f x) (x := x) hfx (by omega)
    rw [el, q1] at hok ⊢
    refine ⟨hok, h.most, h.now, fun _ => p1, fun e => (by cases e), fun y hy => ?_, fun y => ?_, ?_, h.top, fun _ => h.topx hmv, fun e => (by cases e), fun _ => ?_, fun _ => h.gone hmv⟩
    · have hyx : y ≠ x := fun e => by rw [e, hA] at hy; cases hy
      rw [updB_ne hyx]
      exact h.dis y hy
    · rw [hlk]
      unfold updB
      split
      · rw [Bool.or_true]
      · rfl
    · rw [htr, h.cnt]
      unfold entries
      rw [hmv]
      show s.now.entries + s.next.entries + 1 = s.now.entries + (s.next.put (s.next.st (f x) i) (f x) x).entries
      omega
    · show (s.next.put (s.next.st (f x) i) (f x) x).entries + (s.next.put (s.next.st (f x) i) (f x) x).marks + s.now.entries ≤ s.next.n / 4 * 3
      omega
  | false =>
    have e1 : s.tgt = s.now := by unfold tgt; rw [hmv]; rfl
    have e2 : s.more = 0 := by unfold more; rw [hmv]; rfl
    rw [e1, e2] at hfull
    obtain ⟨i, hi⟩ := free_room h.now.ok (f x) (by have := h.now.ok.pos; omega)
    obtain ⟨p1, p2, p3⟩ := h.now.put_new hx hfx hA hi
    obtain ⟨q1, q2⟩ := pt_some (x := x) hi
    rw [e1]
    refine ⟨q2, updB A x true, B, ?_⟩
    have el : s.laid (f x) x = ⟨s.now.pt (f x) x, s.next, false, s.most, s.at_⟩ := by unfold laid; rw [hmv]; rfl
    have hok := ok_laid h.ok (h := f x) (x := x) hfx (by omega)
    rw [el, q1] at hok ⊢
    have hB' := h.off hmv
    refine ⟨hok, h.most, p1, fun e => (by cases e), fun _ => hB', fun y _ => hB' y, fun y => ?_, ?_, h.top, fun e => (by cases e), fun _ => ?_, fun e => (by cases e), fun e => (by cases e)⟩
    · rw [hlk]
      unfold updB
      split
      · rfl
      · rfl
    · rw [htr, h.cnt]
      unfold entries
      rw [hmv]
      show s.now.entries + 0 + 1 = (s.now.put (s.now.st (f x) i) (f x) x).entries + 0
      omega
    · show (s.now.put (s.now.st (f x) i) (f x) x).entries + (s.now.put (s.now.st (f x) i) (f x) x).marks ≤ s.now.n / 4 * 3
      omega
theorem mlook_same {x : Nat} (hm : mlook x M = false) (y : Nat) : mlook y (mput x false M) = mlook y M := by
  rw [mlook_put]
  split
  · rename_i e
    rw [e, hm]
  · rfl
theorem Ki.put_ (h : Ki f s M A B) {x : Nat} (hx : x < 256) (hfx : f x < 18446744073709551616) (hm : mlook x M = false) :
    (s.ptE (f x) = 0 ∨ s.ptE (f x) = 9) ∧ ∃ A' B', Ki f (s.pt (f x) x) (mput x (decide (s.ptE (f x) = 0)) M) A' B' := by
  have hb := h.begun_
  cases hf : s.begun.full with
  | true =>
    have e1 : s.pt (f x) x = s.begun := by unfold pt; rw [hf]; rfl
    have e2 : s.ptE (f x) = 9 := by unfold ptE; rw [hf]; rfl
    rw [e1, e2]
    refine ⟨.inr rfl, A, B, hb.ok, hb.most, hb.now, hb.next, hb.off, hb.dis, fun y => ?_, ?_, hb.top, hb.topx, hb.room, hb.roomx, hb.gone⟩
    · rw [show decide ((9 : Int) = 0) = false from rfl, mlook_same hm]
      exact hb.look y
    · have h1 := trues_put x false M
      rw [hm] at h1
      have h1 : trues (mput x false M) + 0 = trues M + 0 := h1
      have h2 := hb.cnt
      rw [show decide ((9 : Int) = 0) = false from rfl]
      omega
  | false =>
    obtain ⟨h1, h2⟩ := hb.laid_ hx hfx hm hf
    have e1 : s.pt (f x) x = s.begun.laid (f x) x := by unfold pt; rw [hf]; rfl
    have e2 : s.ptE (f x) = 0 := by unfold ptE; rw [hf]; exact h1
    rw [e1, e2]
    exact ⟨.inl rfl, h2⟩
/-- One that is there is dropped. -/
theorem Ki.drop_ (h : Ki f s M A B) {x : Nat} (hm : mlook x M = true) : s.drE (f x) x = 0 ∧ ∃ A' B', Ki f (s.dr (f x) x) (mput x false M) A' B' := by
  have hAB := h.look x
  rw [hm] at hAB
  have htr : trues (mput x false M) + 1 = trues M := by
    have h1 := trues_put x false M
    rw [hm] at h1
    have h1 : trues (mput x false M) + 1 = trues M + 0 := h1
    omega
  have hlk : ∀ y, mlook y (mput x false M) = if y = x then false else (A y || B y) := fun y => by rw [mlook_put, h.look]
  cases hA : A x with
  | true =>
    obtain ⟨k, e, hk, hf, hw, hh⟩ := h.now.find_yes hA
    obtain ⟨p1, p2, p3⟩ := h.now.drop hk hf hw
    obtain ⟨q1, q2⟩ := dr_nat hk hf
    have e1 : s.dr (f x) x = ⟨s.now.dr (k : Int), s.next, s.mv, s.most, s.at_⟩ := by unfold dr; rw [e]
    have e2 : s.drE (f x) x = 0 := by unfold drE; rw [e]; exact q2
    have hok := ok_dr h.ok (f x) x
    rw [e1, q1] at hok
    rw [e1, e2, q1]
    refine ⟨rfl, updB A x false, B, hok, h.most, p1, h.next, h.off, fun y hy => ?_, fun y => ?_, ?_, h.top, h.topx, fun e => ?_, fun e => ?_, fun e j hj => ?_⟩
    · by_cases ey : y = x
      · rw [ey, updB_at] at hy
        cases hy
      · rw [updB_ne ey] at hy
        exact h.dis y hy
    · rw [hlk]
      by_cases ey : y = x
      · rw [if_pos ey, ey, updB_at, h.dis x hA]
        rfl
      · rw [if_neg ey, updB_ne ey]
    · have h2 := h.cnt
      unfold entries at h2 ⊢
      have h3 : trues M = s.now.entries + (if s.mv = true then s.next.entries else 0) := h2
      show trues (mput x false M) = (s.now.gone k).entries + (if s.mv = true then s.next.entries else 0)
      omega
    · have := h.room e
      show (s.now.gone k).entries + (s.now.gone k).marks ≤ s.now.n / 4 * 3
      omega
    · have := h.roomx e
      show s.next.entries + s.next.marks + (s.now.gone k).entries ≤ s.next.n / 4 * 3
      omega
    · cases hg : (s.now.gone k).ful j with
      | false => rfl
      | true =>
        have := (gone_ful j hg).2
        rw [h.gone e j hj] at this
        cases this
  | false =>
    have hB : B x = true := by rw [hA] at hAB; exact hAB.symm
    have hmv : s.mv = true := by
      cases e : s.mv with
      | true => rfl
      | false => rw [h.off e x] at hB; cases hB
    have hn := h.now.find_no (g := f x) hA
    obtain ⟨k, e, hk, hf, hw, hh⟩ := (h.next hmv).find_yes hB
    obtain ⟨p1, p2, p3⟩ := (h.next hmv).drop hk hf hw
    obtain ⟨q1, q2⟩ := dr_nat hk hf
    have e1 : s.dr (f x) x = ⟨s.now, s.next.dr (k : Int), s.mv, s.most, s.at_⟩ := by unfold dr; rw [hn, hmv, e]; rfl
    have e2 : s.drE (f x) x = 0 := by unfold drE; rw [hn, hmv, e]; exact q2
    have hok := ok_dr h.ok (f x) x
    rw [e1, q1] at hok
    rw [e1, e2, q1]
    refine ⟨rfl, A, updB B x false, hok, h.most, h.now, fun _ => p1, fun e => absurd hmv (by rw [show s.mv = false from e]; exact Bool.false_ne_true), fun y hy => ?_, fun y => ?_, ?_, h.top, h.topx, fun e => absurd hmv (by rw [show s.mv = false from e]; exact Bool.false_ne_true), fun _ => ?_, fun _ => h.gone hmv⟩
    · have := h.dis y hy
      unfold updB
      split
      · rfl
      · exact this
    · rw [hlk]
      by_cases ey : y = x
      · rw [if_pos ey, ey, updB_at, hA]
        rfl
      · rw [if_neg ey, updB_ne ey]
    · have h2 := h.cnt
      unfold entries at h2 ⊢
      rw [hmv] at h2
      have h3 : trues M = s.now.entries + s.next.entries := h2
      show trues (mput x false M) = s.now.entries + (if s.mv = true then (s.next.gone k).entries else 0)
      rw [hmv, if_pos rfl]
      omega
    · have := h.roomx hmv
      show (s.next.gone k).entries + (s.next.gone k).marks + s.now.entries ≤ s.next.n / 4 * 3
      omega
/-- A step's move. -/
theorem Ki.moved_ (h : Ki f s M A B) (hfx : ∀ x, x < 256 → f x < 18446744073709551616) (hmv : s.mv = true) : (∃ A' B', Ki f s.moved M A' B') ∧ s.moved.now.ful s.at_ = false := by
  have hcur := h.ok.cur hmv
  cases hf : s.now.isF (s.at_ : Int) with
  | false =>
    have e1 : s.moved = s := by unfold moved; rw [hf]; rfl
    rw [isF_nat hcur] at hf
    rw [e1]
    exact ⟨⟨A, B, h⟩, hf⟩
  | true =>
    have hf' := hf
    rw [isF_nat hcur] at hf'
    obtain ⟨o1, o2, o3⟩ := h.now.own _ hcur hf'
    obtain ⟨x, hx⟩ : ∃ x, x = s.now.ew s.at_ := ⟨_, rfl⟩
    rw [← hx] at o1 o2 o3
    have hBx := h.dis x o3
    obtain ⟨q1, q2⟩ := dr_nat hcur hf'
    obtain ⟨p1, p2, p3⟩ := h.now.drop hcur hf' hx.symm
    have hr := h.roomx hmv
    obtain ⟨i, hi⟩ := free_room (h.next hmv).ok (f x) (by have := (h.next hmv).ok.pos; omega)
    obtain ⟨r1, r2, r3⟩ := (h.next hmv).put_new o1 (hfx x o1) hBx hi
    obtain ⟨t1, t2⟩ := pt_some (x := x) hi
    have e1 : s.moved = ⟨s.now.dr (s.at_ : Int), s.next.pt (s.now.eh s.at_) (s.now.ew s.at_), s.mv, s.most, s.at_⟩ := by unfold moved; rw [hf]; rfl
    have hok := ok_moved h.ok hmv
    rw [e1, ← hx, o2, q1, t1] at hok
    rw [e1, ← hx, o2, q1, t1]
    refine ⟨⟨updB A x false, updB B x true, hok, h.most, p1, fun _ => r1, fun e => absurd hmv (by rw [show s.mv = false from e]; exact Bool.false_ne_true), fun y hy => ?_, fun y => ?_, ?_, h.top, h.topx, fun e => absurd hmv (by rw [show s.mv = false from e]; exact Bool.false_ne_true), fun _ => ?_, fun _ j hj => ?_⟩, ?_⟩
    · by_cases ey : y = x
      · rw [ey, updB_at] at hy
        cases hy
      · rw [updB_ne ey] at hy ⊢
        exact h.dis y hy
    · rw [h.look]
      by_cases ey : y = x
      · rw [ey, updB_at, updB_at, o3]
        rfl
      · rw [updB_ne ey, updB_ne ey]
    · have h2 := h.cnt
      unfold entries at h2 ⊢
      rw [hmv] at h2
      have h3 : trues M = s.now.entries + s.next.entries := h2
      show trues M = (s.now.gone s.at_).entries + (if s.mv = true then (s.next.put (s.next.st (f x) i) (f x) x).entries else 0)
      rw [hmv, if_pos rfl]
      omega
    · show (s.next.put (s.next.st (f x) i) (f x) x).entries + (s.next.put (s.next.st (f x) i) (f x) x).marks + (s.now.gone s.at_).entries ≤ s.next.n / 4 * 3
      omega
    · cases hg : (s.now.gone s.at_).ful j with
      | false => rfl
      | true =>
        have := (gone_ful j hg).2
        rw [h.gone hmv j hj] at this
        cases this
    · exact updB_at ..
theorem Ki.on_ (h : Ki f s M A B) (hmv : s.mv = true) (hl : s.now.ful s.at_ = false) : ∃ A' B', Ki f s.on M A' B' := by
  have hok := ok_on h.ok hmv
  have hcur := h.ok.cur hmv
  unfold on at hok ⊢
  by_cases e : s.at_ + 1 = s.now.n
  · rw [if_pos e] at hok ⊢
    have hno : ∀ k, k < s.now.n → s.now.ful k = false := fun k hk => by
      rcases Nat.lt_or_ge k s.at_ with q | q
      · exact h.gone hmv k q
      · rw [show k = s.at_ by omega]
        exact hl
    have hA : ∀ x, A x = false := fun x => by
      cases ea : A x with
      | false => rfl
      | true =>
        obtain ⟨k, hk, hf, _⟩ := h.now.has x ea
        rw [hno k hk] at hf
        cases hf
    have he : s.now.entries = 0 := cntI_zero hno
    refine ⟨B, fun _ => false, hok, h.most, h.next hmv, fun e => (by cases e), fun _ _ => rfl, fun _ _ => rfl, fun x => ?_, ?_, h.topx hmv, fun e => (by cases e), fun _ => ?_, fun e => (by cases e), fun e => (by cases e)⟩
    · rw [h.look, hA x, Bool.or_false, Bool.false_or]
    · have h2 := h.cnt
      unfold entries at h2 ⊢
      rw [hmv] at h2
      have h3 : trues M = s.now.entries + s.next.entries := h2
      show trues M = s.next.entries + 0
      omega
    · have := h.roomx hmv
      show s.next.entries + s.next.marks ≤ s.next.n / 4 * 3
      omega
  · rw [if_neg e] at hok ⊢
    refine ⟨A, B, hok, h.most, h.now, h.next, h.off, h.dis, h.look, h.cnt, h.top, h.topx, h.room, h.roomx, fun _ k hk => ?_⟩
    have hk : k < s.at_ + 1 := hk
    rcases Nat.lt_or_ge k s.at_ with q | q
    · exact h.gone hmv k q
    · show s.now.ful k = false
      rw [show k = s.at_ by omega]
      exact hl
theorem Ki.st_ (h : Ki f s M A B) (hfx : ∀ x, x < 256 → f x < 18446744073709551616) : ∃ A' B', Ki f s.st M A' B' := by
  unfold st
  split
  · rename_i hmv
    obtain ⟨⟨A', B', h1⟩, h2⟩ := h.moved_ hfx hmv
    exact h1.on_ (by rw [moved_mv]; exact hmv) (by rw [moved_at]; exact h2)
  · exact ⟨A, B, h⟩
/-- What a step, a Put, a Drop leave of the cursor. -/
theorem st_cur (h : s.Ok) : (s.mv = false → s.st.mv = false) ∧ (s.mv = true → (s.at_ + 1 = s.now.n ∧ s.st.mv = false) ∨ (s.at_ + 1 < s.now.n ∧ s.st.mv = true ∧ s.st.at_ = s.at_ + 1 ∧ s.st.now.n = s.now.n)) := by
  refine ⟨fun hm => ?_, fun hm => ?_⟩
  · unfold st
    rw [hm]
    exact hm
  · have hc := h.cur hm
    have e : s.st = s.moved.on := by unfold st; rw [hm]; rfl
    rw [e]
    unfold on
    rw [moved_at, moved_n]
    by_cases q : s.at_ + 1 = s.now.n
    · rw [if_pos q]
      exact .inl ⟨q, rfl⟩
    · rw [if_neg q]
      exact .inr ⟨by omega, by rw [show (⟨s.moved.now, s.moved.next, s.moved.mv, s.moved.most, s.at_ + 1⟩ : Gr).mv = s.moved.mv from rfl, moved_mv]; exact hm, rfl, moved_n s⟩
theorem pt_cur (h x : Nat) : (s.mv = true → (s.pt h x).mv = true ∧ (s.pt h x).at_ = s.at_ ∧ (s.pt h x).now.n = s.now.n) ∧ (s.mv = false → (s.pt h x).mv = true → (s.pt h x).at_ = 0) := by
  obtain ⟨b1, b2, b3, b4⟩ := begun_at (s := s)
  have key : (s.pt h x).mv = s.begun.mv ∧ (s.pt h x).at_ = s.begun.at_ ∧ (s.pt h x).now.n = s.begun.now.n := by
    unfold pt laid
    split
    · exact ⟨rfl, rfl, rfl⟩
    · split
      · rename_i e
        exact ⟨e.symm, rfl, rfl⟩
      · rename_i e
        refine ⟨?_, rfl, pt_n _ _ _⟩
        cases q : s.begun.mv with
        | false => rfl
        | true => exact absurd q e
  rw [key.1, key.2.1, key.2.2]
  exact ⟨fun hm => by rw [b3 hm]; exact ⟨hm, rfl, rfl⟩, b4⟩
theorem dr_cur (h x : Nat) : (s.dr h x).mv = s.mv ∧ (s.dr h x).at_ = s.at_ ∧ (s.dr h x).now.n = s.now.n := by
  unfold dr
  split
  · exact ⟨rfl, rfl, dr_n _ _⟩
  · split
    · split <;> exact ⟨rfl, rfl, rfl⟩
    · exact ⟨rfl, rfl, rfl⟩
end
end Gr
end Go.Proofs.Ythjghofjdcepmaa
/- Maps, whatever the kind of their keys (numbers, structs that are compared field by field): a block that is a map reads as the list of its keys and elements, in the order of their coming; a look-up, a put, how many. Over any program. -/
namespace Go.Proofs.Ythjghofjdcepmaa
open Go.RowKit Go.MapKept
section
variable {α : Type}
/-- Block b of w is a map of these keys and elements. -/
def AMap (w : World) (b : Nat) (kv : α → Value) (L : List (α × Value)) : Prop :=
  ∃ es clock, w.heap[b]? = some (.map es clock) ∧ es.toList.map (fun e => (e.key, e.val)) = L.map (fun x => (kv x.1, x.2))
theorem AMap.block {w w' : World} {b : Nat} {kv : α → Value} {L : List (α × Value)} (h : AMap w b kv L) (hb : w'.heap[b]? = w.heap[b]?) : AMap w' b kv L := by
  obtain ⟨es, clock, h1, h2⟩ := h
  exact ⟨es, clock, hb.trans h1, h2⟩
theorem AMap.lt {w : World} {b : Nat} {kv : α → Value} {L : List (α × Value)} (h : AMap w b kv L) : b < w.heap.size := by
  obtain ⟨es, clock, h1, _⟩ := h
  exact (Array.getElem?_eq_some_iff.1 h1).1
theorem AMap.step {w w' : World} {b : Nat} {kv : α → Value} {L : List (α × Value)} (h : AMap w b kv L) (hb : Below w.heap.size w w') : AMap w' b kv L := h.block (hb.block b h.lt)
theorem amap_new (w : World) (kv : α → Value) : AMap (w.alloc (.map #[] 0)) w.heap.size kv [] := ⟨#[], 0, heap_alloc_new w _, rfl⟩
/-- 'len(m)'. -/
theorem AMap.len {P : Program} {w : World} {b : Nat} {kv : α → Value} {L : List (α × Value)} (h : AMap w b kv L) {t kt et ty : TypeId} (ht : P.underlying t = some (.map kt et)) :
    (Builtin.len_ #[t] ty #[.map (some b)]).run P w = .ok (.int .i64 (L.length : Int)) w := by
  obtain ⟨es, clock, hb, hL⟩ := h
  have hlen : es.size = L.length := by
    have := congrArg List.length hL
    simpa using this
  simp [Builtin.len_, run_underlying ht, MapKept.run_getObj_map hb, Result.andThen, hlen, goInt]
end
section
variable {α : Type} [DecidableEq α]
/-- Where a key stands, and what stands there. -/
def aidx (a : α) : List (α × Value) → Nat → Option (Nat × Value)
  | [], _ => none
  | x :: r, i => if a = x.1 then some (i, x.2) else aidx a r (i + 1)
def afind (a : α) : List (α × Value) → Option Value
  | [] => none
  | x :: r => if a = x.1 then some x.2 else afind a r
def aput (a : α) (v : Value) : List (α × Value) → List (α × Value)
  | [] => [(a, v)]
  | x :: r => if a = x.1 then (a, v) :: r else x :: aput a v r
theorem aidx_some {a : α} : ∀ {L : List (α × Value)} {i j : Nat} {v : Value}, aidx a L i = some (j, v) → ∃ k, j = i + k ∧ L[k]? = some (a, v) ∧ afind a L = some v
  | [], _, _, _, h => by cases h
  | x :: r, i, j, v, h => by
    unfold aidx at h
    unfold afind
    by_cases e : a = x.1
    · rw [if_pos e] at h ⊢
      injection h with h
      injection h with h1 h2
      subst h1
      subst h2
      exact ⟨0, rfl, by rw [e]; rfl, rfl⟩
    · rw [if_neg e] at h ⊢
      obtain ⟨k, h1, h2, h3⟩ := aidx_some h
      exact ⟨k + 1, by omega, by simpa using h2, h3⟩
theorem aidx_none {a : α} : ∀ {L : List (α × Value)} {i : Nat}, aidx a L i = none → afind a L = none
  | [], _, _ => rfl
  | x :: r, i, h => by
    unfold aidx at h
    unfold afind
    by_cases e : a = x.1
    · rw [if_pos e] at h; cases h
    · rw [if_neg e] at h ⊢
      exact aidx_none h
theorem aput_miss {a : α} {v : Value} : ∀ {L : List (α × Value)}, afind a L = none → aput a v L = L ++ [(a, v)]
  | [], _ => rfl
  | x :: r, h => by
    unfold afind at h
    unfold aput
    by_cases e : a = x.1
    · rw [if_pos e] at h; cases h
    · rw [if_neg e] at h ⊢
      rw [aput_miss h]
      rfl
theorem aput_hit {a : α} {v : Value} : ∀ {L : List (α × Value)} {i j : Nat} {u : Value}, aidx a L i = some (i + j, u) → L.set j (a, v) = aput a v L
  | [], _, _, _, h => by cases h
  | x :: r, i, j, u, h => by
    unfold aidx at h
    unfold aput
    by_cases e : a = x.1
    · rw [if_pos e] at h ⊢
      injection h with h
      injection h with h1 h2
      have : j = 0 := by omega
      subst this
      rfl
    · rw [if_neg e] at h ⊢
      obtain ⟨k, h1, _, _⟩ := aidx_some h
      obtain ⟨j, rfl⟩ : ∃ j', j = j' + 1 := ⟨j - 1, by omega⟩
      rw [List.set_cons_succ, aput_hit (i := i + 1) (j := j) (u := u) (by rw [h]; congr 2; omega)]
theorem afind_put {a b : α} {v : Value} : ∀ {L : List (α × Value)}, afind a (aput b v L) = if a = b then some v else afind a L
  | [] => rfl
  | x :: r => by
    unfold aput
    by_cases e : b = x.1
    · rw [if_pos e]
      unfold afind
      by_cases e2 : a = b
      · rw [if_pos e2, if_pos e2]
      · rw [if_neg e2, if_neg e2, if_neg (by rw [← e]; exact e2)]
    · rw [if_neg e]
      unfold afind
      rw [afind_put]
      by_cases e2 : a = x.1
      · rw [if_pos e2, if_pos e2, if_neg (fun q => e (by rw [← q, e2]))]
      · rw [if_neg e2, if_neg e2]
theorem afind_mem {a : α} {v : Value} : ∀ {L : List (α × Value)}, afind a L = some v → (a, v) ∈ L
  | [], h => by cases h
  | x :: r, h => by
    unfold afind at h
    by_cases e : a = x.1
    · rw [if_pos e] at h
      injection h with h
      rw [e, ← h]
      exact .head _
    · rw [if_neg e] at h
      exact .tail _ (afind_mem h)
/-- All keys have the element true: a set. -/
def asetL (G : List α) : List (α × Value) := G.map fun a => (a, .bool true)
theorem asetL_find (a : α) : ∀ G : List α, afind a (asetL G) = if a ∈ G then some (.bool true) else none
  | [] => rfl
  | x :: r => by
    show (if a = x then some (Value.bool true) else afind a (asetL r)) = _
    rw [asetL_find a r]
    by_cases e : a = x
    · rw [if_pos e, if_pos (by rw [e]; exact .head _)]
    · rw [if_neg e]
      by_cases h : a ∈ r
      · rw [if_pos h, if_pos (.tail _ h)]
      · rw [if_neg h, if_neg fun q => by rcases List.mem_cons.1 q with q | q; exact e q; exact h q]
theorem asetL_put (a : α) (G : List α) (h : ¬ a ∈ G) : aput a (.bool true) (asetL G) = asetL (G ++ [a]) := by
  rw [aput_miss (by rw [asetL_find, if_neg h])]
  unfold asetL
  rw [List.map_append]
  rfl
theorem asetL_again (a : α) : ∀ (G : List α), a ∈ G → aput a (.bool true) (asetL G) = asetL G
  | [], h => by cases h
  | x :: r, h => by
    show (if a = x then (a, Value.bool true) :: asetL r else (x, .bool true) :: aput a (.bool true) (asetL r)) = _
    by_cases e : a = x
    · rw [if_pos e, e]
      rfl
    · rw [if_neg e, asetL_again a r ((List.mem_cons.1 h).resolve_left e)]
      rfl
/-- How keys of a type are found. -/
structure KeyT (P : Program) (kt : TypeId) (kv : α → Value) : Prop where
  ck : ∀ e a W, (Instr.checkKey e 10000 kt (kv a)).run P W = .ok () W
  same : ∀ a, Instr.sameBits 10000 (kv a) (kv a) = true
  find : ∀ (a : α) (es : List MapEntry) (L : List (α × Value)) (W : World), es.map (fun e => (e.key, e.val)) = L.map (fun x => (kv x.1, x.2)) → (Instr.findKey kt (kv a) es).run P W = .ok (aidx a L 0) W
/-- Structs that '==' tells apart. -/
theorem keyT_struct {P : Program} {kt : TypeId} {kv : α → Value} {fs : Array Field} (hu : P.underlying kt = some (.struct fs)) (hk : ∀ a, ∃ cs, kv a = .agg cs) (eq : ∀ a b W, (Op.equal kt (kv a) (kv b)).run P W = .ok (decide (a = b)) W)
    (ck : ∀ e a W, (Instr.checkKey e 10000 kt (kv a)).run P W = .ok () W) (same : ∀ a, Instr.sameBits 10000 (kv a) (kv a) = true) : KeyT P kt kv := by
  refine ⟨ck, same, fun a es L W h => ?_⟩
  have e1 : (Instr.findKey kt (kv a) es).run P W = (Instr.findAsking kt (kv a) es).run P W := by
    obtain ⟨cs, hc⟩ := hk a
    cases es with
    | nil => simp [Instr.findKey, run_underlying hu, Instr.findNow, Instr.findAsking, Result.andThen]
    | cons e r => rw [hc]; simp [Instr.findKey, run_underlying hu, Instr.findNow, Instr.sameNow, Result.andThen]
  rw [e1]
  have key : ∀ (es : List MapEntry) (L : List (α × Value)) (i : Nat), es.map (fun e => (e.key, e.val)) = L.map (fun x => (kv x.1, x.2)) → (Instr.findAsking kt (kv a) es i).run P W = .ok (aidx a L i) W := by
    intro es
    induction es with
    | nil =>
      intro L i h
      cases L with
      | nil => rfl
      | cons x r => cases h
    | cons e es ih =>
      intro L i h
      cases L with
      | nil => cases h
      | cons x r =>
        rw [List.map_cons, List.map_cons] at h
        injection h with h1 h2
        injection h1 with h1 h3
        unfold Instr.findAsking aidx
        rw [h1, h3]
        simp only [Sem.run_bind, eq, Result.andThen_ok]
        by_cases q : a = x.1
        · rw [if_pos q, if_pos (by simpa using q)]
          rfl
        · rw [if_neg q, if_neg (by simpa using q)]
          exact ih r (i + 1) h2
  exact key es L 0 h
/-- Numbers. -/
theorem keyT_int {P : Program} {kt : TypeId} {k : IntKind} (hu : P.underlying kt = some (.int k)) (kv : α → Int) (hkv : ∀ a b, kv a = kv b → a = b) : KeyT P kt (fun a => .int k (kv a)) := by
  refine ⟨fun e a W => run_checkKey hu (show IsKey (.int k) (.int k (kv a)) from rfl) e 9999, fun a => sameBits_self (show IsKey (.int k) (.int k (kv a)) from rfl) 10000, fun a es L W h => run_findKey hu ?_⟩
  have key : ∀ (es : List MapEntry) (L : List (α × Value)) (i : Nat), es.map (fun e => (e.key, e.val)) = L.map (fun x => (Value.int k (kv x.1), x.2)) → Instr.findNow (.int k) (.int k (kv a)) es i = some (aidx a L i) := by
    intro es
    induction es with
    | nil =>
      intro L i h
      cases L with
      | nil => rfl
      | cons x r => cases h
    | cons e es ih =>
      intro L i h
      cases L with
      | nil => cases h
      | cons x r =>
        rw [List.map_cons, List.map_cons] at h
        injection h with h1 h2
        injection h1 with h1 h3
        unfold Instr.findNow aidx
        rw [h1, h3]
        simp only [Instr.sameNow, if_true]
        by_cases q : a = x.1
        · rw [if_pos q, show (kv a == kv x.1) = true by rw [q]; simp]
        · rw [if_neg q, show (kv a == kv x.1) = false by simpa using fun e => q (hkv _ _ e)]
          exact ih r (i + 1) h2
  exact key es L 0 h
section
variable {P : Program}
/-- 'm[k]' (c = false), 'v, ok := m[k]' (c = true). -/
theorem AMap.look {w : World} {b : Nat} {kv : α → Value} {L : List (α × Value)} (h : AMap w b kv L) {t kt et : TypeId} (ht : P.underlying t = some (.map kt et)) (hK : KeyT P kt kv)
    {z : Value} (hz : ∀ w, (zeroValue et).run P w = .ok z w) (a : α) (c : Bool) :
    (Instr.lookup t (.map (some b)) (kv a) c).run P w = .ok (match afind a L with | some v => if c then .tuple #[v, .bool true] else v | none => if c then .tuple #[z, .bool false] else z) w := by
  obtain ⟨es, clock, hb, hL⟩ := h
  have hf := hK.find a es.toList L w hL
  cases hc : aidx a L 0 with
  | none =>
    rw [hc] at hf
    rw [aidx_none hc]
    simp [Instr.lookup, run_underlying ht, MapKept.run_getObj_map hb, hK.ck, hf, hz, Result.andThen]
  | some x =>
    obtain ⟨j, v⟩ := x
    rw [hc] at hf
    obtain ⟨_, _, _, h3⟩ := aidx_some hc
    rw [h3]
    simp [Instr.lookup, run_underlying ht, MapKept.run_getObj_map hb, hK.ck, hf, Result.andThen]
/-- 'm[k] = v'. -/
theorem AMap.put {w : World} {b : Nat} {kv : α → Value} {L : List (α × Value)} (h : AMap w b kv L) {t kt et : TypeId} (ht : P.underlying t = some (.map kt et)) (hK : KeyT P kt kv) (a : α) (v : Value) :
    ∃ w', (Instr.mapUpdate t (.map (some b)) (kv a) v).run P w = .ok () w' ∧ AMap w' b kv (aput a v L) ∧ w.grownBy w' (some b) := by
  obtain ⟨es, clock, hb, hL⟩ := h
  have hf := hK.find a es.toList L w hL
  have grown : ∀ o : Obj, w.grownBy { w with heap := w.heap.setIfInBounds b o } (some b) := fun o => ⟨rfl, rfl, rfl, by simp, fun i _ hi => (heap_set hb).2 i (fun e => hi (by rw [e]))⟩
  cases hc : aidx a L 0 with
  | none =>
    rw [hc] at hf
    refine ⟨{ w with heap := w.heap.setIfInBounds b (.map (es.push ⟨kv a, v, clock⟩) (clock + 1)) }, ?_, ⟨_, _, (heap_set hb).1, ?_⟩, grown _⟩
    · simp [Instr.mapUpdate, run_underlying ht, MapKept.run_getObj_map hb, hK.ck, hf, MapKept.run_setObj_map _ hb, Result.andThen]
    · rw [aput_miss (aidx_none hc)]
      simp [hL]
  | some x =>
    obtain ⟨j, u⟩ := x
    rw [hc] at hf
    obtain ⟨k, h1, h2, h3⟩ := aidx_some hc
    obtain rfl : k = j := by omega
    have hlen : es.toList.length = L.length := by
      have := congrArg List.length hL
      simpa using this
    have hk : k < L.length := (List.getElem?_eq_some_iff.1 h2).1
    have hke : k < es.toList.length := by omega
    obtain ⟨e, he⟩ : ∃ e, es.toList[k]? = some e := ⟨_, List.getElem?_eq_getElem hke⟩
    have hj' : es[k]? = some e := by simpa using he
    have hkey : e.key = kv a := by
      have q := congrArg (fun l => l[k]?) hL
      simp only [List.getElem?_map, he, h2, Option.map_some, Option.some.injEq, Prod.mk.injEq] at q
      exact q.1
    refine ⟨{ w with heap := w.heap.setIfInBounds b (.map (es.modify k fun e => { e with key := kv a, val := v }) clock) }, ?_, ⟨_, _, (heap_set hb).1, ?_⟩, grown _⟩
    · have hst : (Instr.keyThatStays (kv a) (kv a)).run P w = .ok (kv a) w := by simp [Instr.keyThatStays, hK.same a]
      simp [Instr.mapUpdate, run_underlying ht, MapKept.run_getObj_map hb, hK.ck, hf, hj', hkey, hst, MapKept.run_setObj_map _ hb, Result.andThen]
    · rw [Array.toList_modify, Go.ChangeMaps.modify_eq_set _ _ _ _ he, List.map_set, hL, ← aput_hit (i := 0) (j := k) (u := u) (by rw [hc, Nat.zero_add]), List.map_set]
end
end
end Go.Proofs.Ythjghofjdcepmaa
