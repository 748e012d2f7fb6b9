/- Stage 19: tables in pure words. -/
import Derived.Test.YtfchmmojhfjibaaMga
import Derived.Test.YtfchmmojhfjibaaPqb
namespace Go.Proofs.Ytfchmmojhfjibaa
set_option maxRecDepth 100000
open Go.RowKit Go.Shelf
/-- Each slot is told. -/
theorem nodup_map {f : Nat → Nat} : ∀ (x : List Nat), x.Nodup → (∀ a, a ∈ x → ∀ b, b ∈ x → f a = f b → a = b) → (x.map f).Nodup
  | [], _, _ => .nil
  | a :: x, hn, hi => by
    have h2 := List.pairwise_cons.1 hn
    refine List.pairwise_cons.2 ⟨fun c hc e => ?_, nodup_map x h2.2 fun p hp q hq => hi p (.tail _ hp) q (.tail _ hq)⟩
    obtain ⟨b, hb, hbc⟩ := List.mem_map.1 hc
    have := hi a (.head _) b (.tail _ hb) (by rw [hbc]; exact e)
    exact h2.1 b hb this
theorem slN_surj {o k m : Nat} (hm : 2 ≤ m) (hp : ld m = m) (hk0 : 0 < k) (hk : k < m) {s : Nat} (hs : s < m) : ∃ i, i < m ∧ slN o k m i = s := by
  by_cases h : s ∈ slL o k m
  · unfold slL at h
    obtain ⟨i, hi, e⟩ := List.mem_map.1 h
    exact ⟨i, List.mem_range.1 hi, e⟩
  · exfalso
    have hn : (slL o k m).Nodup := nodup_map _ List.nodup_range fun a ha b hb e => slN_inj hm hp hk0 hk (List.mem_range.1 ha) (List.mem_range.1 hb) e
    have h1 := pigeon m (s :: slL o k m) (List.pairwise_cons.2 ⟨fun a ha e => h (e ▸ ha), hn⟩) fun i hi => by
      rcases List.mem_cons.1 hi with rfl | hi
      · exact hs
      · unfold slL at hi
        obtain ⟨j, _, e⟩ := List.mem_map.1 hi
        rw [← e]
        exact slN_lt (by omega) j
    rw [List.length_cons, slL_len] at h1
    omega
/-- The first free slot of a permutation, by its number. -/
def ffr (t : Nat → Int) (o k m : Nat) : Nat → Nat → Nat
  | 0, i => i
  | n + 1, i => if t (slN o k m i) < 0 then i else ffr t o k m n (i + 1)
theorem ffr_is {t : Nat → Int} {o k m : Nat} : ∀ (n i j : Nat), i ≤ j → j < i + n → t (slN o k m j) < 0 → (∀ x, i ≤ x → x < j → ¬ t (slN o k m x) < 0) → ffr t o k m n i = j
  | 0, i, j, h1, h2, _, _ => by omega
  | n + 1, i, j, h1, h2, h3, h4 => by
    unfold ffr
    rcases Nat.lt_or_ge i j with q | q
    · rw [if_neg (h4 i (Nat.le_refl _) q)]
      exact ffr_is n (i + 1) j (by omega) (by omega) h3 fun x hx => h4 x (by omega)
    · obtain rfl : i = j := by omega
      rw [if_pos h3]
theorem ffr_spec {t : Nat → Int} {o k m : Nat} : ∀ (n i : Nat), (∃ j, i ≤ j ∧ j < i + n ∧ t (slN o k m j) < 0) → ffr t o k m n i < i + n ∧ t (slN o k m (ffr t o k m n i)) < 0 ∧ i ≤ ffr t o k m n i ∧ ∀ x, i ≤ x → x < ffr t o k m n i → ¬ t (slN o k m x) < 0
  | 0, i, ⟨j, h1, h2, _⟩ => by omega
  | n + 1, i, ⟨j, h1, h2, h3⟩ => by
    unfold ffr
    by_cases q : t (slN o k m i) < 0
    · rw [if_pos q]
      exact ⟨by omega, q, Nat.le_refl _, fun x h1 h2 => by omega⟩
    · rw [if_neg q]
      have hij : i ≠ j := fun e => q (e ▸ h3)
      obtain ⟨a, b, c, d⟩ := ffr_spec (t := t) (o := o) (k := k) (m := m) n (i + 1) ⟨j, by omega, by omega, h3⟩
      refine ⟨by omega, b, by omega, fun x h1 h2 => ?_⟩
      rcases (show x = i ∨ i + 1 ≤ x by omega) with rfl | r
      · exact q
      · exact d x r h2
/-- The table behind i takes: who takes is told by c, its permutation by q. -/
def tkS (q : Nat → Nat × Nat) (m : Nat) (c : Nat) (t : Nat → Int) : Nat := slN (q c).1 (q c).2 m (ffr t (q c).1 (q c).2 m m 0)
def tkT (q : Nat → Nat × Nat) (m : Nat) (c : Nat → Nat) : Nat → Nat → Int
  | 0 => fun _ => -1
  | i + 1 => fun s => if s = tkS q m (c i) (tkT q m c i) then (c i : Int) else tkT q m c i s
theorem tkT_val (q : Nat → Nat × Nat) (m : Nat) (c : Nat → Nat) : ∀ (i s : Nat), tkT q m c i s = -1 ∨ ∃ j, j < i ∧ tkT q m c i s = (c j : Int)
  | 0, _ => .inl rfl
  | i + 1, s => by
    show (if s = tkS q m (c i) (tkT q m c i) then (c i : Int) else tkT q m c i s) = -1 ∨ ∃ j, j < i + 1 ∧ (if s = tkS q m (c i) (tkT q m c i) then (c i : Int) else tkT q m c i s) = (c j : Int)
    by_cases h : s = tkS q m (c i) (tkT q m c i)
    · rw [if_pos h]
      exact .inr ⟨i, by omega, rfl⟩
    · rw [if_neg h]
      rcases tkT_val q m c i s with e | ⟨j, hj, e⟩
      · exact .inl e
      · exact .inr ⟨j, by omega, e⟩
/-- How many below n are x. -/
def cntI (t : Nat → Int) (x : Int) : Nat → Nat
  | 0 => 0
  | n + 1 => cntI t x n + if t n = x then 1 else 0
theorem cntI_le (t : Nat → Int) (x : Int) : ∀ n, cntI t x n ≤ n
  | 0 => Nat.le_refl _
  | n + 1 => by
    have := cntI_le t x n
    unfold cntI
    split <;> omega
theorem cntI_same {t u : Nat → Int} {x y : Int} : ∀ {n : Nat}, (∀ i, i < n → (t i = x ↔ u i = y)) → cntI t x n = cntI u y n
  | 0, _ => rfl
  | n + 1, h => by
    unfold cntI
    rw [cntI_same fun i hi => h i (by omega)]
    have := h n (by omega)
    by_cases e : t n = x
    · rw [if_pos e, if_pos (this.1 e)]
    · rw [if_neg e, if_neg fun k => e (this.2 k)]
theorem cntI_pos {t : Nat → Int} {x : Int} : ∀ {n : Nat}, 0 < cntI t x n → ∃ i, i < n ∧ t i = x
  | 0, h => absurd h (by unfold cntI; omega)
  | n + 1, h => by
    by_cases e : t n = x
    · exact ⟨n, by omega, e⟩
    · unfold cntI at h
      rw [if_neg e] at h
      obtain ⟨i, hi, hx⟩ := cntI_pos (n := n) h
      exact ⟨i, by omega, hx⟩
theorem cntI_zero {t : Nat → Int} {x : Int} : ∀ {n : Nat}, cntI t x n = 0 → ∀ i, i < n → t i ≠ x
  | 0, _, i, hi => absurd hi (by omega)
  | n + 1, h, i, hi => by
    unfold cntI at h
    by_cases e : t n = x
    · rw [if_pos e] at h; omega
    · rcases (show i = n ∨ i < n by omega) with rfl | q
      · exact e
      · exact cntI_zero (n := n) (by omega) i q
theorem cntI_set {t : Nat → Int} {s0 : Nat} {v x : Int} : ∀ {n : Nat}, s0 < n → cntI (fun s => if s = s0 then v else t s) x n + (if t s0 = x then 1 else 0) = cntI t x n + (if v = x then 1 else 0)
  | 0, h => absurd h (by omega)
  | n + 1, h => by
    rcases (show s0 = n ∨ s0 < n by omega) with e | q
    · have h1 : cntI (fun s => if s = s0 then v else t s) x n = cntI t x n := cntI_same fun i hi => by
        show (if _ then _ else _) = x ↔ _
        rw [if_neg (by omega)]
      show cntI _ x n + (if (if n = s0 then v else t n) = x then 1 else 0) + _ = cntI t x n + (if t n = x then 1 else 0) + _
      rw [h1, if_pos e.symm, e]
      omega
    · have h1 := cntI_set (t := t) (v := v) (x := x) q
      show cntI _ x n + (if (if n = s0 then v else t n) = x then 1 else 0) + _ = cntI t x n + (if t n = x then 1 else 0) + _
      rw [if_neg (show ¬ n = s0 by omega)]
      omega
def cntC (c : Nat → Nat) (x : Nat) : Nat → Nat
  | 0 => 0
  | i + 1 => cntC c x i + if c i = x then 1 else 0
/-- What holds behind each take. -/
structure Tk (q : Nat → Nat × Nat) (m : Nat) (c : Nat → Nat) (i : Nat) : Prop where
  free : cntI (tkT q m c i) (-1) m = m - i
  cnt : ∀ x : Nat, cntI (tkT q m c i) (x : Int) m = cntC c x i
/-- All permutations are such. -/
def PqOk (q : Nat → Nat × Nat) (m : Nat) : Prop := 2 ≤ m ∧ ld m = m ∧ ∀ x, 0 < (q x).2 ∧ (q x).2 < m
theorem tk_next {q : Nat → Nat × Nat} {m : Nat} (hq : PqOk q m) {c : Nat → Nat} {i : Nat} (h : Tk q m c i) (hi : i < m) (x : Nat) :
    ffr (tkT q m c i) (q x).1 (q x).2 m m 0 < m ∧ tkT q m c i (tkS q m x (tkT q m c i)) = -1 ∧ ∀ j, j < ffr (tkT q m c i) (q x).1 (q x).2 m m 0 → ¬ tkT q m c i (slN (q x).1 (q x).2 m j) < 0 := by
  obtain ⟨s, hs, e⟩ := cntI_pos (t := tkT q m c i) (x := -1) (n := m) (by rw [h.free]; omega)
  obtain ⟨j, hj, e2⟩ := slN_surj (o := (q x).1) hq.1 hq.2.1 (hq.2.2 x).1 (hq.2.2 x).2 hs
  obtain ⟨h1, h2, _, h4⟩ := ffr_spec (t := tkT q m c i) (o := (q x).1) (k := (q x).2) (m := m) m 0 ⟨j, by omega, by omega, by rw [e2, e]; decide⟩
  refine ⟨by omega, ?_, fun j hj => h4 j (by omega) hj⟩
  rcases tkT_val q m c i (tkS q m x (tkT q m c i)) with r | ⟨y, _, r⟩
  · exact r
  · have h2' : tkT q m c i (tkS q m x (tkT q m c i)) < 0 := h2
    rw [r] at h2'
    omega
theorem tk_all {q : Nat → Nat × Nat} {m : Nat} (hq : PqOk q m) (c : Nat → Nat) : ∀ i, i ≤ m → Tk q m c i
  | 0, _ => ⟨by
      have : ∀ n, cntI (tkT q m c 0) (-1) n = n := fun n => by
        induction n with
        | zero => rfl
        | succ n ih =>
          show cntI _ _ n + (if (-1 : Int) = -1 then 1 else 0) = n + 1
          rw [ih, if_pos rfl]
      rw [this]; omega, fun x => by
      have : ∀ n, cntI (tkT q m c 0) (x : Int) n = 0 := fun n => by
        induction n with
        | zero => rfl
        | succ n ih =>
          show cntI _ _ n + (if (-1 : Int) = (x : Int) then 1 else 0) = 0
          rw [ih, if_neg (by omega)]
      rw [this]; rfl⟩
  | i + 1, hi => by
    have h := tk_all hq c i (by omega)
    obtain ⟨_, h2, _⟩ := tk_next hq h (by omega) (c i)
    have hs : tkS q m (c i) (tkT q m c i) < m := slN_lt (by have := hq.1; omega) _
    refine ⟨?_, fun x => ?_⟩
    · have := cntI_set (t := tkT q m c i) (v := (c i : Int)) (x := -1) hs
      rw [h2, if_pos rfl, h.free, if_neg (by omega)] at this
      show cntI (fun s => if s = tkS q m (c i) (tkT q m c i) then (c i : Int) else tkT q m c i s) (-1) m = _
      omega
    · have := cntI_set (t := tkT q m c i) (v := (c i : Int)) (x := (x : Int)) hs
      rw [h2, if_neg (by omega), h.cnt] at this
      show cntI (fun s => if s = tkS q m (c i) (tkT q m c i) then (c i : Int) else tkT q m c i s) (x : Int) m = cntC c x i + _
      rw [Nat.add_zero] at this
      rw [this]
      congr 1
      by_cases e : c i = x
      · rw [if_pos e, if_pos (by omega)]
      · rw [if_neg e, if_neg (by omega)]
theorem tk_full {q : Nat → Nat × Nat} {m : Nat} (hq : PqOk q m) (c : Nat → Nat) {s : Nat} (hs : s < m) : ∃ j, tkT q m c m s = (c j : Int) := by
  have h := (tk_all hq c m (Nat.le_refl _)).free
  have h2 := cntI_zero (t := tkT q m c m) (x := -1) (n := m) (by omega) s hs
  rcases tkT_val q m c m s with e | ⟨j, _, e⟩
  · exact absurd e h2
  · exact ⟨j, e⟩
/-- Turns: positions, each as often as its weight. -/
def cyL : List Nat → Nat → List Nat
  | [], _ => []
  | w :: ws, k => List.replicate w k ++ cyL ws (k + 1)
def preW (ws : List Nat) (k : Nat) : Nat := (ws.take k).sum
theorem preW_zero (ws : List Nat) : preW ws 0 = 0 := rfl
theorem preW_succ (ws : List Nat) (k : Nat) (h : k < ws.length) : preW ws (k + 1) = preW ws k + ws[k]?.getD 0 := by
  unfold preW
  rw [List.take_add_one, List.sum_append, List.getElem?_eq_getElem h]
  simp
theorem cyL_len : ∀ (ws : List Nat) (k : Nat), (cyL ws k).length = ws.sum
  | [], _ => rfl
  | w :: ws, k => by
    show (List.replicate w k ++ cyL ws (k + 1)).length = _
    rw [List.length_append, List.length_replicate, cyL_len ws (k + 1), List.sum_cons]
theorem preW_all (ws : List Nat) : preW ws ws.length = ws.sum := by
  unfold preW
  rw [List.take_length]
theorem cyL_at : ∀ (ws : List Nat) (k0 k w : Nat), k < ws.length → w < ws[k]?.getD 0 → (cyL ws k0)[preW ws k + w]? = some (k0 + k)
  | [], _, _, _, h, _ => absurd h (by simp)
  | v :: ws, k0, 0, w, _, h => by
    show (List.replicate v k0 ++ cyL ws (k0 + 1))[preW (v :: ws) 0 + w]? = _
    rw [preW_zero, Nat.zero_add, List.getElem?_append_left (by simpa using h), List.getElem?_replicate, if_pos (by simpa using h)]
    rfl
  | v :: ws, k0, k + 1, w, h, hw => by
    show (List.replicate v k0 ++ cyL ws (k0 + 1))[preW (v :: ws) (k + 1) + w]? = _
    have e : preW (v :: ws) (k + 1) = v + preW ws k := by
      unfold preW
      rw [List.take_succ_cons, List.sum_cons]
    rw [e, List.getElem?_append_right (by simp; omega), List.length_replicate, show v + preW ws k + w - v = preW ws k + w by omega, cyL_at ws (k0 + 1) k w (by simpa using h) (by simpa using hw)]
    congr 1
    omega
theorem cyL_mem : ∀ (ws : List Nat) (k0 x : Nat), x ∈ cyL ws k0 → k0 ≤ x ∧ x < k0 + ws.length
  | [], _, _, h => by cases h
  | w :: ws, k0, x, h => by
    rcases List.mem_append.1 (show x ∈ List.replicate w k0 ++ cyL ws (k0 + 1) from h) with q | q
    · rw [List.eq_of_mem_replicate q]
      simp
    · have := cyL_mem ws (k0 + 1) x q
      rw [List.length_cons]
      omega
theorem cyL_count : ∀ (ws : List Nat) (k0 x : Nat), (cyL ws k0).count (k0 + x) = ws[x]?.getD 0
  | [], _, _ => by simp [cyL]
  | w :: ws, k0, 0 => by
    show (List.replicate w k0 ++ cyL ws (k0 + 1)).count k0 = _
    rw [List.count_append, List.count_replicate_self, List.count_eq_zero_of_not_mem fun h => by have := cyL_mem _ _ _ h; omega]
    simp
  | w :: ws, k0, x + 1 => by
    show (List.replicate w k0 ++ cyL ws (k0 + 1)).count (k0 + (x + 1)) = _
    rw [List.count_append, List.count_replicate, if_neg (by simp), show k0 + (x + 1) = k0 + 1 + x by omega, cyL_count ws (k0 + 1) x]
    simp
/-- Who takes at i, by its position. -/
def whoN (ws : List Nat) (i : Nat) : Nat := (cyL ws 0)[i % ws.sum]?.getD 0
theorem whoN_at {ws : List Nat} {T k w : Nat} (hk : k < ws.length) (hw : w < ws[k]?.getD 0) : whoN ws (T * ws.sum + preW ws k + w) = k := by
  have h1 : preW ws k + w < ws.sum := by
    have h2 := cyL_at ws 0 k w hk hw
    rw [← cyL_len ws 0]
    exact (List.getElem?_eq_some_iff.1 h2).1
  unfold whoN
  rw [show (T * ws.sum + preW ws k + w) % ws.sum = preW ws k + w by rw [Nat.add_assoc, Nat.mul_add_mod_self_right, Nat.mod_eq_of_lt h1], cyL_at ws 0 k w hk hw]
  simp
theorem whoN_lt {ws : List Nat} (h : 0 < ws.sum) (i : Nat) : whoN ws i < ws.length := by
  have h1 := Nat.mod_lt i h
  have h2 : i % ws.sum < (cyL ws 0).length := by rw [cyL_len]; exact h1
  unfold whoN
  rw [List.getElem?_eq_getElem h2]
  have := cyL_mem ws 0 _ (List.getElem_mem h2)
  rw [Option.getD_some]
  omega
theorem cntC_list (l : List Nat) (x : Nat) : ∀ n, n ≤ l.length → cntC (fun j => l[j]?.getD 0) x n = (l.take n).count x
  | 0, _ => by simp [cntC]
  | n + 1, h => by
    unfold cntC
    rw [cntC_list l x n (by omega), List.take_add_one, List.count_append, List.getElem?_eq_getElem (by omega)]
    simp [List.count_singleton]
theorem cntC_mono (c : Nat → Nat) (x : Nat) : ∀ {a b : Nat}, a ≤ b → cntC c x a ≤ cntC c x b := by
  intro a b h
  induction b with
  | zero => rw [show a = 0 by omega]; exact Nat.le_refl _
  | succ b ih =>
    rcases (show a = b + 1 ∨ a ≤ b by omega) with rfl | q
    · exact Nat.le_refl _
    · have := ih q
      show _ ≤ cntC c x b + _
      omega
theorem cntC_per {W : Nat} (cy : Nat → Nat) (x : Nat) : ∀ (T r : Nat), r ≤ W → cntC (fun i => cy (i % W)) x (T * W + r) = T * cntC cy x W + cntC cy x r := by
  intro T
  induction T with
  | zero =>
    intro r
    induction r with
    | zero => intro _; simp [cntC]
    | succ r ih =>
      intro hr
      have := ih (by omega)
      rw [Nat.zero_mul, Nat.zero_add, Nat.zero_mul, Nat.zero_add] at this ⊢
      unfold cntC
      rw [this, Nat.mod_eq_of_lt (by omega)]
  | succ T ihT =>
    intro r
    induction r with
    | zero =>
      intro _
      have := ihT W (Nat.le_refl _)
      rw [Nat.add_zero, Nat.succ_mul, this, Nat.succ_mul]
      show _ = _ + 0
      omega
    | succ r ih =>
      intro hr
      have := ih (by omega)
      rw [show (T + 1) * W + (r + 1) = ((T + 1) * W + r) + 1 by omega]
      show cntC (fun i => cy (i % W)) x ((T + 1) * W + r) + (if cy (((T + 1) * W + r) % W) = x then 1 else 0) = (T + 1) * cntC cy x W + (cntC cy x r + if cy r = x then 1 else 0)
      rw [this, Nat.mul_add_mod_self_right, Nat.mod_eq_of_lt (by omega)]
      omega
/-- How often a position takes. -/
theorem who_cnt {ws : List Nat} (h0 : 0 < ws.sum) (i x : Nat) : ∃ r, r ≤ ws[x]?.getD 0 ∧ cntC (whoN ws) x i = (i / ws.sum) * (ws[x]?.getD 0) + r := by
  have h1 := cntC_per (W := ws.sum) (fun j => (cyL ws 0)[j]?.getD 0) x (i / ws.sum) (i % ws.sum) (Nat.le_of_lt (Nat.mod_lt _ h0))
  have h2 := cyL_count ws 0 x
  rw [Nat.zero_add] at h2
  have h3 : cntC (fun j => (cyL ws 0)[j]?.getD 0) x ws.sum = ws[x]?.getD 0 := by
    rw [cntC_list _ _ _ (by rw [cyL_len]; exact Nat.le_refl _), List.take_of_length_le (by rw [cyL_len]; exact Nat.le_refl _), h2]
  refine ⟨cntC (fun j => (cyL ws 0)[j]?.getD 0) x (i % ws.sum), ?_, ?_⟩
  · rw [← h3]
    exact cntC_mono _ _ (Nat.le_of_lt (Nat.mod_lt _ h0))
  · rw [h3, show i / ws.sum * ws.sum + i % ws.sum = i by rw [Nat.mul_comm]; exact Nat.div_add_mod i ws.sum] at h1
    exact h1
end Go.Proofs.Ytfchmmojhfjibaa
