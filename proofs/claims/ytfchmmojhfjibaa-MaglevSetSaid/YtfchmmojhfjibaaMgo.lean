/- Stage 19: lists that are turned round: pure words; slices of lists. -/
import Derived.Test.YtfchmmojhfjibaaMgk
namespace Go.Proofs.Ytfchmmojhfjibaa
set_option maxRecDepth 100000
open Go.RowKit Go.Shelf
theorem perm_sum {x y : List Int} (h : x.Perm y) : x.sum = y.sum := by
  induction h with
  | nil => rfl
  | cons a _ ih => rw [List.sum_cons, List.sum_cons, ih]
  | swap a b l => rw [List.sum_cons, List.sum_cons, List.sum_cons, List.sum_cons]; omega
  | trans _ _ h1 h2 => rw [h1, h2]
theorem sumN_take (l : List Wt) : ∀ n, n ≤ l.length → sumN l n = ((l.take n).map Wt.w).sum
  | 0, _ => by simp [sumN]
  | n + 1, h => by
    unfold sumN
    rw [sumN_take l n (by omega), List.take_add_one, List.map_append, List.sum_append, List.getElem?_eq_getElem (by omega), wa_at (by omega)]
    simp
theorem two_iff (l : List Wt) : (∀ i k, i < l.length → k < i → (wa l k).s ≠ (wa l i).s) ↔ (l.map Wt.s).Nodup := by
  unfold List.Nodup
  rw [List.pairwise_map, List.pairwise_iff_getElem]
  constructor
  · intro h i j hi hj hij
    have := h j i hj hij
    rwa [wa_at hi, wa_at hj] at this
  · intro h i k hi hk
    rw [wa_at hi, wa_at (by omega)]
    exact h k i (by omega) hi hk
theorem okL_perm {l k : List Wt} {m : Int} (h : OkL l m) (p : l.Perm k) : OkL k m := by
  refine ⟨h.sz, by rw [← p.length_eq]; exact h.len, fun i hi => ?_, ?_, ?_⟩
  · have hm : wa k i ∈ l := p.mem_iff.2 (wa_mem hi)
    obtain ⟨j, hj, e⟩ := List.getElem_of_mem hm
    have := h.one j hj
    rwa [wa_at hj, e] at this
  · rw [two_iff, ← (p.map Wt.s).nodup_iff, ← two_iff]
    exact h.two
  · have := h.sum
    rw [sumN_take _ _ (Nat.le_refl _), List.take_length] at this ⊢
    rw [← perm_sum (p.map Wt.w)]
    exact this
theorem may_perm {l k : List Wt} {m : Int} (p : l.Perm k) : mayW l m = mayW k m := by
  rw [Bool.eq_iff_iff, mayW_iff, mayW_iff]
  exact ⟨fun h => okL_perm h p, fun h => okL_perm h p.symm⟩
theorem tab_perm {l k : List Wt} {m : Nat} (h : OkL l (m : Int)) (p : l.Perm k) {s : Nat} (hs : s < m) :
    (tabV l m s = -1 ∧ tabV k m s = -1) ∨ ∃ i j : Nat, tabV l m s = (i : Int) ∧ tabV k m s = (j : Int) ∧ i < l.length ∧ j < k.length ∧ (wa l i).s = (wa k j).s :=
  tab_same h.sz (ord_same h.two (okL_perm h p).two fun _ => p.mem_iff) hs
theorem wa_app (x y : List Wt) (i : Nat) : wa (x ++ y) i = if i < x.length then wa x i else wa y (i - x.length) := by
  unfold wa
  rw [List.getElem?_append]
  split <;> rfl
theorem wa_drop (l : List Wt) (K i : Nat) : wa (l.drop K) i = wa l (K + i) := by
  unfold wa
  rw [List.getElem?_drop]
theorem wa_take (l : List Wt) {K i : Nat} (h : i < K) : wa (l.take K) i = wa l i := by
  unfold wa
  rw [List.getElem?_take, if_pos h]
/-- A list turned round by K. -/
def rotL (l : List Wt) (K : Nat) : List Wt := l.drop K ++ l.take K
theorem rotL_perm (l : List Wt) (K : Nat) : l.Perm (rotL l K) := by
  have h := List.perm_append_comm (l₁ := l.take K) (l₂ := l.drop K)
  rwa [List.take_append_drop] at h
theorem rotL_len (l : List Wt) (K : Nat) : (rotL l K).length = l.length := (rotL_perm l K).length_eq.symm
theorem wf_rot (l : List Wt) {K : Nat} (hK : K ≤ l.length) (k : Nat) (hk : k < l.length * 2) : wf (rotL l K) k = if k < (l.length - K) * 2 then wf l (K * 2 + k) else wf l (k - (l.length - K) * 2) := by
  unfold wf rotL
  rw [wa_app, List.length_drop]
  by_cases h : k < (l.length - K) * 2
  · rw [if_pos h, if_pos (show k / 2 < l.length - K by omega), wa_drop, show (K * 2 + k) % 2 = k % 2 by omega, show (K * 2 + k) / 2 = K + k / 2 by omega]
  · rw [if_neg h, if_neg (show ¬ k / 2 < l.length - K by omega), wa_take _ (by omega), show (k - (l.length - K) * 2) % 2 = k % 2 by omega, show (k - (l.length - K) * 2) / 2 = k / 2 - (l.length - K) by omega]
theorem slice_toW (A : Option Addr) (n c hi : Nat) (h2 : hi ≤ n) (h3 : n ≤ c) (_h4 : c ≤ 9223372036854775807) : ∃ D : Option Addr,
    (∀ W, (Instr.sliceAt 22 (.slice A n c) none (some (.int .i64 (hi : Int))) none).run Try.prog W = .ok (.slice D hi c) W) ∧ (∀ (W : World) (B : Nat) (f : Nat → Value), RdC W B A (n * 2) f → RdC W B D (hi * 2) f) := by
  have i1 : (0 : Int) ≤ (hi : Int) := by omega
  have i2 : (hi : Int) ≤ (c : Int) := by omega
  have i3 : (hi : Int) ≤ (n : Int) := by omega
  have hid : ∀ A : Option Addr, Option.map (fun x => Addr.add x 0) A = A := fun A => by
    rcases A with _ | ⟨b, o, i⟩
    · rfl
    · cases i <;> simp [Addr.add]
  refine ⟨if c = 0 then A else Option.map (fun x => x.add 0) A, fun W => ?_, fun W B f hr => ?_⟩
  · go_simp
  · rw [hid, ite_self]
    exact hr.less (by omega)
theorem slice_anyW (A : Option Addr) (n c lo : Nat) (h2 : lo ≤ n) (h3 : n ≤ c) (_h4 : c ≤ 9223372036854775807) : ∃ D : Option Addr,
    (∀ W, (Instr.sliceAt 22 (.slice A n c) (some (.int .i64 (lo : Int))) none none).run Try.prog W = .ok (.slice D (n - lo) (c - lo)) W) ∧ (∀ (W : World) (B : Nat) (f : Nat → Value), RdC W B A (n * 2) f → RdC W B D ((n - lo) * 2) (fun k => f (lo * 2 + k))) := by
  have i1 : (0 : Int) ≤ (lo : Int) := by omega
  have i2 : (lo : Int) ≤ (n : Int) := by omega
  have i3 : (n : Int) ≤ (c : Int) := by omega
  have i4 : (0 : Int) ≤ (n : Int) := by omega
  have i5 : (lo : Int) ≤ (c : Int) := by omega
  refine ⟨if c = lo then A else Option.map (fun x => x.add (lo * 2)) A, fun W => ?_, fun W B f hr => ?_⟩
  · go_simp
  · have q := hr.cut (lo := lo * 2) (by omega) (if c = lo then A else Option.map (fun x => x.add (lo * 2)) A) fun b off e q => by
      rw [if_neg (by omega), e]
      simp [Addr.add]
    rwa [← Nat.sub_mul] at q
end Go.Proofs.Ytfchmmojhfjibaa
