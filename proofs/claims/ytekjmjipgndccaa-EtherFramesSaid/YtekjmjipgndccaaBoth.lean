/- The program's Parse and the document's, at any text; a text that was read is the text of what was read, and back. -/
import Derived.Test.YtekjmjipgndccaaKnown
namespace Go.Proofs.Ytekjmjipgndccaa
open Go.RowKit
theorem dig_dgt (x : Int) (h0 : 0 ≤ x) (h1 : x ≤ 15) : dig (dgt x) = x := of_sixteen (p := fun x => dig (dgt x) = x) (by decide) x h0 h1
theorem dgt_dig (c : Int) (h : dig c ≤ 15) : dgt (dig c) = c := by
  unfold dig at *
  unfold dgt
  split <;> rename_i h1
  · rw [if_pos h1] at h
    split <;> omega
  · rw [if_neg h1] at h
    split <;> rename_i h2
    · rw [if_pos h2] at h
      split <;> omega
    · rw [if_neg h2] at h
      omega
/-- A text as numbers. -/
theorem str_chr (s : ByteArray) (n : Nat) (hn : s.size = n) : strOfNums (nums n (chr s)) = s := by
  subst hn
  apply ByteArray.ext
  refine Array.ext' ?_
  rw [strOfNums_data]
  refine List.ext_getElem? fun k => ?_
  have z : s.data.toList.length = s.size := rfl
  unfold nums
  simp only [List.map_map, List.getElem?_map]
  by_cases hk : k < s.size
  · rw [List.getElem?_range hk, List.getElem?_eq_getElem (by omega)]
    simp [chr, List.getD, List.getElem?_eq_getElem (show k < s.data.toList.length by omega)]
  · rw [List.getElem?_eq_none (by simp; omega), List.getElem?_eq_none (by omega)]
    rfl
theorem pval_byt (s : ByteArray) (hok : ∀ i, i < 6 → okAt s i) : ∀ i, i < 6 → 0 ≤ pval s i ∧ pval s i ≤ 255 := fun i hi => by
  obtain ⟨h1, h2, _⟩ := hok i hi
  have a := (dig_bd (chr s (3 * i))).1
  have b := (dig_bd (chr s (3 * i + 1))).1
  unfold pval
  omega
theorem tb_chr (s : ByteArray) (hok : ∀ i, i < 6 → okAt s i) (p : Nat) (hp : p < 17) : tb (pval s) p = chr s p := by
  obtain ⟨h1, h2, h3⟩ := hok (p / 3) (by omega)
  have a := (dig_bd (chr s (3 * (p / 3)))).1
  have b := (dig_bd (chr s (3 * (p / 3) + 1))).1
  unfold tb
  by_cases e0 : p % 3 = 0
  · rw [if_pos e0]
    have q : pval s (p / 3) / 16 = dig (chr s (3 * (p / 3))) := by unfold pval; omega
    rw [q, dgt_dig _ h1]
    congr 1
    omega
  · rw [if_neg e0]
    by_cases e1 : p % 3 = 1
    · rw [if_pos e1]
      have q : pval s (p / 3) % 16 = dig (chr s (3 * (p / 3) + 1)) := by unfold pval; omega
      rw [q, dgt_dig _ h2]
      congr 1
      omega
    · rw [if_neg e1]
      have e := h3 (by omega)
      have q : 3 * (p / 3) + 2 = p := by omega
      rw [q] at e
      exact e.symm
def byt6 (f : Nat → Int) (k : Nat) : Int := if k < 6 then f k else 0
theorem byt6_byt {f : Nat → Int} (h : ∀ i, i < 6 → 0 ≤ f i ∧ f i ≤ 255) : Byt (byt6 f) := fun k => by
  unfold byt6
  split
  · exact h k (by assumption)
  · omega
theorem byt6_arr (f : Nat → Int) : arr6 (byt6 f) = arr6 f := rfl
theorem tb_byt6 (f : Nat → Int) (p : Nat) (hp : p < 17) : tb (byt6 f) p = tb f p := by
  unfold tb byt6
  rw [if_pos (show p / 3 < 6 by omega)]
/-- What Parse tells, the program's and the document's. -/
theorem parse_both (s : ByteArray) (hs : s.size ≤ 9223372036854775807) : ∃ (V : Nat → Int) (x : Int), Byt V ∧ (x = 0 ∨ x = 5) ∧ (x = 0 → rtx V 6 = s) ∧
    (∀ w, Calls Try.prog 13 #[.string s] w fun e w' => e = .returned (.tuple #[.agg (arr6 V), .int .i64 x]) ∧ Below w.heap.size w w') ∧
    (∀ w, Calls Try.prog 14 #[.string s] w fun e w' => e = .returned (.tuple #[.agg (arr6 V), .int .i64 x]) ∧ Below w.heap.size w w') := by
  have zero : Byt fun _ => 0 := fun _ => ⟨Int.le_refl 0, (by decide : (0 : Int) ≤ 255)⟩
  by_cases h17 : s.size = 17
  · by_cases hok : ∀ i, i < 6 → okAt s i
    · have hb := byt6_byt (pval_byt s hok)
      refine ⟨byt6 (pval s), 0, hb, .inl rfl, fun _ => ?_, fun w => ?_, fun w => ?_⟩
      · rw [← rtx_tb _ hb, nums_congr (g := tb (byt6 (pval s))) (f := chr s) fun k hk => (tb_byt6 _ k hk).trans (tb_chr s hok k hk)]
        exact str_chr s 17 h17
      · exact parse_any s h17 6 (Nat.le_refl _) ((pOk_all s).1 hok) (fun h => absurd h (by omega)) w
      · exact rparse_good s h17 hok w
    · refine ⟨fun _ => 0, 5, zero, .inr rfl, fun h => absurd h (by omega), fun w => ?_, fun w => ?_⟩
      · have hno : ¬ ∀ k, k < 6 → pOk s k := fun h => hok ((pOk_all s).2 h)
        have first : ∃ j, j < 6 ∧ (∀ i, i < j → pOk s i) ∧ ¬ pOk s j := by
          refine Classical.byContradiction fun hc => hno ?_
          have all : ∀ k, k ≤ 6 → ∀ i, i < k → pOk s i := fun k => by
            induction k with
            | zero => intro _ i hi; omega
            | succ k ih =>
              intro hk i hi
              by_cases e : i = k
              · subst e
                exact Classical.byContradiction fun hn => hc ⟨i, by omega, ih (by omega), hn⟩
              · exact ih (by omega) i (by omega)
          exact all 6 (Nat.le_refl _)
        obtain ⟨j, hj, h1, h2⟩ := first
        have e := parse_any s h17 j (by omega) h1 (fun _ => h2) w
        rw [if_neg (by omega)] at e
        exact e
      · have first : ∃ j, j < 6 ∧ (∀ i, i < j → okAt s i) ∧ ¬ okAt s j := by
          refine Classical.byContradiction fun hc => hok ?_
          have all : ∀ k, k ≤ 6 → ∀ i, i < k → okAt s i := fun k => by
            induction k with
            | zero => intro _ i hi; omega
            | succ k ih =>
              intro hk i hi
              by_cases e : i = k
              · subst e
                exact Classical.byContradiction fun hn => hc ⟨i, by omega, ih (by omega), hn⟩
              · exact ih (by omega) i (by omega)
          exact all 6 (Nat.le_refl _)
        obtain ⟨j, hj, h1, h2⟩ := first
        exact rparse_bad s h17 j hj h1 h2 w
  · exact ⟨fun _ => 0, 5, zero, .inr rfl, fun h => absurd h (by omega), fun w => parse_len s h17 hs w, fun w => rparse_len s h17 hs w⟩
/-- An address's text is read as the address. -/
theorem parse_text (d : Nat → Int) (hd : Byt d) (w : World) : Calls Try.prog 13 #[.string (rtx d 6)] w fun e w' => e = .returned (.tuple #[.agg (arr6 d), .int .i64 0]) ∧ Below w.heap.size w w' := by
  have hsz : (rtx d 6).size = 17 := by rw [← rtx_tb d hd, strOfNums_size, nums_len]
  have hc : ∀ p, p < 17 → chr (rtx d 6) p = tb d p := fun p hp => by
    have hb : 0 ≤ tb d p ∧ tb d p ≤ 255 := by
      have h1 := hd (p / 3)
      unfold tb dgt
      split
      · split <;> omega
      · split
        · split <;> omega
        · omega
    rw [← rtx_tb d hd]
    unfold chr
    rw [strOfNums_data]
    have e : ((nums 17 (tb d)).map fun n => UInt8.ofNat n.toNat).getD p 0 = UInt8.ofNat (tb d p).toNat := by
      simp [nums, List.getD, List.getElem?_map, List.getElem?_range hp]
    rw [e]
    simp
    omega
  have h1 : ∀ k, k < 6 → dig (chr (rtx d 6) (3 * k)) = d k / 16 ∧ dig (chr (rtx d 6) (3 * k + 1)) = d k % 16 := fun k hk => by
    have b := hd k
    rw [hc (3 * k) (by omega), hc (3 * k + 1) (by omega)]
    unfold tb
    rw [if_pos (by omega), if_neg (by omega), if_pos (by omega), show 3 * k / 3 = k by omega, show (3 * k + 1) / 3 = k by omega]
    exact ⟨dig_dgt _ (by omega) (by omega), dig_dgt _ (by omega) (by omega)⟩
  have hok : ∀ k, k < 6 → pOk (rtx d 6) k := fun k hk => by
    have b := hd k
    refine ⟨fun h0 => ?_, by rw [(h1 k hk).1]; omega, by rw [(h1 k hk).2]; omega⟩
    rw [hc (3 * k - 1) (by omega)]
    unfold tb
    rw [if_neg (by omega), if_neg (by omega)]
  have hv : arr6 (pval (rtx d 6)) = arr6 d := by
    have q : ∀ k, k < 6 → pval (rtx d 6) k = d k := fun k hk => by
      unfold pval
      rw [(h1 k hk).1, (h1 k hk).2]
      omega
    unfold arr6
    rw [q 0 (by omega), q 1 (by omega), q 2 (by omega), q 3 (by omega), q 4 (by omega), q 5 (by omega)]
  have e := parse_any (rtx d 6) hsz 6 (Nat.le_refl _) hok (fun h => absurd h (by omega)) w
  rw [if_pos rfl, hv] at e
  exact e
end Go.Proofs.Ytekjmjipgndccaa
