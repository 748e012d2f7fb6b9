/- Sums of bytes, cut, padded, with their checksum behind (pure). -/
import Derived.Test.YtfaelihfjmaekaaOf
namespace Go.Proofs.Ytfaelihfjmaekaa
open Go.RowKit

theorem cut_at (cut : Int) (n : Nat) (hn : n ≤ 2000) : ∃ m : Nat, m ≤ n ∧ wrap64 ((IntKind.u64.wrap cut).tmod ((n : Int) + 1)) = m := by
  have h0 : 0 ≤ IntKind.u64.wrap cut := by simp only [IntKind.wrap_u64]; omega
  rw [Int.tmod_eq_emod_of_nonneg h0]
  have h1 := Int.emod_nonneg (IntKind.u64.wrap cut) (b := (n : Int) + 1) (by omega)
  have h2 := Int.emod_lt_of_pos (IntKind.u64.wrap cut) (b := (n : Int) + 1) (by omega)
  generalize IntKind.u64.wrap cut % ((n : Int) + 1) = r at *
  refine ⟨r.toNat, by omega, ?_⟩
  unfold wrap64
  omega
theorem fld_cut (f : Nat → Int) (p : Int × Bool) (m : Nat) : ∀ n, fld (fun k => f (m + k)) (fld f p m) n = fld f p (m + n)
  | 0 => rfl
  | n + 1 => by
    show stp (fld (fun k => f (m + k)) (fld f p m) n) (f (m + n)) = _
    rw [fld_cut f p m n]
    rfl

theorem fld_same {f g : Nat → Int} (p : Int × Bool) : ∀ n, (∀ k, k < n → g k = f k) → fld g p n = fld f p n
  | 0, _ => rfl
  | n + 1, h => by
    show stp (fld g p n) (g n) = stp (fld f p n) (f n)
    rw [fld_same p n (fun k hk => h k (by omega)), h n (by omega)]
theorem cat_byt {f g : Nat → Int} (n : Nat) (hf : Byt f) (hg : Byt g) : Byt (cat n f g) := fun k => by
  unfold cat
  split
  · exact hf k
  · exact hg (k - n)
theorem ofv_same {f g : Nat → Int} (n : Nat) (h : ∀ k, k < n → g k = f k) : ofv g n = ofv f n := by
  unfold ofv
  rw [fld_same _ n h]
/-- A byte 0 behind an odd number of bytes. -/
theorem ofv_pad {f : Nat → Int} (hf : Byt f) (n : Nat) (_ : n % 2 = 1) : ofv (cat n f fun _ => 0) (n + 1) = ofv f n := by
  have hb := fld_bd (p := (0, false)) hf ⟨by omega, by omega⟩ n
  have e : fld (cat n f fun _ => 0) (0, false) n = fld f (0, false) n := fld_same _ n fun k hk => by simp [cat, hk]
  unfold ofv
  show 65535 - (stp (fld (cat n f fun _ => 0) (0, false) n) (cat n f (fun _ => 0) n)).1 = _
  rw [e]
  have c : cat n f (fun _ => 0) n = 0 := by simp [cat]
  rw [c]
  unfold stp pl
  cases (fld f (0, false) n).2 <;> simp <;> intro h <;> omega
/-- A checksum behind its bytes. -/
theorem ofv_own {f g : Nat → Int} (hf : Byt f) (hg : Byt g) (n : Nat) (hn : n % 2 = 0) (h : g 0 * 256 + g 1 = ofv f n) : ofv (cat n f g) (n + 2) = 0 := by
  have hb := fld_bd (p := (0, false)) hf ⟨by omega, by omega⟩ n
  have e : fld (cat n f g) (0, false) n = fld f (0, false) n := fld_same _ n fun k hk => by simp [cat, hk]
  have w := fld_word (cat_byt n hf hg) (s := 0) ⟨by omega, by omega⟩ (n / 2)
  rw [show 2 * (n / 2) = n by omega, e] at w
  have c0 : cat n f g n = g 0 := by simp [cat]
  have c1 : cat n f g (n + 1) = g 1 := by simp [cat]; intro h; omega
  rw [c0, c1, h] at w
  unfold ofv at w ⊢
  rw [w]
  unfold pl
  split <;> omega

end Go.Proofs.Ytfaelihfjmaekaa
