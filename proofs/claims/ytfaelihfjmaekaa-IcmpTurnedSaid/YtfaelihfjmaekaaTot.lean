/- The checksum in closed form: a sum of words, modulo 65535. -/
import Derived.Test.YtfaelihfjmaekaaOf
import Derived.Test.YtfaelihfjmaekaaFold
namespace Go.Proofs.Ytfaelihfjmaekaa
open Go.RowKit
--CUT
/-- What a byte at place k weighs. -/
def wgt (k : Nat) (x : Int) : Int := if k % 2 = 0 then x * 256 else x
/-- The sum of n bytes as words. -/
def tot (f : Nat → Int) : Nat → Int
  | 0 => 0
  | n + 1 => tot f n + wgt n (f n)
/-- .. in ones' complement. -/
def nrm (s : Int) : Int := if s = 0 then 0 else (s - 1) % 65535 + 1
theorem nrm_bd (s : Int) (_ : 0 ≤ s) : 0 ≤ nrm s ∧ nrm s ≤ 65535 ∧ (0 < s → 1 ≤ nrm s) := by
  unfold nrm
  split <;> omega
theorem pl_nrm (s b : Int) (hs : 0 ≤ s) (hb : 0 ≤ b) (hb' : b ≤ 65535) : pl (nrm s) b = nrm (s + b) := by
  unfold nrm pl
  by_cases h0 : s = 0
  · subst h0
    rw [if_pos rfl]
    by_cases h1 : b = 0
    · subst h1
      decide
    · rw [if_neg (by omega), if_neg (by omega)]
      omega
  · rw [if_neg h0, if_neg (show ¬ s + b = 0 by omega)]
    split <;> omega
theorem wgt_bd {k : Nat} {x : Int} (hx : 0 ≤ x ∧ x ≤ 255) : 0 ≤ wgt k x ∧ wgt k x ≤ 65535 := by
  unfold wgt
  split <;> omega
theorem tot_nonneg {f : Nat → Int} (hf : Byt f) : ∀ n, 0 ≤ tot f n
  | 0 => Int.le_refl 0
  | n + 1 => by
    have a := tot_nonneg hf n
    have b := (wgt_bd (k := n) (hf n)).1
    show 0 ≤ tot f n + wgt n (f n)
    omega
theorem fld_tot {f : Nat → Int} (hf : Byt f) : ∀ n, (fld f (0, false) n).1 = nrm (tot f n)
  | 0 => rfl
  | n + 1 => by
    have ih := fld_tot hf n
    have ho := fld_odd f 0 n
    have hw := wgt_bd (k := n) (hf n)
    have e : (fld f (0, false) (n + 1)).1 = pl (fld f (0, false) n).1 (wgt n (f n)) := by
      show (stp (fld f (0, false) n) (f n)).1 = _
      unfold stp wgt
      rw [ho]
      rcases Nat.mod_two_eq_zero_or_one n with h | h <;> simp [h]
    rw [e, ih]
    exact pl_nrm _ _ (tot_nonneg hf n) hw.1 hw.2
theorem ofv_tot {f : Nat → Int} (hf : Byt f) (n : Nat) : ofv f n = 65535 - nrm (tot f n) := by
  unfold ofv
  rw [fld_tot hf]
/-- When the checksum is 0. -/
theorem ofv_zero {f : Nat → Int} (hf : Byt f) (n : Nat) : ofv f n = 0 ↔ 0 < tot f n ∧ tot f n % 65535 = 0 := by
  rw [ofv_tot hf]
  have h := tot_nonneg hf n
  unfold nrm
  split <;> omega
theorem tot_same {f g : Nat → Int} : ∀ n, (∀ k, k < n → g k = f k) → tot g n = tot f n
  | 0, _ => rfl
  | n + 1, h => by
    show tot g n + wgt n (g n) = tot f n + wgt n (f n)
    rw [tot_same n fun k hk => h k (by omega), h n (by omega)]
/-- One byte another one. -/
theorem tot_upd (f : Nat → Int) (p : Nat) (v : Int) : ∀ n, p < n → tot (upd f p v) n = tot f n + (wgt p v - wgt p (f p))
  | 0, h => absurd h (by omega)
  | n + 1, h => by
    show tot (upd f p v) n + wgt n (upd f p v n) = tot f n + wgt n (f n) + (wgt p v - wgt p (f p))
    by_cases e : n = p
    · subst e
      have e1 : tot (upd f n v) n = tot f n := tot_same n fun k hk => by unfold upd; rw [if_neg (by omega)]
      have e2 : upd f n v n = v := by unfold upd; rw [if_pos rfl]
      rw [e1, e2]
      omega
    · have e2 : upd f p v n = f n := by unfold upd; rw [if_neg e]
      rw [tot_upd f p v n (by omega), e2]
      omega
/-- The first byte's words are above 0, if it is. -/
theorem tot_pos {f : Nat → Int} (hf : Byt f) (h : 0 < f 0) : ∀ n, 0 < n → 0 < tot f n
  | 0, hn => absurd hn (by omega)
  | 1, _ => by
    show 0 < 0 + wgt 0 (f 0)
    unfold wgt
    simp
    omega
  | n + 2, _ => by
    have a := tot_pos hf h (n + 1) (by omega)
    have b := (wgt_bd (k := n + 1) (hf (n + 1))).1
    show 0 < tot f (n + 1) + wgt (n + 1) (f (n + 1))
    omega
/-- A header whose sum is laid at an even place p has the checksum 0. -/
theorem ofv_laid {f : Nat → Int} (hf : Byt f) (p n : Nat) (hp : p % 2 = 0) (hn : p + 1 < n) (h0 : f p = 0) (h1 : f (p + 1) = 0) (hpos : 0 < tot f n) :
    ofv (upd (upd f p (ofv f n / 256)) (p + 1) (ofv f n % 256)) n = 0 := by
  have hb := ofv_bd hf n
  have hc := ofv_tot hf n
  have hf1 : Byt (upd f p (ofv f n / 256)) := upd_byt hf p (by omega)
  have hf2 : Byt (upd (upd f p (ofv f n / 256)) (p + 1) (ofv f n % 256)) := upd_byt hf1 (p + 1) (by omega)
  rw [ofv_zero hf2, tot_upd _ _ _ n (by omega), tot_upd _ _ _ n (by omega)]
  have e : upd f p (ofv f n / 256) (p + 1) = 0 := by unfold upd; rw [if_neg (by omega)]; exact h1
  rw [e, h0]
  have w1 : ∀ x, wgt p x = x * 256 := fun x => by unfold wgt; rw [if_pos hp]
  have w2 : ∀ x, wgt (p + 1) x = x := fun x => by unfold wgt; rw [if_neg (by omega)]
  rw [w1, w1, w2, w2]
  unfold nrm at hc
  rw [if_neg (by omega)] at hc
  omega
/-- Of a header whose checksum is 0 the sum that it bears is the one that is made, or both are no sum. -/
theorem ofv_read {f : Nat → Int} (hf : Byt f) (p n : Nat) (hp : p % 2 = 0) (hn : p + 1 < n) (hpos : 0 < tot (upd (upd f p 0) (p + 1) 0) n) (h : ofv f n = 0) :
    ofv (upd (upd f p 0) (p + 1) 0) n = (if f p = 255 ∧ f (p + 1) = 255 then 0 else f p * 256 + f (p + 1)) := by
  have hf1 : Byt (upd f p 0) := upd_byt hf p (by omega)
  have hf2 : Byt (upd (upd f p 0) (p + 1) 0) := upd_byt hf1 (p + 1) (by omega)
  rw [ofv_tot hf2]
  have hz := (ofv_zero hf n).1 h
  have e : upd f p 0 (p + 1) = f (p + 1) := by unfold upd; rw [if_neg (by omega)]
  have et : tot (upd (upd f p 0) (p + 1) 0) n = tot f n - f p * 256 - f (p + 1) := by
    rw [tot_upd _ _ _ n (by omega), tot_upd _ _ _ n (by omega), e]
    have w1 : ∀ x, wgt p x = x * 256 := fun x => by unfold wgt; rw [if_pos hp]
    have w2 : ∀ x, wgt (p + 1) x = x := fun x => by unfold wgt; rw [if_neg (by omega)]
    rw [w1, w1, w2, w2]
    omega
  rw [et] at hpos ⊢
  have b0 := hf p
  have b1 := hf (p + 1)
  unfold nrm
  rw [if_neg (by omega)]
  split <;> omega
/-- One bit turned: the checksum is not 0 any more. -/
theorem ofv_bit {f : Nat → Int} (hf : Byt f) (p n : Nat) (hn : p < n) (v : Int) (hv : 0 ≤ v ∧ v ≤ 255) (j : Nat) (hj : j < 8) (hd : v - f p = 2 ^ j ∨ f p - v = 2 ^ j) (h : ofv f n = 0) : ofv (upd f p v) n ≠ 0 := by
  have hf1 : Byt (upd f p v) := upd_byt hf p hv
  intro hc
  have a := (ofv_zero hf n).1 h
  have b := (ofv_zero hf1 n).1 hc
  rw [tot_upd _ _ _ n hn] at b
  have e : wgt p v - wgt p (f p) = wgt p (v - f p) := by unfold wgt; split <;> omega
  rw [e] at b
  obtain rfl | rfl | rfl | rfl | rfl | rfl | rfl | rfl : j = 0 ∨ j = 1 ∨ j = 2 ∨ j = 3 ∨ j = 4 ∨ j = 5 ∨ j = 6 ∨ j = 7 := by omega
  all_goals
    simp only [show (2 : Int) ^ 0 = 1 from rfl, show (2 : Int) ^ 1 = 2 from rfl, show (2 : Int) ^ 2 = 4 from rfl, show (2 : Int) ^ 3 = 8 from rfl, show (2 : Int) ^ 4 = 16 from rfl, show (2 : Int) ^ 5 = 32 from rfl, show (2 : Int) ^ 6 = 64 from rfl, show (2 : Int) ^ 7 = 128 from rfl] at hd
    unfold wgt at b
    split at b <;> omega
end Go.Proofs.Ytfaelihfjmaekaa
