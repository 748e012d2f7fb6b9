/- Stage 17: the landed primes. -/
import Derived.Test.YtfchmmojhfjibaaPma
namespace Go.Proofs.Ytfchmmojhfjibaa
set_option maxRecDepth 100000
open Go.RowKit Go.Shelf
/-- What the laws ask of the program. -/
structure PmP : Prop where
  is_ : ∀ (n : Int) (w : World), Calls Try.prog 32 #[.int .i64 n] w (ret (.bool (isP n)) w)
  size : ∀ (n : Int) (w : World), Calls Try.prog 19 #[.int .i64 n] w (ret (.bool (szP n)) w)
  least : ∀ (n : Int) (w : World), Calls Try.prog 43 #[.int .i64 n] w (ret (.int .i64 (lst n : Int)) w)
end Go.Proofs.Ytfchmmojhfjibaa
namespace Go.Proofs.Ytfchmmojhfjibaa
set_option maxRecDepth 100000
open Go.RowKit Go.Shelf
theorem sq_low {d N : Nat} (h : d * d ≤ N) (hN : N ≤ 1048576) : d ≤ 1024 := by
  rcases Nat.lt_or_ge 1024 d with q | q
  · have := Nat.mul_le_mul (show 1025 ≤ d by omega) (show 1025 ≤ d by omega)
    omega
  · exact q
theorem sq_wrap {d : Nat} (h : d ≤ 1025) : IntKind.i64.wrap ((d : Int) * (d : Int)) = ((d * d : Nat) : Int) := by
  have := Nat.mul_le_mul h h
  rw [IntKind.wrap_i64, Int.natCast_mul]
  have e : (d : Int) * (d : Int) = ((d * d : Nat) : Int) := (Int.natCast_mul d d).symm
  omega
/-- What no number from 2 on divides, up to its root, is its own least divisor; what one divides is not. -/
theorem ld_none {N d : Nat} (hN : 2 ≤ N) (h : ∀ k, 2 ≤ k → k < d → N % k ≠ 0) (hd : N < d * d) : ld N = N :=
  ld_sq hN fun k hk hkn => h k hk (by
    rcases Nat.lt_or_ge k d with q | q
    · exact q
    · have := Nat.mul_le_mul q q
      omega)
theorem ld_this {N d : Nat} (hN : 2 ≤ N) (h2 : 2 ≤ d) (h : ∀ k, 2 ≤ k → k < d → N % k ≠ 0) (hd : N % d = 0) : ld N = d :=
  ld_is hN ⟨h2, hd, h⟩
set_option maxHeartbeats 1000000 in
theorem pleast_any (n : Int) (w : World) : Calls Try.prog 43 #[.int .i64 n] w (ret (.int .i64 (lst n : Int)) w) := by
  by_cases h1 : n < 2
  · have hl : lst n = 0 := by unfold lst; rw [if_neg (by omega)]
    rw [hl]
    clear hl
    go_enter Try.func43, Try.ntmps43
    go_wp2_with fail
    go_ret
    exact ⟨rfl, Below.refl _ _⟩
  by_cases h2 : 1048576 < n
  · have hl : lst n = 0 := by unfold lst; rw [if_neg (by omega)]
    rw [hl]
    clear hl
    go_enter Try.func43, Try.ntmps43
    go_wp2_with fail
    go_ret
    exact ⟨rfl, Below.refl _ _⟩
  obtain ⟨N, rfl⟩ := Int.eq_ofNat_of_zero_le (show 0 ≤ n by omega)
  have hN : 2 ≤ N := by omega
  have hN9 : N ≤ 1048576 := by omega
  have hl : lst (N : Int) = ld N := by unfold lst; rw [if_pos (by omega), Int.toNat_natCast]
  rw [hl]
  have HT := Lib.hid fun d h2 h hd => ld_this (N := N) (d := d) hN h2 h hd
  have HU := Lib.hid fun d h hd => ld_none (N := N) (d := d) hN h hd
  obtain ⟨m, hm⟩ : ∃ m, m = ld N := ⟨_, rfl⟩
  rw [← hm] at HT HU ⊢
  clear hm hl
  go_enter Try.func43, Try.ntmps43
  go_wp2_with fail
  go_loopw [3] (fun vd wr => ∃ d : Nat, 2 ≤ d ∧ d ≤ 1025 ∧ (∀ k, 2 ≤ k → k < d → N % k ≠ 0) ∧ vd = .int .i64 (d : Int) ∧ wr = w) (fun vd _ => 1025 - (intOf vd).toNat)
  case atStart => exact ⟨2, Nat.le_refl _, by omega, fun k h1 h2 => by omega, rfl, rfl⟩
  case round =>
    obtain ⟨d, hd, hd9, hlow, rfl, rfl⟩ := hrel
    have HL := Lib.hid hlow
    clear hlow
    have d0 : ¬ (d : Int) = 0 := by omega
    have zq := sq_wrap hd9
    obtain ⟨q, hq⟩ : ∃ q, q = d * d := ⟨_, rfl⟩
    rw [← hq] at zq
    have HQ := Lib.hid hq
    clear hq
    by_cases e : q ≤ N
    · obtain ⟨r, hr⟩ : ∃ r, r = N % d := ⟨_, rfl⟩
      have r1 : (N : Int) % (d : Int) = (r : Int) := by rw [hr, Int.natCast_emod]
      have r2 : (N : Int).tmod (d : Int) = (r : Int) := by rw [Int.tmod_eq_emod_of_nonneg (by omega), r1]
      have hrd : r < d := by rw [hr]; exact Nat.mod_lt _ (by omega)
      have zr : IntKind.i64.wrap (r : Int) = (r : Int) := by rw [IntKind.wrap_i64]; omega
      have zd : IntKind.i64.wrap ((d : Int) + 1) = (d : Int) + 1 := by rw [IntKind.wrap_i64]; omega
      have hd8 : d ≤ 1024 := sq_low (by rw [← HQ.out]; exact e) hN9
      have HR := Lib.hid hr
      clear hr
      by_cases z : r = 0
      · have HM := Lib.hid (HT.out d hd HL.out (by rw [← HR.out]; exact z))
        have q0 : ((r : Int) == 0) = true := by simp; omega
        go_wp2_with fail
        go_ret
        exact ⟨by rw [HM.out]; rfl, Below.refl _ _⟩
      · have q0 : ((r : Int) == 0) = false := by simp; omega
        go_wp2_with fail
        go_roundw
        case rel =>
          refine ⟨d + 1, by omega, by omega, fun k h1 h2 => ?_, by go_num, trivial⟩
          rcases (show k < d ∨ k = d by omega) with p | rfl
          · exact HL.out k h1 p
          · rw [← HR.out]; exact z
        case measure => simp [intOf]; omega
    · have HM := Lib.hid (HU.out d HL.out (by rw [← HQ.out]; omega))
      go_wp2_with fail
      go_ret
      exact ⟨by rw [HM.out]; rfl, Below.refl _ _⟩
theorem pis_any (n : Int) (w : World) : Calls Try.prog 32 #[.int .i64 n] w (ret (.bool (isP n)) w) := by
  have HL := Lib.hid fun W => pleast_any n W
  have HB0 : Hid (Below w.heap.size w w) := Lib.hid (Below.refl _ _)
  obtain ⟨R, hR⟩ : ∃ R, R = isP n := ⟨_, rfl⟩
  rw [← hR]
  by_cases h1 : 2 ≤ n
  · have hRe : ((lst n : Int) == n) = R := by
      rw [hR]
      unfold isP lst
      rw [decide_eq_true h1, Bool.true_and]
      by_cases h2 : n ≤ 1048576
      · rw [if_pos ⟨h1, h2⟩, decide_eq_true h2, Bool.true_and, Bool.eq_iff_iff, beq_iff_eq, decide_eq_true_eq]
        omega
      · rw [if_neg (by omega), decide_eq_false h2, Bool.false_and, Bool.eq_false_iff]
        simp
        omega
    obtain ⟨l, hl⟩ : ∃ l, l = lst n := ⟨_, rfl⟩
    rw [← hl] at HL hRe
    clear hR hl
    go_enter Try.func32, Try.ntmps32
    go_wp2_with (first
      | (go_at_call 43
         refine (HL.out _).mono ?_
         rintro e u1 ⟨rfl, hb⟩
         have HB1 := Lib.hid (HB0.out.trans hb)
         clear hb))
    go_ret
    exact ⟨rfl, HB1.out⟩
  · obtain rfl : R = false := by rw [hR]; unfold isP; rw [decide_eq_false h1, Bool.false_and]
    clear hR
    go_enter Try.func32, Try.ntmps32
    go_wp2_with fail
    go_ret
    exact ⟨rfl, Below.refl _ _⟩
theorem psize_any (n : Int) (w : World) : Calls Try.prog 19 #[.int .i64 n] w (ret (.bool (szP n)) w) := by
  have HL := Lib.hid fun W => pis_any n W
  have HB0 : Hid (Below w.heap.size w w) := Lib.hid (Below.refl _ _)
  obtain ⟨R, hR⟩ : ∃ R, R = szP n := ⟨_, rfl⟩
  rw [← hR]
  by_cases h1 : 7 ≤ n
  · by_cases h2 : n ≤ 65537
    · have hRe : isP n = R := by
        rw [hR]
        unfold szP
        rw [decide_eq_true h1, decide_eq_true h2, Bool.true_and, Bool.true_and]
      rw [hRe] at HL
      clear hR hRe
      go_enter Try.func19, Try.ntmps19
      go_wp2_with (first
        | (go_at_call 32
           refine (HL.out _).mono ?_
           rintro e u1 ⟨rfl, hb⟩
           have HB1 := Lib.hid (HB0.out.trans hb)
           clear hb))
      go_ret
      exact ⟨rfl, HB1.out⟩
    · obtain rfl : R = false := by rw [hR]; unfold szP; rw [decide_eq_false h2, Bool.false_and, Bool.and_false]
      clear hR
      go_enter Try.func19, Try.ntmps19
      go_wp2_with fail
      go_ret
      exact ⟨rfl, Below.refl _ _⟩
  · obtain rfl : R = false := by rw [hR]; unfold szP; rw [decide_eq_false h1, Bool.false_and]
    clear hR
    go_enter Try.func19, Try.ntmps19
    go_wp2_with fail
    go_ret
    exact ⟨rfl, Below.refl _ _⟩
theorem pmP : PmP where
  is_ := pis_any
  size := psize_any
  least := pleast_any
end Go.Proofs.Ytfchmmojhfjibaa
