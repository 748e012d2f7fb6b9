/- Stage 17: the document's Least, IsSize. -/
import Derived.Test.YtfchmmojhfjibaaPma
import Derived.Test.YtfchmmojhfjibaaGrow
import Derived.Test.YtfchmmojhfjibaaBlk
import Derived.Test.YtfchmmojhfjibaaRows
import Derived.KernelRfl
import Derived.Laws.StructEq
import Derived.Test.YtfchmmojhfjibaaBytes
import Derived.Laws.BitsAllLaws
import Derived.Deep.RegionHeld3
import Derived.Deep.MidRow
import Derived.Deep.CutRange
import Derived.StillTailTactics
import Derived.WalkLawsBesides
import Derived.IntWalk
import Derived.BigQuiet
import Derived.Laws.CopyOwn
import Derived.Laws.Tables
import Derived.Laws.IdiomCopy
import Derived.Laws.BytesArg
namespace Go.Proofs.Ytfchmmojhfjibaa
set_option maxRecDepth 100000
open Go.RowKit Go.Shelf
set_option maxHeartbeats 1000000 in
theorem rleast_any (n : Int) (w : World) : Calls Try.prog 35 #[.int .i64 n] w (ret (.int .i64 (lst n : Int)) w) := by
  by_cases h1 : n < 2
  · have hl : lst n = 0 := by unfold lst; rw [if_neg (by omega)]
    rw [hl]
    clear hl
    go_enter Try.func35, Try.ntmps35
    go_wp2_with fail
    go_ret
    exact ⟨rfl, Below.refl _ _⟩
  by_cases h2 : 1048576 < n
  · have hl : lst n = 0 := by unfold lst; rw [if_neg (by omega)]
    rw [hl]
    clear hl
    go_enter Try.func35, Try.ntmps35
    go_wp2_with fail
    go_ret
    exact ⟨rfl, Below.refl _ _⟩
  obtain ⟨N, rfl⟩ := Int.eq_ofNat_of_zero_le (show 0 ≤ n by omega)
  have hN : 2 ≤ N := by omega
  have hN9 : N ≤ 1048576 := by omega
  have hl : lst (N : Int) = ld N := by unfold lst; rw [if_pos (by omega), Int.toNat_natCast]
  rw [hl]
  have HLD := Lib.hid (ld_at hN)
  have hle := (ld_at hN).le hN
  obtain ⟨m, hm⟩ : ∃ m, m = ld N := ⟨_, rfl⟩
  rw [← hm] at HLD hle ⊢
  clear hm hl
  go_enter Try.func35, Try.ntmps35
  go_wp2_with fail
  go_loopw [3] (fun vd wr => ∃ d : Nat, 2 ≤ d ∧ d ≤ m ∧ vd = .int .i64 (d : Int) ∧ wr = w) (fun vd _ => m - (intOf vd).toNat)
  case atStart => exact ⟨2, Nat.le_refl _, HLD.out.two, rfl, rfl⟩
  case round =>
    obtain ⟨d, hd, hdm, rfl, rfl⟩ := hrel
    have d0 : ¬ (d : Int) = 0 := by omega
    obtain ⟨r, hr⟩ : ∃ r, r = N % d := ⟨_, rfl⟩
    have r1 : (N : Int) % (d : Int) = (r : Int) := by rw [hr, Int.natCast_emod]
    have r2 : (N : Int).tmod (d : Int) = (r : Int) := by rw [Int.tmod_eq_emod_of_nonneg (by omega), r1]
    have hrd : r < d := by rw [hr]; exact Nat.mod_lt _ (by omega)
    have zr : IntKind.i64.wrap (r : Int) = (r : Int) := by rw [IntKind.wrap_i64]; omega
    have zd : IntKind.i64.wrap ((d : Int) + 1) = (d : Int) + 1 := by rw [IntKind.wrap_i64]; omega
    by_cases e : d = m
    · have q0 : ((r : Int) != 0) = false := by
        have := HLD.out.div
        rw [← e, ← hr] at this
        simp
        omega
      have HE := Lib.hid e
      clear hr e
      go_wp2_with fail
      go_ret
      exact ⟨by rw [HE.out]; rfl, Below.refl _ _⟩
    · have q0 : ((r : Int) != 0) = true := by
        have := HLD.out.low d hd (by omega)
        rw [← hr] at this
        simp
        omega
      clear hr
      go_wp2_with fail
      go_roundw
      case rel => exact ⟨d + 1, by omega, by omega, by go_num, trivial⟩
      case measure => simp [intOf]; omega
theorem rsize_any (n : Int) (w : World) : Calls Try.prog 22 #[.int .i64 n] w (ret (.bool (szP n)) w) := by
  have HL := Lib.hid fun W => rleast_any n W
  have HB0 : Hid (Below w.heap.size w w) := Lib.hid (Below.refl _ _)
  obtain ⟨R, hR⟩ : ∃ R, R = szP n := ⟨_, rfl⟩
  rw [← hR]
  by_cases h1 : 7 ≤ n
  · by_cases h2 : n ≤ 65537
    · have hRe : ((lst n : Int) == n) = R := by
        rw [hR]
        unfold szP isP lst
        rw [if_pos (by omega), decide_eq_true h1, decide_eq_true h2, decide_eq_true (show 2 ≤ n by omega), decide_eq_true (show n ≤ 1048576 by omega)]
        simp only [Bool.true_and]
        rw [Bool.eq_iff_iff, beq_iff_eq, decide_eq_true_eq]
        omega
      obtain ⟨l, hl⟩ : ∃ l, l = lst n := ⟨_, rfl⟩
      rw [← hl] at HL hRe
      clear hR hl
      go_enter Try.func22, Try.ntmps22
      go_wp2_with (first
        | (go_at_call 35
           refine (HL.out _).mono ?_
           rintro e u1 ⟨rfl, hb⟩
           have HB1 := Lib.hid (HB0.out.trans hb)
           clear hb))
      go_ret
      exact ⟨rfl, HB1.out⟩
    · obtain rfl : R = false := by rw [hR]; unfold szP; rw [decide_eq_false h2, Bool.false_and, Bool.and_false]
      clear hR
      go_enter Try.func22, Try.ntmps22
      go_wp2_with fail
      go_ret
      exact ⟨rfl, Below.refl _ _⟩
  · obtain rfl : R = false := by rw [hR]; unfold szP; rw [decide_eq_false h1, Bool.false_and]
    clear hR
    go_enter Try.func22, Try.ntmps22
    go_wp2_with fail
    go_ret
    exact ⟨rfl, Below.refl _ _⟩
end Go.Proofs.Ytfchmmojhfjibaa
