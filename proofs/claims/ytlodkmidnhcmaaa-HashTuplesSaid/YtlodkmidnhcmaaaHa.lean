/- Stage 12: the document's product and halving; the law's shifts and products turned round. -/
import Derived.Test.YtlodkmidnhcmaaaHn
import Derived.Test.YtlodkmidnhcmaaaQg
namespace Go.Proofs.Ytlodkmidnhcmaaa
set_option maxRecDepth 100000
open Go.RowKit Go.Shelf
theorem down_any (n k : Nat) (hn : n < 18446744073709551616) (hk : k ≤ 64) (w : World) : Calls Try.prog 22 #[.int .u64 (n : Int), .int .i64 (k : Int)] w (ret (.int .u64 ((n >>> k : Nat) : Int)) w) := by
  obtain ⟨R, hR⟩ : ∃ R, R = n >>> k := ⟨_, rfl⟩
  rw [← hR]
  have HR := Lib.hid hR
  clear hR
  go_enter Try.func22, Try.ntmps22
  go_wp2_with fail
  go_loopw [0, 5] (fun vn vi wr => ∃ j x : Nat, j ≤ k ∧ x = n >>> j ∧ vn = .int .u64 (x : Int) ∧ vi = .int .i64 (j : Int) ∧ Below w.heap.size w wr) (fun _ vi _ => k - (intOf vi).toNat)
  case atStart => exact ⟨0, n, Nat.zero_le _, rfl, rfl, rfl, Below.refl _ _⟩
  case round =>
    obtain ⟨j, x, hj, hxe, rfl, rfl, hb⟩ := hrel
    have hx : x < 18446744073709551616 := by rw [hxe]; exact shrW_lt hn j
    have HB := Lib.hid hb
    have HX := Lib.hid hxe
    clear hxe hb
    by_cases hjk : j < k
    · have i1 : (j : Int) < (k : Int) := by omega
      have zj : IntKind.i64.wrap ((j : Int) + 1) = (j : Int) + 1 := by rw [IntKind.wrap_i64]; omega
      obtain ⟨y, hy⟩ : ∃ y, y = x / 2 := ⟨_, rfl⟩
      have zy : (x : Int) / 2 = (y : Int) := by omega
      have HY : Hid (y = n >>> (j + 1)) := Lib.hid (by rw [Nat.shiftRight_succ, ← HX.out, hy])
      clear hy
      go_wp2_with fail
      go_roundw
      case rel => exact ⟨j + 1, y, by omega, HY.out, by go_num, by go_num, HB.out⟩
      case measure => simp [intOf]; omega
    · obtain rfl : j = k := by omega
      obtain rfl : x = R := by rw [HX.out, HR.out]
      have i1 : ¬ (j : Int) < (j : Int) := by omega
      go_wp2_with fail
      go_ret
      exact ⟨rfl, HB.out⟩
theorem times_any (a b : Nat) (ha : a < 18446744073709551616) (hb : b < 18446744073709551616) (w : World) : Calls Try.prog 20 #[.int .u64 (a : Int), .int .u64 (b : Int)] w (ret (.int .u64 ((mulW a b : Nat) : Int)) w) := by
  obtain ⟨R, hR⟩ : ∃ R, R = mulW a b := ⟨_, rfl⟩
  rw [← hR]
  have HR := Lib.hid hR
  clear hR
  go_enter Try.func20, Try.ntmps20
  go_wp2_with fail
  go_loopw [0, 1, 5] (fun va vb vo wr => ∃ x y o : Nat, x < 18446744073709551616 ∧ y < 18446744073709551616 ∧ o < 18446744073709551616 ∧ va = .int .u64 (x : Int) ∧ vb = .int .u64 (y : Int) ∧ vo = .int .u64 (o : Int) ∧ (o + x * y) % 18446744073709551616 = R ∧ Below w.heap.size w wr) (fun _ vb _ _ => (intOf vb).toNat)
  case atStart => exact ⟨a, b, 0, ha, hb, by decide, rfl, rfl, rfl, by rw [Nat.zero_add, HR.out]; rfl, Below.refl _ _⟩
  case round =>
    obtain ⟨x, y, o, hx, hy, ho, rfl, rfl, rfl, hm, hbl⟩ := hrel
    have HM := Lib.hid hm
    have HB := Lib.hid hbl
    clear hm hbl
    by_cases h0 : 0 < y
    · have i1 : (0 : Int) < (y : Int) := by omega
      have ht := times_step o x y
      rw [HM.out] at ht
      obtain ⟨x2, hx2⟩ : ∃ x2, x2 = (x + x) % 18446744073709551616 := ⟨_, rfl⟩
      have hx2l : x2 < 18446744073709551616 := by omega
      have zx : IntKind.u64.wrap ((x : Int) + (x : Int)) = (x2 : Int) := by rw [IntKind.wrap_u64]; omega
      obtain ⟨y2, hy2⟩ : ∃ y2, y2 = y / 2 := ⟨_, rfl⟩
      have zy : (y : Int) / 2 = (y2 : Int) := by omega
      rw [← hx2, ← hy2] at ht
      have hyl : y2 < y := by omega
      clear hx2 hy2
      by_cases h1 : y % 2 = 1
      · obtain ⟨o2, ho2⟩ : ∃ o2, o2 = (o + x) % 18446744073709551616 := ⟨_, rfl⟩
        have hol : o2 < 18446744073709551616 := by omega
        have zo : IntKind.u64.wrap ((o : Int) + (x : Int)) = (o2 : Int) := by rw [IntKind.wrap_u64]; omega
        rw [if_pos h1, ← ho2] at ht
        have HT := Lib.hid ht
        have j1 : (y : Int) % 2 = 1 := by omega
        clear ho2 ht h1 HM
        go_wp2_with fail
        go_roundw
        case rel => exact ⟨x2, y2, o2, hx2l, by omega, hol, by go_num, by go_num, by go_num, HT.out, HB.out⟩
        case measure => simp [intOf]; omega
      · rw [if_neg h1] at ht
        have HT := Lib.hid ht
        have j1 : (y : Int) % 2 = 0 := by omega
        clear ht h1 HM
        go_wp2_with fail
        go_roundw
        case rel => exact ⟨x2, y2, o, hx2l, by omega, ho, by go_num, by go_num, by go_num, HT.out, HB.out⟩
        case measure => simp [intOf]; omega
    · obtain rfl : y = 0 := by omega
      obtain rfl : o = R := by
        have h9 := HM.out
        rw [Nat.mul_zero, Nat.add_zero, Nat.mod_eq_of_lt ho] at h9
        exact h9
      go_wp2_with fail
      go_ret
      exact ⟨rfl, HB.out⟩
theorem turned_any (n k : Nat) (hn : n < 18446744073709551616) (hk : k ≤ 64) (w : World) : Calls Try.prog 23 #[.int .u64 (n : Int), .int .u64 (k : Int)] w (ret (.int .u64 ((turnN n k 3 : Nat) : Int)) w) := by
  obtain ⟨R, hR⟩ : ∃ R, R = turnN n k 3 := ⟨_, rfl⟩
  rw [← hR]
  have HR := Lib.hid hR
  clear hR
  have HL : Hid (∀ j, turnN n k j < 18446744073709551616) := Lib.hid fun j => by
    induction j with
    | zero => exact hn
    | succ j ih => exact xorW_lt hn (shrW_lt ih k)
  go_enter Try.func23, Try.ntmps23
  go_wp2_with fail
  go_loopw [5, 7] (fun vo vi wr => ∃ j x : Nat, j ≤ 3 ∧ x = turnN n k j ∧ vo = .int .u64 (x : Int) ∧ vi = .int .i64 (j : Int) ∧ Below w.heap.size w wr) (fun _ vi _ => 3 - (intOf vi).toNat)
  case atStart => exact ⟨0, n, Nat.zero_le _, rfl, rfl, rfl, Below.refl _ _⟩
  case round =>
    obtain ⟨j, x, hj, hxe, rfl, rfl, hb⟩ := hrel
    have hx : x < 18446744073709551616 := by rw [hxe]; exact HL.out j
    have HB := Lib.hid hb
    by_cases hjk : j < 3
    · have i1 : (j : Int) < 3 := by omega
      have zj : IntKind.i64.wrap ((j : Int) + 1) = (j : Int) + 1 := by rw [IntKind.wrap_i64]; omega
      have HX : Hid (n ^^^ x >>> k = turnN n k (j + 1)) := Lib.hid (by rw [hxe]; rfl)
      have k0 : (0 : Int) ≤ (k : Int) := by omega
      have k1 : (k : Int) ≤ 64 := by omega
      have k2 : ((k : Int)).toNat = k := by omega
      have hsl := shrW_lt hx k
      obtain ⟨y, hy⟩ : ∃ y, y = x >>> k := ⟨_, rfl⟩
      have zs : (x : Int) / 2 ^ k = (y : Int) := by rw [hy, Nat.shiftRight_eq_div_pow, Int.natCast_ediv, Int.natCast_pow]; rfl
      rw [← hy] at hsl HX
      obtain ⟨z, hz⟩ : ∃ z, z = n ^^^ y := ⟨_, rfl⟩
      have zb : bits .xor .u64 (n : Int) (y : Int) = (z : Int) := by rw [hz]; exact bits_xor_u64_nat _ _ hn hsl
      rw [← hz] at HX
      clear hxe hy hz hb
      go_wp2_with fail
      go_roundw
      case rel => exact ⟨j + 1, z, by omega, HX.out, by go_num, by go_num, HB.out⟩
      case measure => simp [intOf]; omega
    · obtain rfl : j = 3 := by omega
      obtain rfl : x = R := by rw [hxe, HR.out]
      clear hxe hb
      go_wp2_with fail
      go_ret
      exact ⟨rfl, HB.out⟩
/-- Of the two odd ones that are asked, by its rounds. -/
theorem inverse_any (n : Nat) (hn : n < 18446744073709551616) (w : World) : Calls Try.prog 24 #[.int .u64 (n : Int)] w (ret (.int .u64 ((invN n 6 : Nat) : Int)) w) := by
  obtain ⟨R, hR⟩ : ∃ R, R = invN n 6 := ⟨_, rfl⟩
  rw [← hR]
  have HR := Lib.hid hR
  clear hR
  have HL : Hid (∀ j, invN n j < 18446744073709551616) := Lib.hid fun j => by
    cases j with
    | zero => exact hn
    | succ j => exact mulW_lt _ _
  go_enter Try.func24, Try.ntmps24
  go_wp2_with fail
  go_loopw [3, 5] (fun vo vi wr => ∃ j x : Nat, j ≤ 6 ∧ x = invN n j ∧ vo = .int .u64 (x : Int) ∧ vi = .int .i64 (j : Int) ∧ Below w.heap.size w wr) (fun _ vi _ => 6 - (intOf vi).toNat)
  case atStart => exact ⟨0, n, Nat.zero_le _, rfl, rfl, rfl, Below.refl _ _⟩
  case round =>
    obtain ⟨j, x, hj, hxe, rfl, rfl, hb⟩ := hrel
    have hx : x < 18446744073709551616 := by rw [hxe]; exact HL.out j
    have HB := Lib.hid hb
    by_cases hjk : j < 6
    · have i1 : (j : Int) < 6 := by omega
      have zj : IntKind.i64.wrap ((j : Int) + 1) = (j : Int) + 1 := by rw [IntKind.wrap_i64]; omega
      have HX : Hid (mulW x ((2 + (18446744073709551616 - mulW n x)) % 18446744073709551616) = invN n (j + 1)) := Lib.hid (by rw [hxe]; rfl)
      obtain ⟨a, ha⟩ : ∃ a, a = mulW n x := ⟨_, rfl⟩
      have hal : a < 18446744073709551616 := by rw [ha]; exact mulW_lt _ _
      have za : IntKind.u64.wrap ((n : Int) * (x : Int)) = (a : Int) := by rw [IntKind.wrap_u64, ha, mulW, Int.natCast_emod, Int.natCast_mul]; rfl
      rw [← ha] at HX
      obtain ⟨b, hbe⟩ : ∃ b, b = (2 + (18446744073709551616 - a)) % 18446744073709551616 := ⟨_, rfl⟩
      have hbl : b < 18446744073709551616 := by omega
      have zb : IntKind.u64.wrap (2 - (a : Int)) = (b : Int) := by rw [IntKind.wrap_u64]; omega
      rw [← hbe] at HX
      obtain ⟨z, hz⟩ : ∃ z, z = mulW x b := ⟨_, rfl⟩
      have zz : IntKind.u64.wrap ((x : Int) * (b : Int)) = (z : Int) := by rw [IntKind.wrap_u64, hz, mulW, Int.natCast_emod, Int.natCast_mul]; rfl
      rw [← hz] at HX
      clear hxe ha hbe hz hb
      go_wp2_with fail
      go_roundw
      case rel => exact ⟨j + 1, z, by omega, HX.out, by go_num, by go_num, HB.out⟩
      case measure => simp [intOf]; omega
    · obtain rfl : j = 6 := by omega
      obtain rfl : x = R := by rw [hxe, HR.out]
      clear hxe hb
      go_wp2_with fail
      go_ret
      exact ⟨rfl, HB.out⟩
end Go.Proofs.Ytlodkmidnhcmaaa
