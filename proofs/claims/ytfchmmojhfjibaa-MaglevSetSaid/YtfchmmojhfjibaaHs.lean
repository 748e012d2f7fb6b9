/- Stage 12: the landed hashes of bytes, of numbers, of names, over the lean text Hq (in place of Hj, where no law of stage 12 is wanted). -/
import Derived.Test.YtfchmmojhfjibaaHq
namespace Go.Proofs.Ytfchmmojhfjibaa
set_option maxRecDepth 100000
open Go.RowKit Go.Shelf
theorem wrap_mulW (a b : Nat) : IntKind.u64.wrap ((a : Int) * (b : Int)) = ((mulW a b : Nat) : Int) := by
  rw [IntKind.wrap_u64, mulW, Int.natCast_emod, Int.natCast_mul]
  rfl
theorem fnv_any (A : Option Addr) (m c : Nat) (f : Nat → Int) (hf : Byt f) (hm : m ≤ 4611686018427387904) (w : World) (hr : Rd w w.heap.size A m f) : Calls Try.prog 60 #[.slice A m c] w (ret (.int .u64 ((fnvN (nb f) m : Nat) : Int)) w) := by
  have HR := Lib.hid hr
  obtain ⟨R, hR⟩ : ∃ R, R = fnvN (nb f) m := ⟨_, rfl⟩
  rw [← hR]
  have HE := Lib.hid hR
  clear hR hr
  go_enter Try.func60, Try.ntmps60
  go_wp2_with fail
  go_loopw [3, 8] (fun vo vi wr => ∃ j x : Nat, j ≤ m ∧ x = fnvN (nb f) j ∧ vo = .int .u64 (x : Int) ∧ vi = .int .i64 (j : Int) ∧ Below w.heap.size w wr) (fun _ vi _ => m - (intOf vi).toNat)
  case atStart => exact ⟨0, 14695981039346656037, Nat.zero_le _, rfl, rfl, rfl, Below.refl _ _⟩
  case round =>
    obtain ⟨j, x, hj, hxe, rfl, rfl, hb⟩ := hrel
    have hx : x < 18446744073709551616 := by rw [hxe]; exact fnv_lt _ _
    have HB := Lib.hid hb
    by_cases hjk : j < m
    · rcases HR.out with h0 | ⟨bA, off, rfl, hbl, hcl⟩
      · omega
      have i1 : (j : Int) < (m : Int) := by omega
      have i0 : (0 : Int) ≤ (j : Int) := by omega
      have i2 : ((j : Int)).toNat = j := by omega
      have xj : wr.cell? ⟨bA, off + j, none⟩ = some (.int .u8 (nb f j : Int)) := by
        rw [nb_int hf]
        exact (hb.cell (p := ⟨bA, off + j, none⟩) hbl).trans (hcl j hjk)
      have hl := nb_lt hf j
      obtain ⟨y, hy⟩ : ∃ y, y = nb f j := ⟨_, rfl⟩
      have hs : mulW (x ^^^ y) 1099511628211 = fnvN (nb f) (j + 1) := by rw [hxe, hy]; rfl
      rw [← hy] at xj hl
      have z1 : bits .xor .u64 (x : Int) (y : Int) = ((x ^^^ y : Nat) : Int) := bits_xor_u64_nat _ _ hx (by omega)
      have z2 := wrap_mulW (x ^^^ y) 1099511628211
      rw [hs] at z2
      obtain ⟨z, hz⟩ : ∃ z, z = x ^^^ y := ⟨_, rfl⟩
      rw [← hz] at z1 z2
      obtain ⟨u, hu⟩ : ∃ u, u = fnvN (nb f) (j + 1) := ⟨_, rfl⟩
      rw [← hu] at z2
      have z2 : IntKind.u64.wrap ((z : Int) * 1099511628211) = (u : Int) := z2
      have HU := Lib.hid hu
      have zj : IntKind.i64.wrap ((j : Int) + 1) = (j : Int) + 1 := by rw [IntKind.wrap_i64]; omega
      have zy : IntKind.u64.wrap (y : Int) = (y : Int) := by rw [IntKind.wrap_u64]; omega
      clear hxe hb hcl hy hs hz hu
      go_wp2_with fail
      go_roundw
      case rel => exact ⟨j + 1, u, by omega, HU.out, by go_num, by go_num, HB.out⟩
      case measure => simp [intOf]; omega
    · obtain rfl : j = m := by omega
      obtain rfl : x = R := by rw [hxe, HE.out]
      have i1 : ¬ (j : Int) < (j : Int) := by omega
      clear hxe hb
      go_wp2_with fail
      go_ret
      exact ⟨rfl, HB.out⟩
/-- The row of steps by which a number is mixed, and what it is behind so many. -/
def stA (j : Nat) : Nat := if j = 0 then 30 else if j = 1 then 27 else 31
def stM (j : Nat) : Nat := if j = 0 then 13787848793156543929 else if j = 1 then 10723151780598845931 else 1
def stpN (n : Nat) : Nat → Nat
  | 0 => n
  | j + 1 => mulW (stpN n j ^^^ (stpN n j) >>> stA j) (stM j)
theorem stp_lt {n : Nat} (hn : n < 18446744073709551616) : ∀ j, stpN n j < 18446744073709551616
  | 0 => hn
  | _ + 1 => mulW_lt _ _
theorem stp_mix {n : Nat} : stpN n 3 = mixN n := by
  have h := mix_lt n
  show mulW (mixN n) 1 = mixN n
  unfold mulW
  rw [Nat.mul_one, Nat.mod_eq_of_lt h]
theorem stA_le (j : Nat) : stA j ≤ 64 := by
  unfold stA
  split
  · decide
  split <;> decide
def StRow (W : World) (B : Nat) : Prop := B < W.heap.size ∧ ∀ j, j < 3 → W.cell? ⟨B, j * 2, none⟩ = some (.int .u64 (stA j : Int)) ∧ W.cell? ⟨B, j * 2 + 1, none⟩ = some (.int .u64 (stM j : Int))
theorem stepped_any (n : Nat) (hn : n < 18446744073709551616) (B : Nat) (w : World) (hr : StRow w B) : Calls Try.prog 63 #[.int .u64 (n : Int), .slice (some ⟨B, 0, none⟩) 3 3] w (ret (.int .u64 ((mixN n : Nat) : Int)) w) := by
  have HR := Lib.hid hr
  obtain ⟨R, hR⟩ : ∃ R, R = mixN n := ⟨_, rfl⟩
  rw [← hR]
  have HE := Lib.hid (hR.trans stp_mix.symm)
  have HL := Lib.hid (stp_lt hn)
  clear hR hr
  go_enter Try.func63, Try.ntmps63
  go_wp2_with fail
  go_loopw [0, 9] (fun vo vi wr => ∃ j x : Nat, j ≤ 3 ∧ x = stpN n j ∧ vo = .int .u64 (x : Int) ∧ vi = .int .i64 (j : Int) ∧ Below w.heap.size w wr) (fun _ vi _ => 3 - (intOf vi).toNat)
  case atStart => exact ⟨0, n, Nat.zero_le _, rfl, rfl, rfl, Below.refl _ _⟩
  case round =>
    obtain ⟨j, x, hj, hxe, rfl, rfl, hb⟩ := hrel
    have hx : x < 18446744073709551616 := by rw [hxe]; exact HL.out j
    by_cases hjk : j < 3
    · obtain ⟨hB, hcl⟩ := HR.out
      have i1 : (j : Int) < 3 := by omega
      have i0 : (0 : Int) ≤ (j : Int) := by omega
      have i2 : ((j : Int)).toNat = j := by omega
      have x0 : wr.cell? ⟨B, j * 2, none⟩ = some (.int .u64 (stA j : Int)) := (hb.cell (p := ⟨B, j * 2, none⟩) hB).trans (hcl j hjk).1
      have x1 : wr.cell? ⟨B, j * 2 + 1, none⟩ = some (.int .u64 (stM j : Int)) := (hb.cell (p := ⟨B, j * 2 + 1, none⟩) hB).trans (hcl j hjk).2
      have hk := stA_le j
      have hs : mulW (x ^^^ x >>> stA j) (stM j) = stpN n (j + 1) := by rw [hxe]; rfl
      obtain ⟨k, hke⟩ : ∃ k, k = stA j := ⟨_, rfl⟩
      obtain ⟨M, hM⟩ : ∃ M, M = stM j := ⟨_, rfl⟩
      rw [← hke] at x0 hk hs
      rw [← hM] at x1 hs
      have k0 : (0 : Int) ≤ (k : Int) := by omega
      have k1 : (k : Int) ≤ 64 := by omega
      have k2 : ((k : Int)).toNat = k := by omega
      have hsl := shrW_lt hx k
      obtain ⟨y, hy⟩ : ∃ y, y = x >>> k := ⟨_, rfl⟩
      have zs : (x : Int) / 2 ^ k = (y : Int) := by rw [hy, Nat.shiftRight_eq_div_pow, Int.natCast_ediv, Int.natCast_pow]; rfl
      rw [← hy] at hsl hs
      have z1 : bits .xor .u64 (x : Int) (y : Int) = ((x ^^^ y : Nat) : Int) := bits_xor_u64_nat _ _ hx hsl
      have z2 := wrap_mulW (x ^^^ y) M
      rw [hs] at z2
      obtain ⟨z, hz⟩ : ∃ z, z = x ^^^ y := ⟨_, rfl⟩
      rw [← hz] at z1 z2
      obtain ⟨u, hu⟩ : ∃ u, u = stpN n (j + 1) := ⟨_, rfl⟩
      rw [← hu] at z2
      have HU := Lib.hid hu
      have zj : IntKind.i64.wrap ((j : Int) + 1) = (j : Int) + 1 := by rw [IntKind.wrap_i64]; omega
      have HB := Lib.hid hb.size
      have HB2 : Hid (∀ o, Below w.heap.size w (wr.alloc o)) := Lib.hid fun o => hb.alloc hb.size o
      clear hxe hb hcl hke hM hy hs hz hu hB
      go_wp2_with fail
      go_roundw
      case rel => exact ⟨j + 1, u, by omega, HU.out, by go_num, by go_num, HB2.out _⟩
      case measure => simp [intOf]; omega
    · have HB := Lib.hid hb
      obtain rfl : j = 3 := by omega
      obtain rfl : x = R := by rw [hxe, HE.out]
      clear hxe hb
      go_wp2_with fail
      go_ret
      exact ⟨rfl, HB.out⟩
theorem mix_any (n : Nat) (hn : n < 18446744073709551616) (w : World) : Calls Try.prog 59 #[.int .u64 (n : Int)] w (ret (.int .u64 ((mixN n : Nat) : Int)) w) := by
  have HST : Hid (∀ (fr : Nat × Nat), Calls Try.prog 63 #[.int .u64 (n : Int), .slice (some ⟨w.heap.size, 0, none⟩) 3 3] (w.alloc (.cells #[.int .u64 30, .int .u64 13787848793156543929, .int .u64 27, .int .u64 10723151780598845931, .int .u64 31, .int .u64 1] 85 fr)) (ret (.int .u64 ((mixN n : Nat) : Int)) (w.alloc (.cells #[.int .u64 30, .int .u64 13787848793156543929, .int .u64 27, .int .u64 10723151780598845931, .int .u64 31, .int .u64 1] 85 fr)))) := Lib.hid fun fr => stepped_any n hn w.heap.size _ ⟨by simp, fun j hj => by
    have hc := fun k v (h : _ = some v) => cell_of_row (w.alloc (.cells #[.int .u64 30, .int .u64 13787848793156543929, .int .u64 27, .int .u64 10723151780598845931, .int .u64 31, .int .u64 1] 85 fr)) w.heap.size k _ 85 fr (heap_alloc_new w _) |>.trans h
    match j, hj with
    | 0, _ => exact ⟨hc 0 _ rfl, hc 1 _ rfl⟩
    | 1, _ => exact ⟨hc 2 _ rfl, hc 3 _ rfl⟩
    | 2, _ => exact ⟨hc 4 _ rfl, hc 5 _ rfl⟩
    | j + 3, h => exact absurd h (by omega)⟩
  obtain ⟨R, hR⟩ : ∃ R, R = mixN n := ⟨_, rfl⟩
  rw [← hR] at HST ⊢
  clear hR
  go_enter Try.func59, Try.ntmps59
  go_wp2_with (first
    | (go_at_call 63
       refine (HST.out _).mono ?_
       rintro e v1 ⟨rfl, hb1⟩
       have HB1 := Lib.hid ((below_alloc w _).trans (hb1.mono (alloc_le w _)))
       clear hb1 HST))
  go_ret
  exact ⟨rfl, HB1.out⟩
theorem seeded_any (seed : Nat) (hs : seed < 18446744073709551616) (A : Option Addr) (m c : Nat) (f : Nat → Int) (hf : Byt f) (hm : m ≤ 4611686018427387904) (w : World) (hr : Rd w w.heap.size A m f) : Calls Try.prog 55 #[.int .u64 (seed : Int), .slice A m c] w (ret (.int .u64 ((seedN seed (nb f) m : Nat) : Int)) w) := by
  have h1 := fnv_any A m c f hf hm w hr
  have l1 := fnv_lt (nb f) m
  obtain ⟨R, hR⟩ : ∃ R, R = seedN seed (nb f) m := ⟨_, rfl⟩
  rw [← hR]
  rw [seedN_eq] at hR
  obtain ⟨a, ha⟩ : ∃ a, a = fnvN (nb f) m := ⟨_, rfl⟩
  rw [← ha] at h1 l1 hR
  have h2 := fun W => mix_any seed hs W
  have l2 := mix_lt seed
  obtain ⟨b, hb⟩ : ∃ b, b = mixN seed := ⟨_, rfl⟩
  rw [← hb] at h2 l2 hR
  have z1 : bits .xor .u64 (a : Int) (b : Int) = ((a ^^^ b : Nat) : Int) := bits_xor_u64_nat _ _ l1 l2
  have l3 := xorW_lt l1 l2
  obtain ⟨x, hx⟩ : ∃ x, x = a ^^^ b := ⟨_, rfl⟩
  rw [← hx] at z1 l3 hR
  have h3 := fun W => mix_any x l3 W
  rw [← hR] at h3
  have H1 := Lib.hid h1
  have H2 := Lib.hid h2
  have H3 := Lib.hid h3
  clear h1 h2 h3 ha hb hx hR hr
  go_enter Try.func55, Try.ntmps55
  go_wp2_with (first
    | (go_at_call 60
       refine H1.out.mono ?_
       rintro e v1 ⟨rfl, hb1⟩
       have HB1 := Lib.hid hb1
       clear hb1 H1)
    | (go_at_call 59
       refine (H2.out _).mono ?_
       rintro e v2 ⟨rfl, hb2⟩
       have HB2 := Lib.hid (HB1.out.trans (hb2.mono HB1.out.size))
       clear hb2 HB1 H2)
    | (go_at_call 59
       refine (H3.out _).mono ?_
       rintro e v3 ⟨rfl, hb3⟩
       have HB3 := Lib.hid (HB2.out.trans (hb3.mono HB2.out.size))
       clear hb3 HB2 H3))
  go_ret
  exact ⟨rfl, HB3.out⟩
theorem name_any (seed : Nat) (hs : seed < 18446744073709551616) (n : Nat) (f : Nat → Int) (hf : Byt f) (hm : n ≤ 4611686018427387904) (w : World) : Calls Try.prog 52 #[.int .u64 (seed : Int), .string (strOfNums (nums n f))] w (ret (.int .u64 ((seedN seed (nb f) n : Nat) : Int)) w) := by
  obtain ⟨c, w2, hrun, hrd, hb2⟩ := run_bytes_rd (P := Try.prog) w 9 78 5 n f hf Try.underlying9 Try.underlying78 Try.underlying5
  have H1 := Lib.hid (seeded_any seed hs (some ⟨w.heap.size, 0, none⟩) n c f hf hm w2 hrd)
  have HB := Lib.hid hb2
  clear hrd hb2
  obtain ⟨S, hS⟩ : ∃ S, S = strOfNums (nums n f) := ⟨_, rfl⟩
  rw [← hS] at hrun ⊢
  clear hS
  go_enter Try.func52, Try.ntmps52
  go_wp2_with (first
    | (go_at_call 55
       refine H1.out.mono ?_
       rintro e v1 ⟨rfl, hb1⟩
       have HB1 := Lib.hid (HB.out.trans (hb1.mono HB.out.size))
       clear hb1 H1))
  go_ret
  exact ⟨rfl, HB1.out⟩
end Go.Proofs.Ytfchmmojhfjibaa
