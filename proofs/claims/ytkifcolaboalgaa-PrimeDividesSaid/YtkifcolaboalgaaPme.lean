/- Stage 17: PrimeDivides. -/
import Derived.Test.YtkifcolaboalgaaPmc
namespace Go.Proofs.Ytkifcolaboalgaa
set_option maxRecDepth 100000
open Go.RowKit Go.Shelf
theorem ld_ld {n : Nat} (hn : 2 ≤ n) : ld (ld n) = ld n := by
  have h := ld_at hn
  refine ld_is h.two ⟨h.two, Nat.mod_self _, fun k hk hkd hz => h.low k hk hkd ?_⟩
  obtain ⟨a, ha⟩ := Nat.dvd_of_mod_eq_zero hz
  obtain ⟨b, hb⟩ := Nat.dvd_of_mod_eq_zero h.div
  refine Nat.mod_eq_zero_of_dvd ⟨a * b, ?_⟩
  rw [← Nat.mul_assoc, ← ha]
  exact hb
theorem nx_ex {n : Int} (hn : n ≤ 65537) : ∃ x, NxAt n x := by
  have hs : szP ((65537 : Nat) : Int) = true := szP_of (by decide) (by decide) ld_65537
  have : ∀ m (k : Nat), k + m = 65537 → (∀ y : Nat, n ≤ (y : Int) → y < k → szP y = false) → ∃ x, NxAt n x := by
    intro m
    induction m with
    | zero =>
      intro k hk hl
      obtain rfl : k = 65537 := by omega
      exact ⟨65537, hs, by omega, hl⟩
    | succ m ih =>
      intro k hk hl
      by_cases h : n ≤ (k : Int) ∧ szP k = true
      · exact ⟨k, h.2, h.1, hl⟩
      · refine ih (k + 1) (by omega) fun y hy hyk => ?_
        rcases (show y < k ∨ y = k by omega) with q | rfl
        · exact hl y hy q
        · cases e : szP y with
          | false => rfl
          | true => exact absurd ⟨hy, e⟩ h
  exact this 65537 0 (by omega) fun y _ hy => absurd hy (Nat.not_lt_zero _)
set_option maxHeartbeats 8000000 in
theorem mdivides_any (HP : PmP) (n : Int) (hn9 : n ≤ 9223372036854775807) (w : World) : Calls Try.prog 5 #[.int .i64 n] w (ret (.bool true) w) := by
  have HK := Lib.hid fun W => mknown_any HP W
  have HL := Lib.hid fun W => HP.least n W
  have HI := Lib.hid fun x W => HP.is_ x W
  have HS := Lib.hid fun x W => HP.size x W
  have HNX := Lib.hid fun W => HP.next n W
  have HN9 := Lib.hid hn9
  have HB0 : Hid (Below w.heap.size w w) := Lib.hid (Below.refl _ _)
  clear HP
  by_cases h2 : 2 ≤ n ∧ n ≤ 1048576
  · obtain ⟨N, hNn⟩ : ∃ N : Nat, n = (N : Int) := Int.eq_ofNat_of_zero_le (show 0 ≤ n by omega)
    have hN : 2 ≤ N := by omega
    have hl : lst n = ld N := by unfold lst; rw [if_pos h2, hNn, Int.toNat_natCast]
    rw [hl] at HL
    have HLD := Lib.hid (ld_at hN)
    have hle := (ld_at hN).le hN
    have HID : Hid (∀ W : World, Calls Try.prog 9 #[.int .i64 (ld N : Int)] W (ret (.bool true) W)) := Lib.hid fun W => by
      have h := HI.out (ld N : Int) W
      rwa [isP_yes (ld_at hN).two (by omega) (ld_ld hN)] at h
    have HIN : Hid (∀ W : World, Calls Try.prog 9 #[.int .i64 n] W (ret (.bool ((ld N : Int) == n)) W)) := Lib.hid fun W => by
      have h := HI.out n W
      have e : isP n = ((ld N : Int) == n) := by
        unfold isP
        rw [decide_eq_true h2.1, decide_eq_true h2.2, Bool.true_and, Bool.true_and, Bool.eq_iff_iff, decide_eq_true_eq, beq_iff_eq, hNn, Int.toNat_natCast]
        omega
      rwa [e] at h
    have hm2 := (ld_at hN).two
    obtain ⟨m, hm⟩ : ∃ m, m = ld N := ⟨_, rfl⟩
    rw [← hm] at HL HLD hle HID HIN hm2
    obtain ⟨M, hM⟩ : ∃ M : Int, M = (m : Int) := ⟨_, rfl⟩
    rw [← hM] at HL HID HIN
    obtain ⟨q, hq⟩ : ∃ q, q = (M == n) := ⟨_, rfl⟩
    rw [← hq] at HIN
    replace hq := hq.symm
    have q2 : ¬ n < 2 := by omega
    have q3 : ¬ (1048576 : Int) < n := by omega
    have q4 : ¬ M < 2 := by omega
    have q5 : ¬ M = 0 := by omega
    have d2 : decide (n < 2) = false := decide_eq_false q2
    have d3 : decide ((1048576 : Int) < n) = false := decide_eq_false q3
    have d4 : decide (M < 2) = false := decide_eq_false q4
    have r1 : n % M = 0 := by
      have := HLD.out.div
      rw [hNn, hM]
      omega
    have r2 : n.tmod M = 0 := by rw [Int.tmod_eq_emod_of_nonneg (by omega), r1]
    have qq : (q != q) = false := by simp
    have HH2 := Lib.hid h2
    have HNn := Lib.hid hNn
    have HMm := Lib.hid hM
    clear hl hm h2 hNn hM
    go_enter Try.func5, Try.ntmps5
    go_wp2_with (first
      | (go_at_call 12
         with_reducible refine (HL.out _).mono ?_
         rintro e u1 ⟨rfl, hb⟩
         have HB1 := Lib.hid (HB0.out.trans (hb.mono HB0.out.size))
         clear hb)
      | (go_at_call 9
         with_reducible refine (HID.out _).mono ?_
         rintro e u2 ⟨rfl, hb⟩
         have HB2 := Lib.hid (HB1.out.trans (hb.mono HB1.out.size))
         clear hb)
      | (go_at_call 9
         with_reducible refine (HIN.out _).mono ?_
         rintro e u3 ⟨rfl, hb⟩
         have HB3 := Lib.hid (HB2.out.trans (hb.mono HB2.out.size))
         clear hb))
    clear r1 r2 qq hq d2 d3 d4
    go_loopw [4] (fun vx wr => ∃ k : Nat, 2 ≤ k ∧ k ≤ m ∧ vx = .int .i64 (k : Int) ∧ Below w.heap.size w wr) (fun vx _ => m - (intOf vx).toNat)
    case atStart => exact ⟨2, Nat.le_refl _, hm2, rfl, HB3.out⟩
    case round =>
      obtain ⟨k, hk2, hkm, rfl, hb⟩ := hrel
      have HB := Lib.hid hb
      clear hb
      have hmN := HH2.out.2
      have hMm := HMm.out
      have hNn := HNn.out
      have zk : IntKind.i64.wrap ((k : Int) + 1) = (k : Int) + 1 := by rw [IntKind.wrap_i64]; omega
      obtain ⟨s, hs⟩ : ∃ s, s = k * k := ⟨_, rfl⟩
      have hs9 : s ≤ 1048576 * 1048576 := by rw [hs]; exact Nat.mul_le_mul (by omega) (by omega)
      have zs : IntKind.i64.wrap ((k : Int) * (k : Int)) = (s : Int) := by rw [IntKind.wrap_i64, hs, Int.natCast_mul]; omega
      by_cases hlt : k < m
      · have l1 : (k : Int) < M := by omega
        by_cases hsq : s ≤ N
        · have l2 : (s : Int) ≤ n := by omega
          obtain ⟨r, hr⟩ : ∃ r, r = N % k := ⟨_, rfl⟩
          have hr0 : r ≠ 0 := by
            rw [hr]
            exact HLD.out.low k hk2 hlt
          have r1 : n % (k : Int) = (r : Int) := by rw [hNn, hr, Int.natCast_emod]
          have r2 : n.tmod (k : Int) = (r : Int) := by rw [Int.tmod_eq_emod_of_nonneg (by omega), r1]
          have r3 : ((r : Int) == 0) = false := by simp; omega
          have r4 : ¬ (k : Int) = 0 := by omega
          have hrk : r < k := by rw [hr]; exact Nat.mod_lt _ (by omega)
          have zr : IntKind.i64.wrap (r : Int) = (r : Int) := by rw [IntKind.wrap_i64]; omega
          clear hr hr0 hs hNn hMm
          go_wp2_with fail
          go_roundw
          case rel => exact ⟨k + 1, by omega, by omega, by go_num, HB.out⟩
          case measure => simp [intOf]; omega
        · have l2 : ¬ (s : Int) ≤ n := by omega
          clear hs hNn hMm
          rcases nx_cases n with ⟨x, hx, hv⟩ | ⟨hno, hv⟩
          · have HX : Hid (n ≤ (x : Int) ∧ 7 ≤ x ∧ x ≤ 65537) := Lib.hid ⟨hx.2.1, (szP_le hx.1).1, (szP_le hx.1).2.1⟩
            have HX2 := Lib.hid hx.1
            have HLO := Lib.hid hx.2.2
            rw [hv] at HNX
            clear hx hv
            by_cases h7 : n < 7
            · have hmx : max n 7 = 7 := by omega
              go_wp2_with (first
                | (go_at_call 6
                   with_reducible refine (HNX.out _).mono ?_
                   rintro e un ⟨rfl, hb⟩
                   have HBn := Lib.hid (HB.out.trans (hb.mono HB.out.size))
                   clear hb))
              go_loopw [7] (fun vy wr => ∃ Y : Int, n ≤ Y ∧ 7 ≤ Y ∧ Y ≤ (x : Int) ∧ vy = .int .i64 Y ∧ Below w.heap.size w wr) (fun vy _ => ((x : Int) - intOf vy).toNat)
              case atStart => exact ⟨7, by have := HX.out; omega, by have := HX.out; omega, by have := HX.out; omega, rfl, HBn.out⟩
              case round =>
                obtain ⟨Y, hy1, hy7, hy2, rfl, hb⟩ := hrel
                have HB := Lib.hid hb
                clear hb
                by_cases hlt : Y < (x : Int)
                · have hx9 := HX.out.2.2
                  have zy : IntKind.i64.wrap (Y + 1) = Y + 1 := by rw [IntKind.wrap_i64]; have := HN9.out; omega
                  have HSY : Hid (∀ W : World, Calls Try.prog 10 #[.int .i64 Y] W (ret (.bool false) W)) := Lib.hid fun W => by
                    have h := HS.out Y W
                    have e : szP Y = false := by
                      by_cases h0 : 0 ≤ Y
                      · obtain ⟨y, rfl⟩ := Int.eq_ofNat_of_zero_le h0
                        exact HLO.out y hy1 (by omega)
                      · unfold szP
                        rw [decide_eq_false (show ¬ 7 ≤ Y by omega), Bool.false_and]
                    rwa [e] at h
                  clear hx9
                  go_wp2_with (first
                    | (go_at_call 10
                       with_reducible refine (HSY.out _).mono ?_
                       rintro e uy ⟨rfl, hb⟩
                       have HBy := Lib.hid (HB.out.trans (hb.mono HB.out.size))
                       clear hb))
                  go_roundw
                  case rel => exact ⟨Y + 1, by omega, by omega, by omega, by go_num, HBy.out⟩
                  case measure => simp [intOf]; omega
                · have hxn : n ≤ (x : Int) := HX.out.1
                  have HSX : Hid (∀ W : World, Calls Try.prog 10 #[.int .i64 (x : Int)] W (ret (.bool true) W)) := Lib.hid fun W => by
                    have h := HS.out (x : Int) W
                    rwa [HX2.out] at h
                  clear hy1 hy2 hy7
                  go_wp2_with (first
                    | (go_at_call 10
                       with_reducible refine (HSX.out _).mono ?_
                       rintro e uz ⟨rfl, hb⟩
                       have HBz := Lib.hid (HB.out.trans (hb.mono HB.out.size))
                       clear hb)
                    | (go_at_call 13
                       with_reducible refine (HK.out _).mono ?_
                       rintro e uk ⟨rfl, hb⟩
                       have HBk := Lib.hid (HBz.out.trans (hb.mono HBz.out.size))
                       clear hb))
                  go_ret
                  exact ⟨rfl, HBk.out⟩
            · have hmx : max n 7 = n := by omega
              go_wp2_with (first
                | (go_at_call 6
                   with_reducible refine (HNX.out _).mono ?_
                   rintro e un ⟨rfl, hb⟩
                   have HBn := Lib.hid (HB.out.trans (hb.mono HB.out.size))
                   clear hb))
              go_loopw [7] (fun vy wr => ∃ Y : Int, n ≤ Y ∧ 7 ≤ Y ∧ Y ≤ (x : Int) ∧ vy = .int .i64 Y ∧ Below w.heap.size w wr) (fun vy _ => ((x : Int) - intOf vy).toNat)
              case atStart => exact ⟨n, by have := HX.out; omega, by have := HX.out; omega, by have := HX.out; omega, rfl, HBn.out⟩
              case round =>
                obtain ⟨Y, hy1, hy7, hy2, rfl, hb⟩ := hrel
                have HB := Lib.hid hb
                clear hb
                by_cases hlt : Y < (x : Int)
                · have hx9 := HX.out.2.2
                  have zy : IntKind.i64.wrap (Y + 1) = Y + 1 := by rw [IntKind.wrap_i64]; have := HN9.out; omega
                  have HSY : Hid (∀ W : World, Calls Try.prog 10 #[.int .i64 Y] W (ret (.bool false) W)) := Lib.hid fun W => by
                    have h := HS.out Y W
                    have e : szP Y = false := by
                      by_cases h0 : 0 ≤ Y
                      · obtain ⟨y, rfl⟩ := Int.eq_ofNat_of_zero_le h0
                        exact HLO.out y hy1 (by omega)
                      · unfold szP
                        rw [decide_eq_false (show ¬ 7 ≤ Y by omega), Bool.false_and]
                    rwa [e] at h
                  clear hx9
                  go_wp2_with (first
                    | (go_at_call 10
                       with_reducible refine (HSY.out _).mono ?_
                       rintro e uy ⟨rfl, hb⟩
                       have HBy := Lib.hid (HB.out.trans (hb.mono HB.out.size))
                       clear hb))
                  go_roundw
                  case rel => exact ⟨Y + 1, by omega, by omega, by omega, by go_num, HBy.out⟩
                  case measure => simp [intOf]; omega
                · have hxn : n ≤ (x : Int) := HX.out.1
                  have HSX : Hid (∀ W : World, Calls Try.prog 10 #[.int .i64 (x : Int)] W (ret (.bool true) W)) := Lib.hid fun W => by
                    have h := HS.out (x : Int) W
                    rwa [HX2.out] at h
                  clear hy1 hy2 hy7
                  go_wp2_with (first
                    | (go_at_call 10
                       with_reducible refine (HSX.out _).mono ?_
                       rintro e uz ⟨rfl, hb⟩
                       have HBz := Lib.hid (HB.out.trans (hb.mono HB.out.size))
                       clear hb)
                    | (go_at_call 13
                       with_reducible refine (HK.out _).mono ?_
                       rintro e uk ⟨rfl, hb⟩
                       have HBk := Lib.hid (HBz.out.trans (hb.mono HBz.out.size))
                       clear hb))
                  go_ret
                  exact ⟨rfl, HBk.out⟩
          · have hbig : 65537 < n := by
              rcases Int.lt_or_le 65537 n with q | q
              · exact q
              · obtain ⟨x, hx⟩ := nx_ex q
                exact absurd hx (hno x)
            rw [hv] at HNX
            have HNX : Hid (∀ W : World, Calls Try.prog 6 #[.int .i64 n] W (ret (.tuple #[.int .i64 0, .int .i64 15]) W)) := HNX
            clear hno hv
            go_wp2_with (first
              | (go_at_call 6
                 with_reducible refine (HNX.out _).mono ?_
                 rintro e un ⟨rfl, hb⟩
                 have HBn := Lib.hid (HB.out.trans (hb.mono HB.out.size))
                 clear hb)
              | (go_at_call 13
                 with_reducible refine (HK.out _).mono ?_
                 rintro e uk ⟨rfl, hb⟩
                 have HBk := Lib.hid (HBn.out.trans (hb.mono HBn.out.size))
                 clear hb))
            go_ret
            exact ⟨rfl, HBk.out⟩
      · have l1 : ¬ (k : Int) < M := by omega
        clear hs zs hNn hMm
        rcases nx_cases n with ⟨x, hx, hv⟩ | ⟨hno, hv⟩
        · have HX : Hid (n ≤ (x : Int) ∧ 7 ≤ x ∧ x ≤ 65537) := Lib.hid ⟨hx.2.1, (szP_le hx.1).1, (szP_le hx.1).2.1⟩
          have HX2 := Lib.hid hx.1
          have HLO := Lib.hid hx.2.2
          rw [hv] at HNX
          clear hx hv
          by_cases h7 : n < 7
          · have hmx : max n 7 = 7 := by omega
            go_wp2_with (first
              | (go_at_call 6
                 with_reducible refine (HNX.out _).mono ?_
                 rintro e un ⟨rfl, hb⟩
                 have HBn := Lib.hid (HB.out.trans (hb.mono HB.out.size))
                 clear hb))
            go_loopw [7] (fun vy wr => ∃ Y : Int, n ≤ Y ∧ 7 ≤ Y ∧ Y ≤ (x : Int) ∧ vy = .int .i64 Y ∧ Below w.heap.size w wr) (fun vy _ => ((x : Int) - intOf vy).toNat)
            case atStart => exact ⟨7, by have := HX.out; omega, by have := HX.out; omega, by have := HX.out; omega, rfl, HBn.out⟩
            case round =>
              obtain ⟨Y, hy1, hy7, hy2, rfl, hb⟩ := hrel
              have HB := Lib.hid hb
              clear hb
              by_cases hlt : Y < (x : Int)
              · have hx9 := HX.out.2.2
                have zy : IntKind.i64.wrap (Y + 1) = Y + 1 := by rw [IntKind.wrap_i64]; have := HN9.out; omega
                have HSY : Hid (∀ W : World, Calls Try.prog 10 #[.int .i64 Y] W (ret (.bool false) W)) := Lib.hid fun W => by
                  have h := HS.out Y W
                  have e : szP Y = false := by
                    by_cases h0 : 0 ≤ Y
                    · obtain ⟨y, rfl⟩ := Int.eq_ofNat_of_zero_le h0
                      exact HLO.out y hy1 (by omega)
                    · unfold szP
                      rw [decide_eq_false (show ¬ 7 ≤ Y by omega), Bool.false_and]
                  rwa [e] at h
                clear hx9
                go_wp2_with (first
                  | (go_at_call 10
                     with_reducible refine (HSY.out _).mono ?_
                     rintro e uy ⟨rfl, hb⟩
                     have HBy := Lib.hid (HB.out.trans (hb.mono HB.out.size))
                     clear hb))
                go_roundw
                case rel => exact ⟨Y + 1, by omega, by omega, by omega, by go_num, HBy.out⟩
                case measure => simp [intOf]; omega
              · have hxn : n ≤ (x : Int) := HX.out.1
                have HSX : Hid (∀ W : World, Calls Try.prog 10 #[.int .i64 (x : Int)] W (ret (.bool true) W)) := Lib.hid fun W => by
                  have h := HS.out (x : Int) W
                  rwa [HX2.out] at h
                clear hy1 hy2 hy7
                go_wp2_with (first
                  | (go_at_call 10
                     with_reducible refine (HSX.out _).mono ?_
                     rintro e uz ⟨rfl, hb⟩
                     have HBz := Lib.hid (HB.out.trans (hb.mono HB.out.size))
                     clear hb)
                  | (go_at_call 13
                     with_reducible refine (HK.out _).mono ?_
                     rintro e uk ⟨rfl, hb⟩
                     have HBk := Lib.hid (HBz.out.trans (hb.mono HBz.out.size))
                     clear hb))
                go_ret
                exact ⟨rfl, HBk.out⟩
          · have hmx : max n 7 = n := by omega
            go_wp2_with (first
              | (go_at_call 6
                 with_reducible refine (HNX.out _).mono ?_
                 rintro e un ⟨rfl, hb⟩
                 have HBn := Lib.hid (HB.out.trans (hb.mono HB.out.size))
                 clear hb))
            go_loopw [7] (fun vy wr => ∃ Y : Int, n ≤ Y ∧ 7 ≤ Y ∧ Y ≤ (x : Int) ∧ vy = .int .i64 Y ∧ Below w.heap.size w wr) (fun vy _ => ((x : Int) - intOf vy).toNat)
            case atStart => exact ⟨n, by have := HX.out; omega, by have := HX.out; omega, by have := HX.out; omega, rfl, HBn.out⟩
            case round =>
              obtain ⟨Y, hy1, hy7, hy2, rfl, hb⟩ := hrel
              have HB := Lib.hid hb
              clear hb
              by_cases hlt : Y < (x : Int)
              · have hx9 := HX.out.2.2
                have zy : IntKind.i64.wrap (Y + 1) = Y + 1 := by rw [IntKind.wrap_i64]; have := HN9.out; omega
                have HSY : Hid (∀ W : World, Calls Try.prog 10 #[.int .i64 Y] W (ret (.bool false) W)) := Lib.hid fun W => by
                  have h := HS.out Y W
                  have e : szP Y = false := by
                    by_cases h0 : 0 ≤ Y
                    · obtain ⟨y, rfl⟩ := Int.eq_ofNat_of_zero_le h0
                      exact HLO.out y hy1 (by omega)
                    · unfold szP
                      rw [decide_eq_false (show ¬ 7 ≤ Y by omega), Bool.false_and]
                  rwa [e] at h
                clear hx9
                go_wp2_with (first
                  | (go_at_call 10
                     with_reducible refine (HSY.out _).mono ?_
                     rintro e uy ⟨rfl, hb⟩
                     have HBy := Lib.hid (HB.out.trans (hb.mono HB.out.size))
                     clear hb))
                go_roundw
                case rel => exact ⟨Y + 1, by omega, by omega, by omega, by go_num, HBy.out⟩
                case measure => simp [intOf]; omega
              · have hxn : n ≤ (x : Int) := HX.out.1
                have HSX : Hid (∀ W : World, Calls Try.prog 10 #[.int .i64 (x : Int)] W (ret (.bool true) W)) := Lib.hid fun W => by
                  have h := HS.out (x : Int) W
                  rwa [HX2.out] at h
                clear hy1 hy2 hy7
                go_wp2_with (first
                  | (go_at_call 10
                     with_reducible refine (HSX.out _).mono ?_
                     rintro e uz ⟨rfl, hb⟩
                     have HBz := Lib.hid (HB.out.trans (hb.mono HB.out.size))
                     clear hb)
                  | (go_at_call 13
                     with_reducible refine (HK.out _).mono ?_
                     rintro e uk ⟨rfl, hb⟩
                     have HBk := Lib.hid (HBz.out.trans (hb.mono HBz.out.size))
                     clear hb))
                go_ret
                exact ⟨rfl, HBk.out⟩
        · have hbig : 65537 < n := by
            rcases Int.lt_or_le 65537 n with q | q
            · exact q
            · obtain ⟨x, hx⟩ := nx_ex q
              exact absurd hx (hno x)
          rw [hv] at HNX
          have HNX : Hid (∀ W : World, Calls Try.prog 6 #[.int .i64 n] W (ret (.tuple #[.int .i64 0, .int .i64 15]) W)) := HNX
          clear hno hv
          go_wp2_with (first
            | (go_at_call 6
               with_reducible refine (HNX.out _).mono ?_
               rintro e un ⟨rfl, hb⟩
               have HBn := Lib.hid (HB.out.trans (hb.mono HB.out.size))
               clear hb)
            | (go_at_call 13
               with_reducible refine (HK.out _).mono ?_
               rintro e uk ⟨rfl, hb⟩
               have HBk := Lib.hid (HBn.out.trans (hb.mono HBn.out.size))
               clear hb))
          go_ret
          exact ⟨rfl, HBk.out⟩
  · have hl : lst n = 0 := by unfold lst; rw [if_neg h2]
    rw [hl] at HL
    have HL : Hid (∀ W : World, Calls Try.prog 12 #[.int .i64 n] W (ret (.int .i64 0) W)) := HL
    have HIN : Hid (∀ W : World, Calls Try.prog 9 #[.int .i64 n] W (ret (.bool false) W)) := Lib.hid fun W => by
      have h := HI.out n W
      have e : isP n = false := by
        unfold isP
        rcases (show ¬ 2 ≤ n ∨ ¬ n ≤ 1048576 by omega) with q | q
        · rw [decide_eq_false q, Bool.false_and]
        · rw [decide_eq_false q, Bool.false_and, Bool.and_false]
      rwa [e] at h
    clear hl
    rcases (show n < 2 ∨ 1048576 < n by omega) with q2 | q3
    · have q3 : ¬ (1048576 : Int) < n := by omega
      clear h2
      go_enter Try.func5, Try.ntmps5
      go_wp2_with (first
        | (go_at_call 12
           with_reducible refine (HL.out _).mono ?_
           rintro e u1 ⟨rfl, hb⟩
           have HB1 := Lib.hid (HB0.out.trans (hb.mono HB0.out.size))
           clear hb)
        | (go_at_call 9
           with_reducible refine (HIN.out _).mono ?_
           rintro e u2 ⟨rfl, hb⟩
           have HB2 := Lib.hid (HB1.out.trans (hb.mono HB1.out.size))
           clear hb))
      go_loopw [4] (fun vx wr => vx = .int .i64 2 ∧ Below w.heap.size w wr) (fun _ _ => 0)
      case atStart => exact ⟨rfl, HB2.out⟩
      case round =>
        obtain ⟨rfl, hb⟩ := hrel
        have HB := Lib.hid hb
        clear hb
        rcases nx_cases n with ⟨x, hx, hv⟩ | ⟨hno, hv⟩
        · have HX : Hid (n ≤ (x : Int) ∧ 7 ≤ x ∧ x ≤ 65537) := Lib.hid ⟨hx.2.1, (szP_le hx.1).1, (szP_le hx.1).2.1⟩
          have HX2 := Lib.hid hx.1
          have HLO := Lib.hid hx.2.2
          rw [hv] at HNX
          clear hx hv
          by_cases h7 : n < 7
          · have hmx : max n 7 = 7 := by omega
            go_wp2_with (first
              | (go_at_call 6
                 with_reducible refine (HNX.out _).mono ?_
                 rintro e un ⟨rfl, hb⟩
                 have HBn := Lib.hid (HB.out.trans (hb.mono HB.out.size))
                 clear hb))
            go_loopw [7] (fun vy wr => ∃ Y : Int, n ≤ Y ∧ 7 ≤ Y ∧ Y ≤ (x : Int) ∧ vy = .int .i64 Y ∧ Below w.heap.size w wr) (fun vy _ => ((x : Int) - intOf vy).toNat)
            case atStart => exact ⟨7, by have := HX.out; omega, by have := HX.out; omega, by have := HX.out; omega, rfl, HBn.out⟩
            case round =>
              obtain ⟨Y, hy1, hy7, hy2, rfl, hb⟩ := hrel
              have HB := Lib.hid hb
              clear hb
              by_cases hlt : Y < (x : Int)
              · have hx9 := HX.out.2.2
                have zy : IntKind.i64.wrap (Y + 1) = Y + 1 := by rw [IntKind.wrap_i64]; have := HN9.out; omega
                have HSY : Hid (∀ W : World, Calls Try.prog 10 #[.int .i64 Y] W (ret (.bool false) W)) := Lib.hid fun W => by
                  have h := HS.out Y W
                  have e : szP Y = false := by
                    by_cases h0 : 0 ≤ Y
                    · obtain ⟨y, rfl⟩ := Int.eq_ofNat_of_zero_le h0
                      exact HLO.out y hy1 (by omega)
                    · unfold szP
                      rw [decide_eq_false (show ¬ 7 ≤ Y by omega), Bool.false_and]
                  rwa [e] at h
                clear hx9
                go_wp2_with (first
                  | (go_at_call 10
                     with_reducible refine (HSY.out _).mono ?_
                     rintro e uy ⟨rfl, hb⟩
                     have HBy := Lib.hid (HB.out.trans (hb.mono HB.out.size))
                     clear hb))
                go_roundw
                case rel => exact ⟨Y + 1, by omega, by omega, by omega, by go_num, HBy.out⟩
                case measure => simp [intOf]; omega
              · have hxn : n ≤ (x : Int) := HX.out.1
                have HSX : Hid (∀ W : World, Calls Try.prog 10 #[.int .i64 (x : Int)] W (ret (.bool true) W)) := Lib.hid fun W => by
                  have h := HS.out (x : Int) W
                  rwa [HX2.out] at h
                clear hy1 hy2 hy7
                go_wp2_with (first
                  | (go_at_call 10
                     with_reducible refine (HSX.out _).mono ?_
                     rintro e uz ⟨rfl, hb⟩
                     have HBz := Lib.hid (HB.out.trans (hb.mono HB.out.size))
                     clear hb)
                  | (go_at_call 13
                     with_reducible refine (HK.out _).mono ?_
                     rintro e uk ⟨rfl, hb⟩
                     have HBk := Lib.hid (HBz.out.trans (hb.mono HBz.out.size))
                     clear hb))
                go_ret
                exact ⟨rfl, HBk.out⟩
          · exact absurd q2 (by omega)
        · have hbig : 65537 < n := by
            rcases Int.lt_or_le 65537 n with q | q
            · exact q
            · obtain ⟨x, hx⟩ := nx_ex q
              exact absurd hx (hno x)
          rw [hv] at HNX
          have HNX : Hid (∀ W : World, Calls Try.prog 6 #[.int .i64 n] W (ret (.tuple #[.int .i64 0, .int .i64 15]) W)) := HNX
          clear hno hv
          go_wp2_with (first
            | (go_at_call 6
               with_reducible refine (HNX.out _).mono ?_
               rintro e un ⟨rfl, hb⟩
               have HBn := Lib.hid (HB.out.trans (hb.mono HB.out.size))
               clear hb)
            | (go_at_call 13
               with_reducible refine (HK.out _).mono ?_
               rintro e uk ⟨rfl, hb⟩
               have HBk := Lib.hid (HBn.out.trans (hb.mono HBn.out.size))
               clear hb))
          go_ret
          exact ⟨rfl, HBk.out⟩
    · have q2 : ¬ n < 2 := by omega
      clear h2
      go_enter Try.func5, Try.ntmps5
      go_wp2_with (first
        | (go_at_call 12
           with_reducible refine (HL.out _).mono ?_
           rintro e u1 ⟨rfl, hb⟩
           have HB1 := Lib.hid (HB0.out.trans (hb.mono HB0.out.size))
           clear hb)
        | (go_at_call 9
           with_reducible refine (HIN.out _).mono ?_
           rintro e u2 ⟨rfl, hb⟩
           have HB2 := Lib.hid (HB1.out.trans (hb.mono HB1.out.size))
           clear hb))
      go_loopw [4] (fun vx wr => vx = .int .i64 2 ∧ Below w.heap.size w wr) (fun _ _ => 0)
      case atStart => exact ⟨rfl, HB2.out⟩
      case round =>
        obtain ⟨rfl, hb⟩ := hrel
        have HB := Lib.hid hb
        clear hb
        rcases nx_cases n with ⟨x, hx, hv⟩ | ⟨hno, hv⟩
        · have HX : Hid (n ≤ (x : Int) ∧ 7 ≤ x ∧ x ≤ 65537) := Lib.hid ⟨hx.2.1, (szP_le hx.1).1, (szP_le hx.1).2.1⟩
          have HX2 := Lib.hid hx.1
          have HLO := Lib.hid hx.2.2
          rw [hv] at HNX
          clear hx hv
          by_cases h7 : n < 7
          · have hmx : max n 7 = 7 := by omega
            go_wp2_with (first
              | (go_at_call 6
                 with_reducible refine (HNX.out _).mono ?_
                 rintro e un ⟨rfl, hb⟩
                 have HBn := Lib.hid (HB.out.trans (hb.mono HB.out.size))
                 clear hb))
            go_loopw [7] (fun vy wr => ∃ Y : Int, n ≤ Y ∧ 7 ≤ Y ∧ Y ≤ (x : Int) ∧ vy = .int .i64 Y ∧ Below w.heap.size w wr) (fun vy _ => ((x : Int) - intOf vy).toNat)
            case atStart => exact ⟨7, by have := HX.out; omega, by have := HX.out; omega, by have := HX.out; omega, rfl, HBn.out⟩
            case round =>
              obtain ⟨Y, hy1, hy7, hy2, rfl, hb⟩ := hrel
              have HB := Lib.hid hb
              clear hb
              by_cases hlt : Y < (x : Int)
              · have hx9 := HX.out.2.2
                have zy : IntKind.i64.wrap (Y + 1) = Y + 1 := by rw [IntKind.wrap_i64]; have := HN9.out; omega
                have HSY : Hid (∀ W : World, Calls Try.prog 10 #[.int .i64 Y] W (ret (.bool false) W)) := Lib.hid fun W => by
                  have h := HS.out Y W
                  have e : szP Y = false := by
                    by_cases h0 : 0 ≤ Y
                    · obtain ⟨y, rfl⟩ := Int.eq_ofNat_of_zero_le h0
                      exact HLO.out y hy1 (by omega)
                    · unfold szP
                      rw [decide_eq_false (show ¬ 7 ≤ Y by omega), Bool.false_and]
                  rwa [e] at h
                clear hx9
                go_wp2_with (first
                  | (go_at_call 10
                     with_reducible refine (HSY.out _).mono ?_
                     rintro e uy ⟨rfl, hb⟩
                     have HBy := Lib.hid (HB.out.trans (hb.mono HB.out.size))
                     clear hb))
                go_roundw
                case rel => exact ⟨Y + 1, by omega, by omega, by omega, by go_num, HBy.out⟩
                case measure => simp [intOf]; omega
              · have hxn : n ≤ (x : Int) := HX.out.1
                have HSX : Hid (∀ W : World, Calls Try.prog 10 #[.int .i64 (x : Int)] W (ret (.bool true) W)) := Lib.hid fun W => by
                  have h := HS.out (x : Int) W
                  rwa [HX2.out] at h
                clear hy1 hy2 hy7
                go_wp2_with (first
                  | (go_at_call 10
                     with_reducible refine (HSX.out _).mono ?_
                     rintro e uz ⟨rfl, hb⟩
                     have HBz := Lib.hid (HB.out.trans (hb.mono HB.out.size))
                     clear hb)
                  | (go_at_call 13
                     with_reducible refine (HK.out _).mono ?_
                     rintro e uk ⟨rfl, hb⟩
                     have HBk := Lib.hid (HBz.out.trans (hb.mono HBz.out.size))
                     clear hb))
                go_ret
                exact ⟨rfl, HBk.out⟩
          · have hmx : max n 7 = n := by omega
            go_wp2_with (first
              | (go_at_call 6
                 with_reducible refine (HNX.out _).mono ?_
                 rintro e un ⟨rfl, hb⟩
                 have HBn := Lib.hid (HB.out.trans (hb.mono HB.out.size))
                 clear hb))
            go_loopw [7] (fun vy wr => ∃ Y : Int, n ≤ Y ∧ 7 ≤ Y ∧ Y ≤ (x : Int) ∧ vy = .int .i64 Y ∧ Below w.heap.size w wr) (fun vy _ => ((x : Int) - intOf vy).toNat)
            case atStart => exact ⟨n, by have := HX.out; omega, by have := HX.out; omega, by have := HX.out; omega, rfl, HBn.out⟩
            case round =>
              obtain ⟨Y, hy1, hy7, hy2, rfl, hb⟩ := hrel
              have HB := Lib.hid hb
              clear hb
              by_cases hlt : Y < (x : Int)
              · have hx9 := HX.out.2.2
                have zy : IntKind.i64.wrap (Y + 1) = Y + 1 := by rw [IntKind.wrap_i64]; have := HN9.out; omega
                have HSY : Hid (∀ W : World, Calls Try.prog 10 #[.int .i64 Y] W (ret (.bool false) W)) := Lib.hid fun W => by
                  have h := HS.out Y W
                  have e : szP Y = false := by
                    by_cases h0 : 0 ≤ Y
                    · obtain ⟨y, rfl⟩ := Int.eq_ofNat_of_zero_le h0
                      exact HLO.out y hy1 (by omega)
                    · unfold szP
                      rw [decide_eq_false (show ¬ 7 ≤ Y by omega), Bool.false_and]
                  rwa [e] at h
                clear hx9
                go_wp2_with (first
                  | (go_at_call 10
                     with_reducible refine (HSY.out _).mono ?_
                     rintro e uy ⟨rfl, hb⟩
                     have HBy := Lib.hid (HB.out.trans (hb.mono HB.out.size))
                     clear hb))
                go_roundw
                case rel => exact ⟨Y + 1, by omega, by omega, by omega, by go_num, HBy.out⟩
                case measure => simp [intOf]; omega
              · have hxn : n ≤ (x : Int) := HX.out.1
                have HSX : Hid (∀ W : World, Calls Try.prog 10 #[.int .i64 (x : Int)] W (ret (.bool true) W)) := Lib.hid fun W => by
                  have h := HS.out (x : Int) W
                  rwa [HX2.out] at h
                clear hy1 hy2 hy7
                go_wp2_with (first
                  | (go_at_call 10
                     with_reducible refine (HSX.out _).mono ?_
                     rintro e uz ⟨rfl, hb⟩
                     have HBz := Lib.hid (HB.out.trans (hb.mono HB.out.size))
                     clear hb)
                  | (go_at_call 13
                     with_reducible refine (HK.out _).mono ?_
                     rintro e uk ⟨rfl, hb⟩
                     have HBk := Lib.hid (HBz.out.trans (hb.mono HBz.out.size))
                     clear hb))
                go_ret
                exact ⟨rfl, HBk.out⟩
        · have hbig : 65537 < n := by
            rcases Int.lt_or_le 65537 n with q | q
            · exact q
            · obtain ⟨x, hx⟩ := nx_ex q
              exact absurd hx (hno x)
          rw [hv] at HNX
          have HNX : Hid (∀ W : World, Calls Try.prog 6 #[.int .i64 n] W (ret (.tuple #[.int .i64 0, .int .i64 15]) W)) := HNX
          clear hno hv
          go_wp2_with (first
            | (go_at_call 6
               with_reducible refine (HNX.out _).mono ?_
               rintro e un ⟨rfl, hb⟩
               have HBn := Lib.hid (HB.out.trans (hb.mono HB.out.size))
               clear hb)
            | (go_at_call 13
               with_reducible refine (HK.out _).mono ?_
               rintro e uk ⟨rfl, hb⟩
               have HBk := Lib.hid (HBn.out.trans (hb.mono HBn.out.size))
               clear hb))
          go_ret
          exact ⟨rfl, HBk.out⟩
end Go.Proofs.Ytkifcolaboalgaa
