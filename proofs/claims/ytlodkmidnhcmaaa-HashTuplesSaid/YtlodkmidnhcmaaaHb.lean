/- Stage 12: the document's numbers mixed; the law's number told back. -/
import Derived.Test.YtlodkmidnhcmaaaHa
namespace Go.Proofs.Ytlodkmidnhcmaaa
set_option maxRecDepth 100000
open Go.RowKit Go.Shelf
theorem wrap_mulW (a b : Nat) : IntKind.u64.wrap ((a : Int) * (b : Int)) = ((mulW a b : Nat) : Int) := by
  rw [IntKind.wrap_u64, mulW, Int.natCast_emod, Int.natCast_mul]
  rfl
theorem back_any (n : Nat) (hn : n < 18446744073709551616) (w : World) : Calls Try.prog 19 #[.int .u64 (n : Int)] w (ret (.int .u64 ((backN n : Nat) : Int)) w) := by
  have HT31 : Hid (∀ (x : Nat), x < 18446744073709551616 → ∀ W, Calls Try.prog 23 #[.int .u64 (x : Int), .int .u64 31] W (ret (.int .u64 ((turnN x 31 3 : Nat) : Int)) W)) := Lib.hid fun x hx W => turned_any x 31 hx (by decide) W
  have HT27 : Hid (∀ (x : Nat), x < 18446744073709551616 → ∀ W, Calls Try.prog 23 #[.int .u64 (x : Int), .int .u64 27] W (ret (.int .u64 ((turnN x 27 3 : Nat) : Int)) W)) := Lib.hid fun x hx W => turned_any x 27 hx (by decide) W
  have HT30 : Hid (∀ (x : Nat), x < 18446744073709551616 → ∀ W, Calls Try.prog 23 #[.int .u64 (x : Int), .int .u64 30] W (ret (.int .u64 ((turnN x 30 3 : Nat) : Int)) W)) := Lib.hid fun x hx W => turned_any x 30 hx (by decide) W
  have HI1 : Hid (∀ W, Calls Try.prog 24 #[.int .u64 10723151780598845931] W (ret (.int .u64 ((invN 10723151780598845931 6 : Nat) : Int)) W)) := Lib.hid fun W => inverse_any 10723151780598845931 (by decide) W
  have HI2 : Hid (∀ W, Calls Try.prog 24 #[.int .u64 13787848793156543929] W (ret (.int .u64 ((invN 13787848793156543929 6 : Nat) : Int)) W)) := Lib.hid fun W => inverse_any 13787848793156543929 (by decide) W
  obtain ⟨R, hR⟩ : ∃ R, R = backN n := ⟨_, rfl⟩
  rw [← hR]
  unfold backN at hR
  simp only at hR
  obtain ⟨i1, hi1⟩ : ∃ i, i = invN 10723151780598845931 6 := ⟨_, rfl⟩
  obtain ⟨i2, hi2⟩ : ∃ i, i = invN 13787848793156543929 6 := ⟨_, rfl⟩
  rw [← hi1] at HI1 hR
  rw [← hi2] at HI2 hR
  clear hi1 hi2
  have h1 := HT31.out n hn
  obtain ⟨a, ha⟩ : ∃ a, a = turnN n 31 3 := ⟨_, rfl⟩
  rw [← ha] at h1 hR
  have zb := wrap_mulW a i1
  have hbl := mulW_lt a i1
  obtain ⟨b, hb⟩ : ∃ b, b = mulW a i1 := ⟨_, rfl⟩
  rw [← hb] at zb hbl hR
  have h2 := HT27.out b hbl
  obtain ⟨c, hc⟩ : ∃ c, c = turnN b 27 3 := ⟨_, rfl⟩
  rw [← hc] at h2 hR
  have zd := wrap_mulW c i2
  have hdl := mulW_lt c i2
  obtain ⟨d, hd⟩ : ∃ d, d = mulW c i2 := ⟨_, rfl⟩
  rw [← hd] at zd hdl hR
  have h3 := HT30.out d hdl
  rw [← hR] at h3
  have H1 := Lib.hid h1
  have H2 := Lib.hid h2
  have H3 := Lib.hid h3
  clear h1 h2 h3 ha hb hc hd hR HT31 HT27 HT30
  go_enter Try.func19, Try.ntmps19
  go_upto_region 2 with (first
    | (go_at_call 23
       refine (H1.out _).mono ?_
       rintro e v1 ⟨rfl, hb1⟩
       have HB1 := Lib.hid hb1
       clear hb1)
    | (go_at_call 24
       refine (HI1.out _).mono ?_
       rintro e v2 ⟨rfl, hb2⟩
       have HB2 := Lib.hid (HB1.out.trans (hb2.mono HB1.out.size))
       clear hb2 HB1))
  go_upto_region 3 with (first
    | (go_at_call 23
       refine (H2.out _).mono ?_
       rintro e v3 ⟨rfl, hb3⟩
       have HB3 := Lib.hid (HB2.out.trans (hb3.mono HB2.out.size))
       clear hb3 HB2)
    | (go_at_call 24
       refine (HI2.out _).mono ?_
       rintro e v4 ⟨rfl, hb4⟩
       have HB4 := Lib.hid (HB3.out.trans (hb4.mono HB3.out.size))
       clear hb4 HB3))
  go_wp2_with (first
    | (go_at_call 23
       refine (H3.out _).mono ?_
       rintro e v5 ⟨rfl, hb5⟩
       have HB5 := Lib.hid (HB4.out.trans (hb5.mono HB4.out.size))
       clear hb5 HB4))
  go_ret
  exact ⟨rfl, HB5.out⟩
theorem rmix_any (n : Nat) (hn : n < 18446744073709551616) (w : World) : Calls Try.prog 10 #[.int .u64 (n : Int)] w (ret (.int .u64 ((mixN n : Nat) : Int)) w) := by
  have HD : Hid (∀ x : Nat, x < 18446744073709551616 → ∀ W, Calls Try.prog 22 #[.int .u64 (x : Int), .int .i64 30] W (ret (.int .u64 ((x >>> 30 : Nat) : Int)) W) ∧ Calls Try.prog 22 #[.int .u64 (x : Int), .int .i64 27] W (ret (.int .u64 ((x >>> 27 : Nat) : Int)) W) ∧ Calls Try.prog 22 #[.int .u64 (x : Int), .int .i64 31] W (ret (.int .u64 ((x >>> 31 : Nat) : Int)) W)) := Lib.hid fun x hx W => ⟨down_any x 30 hx (by decide) W, down_any x 27 hx (by decide) W, down_any x 31 hx (by decide) W⟩
  have HM : Hid (∀ x : Nat, x < 18446744073709551616 → ∀ W, Calls Try.prog 20 #[.int .u64 (x : Int), .int .u64 13787848793156543929] W (ret (.int .u64 ((mulW x 13787848793156543929 : Nat) : Int)) W) ∧ Calls Try.prog 20 #[.int .u64 (x : Int), .int .u64 10723151780598845931] W (ret (.int .u64 ((mulW x 10723151780598845931 : Nat) : Int)) W)) := Lib.hid fun x hx W => ⟨times_any x 13787848793156543929 hx (by decide) W, times_any x 10723151780598845931 hx (by decide) W⟩
  obtain ⟨R, hR⟩ : ∃ R, R = mixN n := ⟨_, rfl⟩
  rw [← hR]
  unfold mixN at hR
  simp only at hR
  have h1 := fun W => (HD.out n hn W).1
  have l1 := shrW_lt hn 30
  obtain ⟨a, ha⟩ : ∃ a, a = n >>> 30 := ⟨_, rfl⟩
  rw [← ha] at h1 hR l1
  have z1 : bits .xor .u64 (n : Int) (a : Int) = ((n ^^^ a : Nat) : Int) := bits_xor_u64_nat _ _ hn l1
  have l2 := xorW_lt hn l1
  obtain ⟨b, hb⟩ : ∃ b, b = n ^^^ a := ⟨_, rfl⟩
  rw [← hb] at z1 l2 hR
  have h2 := fun W => (HM.out b l2 W).1
  have l3 := mulW_lt b 13787848793156543929
  obtain ⟨c, hc⟩ : ∃ c, c = mulW b 13787848793156543929 := ⟨_, rfl⟩
  rw [← hc] at h2 l3 hR
  have h3 := fun W => (HD.out c l3 W).2.1
  have l4 := shrW_lt l3 27
  obtain ⟨d, hd⟩ : ∃ d, d = c >>> 27 := ⟨_, rfl⟩
  rw [← hd] at h3 hR l4
  have z2 : bits .xor .u64 (c : Int) (d : Int) = ((c ^^^ d : Nat) : Int) := bits_xor_u64_nat _ _ l3 l4
  have l5 := xorW_lt l3 l4
  obtain ⟨e, he⟩ : ∃ e, e = c ^^^ d := ⟨_, rfl⟩
  rw [← he] at z2 l5 hR
  have h4 := fun W => (HM.out e l5 W).2
  have l6 := mulW_lt e 10723151780598845931
  obtain ⟨f, hf⟩ : ∃ f, f = mulW e 10723151780598845931 := ⟨_, rfl⟩
  rw [← hf] at h4 l6 hR
  have h5 := fun W => (HD.out f l6 W).2.2
  have l7 := shrW_lt l6 31
  obtain ⟨g, hg⟩ : ∃ g, g = f >>> 31 := ⟨_, rfl⟩
  rw [← hg] at h5 hR l7
  have z3 : bits .xor .u64 (f : Int) (g : Int) = ((f ^^^ g : Nat) : Int) := bits_xor_u64_nat _ _ l6 l7
  rw [← hR] at z3
  have H1 := Lib.hid h1
  have H2 := Lib.hid h2
  have H3 := Lib.hid h3
  have H4 := Lib.hid h4
  have H5 := Lib.hid h5
  clear h1 h2 h3 h4 h5 ha hb hc hd he hf hg hR HD HM l1 l2 l3 l4 l5 l6 l7
  go_enter Try.func10, Try.ntmps10
  go_upto_region 2 with (first
    | (go_at_call 22
       refine (H1.out _).mono ?_
       rintro e v1 ⟨rfl, hb1⟩
       have HB1 := Lib.hid hb1
       clear hb1)
    | (go_at_call 20
       refine (H2.out _).mono ?_
       rintro e v2 ⟨rfl, hb2⟩
       have HB2 := Lib.hid (HB1.out.trans (hb2.mono HB1.out.size))
       clear hb2 HB1))
  go_upto_region 3 with (first
    | (go_at_call 22
       refine (H3.out _).mono ?_
       rintro e v3 ⟨rfl, hb3⟩
       have HB3 := Lib.hid (HB2.out.trans (hb3.mono HB2.out.size))
       clear hb3 HB2)
    | (go_at_call 20
       refine (H4.out _).mono ?_
       rintro e v4 ⟨rfl, hb4⟩
       have HB4 := Lib.hid (HB3.out.trans (hb4.mono HB3.out.size))
       clear hb4 HB3))
  go_wp2_with (first
    | (go_at_call 22
       refine (H5.out _).mono ?_
       rintro e v5 ⟨rfl, hb5⟩
       have HB5 := Lib.hid (HB4.out.trans (hb5.mono HB4.out.size))
       clear hb5 HB4))
  go_ret
  exact ⟨rfl, HB5.out⟩
end Go.Proofs.Ytlodkmidnhcmaaa
