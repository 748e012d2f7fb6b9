/- Stage 12's fnv, mix, seeded, Name of the document, shaken out of Ha, Hb, Hc: for the layers above that name things. -/
import Derived.Test.YtfchmmojhfjibaaHn
import Derived.Test.YtfchmmojhfjibaaQg
import Derived.Laws.IdiomStrings
/- Stage 12: the document's product and halving; the law's shifts and products turned round. -/
namespace Go.Proofs.Ytfchmmojhfjibaa
set_option maxRecDepth 100000
open Go.RowKit Go.Shelf
theorem down_any (n k : Nat) (hn : n < 18446744073709551616) (hk : k ≤ 64) (w : World) : Calls Try.prog 62 #[.int .u64 (n : Int), .int .i64 (k : Int)] w (ret (.int .u64 ((n >>> k : Nat) : Int)) w) := by
  obtain ⟨R, hR⟩ : ∃ R, R = n >>> k := ⟨_, rfl⟩
  rw [← hR]
  have HR := Lib.hid hR
  clear hR
  go_enter Try.func62, Try.ntmps62
  go_wp2_with fail
  go_loopw [0, 5] (fun vn vi wr => ∃ j x : Nat, j ≤ k ∧ x = n >>> j ∧ vn = .int .u64 (x : Int) ∧ vi = .int .i64 (j : Int) ∧ Below w.heap.size w wr) (fun _ vi _ => k - (intOf vi).toNat)
  case atStart => exact ⟨0, n, Nat.zero_le _, rfl, rfl, rfl, Below.refl _ _⟩
  case round =>
    obtain ⟨j, x, hj, hxe, rfl, rfl, hb⟩ := hrel
    have hx : x < 18446744073709551616 := by rw [hxe]; exact shrW_lt hn j
    have HB := Lib.hid hb
    have HX := Lib.hid hxe
    clear hxe hb
    by_cases hjk : j < k
    · have i1 : (j : Int) < (k : Int) := by omega
      have zj : IntKind.i64.wrap ((j : Int) + 1) = (j : Int) + 1 := by rw [IntKind.wrap_i64]; omega
      obtain ⟨y, hy⟩ : ∃ y, y = x / 2 := ⟨_, rfl⟩
      have zy : (x : Int) / 2 = (y : Int) := by omega
      have HY : Hid (y = n >>> (j + 1)) := Lib.hid (by rw [Nat.shiftRight_succ, ← HX.out, hy])
      clear hy
      go_wp2_with fail
      go_roundw
      case rel => exact ⟨j + 1, y, by omega, HY.out, by go_num, by go_num, HB.out⟩
      case measure => simp [intOf]; omega
    · obtain rfl : j = k := by omega
      obtain rfl : x = R := by rw [HX.out, HR.out]
      have i1 : ¬ (j : Int) < (j : Int) := by omega
      go_wp2_with fail
      go_ret
      exact ⟨rfl, HB.out⟩
theorem times_any (a b : Nat) (ha : a < 18446744073709551616) (hb : b < 18446744073709551616) (w : World) : Calls Try.prog 61 #[.int .u64 (a : Int), .int .u64 (b : Int)] w (ret (.int .u64 ((mulW a b : Nat) : Int)) w) := by
  obtain ⟨R, hR⟩ : ∃ R, R = mulW a b := ⟨_, rfl⟩
  rw [← hR]
  have HR := Lib.hid hR
  clear hR
  go_enter Try.func61, Try.ntmps61
  go_wp2_with fail
  go_loopw [0, 1, 5] (fun va vb vo wr => ∃ x y o : Nat, x < 18446744073709551616 ∧ y < 18446744073709551616 ∧ o < 18446744073709551616 ∧ va = .int .u64 (x : Int) ∧ vb = .int .u64 (y : Int) ∧ vo = .int .u64 (o : Int) ∧ (o + x * y) % 18446744073709551616 = R ∧ Below w.heap.size w wr) (fun _ vb _ _ => (intOf vb).toNat)
  case atStart => exact ⟨a, b, 0, ha, hb, by decide, rfl, rfl, rfl, by rw [Nat.zero_add, HR.out]; rfl, Below.refl _ _⟩
  case round =>
    obtain ⟨x, y, o, hx, hy, ho, rfl, rfl, rfl, hm, hbl⟩ := hrel
    have HM := Lib.hid hm
    have HB := Lib.hid hbl
    clear hm hbl
    by_cases h0 : 0 < y
    · have i1 : (0 : Int) < (y : Int) := by omega
      have ht := times_step o x y
      rw [HM.out] at ht
      obtain ⟨x2, hx2⟩ : ∃ x2, x2 = (x + x) % 18446744073709551616 := ⟨_, rfl⟩
      have hx2l : x2 < 18446744073709551616 := by omega
      have zx : IntKind.u64.wrap ((x : Int) + (x : Int)) = (x2 : Int) := by rw [IntKind.wrap_u64]; omega
      obtain ⟨y2, hy2⟩ : ∃ y2, y2 = y / 2 := ⟨_, rfl⟩
      have zy : (y : Int) / 2 = (y2 : Int) := by omega
      rw [← hx2, ← hy2] at ht
      have hyl : y2 < y := by omega
      clear hx2 hy2
      by_cases h1 : y % 2 = 1
      · obtain ⟨o2, ho2⟩ : ∃ o2, o2 = (o + x) % 18446744073709551616 := ⟨_, rfl⟩
        have hol : o2 < 18446744073709551616 := by omega
        have zo : IntKind.u64.wrap ((o : Int) + (x : Int)) = (o2 : Int) := by rw [IntKind.wrap_u64]; omega
        rw [if_pos h1, ← ho2] at ht
        have HT := Lib.hid ht
        have j1 : (y : Int) % 2 = 1 := by omega
        clear ho2 ht h1 HM
        go_wp2_with fail
        go_roundw
        case rel => exact ⟨x2, y2, o2, hx2l, by omega, hol, by go_num, by go_num, by go_num, HT.out, HB.out⟩
        case measure => simp [intOf]; omega
      · rw [if_neg h1] at ht
        have HT := Lib.hid ht
        have j1 : (y : Int) % 2 = 0 := by omega
        clear ht h1 HM
        go_wp2_with fail
        go_roundw
        case rel => exact ⟨x2, y2, o, hx2l, by omega, ho, by go_num, by go_num, by go_num, HT.out, HB.out⟩
        case measure => simp [intOf]; omega
    · obtain rfl : y = 0 := by omega
      obtain rfl : o = R := by
        have h9 := HM.out
        rw [Nat.mul_zero, Nat.add_zero, Nat.mod_eq_of_lt ho] at h9
        exact h9
      go_wp2_with fail
      go_ret
      exact ⟨rfl, HB.out⟩
end Go.Proofs.Ytfchmmojhfjibaa
/- Stage 12: the document's numbers mixed; the law's number told back. -/
namespace Go.Proofs.Ytfchmmojhfjibaa
set_option maxRecDepth 100000
open Go.RowKit Go.Shelf
theorem rmix_any (n : Nat) (hn : n < 18446744073709551616) (w : World) : Calls Try.prog 56 #[.int .u64 (n : Int)] w (ret (.int .u64 ((mixN n : Nat) : Int)) w) := by
  have HD : Hid (∀ x : Nat, x < 18446744073709551616 → ∀ W, Calls Try.prog 62 #[.int .u64 (x : Int), .int .i64 30] W (ret (.int .u64 ((x >>> 30 : Nat) : Int)) W) ∧ Calls Try.prog 62 #[.int .u64 (x : Int), .int .i64 27] W (ret (.int .u64 ((x >>> 27 : Nat) : Int)) W) ∧ Calls Try.prog 62 #[.int .u64 (x : Int), .int .i64 31] W (ret (.int .u64 ((x >>> 31 : Nat) : Int)) W)) := Lib.hid fun x hx W => ⟨down_any x 30 hx (by decide) W, down_any x 27 hx (by decide) W, down_any x 31 hx (by decide) W⟩
  have HM : Hid (∀ x : Nat, x < 18446744073709551616 → ∀ W, Calls Try.prog 61 #[.int .u64 (x : Int), .int .u64 13787848793156543929] W (ret (.int .u64 ((mulW x 13787848793156543929 : Nat) : Int)) W) ∧ Calls Try.prog 61 #[.int .u64 (x : Int), .int .u64 10723151780598845931] W (ret (.int .u64 ((mulW x 10723151780598845931 : Nat) : Int)) W)) := Lib.hid fun x hx W => ⟨times_any x 13787848793156543929 hx (by decide) W, times_any x 10723151780598845931 hx (by decide) W⟩
  obtain ⟨R, hR⟩ : ∃ R, R = mixN n := ⟨_, rfl⟩
  rw [← hR]
  unfold mixN at hR
  simp only at hR
  have h1 := fun W => (HD.out n hn W).1
  have l1 := shrW_lt hn 30
  obtain ⟨a, ha⟩ : ∃ a, a = n >>> 30 := ⟨_, rfl⟩
  rw [← ha] at h1 hR l1
  have z1 : bits .xor .u64 (n : Int) (a : Int) = ((n ^^^ a : Nat) : Int) := bits_xor_u64_nat _ _ hn l1
  have l2 := xorW_lt hn l1
  obtain ⟨b, hb⟩ : ∃ b, b = n ^^^ a := ⟨_, rfl⟩
  rw [← hb] at z1 l2 hR
  have h2 := fun W => (HM.out b l2 W).1
  have l3 := mulW_lt b 13787848793156543929
  obtain ⟨c, hc⟩ : ∃ c, c = mulW b 13787848793156543929 := ⟨_, rfl⟩
  rw [← hc] at h2 l3 hR
  have h3 := fun W => (HD.out c l3 W).2.1
  have l4 := shrW_lt l3 27
  obtain ⟨d, hd⟩ : ∃ d, d = c >>> 27 := ⟨_, rfl⟩
  rw [← hd] at h3 hR l4
  have z2 : bits .xor .u64 (c : Int) (d : Int) = ((c ^^^ d : Nat) : Int) := bits_xor_u64_nat _ _ l3 l4
  have l5 := xorW_lt l3 l4
  obtain ⟨e, he⟩ : ∃ e, e = c ^^^ d := ⟨_, rfl⟩
  rw [← he] at z2 l5 hR
  have h4 := fun W => (HM.out e l5 W).2
  have l6 := mulW_lt e 10723151780598845931
  obtain ⟨f, hf⟩ : ∃ f, f = mulW e 10723151780598845931 := ⟨_, rfl⟩
  rw [← hf] at h4 l6 hR
  have h5 := fun W => (HD.out f l6 W).2.2
  have l7 := shrW_lt l6 31
  obtain ⟨g, hg⟩ : ∃ g, g = f >>> 31 := ⟨_, rfl⟩
  rw [← hg] at h5 hR l7
  have z3 : bits .xor .u64 (f : Int) (g : Int) = ((f ^^^ g : Nat) : Int) := bits_xor_u64_nat _ _ l6 l7
  rw [← hR] at z3
  have H1 := Lib.hid h1
  have H2 := Lib.hid h2
  have H3 := Lib.hid h3
  have H4 := Lib.hid h4
  have H5 := Lib.hid h5
  clear h1 h2 h3 h4 h5 ha hb hc hd he hf hg hR HD HM l1 l2 l3 l4 l5 l6 l7
  go_enter Try.func56, Try.ntmps56
  go_upto_region 2 with (first
    | (go_at_call 62
       refine (H1.out _).mono ?_
       rintro e v1 ⟨rfl, hb1⟩
       have HB1 := Lib.hid hb1
       clear hb1)
    | (go_at_call 61
       refine (H2.out _).mono ?_
       rintro e v2 ⟨rfl, hb2⟩
       have HB2 := Lib.hid (HB1.out.trans (hb2.mono HB1.out.size))
       clear hb2 HB1))
  go_upto_region 3 with (first
    | (go_at_call 62
       refine (H3.out _).mono ?_
       rintro e v3 ⟨rfl, hb3⟩
       have HB3 := Lib.hid (HB2.out.trans (hb3.mono HB2.out.size))
       clear hb3 HB2)
    | (go_at_call 61
       refine (H4.out _).mono ?_
       rintro e v4 ⟨rfl, hb4⟩
       have HB4 := Lib.hid (HB3.out.trans (hb4.mono HB3.out.size))
       clear hb4 HB3))
  go_wp2_with (first
    | (go_at_call 62
       refine (H5.out _).mono ?_
       rintro e v5 ⟨rfl, hb5⟩
       have HB5 := Lib.hid (HB4.out.trans (hb5.mono HB4.out.size))
       clear hb5 HB4))
  go_ret
  exact ⟨rfl, HB5.out⟩
end Go.Proofs.Ytfchmmojhfjibaa
/- Stage 12: the document's hashes of bytes and of texts. -/
namespace Go.Proofs.Ytfchmmojhfjibaa
set_option maxRecDepth 100000
open Go.RowKit Go.Shelf
/-- Bytes as numbers. -/
def nb (f : Nat → Int) (k : Nat) : Nat := (f k).toNat
theorem nb_int {f : Nat → Int} (hf : Byt f) (k : Nat) : ((nb f k : Nat) : Int) = f k := Int.toNat_of_nonneg (hf k).1
theorem nb_lt {f : Nat → Int} (hf : Byt f) (k : Nat) : nb f k < 256 := by
  have h1 := nb_int hf k
  have h2 := hf k
  omega
theorem rfnv_any (A : Option Addr) (m c : Nat) (f : Nat → Int) (hf : Byt f) (hm : m ≤ 4611686018427387904) (w : World) (hr : Rd w w.heap.size A m f) : Calls Try.prog 57 #[.slice A m c] w (ret (.int .u64 ((fnvN (nb f) m : Nat) : Int)) w) := by
  have HT : Hid (∀ (x : Nat), x < 18446744073709551616 → ∀ W, Calls Try.prog 61 #[.int .u64 (x : Int), .int .u64 1099511628211] W (ret (.int .u64 ((mulW x 1099511628211 : Nat) : Int)) W)) := Lib.hid fun x hx W => times_any x 1099511628211 hx (by decide) W
  have HR := Lib.hid hr
  obtain ⟨R, hR⟩ : ∃ R, R = fnvN (nb f) m := ⟨_, rfl⟩
  rw [← hR]
  have HE := Lib.hid hR
  clear hR hr
  go_enter Try.func57, Try.ntmps57
  go_wp2_with fail
  go_loopw [3, 4] (fun vo vi wr => ∃ j x : Nat, j ≤ m ∧ x = fnvN (nb f) j ∧ vo = .int .u64 (x : Int) ∧ vi = .int .i64 (j : Int) ∧ Below w.heap.size w wr) (fun _ vi _ => m - (intOf vi).toNat)
  case atStart => exact ⟨0, 14695981039346656037, Nat.zero_le _, rfl, rfl, rfl, Below.refl _ _⟩
  case round =>
    obtain ⟨j, x, hj, hxe, rfl, rfl, hb⟩ := hrel
    have hx : x < 18446744073709551616 := by rw [hxe]; exact fnv_lt _ _
    have HB := Lib.hid hb
    by_cases hjk : j < m
    · rcases HR.out with h0 | ⟨bA, off, rfl, hbl, hcl⟩
      · omega
      have i1 : (j : Int) < (m : Int) := by omega
      have i0 : (0 : Int) ≤ (j : Int) := by omega
      have i2 : ((j : Int)).toNat = j := by omega
      have xj : wr.cell? ⟨bA, off + j, none⟩ = some (.int .u8 (nb f j : Int)) := by
        rw [nb_int hf]
        exact (hb.cell (p := ⟨bA, off + j, none⟩) hbl).trans (hcl j hjk)
      have hl := nb_lt hf j
      obtain ⟨y, hy⟩ : ∃ y, y = nb f j := ⟨_, rfl⟩
      have hs : mulW (x ^^^ y) 1099511628211 = fnvN (nb f) (j + 1) := by rw [hxe, hy]; rfl
      rw [← hy] at xj hl
      have z1 : bits .xor .u64 (x : Int) (y : Int) = ((x ^^^ y : Nat) : Int) := bits_xor_u64_nat _ _ hx (by omega)
      have hxl := xorW_lt hx (show y < 18446744073709551616 by omega)
      obtain ⟨z, hz⟩ : ∃ z, z = x ^^^ y := ⟨_, rfl⟩
      rw [← hz] at z1 hxl hs
      have h1 := fun W => HT.out z hxl W
      rw [hs] at h1
      obtain ⟨u, hu⟩ : ∃ u, u = fnvN (nb f) (j + 1) := ⟨_, rfl⟩
      rw [← hu] at h1
      have HU := Lib.hid hu
      have H1 := Lib.hid h1
      have zj : IntKind.i64.wrap ((j : Int) + 1) = (j : Int) + 1 := by rw [IntKind.wrap_i64]; omega
      have zy : IntKind.u64.wrap (y : Int) = (y : Int) := by rw [IntKind.wrap_u64]; omega
      clear hxe hb hcl hy hs hz hu h1 HT
      go_wp2_with (first
        | (go_at_call 61
           refine (H1.out _).mono ?_
           rintro e v1 ⟨rfl, hb1⟩
           have HB1 := Lib.hid (HB.out.trans (hb1.mono HB.out.size))
           clear hb1))
      go_roundw
      case rel => exact ⟨j + 1, u, by omega, HU.out, by go_num, by go_num, HB1.out⟩
      case measure => simp [intOf]; omega
    · obtain rfl : j = m := by omega
      obtain rfl : x = R := by rw [hxe, HE.out]
      have i1 : ¬ (j : Int) < (j : Int) := by omega
      clear hxe hb
      go_wp2_with fail
      go_ret
      exact ⟨rfl, HB.out⟩
theorem seedN_eq (seed : Nat) (f : Nat → Nat) (m : Nat) : seedN seed f m = mixN (fnvN f m ^^^ mixN seed) := rfl
theorem rseeded_any (seed : Nat) (hs : seed < 18446744073709551616) (A : Option Addr) (m c : Nat) (f : Nat → Int) (hf : Byt f) (hm : m ≤ 4611686018427387904) (w : World) (hr : Rd w w.heap.size A m f) : Calls Try.prog 53 #[.int .u64 (seed : Int), .slice A m c] w (ret (.int .u64 ((seedN seed (nb f) m : Nat) : Int)) w) := by
  have h1 := rfnv_any A m c f hf hm w hr
  have l1 := fnv_lt (nb f) m
  obtain ⟨R, hR⟩ : ∃ R, R = seedN seed (nb f) m := ⟨_, rfl⟩
  rw [← hR]
  rw [seedN_eq] at hR
  obtain ⟨a, ha⟩ : ∃ a, a = fnvN (nb f) m := ⟨_, rfl⟩
  rw [← ha] at h1 l1 hR
  have h2 := fun W => rmix_any seed hs W
  have l2 := mix_lt seed
  obtain ⟨b, hb⟩ : ∃ b, b = mixN seed := ⟨_, rfl⟩
  rw [← hb] at h2 l2 hR
  have z1 : bits .xor .u64 (a : Int) (b : Int) = ((a ^^^ b : Nat) : Int) := bits_xor_u64_nat _ _ l1 l2
  have l3 := xorW_lt l1 l2
  obtain ⟨x, hx⟩ : ∃ x, x = a ^^^ b := ⟨_, rfl⟩
  rw [← hx] at z1 l3 hR
  have h3 := fun W => rmix_any x l3 W
  rw [← hR] at h3
  have H1 := Lib.hid h1
  have H2 := Lib.hid h2
  have H3 := Lib.hid h3
  clear h1 h2 h3 ha hb hx hR hr
  go_enter Try.func53, Try.ntmps53
  go_wp2_with (first
    | (go_at_call 57
       refine H1.out.mono ?_
       rintro e v1 ⟨rfl, hb1⟩
       have HB1 := Lib.hid hb1
       clear hb1 H1)
    | (go_at_call 56
       refine (H2.out _).mono ?_
       rintro e v2 ⟨rfl, hb2⟩
       have HB2 := Lib.hid (HB1.out.trans (hb2.mono HB1.out.size))
       clear hb2 HB1 H2)
    | (go_at_call 56
       refine (H3.out _).mono ?_
       rintro e v3 ⟨rfl, hb3⟩
       have HB3 := Lib.hid (HB2.out.trans (hb3.mono HB2.out.size))
       clear hb3 HB2 H3))
  go_ret
  exact ⟨rfl, HB3.out⟩
/-- A text's bytes. -/
theorem run_bytes_rd {P : Program} (w : World) (src dst e : TypeId) (n : Nat) (f : Nat → Int) (hf : Byt f) (hs : P.underlying src = some .string) (hd : P.underlying dst = some (.slice e)) (he : P.underlying e = some (.int .u8)) :
    ∃ c w2, (convert src dst (.string (strOfNums (nums n f)))).run P w = .ok (.slice (some ⟨w.heap.size, 0, none⟩) n c) w2 ∧ Rd w2 w2.heap.size (some ⟨w.heap.size, 0, none⟩) n f ∧ Below w.heap.size w w2 := by
  have hz : (strOfNums (nums n f)).size = n := by rw [strOfNums_size, nums_len]
  have h := run_bytes_of_string (P := P) w src dst e (strOfNums (nums n f)) hs hd he
  rw [hz] at h
  refine ⟨_, _, h, ?_, (Below.refl w.heap.size w).drew.alloc (Nat.le_refl _) _⟩
  refine .inr ⟨w.heap.size, 0, rfl, by simp, fun k hk => ?_⟩
  have hsz : k < (strOfNums (nums n f)).data.size := by
    show k < (strOfNums (nums n f)).size
    rw [hz]
    exact hk
  have h2 := bytesRow_at (strOfNums (nums n f)) (grownCap w n 0 e) k hsz
  rw [Nat.zero_add]
  refine (cell_of_row _ w.heap.size k _ e _ (heap_alloc_new w.drew _)).trans ?_
  rw [h2]
  have hl : k < (nums n f).length := by rw [nums_len]; exact hk
  have h3 := nums_get (f := f) hk
  rw [List.getD_eq_getElem?_getD, List.getElem?_eq_getElem hl] at h3
  have h3 : (nums n f)[k] = f k := h3
  have h5 : (strOfNums (nums n f)).data[k] = UInt8.ofNat (f k).toNat := by
    simp [strOfNums, h3]
  rw [h5]
  have h6 := hf k
  have h7 : ((UInt8.ofNat (f k).toNat).toNat : Int) = f k := by
    rw [UInt8.toNat_ofNat']
    omega
  rw [h7]
theorem rname_any (seed : Nat) (hs : seed < 18446744073709551616) (n : Nat) (f : Nat → Int) (hf : Byt f) (hm : n ≤ 4611686018427387904) (w : World) : Calls Try.prog 41 #[.int .u64 (seed : Int), .string (strOfNums (nums n f))] w (ret (.int .u64 ((seedN seed (nb f) n : Nat) : Int)) w) := by
  obtain ⟨c, w2, hrun, hrd, hb2⟩ := run_bytes_rd (P := Try.prog) w 9 78 5 n f hf Try.underlying9 Try.underlying78 Try.underlying5
  have H1 := Lib.hid (rseeded_any seed hs (some ⟨w.heap.size, 0, none⟩) n c f hf hm w2 hrd)
  have HB := Lib.hid hb2
  clear hrd hb2
  obtain ⟨S, hS⟩ : ∃ S, S = strOfNums (nums n f) := ⟨_, rfl⟩
  rw [← hS] at hrun ⊢
  clear hS
  go_enter Try.func41, Try.ntmps41
  go_wp2_with (first
    | (go_at_call 53
       refine H1.out.mono ?_
       rintro e v1 ⟨rfl, hb1⟩
       have HB1 := Lib.hid (HB.out.trans (hb1.mono HB.out.size))
       clear hb1 H1))
  go_ret
  exact ⟨rfl, HB1.out⟩
end Go.Proofs.Ytfchmmojhfjibaa
