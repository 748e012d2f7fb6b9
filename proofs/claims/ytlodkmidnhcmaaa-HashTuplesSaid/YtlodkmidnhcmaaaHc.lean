/- Stage 12: the document's hashes of bytes and of texts. -/
import Derived.Test.YtlodkmidnhcmaaaHb
import Derived.Laws.IdiomStrings
namespace Go.Proofs.Ytlodkmidnhcmaaa
set_option maxRecDepth 100000
open Go.RowKit Go.Shelf
/-- Bytes as numbers. -/
def nb (f : Nat → Int) (k : Nat) : Nat := (f k).toNat
theorem nb_int {f : Nat → Int} (hf : Byt f) (k : Nat) : ((nb f k : Nat) : Int) = f k := Int.toNat_of_nonneg (hf k).1
theorem nb_lt {f : Nat → Int} (hf : Byt f) (k : Nat) : nb f k < 256 := by
  have h1 := nb_int hf k
  have h2 := hf k
  omega
theorem rfnv_any (A : Option Addr) (m c : Nat) (f : Nat → Int) (hf : Byt f) (hm : m ≤ 4611686018427387904) (w : World) (hr : Rd w w.heap.size A m f) : Calls Try.prog 8 #[.slice A m c] w (ret (.int .u64 ((fnvN (nb f) m : Nat) : Int)) w) := by
  have HT : Hid (∀ (x : Nat), x < 18446744073709551616 → ∀ W, Calls Try.prog 20 #[.int .u64 (x : Int), .int .u64 1099511628211] W (ret (.int .u64 ((mulW x 1099511628211 : Nat) : Int)) W)) := Lib.hid fun x hx W => times_any x 1099511628211 hx (by decide) W
  have HR := Lib.hid hr
  obtain ⟨R, hR⟩ : ∃ R, R = fnvN (nb f) m := ⟨_, rfl⟩
  rw [← hR]
  have HE := Lib.hid hR
  clear hR hr
  go_enter Try.func8, Try.ntmps8
  go_wp2_with fail
  go_loopw [3, 4] (fun vo vi wr => ∃ j x : Nat, j ≤ m ∧ x = fnvN (nb f) j ∧ vo = .int .u64 (x : Int) ∧ vi = .int .i64 (j : Int) ∧ Below w.heap.size w wr) (fun _ vi _ => m - (intOf vi).toNat)
  case atStart => exact ⟨0, 14695981039346656037, Nat.zero_le _, rfl, rfl, rfl, Below.refl _ _⟩
  case round =>
    obtain ⟨j, x, hj, hxe, rfl, rfl, hb⟩ := hrel
    have hx : x < 18446744073709551616 := by rw [hxe]; exact fnv_lt _ _
    have HB := Lib.hid hb
    by_cases hjk : j < m
    · rcases HR.out with h0 | ⟨bA, off, rfl, hbl, hcl⟩
      · omega
      have i1 : (j : Int) < (m : Int) := by omega
      have i0 : (0 : Int) ≤ (j : Int) := by omega
      have i2 : ((j : Int)).toNat = j := by omega
      have xj : wr.cell? ⟨bA, off + j, none⟩ = some (.int .u8 (nb f j : Int)) := by
        rw [nb_int hf]
        exact (hb.cell (p := ⟨bA, off + j, none⟩) hbl).trans (hcl j hjk)
      have hl := nb_lt hf j
      obtain ⟨y, hy⟩ : ∃ y, y = nb f j := ⟨_, rfl⟩
      have hs : mulW (x ^^^ y) 1099511628211 = fnvN (nb f) (j + 1) := by rw [hxe, hy]; rfl
      rw [← hy] at xj hl
      have z1 : bits .xor .u64 (x : Int) (y : Int) = ((x ^^^ y : Nat) : Int) := bits_xor_u64_nat _ _ hx (by omega)
      have hxl := xorW_lt hx (show y < 18446744073709551616 by omega)
      obtain ⟨z, hz⟩ : ∃ z, z = x ^^^ y := ⟨_, rfl⟩
      rw [← hz] at z1 hxl hs
      have h1 := fun W => HT.out z hxl W
      rw [hs] at h1
      obtain ⟨u, hu⟩ : ∃ u, u = fnvN (nb f) (j + 1) := ⟨_, rfl⟩
      rw [← hu] at h1
      have HU := Lib.hid hu
      have H1 := Lib.hid h1
      have zj : IntKind.i64.wrap ((j : Int) + 1) = (j : Int) + 1 := by rw [IntKind.wrap_i64]; omega
      have zy : IntKind.u64.wrap (y : Int) = (y : Int) := by rw [IntKind.wrap_u64]; omega
      clear hxe hb hcl hy hs hz hu h1 HT
      go_wp2_with (first
        | (go_at_call 20
           refine (H1.out _).mono ?_
           rintro e v1 ⟨rfl, hb1⟩
           have HB1 := Lib.hid (HB.out.trans (hb1.mono HB.out.size))
           clear hb1))
      go_roundw
      case rel => exact ⟨j + 1, u, by omega, HU.out, by go_num, by go_num, HB1.out⟩
      case measure => simp [intOf]; omega
    · obtain rfl : j = m := by omega
      obtain rfl : x = R := by rw [hxe, HE.out]
      have i1 : ¬ (j : Int) < (j : Int) := by omega
      clear hxe hb
      go_wp2_with fail
      go_ret
      exact ⟨rfl, HB.out⟩
theorem seedN_eq (seed : Nat) (f : Nat → Nat) (m : Nat) : seedN seed f m = mixN (fnvN f m ^^^ mixN seed) := rfl
theorem rseeded_any (seed : Nat) (hs : seed < 18446744073709551616) (A : Option Addr) (m c : Nat) (f : Nat → Int) (hf : Byt f) (hm : m ≤ 4611686018427387904) (w : World) (hr : Rd w w.heap.size A m f) : Calls Try.prog 12 #[.int .u64 (seed : Int), .slice A m c] w (ret (.int .u64 ((seedN seed (nb f) m : Nat) : Int)) w) := by
  have h1 := rfnv_any A m c f hf hm w hr
  have l1 := fnv_lt (nb f) m
  obtain ⟨R, hR⟩ : ∃ R, R = seedN seed (nb f) m := ⟨_, rfl⟩
  rw [← hR]
  rw [seedN_eq] at hR
  obtain ⟨a, ha⟩ : ∃ a, a = fnvN (nb f) m := ⟨_, rfl⟩
  rw [← ha] at h1 l1 hR
  have h2 := fun W => rmix_any seed hs W
  have l2 := mix_lt seed
  obtain ⟨b, hb⟩ : ∃ b, b = mixN seed := ⟨_, rfl⟩
  rw [← hb] at h2 l2 hR
  have z1 : bits .xor .u64 (a : Int) (b : Int) = ((a ^^^ b : Nat) : Int) := bits_xor_u64_nat _ _ l1 l2
  have l3 := xorW_lt l1 l2
  obtain ⟨x, hx⟩ : ∃ x, x = a ^^^ b := ⟨_, rfl⟩
  rw [← hx] at z1 l3 hR
  have h3 := fun W => rmix_any x l3 W
  rw [← hR] at h3
  have H1 := Lib.hid h1
  have H2 := Lib.hid h2
  have H3 := Lib.hid h3
  clear h1 h2 h3 ha hb hx hR hr
  go_enter Try.func12, Try.ntmps12
  go_wp2_with (first
    | (go_at_call 8
       refine H1.out.mono ?_
       rintro e v1 ⟨rfl, hb1⟩
       have HB1 := Lib.hid hb1
       clear hb1 H1)
    | (go_at_call 10
       refine (H2.out _).mono ?_
       rintro e v2 ⟨rfl, hb2⟩
       have HB2 := Lib.hid (HB1.out.trans (hb2.mono HB1.out.size))
       clear hb2 HB1 H2)
    | (go_at_call 10
       refine (H3.out _).mono ?_
       rintro e v3 ⟨rfl, hb3⟩
       have HB3 := Lib.hid (HB2.out.trans (hb3.mono HB2.out.size))
       clear hb3 HB2 H3))
  go_ret
  exact ⟨rfl, HB3.out⟩
/-- A text's bytes. -/
theorem run_bytes_rd {P : Program} (w : World) (src dst e : TypeId) (n : Nat) (f : Nat → Int) (hf : Byt f) (hs : P.underlying src = some .string) (hd : P.underlying dst = some (.slice e)) (he : P.underlying e = some (.int .u8)) :
    ∃ c w2, (convert src dst (.string (strOfNums (nums n f)))).run P w = .ok (.slice (some ⟨w.heap.size, 0, none⟩) n c) w2 ∧ Rd w2 w2.heap.size (some ⟨w.heap.size, 0, none⟩) n f ∧ Below w.heap.size w w2 := by
  have hz : (strOfNums (nums n f)).size = n := by rw [strOfNums_size, nums_len]
  have h := run_bytes_of_string (P := P) w src dst e (strOfNums (nums n f)) hs hd he
  rw [hz] at h
  refine ⟨_, _, h, ?_, (Below.refl w.heap.size w).drew.alloc (Nat.le_refl _) _⟩
  refine .inr ⟨w.heap.size, 0, rfl, by simp, fun k hk => ?_⟩
  have hsz : k < (strOfNums (nums n f)).data.size := by
    show k < (strOfNums (nums n f)).size
    rw [hz]
    exact hk
  have h2 := bytesRow_at (strOfNums (nums n f)) (grownCap w n 0 e) k hsz
  rw [Nat.zero_add]
  refine (cell_of_row _ w.heap.size k _ e _ (heap_alloc_new w.drew _)).trans ?_
  rw [h2]
  have hl : k < (nums n f).length := by rw [nums_len]; exact hk
  have h3 := nums_get (f := f) hk
  rw [List.getD_eq_getElem?_getD, List.getElem?_eq_getElem hl] at h3
  have h3 : (nums n f)[k] = f k := h3
  have h5 : (strOfNums (nums n f)).data[k] = UInt8.ofNat (f k).toNat := by
    simp [strOfNums, h3]
  rw [h5]
  have h6 := hf k
  have h7 : ((UInt8.ofNat (f k).toNat).toNat : Int) = f k := by
    rw [UInt8.toNat_ofNat']
    omega
  rw [h7]
theorem rname_any (seed : Nat) (hs : seed < 18446744073709551616) (n : Nat) (f : Nat → Int) (hf : Byt f) (hm : n ≤ 4611686018427387904) (w : World) : Calls Try.prog 14 #[.int .u64 (seed : Int), .string (strOfNums (nums n f))] w (ret (.int .u64 ((seedN seed (nb f) n : Nat) : Int)) w) := by
  obtain ⟨c, w2, hrun, hrd, hb2⟩ := run_bytes_rd (P := Try.prog) w 9 23 5 n f hf Try.underlying9 Try.underlying23 Try.underlying5
  have H1 := Lib.hid (rseeded_any seed hs (some ⟨w.heap.size, 0, none⟩) n c f hf hm w2 hrd)
  have HB := Lib.hid hb2
  clear hrd hb2
  obtain ⟨S, hS⟩ : ∃ S, S = strOfNums (nums n f) := ⟨_, rfl⟩
  rw [← hS] at hrun ⊢
  clear hS
  go_enter Try.func14, Try.ntmps14
  go_wp2_with (first
    | (go_at_call 12
       refine H1.out.mono ?_
       rintro e v1 ⟨rfl, hb1⟩
       have HB1 := Lib.hid (HB.out.trans (hb1.mono HB.out.size))
       clear hb1 H1))
  go_ret
  exact ⟨rfl, HB1.out⟩
end Go.Proofs.Ytlodkmidnhcmaaa
