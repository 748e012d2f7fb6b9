/- The document's answers for layer 4: Chain. -/
import Derived.Test.YtfaelihfjmaekaaRI6a
import Derived.Test.YtfaelihfjmaekaaGen
namespace Go.Proofs.Ytfaelihfjmaekaa
open Go.RowKit
theorem chn_succ {f : Nat → Int} {N k : Nat} {next : Int} {a : Nat} (h : ext6 next = true) : chn f N (k + 1) next a =
    (if (one6 next (decide (k = 7)) (fun j => f (a + j)) (N - a)).2 = 0 then chn f N k (f a) (a + (one6 next (decide (k = 7)) (fun j => f (a + j)) (N - a)).1) else (0, 0, (one6 next (decide (k = 7)) (fun j => f (a + j)) (N - a)).2)) := by
  have e : chn f N (k + 1) next a = (if ext6 next = true then
      (if (one6 next (decide (k = 7)) (fun j => f (a + j)) (N - a)).2 = 0 then chn f N k (f a) (a + (one6 next (decide (k = 7)) (fun j => f (a + j)) (N - a)).1) else (0, 0, (one6 next (decide (k = 7)) (fun j => f (a + j)) (N - a)).2))
      else (next, a, 0)) := rfl
  rw [e, if_pos h]
/-- What Chain tells. -/
def ChOut (R : Int × Nat × Int) (w : World) (e : Ending) (w' : World) : Prop := e = .returned (.tuple #[.int .u8 R.1, .int .i64 (R.2.1 : Int), .int .i64 R.2.2]) ∧ Below w.heap.size w w'
set_option maxRecDepth 100000 in
set_option maxHeartbeats 2000000 in
theorem rchain_any (next : Int) (hn0 : 0 ≤ next ∧ next ≤ 255) (A : Option Addr) (N c : Nat) (f : Nat → Int) (hf : Byt f) (hN : N ≤ 4611686018427387904) (hcap : N ≤ c) (hc9 : c ≤ 9223372036854775807) (w : World) (hr : Rd w w.heap.size A N f) :
    Calls Try.prog 27 #[.int .u8 next, .slice A N c] w (ChOut (chn f N 8 next 0) w) := by
  have HR := Lib.hid hr
  have HF := Lib.hid hf
  obtain ⟨R, hR⟩ : ∃ R, R = chn f N 8 next 0 := ⟨_, rfl⟩
  rw [← hR]
  have HRE := Lib.hid hR
  have HNX := Lib.hid hn0
  clear hr hf hR hn0
  go_enter Try.func27, Try.ntmps27
  go_wp2
  go_loopw [0, 7, 8] (fun x y z wr => ∃ (k a : Nat) (nx : Int), k ≤ 8 ∧ x = .int .u8 nx ∧ y = .int .i64 (a : Int) ∧ z = .int .i64 ((8 - k : Nat) : Int) ∧ a ≤ N ∧ Hid (0 ≤ nx ∧ nx ≤ 255) ∧ Hid (R = chn f N k nx a) ∧ Below w.heap.size w wr) (fun _ _ z _ => 8 - (intOf z).toNat)
  case atStart => exact ⟨8, 0, next, Nat.le_refl _, rfl, rfl, rfl, Nat.zero_le _, HNX, HRE, Below.refl _ _⟩
  case round =>
    obtain ⟨k, a, nx, hk, rfl, rfl, rfl, ha, HX, HK, hbl⟩ := hrel
    have HB := Lib.hid hbl
    clear hbl
    have HIX := Lib.hid (risext_any nx wr)
    cases hx : ext6 nx with
    | false =>
      have hRv : R = (nx, a, 0) := by
        rw [HK.out]
        cases k <;> (unfold chn; rw [if_neg (by rw [hx]; decide)])
      have HRV := Lib.hid hRv
      rw [hx] at HIX
      clear hRv hx HK HRE
      go_wp2_with (first
        | (go_at_call 38; refine HIX.out.mono ?_; rintro e w1 ⟨rfl, rfl⟩))
      refine bodyPost_ret (v := .tuple #[.int .u8 nx, .int .i64 (a : Int), .int .i64 0]) (by simp [results, Try.results27]) rfl ?_
      exact ⟨by rw [HRV.out], HB.out⟩
    | true =>
      rw [hx] at HIX
      cases k with
      | zero =>
        have hRv : R = (0, 0, 3) := by
          rw [HK.out]
          unfold chn
          rw [if_pos hx]
        have HRV := Lib.hid hRv
        clear hRv hx HK HRE
        go_wp2_with (first
          | (go_at_call 38; refine HIX.out.mono ?_; rintro e w1 ⟨rfl, rfl⟩))
        refine bodyPost_ret (v := .tuple #[.int .u8 0, .int .i64 0, .int .i64 3]) (by simp [results, Try.results27]) rfl ?_
        exact ⟨by rw [HRV.out]; rfl, HB.out⟩
      | succ k =>
        obtain ⟨z, hz⟩ : ∃ z : Nat, z = 8 - (k + 1) := ⟨_, rfl⟩
        rw [← hz]
        have z8 : ((z : Int) == 8) = false := by simp; omega
        obtain ⟨q, hq⟩ : ∃ q : Bool, q = decide (k = 7) := ⟨_, rfl⟩
        have z0 : ((z : Int) == 0) = q := by
          rw [hq]
          by_cases h7 : k = 7
          · have : z = 0 := by omega
            subst this
            simp [h7]
          · have : (z : Int) ≠ 0 := by omega
            simp [h7]
            omega
        obtain ⟨D, hD, hDr⟩ := slice_any A N c a ha hcap hc9
        have HDR := Lib.hid hDr
        obtain ⟨r, hr⟩ : ∃ r, r = one6 nx (decide (k = 7)) (fun j => f (a + j)) (N - a) := ⟨_, rfl⟩
        have HON := Lib.hid (rone_any nx q D (N - a) (c - a) (fun j => f (a + j)) (fun j => HF.out _) (by omega) wr (hDr wr wr.heap.size f ((HR.out.keep HB.out).more HB.out.size)))
        rw [hq, ← hr, ← hq] at HON
        have hRv : R = if r.2 = 0 then chn f N k (f a) (a + r.1) else (0, 0, r.2) := by
          rw [HK.out, hr]
          exact chn_succ hx
        have HRV := Lib.hid hRv
        have HOK : Hid (r.2 = 0 → 8 ≤ r.1 ∧ r.1 ≤ N - a) := fun h => by
          rw [hr] at h ⊢
          obtain ⟨b1, b2, _⟩ := one6_ok h
          exact ⟨b1, b2⟩
        obtain ⟨r1, r2⟩ := r
        have i0 : (0 : Int) ≤ (a : Int) := by omega
        have HZ := Lib.hid hz
        clear hRv hx HK HRE hr hDr hq hz
        by_cases he : r2 = 0
        · subst he
          obtain ⟨b1, b2⟩ := HOK.out rfl
          have b1' : 8 ≤ r1 := b1
          have b2' : r1 ≤ N - a := b2
          rcases HR.out with h0 | ⟨b, off, rfl, hbb, hcell⟩
          · omega
          have HC := Lib.hid hcell
          clear hcell b1 b2
          have i1 : (a : Int) < (N : Int) := by omega
          have i3 : ((a : Int)).toNat = a := by omega
          have i4 : IntKind.i64.wrap ((a : Int) + (r1 : Int)) = (a : Int) + (r1 : Int) := by rw [IntKind.wrap_i64]; omega
          have hz8 : z < 8 := by have := HZ.out; omega
          have i5 : IntKind.i64.wrap ((z : Int) + 1) = (z : Int) + 1 := by rw [IntKind.wrap_i64]; omega
          go_wp2_with (first
            | (go_at_call 38; refine HIX.out.mono ?_; rintro e w1 ⟨rfl, rfl⟩)
            | (go_at_call 39; refine HON.out.mono ?_; rintro e w2 ⟨rfl, hb2⟩; have HB2 : Hid (Below w.heap.size w w2) := HB.out.trans (hb2.mono HB.out.size); clear hb2; have hx2 := (HB2.out.cell (p := ⟨b, off + a, none⟩) hbb).trans (HC.out a (by omega))))
          go_roundw
          case rel => exact ⟨k, a + r1, f a, by omega, rfl, by simp, by have := HZ.out; congr 1; omega, by omega, Lib.hid (HF.out a), Lib.hid (by rw [HRV.out]; simp), HB2.out⟩
          case measure => have := HZ.out; simp [intOf]; omega
        · have he' : (r2 != 0) = true := by simpa using he
          go_wp2_with (first
            | (go_at_call 38; refine HIX.out.mono ?_; rintro e w1 ⟨rfl, rfl⟩)
            | (go_at_call 39; refine HON.out.mono ?_; rintro e w2 ⟨rfl, hb2⟩; have HB2 : Hid (Below w.heap.size w w2) := HB.out.trans (hb2.mono HB.out.size); clear hb2))
          refine bodyPost_ret (v := .tuple #[.int .u8 0, .int .i64 0, .int .i64 r2]) (by simp [results, Try.results27]) rfl ?_
          exact ⟨by rw [HRV.out, if_neg he]; rfl, HB2.out⟩
end Go.Proofs.Ytfaelihfjmaekaa
