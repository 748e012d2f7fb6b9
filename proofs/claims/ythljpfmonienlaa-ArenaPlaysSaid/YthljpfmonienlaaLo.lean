/- How a handle is opened, where it came in. -/
import Derived.Test.YthljpfmonienlaaFlat
import Derived.Test.YthljpfmonienlaaFacts
namespace Go.Proofs.Ythljpfmonienlaa
open Go.ChangeShapes Go.WideShapes Go.ChangeAt Go.RowKit
theorem open_hnd {H : Type} {enc : TypeId × Value → H} {W : World} {r : Reach} {b0 : Nat} {v : Value} {d : DataW H} {p : List MemPlace} (hv : Value.okWide Try.prog W r b0 32 v) (h : DataW.Trod enc Try.prog W 0 (fun _ => true) true 32 v d p) :
    ∃ (i : Int) (k : Nat), (-9223372036854775808 ≤ i ∧ i ≤ 9223372036854775807) ∧ k ≤ 18446744073709551615 ∧ v = .agg #[.int .i64 i, .int .u64 (k : Int)] := by
  obtain ⟨cs, rfl, hsz, hc⟩ := open_flat (n := 9) (ks := [.num .i64, .num .u64]) Try.underlying32 (by kernel_rfl) hv h
  obtain ⟨_, h0, i, rfl, hi⟩ := hc 0 _ rfl
  obtain ⟨_, h1, k, rfl, hk⟩ := hc 1 _ rfl
  have hk' := wf_u64 hk
  obtain ⟨k, rfl⟩ := Int.eq_ofNat_of_zero_le hk'.1
  refine ⟨i, k, wf_i64 hi, by omega, ?_⟩
  congr 1
  refine Array.ext (by rw [hsz]; rfl) fun j hj _ => ?_
  rw [hsz] at hj
  have hj : j < 2 := hj
  rcases (show j = 0 ∨ j = 1 by omega) with rfl | rfl
  · rw [Array.getElem?_eq_getElem (by omega)] at h0
    injection h0
  · rw [Array.getElem?_eq_getElem (by omega)] at h1
    injection h1
end Go.Proofs.Ythljpfmonienlaa
