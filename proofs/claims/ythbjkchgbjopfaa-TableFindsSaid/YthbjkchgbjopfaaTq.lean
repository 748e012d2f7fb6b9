/- How an entry is opened, where it came in. -/
import Derived.Test.YthbjkchgbjopfaaFlat
import Derived.Test.YthbjkchgbjopfaaFacts
namespace Go.Proofs.Ythbjkchgbjopfaa
open Go.ChangeShapes Go.WideShapes Go.ChangeAt Go.RowKit
set_option maxRecDepth 100000 in
theorem open_ent {H : Type} {enc : TypeId × Value → H} {W : World} {r : Reach} {b0 : Nat} {v : Value} {d : DataW H} {p : List MemPlace} (hv : Value.okWide Try.prog W r b0 34 v) (h : DataW.Trod enc Try.prog W 0 (fun _ => true) true 34 v d p) :
    ∃ (i k : Nat), i < 18446744073709551616 ∧ k < 4294967296 ∧ v = .agg #[.int .u64 (i : Int), .int .u32 (k : Int)] := by
  obtain ⟨cs, rfl, hsz, hc⟩ := open_flat (n := 9) (ks := [.num .u64, .num .u32]) Try.underlying34 (by kernel_rfl) hv h
  obtain ⟨_, h0, i, rfl, hi⟩ := hc 0 _ rfl
  obtain ⟨_, h1, k, rfl, hk⟩ := hc 1 _ rfl
  have hi' := wf_u64 hi
  have hk' := wf_u32 hk
  obtain ⟨i, rfl⟩ := Int.eq_ofNat_of_zero_le hi'.1
  obtain ⟨k, rfl⟩ := Int.eq_ofNat_of_zero_le hk'.1
  refine ⟨i, k, by omega, by omega, ?_⟩
  congr 1
  refine Array.ext (by rw [hsz]; rfl) fun j hj _ => ?_
  rw [hsz] at hj
  have hj : j < 2 := hj
  rcases (show j = 0 ∨ j = 1 by omega) with rfl | rfl
  · rw [Array.getElem?_eq_getElem (by omega)] at h0
    injection h0
  · rw [Array.getElem?_eq_getElem (by omega)] at h1
    injection h1
end Go.Proofs.Ythbjkchgbjopfaa
