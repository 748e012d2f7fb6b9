/- How timeouts are opened, where they came in. -/
import Derived.Test.YtpdomapkagicaaaFlat
import Derived.Test.YtpdomapkagicaaaFacts
namespace Go.Proofs.Ytpdomapkagicaaa
open Go.ChangeShapes Go.WideShapes Go.ChangeAt Go.RowKit
set_option maxRecDepth 100000 in
theorem open_tmo {H : Type} {enc : TypeId × Value → H} {W : World} {r : Reach} {b0 : Nat} {v : Value} {d : DataW H} {p : List MemPlace} (hv : Value.okWide Try.prog W r b0 24 v) (h : DataW.Trod enc Try.prog W 0 (fun _ => true) true 24 v d p) :
    ∃ (a b c d : Nat), a < 4294967296 ∧ b < 4294967296 ∧ c < 4294967296 ∧ d < 4294967296 ∧ v = .agg #[.int .u32 (a : Int), .int .u32 (b : Int), .int .u32 (c : Int), .int .u32 (d : Int)] := by
  obtain ⟨cs, rfl, hsz, hc⟩ := open_flat (n := 9) (ks := [.num .u32, .num .u32, .num .u32, .num .u32]) Try.underlying24 (by kernel_rfl) hv h
  obtain ⟨_, h0, x0, rfl, k0⟩ := hc 0 _ rfl
  obtain ⟨_, h1, x1, rfl, k1⟩ := hc 1 _ rfl
  obtain ⟨_, h2, x2, rfl, k2⟩ := hc 2 _ rfl
  obtain ⟨_, h3, x3, rfl, k3⟩ := hc 3 _ rfl
  have q0 := wf_u32 k0
  have q1 := wf_u32 k1
  have q2 := wf_u32 k2
  have q3 := wf_u32 k3
  obtain ⟨x0, rfl⟩ := Int.eq_ofNat_of_zero_le q0.1
  obtain ⟨x1, rfl⟩ := Int.eq_ofNat_of_zero_le q1.1
  obtain ⟨x2, rfl⟩ := Int.eq_ofNat_of_zero_le q2.1
  obtain ⟨x3, rfl⟩ := Int.eq_ofNat_of_zero_le q3.1
  refine ⟨x0, x1, x2, x3, by omega, by omega, by omega, by omega, ?_⟩
  congr 1
  refine Array.ext (by rw [hsz]; rfl) fun j hj _ => ?_
  rw [hsz] at hj
  have hj : j < 4 := hj
  rcases (show j = 0 ∨ j = 1 ∨ j = 2 ∨ j = 3 by omega) with rfl | rfl | rfl | rfl
  · rw [Array.getElem?_eq_getElem (by omega)] at h0
    injection h0
  · rw [Array.getElem?_eq_getElem (by omega)] at h1
    injection h1
  · rw [Array.getElem?_eq_getElem (by omega)] at h2
    injection h2
  · rw [Array.getElem?_eq_getElem (by omega)] at h3
    injection h3
end Go.Proofs.Ytpdomapkagicaaa
