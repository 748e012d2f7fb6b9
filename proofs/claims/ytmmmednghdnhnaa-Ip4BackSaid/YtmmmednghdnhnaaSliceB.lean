/- A slice of bytes cut on both sides, wherever its memory ends. -/
import Derived.Test.YtmmmednghdnhnaaRI4a
namespace Go.Proofs.Ytmmmednghdnhnaa
open Go.RowKit
theorem slice_both (b off n c lo hi : Nat) (h1 : lo ≤ hi) (h2 : hi ≤ n) (h3 : n ≤ c) (h4 : c ≤ 9223372036854775807) : ∃ A : Option Addr,
    (∀ W, (Instr.sliceAt 24 (.slice (some ⟨b, off, none⟩) n c) (some (.int .i64 (lo : Int))) (some (.int .i64 (hi : Int))) none).run Try.prog W = .ok (.slice A (hi - lo) (c - lo)) W) ∧
    (∀ (W : World) (B : Nat) (f : Nat → Int), Rd W B (some ⟨b, off, none⟩) n f → Rd W B A (hi - lo) (fun k => f (lo + k))) := by
  have i1 : (0 : Int) ≤ (lo : Int) := by omega
  have i2 : (lo : Int) ≤ (hi : Int) := by omega
  have i3 : (hi : Int) ≤ (c : Int) := by omega
  have i4 : (0 : Int) ≤ (hi : Int) := by omega
  by_cases h : c = lo
  · have e : hi = lo := by omega
    subst e
    subst h
    refine ⟨some ⟨b, off, none⟩, fun W => ?_, fun W B f hr => .inl (by omega)⟩
    go_simp
  · refine ⟨some ⟨b, off + lo, none⟩, fun W => ?_, fun W B f hr => ?_⟩
    · go_simp
    · rcases hr with h0 | ⟨b', off', e, hb, hc⟩
      · exact .inl (by omega)
      · injection e with e
        injection e with e1 e2
        subst e1
        subst e2
        exact .inr ⟨b, off + lo, rfl, hb, fun k hk => by rw [Nat.add_assoc]; exact hc _ (by omega)⟩
end Go.Proofs.Ytmmmednghdnhnaa
