/- ResizePlays is proved in full: for any most and any calls, whatever the order in which Go draws them, it answers true. No further condition. -/
import Derived.Test.YthjghofjdcepmaaGm33
import Derived.Test.YthjghofjdcepmaaGm36
namespace Go.Proofs.Ythjghofjdcepmaa
open Go.ChangeShapes Go.WideShapes Go.ChangeAt Go.RowKit

set_option maxRecDepth 100000 in
theorem resizePlays_lifted (os : Os) (started : os.Started) (H : Type) (enc : TypeId × Value → H) :
    ReturnsInHanded {} Try.checked os 3 .any (Rows.resizePlaysSpec.pre6 enc Try.prog Try.f3 Rows.resizePlaysRow.domain false) (Rows.resizePlaysSpec.post enc Try.prog Try.f3 false true false false) := by
  refine returnsInHanded_of_change (C := Try.checked) Try.own started (by kernel_rfl) Try.func3
    (ChangeSpec.witness6 (enc := enc) (C := Try.checked) false ⟨#[], #[.int .i64 0, .slice none 0 0], []⟩ 8 (by kernel_rfl) (by kernel_rfl) (by kernel_rfl) (by kernel_rfl)) ?_
  intro W base args ds gs before hval0 hW hcnd _
  have hval : ∀ (j : Nat) t v, Try.f3.params[j]? = some t → args[j]? = some v → Value.okWide Try.prog W .any base t v := hval0
  have hW' := hW
  obtain ⟨p, q, hA0, hV, rfl, hfz, hnd⟩ := hW
  have hA : DataW.TrodAll enc Try.prog W 0 (fun _ => true) true Try.f3.params.toList args.toList ds p := hA0
  rw [Try.params3] at hA hval
  obtain ⟨v0, vs0, d0, ds0, p0, q0, hargs, rfl, rfl, h0, r0⟩ := trodAll_cons hA
  obtain ⟨v1, vs1, d1, ds1, p1, q1, rfl, rfl, rfl, h1, r1⟩ := trodAll_cons r0
  obtain ⟨rfl, rfl, rfl⟩ := trodAll_nil r1
  obtain rfl : args = #[v0, v1] := by cases args; simp_all
  obtain ⟨rfl, rfl⟩ := trodVars_none hV
  obtain ⟨n, rfl, _, _, hwn⟩ := open_int Try.underlying3 (hval 0 3 v0 rfl rfl) h0
  obtain ⟨hn0, hn1⟩ := wf_i64 hwn
  obtain ⟨A, m, c, f, rfl, hA1, hA2, hA4, hA3⟩ := open_flats (n := 9) (ks := [.num .i64, .num .u8, .num .u64, .num .u32]) Try.underlying22 (by kernel_rfl) (by kernel_rfl) (hval 1 22 v1 rfl rfl) h1
  have hA5 : c ≤ 9223372036854775807 := Nat.le_trans hA2 (by unfold maxLen; omega)
  clear hA0 hval0
  have walk : Calls Try.prog 3 #[.int .i64 n, .slice A m c] W fun e w' => e = .returned (.bool true) ∧ Below W.heap.size W w' := by
    by_cases h : m ≤ 80
    · have hr : RdC W W.heap.size A (m * 4) f := hA4
      have hf : ∀ i, i < m → ∃ (κ : Int) (N h x : Nat), N < 256 ∧ h < 18446744073709551616 ∧ x < 4294967296 ∧ f (i * 4) = .int .i64 κ ∧ f (i * 4 + 1) = .int .u8 (N : Int) ∧ f (i * 4 + 2) = .int .u64 (h : Int) ∧ f (i * 4 + 3) = .int .u32 (x : Int) := fun i hi => by
        obtain ⟨x0, e0, _⟩ := hA3 i hi 0 _ rfl
        obtain ⟨x1, e1, hw1⟩ := hA3 i hi 1 _ rfl
        obtain ⟨x2, e2, hw⟩ := hA3 i hi 2 _ rfl
        obtain ⟨x3, e3, hw'⟩ := hA3 i hi 3 _ rfl
        have hw2 := wf_u64 hw
        have hw3 := wf_u32 hw'
        have hw4 := wf_u8 hw1
        obtain ⟨k1, rfl⟩ := Int.eq_ofNat_of_zero_le hw4.1
        obtain ⟨k2, rfl⟩ := Int.eq_ofNat_of_zero_le hw2.1
        obtain ⟨k3, rfl⟩ := Int.eq_ofNat_of_zero_le hw3.1
        exact ⟨x0, k1, k2, k3, by omega, by omega, by omega, e0, e1, e2, e3⟩
      by_cases h1 : 256 < n ∧ n ≤ 262144
      · exact gplays_mid groP n h1.1 h1.2 A m c h W
      · cases hmy : growI n with
        | true =>
          have hq := hmy
          unfold growI at hq
          rw [Bool.and_eq_true] at hq
          obtain ⟨N, rfl, h8, h9⟩ := mayI_pos hq.2
          exact gplays_any groP N (by omega) hmy A m c f h hA1 hA5 W hr hf
        | false => exact gplays_bad groP n (by omega) hmy A m c h W
    · exact gplays_long groP n A m c (by omega) W
  refine walk.mono fun e W' ⟨he, hb⟩ => ⟨_, he, ?_⟩
  simp only [List.append_nil] at hW'
  exact law_post hW' hb Try.laidOut rfl (by kernel_rfl) rfl Try.underlying4 rfl

theorem resizePlays_holds : Rows.ResizePlaysSaid :=
  OpenClaim.holds_of_wide 3 Try.f3 rfl rfl rfl rfl rfl rfl rfl ⟨rfl, rfl, rfl, rfl, rfl⟩ rfl rfl rfl rfl rfl (by kernel_rfl) Try.func3 (by kernel_rfl)
    (of_decide_eq_true (by kernel_rfl)) (by unfold Func.isWrapper; first | (rw [if_pos (by decide +kernel)]; kernel_rfl) | (rw [if_neg (by decide +kernel)]; exact ⟨rfl, rfl⟩))
    (fun os started H enc _ => resizePlays_lifted os started H enc)
end Go.Proofs.Ythjghofjdcepmaa
