/- WheelPlays is proved in full: for any number of cells, any tick and any calls, whatever the order in which Go draws them, it answers true. No further condition. -/
import Derived.Test.YtkmakdhlaenaoaaGm46
import Derived.Test.YtkmakdhlaenaoaaGm45
namespace Go.Proofs.Ytkmakdhlaenaoaa
open Go.ChangeShapes Go.WideShapes Go.ChangeAt Go.RowKit

set_option maxRecDepth 100000 in
theorem wheelPlays_lifted (os : Os) (started : os.Started) (H : Type) (enc : TypeId × Value → H) :
    ReturnsInHanded {} Try.checked os 3 .any (Rows.wheelPlaysSpec.pre6 enc Try.prog Try.f3 Rows.wheelPlaysRow.domain false) (Rows.wheelPlaysSpec.post enc Try.prog Try.f3 false true false false) := by
  refine returnsInHanded_of_change (C := Try.checked) Try.own started (by kernel_rfl) Try.func3
    (ChangeSpec.witness6 (enc := enc) (C := Try.checked) false ⟨#[], #[.int .i64 0, .int .u64 0, .slice none 0 0], []⟩ 8 (by kernel_rfl) (by kernel_rfl) (by kernel_rfl) (by kernel_rfl)) ?_
  intro W base args ds gs before hval0 hW hcnd _
  have hval : ∀ (j : Nat) t v, Try.f3.params[j]? = some t → args[j]? = some v → Value.okWide Try.prog W .any base t v := hval0
  have hW' := hW
  obtain ⟨p, q, hA0, hV, rfl, hfz, hnd⟩ := hW
  have hA : DataW.TrodAll enc Try.prog W 0 (fun _ => true) true Try.f3.params.toList args.toList ds p := hA0
  rw [Try.params3] at hA hval
  obtain ⟨v0, vs0, d0, ds0, p0, q0, hargs, rfl, rfl, h0, r0⟩ := trodAll_cons hA
  obtain ⟨v1, vs1, d1, ds1, p1, q1, rfl, rfl, rfl, h1, r1⟩ := trodAll_cons r0
  obtain ⟨v2, vs2, d2, ds2, p2, q2, rfl, rfl, rfl, h2, r2⟩ := trodAll_cons r1
  obtain ⟨rfl, rfl, rfl⟩ := trodAll_nil r2
  obtain rfl : args = #[v0, v1, v2] := by cases args; simp_all
  obtain ⟨rfl, rfl⟩ := trodVars_none hV
  obtain ⟨cells, rfl, _, _, hwcells⟩ := open_int Try.underlying3 (hval 0 3 v0 rfl rfl) h0
  obtain ⟨hcells0, hcells1⟩ := wf_i64 hwcells
  obtain ⟨fr, rfl, _, _, hwfr⟩ := open_int Try.underlying22 (hval 1 22 v1 rfl rfl) h1
  obtain ⟨hfr0, hfr1⟩ := wf_u64 hwfr
  obtain ⟨A, m, c, f, rfl, hA1, hA2, hA4, hA3⟩ := open_flats (n := 9) (ks := [.num .i64, .num .i64, .num .u64, .num .u64]) Try.underlying23 (by kernel_rfl) (by kernel_rfl) (hval 2 23 v2 rfl rfl) h2
  have hA5 : c ≤ 9223372036854775807 := Nat.le_trans hA2 (by unfold maxLen; omega)
  clear hA0 hval0
  have walk : Calls Try.prog 3 #[.int .i64 cells, .int .u64 fr, .slice A m c] W fun e w' => e = .returned (.bool true) ∧ Below W.heap.size W w' := by
    obtain ⟨FR, rfl⟩ := Int.eq_ofNat_of_zero_le hfr0
    by_cases h : m ≤ 60
    · have hr : RdC W W.heap.size A (m * 4) f := hA4
      have hf : ∀ i, i < m → ∃ (κ hh : Int) (at_ what : Nat), f (i * 4) = .int .i64 κ ∧ f (i * 4 + 1) = .int .i64 hh ∧ f (i * 4 + 2) = .int .u64 (at_ : Int) ∧ f (i * 4 + 3) = .int .u64 (what : Int) ∧ hh ≤ 9223372036854775807 ∧ at_ < 18446744073709551616 := fun i hi => by
        obtain ⟨x0, e0, _⟩ := hA3 i hi 0 _ rfl
        obtain ⟨x1, e1, hw1⟩ := hA3 i hi 1 _ rfl
        obtain ⟨x2, e2, hw2⟩ := hA3 i hi 2 _ rfl
        obtain ⟨x3, e3, hw3⟩ := hA3 i hi 3 _ rfl
        have h1 := wf_i64 hw1
        have h2 := wf_u64 hw2
        have h3 := wf_u64 hw3
        obtain ⟨k2, rfl⟩ := Int.eq_ofNat_of_zero_le h2.1
        obtain ⟨k3, rfl⟩ := Int.eq_ofNat_of_zero_le h3.1
        exact ⟨x0, x1, k2, k3, e0, e1, e2, e3, h1.2, by omega⟩
      by_cases h1 : 1 ≤ cells ∧ cells ≤ 40
      · obtain ⟨C, rfl⟩ := Int.eq_ofNat_of_zero_le (show 0 ≤ cells by omega)
        exact plays_any C (by omega) (by omega) FR (by omega) A m c h hA1 hA5 W f hr hf
      · by_cases h2 : cells < 1 ∨ 65536 < cells
        · exact plays_bad cells h2 _ A m c h W
        · exact plays_mid cells (by omega) (by omega) _ A m c h W
    · exact plays_long cells _ A m c (by omega) W
  refine walk.mono fun e W' ⟨he, hb⟩ => ⟨_, he, ?_⟩
  simp only [List.append_nil] at hW'
  exact law_post hW' hb Try.laidOut rfl (by kernel_rfl) rfl Try.underlying4 rfl

theorem wheelPlays_holds : Rows.WheelPlaysSaid :=
  OpenClaim.holds_of_wide 3 Try.f3 rfl rfl rfl rfl rfl rfl rfl ⟨rfl, rfl, rfl, rfl, rfl⟩ rfl rfl rfl rfl rfl (by kernel_rfl) Try.func3 (by kernel_rfl)
    (of_decide_eq_true (by kernel_rfl)) (by unfold Func.isWrapper; first | (rw [if_pos (by decide +kernel)]; kernel_rfl) | (rw [if_neg (by decide +kernel)]; exact ⟨rfl, rfl⟩))
    (fun os started H enc _ => wheelPlays_lifted os started H enc)
end Go.Proofs.Ytkmakdhlaenaoaa
