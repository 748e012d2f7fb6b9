/- WheelDue is proved in full: for any number and any delays, whatever the order in which Go draws them, it answers true. No further condition. -/
import Derived.Test.YtkmakdhlaenaoaaGm35
import Derived.Test.YtkmakdhlaenaoaaGm34
namespace Go.Proofs.Ytkmakdhlaenaoaa
open Go.ChangeShapes Go.WideShapes Go.ChangeAt Go.RowKit

set_option maxRecDepth 100000 in
theorem wheelDue_lifted (os : Os) (started : os.Started) (H : Type) (enc : TypeId × Value → H) :
    ReturnsInHanded {} Try.checked os 4 .any (Rows.wheelDueSpec.pre6 enc Try.prog Try.f4 Rows.wheelDueRow.domain false) (Rows.wheelDueSpec.post enc Try.prog Try.f4 false true false false) := by
  refine returnsInHanded_of_change (C := Try.checked) Try.own started (by kernel_rfl) Try.func4
    (ChangeSpec.witness6 (enc := enc) (C := Try.checked) false ⟨#[], #[.int .u64 0, .slice none 0 0], []⟩ 8 (by kernel_rfl) (by kernel_rfl) (by kernel_rfl) (by kernel_rfl)) ?_
  intro W base args ds gs before hval0 hW hcnd _
  have hval : ∀ (j : Nat) t v, Try.f4.params[j]? = some t → args[j]? = some v → Value.okWide Try.prog W .any base t v := hval0
  have hW' := hW
  obtain ⟨p, q, hA0, hV, rfl, hfz, hnd⟩ := hW
  have hA : DataW.TrodAll enc Try.prog W 0 (fun _ => true) true Try.f4.params.toList args.toList ds p := hA0
  rw [Try.params4] at hA hval
  obtain ⟨v0, vs0, d0, ds0, p0, q0, hargs, rfl, rfl, h0, r0⟩ := trodAll_cons hA
  obtain ⟨v1, vs1, d1, ds1, p1, q1, rfl, rfl, rfl, h1, r1⟩ := trodAll_cons r0
  obtain ⟨rfl, rfl, rfl⟩ := trodAll_nil r1
  obtain rfl : args = #[v0, v1] := by cases args; simp_all
  obtain ⟨rfl, rfl⟩ := trodVars_none hV
  obtain ⟨fr, rfl, _, _, hwfr⟩ := open_int Try.underlying22 (hval 0 22 v0 rfl rfl) h0
  obtain ⟨hfr0, hfr1⟩ := wf_u64 hwfr
  obtain ⟨A, m, c, f, rfl, hA1, hA2, hA4, hA3⟩ := open_flats (n := 9) (ks := [.num .u16]) Try.underlying50 (by kernel_rfl) (by kernel_rfl) (hval 1 50 v1 rfl rfl) h1
  have hA5 : c ≤ 9223372036854775807 := Nat.le_trans hA2 (by unfold maxLen; omega)
  clear hA0 hval0
  have walk : Calls Try.prog 4 #[.int .u64 fr, .slice A m c] W fun e w' => e = .returned (.bool true) ∧ Below W.heap.size W w' := by
    obtain ⟨N, rfl⟩ := Int.eq_ofNat_of_zero_le hfr0
    by_cases h : m ≤ 20
    · by_cases h1 : N ≤ 18446744073709547616
      · have hr : RdC W W.heap.size A (m * 1) f := hA4
        rw [Nat.mul_one] at hr
        have hg : ∀ k, ∃ x : Nat, k < m → (f k = .int .u16 (x : Int) ∧ x < 65536) := fun k => by
          by_cases hk : k < m
          · obtain ⟨x, e, hw⟩ := hA3 k hk 0 _ rfl
            have hx := wf_u16 hw
            obtain ⟨y, rfl⟩ := Int.eq_ofNat_of_zero_le hx.1
            refine ⟨y, fun _ => ⟨?_, by omega⟩⟩
            have e' : f (k * 1 + 0) = .int .u16 (y : Int) := e
            rwa [Nat.mul_one] at e'
          · exact ⟨0, fun h => absurd h hk⟩
        have hg' := Classical.axiomOfChoice hg
        obtain ⟨g, hg'⟩ := hg'
        exact due_any W N h1 A m c h hA1 hA5 g (fun k hk => (hg' k hk).2) (hr.same fun k hk => ((hg' k hk).1).symm)
      · exact due_late W N (by omega) A m c h
    · exact due_long W N A m c (by omega)
  refine walk.mono fun e W' ⟨he, hb⟩ => ⟨_, he, ?_⟩
  simp only [List.append_nil] at hW'
  exact law_post hW' hb Try.laidOut rfl (by kernel_rfl) rfl Try.underlying4 rfl

theorem wheelDue_holds : Rows.WheelDueSaid :=
  OpenClaim.holds_of_wide 4 Try.f4 rfl rfl rfl rfl rfl rfl rfl ⟨rfl, rfl, rfl, rfl, rfl⟩ rfl rfl rfl rfl rfl (by kernel_rfl) Try.func4 (by kernel_rfl)
    (of_decide_eq_true (by kernel_rfl)) (by unfold Func.isWrapper; first | (rw [if_pos (by decide +kernel)]; kernel_rfl) | (rw [if_neg (by decide +kernel)]; exact ⟨rfl, rfl⟩))
    (fun os started H enc _ => wheelDue_lifted os started H enc)
end Go.Proofs.Ytkmakdhlaenaoaa
