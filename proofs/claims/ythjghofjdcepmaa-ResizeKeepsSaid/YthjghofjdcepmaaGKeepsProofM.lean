/- ResizeKeeps is proved in full: for any bytes and any bits, whatever the order in which Go draws them, it answers true. No further condition. -/
import Derived.Test.YthjghofjdcepmaaGm33
import Derived.Test.YthjghofjdcepmaaGm39
namespace Go.Proofs.Ythjghofjdcepmaa
open Go.ChangeShapes Go.WideShapes Go.ChangeAt Go.RowKit

set_option maxRecDepth 100000 in
theorem resizeKeeps_lifted (os : Os) (started : os.Started) (H : Type) (enc : TypeId × Value → H) :
    ReturnsInHanded {} Try.checked os 4 .any (Rows.resizeKeepsSpec.pre6 enc Try.prog Try.f4 Rows.resizeKeepsRow.domain false) (Rows.resizeKeepsSpec.post enc Try.prog Try.f4 false true false false) := by
  refine returnsInHanded_of_change (C := Try.checked) Try.own started (by kernel_rfl) Try.func4
    (ChangeSpec.witness6 (enc := enc) (C := Try.checked) false ⟨#[], #[.slice none 0 0, .int .u64 0], []⟩ 8 (by kernel_rfl) (by kernel_rfl) (by kernel_rfl) (by kernel_rfl)) ?_
  intro W base args ds gs before hval0 hW hcnd _
  have hval : ∀ (j : Nat) t v, Try.f4.params[j]? = some t → args[j]? = some v → Value.okWide Try.prog W .any base t v := hval0
  have hW' := hW
  obtain ⟨p, q, hA0, hV, rfl, hfz, hnd⟩ := hW
  have hA : DataW.TrodAll enc Try.prog W 0 (fun _ => true) true Try.f4.params.toList args.toList ds p := hA0
  rw [Try.params4] at hA hval
  obtain ⟨v0, vs0, d0, ds0, p0, q0, hargs, rfl, rfl, h0, r0⟩ := trodAll_cons hA
  obtain ⟨v1, vs1, d1, ds1, p1, q1, rfl, rfl, rfl, h1, r1⟩ := trodAll_cons r0
  obtain ⟨rfl, rfl, rfl⟩ := trodAll_nil r1
  obtain rfl : args = #[v0, v1] := by cases args; simp_all
  obtain ⟨rfl, rfl⟩ := trodVars_none hV
  obtain ⟨A, m, c, f, rfl, hA1, hA2, hA3, hA4⟩ := open_rd Try.underlying42 Try.underlying5 (by kernel_rfl) (hval 0 42 v0 rfl rfl) h0
  have hA5 : c ≤ 9223372036854775807 := Nat.le_trans hA2 (by unfold maxLen; omega)
  obtain ⟨s, rfl, _, _, hws⟩ := open_int Try.underlying31 (hval 1 31 v1 rfl rfl) h1
  obtain ⟨hs0, hs1⟩ := wf_u64 hws
  clear hA0 hval0
  have walk : Calls Try.prog 4 #[.slice A m c, .int .u64 s] W fun e w' => e = .returned (.bool true) ∧ Below W.heap.size W w' := by
    by_cases h : m ≤ 120
    · obtain ⟨S, rfl⟩ := Int.eq_ofNat_of_zero_le hs0
      exact gkeeps_any groP A m c f hA3 h S (by omega) W hA4
    · exact gkeeps_long groP A m c s (by omega) W
  refine walk.mono fun e W' ⟨he, hb⟩ => ⟨_, he, ?_⟩
  simp only [List.append_nil] at hW'
  exact law_post hW' hb Try.laidOut rfl (by kernel_rfl) rfl Try.underlying4 rfl

theorem resizeKeeps_holds : Rows.ResizeKeepsSaid :=
  OpenClaim.holds_of_wide 4 Try.f4 rfl rfl rfl rfl rfl rfl rfl ⟨rfl, rfl, rfl, rfl, rfl⟩ rfl rfl rfl rfl rfl (by kernel_rfl) Try.func4 (by kernel_rfl)
    (of_decide_eq_true (by kernel_rfl)) (by unfold Func.isWrapper; first | (rw [if_pos (by decide +kernel)]; kernel_rfl) | (rw [if_neg (by decide +kernel)]; exact ⟨rfl, rfl⟩))
    (fun os started H enc _ => resizeKeeps_lifted os started H enc)
end Go.Proofs.Ythjghofjdcepmaa
