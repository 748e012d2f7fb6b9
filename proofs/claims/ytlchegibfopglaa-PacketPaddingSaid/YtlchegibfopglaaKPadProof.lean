/- PacketPadding is proved in full: for any bytes as a frame and any bytes of padding, whatever the order in which Go draws them, it answers true. No further condition. -/
import Derived.Test.YtlchegibfopglaaK49
import Derived.Test.YtlchegibfopglaaK48
namespace Go.Proofs.Ytlchegibfopglaa
open Go.ChangeShapes Go.WideShapes Go.ChangeAt Go.RowKit
set_option maxRecDepth 100000 in
theorem packetPadding_lifted (os : Os) (started : os.Started) (H : Type) (enc : TypeId × Value → H) :
    ReturnsInHanded {} Try.checked os 4 .any (Rows.packetPaddingSpec.pre6 enc Try.prog Try.f4 Rows.packetPaddingRow.domain false) (Rows.packetPaddingSpec.post enc Try.prog Try.f4 false true false false) := by
  refine returnsInHanded_of_change (C := Try.checked) Try.own started (by kernel_rfl) Try.func4
    (ChangeSpec.witness6 (enc := enc) (C := Try.checked) false ⟨#[], #[.slice none 0 0, .slice none 0 0], []⟩ 8 (by kernel_rfl) (by kernel_rfl) (by kernel_rfl) (by kernel_rfl)) ?_
  intro W base args ds gs before hval0 hW hcnd _
  have hval : ∀ (j : Nat) t v, Try.f4.params[j]? = some t → args[j]? = some v → Value.okWide Try.prog W .any base t v := hval0
  have hW' := hW
  obtain ⟨p, q, hA0, hV, rfl, hfz, hnd⟩ := hW
  have hA : DataW.TrodAll enc Try.prog W 0 (fun _ => true) true Try.f4.params.toList args.toList ds p := hA0
  rw [Try.params4] at hA hval
  obtain ⟨v0, vs0, d0, ds0, p0, q0, hargs, rfl, rfl, h0, r0⟩ := trodAll_cons hA
  obtain ⟨v1, vs1, d1, ds1, p1, q1, rfl, rfl, rfl, h1, r1⟩ := trodAll_cons r0
  obtain ⟨rfl, rfl, rfl⟩ := trodAll_nil r1
  obtain rfl : args = #[v0, v1] := by cases args; simp_all
  obtain ⟨rfl, rfl⟩ := trodVars_none hV
  obtain ⟨A, n, c, f, rfl, hA1, hA2, hA3, hA4⟩ := open_rd Try.underlying22 Try.underlying5 (by kernel_rfl) (hval 0 22 v0 rfl rfl) h0
  have hA5 : c ≤ 9223372036854775807 := Nat.le_trans hA2 (by unfold maxLen; omega)
  obtain ⟨B, m, k, g, rfl, hB1, hB2, hB3, hB4⟩ := open_rd Try.underlying22 Try.underlying5 (by kernel_rfl) (hval 1 22 v1 rfl rfl) h1
  have hB5 : k ≤ 9223372036854775807 := Nat.le_trans hB2 (by unfold maxLen; omega)
  clear hA0 hval0
  have walk : Calls Try.prog 4 #[.slice A n c, .slice B m k] W fun e w' => e = .returned (.bool true) ∧ Below W.heap.size W w' := by
    by_cases h : n ≤ 1500
    · by_cases h2 : m ≤ 100
      · by_cases hE : pkE f n = 0
        · rcases hA4 with h0 | ⟨b, off, rfl, hb, hc⟩
          · have := pk_within hA3 hE
            omega
          · exact ppad_any b off n c B m k f g hA3 hB3 h h2 hA1 hA5 hE W hb hc hB4
        · exact ppad_err A B n c m k f hA3 h h2 hA1 hA5 hE W hA4
      · exact ppad_wide A B n c m k h (by omega) W
    · exact ppad_long A B n c m k (by omega) W
  refine walk.mono fun e W' ⟨he, hb⟩ => ⟨_, he, ?_⟩
  simp only [List.append_nil] at hW'
  exact law_post hW' hb Try.laidOut rfl (by kernel_rfl) rfl Try.underlying4 rfl
theorem packetPadding_holds : Rows.PacketPaddingSaid :=
  OpenClaim.holds_of_wide 4 Try.f4 rfl rfl rfl rfl rfl rfl rfl ⟨rfl, rfl, rfl, rfl, rfl⟩ rfl rfl rfl rfl rfl (by kernel_rfl) Try.func4 (by kernel_rfl)
    (of_decide_eq_true (by kernel_rfl)) (by unfold Func.isWrapper; first | (rw [if_pos (by decide +kernel)]; kernel_rfl) | (rw [if_neg (by decide +kernel)]; exact ⟨rfl, rfl⟩))
    (fun os started H enc _ => packetPadding_lifted os started H enc)
end Go.Proofs.Ytlchegibfopglaa
