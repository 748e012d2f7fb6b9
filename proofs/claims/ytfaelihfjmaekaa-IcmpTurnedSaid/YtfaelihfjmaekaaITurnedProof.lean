/- IcmpTurned is proved in full: for every flow, whether of TCP or UDP, and any header bytes, whatever the order in which Go draws them, it answers true. No further condition. -/
import Derived.Test.YtfaelihfjmaekaaIp6
import Derived.Test.YtfaelihfjmaekaaIp4
import Derived.Test.YtfaelihfjmaekaaIOpen
import Derived.Test.YtfaelihfjmaekaaFacts
namespace Go.Proofs.Ytfaelihfjmaekaa
open Go.ChangeShapes Go.WideShapes Go.ChangeAt Go.RowKit

set_option maxRecDepth 100000 in
theorem icmpTurned_lifted (os : Os) (started : os.Started) (H : Type) (enc : TypeId × Value → H) :
    ReturnsInHanded {} Try.checked os 5 .any (Rows.icmpTurnedSpec.pre6 enc Try.prog Try.f5 Rows.icmpTurnedRow.domain false) (Rows.icmpTurnedSpec.post enc Try.prog Try.f5 false true false false) := by
  refine returnsInHanded_of_change (C := Try.checked) Try.own started (by kernel_rfl) Try.func5
    (ChangeSpec.witness6 (enc := enc) (C := Try.checked) false ⟨#[], #[.agg #[.bool false, .int .u8 0, .int .u8 0, .int .u8 0, .int .u8 0, .int .u8 0, .int .u8 0, .int .u8 0, .int .u8 0, .int .u8 0, .int .u8 0, .int .u8 0, .int .u8 0, .int .u8 0, .int .u8 0, .int .u8 0, .int .u8 0, .int .u8 0, .int .u8 0, .int .u8 0, .int .u8 0, .int .u8 0, .int .u8 0, .int .u8 0, .int .u8 0, .int .u8 0, .int .u8 0, .int .u8 0, .int .u8 0, .int .u8 0, .int .u8 0, .int .u8 0, .int .u8 0, .int .u8 0, .int .u16 0, .int .u16 0], .bool false, .agg #[.int .u8 0, .int .u8 0, .int .u8 0, .int .u8 0, .int .u8 0, .int .u8 0, .int .u8 0, .int .u8 0, .int .u8 0, .int .u8 0, .int .u8 0, .int .u8 0, .int .u8 0, .int .u8 0, .int .u8 0, .int .u8 0, .int .u8 0, .int .u8 0, .int .u8 0, .int .u8 0]], []⟩ 8 (by kernel_rfl) (by kernel_rfl) (by kernel_rfl) (by kernel_rfl)) ?_
  intro W base args ds gs before hval0 hW hcnd _
  have hval : ∀ (j : Nat) t v, Try.f5.params[j]? = some t → args[j]? = some v → Value.okWide Try.prog W .any base t v := hval0
  have hW' := hW
  obtain ⟨p, q, hA0, hV, rfl, hfz, hnd⟩ := hW
  have hA : DataW.TrodAll enc Try.prog W 0 (fun _ => true) true Try.f5.params.toList args.toList ds p := hA0
  rw [Try.params5] at hA hval
  obtain ⟨v0, vs0, d0, ds0, p0, q0, hargs, rfl, rfl, h0, r0⟩ := trodAll_cons hA
  obtain ⟨v1, vs1, d1, ds1, p1, q1, rfl, rfl, rfl, h1, r1⟩ := trodAll_cons r0
  obtain ⟨v2, vs2, d2, ds2, p2, q2, rfl, rfl, rfl, h2, r2⟩ := trodAll_cons r1
  obtain ⟨rfl, rfl, rfl⟩ := trodAll_nil r2
  obtain rfl : args = #[v0, v1, v2] := by cases args; simp_all
  obtain ⟨rfl, rfl⟩ := trodVars_none hV
  obtain ⟨vv, pr, s, d, sp, dp, b2, b3, b4, b5, b6, rfl⟩ := open_tup (hval 0 27 v0 rfl rfl) h0
  obtain ⟨tcp, rfl, _, _⟩ := open_bool Try.underlying4 (hval 1 4 v1 rfl rfl) h1
  obtain ⟨h, hh, rfl⟩ := open_bytes_arr Try.underlying41 Try.underlying5 (by kernel_rfl) (by kernel_rfl) (hval 2 41 v2 rfl rfl) h2
  clear hA0 hval0
  have walk : Calls Try.prog 5 #[.agg (tupc vv pr s d sp dp), .bool tcp, .agg ((nums 20 h).map (Value.int .u8)).toArray] W fun e w' => e = .returned (.bool true) ∧ Below W.heap.size W w' := by
    rw [arr20_eq]
    cases tcp
    · cases vv
      · exact turned_u4 pr s d sp dp b3 b4 b5 b6 h hh W
      · exact turned_u6 pr s d sp dp b3 b4 b5 b6 h hh W
    · cases vv
      · exact turned_t4 pr s d sp dp b3 b4 b5 b6 h hh W
      · exact turned_t6 pr s d sp dp b3 b4 b5 b6 h hh W
  refine walk.mono fun e W' ⟨he, hb⟩ => ⟨_, he, ?_⟩
  simp only [List.append_nil] at hW'
  exact law_post hW' hb Try.laidOut rfl (by kernel_rfl) rfl Try.underlying4 rfl

theorem icmpTurned_holds : Rows.IcmpTurnedSaid :=
  OpenClaim.holds_of_wide 5 Try.f5 rfl rfl rfl rfl rfl rfl rfl ⟨rfl, rfl, rfl, rfl, rfl⟩ rfl rfl rfl rfl rfl (by kernel_rfl) Try.func5 (by kernel_rfl)
    (of_decide_eq_true (by kernel_rfl)) (by unfold Func.isWrapper; first | (rw [if_pos (by decide +kernel)]; kernel_rfl) | (rw [if_neg (by decide +kernel)]; exact ⟨rfl, rfl⟩))
    (fun os started H enc _ => icmpTurned_lifted os started H enc)
end Go.Proofs.Ytfaelihfjmaekaa
