/- SlotsPlay is proved in full: for any numbers of lists and cells and any calls, whatever the order in which Go draws them, it answers true. No further condition. -/
import Derived.Test.YthlnhkkjpjbmeaaXp
import Derived.Test.YthlnhkkjpjbmeaaFlat
import Derived.Test.YthlnhkkjpjbmeaaFacts
import Derived.Test.YthlnhkkjpjbmeaaFacts
namespace Go.Proofs.Ythlnhkkjpjbmeaa
open Go.ChangeShapes Go.WideShapes Go.ChangeAt Go.RowKit

set_option maxRecDepth 100000 in
theorem slotsPlay_lifted (os : Os) (started : os.Started) (H : Type) (enc : TypeId × Value → H) :
    ReturnsInHanded {} Try.checked os 3 .any (Rows.slotsPlaySpec.pre6 enc Try.prog Try.f3 Rows.slotsPlayRow.domain false) (Rows.slotsPlaySpec.post enc Try.prog Try.f3 false true false false) := by
  refine returnsInHanded_of_change (C := Try.checked) Try.own started (by kernel_rfl) Try.func3
    (ChangeSpec.witness6 (enc := enc) (C := Try.checked) false ⟨#[], #[.int .i64 0, .int .i64 0, .slice none 0 0], []⟩ 8 (by kernel_rfl) (by kernel_rfl) (by kernel_rfl) (by kernel_rfl)) ?_
  intro W base args ds gs before hval0 hW hcnd _
  have hval : ∀ (j : Nat) t v, Try.f3.params[j]? = some t → args[j]? = some v → Value.okWide Try.prog W .any base t v := hval0
  have hW' := hW
  obtain ⟨p, q, hA0, hV, rfl, hfz, hnd⟩ := hW
  have hA : DataW.TrodAll enc Try.prog W 0 (fun _ => true) true Try.f3.params.toList args.toList ds p := hA0
  rw [Try.params3] at hA hval
  obtain ⟨v0, vs0, d0, ds0, p0, q0, hargs, rfl, rfl, h0, r0⟩ := trodAll_cons hA
  obtain ⟨v1, vs1, d1, ds1, p1, q1, rfl, rfl, rfl, h1, r1⟩ := trodAll_cons r0
  obtain ⟨v2, vs2, d2, ds2, p2, q2, rfl, rfl, rfl, h2, r2⟩ := trodAll_cons r1
  obtain ⟨rfl, rfl, rfl⟩ := trodAll_nil r2
  obtain rfl : args = #[v0, v1, v2] := by cases args; simp_all
  obtain ⟨rfl, rfl⟩ := trodVars_none hV
  obtain ⟨a, rfl, _, _, hwa⟩ := open_int Try.underlying3 (hval 0 3 v0 rfl rfl) h0
  obtain ⟨ha0, ha1⟩ := wf_i64 hwa
  obtain ⟨b, rfl, _, _, hwb⟩ := open_int Try.underlying3 (hval 1 3 v1 rfl rfl) h1
  obtain ⟨hb0, hb1⟩ := wf_i64 hwb
  obtain ⟨A, m, c, f, rfl, hA1, hA2, hA4, hA3⟩ := open_flats (n := 9) (ks := [.num .i64, .num .i64, .num .i64]) Try.underlying22 (by kernel_rfl) (by kernel_rfl) (hval 2 22 v2 rfl rfl) h2
  have hA5 : c ≤ 9223372036854775807 := Nat.le_trans hA2 (by unfold maxLen; omega)
  clear hA0 hval0
  have walk : Calls Try.prog 3 #[.int .i64 a, .int .i64 b, .slice A m c] W fun e w' => e = .returned (.bool true) ∧ Below W.heap.size W w' := by
    by_cases h : m ≤ 80
    · by_cases h1 : 12 < a ∧ a ≤ 4096
      · exact plays_many a b A m c h h1.1 h1.2 W
      · by_cases h2 : 60 < b ∧ b ≤ 65536
        · exact plays_wide a b A m c h h2.1 h2.2 h1 W
        · by_cases h3 : a < 1 ∨ 4096 < a ∨ b < 1 ∨ 65536 < b
          · exact plays_bad a b A m c h h1 h2 h3 W
          · obtain ⟨na, rfl⟩ := Int.eq_ofNat_of_zero_le (show 0 ≤ a by omega)
            obtain ⟨nb, rfl⟩ := Int.eq_ofNat_of_zero_le (show 0 ≤ b by omega)
            refine plays_any na nb (by omega) (by omega) (by omega) (by omega) A m c f h hA1 hA5 W hA4 fun i hi => ?_
            obtain ⟨x0, e0, _⟩ := hA3 i hi 0 _ rfl
            obtain ⟨x1, e1, _⟩ := hA3 i hi 1 _ rfl
            obtain ⟨x2, e2, _⟩ := hA3 i hi 2 _ rfl
            exact ⟨x0, x1, x2, e0, e1, e2⟩
    · exact plays_long a b A m c (by omega) W
  refine walk.mono fun e W' ⟨he, hb⟩ => ⟨_, he, ?_⟩
  simp only [List.append_nil] at hW'
  exact law_post hW' hb Try.laidOut rfl (by kernel_rfl) rfl Try.underlying4 rfl

theorem slotsPlay_holds : Rows.SlotsPlaySaid :=
  OpenClaim.holds_of_wide 3 Try.f3 rfl rfl rfl rfl rfl rfl rfl ⟨rfl, rfl, rfl, rfl, rfl⟩ rfl rfl rfl rfl rfl (by kernel_rfl) Try.func3 (by kernel_rfl)
    (of_decide_eq_true (by kernel_rfl)) (by unfold Func.isWrapper; first | (rw [if_pos (by decide +kernel)]; kernel_rfl) | (rw [if_neg (by decide +kernel)]; exact ⟨rfl, rfl⟩))
    (fun os started H enc _ => slotsPlay_lifted os started H enc)
end Go.Proofs.Ythlnhkkjpjbmeaa
