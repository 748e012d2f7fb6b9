/- MaglevTables is proved in full: for any list of backends, any size, any numbers it answers true. No further condition. -/
import Derived.Test.YtfchmmojhfjibaaMgz
import Derived.Test.YtfchmmojhfjibaaMgq
import Derived.Test.YtfchmmojhfjibaaFacts
namespace Go.Proofs.Ytfchmmojhfjibaa
open Go.ChangeShapes Go.WideShapes Go.ChangeAt Go.RowKit
set_option maxRecDepth 100000 in
theorem maglevTables_lifted (os : Os) (started : os.Started) (H : Type) (enc : TypeId × Value → H) :
    ReturnsInHanded {} Try.checked os 3 .any (Rows.maglevTablesSpec.pre6 enc Try.prog Try.f3 Rows.maglevTablesRow.domain false) (Rows.maglevTablesSpec.post enc Try.prog Try.f3 false true false false) := by
  refine returnsInHanded_of_change (C := Try.checked) Try.own started (by kernel_rfl) Try.func3
    (ChangeSpec.witness6 (enc := enc) (C := Try.checked) false ⟨#[], #[.slice none 0 0, .int .i64 0, .slice none 0 0, .int .i64 0], []⟩ 8 (by kernel_rfl) (by kernel_rfl) (by kernel_rfl) (by kernel_rfl)) ?_
  intro W base args ds gs before hval0 hW hcnd _
  have hval : ∀ (j : Nat) t v, Try.f3.params[j]? = some t → args[j]? = some v → Value.okWide Try.prog W .any base t v := hval0
  have hW' := hW
  obtain ⟨p, q, hA0, hV, rfl, hfz, hnd⟩ := hW
  have hA : DataW.TrodAll enc Try.prog W 0 (fun _ => true) true Try.f3.params.toList args.toList ds p := hA0
  rw [Try.params3] at hA hval
  obtain ⟨v0, vs0, d0, ds0, p0, q0, hargs, rfl, rfl, h0, r0⟩ := trodAll_cons hA
  obtain ⟨v1, vs1, d1, ds1, p1, q1, rfl, rfl, rfl, h1, r1⟩ := trodAll_cons r0
  obtain ⟨v2, vs2, d2, ds2, p2, q2, rfl, rfl, rfl, h2, r2⟩ := trodAll_cons r1
  obtain ⟨v3, vs3, d3, ds3, p3, q3, rfl, rfl, rfl, h3, r3⟩ := trodAll_cons r2
  obtain ⟨rfl, rfl, rfl⟩ := trodAll_nil r3
  obtain rfl : args = #[v0, v1, v2, v3] := by cases args; simp_all
  obtain ⟨rfl, rfl⟩ := trodVars_none hV
  obtain ⟨A, n, c, f, rfl, hA1, hA2, hA4, hA3⟩ := open_flats (n := 9) (ks := [.str, .num .i64]) Try.underlying22 (by kernel_rfl) (by kernel_rfl) (hval 0 22 v0 rfl rfl) h0
  have hA5 : c ≤ 9223372036854775807 := Nat.le_trans hA2 (by unfold maxLen; omega)
  obtain ⟨m, rfl, _, _, hwm⟩ := open_int Try.underlying3 (hval 1 3 v1 rfl rfl) h1
  obtain ⟨hm0, hm1⟩ := wf_i64 hwm
  obtain ⟨B, p, d, g, rfl, hB1, hB2, hB4, hB3⟩ := open_flats (n := 9) (ks := [.num .i64]) Try.underlying23 (by kernel_rfl) (by kernel_rfl) (hval 2 23 v2 rfl rfl) h2
  have hB5 : d ≤ 9223372036854775807 := Nat.le_trans hB2 (by unfold maxLen; omega)
  obtain ⟨k, rfl, _, _, hwk⟩ := open_int Try.underlying3 (hval 3 3 v3 rfl rfl) h3
  obtain ⟨hk0, hk1⟩ := wf_i64 hwk
  clear hA0 hval0
  have walk : Calls Try.prog 3 #[.slice A n c, .int .i64 m, .slice B p d, .int .i64 k] W fun e w' => e = .returned (.bool true) ∧ Below W.heap.size W w' := by
    exact mtabs_any mgP hA1 hA5 m hB1 hB5 k W hA4 hA3 hB4 hB3
  refine walk.mono fun e W' ⟨he, hb⟩ => ⟨_, he, ?_⟩
  simp only [List.append_nil] at hW'
  exact law_post hW' hb Try.laidOut rfl (by kernel_rfl) rfl Try.underlying4 rfl
theorem maglevTables_holds : Rows.MaglevTablesSaid :=
  OpenClaim.holds_of_wide 3 Try.f3 rfl rfl rfl rfl rfl rfl rfl ⟨rfl, rfl, rfl, rfl, rfl⟩ rfl rfl rfl rfl rfl (by kernel_rfl) Try.func3 (by kernel_rfl)
    (of_decide_eq_true (by kernel_rfl)) (by unfold Func.isWrapper; first | (rw [if_pos (by decide +kernel)]; kernel_rfl) | (rw [if_neg (by decide +kernel)]; exact ⟨rfl, rfl⟩))
    (fun os started H enc _ => maglevTables_lifted os started H enc)
end Go.Proofs.Ytfchmmojhfjibaa
