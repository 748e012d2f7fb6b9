/- FlowsLast is proved in full: for any timeout, ticks and others, whatever the order in which Go draws them, it answers true. No further condition. -/
import Derived.Test.YtimcdnbfdkpffaaGreatGm41
import Derived.Test.YtimcdnbfdkpffaaGreatGm32
import Derived.Test.YtimcdnbfdkpffaaGreatGm3
import Derived.OwnWalkIn
import Derived.TacticsInMore
import Derived.WalkKit
import Derived.Test.YtimcdnbfdkpffaaGreatGm31
import Derived.Test.YtimcdnbfdkpffaaGreatGm42
import Derived.Test.YtimcdnbfdkpffaaGreatGm43
namespace Go.Proofs.YtimcdnbfdkpffaaGreat
open Go.ChangeShapes Go.WideShapes Go.ChangeAt Go.RowKit
set_option maxRecDepth 100000 in
theorem flowsLast_lifted (os : Os) (started : os.Started) (H : Type) (enc : TypeId × Value → H) :
    ReturnsInHanded {} Tryz.checked os 4 .any (Rows.flowsLastSpec.pre6 enc Tryz.prog Tryz.f4 Rows.flowsLastRow.domain false) (Rows.flowsLastSpec.post enc Tryz.prog Tryz.f4 false true false false) := by
  refine returnsInHanded_of_change (C := Tryz.checked) Tryz.own started (by kernel_rfl) Tryz.func4
    (ChangeSpec.witness6 (enc := enc) (C := Tryz.checked) false ⟨#[], #[.int .u8 0, .slice none 0 0, .slice none 0 0], []⟩ 8 (by kernel_rfl) (by kernel_rfl) (by kernel_rfl) (by kernel_rfl)) ?_
  intro W base args ds gs before hval0 hW hcnd _
  have hval : ∀ (j : Nat) t v, Tryz.f4.params[j]? = some t → args[j]? = some v → Value.okWide Tryz.prog W .any base t v := hval0
  have hW' := hW
  obtain ⟨p, q, hA0, hV, rfl, hfz, hnd⟩ := hW
  have hA : DataW.TrodAll enc Tryz.prog W 0 (fun _ => true) true Tryz.f4.params.toList args.toList ds p := hA0
  rw [Tryz.params4] at hA hval
  obtain ⟨v0, vs0, d0, ds0, p0, q0, hargs, rfl, rfl, h0, r0⟩ := trodAll_cons hA
  obtain ⟨v1, vs1, d1, ds1, p1, q1, rfl, rfl, rfl, h1, r1⟩ := trodAll_cons r0
  obtain ⟨v2, vs2, d2, ds2, p2, q2, rfl, rfl, rfl, h2, r2⟩ := trodAll_cons r1
  obtain ⟨rfl, rfl, rfl⟩ := trodAll_nil r2
  obtain rfl : args = #[v0, v1, v2] := by cases args; simp_all
  obtain ⟨rfl, rfl⟩ := trodVars_none hV
  obtain ⟨n, rfl, _, _, hwn⟩ := open_int Tryz.underlying5 (hval 0 5 v0 rfl rfl) h0
  obtain ⟨hn0, hn1⟩ := wf_u8 hwn
  obtain ⟨A, m, c, f, rfl, hA1, hA2, hA3, hA4⟩ := open_rd Tryz.underlying54 Tryz.underlying5 (by kernel_rfl) (hval 1 54 v1 rfl rfl) h1
  have hA5 : c ≤ 9223372036854775807 := Nat.le_trans hA2 (by unfold maxLen; omega)
  obtain ⟨B, q, d, h, rfl, hB1, hB2, hB4, hB3⟩ := open_flats (n := 9) (ks := [.num .u16]) Tryz.underlying55 (by kernel_rfl) (by kernel_rfl) (hval 2 55 v2 rfl rfl) h2
  have hB5 : d ≤ 9223372036854775807 := Nat.le_trans hB2 (by unfold maxLen; omega)
  clear hA0 hval0
  have walk : Calls Tryz.prog 4 #[.int .u8 n, .slice A m c, .slice B q d] W fun e w' => e = .returned (.bool true) ∧ Below W.heap.size W w' := by
    obtain ⟨n, rfl⟩ := Int.eq_ofNat_of_zero_le hn0
    by_cases hx : n < 1 ∨ 20 < n ∨ 12 < m ∨ 100 < q
    · exact flast_long floP n A m c B q d hx W
    · have hh : ∀ i, i < q → ∃ x : Nat, x < 65536 ∧ h i = .int .u16 (x : Int) := fun i hi => by
        obtain ⟨x0, e0, hw⟩ := hB3 i hi 0 _ rfl
        have hw := wf_u16 hw
        obtain ⟨x, rfl⟩ := Int.eq_ofNat_of_zero_le hw.1
        refine ⟨x, by omega, ?_⟩
        have e0 : h (i * 1 + 0) = .int .u16 (x : Int) := e0
        rw [show i * 1 + 0 = i by omega] at e0
        exact e0
      obtain ⟨k, hk⟩ : ∃ k : Nat → Nat, k = fun i => if hi : i < q then Classical.choose (hh i hi) else 0 := ⟨_, rfl⟩
      have hk1 : ∀ i, k i < 65536 := fun i => by
        rw [hk]
        dsimp only
        split
        · rename_i hi
          exact (Classical.choose_spec (hh i hi)).1
        · decide
      have hk2 : ∀ i, i < q → h i = .int .u16 (k i : Int) := fun i hi => by
        rw [hk]
        dsimp only
        rw [dif_pos hi]
        exact (Classical.choose_spec (hh i hi)).2
      have hB4 : RdC W W.heap.size B (q * 1) h := hB4
      rw [Nat.mul_one] at hB4
      have hr : RdC W W.heap.size B q (fun i => .int .u16 (k i : Int)) := by
        rcases hB4 with e | ⟨b, off, e, hlt, hc⟩
        · exact .inl e
        · exact .inr ⟨b, off, e, hlt, fun i hi => (hc i hi).trans (congrArg some (hk2 i hi))⟩
      exact flast_any floP n (by omega) (by omega) A m c f hA3 (by omega) B q d k hk1 (by omega) W hA4 hr
  refine walk.mono fun e W' ⟨he, hb⟩ => ⟨_, he, ?_⟩
  simp only [List.append_nil] at hW'
  exact law_post hW' hb Tryz.laidOut rfl (by kernel_rfl) rfl Tryz.underlying4 rfl
theorem flowsLast_holds : Rows.FlowsLastSaid :=
  OpenClaim.holds_of_wide 4 Tryz.f4 rfl rfl rfl rfl rfl rfl rfl ⟨rfl, rfl, rfl, rfl, rfl⟩ rfl rfl rfl rfl rfl (by kernel_rfl) Tryz.func4 (by kernel_rfl)
    (of_decide_eq_true (by kernel_rfl)) (by unfold Func.isWrapper; first | (rw [if_pos (by decide +kernel)]; kernel_rfl) | (rw [if_neg (by decide +kernel)]; exact ⟨rfl, rfl⟩))
    (fun os started H enc _ => flowsLast_lifted os started H enc)
end Go.Proofs.YtimcdnbfdkpffaaGreat
