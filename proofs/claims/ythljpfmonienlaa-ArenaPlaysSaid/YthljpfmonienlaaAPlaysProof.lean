/- ArenaPlays is proved in full: for any number of cells and any calls, whatever the order in which Go draws them, it answers true. No further condition. -/
import Derived.Test.YthljpfmonienlaaLp
import Derived.Test.YthljpfmonienlaaLo
import Derived.Test.YthljpfmonienlaaFacts
namespace Go.Proofs.Ythljpfmonienlaa
open Go.ChangeShapes Go.WideShapes Go.ChangeAt Go.RowKit

set_option maxRecDepth 100000 in
theorem arenaPlays_lifted (os : Os) (started : os.Started) (H : Type) (enc : TypeId × Value → H) :
    ReturnsInHanded {} Try.checked os 3 .any (Rows.arenaPlaysSpec.pre6 enc Try.prog Try.f3 Rows.arenaPlaysRow.domain false) (Rows.arenaPlaysSpec.post enc Try.prog Try.f3 false true false false) := by
  refine returnsInHanded_of_change (C := Try.checked) Try.own started (by kernel_rfl) Try.func3
    (ChangeSpec.witness6 (enc := enc) (C := Try.checked) false ⟨#[], #[.int .i64 0, .slice none 0 0], []⟩ 8 (by kernel_rfl) (by kernel_rfl) (by kernel_rfl) (by kernel_rfl)) ?_
  intro W base args ds gs before hval0 hW hcnd _
  have hval : ∀ (j : Nat) t v, Try.f3.params[j]? = some t → args[j]? = some v → Value.okWide Try.prog W .any base t v := hval0
  have hW' := hW
  obtain ⟨p, q, hA0, hV, rfl, hfz, hnd⟩ := hW
  have hA : DataW.TrodAll enc Try.prog W 0 (fun _ => true) true Try.f3.params.toList args.toList ds p := hA0
  rw [Try.params3] at hA hval
  obtain ⟨v0, vs0, d0, ds0, p0, q0, hargs, rfl, rfl, h0, r0⟩ := trodAll_cons hA
  obtain ⟨v1, vs1, d1, ds1, p1, q1, rfl, rfl, rfl, h1, r1⟩ := trodAll_cons r0
  obtain ⟨rfl, rfl, rfl⟩ := trodAll_nil r1
  obtain rfl : args = #[v0, v1] := by cases args; simp_all
  obtain ⟨rfl, rfl⟩ := trodVars_none hV
  obtain ⟨n, rfl, _, _, hwn⟩ := open_int Try.underlying3 (hval 0 3 v0 rfl rfl) h0
  obtain ⟨hn0, hn1⟩ := wf_i64 hwn
  obtain ⟨A, m, c, f, rfl, hA1, hA2, hA4, hA3⟩ := open_flats (n := 9) (ks := [.num .i64, .num .i64, .num .u64]) Try.underlying22 (by kernel_rfl) (by kernel_rfl) (hval 1 22 v1 rfl rfl) h1
  have hA5 : c ≤ 9223372036854775807 := Nat.le_trans hA2 (by unfold maxLen; omega)
  clear hA0 hval0
  have walk : Calls Try.prog 3 #[.int .i64 n, .slice A m c] W fun e w' => e = .returned (.bool true) ∧ Below W.heap.size W w' := by
    by_cases h : m ≤ 80
    · have hr : RdC W W.heap.size A (m * 3) f := hA4
      have hf : ∀ i, i < m → ∃ (κ hi : Int) (hk : Nat), f (i * 3) = .int .i64 κ ∧ f (i * 3 + 1) = .int .i64 hi ∧ f (i * 3 + 2) = .int .u64 (hk : Int) := fun i hi => by
        obtain ⟨x0, e0, _⟩ := hA3 i hi 0 _ rfl
        obtain ⟨x1, e1, _⟩ := hA3 i hi 1 _ rfl
        obtain ⟨x2, e2, hw⟩ := hA3 i hi 2 _ rfl
        have hw2 := wf_u64 hw
        obtain ⟨k2, rfl⟩ := Int.eq_ofNat_of_zero_le hw2.1
        exact ⟨x0, x1, k2, e0, e1, e2⟩
      by_cases h1 : 1 ≤ n ∧ n ≤ 100
      · obtain ⟨N, rfl⟩ := Int.eq_ofNat_of_zero_le (show 0 ≤ n by omega)
        exact plays_any N (by omega) (by omega) A m c f h hA1 hA5 W hr hf
      · by_cases h2 : n < 1 ∨ 65536 < n
        · exact plays_bad n h2 A m c h W
        · exact plays_mid n (by omega) (by omega) A m c h W
    · exact plays_long n A m c (by omega) W
  refine walk.mono fun e W' ⟨he, hb⟩ => ⟨_, he, ?_⟩
  simp only [List.append_nil] at hW'
  exact law_post hW' hb Try.laidOut rfl (by kernel_rfl) rfl Try.underlying4 rfl

theorem arenaPlays_holds : Rows.ArenaPlaysSaid :=
  OpenClaim.holds_of_wide 3 Try.f3 rfl rfl rfl rfl rfl rfl rfl ⟨rfl, rfl, rfl, rfl, rfl⟩ rfl rfl rfl rfl rfl (by kernel_rfl) Try.func3 (by kernel_rfl)
    (of_decide_eq_true (by kernel_rfl)) (by unfold Func.isWrapper; first | (rw [if_pos (by decide +kernel)]; kernel_rfl) | (rw [if_neg (by decide +kernel)]; exact ⟨rfl, rfl⟩))
    (fun os started H enc _ => arenaPlays_lifted os started H enc)
end Go.Proofs.Ythljpfmonienlaa
