import Derived.Test.YtlchegibfopglaaRows
import Derived.WalkKit
import Derived.WalkSpells
import Derived.Lib.Hide
import Derived.Test.YtlchegibfopglaaK1
/- The program's ether.Ours: whether frames of a type are ours. -/
namespace Go.Proofs.Ytlchegibfopglaa
set_option maxRecDepth 100000
open Go.RowKit
set_option maxHeartbeats 400000 in
theorem eours_any (t : Int) (w : World) : Calls Try.prog 15 #[.int .u16 t] w fun e w' => e = .returned (.bool (decide (t = 2048 ∨ t = 34525))) ∧ w = w' := by
  have i0 : ∀ w, (Instr.index 73 (.agg #[.int .u16 2048, .int .u16 34525]) (.int .i64 0)).run Try.prog w = .ok (.int .u16 2048) w := fun _ => by kernel_rfl
  have i1 : ∀ w, (Instr.index 73 (.agg #[.int .u16 2048, .int .u16 34525]) (.int .i64 1)).run Try.prog w = .ok (.int .u16 34525) w := fun _ => by kernel_rfl
  by_cases h1 : t = 2048
  · subst h1
    go_enter Try.func15, Try.ntmps15
    go_wp2
    go_loopw [6] (fun i wr => i = .int .i64 0 ∧ w = wr) (fun _ _ => 0)
    case atStart => exact ⟨rfl, rfl⟩
    case round =>
      obtain ⟨rfl, rfl⟩ := hrel
      go_wp2
      go_ret
      exact ⟨rfl, rfl⟩
  · have h1' : (t == 2048) = false := by simpa using h1
    by_cases h2 : t = 34525
    · subst h2
      go_enter Try.func15, Try.ntmps15
      go_wp2
      go_loopw [6] (fun i wr => (i = .int .i64 0 ∨ i = .int .i64 1) ∧ w = wr) (fun i _ => 2 - (intOf i).toNat)
      case atStart => exact ⟨.inl rfl, rfl⟩
      case round =>
        obtain ⟨rfl | rfl, rfl⟩ := hrel
        · go_wp2
          go_roundw
          case rel => exact ⟨.inr rfl, by first | trivial | rfl⟩
          case measure => simp [intOf]
        · go_wp2
          go_ret
          exact ⟨rfl, rfl⟩
    · have h2' : (t == 34525) = false := by simpa using h2
      have h3 : decide (t = 2048 ∨ t = 34525) = false := by simp [h1, h2]
      rw [h3]
      go_enter Try.func15, Try.ntmps15
      go_wp2
      go_loopw [6] (fun i wr => (i = .int .i64 0 ∨ i = .int .i64 1 ∨ i = .int .i64 2) ∧ w = wr) (fun i _ => 2 - (intOf i).toNat)
      case atStart => exact ⟨.inl rfl, rfl⟩
      case round =>
        obtain ⟨rfl | rfl | rfl, rfl⟩ := hrel
        · go_wp2
          go_roundw
          case rel => exact ⟨.inr (.inl rfl), by first | trivial | rfl⟩
          case measure => simp [intOf]
        · go_wp2
          go_roundw
          case rel => exact ⟨.inr (.inr rfl), by first | trivial | rfl⟩
          case measure => simp [intOf]
        · go_wp2
          go_ret
          exact ⟨rfl, rfl⟩
end Go.Proofs.Ytlchegibfopglaa
/- The document's ether.Ours. -/
namespace Go.Proofs.Ytlchegibfopglaa
set_option maxRecDepth 100000
open Go.RowKit
set_option maxHeartbeats 400000 in
theorem rours_any (t : Int) (w : World) : Calls Try.prog 19 #[.int .u16 t] w fun e w' => e = .returned (.bool (decide (t = 2048 ∨ t = 34525))) ∧ w = w' := by
  by_cases h1 : t = 2048
  · subst h1
    go_enter Try.func19, Try.ntmps19
    go_wp2
    go_ret
    exact ⟨rfl, rfl⟩
  · have h1' : (t == 2048) = false := by simpa using h1
    by_cases h2 : t = 34525
    · subst h2
      go_enter Try.func19, Try.ntmps19
      go_wp2
      go_ret
      exact ⟨rfl, rfl⟩
    · have h2' : (t == 34525) = false := by simpa using h2
      have h3 : decide (t = 2048 ∨ t = 34525) = false := by simp [h1, h2]
      rw [h3]
      go_enter Try.func19, Try.ntmps19
      go_wp2
      go_ret
      exact ⟨rfl, rfl⟩
end Go.Proofs.Ytlchegibfopglaa
