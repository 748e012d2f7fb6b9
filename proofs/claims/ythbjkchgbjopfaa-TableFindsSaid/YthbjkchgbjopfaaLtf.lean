/- Stage 13: the landed table: a function that is handed in, asked under a deferred recover. -/
import Derived.Defers
import Derived.Recover
import Derived.Test.YthbjkchgbjopfaaLte
namespace Go.Proofs.Ythbjkchgbjopfaa
set_option maxRecDepth 100000
open Go.RowKit Go.Shelf
/-- The deferred closure of a frame that returns: recover finds nothing. -/
theorem says_idle (w : World) : CallsD Try.prog 46 #[] .returning w fun e u' w' => e = .returned (.tuple #[]) ∧ u' = .returning ∧ w' = w := by
  refine callsD_of_wpS Try.func46 rfl fun c₀ cs hu => ?_
  first
    | (apply wpS_seq
       apply wpS_region)
    | apply wpS_region
  simp [wpOpsS, go_sem, recoverD, hu, Try.ntmps46]
  first
    | (refine wpS_of_wp (wp_ret ?_); cases c₀; simp_all [bodyPostS, results, Try.results46, Exit.thenS])
    | (cases c₀; simp_all [bodyPostS, results, Try.results46])
theorem says_nil (x : Nat) (w : World) : Calls Try.prog 43 #[.nilFunc, .int .u32 (x : Int)] w (ret (.bool false) w) := by
  have hnil : ∀ V : World, (binOp .neq 78 .nilFunc .nilFunc).run Try.prog V = .ok (.bool false) V := fun _ => by kernel_rfl
  go_enter_defers Try.func43, Try.ntmps43
  go_wp2_with fail
  refine leaves_cons (f := 46) (args := #[]) (by simp) (by simp [go_sem]) ?_
  refine (says_idle _).mono ?_
  rintro e u' w'' ⟨rfl, rfl, rfl⟩
  simp [Leaves, settle, results, Try.results43, go_sem]
  exact ⟨rfl, Below.refl _ _⟩
theorem says_any {fid : FuncId} {cap : Array Value} {x : Nat} {b : Bool} {w : World} {K : World → Prop} (eg : ∀ args w, (callFunc fid args).run Try.prog w = .ok (.enter fid args) w)
    (h : Calls Try.prog fid (#[.int .u32 (x : Int)] ++ cap) w fun e w' => e = .returned (.bool b) ∧ K w') : Calls Try.prog 43 #[.func (.func fid) #[] cap, .int .u32 (x : Int)] w fun e w' => e = .returned (.bool b) ∧ K w' := by
  have hnil : ∀ V : World, (binOp .neq 78 (.func (.func fid) #[] cap) .nilFunc).run Try.prog V = .ok (.bool true) V := fun _ => by kernel_rfl
  have HC := Lib.hid h
  have hcf := eg (#[.int .u32 (x : Int)] ++ cap) w
  clear h
  go_enter_defers Try.func43, Try.ntmps43
  go_wp2_with (first
    | (refine HC.out.mono ?_
       rintro e u1 ⟨rfl, hk⟩
       have HK := Lib.hid hk
       clear hk))
  refine leaves_cons (f := 46) (args := #[]) (by simp) (by simp [go_sem]) ?_
  refine (says_idle _).mono ?_
  rintro e u' w'' ⟨rfl, rfl, rfl⟩
  simp [Leaves, settle, results, Try.results43, go_sem]
  exact HK.out
end Go.Proofs.Ythbjkchgbjopfaa
