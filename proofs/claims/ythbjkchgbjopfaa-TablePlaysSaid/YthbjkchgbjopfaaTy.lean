/- Entries compared. -/
import Derived.Test.YthbjkchgbjopfaaTe
import Derived.WalkKit
import Derived.Laws.StructEq
namespace Go.Proofs.Ythbjkchgbjopfaa
set_option maxRecDepth 100000
open Go.RowKit Go.Shelf
theorem eqE (a b c d : Int) (W : World) : (Op.equalIn 10000 34 (.agg #[.int .u64 a, .int .u32 b]) (.agg #[.int .u64 c, .int .u32 d])).run Try.prog W = .ok (a == c && b == d) W := by
  have hf : Try.prog.underlying 34 = some (.struct (Try.prog.fieldsOf 34)) := by kernel_rfl
  rw [run_equalIn_struct W 9999 34 _ _ hf (by kernel_rfl)]
  have hl : (Try.prog.fieldsOf 34).toList = [{ name := "Hash", type := 31, offset := 0, embedded := false, tag := "", pkgPath := "", byteOffset := 0 }, { name := "What", type := 32, offset := 1, embedded := false, tag := "", pkgPath := "", byteOffset := 8 }] := by kernel_rfl
  rw [hl]
  have e1 := run_equalIn_int (P := Try.prog) W 9998 31 .u64 .u64 a c Try.underlying31
  have e2 := run_equalIn_int (P := Try.prog) W 9998 32 .u32 .u32 b d Try.underlying32
  have p0 : ∀ (a b : Int), (part 31 #[.int .u64 a, .int .u32 b] 0).run Try.prog W = .ok (.int .u64 a) W := fun a b => by kernel_rfl
  have p1 : ∀ (a b : Int), (part 32 #[.int .u64 a, .int .u32 b] 1).run Try.prog W = .ok (.int .u32 b) W := fun a b => by kernel_rfl
  cases hv : (a == c) <;> cases hp : (b == d) <;> rw [hv] at e1 <;> rw [hp] at e2 <;> simp [Op.eqFields, Sem.run_bind, p0, p1, e1, e2, Result.andThen_ok, Sem.run_ite, Sem.run_pure]
theorem neqE (a b c d : Int) (W : World) : (binOp .neq 34 (.agg #[.int .u64 a, .int .u32 b]) (.agg #[.int .u64 c, .int .u32 d])).run Try.prog W = .ok (.bool (!(a == c && b == d))) W := by
  have h : (Op.equalIn Op.maxDepth 34 (.agg #[.int .u64 a, .int .u32 b]) (.agg #[.int .u64 c, .int .u32 d])).run Try.prog W = _ := eqE a b c d W
  unfold binOp
  simp [Op.equal, h, Result.andThen_ok]
end Go.Proofs.Ythbjkchgbjopfaa
