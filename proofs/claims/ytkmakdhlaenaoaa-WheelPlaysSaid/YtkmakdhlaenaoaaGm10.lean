import Derived.Test.YtkmakdhlaenaoaaGm4
import Derived.Laws.StructEq
import Derived.Test.YtkmakdhlaenaoaaGm8
import Derived.Test.YtkmakdhlaenaoaaGm9
/- Handles compared; structs loaded in a quiet region; a promise on kept blocks for a loop over a function. -/
namespace Go.Proofs.Ytkmakdhlaenaoaa
set_option maxRecDepth 100000
open Go.RowKit Go.Shelf
theorem eqH (a b c d : Int) (W : World) : (Op.equalIn 10000 46 (.agg #[.int .i64 a, .int .u64 b]) (.agg #[.int .i64 c, .int .u64 d])).run Try.prog W = .ok (a == c && b == d) W := by
  have hf : Try.prog.underlying 46 = some (.struct (Try.prog.fieldsOf 46)) := by kernel_rfl
  rw [run_equalIn_struct W 9999 46 _ _ hf (by kernel_rfl)]
  have hl : (Try.prog.fieldsOf 46).toList = [{ name := "I", type := 3, offset := 0, embedded := false, tag := "", pkgPath := "", byteOffset := 0 }, { name := "Serial", type := 22, offset := 1, embedded := false, tag := "", pkgPath := "", byteOffset := 8 }] := by kernel_rfl
  rw [hl]
  have e1 := run_equalIn_int (P := Try.prog) W 9998 3 .i64 .i64 a c Try.underlying3
  have e2 := run_equalIn_int (P := Try.prog) W 9998 22 .u64 .u64 b d Try.underlying22
  have p0 : ∀ (a b : Int), (part 3 #[.int .i64 a, .int .u64 b] 0).run Try.prog W = .ok (.int .i64 a) W := fun a b => by kernel_rfl
  have p1 : ∀ (a b : Int), (part 22 #[.int .i64 a, .int .u64 b] 1).run Try.prog W = .ok (.int .u64 b) W := fun a b => by kernel_rfl
  cases hv : (a == c) <;> cases hp : (b == d) <;> rw [hv] at e1 <;> rw [hp] at e2 <;> simp [Op.eqFields, Sem.run_bind, p0, p1, e1, e2, Result.andThen_ok, Sem.run_ite, Sem.run_pure]
theorem neqH (a b c d : Int) (W : World) : (binOp .neq 46 (.agg #[.int .i64 a, .int .u64 b]) (.agg #[.int .i64 c, .int .u64 d])).run Try.prog W = .ok (.bool (!(a == c && b == d))) W := by
  have h : (Op.equalIn Op.maxDepth 46 (.agg #[.int .i64 a, .int .u64 b]) (.agg #[.int .i64 c, .int .u64 d])).run Try.prog W = _ := eqH a b c d W
  unfold binOp
  simp [Op.equal, h, Result.andThen_ok]
theorem eqlH (a b c d : Int) (W : World) : (binOp .eql 46 (.agg #[.int .i64 a, .int .u64 b]) (.agg #[.int .i64 c, .int .u64 d])).run Try.prog W = .ok (.bool (a == c && b == d)) W := by
  have h : (Op.equalIn Op.maxDepth 46 (.agg #[.int .i64 a, .int .u64 b]) (.agg #[.int .i64 c, .int .u64 d])).run Try.prog W = _ := eqH a b c d W
  unfold binOp
  simp [Op.equal, h, Result.andThen_ok]
end Go.Proofs.Ytkmakdhlaenaoaa
/- Stage 9: same, over whatever arena. -/
namespace Go.Proofs.Ytkmakdhlaenaoaa
set_option maxRecDepth 100000
set_option pp.maxSteps 100000
open Go.RowKit Go.Shelf
attribute [local go_sem] Oper.semAt_some
/-- The live handle at an index, as it is told; whether there is one. -/
def Ar.is_ (s : Ar) (i : Int) : Bool := decide (0 ≤ i) && decide (s.at_ i.toNat ≠ 0)
def Ar.hat (s : Ar) (i : Int) : Array Value := if s.is_ i = true then #[.int .i64 i, .int .u64 (s.at_ i.toNat : Int)] else #[.int .i64 0, .int .u64 0]
theorem tcell_at {l : List (Nat × Nat)} {k : Nat} {x : Nat × Nat} (h : l[k]? = some x) {j : Nat} (hj : j < 2) : some (tcell l (k * 2 + j)) = (#[.int .i64 (x.1 : Int), .int .u64 (x.2 : Int)] : Array Value).toList[j]? := by
  unfold tcell
  have e : l.getD ((k * 2 + j) / 2) (0, 0) = x := by
    rw [show (k * 2 + j) / 2 = k by omega, List.getD_eq_getElem?_getD, h]
    rfl
  rw [e]
  rcases (show j = 0 ∨ j = 1 by omega) with rfl | rfl
  · rw [if_pos (by omega)]; rfl
  · rw [if_neg (by omega)]; rfl
end Go.Proofs.Ytkmakdhlaenaoaa
