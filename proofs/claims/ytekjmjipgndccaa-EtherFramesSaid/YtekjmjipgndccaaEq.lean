/- Two addresses compared; two heads of frames compared. -/
import Derived.Test.YtekjmjipgndccaaRParse
import Derived.Laws.StructEq
namespace Go.Proofs.Ytekjmjipgndccaa
open Go.RowKit
/-- Are two addresses one? -/
def same6 (x y : Nat → Int) : Bool := x 0 == y 0 && (x 1 == y 1 && (x 2 == y 2 && (x 3 == y 3 && (x 4 == y 4 && x 5 == y 5))))
theorem equal6 (d : Nat) (x y : Nat → Int) (w : World) : (Op.equalIn (d + 2) 22 (.agg (arr6 x)) (.agg (arr6 y))).run Try.prog w = .ok (same6 x y) w := by
  have e5 : ∀ (a b : Int) (w : World), (Op.equalIn (d + 1) 5 (.int .u8 a) (.int .u8 b)).run Try.prog w = .ok (a == b) w := fun a b w => run_equalIn_int w d 5 .u8 .u8 a b Try.underlying5
  rw [Op.equalIn]
  simp only [Sem.run_bind, run_underlying Try.underlying22, Result.andThen_ok]
  have hs : ∀ w, (sizeOf 5).run Try.prog w = .ok 1 w := fun w => by kernel_rfl
  have hp : ∀ (z : Nat → Int) (k : Nat) (w : World), k < 6 → (part 5 (arr6 z) (k * 1)).run Try.prog w = .ok (.int .u8 (z k)) w := fun z k w hk => by
    obtain rfl | rfl | rfl | rfl | rfl | rfl : k = 0 ∨ k = 1 ∨ k = 2 ∨ k = 3 ∨ k = 4 ∨ k = 5 := by omega
    all_goals kernel_rfl
  simp only [hs, Result.andThen_ok]
  rw [Std.Legacy.Range.forIn_eq_forIn_range']
  have hr : List.range' (Std.Legacy.Range.mk 0 6 1 (by decide)).start (Std.Legacy.Range.mk 0 6 1 (by decide)).size (Std.Legacy.Range.mk 0 6 1 (by decide)).step = [0, 1, 2, 3, 4, 5] := rfl
  rw [hr]
  simp only [List.forIn_cons, List.forIn_nil]
  unfold same6
  simp only [Sem.run_bind, hp x 0 _ (by omega), hp y 0 _ (by omega), e5, Result.andThen_ok]
  cases x 0 == y 0 <;> simp only [Bool.not_false, Bool.not_true, if_true, Bool.false_eq_true, if_false, Sem.run_pure, Result.andThen_ok, Bool.true_and, Bool.false_and]
  simp only [Sem.run_bind, hp x 1 _ (by omega), hp y 1 _ (by omega), e5, Result.andThen_ok]
  cases x 1 == y 1 <;> simp only [Bool.not_false, Bool.not_true, if_true, Bool.false_eq_true, if_false, Sem.run_pure, Result.andThen_ok, Bool.true_and, Bool.false_and]
  simp only [Sem.run_bind, hp x 2 _ (by omega), hp y 2 _ (by omega), e5, Result.andThen_ok]
  cases x 2 == y 2 <;> simp only [Bool.not_false, Bool.not_true, if_true, Bool.false_eq_true, if_false, Sem.run_pure, Result.andThen_ok, Bool.true_and, Bool.false_and]
  simp only [Sem.run_bind, hp x 3 _ (by omega), hp y 3 _ (by omega), e5, Result.andThen_ok]
  cases x 3 == y 3 <;> simp only [Bool.not_false, Bool.not_true, if_true, Bool.false_eq_true, if_false, Sem.run_pure, Result.andThen_ok, Bool.true_and, Bool.false_and]
  simp only [Sem.run_bind, hp x 4 _ (by omega), hp y 4 _ (by omega), e5, Result.andThen_ok]
  cases x 4 == y 4 <;> simp only [Bool.not_false, Bool.not_true, if_true, Bool.false_eq_true, if_false, Sem.run_pure, Result.andThen_ok, Bool.true_and, Bool.false_and]
  simp only [Sem.run_bind, hp x 5 _ (by omega), hp y 5 _ (by omega), e5, Result.andThen_ok]
  cases x 5 == y 5 <;> simp only [Bool.not_false, Bool.not_true, if_true, Bool.false_eq_true, if_false, Sem.run_pure, Result.andThen_ok, Bool.true_and, Bool.false_and]
theorem equal13 (d : Nat) (x1 x2 y1 y2 : Nat → Int) (t u : Int) (w : World) : (Op.equalIn (d + 3) 25 (.agg (eth x1 x2 t)) (.agg (eth y1 y2 u))).run Try.prog w = .ok (same6 x1 y1 && (same6 x2 y2 && t == u)) w := by
  have hf : Try.prog.underlying 25 = some (.struct (Try.prog.fieldsOf 25)) := by kernel_rfl
  rw [run_equalIn_struct w (d + 2) 25 _ _ hf (by kernel_rfl)]
  have hl : (Try.prog.fieldsOf 25).toList = [{ name := "Dst", type := 22, offset := 0, embedded := false, tag := "", pkgPath := "", byteOffset := 0 }, { name := "Src", type := 22, offset := 6, embedded := false, tag := "", pkgPath := "", byteOffset := 6 }, { name := "Type", type := 23, offset := 12, embedded := false, tag := "", pkgPath := "", byteOffset := 12 }] := by kernel_rfl
  rw [hl]
  have p0 : ∀ (z1 z2 : Nat → Int) (v : Int) (w : World), (part 22 (eth z1 z2 v) 0).run Try.prog w = .ok (.agg (arr6 z1)) w := fun z1 z2 v w => by kernel_rfl
  have p1 : ∀ (z1 z2 : Nat → Int) (v : Int) (w : World), (part 22 (eth z1 z2 v) 6).run Try.prog w = .ok (.agg (arr6 z2)) w := fun z1 z2 v w => by kernel_rfl
  have p2 : ∀ (z1 z2 : Nat → Int) (v : Int) (w : World), (part 23 (eth z1 z2 v) 12).run Try.prog w = .ok (.int .u16 v) w := fun z1 z2 v w => by kernel_rfl
  have e6 := fun (a b : Nat → Int) (w : World) => equal6 d a b w
  have e1 : ∀ (w : World), (Op.equalIn (d + 2) 23 (.int .u16 t) (.int .u16 u)).run Try.prog w = .ok (t == u) w := fun w => run_equalIn_int w (d + 1) 23 .u16 .u16 t u Try.underlying23
  simp only [Op.eqFields, Sem.run_bind, p0, p1, p2, e6, e1, Result.andThen_ok, Sem.run_ite, Sem.run_pure]
  cases same6 x1 y1 <;> cases same6 x2 y2 <;> cases (t == u) <;> rfl
theorem same6_iff (x y : Nat → Int) : same6 x y = true ↔ ∀ k, k < 6 → x k = y k := by
  unfold same6
  simp only [Bool.and_eq_true, beq_iff_eq]
  constructor
  · rintro ⟨h0, h1, h2, h3, h4, h5⟩ k hk
    obtain rfl | rfl | rfl | rfl | rfl | rfl : k = 0 ∨ k = 1 ∨ k = 2 ∨ k = 3 ∨ k = 4 ∨ k = 5 := by omega
    all_goals assumption
  · intro h
    exact ⟨h 0 (by omega), h 1 (by omega), h 2 (by omega), h 3 (by omega), h 4 (by omega), h 5 (by omega)⟩
theorem same6_self (x : Nat → Int) : same6 x x = true := (same6_iff x x).2 fun _ _ => rfl
end Go.Proofs.Ytekjmjipgndccaa
