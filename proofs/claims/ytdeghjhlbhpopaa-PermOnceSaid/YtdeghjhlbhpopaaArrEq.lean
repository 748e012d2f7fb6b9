/- Two arrays of bytes compared, over any program. -/
import Derived.Test.YtdeghjhlbhpopaaBlk
import Derived.Laws.StructEq
namespace Go.Proofs.Ytdeghjhlbhpopaa
open Go.RowKit
/-- Are m numbers the same, from place i on? -/
def eqs (x y : Nat → Int) (i : Nat) : Nat → Bool
  | 0 => true
  | m + 1 => x i == y i && eqs x y (i + 1) m
theorem eqs_iff (x y : Nat → Int) : ∀ m i, eqs x y i m = true ↔ ∀ k, i ≤ k → k < i + m → x k = y k
  | 0, i => by simp [eqs]; omega
  | m + 1, i => by
    simp only [eqs, Bool.and_eq_true, beq_iff_eq, eqs_iff x y m (i + 1)]
    constructor
    · rintro ⟨h, hr⟩ k h1 h2
      by_cases e : k = i
      · subst e; exact h
      · exact hr k (by omega) (by omega)
    · exact fun h => ⟨h i (Nat.le_refl _) (by omega), fun k h1 h2 => h k (by omega) (by omega)⟩
theorem equal_bytes {P : Program} (d : Nat) (t e : TypeId) (n : Nat) (xs ys : Array Value) (x y : Nat → Int) (ht : P.underlying t = some (.array n e)) (he : P.underlying e = some (.int .u8)) (hs : (P.info? e).map (·.size) = some 1)
    (hx : ∀ k, k < n → xs[k]? = some (.int .u8 (x k))) (hy : ∀ k, k < n → ys[k]? = some (.int .u8 (y k))) (w : World) :
    (Op.equalIn (d + 2) t (.agg xs) (.agg ys)).run P w = .ok (eqs x y 0 n) w := by
  have e5 : ∀ (a b : Int) (w : World), (Op.equalIn (d + 1) e (.int .u8 a) (.int .u8 b)).run P w = .ok (a == b) w := fun a b w => run_equalIn_int w d e .u8 .u8 a b he
  have hsz : ∀ w, (sizeOf e).run P w = .ok 1 w := fun w => by
    cases hq : P.info? e with
    | none => simp [hq] at hs
    | some i =>
      have h1 : i.size = 1 := by simpa [hq] using hs
      simp [sizeOf, typeInfo, hq, h1]
  have hagg : ∀ w, (isAgg e).run P w = .ok false w := fun w => by
    unfold isAgg
    rw [Sem.run_bind, run_underlying he w]
    rfl
  have hp : ∀ (zs : Array Value) (z : Nat → Int) (k : Nat) (w : World), zs[k]? = some (.int .u8 (z k)) → (part e zs (k * 1)).run P w = .ok (.int .u8 (z k)) w := fun zs z k w hk => by
    rw [Nat.mul_one]
    unfold part
    simp [Sem.run_bind, hagg, hk]
  rw [Op.equalIn]
  simp only [Sem.run_bind, run_underlying ht, Result.andThen_ok, hsz]
  rw [Std.Legacy.Range.forIn_eq_forIn_range']
  have hr : List.range' (Std.Legacy.Range.mk 0 n 1 (by decide)).start (Std.Legacy.Range.mk 0 n 1 (by decide)).size (Std.Legacy.Range.mk 0 n 1 (by decide)).step = List.range' 0 n := by simp [Std.Legacy.Range.size]
  rw [hr]
  have key : ∀ m i (w : World), i + m ≤ n → ((forIn (List.range' i m) ((none : Option Bool), ()) fun k (_ : Option Bool × Unit) => do
      let a ← part e xs (k * 1)
      let b ← part e ys (k * 1)
      let r ← Op.equalIn (d + 1) e a b
      if (!r) = true then pure (ForInStep.done (some false, ())) else pure (ForInStep.yield (none, ()))) : Sem _).run P w = .ok (if eqs x y i m = true then (none, ()) else (some false, ())) w := by
    intro m
    induction m with
    | zero =>
      intro i w _
      simp [eqs]
    | succ m ih =>
      intro i w hi
      rw [List.range'_succ]
      simp only [List.forIn_cons, Sem.run_bind, hp xs x i _ (hx i (by omega)), hp ys y i _ (hy i (by omega)), e5, Result.andThen_ok]
      by_cases hq : x i = y i
      · have hb : (x i == y i) = true := by simpa using hq
        simp only [hb, Bool.not_true, Bool.false_eq_true, if_false, Sem.run_pure, Result.andThen_ok]
        rw [ih (i + 1) w (by omega)]
        simp [eqs, hq]
      · have hb : (x i == y i) = false := by simpa using hq
        simp only [hb, Bool.not_false, if_true, Sem.run_pure, Result.andThen_ok]
        simp [eqs, hq]
  rw [key n 0 w (by omega)]
  simp only [Result.andThen_ok]
  cases eqs x y 0 n <;> rfl
theorem equal16 {P : Program} (t e : TypeId) (ht : P.underlying t = some (.array 16 e)) (he : P.underlying e = some (.int .u8)) (hs : (P.info? e).map (·.size) = some 1) (x y : Nat → Int) (w : World) :
    (Op.equalIn 10000 t (.agg (arr16 x)) (.agg (arr16 y))).run P w = .ok (eqs x y 0 16) w :=
  equal_bytes 9998 t e 16 _ _ x y ht he hs (fun k hk => arr16_get x k hk) (fun k hk => arr16_get y k hk) w
theorem eqs_self (x : Nat → Int) (n : Nat) : eqs x x 0 n = true := (eqs_iff x x n 0).2 fun _ _ _ => rfl
end Go.Proofs.Ytdeghjhlbhpopaa
