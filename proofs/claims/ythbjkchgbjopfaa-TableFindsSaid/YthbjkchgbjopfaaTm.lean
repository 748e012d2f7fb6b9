/- Stage 13: flags in a map. -/
import Derived.Test.YthbjkchgbjopfaaTk
import Derived.Test.YthbjkchgbjopfaaRm
import Derived.Test.YthbjkchgbjopfaaQg
namespace Go.Proofs.Ythbjkchgbjopfaa
set_option maxRecDepth 100000
open Go.RowKit Go.Shelf
def kvU (x : Nat) : Value := .int .u8 (x : Int)
def boolL (M : List (Nat × Bool)) : List (Nat × Value) := M.map fun p => (p.1, .bool p.2)
theorem boolL_put (x : Nat) (v : Bool) : ∀ M, aput x (.bool v) (boolL M) = boolL (mput x v M)
  | [] => rfl
  | p :: r => by
    show (if x = p.1 then (x, Value.bool v) :: boolL r else (p.1, .bool p.2) :: aput x (.bool v) (boolL r)) = boolL (if x = p.1 then (x, v) :: r else p :: mput x v r)
    rw [boolL_put x v r]
    split <;> rfl
theorem boolL_find (x : Nat) : ∀ M, (match afind x (boolL M) with | some v => v | none => Value.bool false) = .bool (mlook x M)
  | [] => rfl
  | p :: r => by
    have ih := boolL_find x r
    show (match (if x = p.1 then some (Value.bool p.2) else afind x (boolL r)) with | some v => v | none => Value.bool false) = .bool (if x = p.1 then p.2 else mlook x r)
    by_cases e : x = p.1
    · rw [if_pos e, if_pos e]
    · rw [if_neg e, if_neg e]
      exact ih
theorem boolL_split : ∀ {M : List (Nat × Bool)} {A : List (Nat × Value)} {x : Nat × Value} {C : List (Nat × Value)}, boolL M = A ++ x :: C → ∃ A' y v C', M = A' ++ (y, v) :: C' ∧ A = boolL A' ∧ x = (y, .bool v) ∧ C = boolL C'
  | [], A, _, _, e => by cases A <;> cases e
  | p :: r, [], x, C, e => by
    rw [List.nil_append] at e
    injection e with e1 e2
    exact ⟨[], p.1, p.2, r, rfl, rfl, e1.symm, e2.symm⟩
  | p :: r, a :: A, x, C, e => by
    rw [List.cons_append] at e
    injection e with e1 e2
    obtain ⟨A', y, v, C', q1, q2, q3, q4⟩ := boolL_split e2
    exact ⟨p :: A', y, v, C', by rw [q1]; rfl, by rw [← e1, q2]; rfl, q3, q4⟩
theorem trues_split (y : Nat) (v : Bool) (C : List (Nat × Bool)) : ∀ A : List (Nat × Bool), trues (A ++ (y, v) :: C) = trues (A ++ C) + (if v then 1 else 0)
  | [] => by
    show (if v then 1 else 0) + trues C = trues C + _
    omega
  | p :: r => by
    show (if p.2 then 1 else 0) + trues (r ++ (y, v) :: C) = (if p.2 then 1 else 0) + trues (r ++ C) + _
    rw [trues_split y v C r]
    omega
theorem boolL_app (A B : List (Nat × Bool)) : boolL A ++ boolL B = boolL (A ++ B) := (List.map_append).symm
theorem keyU : KeyT Try.prog 5 kvU := keyT_int Try.underlying5 (fun x : Nat => (x : Int)) fun _ _ h => by omega
theorem Try.infoTU : (Try.prog.info? 5).map (fun i => (i.zero, i.size, i.bytes)) = some (some (.int .u8 0), 1, 1) := by kernel_rfl
theorem look_m {W : World} {b : Nat} {M : List (Nat × Bool)} (h : RMap W b kvU (boolL M)) (x : Nat) : (Instr.lookup 48 (.map (some b)) (.int .u8 (x : Int)) false).run Try.prog W = .ok (.bool (mlook x M)) W := by
  have hz : ∀ w : World, (zeroValue 4).run Try.prog w = .ok (.bool false) w := fun w => by kernel_rfl
  have h1 := h.amap.look (P := Try.prog) Try.underlying48 keyU hz x false
  have h2 := boolL_find x M
  refine Eq.trans h1 ?_
  rw [← h2]
  cases afind x (boolL M) <;> rfl
end Go.Proofs.Ythbjkchgbjopfaa
