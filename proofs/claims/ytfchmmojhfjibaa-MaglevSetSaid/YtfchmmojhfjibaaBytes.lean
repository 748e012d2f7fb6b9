/- Plain words for slices of bytes, over any program: a slice that reads as a function of its place; one of the call's own, onto which is appended; regions whose calls make memory but turn none of the old. -/
import Derived.WalkKit
import Derived.WalkSpells
import Derived.Maps.AppendAt
import Derived.Laws.BytesArg
import Derived.Deep.Quiet
import Derived.Deep.Draws
import Derived.BigQuiet
import Derived.Lib.Hide
namespace Go.Proofs.Ytfchmmojhfjibaa
open Go.RowKit
theorem alloc_le (w : World) (o : Obj) : w.heap.size ≤ (w.alloc o).heap.size := by simp
theorem below_alloc (w : World) (o : Obj) : Below w.heap.size w (w.alloc o) := (Below.refl _ _).alloc (Nat.le_refl _) o
/-- A slice of bytes that reads as f, below block B; of nothing the address is not asked. -/
def Rd (w : World) (B : Nat) (A : Option Addr) (n : Nat) (f : Nat → Int) : Prop :=
  n = 0 ∨ ∃ b off, A = some ⟨b, off, none⟩ ∧ b < B ∧ ∀ k, k < n → w.cell? ⟨b, off + k, none⟩ = some (.int .u8 (f k))
/-- Each of f is a byte. -/
def Byt (f : Nat → Int) : Prop := ∀ k, 0 ≤ f k ∧ f k ≤ 255
/-- The first n of f. -/
def nums (n : Nat) (f : Nat → Int) : List Int := (List.range n).map f
theorem nums_len (n : Nat) (f : Nat → Int) : (nums n f).length = n := by simp [nums]
theorem nums_get {n : Nat} {f : Nat → Int} {k : Nat} (h : k < n) : (nums n f).getD k 0 = f k := by
  simp [nums, List.getD, List.getElem?_map, List.getElem?_range h]
section
variable {P : Program}
end
end Go.Proofs.Ytfchmmojhfjibaa
