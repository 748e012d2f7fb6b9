import Derived.Test.YthjgecdnlpdcdaaM15
import Derived.Test.YthjgecdnlpdcdaaM29
/- A slice of bytes cut on both sides, wherever its memory ends. -/
namespace Go.Proofs.Ythjgecdnlpdcdaa
open Go.RowKit

end Go.Proofs.Ythjgecdnlpdcdaa
/- Layer 3's Read, told step by step: which answer, and what it tells of a packet that is one. -/
namespace Go.Proofs.Ythjgecdnlpdcdaa
open Go.RowKit
def ip4z : Array Value := ip4c 0 0 false 0 0 (fun _ => 0) (fun _ => 0) (.slice none 0 0)
theorem ip4_one (tos id : Int) (df : Bool) (ttl proto : Int) (s d : Nat → Int) (O : Option Addr) (on co : Nat) : (ip4c tos id df ttl proto s d (.slice O on co)).all (·.oneCell') = true := by simp [ip4c, Value.oneCell']
theorem ip4z_one : ip4z.all (·.oneCell') = true := ip4_one ..
theorem rd4_1 {f : Nat → Int} {n : Nat} (n0 : ¬ (n < 20)) (h : f 0 / 16 ≠ 4 ∨ hl4 f < 20) : rd4E f n = 5 := by
  unfold rd4E
  rw [if_neg n0, if_pos h]
theorem rd4_2 {f : Nat → Int} {n : Nat} (n0 : ¬ (n < 20)) (n1 : ¬ (f 0 / 16 ≠ 4 ∨ hl4 f < 20)) (h : n < hl4 f) : rd4E f n = 4 := by
  unfold rd4E
  rw [if_neg n0, if_neg n1, if_pos h]
theorem rd4_3 {f : Nat → Int} {n : Nat} (n0 : ¬ (n < 20)) (n1 : ¬ (f 0 / 16 ≠ 4 ∨ hl4 f < 20)) (n2 : ¬ (n < hl4 f)) (h : ofv f (hl4 f) ≠ 0) : rd4E f n = 6 := by
  unfold rd4E
  rw [if_neg n0, if_neg n1, if_neg n2, if_pos h]
theorem rd4_4 {f : Nat → Int} {n : Nat} (n0 : ¬ (n < 20)) (n1 : ¬ (f 0 / 16 ≠ 4 ∨ hl4 f < 20)) (n2 : ¬ (n < hl4 f)) (n3 : ¬ (ofv f (hl4 f) ≠ 0)) (h : tl4 f < hl4 f) : rd4E f n = 5 := by
  unfold rd4E
  rw [if_neg n0, if_neg n1, if_neg n2, if_neg n3, if_pos h]
theorem rd4_5 {f : Nat → Int} {n : Nat} (n0 : ¬ (n < 20)) (n1 : ¬ (f 0 / 16 ≠ 4 ∨ hl4 f < 20)) (n2 : ¬ (n < hl4 f)) (n3 : ¬ (ofv f (hl4 f) ≠ 0)) (n4 : ¬ (tl4 f < hl4 f)) (h : n < tl4 f) : rd4E f n = 4 := by
  unfold rd4E
  rw [if_neg n0, if_neg n1, if_neg n2, if_neg n3, if_neg n4, if_pos h]
theorem rd4_6 {f : Nat → Int} {n : Nat} (n0 : ¬ (n < 20)) (n1 : ¬ (f 0 / 16 ≠ 4 ∨ hl4 f < 20)) (n2 : ¬ (n < hl4 f)) (n3 : ¬ (ofv f (hl4 f) ≠ 0)) (n4 : ¬ (tl4 f < hl4 f)) (n5 : ¬ (n < tl4 f)) (h : 32768 ≤ f 6 * 256 + f 7) : rd4E f n = 5 := by
  unfold rd4E
  rw [if_neg n0, if_neg n1, if_neg n2, if_neg n3, if_neg n4, if_neg n5, if_pos h]
theorem rd4_7 {f : Nat → Int} {n : Nat} (n0 : ¬ (n < 20)) (n1 : ¬ (f 0 / 16 ≠ 4 ∨ hl4 f < 20)) (n2 : ¬ (n < hl4 f)) (n3 : ¬ (ofv f (hl4 f) ≠ 0)) (n4 : ¬ (tl4 f < hl4 f)) (n5 : ¬ (n < tl4 f)) (n6 : ¬ (32768 ≤ f 6 * 256 + f 7)) (h : optE (fun k => f (20 + k)) (hl4 f - 20) ≠ 0) : rd4E f n = optE (fun k => f (20 + k)) (hl4 f - 20) := by
  unfold rd4E
  rw [if_neg n0, if_neg n1, if_neg n2, if_neg n3, if_neg n4, if_neg n5, if_neg n6, if_pos h]
theorem rd4_8 {f : Nat → Int} {n : Nat} (n0 : ¬ (n < 20)) (n1 : ¬ (f 0 / 16 ≠ 4 ∨ hl4 f < 20)) (n2 : ¬ (n < hl4 f)) (n3 : ¬ (ofv f (hl4 f) ≠ 0)) (n4 : ¬ (tl4 f < hl4 f)) (n5 : ¬ (n < tl4 f)) (n6 : ¬ (32768 ≤ f 6 * 256 + f 7)) (n7 : ¬ (optE (fun k => f (20 + k)) (hl4 f - 20) ≠ 0)) (h : 0 < (f 6 * 256 + f 7) % 16384) : rd4E f n = 11 := by
  unfold rd4E
  rw [if_neg n0, if_neg n1, if_neg n2, if_neg n3, if_neg n4, if_neg n5, if_neg n6, if_neg n7, if_pos h]
theorem rd4_9 {f : Nat → Int} {n : Nat} (n0 : ¬ (n < 20)) (n1 : ¬ (f 0 / 16 ≠ 4 ∨ hl4 f < 20)) (n2 : ¬ (n < hl4 f)) (n3 : ¬ (ofv f (hl4 f) ≠ 0)) (n4 : ¬ (tl4 f < hl4 f)) (n5 : ¬ (n < tl4 f)) (n6 : ¬ (32768 ≤ f 6 * 256 + f 7)) (n7 : ¬ (optE (fun k => f (20 + k)) (hl4 f - 20) ≠ 0)) (n8 : ¬ (0 < (f 6 * 256 + f 7) % 16384)) : rd4E f n = 0 := by
  unfold rd4E
  rw [if_neg n0, if_neg n1, if_neg n2, if_neg n3, if_neg n4, if_neg n5, if_neg n6, if_neg n7, if_neg n8]
/-- What Read tells of a packet that is one. -/
def Read4 (et : Nat) (f : Nat → Int) (w : World) (e : Ending) (w' : World) : Prop :=
  ∃ O co P cp, e = .returned (.tuple #[.agg (ip4c (f 1) (f 4 * 256 + f 5) (decide (16384 ≤ f 6 * 256 + f 7)) (f 8) (f 9) (adr fun k => f (12 + k)) (adr fun k => f (16 + k)) (.slice O (hl4 f - 20) co)), .slice P (tl4 f - hl4 f) cp, .int .i64 0]) ∧
    Own w' w.heap.size et O (hl4 f - 20) co (fun k => f (20 + k)) ∧ Own w' w.heap.size et P (tl4 f - hl4 f) cp (fun k => f (hl4 f + k)) ∧
    (∀ g, Value.ownBlock (.slice O (hl4 f - 20) co) = some g → Value.ownBlock (.slice P (tl4 f - hl4 f) cp) ≠ some g) ∧ Below w.heap.size w w'
def Read4P (et : Nat) (E : Int) (f : Nat → Int) (w : World) (e : Ending) (w' : World) : Prop :=
  (E ≠ 0 ∧ e = .returned (.tuple #[.agg ip4z, .slice none 0 0, .int .i64 E]) ∧ Below w.heap.size w w') ∨ (E = 0 ∧ Read4 et f w e w')
end Go.Proofs.Ythjgecdnlpdcdaa
