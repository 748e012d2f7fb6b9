/- The document's number, as bytes. -/
import Derived.Test.YtfaelihfjmaekaaOf
namespace Go.Proofs.Ytfaelihfjmaekaa
open Go.RowKit
/-- The bytes of a number, the highest one first, of 2 and of 4. -/
def num2 (x : Int) (k : Nat) : Int := match k with
  | 0 => x / 256 % 256 | 1 => x % 256 | _ => 0
def num4 (x : Int) (k : Nat) : Int := match k with
  | 0 => x / 256 / 256 / 256 % 256 | 1 => x / 256 / 256 % 256 | 2 => x / 256 % 256 | 3 => x % 256 | _ => 0
theorem num2_byt (x : Int) : Byt (num2 x) := fun k => by unfold num2; split <;> omega
theorem num4_byt (x : Int) : Byt (num4 x) := fun k => by unfold num4; split <;> omega
theorem cell_in {w : World} {g : Nat} {cs : Array Value} {t : TypeId} (h : w.heap[g]? = some (.cells cs t (0, 0))) (i : Nat) : w.cell? ⟨g, i, none⟩ = cs[i]? := cell_of_row w g i cs t (0, 0) h
theorem free_in {w : World} {g : Nat} {cs : Array Value} {t : TypeId} (h : w.heap[g]? = some (.cells cs t (0, 0))) (i : Nat) : w.frozen? ⟨g, i, none⟩ = false := by simp [World.frozen?, h]
theorem set_in {w : World} {g : Nat} {cs : Array Value} {t : TypeId} (h : w.heap[g]? = some (.cells cs t (0, 0))) (i : Nat) (v : Value) : (w.setCell ⟨g, i, none⟩ v).heap[g]? = some (.cells (cs.setIfInBounds i v) t (0, 0)) := by
  simp [World.setCell, Array.getElem?_modify, h]
theorem lt_of_heap {w : World} {g : Nat} {o : Obj} (h : w.heap[g]? = some o) : g < w.heap.size := by
  rcases Nat.lt_or_ge g w.heap.size with hlt | hge
  · exact hlt
  · rw [Array.getElem?_eq_none hge] at h; cases h

def nst2 (x : Int) (j : Nat) : Int := match j with
  | 0 => x
  | 1 => x / 256
  | _ => x / 256 / 256
def nout2 (x : Int) (j : Nat) : Array Value := match j with
  | 0 => #[.int .u8 0, .int .u8 0]
  | 1 => #[.int .u8 0, .int .u8 (x % 256)]
  | _ => #[.int .u8 (x / 256 % 256), .int .u8 (x % 256)]
set_option maxHeartbeats 400000 in
theorem num2_any (x : Int) (w : World) (hx : 0 ≤ x) (hx' : x ≤ 9223372036854775807) :
    Calls Try.prog 51 #[.int .i64 x, .int .i64 2] w fun e w' => e = .returned (.slice (some ⟨w.heap.size, 0, none⟩) 2 2) ∧ Below w.heap.size w w' ∧ Rd w' w'.heap.size (some ⟨w.heap.size, 0, none⟩) 2 (num2 x) := by
  have hmk : ∀ w : World, (Instr.makeSlice 23 (.int .i64 2) (.int .i64 2)).run Try.prog w = .ok (.slice (some ⟨w.heap.size, 0, none⟩) 2 2) (w.alloc (.cells #[.int .u8 0, .int .u8 0] 5)) := fun _ => by kernel_rfl
  go_enter Try.func51, Try.ntmps51
  go_wp2
  clear hmk
  go_loopw [0, 6] (fun n i wr => ∃ j : Nat, j ≤ 2 ∧ i = .int .i64 (1 - (j : Int)) ∧ n = .int .i64 (nst2 x j) ∧ wr.heap[w.heap.size]? = some (.cells (nout2 x j) 5 (0, 0)) ∧ Below w.heap.size w wr) (fun _ i _ => (intOf i + 1).toNat)
  case atStart => exact ⟨0, by omega, rfl, rfl, heap_alloc_new w _, below_alloc w _⟩
  case round =>
    obtain ⟨j, hj, rfl, rfl, hblk, hbl⟩ := hrel
    have HB := Lib.hid hblk
    have hlt : w.heap.size < wr.heap.size := lt_of_heap hblk
    clear hblk
    obtain rfl | rfl | rfl : j = 0 ∨ j = 1 ∨ j = 2 := by omega
    · have hc := cell_in HB.out 1
      have hfr := free_in HB.out 1
      have HN := Lib.hid (set_in HB.out 1 (.int .u8 (x % 256)))
      simp only [nst2] at *
      rw [show (nout2 x 0)[1]? = some (.int .u8 0) from rfl] at hc
      go_wp2
      go_roundw
      case rel => exact ⟨1, by omega, rfl, rfl, HN.out, hbl.setCell (Nat.le_refl _) _⟩
      case measure => simp [intOf]
    · have hc := cell_in HB.out 0
      have hfr := free_in HB.out 0
      have HN := Lib.hid (set_in HB.out 0 (.int .u8 (x / 256 % 256)))
      simp only [nst2] at *
      rw [show (nout2 x 1)[0]? = some (.int .u8 0) from rfl] at hc
      go_wp2
      go_roundw
      case rel => exact ⟨2, by omega, rfl, rfl, HN.out, hbl.setCell (Nat.le_refl _) _⟩
      case measure => simp [intOf]
    · go_wp2
      go_ret
      refine ⟨rfl, hbl, .inr ⟨_, _, rfl, hlt, fun k hk => ?_⟩⟩
      rw [Nat.zero_add, cell_in HB.out k]
      match k, hk with
      | 0, _ => rfl
      | 1, _ => rfl

def nst4 (x : Int) (j : Nat) : Int := match j with
  | 0 => x
  | 1 => x / 256
  | 2 => x / 256 / 256
  | 3 => x / 256 / 256 / 256
  | _ => x / 256 / 256 / 256 / 256
def nout4 (x : Int) (j : Nat) : Array Value := match j with
  | 0 => #[.int .u8 0, .int .u8 0, .int .u8 0, .int .u8 0]
  | 1 => #[.int .u8 0, .int .u8 0, .int .u8 0, .int .u8 (x % 256)]
  | 2 => #[.int .u8 0, .int .u8 0, .int .u8 (x / 256 % 256), .int .u8 (x % 256)]
  | 3 => #[.int .u8 0, .int .u8 (x / 256 / 256 % 256), .int .u8 (x / 256 % 256), .int .u8 (x % 256)]
  | _ => #[.int .u8 (x / 256 / 256 / 256 % 256), .int .u8 (x / 256 / 256 % 256), .int .u8 (x / 256 % 256), .int .u8 (x % 256)]
set_option maxHeartbeats 400000 in
theorem num4_any (x : Int) (w : World) (hx : 0 ≤ x) (hx' : x ≤ 9223372036854775807) :
    Calls Try.prog 51 #[.int .i64 x, .int .i64 4] w fun e w' => e = .returned (.slice (some ⟨w.heap.size, 0, none⟩) 4 4) ∧ Below w.heap.size w w' ∧ Rd w' w'.heap.size (some ⟨w.heap.size, 0, none⟩) 4 (num4 x) := by
  have hmk : ∀ w : World, (Instr.makeSlice 23 (.int .i64 4) (.int .i64 4)).run Try.prog w = .ok (.slice (some ⟨w.heap.size, 0, none⟩) 4 4) (w.alloc (.cells #[.int .u8 0, .int .u8 0, .int .u8 0, .int .u8 0] 5)) := fun _ => by kernel_rfl
  go_enter Try.func51, Try.ntmps51
  go_wp2
  clear hmk
  go_loopw [0, 6] (fun n i wr => ∃ j : Nat, j ≤ 4 ∧ i = .int .i64 (3 - (j : Int)) ∧ n = .int .i64 (nst4 x j) ∧ wr.heap[w.heap.size]? = some (.cells (nout4 x j) 5 (0, 0)) ∧ Below w.heap.size w wr) (fun _ i _ => (intOf i + 1).toNat)
  case atStart => exact ⟨0, by omega, rfl, rfl, heap_alloc_new w _, below_alloc w _⟩
  case round =>
    obtain ⟨j, hj, rfl, rfl, hblk, hbl⟩ := hrel
    have HB := Lib.hid hblk
    have hlt : w.heap.size < wr.heap.size := lt_of_heap hblk
    clear hblk
    obtain rfl | rfl | rfl | rfl | rfl : j = 0 ∨ j = 1 ∨ j = 2 ∨ j = 3 ∨ j = 4 := by omega
    · have hc := cell_in HB.out 3
      have hfr := free_in HB.out 3
      have HN := Lib.hid (set_in HB.out 3 (.int .u8 (x % 256)))
      simp only [nst4] at *
      rw [show (nout4 x 0)[3]? = some (.int .u8 0) from rfl] at hc
      go_wp2
      go_roundw
      case rel => exact ⟨1, by omega, rfl, rfl, HN.out, hbl.setCell (Nat.le_refl _) _⟩
      case measure => simp [intOf]
    · have hc := cell_in HB.out 2
      have hfr := free_in HB.out 2
      have HN := Lib.hid (set_in HB.out 2 (.int .u8 (x / 256 % 256)))
      simp only [nst4] at *
      rw [show (nout4 x 1)[2]? = some (.int .u8 0) from rfl] at hc
      go_wp2
      go_roundw
      case rel => exact ⟨2, by omega, rfl, rfl, HN.out, hbl.setCell (Nat.le_refl _) _⟩
      case measure => simp [intOf]
    · have hc := cell_in HB.out 1
      have hfr := free_in HB.out 1
      have HN := Lib.hid (set_in HB.out 1 (.int .u8 (x / 256 / 256 % 256)))
      simp only [nst4] at *
      rw [show (nout4 x 2)[1]? = some (.int .u8 0) from rfl] at hc
      go_wp2
      go_roundw
      case rel => exact ⟨3, by omega, rfl, rfl, HN.out, hbl.setCell (Nat.le_refl _) _⟩
      case measure => simp [intOf]
    · have hc := cell_in HB.out 0
      have hfr := free_in HB.out 0
      have HN := Lib.hid (set_in HB.out 0 (.int .u8 (x / 256 / 256 / 256 % 256)))
      simp only [nst4] at *
      rw [show (nout4 x 3)[0]? = some (.int .u8 0) from rfl] at hc
      go_wp2
      go_roundw
      case rel => exact ⟨4, by omega, rfl, rfl, HN.out, hbl.setCell (Nat.le_refl _) _⟩
      case measure => simp [intOf]
    · go_wp2
      go_ret
      refine ⟨rfl, hbl, .inr ⟨_, _, rfl, hlt, fun k hk => ?_⟩⟩
      rw [Nat.zero_add, cell_in HB.out k]
      match k, hk with
      | 0, _ => rfl
      | 1, _ => rfl
      | 2, _ => rfl
      | 3, _ => rfl
end Go.Proofs.Ytfaelihfjmaekaa
