/- The program's fits: whether an address is of four bytes. -/
import Derived.Test.YtmmmednghdnhnaaI4a
import Derived.Test.YtmmmednghdnhnaaRI4s
namespace Go.Proofs.Ytmmmednghdnhnaa
open Go.RowKit
def arr12 (f : Nat → Int) : Array Value := #[.int .u8 (f 0), .int .u8 (f 1), .int .u8 (f 2), .int .u8 (f 3), .int .u8 (f 4), .int .u8 (f 5), .int .u8 (f 6), .int .u8 (f 7), .int .u8 (f 8), .int .u8 (f 9), .int .u8 (f 10), .int .u8 (f 11)]
theorem arr12_get (f : Nat → Int) (k : Nat) (hk : k < 12) : (arr12 f)[k]? = some (.int .u8 (f k)) := by
  match k, hk with
  | 0, _ => rfl
  | 1, _ => rfl
  | 2, _ => rfl
  | 3, _ => rfl
  | 4, _ => rfl
  | 5, _ => rfl
  | 6, _ => rfl
  | 7, _ => rfl
  | 8, _ => rfl
  | 9, _ => rfl
  | 10, _ => rfl
  | 11, _ => rfl
  | k + 12, h => exact absurd h (by omega)
/-- Is an address of four bytes alone? -/
def fourA (s : Nat → Int) : Bool := eqs (fun k => s (4 + k)) (fun _ => 0) 0 12
theorem equal12 (x y : Nat → Int) (w : World) : (Op.equalIn 10000 51 (.agg (arr12 x)) (.agg (arr12 y))).run Try.prog w = .ok (eqs x y 0 12) w :=
  equal_bytes 9998 51 5 12 _ _ x y Try.underlying51 Try.underlying5 (by kernel_rfl) (fun k hk => arr12_get x k hk) (fun k hk => arr12_get y k hk) w
theorem arr12_range {w : World} {g i : Nat} {cs : Array Value} {t : TypeId} {f : Nat → Int} (h : w.heap[g]? = some (.cells cs t (0, 0))) (hf : ∀ k, k < 12 → cs[i + k]? = some (.int .u8 (f k))) : w.rangeAt g i (arr12 f).toList := fun j v hv => by
  have hj : j < 12 := (List.getElem?_eq_some_iff.1 hv).1
  rw [blk_cell h (i + j), hf j hj, ← hv, Array.getElem?_toList, arr12_get f j hj]
set_option maxHeartbeats 400000 in
theorem fits_any (s : Nat → Int) (w : World) : Calls Try.prog 21 #[.agg (arr16 s)] w fun e w' => e = .returned (.bool (fourA s)) ∧ Below w.heap.size w w' := by
  have b1 : (w.alloc (.cells (arr16 s) 23)).heap[w.heap.size]? = some (.cells (arr16 s) 23 (0, 0)) := heap_alloc_new w _
  have HR := Lib.hid (arr12_range (f := fun k => s (4 + k)) b1 (i := 4) fun k hk => arr16_get s (4 + k) (by omega))
  have hat : ∀ (a : Option Addr) (k : Nat) w, (Instr.arrayAt 51 (.slice a 12 k)).run Try.prog w = .ok (.pointer a) w := fun a k w => run_arrayAt w 51 _ 12 _ 12 k Try.underlying51 (Nat.le_refl _)
  have heq : ∀ W, (Op.equalIn 10000 51 (.agg (arr12 fun k => s (4 + k))) (.agg #[.int .u8 0, .int .u8 0, .int .u8 0, .int .u8 0, .int .u8 0, .int .u8 0, .int .u8 0, .int .u8 0, .int .u8 0, .int .u8 0, .int .u8 0, .int .u8 0])).run Try.prog W = .ok (fourA s) W := fun W => equal12 (fun k => s (4 + k)) (fun _ => 0) W
  clear b1
  obtain ⟨F, hF⟩ : ∃ F, F = fourA s := ⟨_, rfl⟩
  rw [← hF] at heq ⊢
  clear hF
  have hsz : (Try.prog.info? 51).map (·.size) = some (arr12 fun k => s (4 + k)).toList.length := by kernel_rfl
  generalize (arr12 fun k => s (4 + k)) = X at *
  have HS := Lib.hid hsz
  clear hsz
  go_enter Try.func21, Try.ntmps21
  go_wp2_with (first
    | (refine wpList_load_arr rfl 51 (.tmp 4) rfl w.heap.size 4 rfl X _ HR.out Try.underlying51 rfl HS.out ?_))
  go_ret
  exact ⟨rfl, below_alloc w _⟩
end Go.Proofs.Ytmmmednghdnhnaa
