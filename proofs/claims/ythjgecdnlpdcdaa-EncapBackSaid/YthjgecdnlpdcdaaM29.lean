import Derived.Test.YthjgecdnlpdcdaaM15
import Derived.Test.YthjgecdnlpdcdaaM14
import Derived.Laws.BytesArg
import Derived.Deep.MidRow
import Derived.Test.YthjgecdnlpdcdaaM28
/- An IPv4 header's cells; the document's Same. -/
namespace Go.Proofs.Ythjgecdnlpdcdaa
set_option maxRecDepth 100000
open Go.RowKit
/-- A header's cells. -/
def ip4c (tos id : Int) (df : Bool) (ttl proto : Int) (s d : Nat → Int) (o : Value) : Array Value := #[.int .u8 tos, .int .u16 id, .bool df, .int .u8 ttl, .int .u8 proto, .int .u8 (s 0), .int .u8 (s 1), .int .u8 (s 2), .int .u8 (s 3), .int .u8 (s 4), .int .u8 (s 5), .int .u8 (s 6), .int .u8 (s 7), .int .u8 (s 8), .int .u8 (s 9), .int .u8 (s 10), .int .u8 (s 11), .int .u8 (s 12), .int .u8 (s 13), .int .u8 (s 14), .int .u8 (s 15), .int .u8 (d 0), .int .u8 (d 1), .int .u8 (d 2), .int .u8 (d 3), .int .u8 (d 4), .int .u8 (d 5), .int .u8 (d 6), .int .u8 (d 7), .int .u8 (d 8), .int .u8 (d 9), .int .u8 (d 10), .int .u8 (d 11), .int .u8 (d 12), .int .u8 (d 13), .int .u8 (d 14), .int .u8 (d 15), o]
theorem ip4_src {tos id : Int} {df : Bool} {ttl proto : Int} {s d : Nat → Int} {o : Value} (k : Nat) (hk : k < 16) : (ip4c tos id df ttl proto s d o)[5 + k]? = some (.int .u8 (s k)) := by
  match k, hk with
  | 0, _ => rfl
  | 1, _ => rfl
  | 2, _ => rfl
  | 3, _ => rfl
  | 4, _ => rfl
  | 5, _ => rfl
  | 6, _ => rfl
  | 7, _ => rfl
  | 8, _ => rfl
  | 9, _ => rfl
  | 10, _ => rfl
  | 11, _ => rfl
  | 12, _ => rfl
  | 13, _ => rfl
  | 14, _ => rfl
  | 15, _ => rfl
  | k + 16, h => exact absurd h (by omega)
theorem ip4_dst {tos id : Int} {df : Bool} {ttl proto : Int} {s d : Nat → Int} {o : Value} (k : Nat) (hk : k < 16) : (ip4c tos id df ttl proto s d o)[21 + k]? = some (.int .u8 (d k)) := by
  match k, hk with
  | 0, _ => rfl
  | 1, _ => rfl
  | 2, _ => rfl
  | 3, _ => rfl
  | 4, _ => rfl
  | 5, _ => rfl
  | 6, _ => rfl
  | 7, _ => rfl
  | 8, _ => rfl
  | 9, _ => rfl
  | 10, _ => rfl
  | 11, _ => rfl
  | 12, _ => rfl
  | 13, _ => rfl
  | 14, _ => rfl
  | 15, _ => rfl
  | k + 16, h => exact absurd h (by omega)
end Go.Proofs.Ythjgecdnlpdcdaa
/- The program's fits: whether an address is of four4 bytes. -/
namespace Go.Proofs.Ythjgecdnlpdcdaa
set_option maxRecDepth 100000
open Go.RowKit
def arr12 (f : Nat → Int) : Array Value := #[.int .u8 (f 0), .int .u8 (f 1), .int .u8 (f 2), .int .u8 (f 3), .int .u8 (f 4), .int .u8 (f 5), .int .u8 (f 6), .int .u8 (f 7), .int .u8 (f 8), .int .u8 (f 9), .int .u8 (f 10), .int .u8 (f 11)]
theorem arr12_get (f : Nat → Int) (k : Nat) (hk : k < 12) : (arr12 f)[k]? = some (.int .u8 (f k)) := by
  match k, hk with
  | 0, _ => rfl
  | 1, _ => rfl
  | 2, _ => rfl
  | 3, _ => rfl
  | 4, _ => rfl
  | 5, _ => rfl
  | 6, _ => rfl
  | 7, _ => rfl
  | 8, _ => rfl
  | 9, _ => rfl
  | 10, _ => rfl
  | 11, _ => rfl
  | k + 12, h => exact absurd h (by omega)
/-- Is an address of four4 bytes alone? -/
def fourA (s : Nat → Int) : Bool := eqs (fun k => s (4 + k)) (fun _ => 0) 0 12
theorem equal12 (x y : Nat → Int) (w : World) : (Op.equalIn 10000 66 (.agg (arr12 x)) (.agg (arr12 y))).run Try.prog w = .ok (eqs x y 0 12) w :=
  equal_bytes 9998 66 5 12 _ _ x y Try.underlying66 Try.underlying5 (by kernel_rfl) (fun k hk => arr12_get x k hk) (fun k hk => arr12_get y k hk) w
theorem arr12_range {w : World} {g i : Nat} {cs : Array Value} {t : TypeId} {f : Nat → Int} (h : w.heap[g]? = some (.cells cs t (0, 0))) (hf : ∀ k, k < 12 → cs[i + k]? = some (.int .u8 (f k))) : w.rangeAt g i (arr12 f).toList := fun j v hv => by
  have hj : j < 12 := (List.getElem?_eq_some_iff.1 hv).1
  rw [blk_cell h (i + j), hf j hj, ← hv, Array.getElem?_toList, arr12_get f j hj]
set_option maxHeartbeats 400000 in
theorem fits_any (s : Nat → Int) (w : World) : Calls Try.prog 29 #[.agg (arr16 s)] w fun e w' => e = .returned (.bool (fourA s)) ∧ Below w.heap.size w w' := by
  have b1 : (w.alloc (.cells (arr16 s) 22)).heap[w.heap.size]? = some (.cells (arr16 s) 22 (0, 0)) := heap_alloc_new w _
  have HR := Lib.hid (arr12_range (f := fun k => s (4 + k)) b1 (i := 4) fun k hk => arr16_get s (4 + k) (by omega))
  have hat : ∀ (a : Option Addr) (k : Nat) w, (Instr.arrayAt 66 (.slice a 12 k)).run Try.prog w = .ok (.pointer a) w := fun a k w => run_arrayAt w 66 _ 12 _ 12 k Try.underlying66 (Nat.le_refl _)
  have heq : ∀ W, (Op.equalIn 10000 66 (.agg (arr12 fun k => s (4 + k))) (.agg #[.int .u8 0, .int .u8 0, .int .u8 0, .int .u8 0, .int .u8 0, .int .u8 0, .int .u8 0, .int .u8 0, .int .u8 0, .int .u8 0, .int .u8 0, .int .u8 0])).run Try.prog W = .ok (fourA s) W := fun W => equal12 (fun k => s (4 + k)) (fun _ => 0) W
  clear b1
  obtain ⟨F, hF⟩ : ∃ F, F = fourA s := ⟨_, rfl⟩
  rw [← hF] at heq ⊢
  clear hF
  have hsz : (Try.prog.info? 66).map (·.size) = some (arr12 fun k => s (4 + k)).toList.length := by kernel_rfl
  generalize (arr12 fun k => s (4 + k)) = X at *
  have HS := Lib.hid hsz
  clear hsz
  go_enter Try.func29, Try.ntmps29
  go_wp2_with (first
    | (refine wpList_load_arr rfl 66 (.tmp 4) rfl w.heap.size 4 rfl X _ HR.out Try.underlying66 rfl HS.out ?_))
  go_ret
  exact ⟨rfl, below_alloc w _⟩
end Go.Proofs.Ythjgecdnlpdcdaa
/- The document's answers for layer 3: Options. -/
namespace Go.Proofs.Ythjgecdnlpdcdaa
set_option maxRecDepth 100000
open Go.RowKit
theorem optE_none {f : Nat → Int} {n : Nat} (h1 : n ≤ 40) (h2 : n % 4 = 0) (h : optK f n 0 = none) : optE f n = 5 := by
  unfold optE
  rw [if_neg (by omega), h]
theorem kinds_step {f : Nat → Int} {n a a' : Nat} {ks : List Int} (h : (optK f n a).map (ks ++ ·) = optK f n 0) (hs : optK f n a = (optK f n a').map (f a :: ·)) : (optK f n a').map ((ks ++ [f a]) ++ ·) = optK f n 0 := by
  rw [← h, hs, Option.map_map]
  congr 1
  funext l
  simp
end Go.Proofs.Ythjgecdnlpdcdaa
