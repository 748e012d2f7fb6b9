/- The document's answers for layer 4: sixteen. -/
import Derived.Test.YtankpbehahopgaaRI6s
import Derived.Laws.CopyOwn
import Derived.Laws.Tables
namespace Go.Proofs.Ytankpbehahopgaa
open Go.RowKit
theorem arr16_one (f : Nat → Int) : (arr16 f).all (·.oneCell') = true := by simp [arr16, Value.oneCell']
theorem arr16_set (f : Nat → Int) (v : Int) (k : Nat) (hk : k < 16) : (arr16 f).setIfInBounds k (.int .u8 v) = arr16 (fun j => if j = k then v else f j) := by
  match k, hk with
  | 0, _ => rfl
  | 1, _ => rfl
  | 2, _ => rfl
  | 3, _ => rfl
  | 4, _ => rfl
  | 5, _ => rfl
  | 6, _ => rfl
  | 7, _ => rfl
  | 8, _ => rfl
  | 9, _ => rfl
  | 10, _ => rfl
  | 11, _ => rfl
  | 12, _ => rfl
  | 13, _ => rfl
  | 14, _ => rfl
  | 15, _ => rfl
  | k + 16, h => exact absurd h (by omega)
theorem arr16_ext {f g : Nat → Int} (h : ∀ k, k < 16 → f k = g k) : arr16 f = arr16 g := by
  unfold arr16
  rw [h 0 (by omega), h 1 (by omega), h 2 (by omega), h 3 (by omega), h 4 (by omega), h 5 (by omega), h 6 (by omega), h 7 (by omega), h 8 (by omega), h 9 (by omega), h 10 (by omega), h 11 (by omega), h 12 (by omega), h 13 (by omega), h 14 (by omega), h 15 (by omega)]
/-- The first k of them. -/
def six (f : Nat → Int) (a k j : Nat) : Int := if j < k then f (a + j) else 0
theorem six_step (f : Nat → Int) (a k : Nat) (hk : k < 16) : (arr16 (six f a k)).setIfInBounds k (.int .u8 (f (a + k))) = arr16 (six f a (k + 1)) := by
  rw [arr16_set _ _ k hk]
  refine arr16_ext fun j _ => ?_
  unfold six
  by_cases h : j = k
  · subst h; rw [if_pos rfl, if_pos (by omega)]
  · rw [if_neg h]
    by_cases h2 : j < k
    · rw [if_pos h2, if_pos (by omega)]
    · rw [if_neg h2, if_neg (by omega)]
set_option maxHeartbeats 1000000 in
theorem rsixteen_any (b off n c a : Nat) (f : Nat → Int) (ha : a + 16 ≤ n) (hn : n ≤ 4611686018427387904) (w : World) (hb : b < w.heap.size) (hc : ∀ k, k < n → w.cell? ⟨b, off + k, none⟩ = some (.int .u8 (f k))) :
    Calls Try.prog 14 #[.slice (some ⟨b, off, none⟩) n c, .int .i64 (a : Int)] w fun e w' => e = .returned (.agg (arr16 fun k => f (a + k))) ∧ Below w.heap.size w w' := by
  have HC := Lib.hid hc
  clear hc
  have hb0 : Below w.heap.size w ((w.alloc (.cells (arr16 fun _ => 0) 23)).alloc (.cells (arr16 fun _ => 0) 23)) := below_alloc2 w _ _
  have e1 : (w.alloc (.cells (arr16 fun _ => 0) 23)).heap.size = w.heap.size + 1 := by simp
  have k0 : ((w.alloc (.cells (arr16 fun _ => 0) 23)).alloc (.cells (arr16 fun _ => 0) 23)).heap[w.heap.size]? = some (.cells (arr16 fun _ => 0) 23 (0, 0)) := blk_old (heap_alloc_new w _) _
  have k1 : ((w.alloc (.cells (arr16 fun _ => 0) 23)).alloc (.cells (arr16 fun _ => 0) 23)).heap[w.heap.size + 1]? = some (.cells (arr16 fun _ => 0) 23 (0, 0)) := by rw [← e1]; exact heap_alloc_new _ _
  have HK0 := Lib.hid k0
  have HK1 := Lib.hid k1
  have HB0 := Lib.hid hb0
  clear k0 k1 hb0 e1
  go_enter Try.func14, Try.ntmps14
  go_wp2
  change Code.wp _ _ _ _ ((w.alloc (.cells (arr16 fun _ => 0) 23)).alloc (.cells (arr16 fun _ => 0) 23))
  generalize (w.alloc (.cells (arr16 fun _ => 0) 23)).alloc (.cells (arr16 fun _ => 0) 23) = w1 at *
  go_loopw [6] (fun i wr => ∃ k : Nat, k ≤ 16 ∧ i = .int .i64 (k : Int) ∧ Hid (wr.heap[w.heap.size]? = some (.cells (arr16 fun _ => 0) 23 (0, 0))) ∧
    Hid (wr.heap[w.heap.size + 1]? = some (.cells (arr16 (six f a k)) 23 (0, 0))) ∧ Hid (Below w.heap.size w wr)) (fun i _ => 16 - (intOf i).toNat)
  case atStart => exact ⟨0, by omega, rfl, HK0, Lib.hid (by rw [HK1.out]; rfl), HB0⟩
  case round =>
    clear HK0 HK1 HB0
    obtain ⟨k, hk, rfl, HZ, HE, HB⟩ := hrel
    by_cases hlt : k < 16
    · have hx := (HB.out.cell (p := ⟨b, off + (a + k), none⟩) hb).trans (HC.out (a + k) (by omega))
      have hcx := (blk_cell HE.out k).trans (arr16_get _ k hlt)
      have hfx := blk_free HE.out k
      have HN : Hid ((wr.setCell ⟨w.heap.size + 1, k, none⟩ (.int .u8 (f (a + k)))).heap[w.heap.size + 1]? = some (.cells (arr16 (six f a (k + 1))) 23 (0, 0))) := by
        refine Lib.hid ?_
        rw [← six_step f a k hlt]
        exact blk_set HE.out k _
      have HN0 : Hid ((wr.setCell ⟨w.heap.size + 1, k, none⟩ (.int .u8 (f (a + k)))).heap[w.heap.size]? = some (.cells (arr16 fun _ => 0) 23 (0, 0))) :=
        Lib.hid (blk_far HZ.out (by simp) _)
      have HBN : Hid (Below w.heap.size w (wr.setCell ⟨w.heap.size + 1, k, none⟩ (.int .u8 (f (a + k))))) := HB.out.setCell (by simp) _
      have i0 : (k : Int) < 16 := by omega
      have i1 : (0 : Int) ≤ (k : Int) := by omega
      have i2 : IntKind.i64.wrap ((a : Int) + (k : Int)) = (a : Int) + (k : Int) := by rw [IntKind.wrap_i64]; omega
      have i3 : (0 : Int) ≤ (a : Int) + (k : Int) := by omega
      have i4 : (a : Int) + (k : Int) < (n : Int) := by omega
      have i5 : ((a : Int) + (k : Int)).toNat = a + k := by omega
      have i6 : ((k : Int)).toNat = k := by omega
      have i7 : IntKind.i64.wrap ((k : Int) + 1) = (k : Int) + 1 := by rw [IntKind.wrap_i64]; omega
      go_wp2
      go_roundw
      case rel => exact ⟨k + 1, by omega, by simp, HN0, HN, HBN⟩
      case measure => simp [intOf]; omega
    · obtain rfl : k = 16 := by omega
      clear hlt hk
      have e6 : arr16 (six f a 16) = arr16 fun k => f (a + k) := arr16_ext fun j hj => by unfold six; rw [if_pos hj]
      have HE' : Hid (wr.heap[w.heap.size + 1]? = some (.cells (arr16 fun k => f (a + k)) 23 (0, 0))) := by rw [← e6]; exact HE
      clear e6 HE
      go_wp2_with (first
        | (refine wpList_load_row rfl 23 (.tmp 5) rfl (w.heap.size + 1) rfl 23 (arr16 fun k => f (a + k)) (0, 0) _ HE'.out Try.underlying23 rfl (by kernel_rfl) ?_)
        | (refine wpList_store_row rfl 23 (.tmp 4) (.tmp 19) rfl w.heap.size (arr16 fun k => f (a + k)) rfl rfl 23 (arr16 fun _ => 0) HZ.out (by kernel_rfl) rfl (arr16_one _) ?_))
      have hz := setRow_heap wr w.heap.size _ (arr16 fun k => f (a + k)) _ _ HZ.out
      refine bodyPost_ret (v := .agg (arr16 fun k => f (a + k))) (results_cell_row Try.results14 _ _ w.heap.size 23 (arr16 fun k => f (a + k)) (0, 0) _ rfl hz Try.underlying23 rfl (by kernel_rfl)) rfl ⟨rfl, ?_⟩
      exact below_setRow HB.out (Nat.le_refl _) _
end Go.Proofs.Ytankpbehahopgaa
