import Derived.Test.YtlchegibfopglaaK1
import Derived.Test.YtlchegibfopglaaK10
import Derived.Laws.BytesArg
import Derived.Deep.MidRow
import Derived.Laws.CopyOwn
import Derived.Laws.Tables
import Derived.Test.YtlchegibfopglaaK0
/- An IPv6 header's cells; the document's Same. -/
namespace Go.Proofs.Ytlchegibfopglaa
set_option maxRecDepth 100000
open Go.RowKit
/-- A header's cells. -/
def ip6c (cls lab next proto hops : Int) (s d : Nat → Int) (o : Value) : Array Value := #[.int .u8 cls, .int .u32 lab, .int .u8 next, .int .u8 proto, .int .u8 hops, .int .u8 (s 0), .int .u8 (s 1), .int .u8 (s 2), .int .u8 (s 3), .int .u8 (s 4), .int .u8 (s 5), .int .u8 (s 6), .int .u8 (s 7), .int .u8 (s 8), .int .u8 (s 9), .int .u8 (s 10), .int .u8 (s 11), .int .u8 (s 12), .int .u8 (s 13), .int .u8 (s 14), .int .u8 (s 15), .int .u8 (d 0), .int .u8 (d 1), .int .u8 (d 2), .int .u8 (d 3), .int .u8 (d 4), .int .u8 (d 5), .int .u8 (d 6), .int .u8 (d 7), .int .u8 (d 8), .int .u8 (d 9), .int .u8 (d 10), .int .u8 (d 11), .int .u8 (d 12), .int .u8 (d 13), .int .u8 (d 14), .int .u8 (d 15), o]
theorem ip6_src {cls lab next proto hops : Int} {s d : Nat → Int} {o : Value} (k : Nat) (hk : k < 16) : (ip6c cls lab next proto hops s d o)[5 + k]? = some (.int .u8 (s k)) := by
  match k, hk with
  | 0, _ => rfl
  | 1, _ => rfl
  | 2, _ => rfl
  | 3, _ => rfl
  | 4, _ => rfl
  | 5, _ => rfl
  | 6, _ => rfl
  | 7, _ => rfl
  | 8, _ => rfl
  | 9, _ => rfl
  | 10, _ => rfl
  | 11, _ => rfl
  | 12, _ => rfl
  | 13, _ => rfl
  | 14, _ => rfl
  | 15, _ => rfl
  | k + 16, h => exact absurd h (by omega)
theorem ip6_dst {cls lab next proto hops : Int} {s d : Nat → Int} {o : Value} (k : Nat) (hk : k < 16) : (ip6c cls lab next proto hops s d o)[21 + k]? = some (.int .u8 (d k)) := by
  match k, hk with
  | 0, _ => rfl
  | 1, _ => rfl
  | 2, _ => rfl
  | 3, _ => rfl
  | 4, _ => rfl
  | 5, _ => rfl
  | 6, _ => rfl
  | 7, _ => rfl
  | 8, _ => rfl
  | 9, _ => rfl
  | 10, _ => rfl
  | 11, _ => rfl
  | 12, _ => rfl
  | 13, _ => rfl
  | 14, _ => rfl
  | 15, _ => rfl
  | k + 16, h => exact absurd h (by omega)
end Go.Proofs.Ytlchegibfopglaa
/- The document's answers for layer 4: sixteen. -/
namespace Go.Proofs.Ytlchegibfopglaa
set_option maxRecDepth 100000
open Go.RowKit
/-- The first k of them. -/
def six (f : Nat → Int) (a k j : Nat) : Int := if j < k then f (a + j) else 0
theorem six_step (f : Nat → Int) (a k : Nat) (hk : k < 16) : (arr16 (six f a k)).setIfInBounds k (.int .u8 (f (a + k))) = arr16 (six f a (k + 1)) := by
  rw [arr16_set _ _ k hk]
  refine arr16_ext fun j _ => ?_
  unfold six
  by_cases h : j = k
  · subst h; rw [if_pos rfl, if_pos (by omega)]
  · rw [if_neg h]
    by_cases h2 : j < k
    · rw [if_pos h2, if_pos (by omega)]
    · rw [if_neg h2, if_neg (by omega)]
set_option maxHeartbeats 1000000 in
theorem rsixteen_any (b off n c a : Nat) (f : Nat → Int) (ha : a + 16 ≤ n) (hn : n ≤ 4611686018427387904) (w : World) (hb : b < w.heap.size) (hc : ∀ k, k < n → w.cell? ⟨b, off + k, none⟩ = some (.int .u8 (f k))) :
    Calls Try.prog 45 #[.slice (some ⟨b, off, none⟩) n c, .int .i64 (a : Int)] w fun e w' => e = .returned (.agg (arr16 fun k => f (a + k))) ∧ Below w.heap.size w w' := by
  have HC := Lib.hid hc
  clear hc
  have hb0 : Below w.heap.size w ((w.alloc (.cells (arr16 fun _ => 0) 23)).alloc (.cells (arr16 fun _ => 0) 23)) := below_alloc2 w _ _
  have e1 : (w.alloc (.cells (arr16 fun _ => 0) 23)).heap.size = w.heap.size + 1 := by simp
  have k0 : ((w.alloc (.cells (arr16 fun _ => 0) 23)).alloc (.cells (arr16 fun _ => 0) 23)).heap[w.heap.size]? = some (.cells (arr16 fun _ => 0) 23 (0, 0)) := blk_old (heap_alloc_new w _) _
  have k1 : ((w.alloc (.cells (arr16 fun _ => 0) 23)).alloc (.cells (arr16 fun _ => 0) 23)).heap[w.heap.size + 1]? = some (.cells (arr16 fun _ => 0) 23 (0, 0)) := by rw [← e1]; exact heap_alloc_new _ _
  have HK0 := Lib.hid k0
  have HK1 := Lib.hid k1
  have HB0 := Lib.hid hb0
  clear k0 k1 hb0 e1
  go_enter Try.func45, Try.ntmps45
  go_wp2
  change Code.wp _ _ _ _ ((w.alloc (.cells (arr16 fun _ => 0) 23)).alloc (.cells (arr16 fun _ => 0) 23))
  generalize (w.alloc (.cells (arr16 fun _ => 0) 23)).alloc (.cells (arr16 fun _ => 0) 23) = w1 at *
  go_loopw [6] (fun i wr => ∃ k : Nat, k ≤ 16 ∧ i = .int .i64 (k : Int) ∧ Hid (wr.heap[w.heap.size]? = some (.cells (arr16 fun _ => 0) 23 (0, 0))) ∧
    Hid (wr.heap[w.heap.size + 1]? = some (.cells (arr16 (six f a k)) 23 (0, 0))) ∧ Hid (Below w.heap.size w wr)) (fun i _ => 16 - (intOf i).toNat)
  case atStart => exact ⟨0, by omega, rfl, HK0, Lib.hid (by rw [HK1.out]; rfl), HB0⟩
  case round =>
    clear HK0 HK1 HB0
    obtain ⟨k, hk, rfl, HZ, HE, HB⟩ := hrel
    by_cases hlt : k < 16
    · have hx := (HB.out.cell (p := ⟨b, off + (a + k), none⟩) hb).trans (HC.out (a + k) (by omega))
      have hcx := (blk_cell HE.out k).trans (arr16_get _ k hlt)
      have hfx := blk_free HE.out k
      have HN : Hid ((wr.setCell ⟨w.heap.size + 1, k, none⟩ (.int .u8 (f (a + k)))).heap[w.heap.size + 1]? = some (.cells (arr16 (six f a (k + 1))) 23 (0, 0))) := by
        refine Lib.hid ?_
        rw [← six_step f a k hlt]
        exact blk_set HE.out k _
      have HN0 : Hid ((wr.setCell ⟨w.heap.size + 1, k, none⟩ (.int .u8 (f (a + k)))).heap[w.heap.size]? = some (.cells (arr16 fun _ => 0) 23 (0, 0))) :=
        Lib.hid (blk_far HZ.out (by simp) _)
      have HBN : Hid (Below w.heap.size w (wr.setCell ⟨w.heap.size + 1, k, none⟩ (.int .u8 (f (a + k))))) := HB.out.setCell (by simp) _
      have i0 : (k : Int) < 16 := by omega
      have i1 : (0 : Int) ≤ (k : Int) := by omega
      have i2 : IntKind.i64.wrap ((a : Int) + (k : Int)) = (a : Int) + (k : Int) := by rw [IntKind.wrap_i64]; omega
      have i3 : (0 : Int) ≤ (a : Int) + (k : Int) := by omega
      have i4 : (a : Int) + (k : Int) < (n : Int) := by omega
      have i5 : ((a : Int) + (k : Int)).toNat = a + k := by omega
      have i6 : ((k : Int)).toNat = k := by omega
      have i7 : IntKind.i64.wrap ((k : Int) + 1) = (k : Int) + 1 := by rw [IntKind.wrap_i64]; omega
      go_wp2
      go_roundw
      case rel => exact ⟨k + 1, by omega, by simp, HN0, HN, HBN⟩
      case measure => simp [intOf]; omega
    · obtain rfl : k = 16 := by omega
      clear hlt hk
      have e6 : arr16 (six f a 16) = arr16 fun k => f (a + k) := arr16_ext fun j hj => by unfold six; rw [if_pos hj]
      have HE' : Hid (wr.heap[w.heap.size + 1]? = some (.cells (arr16 fun k => f (a + k)) 23 (0, 0))) := by rw [← e6]; exact HE
      clear e6 HE
      go_wp2_with (first
        | (refine wpList_load_row rfl 23 (.tmp 5) rfl (w.heap.size + 1) rfl 23 (arr16 fun k => f (a + k)) (0, 0) _ HE'.out Try.underlying23 rfl (by kernel_rfl) ?_)
        | (refine wpList_store_row rfl 23 (.tmp 4) (.tmp 19) rfl w.heap.size (arr16 fun k => f (a + k)) rfl rfl 23 (arr16 fun _ => 0) HZ.out (by kernel_rfl) rfl (arr16_one _) ?_))
      have hz := setRow_heap wr w.heap.size _ (arr16 fun k => f (a + k)) _ _ HZ.out
      refine bodyPost_ret (v := .agg (arr16 fun k => f (a + k))) (results_cell_row Try.results45 _ _ w.heap.size 23 (arr16 fun k => f (a + k)) (0, 0) _ rfl hz Try.underlying23 rfl (by kernel_rfl)) rfl ⟨rfl, ?_⟩
      exact below_setRow HB.out (Nat.le_refl _) _
end Go.Proofs.Ytlchegibfopglaa
/- Layer 4: a header's block, its address laid in; slices of the call's own beside it; slices cut by numbers. -/
namespace Go.Proofs.Ytlchegibfopglaa
set_option maxRecDepth 100000
open Go.RowKit
def ip6z : Array Value := ip6c 0 0 0 0 0 (fun _ => 0) (fun _ => 0) (.slice none 0 0)
theorem ip6_one (cls lab next proto hops : Int) (s d : Nat → Int) (O : Option Addr) (on co : Nat) : (ip6c cls lab next proto hops s d (.slice O on co)).all (·.oneCell') = true := by simp [ip6c, Value.oneCell']
theorem ip6z_one : ip6z.all (·.oneCell') = true := ip6_one ..
theorem laid_src (cls lab next proto hops : Int) (s s' d : Nat → Int) (o : Value) : laid (ip6c cls lab next proto hops s d o) 5 (arr16 s').toList = ip6c cls lab next proto hops s' d o := by
  unfold ip6c arr16
  simp only [laid, List.setIfInBounds_toArray, List.set_cons_succ, List.set_cons_zero, Nat.reduceAdd]
theorem laid_dst (cls lab next proto hops : Int) (s d d' : Nat → Int) (o : Value) : laid (ip6c cls lab next proto hops s d o) 21 (arr16 d').toList = ip6c cls lab next proto hops s d' o := by
  unfold ip6c arr16
  simp only [laid, List.setIfInBounds_toArray, List.set_cons_succ, List.set_cons_zero, Nat.reduceAdd]
def newF (w : World) : Fact := fun v W => ∃ q, v = .pointer (some ⟨q, 0, none⟩) ∧ W.heap[q]? = some (.cells ip6z 75 (0, 0)) ∧ w.heap.size ≤ q
theorem stb_new (w : World) : Stb (newF w) := fun _ _ _ ⟨q, h, hq, hl⟩ hb => ⟨q, h, (hb.block _ (lt_heap hq)).trans hq, hl⟩
/-- Read's own memory: the result that is told, the header so far, its chain. -/
structure RdS (w W : World) (q : Nat) (cs : Array Value) (O : Option Addr) (n co : Nat) (fo : Nat → Int) : Prop where
  res : W.heap[w.heap.size]? = some (.cells ip6z 75 (0, 0))
  hd : W.heap[q]? = some (.cells cs 75 (0, 0))
  own : Own W w.heap.size 5 O n co fo
  below : Below w.heap.size w W
  lt : w.heap.size < q
theorem RdS.step {w W W' : World} {q : Nat} {cs : Array Value} {O : Option Addr} {n co : Nat} {fo : Nat → Int} (h : RdS w W q cs O n co fo) (hb : Below W.heap.size W W') : RdS w W' q cs O n co fo :=
  ⟨(hb.block _ (lt_heap h.res)).trans h.res, (hb.block _ (lt_heap h.hd)).trans h.hd, h.own.below hb, h.below.trans (hb.mono h.below.size), h.lt⟩
end Go.Proofs.Ytlchegibfopglaa
