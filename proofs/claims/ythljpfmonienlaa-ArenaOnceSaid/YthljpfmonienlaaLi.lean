/- Stage 9: an arena that is not there, or was not made. -/
import Derived.Test.YthljpfmonienlaaLh
import Derived.Test.YthljpfmonienlaaRn
import Derived.Test.YthljpfmonienlaaRk
namespace Go.Proofs.Ythljpfmonienlaa
set_option maxRecDepth 100000
open Go.RowKit Go.Shelf
theorem ptake_0 (w : World) (pa : Option Addr) (hs : ∀ W, Below w.heap.size w W → Calls Try.prog 19 #[.pointer pa] W (ret (.int .i64 0) W)) : Calls Try.prog 9 #[.pointer pa] w (ret (.tuple #[.agg #[.int .i64 0, .int .u64 0], .int .i64 1]) w) := by
  have HS := Lib.hid hs
  have HZ : Hid ((w.alloc (.cells #[.int .i64 0, .int .u64 0] 32)).heap[w.heap.size]? = some (.cells #[.int .i64 0, .int .u64 0] 32 (0, 0))) := Lib.hid (heap_alloc_new w _)
  have HB : Hid (Below w.heap.size w (w.alloc (.cells #[.int .i64 0, .int .u64 0] 32))) := Lib.hid (below_alloc w _)
  clear hs
  go_enter Try.func9, Try.ntmps9
  go_upto_region 1 with fail
  change Code.wp _ _ _ _ (w.alloc (.cells #[.int .i64 0, .int .u64 0] 32))
  generalize w.alloc (.cells #[.int .i64 0, .int .u64 0] 32) = u1 at *
  go_upto_region 2 with (first
    | (go_at_call 19
       refine (HS.out _ HB.out).mono ?_
       rintro e u ⟨rfl, hb⟩
       have HBu := Lib.hid (HB.out.trans (hb.mono HB.out.size))
       have HZu : Hid (u.heap[w.heap.size]? = some (.cells #[.int .i64 0, .int .u64 0] 32 (0, 0))) := Lib.hid ((hb.block _ (lt_heap HZ.out)).trans HZ.out)
       clear hb))
  go_wp2_with (first
    | (refine wpList_store_row rfl 32 (.tmp 2) (.tmp 8) rfl w.heap.size #[.int .i64 0, .int .u64 0] rfl rfl 32 #[.int .i64 0, .int .u64 0] HZu.out (by kernel_rfl) rfl (by simp [Value.oneCell']) ?_))
  refine bodyPost_ret (v := .tuple #[.agg #[.int .i64 0, .int .u64 0], .int .i64 1]) (results_rowa Try.results9 _ _ w.heap.size 32 #[.int .i64 0, .int .u64 0] (0, 0) _ rfl (setRow_heap _ w.heap.size _ #[.int .i64 0, .int .u64 0] _ _ HZu.out) Try.underlying32 rfl (by kernel_rfl)) rfl ?_
  exact ⟨rfl, below_setRow HBu.out (Nat.le_refl _) _⟩
theorem pfree_0 (w : World) (pa : Option Addr) (i : Int) (k : Nat) (hs : ∀ W, Below w.heap.size w W → Calls Try.prog 19 #[.pointer pa] W (ret (.int .i64 0) W)) : Calls Try.prog 11 #[.pointer pa, .agg #[.int .i64 i, .int .u64 (k : Int)]] w (ret (.int .i64 1) w) := by
  have HS := Lib.hid hs
  have HB : Hid (Below w.heap.size w (w.alloc (.cells #[.int .i64 i, .int .u64 (k : Int)] 32))) := Lib.hid (below_alloc w _)
  clear hs
  go_enter Try.func11, Try.ntmps11
  go_upto_region 1 with fail
  change Code.wp _ _ _ _ (w.alloc (.cells #[.int .i64 i, .int .u64 (k : Int)] 32))
  generalize w.alloc (.cells #[.int .i64 i, .int .u64 (k : Int)] 32) = u1 at *
  go_upto_region 2 with (first
    | (go_at_call 19
       refine (HS.out _ HB.out).mono ?_
       rintro e u ⟨rfl, hb⟩
       have HBu := Lib.hid (HB.out.trans (hb.mono HB.out.size))
       clear hb))
  go_wp2_with fail
  go_ret
  exact ⟨rfl, HBu.out⟩
theorem pcopy_0 (w : World) (pa : Option Addr) (hs : ∀ W, Below w.heap.size w W → Calls Try.prog 19 #[.pointer pa] W (ret (.int .i64 0) W)) : Calls Try.prog 14 #[.pointer pa] w (ret (.pointer none) w) := by
  have HS := Lib.hid (hs w (Below.refl _ _))
  clear hs
  go_enter Try.func14, Try.ntmps14
  go_upto_region 2 with (first
    | (go_at_call 19
       refine HS.out.mono ?_
       rintro e u ⟨rfl, hb⟩
       have HBu := Lib.hid hb
       clear hb))
  go_wp2_with fail
  go_ret
  exact ⟨rfl, HBu.out⟩
theorem pnoneC (u W : World) (pa : Option Addr) (hW : Below u.heap.size u W) (hp : pa = none ∨ ∃ z, pa = some ⟨z, 0, none⟩ ∧ u.heap[z]? = some (.cells #[.slice none 0 0, .int .i64 0, .int .i64 0, .int .i64 0, .int .u64 0] 53 (0, 0))) : NoneC 27 pa W u.heap.size := by
  have hS : ∀ V, Kept (fun k => u.heap.size ≤ k) u V → Calls Try.prog 19 #[.pointer pa] V (ret (.int .i64 0) V) := fun V hV => by
    rcases hp with rfl | ⟨z, rfl, hz⟩
    · exact psize_0 V
    · have hzl := lt_heap hz
      exact psize_c V z none 0 0 (blk_cell ((hV.block z hzl (by omega)).trans hz) 0)
  have hK : ∀ V, Below W.heap.size W V → Kept (fun k => u.heap.size ≤ k) u V := fun V hV => Kept.of_below (hW.trans (hV.mono hW.size)) _
  have hS' : ∀ V, Below W.heap.size W V → Calls Try.prog 19 #[.pointer pa] V (ret (.int .i64 0) V) := fun V hV => hS V (hK V hV)
  have hA : ∀ V, Below W.heap.size W V → ∀ i : Int, Calls Try.prog 13 #[.pointer pa, .int .i64 i] V (ret (.tuple #[.agg #[.int .i64 0, .int .u64 0], .bool false]) V) := fun V hV i => by
    rcases Int.lt_or_le i 0 with h | h
    · exact patG_neg V pa i h
    · exact patG_out V pa 0 (fun X hX => hS' X (hV.trans (hX.mono hV.size))) i h (by omega)
  refine ⟨ptake_0 W pa hS', hA W (Below.refl _ _), fun i k => pfree_0 W pa i k hS', fun i k => pliveG_no W pa i k fun V hV => hA V hV i, ?_, hS' W (Below.refl _ _), pcopy_0 W pa hS', fun B hB => ?_⟩
  · rcases hp with rfl | ⟨z, rfl, hz⟩
    · exact plen_0 W
    · exact plen_c W z 0 (blk_cell ((hW.block z (lt_heap hz)).trans hz) 3)
  · refine (pall_any W pa).mono ?_
    rintro e W' ⟨rfl, rfl⟩
    have hb : Below W.heap.size W (W.alloc (.cells #[.pointer pa] 24)) := below_alloc W _
    have hz9 : (W.alloc (.cells #[.pointer pa] 24)).heap.size = W.heap.size + 1 := by simp
    have hWs := hW.size
    refine ⟨_, fun k => k < u.heap.size ∨ k = W.heap.size, rfl, hb, fun k hk => ?_, fun R hR => ?_⟩
    · rcases hk with hk | hk
      · omega
      · omega
    · have hSR : ∀ V, Kept R (W.alloc (.cells #[.pointer pa] 24)) V → Calls Try.prog 19 #[.pointer pa] V (ret (.int .i64 0) V) := fun V hV => hS V ⟨hV.os.trans (hb.os.trans hW.os), hV.tape.trans (hb.tape.trans hW.tape), hV.output.trans (hb.output.trans hW.output), Nat.le_trans (Nat.le_trans hWs hb.size) hV.size, fun k hk _ => (hV.block k (by omega) (hR k (.inl hk))).trans ((hb.block k (by omega)).trans (hW.block k hk))⟩
      exact piter_any (W.alloc (.cells #[.pointer pa] 24)) pa R W.heap.size 0 (by omega) (hR _ (.inr rfl)) (by omega) (blk_cell (heap_alloc_new W _) 0) (fun _ => []) (fun _ => 0) rfl (fun _ => rfl) (fun _ _ => List.prefix_rfl) hSR (fun V hV j hj => absurd hj (by omega))
/-- The page's examples. -/
theorem known_p (w : World) : Calls Try.prog 6 #[] w fun e w' => e = .returned (.bool true) ∧ Below w.heap.size w w' :=
  known_a pArC (fun w => (pnew_st w 3 (by omega) (by omega)).mono fun e w' ⟨p, F, he, hp, hF, hb⟩ => ⟨p, he, F, hp, fun k hk => ⟨hF k hk, fun h => h⟩, fun k h => h.elim, hb⟩) w
theorem none_p (hi : Int) (hk : Nat) (i : Int) (w : World) : Calls Try.prog 5 #[.agg #[.int .i64 hi, .int .u64 (hk : Int)], .int .i64 i] w (ret (.bool true) w) :=
  none_any 27 (fun args w => enters_of Try.func27 (by kernel_rfl) rfl args w) pnoneC (fun W => known_p W) hi hk i w
end Go.Proofs.Ythljpfmonienlaa
