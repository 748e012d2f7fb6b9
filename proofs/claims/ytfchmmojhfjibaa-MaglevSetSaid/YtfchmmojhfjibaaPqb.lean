/- Stage 18: the document's Of, May, Slots. -/
import Derived.Test.YtfchmmojhfjibaaPqa
import Derived.Test.YtfchmmojhfjibaaPmb
import Derived.Test.YtfchmmojhfjibaaHq
import Derived.Test.YtfchmmojhfjibaaGrow
import Derived.Test.YtfchmmojhfjibaaBlk
import Derived.Test.YtfchmmojhfjibaaRows
import Derived.KernelRfl
import Derived.Laws.StructEq
import Derived.Test.YtfchmmojhfjibaaBytes
import Derived.Laws.BitsAllLaws
import Derived.Deep.RegionHeld3
import Derived.Deep.MidRow
import Derived.Deep.CutRange
import Derived.StillTailTactics
import Derived.WalkLawsBesides
import Derived.IntWalk
import Derived.BigQuiet
import Derived.Laws.CopyOwn
import Derived.Laws.Tables
import Derived.Laws.IdiomCopy
import Derived.Laws.BytesArg
namespace Go.Proofs.Ytfchmmojhfjibaa
set_option maxRecDepth 100000
open Go.RowKit Go.Shelf
/-- The permutation of a name. -/
def peO (n : Nat) (f : Nat → Int) (m : Nat) : Nat := seedN 1 (nb f) n % m
def peK (n : Nat) (f : Nat → Int) (m : Nat) : Nat := 1 + seedN 2 (nb f) n % (m - 1)
noncomputable def peV (n : Nat) (f : Nat → Int) (m : Int) : Array Value := if szP m = true then #[.int .i64 (peO n f m.toNat : Int), .int .i64 (peK n f m.toNat : Int), .int .i64 m] else #[.int .i64 0, .int .i64 0, .int .i64 0]
noncomputable def peE (m : Int) : Int := if szP m = true then 0 else 2
theorem szP_int {m : Int} (h : szP m = true) : ∃ M : Nat, m = (M : Int) ∧ 7 ≤ M ∧ M ≤ 65537 ∧ ld M = M := by
  have h7 : 7 ≤ m := by
    unfold szP at h
    simp only [Bool.and_eq_true, decide_eq_true_eq] at h
    exact h.1
  obtain ⟨M, rfl⟩ := Int.eq_ofNat_of_zero_le (show 0 ≤ m by omega)
  exact ⟨M, rfl, (szP_le h).1, (szP_le h).2.1, (szP_le h).2.2⟩
set_option maxHeartbeats 2000000 in
theorem rof_any (n : Nat) (f : Nat → Int) (hf : Byt f) (hn : n ≤ 4611686018427387904) (m : Int) (w : World) : Calls Try.prog 29 #[.string (strOfNums (nums n f)), .int .i64 m] w (ret (.tuple #[.agg (peV n f m), .int .i64 (peE m)]) w) := by
  have HS := Lib.hid fun W => rsize_any m W
  have H1 : Hid (∀ W : World, Calls Try.prog 41 #[.int .u64 1, .string (strOfNums (nums n f))] W (ret (.int .u64 ((seedN 1 (nb f) n : Nat) : Int)) W)) := Lib.hid fun W => rname_any 1 (by decide) n f hf hn W
  have H2 : Hid (∀ W : World, Calls Try.prog 41 #[.int .u64 2, .string (strOfNums (nums n f))] W (ret (.int .u64 ((seedN 2 (nb f) n : Nat) : Int)) W)) := Lib.hid fun W => rname_any 2 (by decide) n f hf hn W
  have HZ : Hid ((w.alloc (.cells #[.int .i64 0, .int .i64 0, .int .i64 0] 50)).heap[w.heap.size]? = some (.cells #[.int .i64 0, .int .i64 0, .int .i64 0] 50 (0, 0))) := Lib.hid (heap_alloc_new w _)
  have HB : Hid (Below w.heap.size w (w.alloc (.cells #[.int .i64 0, .int .i64 0, .int .i64 0] 50))) := Lib.hid (below_alloc w _)
  obtain ⟨S, hS⟩ : ∃ S, S = strOfNums (nums n f) := ⟨_, rfl⟩
  rw [← hS] at H1 H2 ⊢
  clear hS
  cases hs : szP m with
  | false =>
    rw [hs] at HS
    have e1 : peV n f m = #[.int .i64 0, .int .i64 0, .int .i64 0] := by unfold peV; rw [hs]; rfl
    have e2 : peE m = 2 := by unfold peE; rw [hs]; rfl
    rw [e1, e2]
    clear e1 e2 hs hf
    go_enter Try.func29, Try.ntmps29
    go_upto_region 1 with fail
    change Code.wp _ _ _ _ (w.alloc (.cells #[.int .i64 0, .int .i64 0, .int .i64 0] 50))
    generalize w.alloc (.cells #[.int .i64 0, .int .i64 0, .int .i64 0] 50) = v at *
    go_upto_region 2 with (first
      | (go_at_call 22
         refine (HS.out _).mono ?_
         rintro e u ⟨rfl, hb⟩
         have HBu := Lib.hid (HB.out.trans (hb.mono HB.out.size))
         have HZu : Hid (u.heap[w.heap.size]? = some (.cells #[.int .i64 0, .int .i64 0, .int .i64 0] 50 (0, 0))) := Lib.hid ((hb.block _ (lt_heap HZ.out)).trans HZ.out)
         clear hb))
    go_wp2_with (first
      | (refine wpList_store_row rfl 50 (.tmp 4) (.tmp 10) rfl w.heap.size #[.int .i64 0, .int .i64 0, .int .i64 0] rfl rfl 50 #[.int .i64 0, .int .i64 0, .int .i64 0] HZu.out (by kernel_rfl) rfl (by simp [Value.oneCell']) ?_))
    refine bodyPost_ret (v := .tuple #[.agg #[.int .i64 0, .int .i64 0, .int .i64 0], .int .i64 2]) (results_rowa Try.results29 _ _ w.heap.size 50 #[.int .i64 0, .int .i64 0, .int .i64 0] (0, 0) _ rfl (setRow_heap _ w.heap.size _ #[.int .i64 0, .int .i64 0, .int .i64 0] _ _ HZu.out) Try.underlying50 rfl (by kernel_rfl)) rfl ?_
    exact ⟨rfl, below_setRow HBu.out (Nat.le_refl _) _⟩
  | true =>
    rw [hs] at HS
    obtain ⟨M, hm, h7, h9, _⟩ := szP_int hs
    obtain ⟨o, ho⟩ : ∃ o, o = peO n f M := ⟨_, rfl⟩
    obtain ⟨k, hk⟩ : ∃ k, k = seedN 2 (nb f) n % (M - 1) := ⟨_, rfl⟩
    have e1 : peV n f m = #[.int .i64 (o : Int), .int .i64 ((1 + k : Nat) : Int), .int .i64 (M : Int)] := by
      unfold peV
      rw [hs, if_pos rfl, hm, Int.toNat_natCast, ← ho, hk]
      rfl
    have e2 : peE m = 0 := by unfold peE; rw [hs]; rfl
    rw [e1, e2]
    subst hm
    have ho9 : o < M := by rw [ho]; exact Nat.mod_lt _ (by omega)
    have hk9 : k < M - 1 := by rw [hk]; exact Nat.mod_lt _ (by omega)
    obtain ⟨a, ha⟩ : ∃ a, a = seedN 1 (nb f) n := ⟨_, rfl⟩
    obtain ⟨b, hb⟩ : ∃ b, b = seedN 2 (nb f) n := ⟨_, rfl⟩
    unfold peO at ho
    rw [← ha] at H1 ho
    rw [← hb] at H2 hk
    obtain ⟨M1, hM1⟩ : ∃ M1, M1 = M - 1 := ⟨_, rfl⟩
    rw [← hM1] at hk hk9
    have z1 : IntKind.u64.wrap (M : Int) = (M : Int) := by rw [IntKind.wrap_u64]; omega
    have z2 : (a : Int) % (M : Int) = (o : Int) := by rw [ho, Int.natCast_emod]
    have z3 : IntKind.i64.wrap (o : Int) = (o : Int) := by rw [IntKind.wrap_i64]; omega
    have z4 : ¬ (M : Int) = 0 := by omega
    have y0 : IntKind.i64.wrap ((M : Int) - 1) = (M1 : Int) := by rw [IntKind.wrap_i64]; omega
    have y1 : IntKind.u64.wrap (M1 : Int) = (M1 : Int) := by rw [IntKind.wrap_u64]; omega
    have y2 : (b : Int) % (M1 : Int) = (k : Int) := by rw [hk, Int.natCast_emod]
    have y3 : IntKind.i64.wrap (k : Int) = (k : Int) := by rw [IntKind.wrap_i64]; omega
    have y4 : ¬ (M1 : Int) = 0 := by omega
    have y5 : IntKind.i64.wrap (1 + (k : Int)) = ((1 + k : Nat) : Int) := by rw [IntKind.wrap_i64]; omega
    obtain ⟨K, hK⟩ : ∃ K, K = 1 + k := ⟨_, rfl⟩
    rw [← hK] at y5 ⊢
    have hbd : ∀ W, (Instr.build 50 #[(2, .int .i64 (M : Int))]).run Try.prog W = .ok (.agg #[.int .i64 0, .int .i64 0, .int .i64 (M : Int)]) W := fun W => by kernel_rfl
    clear e1 e2 hs hf ha hb ho hk hK hM1
    go_enter Try.func29, Try.ntmps29
    go_upto_region 1 with fail
    change Code.wp _ _ _ _ (w.alloc (.cells #[.int .i64 0, .int .i64 0, .int .i64 0] 50))
    generalize w.alloc (.cells #[.int .i64 0, .int .i64 0, .int .i64 0] 50) = v at *
    go_upto_region 4 with (first
      | (go_at_call 22
         refine (HS.out _).mono ?_
         rintro e u ⟨rfl, hb⟩
         have HBu := Lib.hid (HB.out.trans (hb.mono HB.out.size))
         have HZu : Hid (u.heap[w.heap.size]? = some (.cells #[.int .i64 0, .int .i64 0, .int .i64 0] 50 (0, 0))) := Lib.hid ((hb.block _ (lt_heap HZ.out)).trans HZ.out)
         clear hb))
    have HM1 : Hid ((u.alloc (.cells #[.int .i64 0, .int .i64 0, .int .i64 (M : Int)] 50)).heap[u.heap.size]? = some (.cells #[.int .i64 0, .int .i64 0, .int .i64 (M : Int)] 50 (0, 0))) := Lib.hid (heap_alloc_new u _)
    have HB1 := Lib.hid (HBu.out.alloc HBu.out.size (.cells #[.int .i64 0, .int .i64 0, .int .i64 (M : Int)] 50))
    have HZ1 := Lib.hid (blk_old HZu.out (.cells #[.int .i64 0, .int .i64 0, .int .i64 (M : Int)] 50))
    have HBS : Hid (w.heap.size < u.heap.size) := Lib.hid (lt_heap HZu.out)
    obtain ⟨q, hq⟩ : ∃ q, q = u.heap.size := ⟨_, rfl⟩
    rw [← hq] at HM1 HBS ⊢
    generalize u.alloc (.cells #[.int .i64 0, .int .i64 0, .int .i64 (M : Int)] 50) = u1 at *
    clear hq HZu HBu HZ HB
    go_upto_region 5 with (first
      | (go_at_call 41
         refine (H1.out _).mono ?_
         rintro e v1 ⟨rfl, hb⟩
         have HM2 := Lib.hid ((hb.block q (lt_heap HM1.out)).trans HM1.out)
         have HZ2 := Lib.hid ((hb.block _ (lt_heap HZ1.out)).trans HZ1.out)
         have HB2 := Lib.hid (HB1.out.trans (hb.mono HB1.out.size))
         have x0 := blk_cell HM2.out 0
         have f0 := blk_free HM2.out 0
         clear hb))
    have HM3 := Lib.hid (blk_set HM2.out 0 (.int .i64 (o : Int)))
    have HZ3 := Lib.hid ((Below.heap_setCell v1 ⟨q, 0, none⟩ (.int .i64 (o : Int)) w.heap.size (by have := HBS.out; show w.heap.size ≠ q; omega)).trans HZ2.out)
    have HB3 := Lib.hid (HB2.out.setCell (p := ⟨q, 0, none⟩) (by have := HBS.out; show w.heap.size ≤ q; omega) (.int .i64 (o : Int)))
    clear x0 f0 HM1 HZ1 HB1
    generalize v1.setCell ⟨q, 0, none⟩ (.int .i64 (o : Int)) = u2 at *
    go_upto_region 6 with (first
      | (go_at_call 41
         refine (H2.out _).mono ?_
         rintro e v2 ⟨rfl, hb⟩
         have HM4 := Lib.hid ((hb.block q (lt_heap HM3.out)).trans HM3.out)
         have HZ4 := Lib.hid ((hb.block _ (lt_heap HZ3.out)).trans HZ3.out)
         have HB4 := Lib.hid (HB3.out.trans (hb.mono HB3.out.size))
         have x1 := blk_cell HM4.out 1
         have f1 := blk_free HM4.out 1
         clear hb))
    have HM5 : Hid ((v2.setCell ⟨q, 1, none⟩ (.int .i64 (K : Int))).heap[q]? = some (.cells #[.int .i64 (o : Int), .int .i64 (K : Int), .int .i64 (M : Int)] 50 (0, 0))) := Lib.hid (blk_set HM4.out 1 (.int .i64 (K : Int)))
    have HZ5 := Lib.hid ((Below.heap_setCell v2 ⟨q, 1, none⟩ (.int .i64 (K : Int)) w.heap.size (by have := HBS.out; show w.heap.size ≠ q; omega)).trans HZ4.out)
    have HB5 := Lib.hid (HB4.out.setCell (p := ⟨q, 1, none⟩) (by have := HBS.out; show w.heap.size ≤ q; omega) (.int .i64 (K : Int)))
    clear x1 f1 HM2 HZ2 HB2 HM3 HZ3 HB3 HM4 HZ4 HB4
    generalize v2.setCell ⟨q, 1, none⟩ (.int .i64 (K : Int)) = u3 at *
    have x0 := blk_cell HM5.out 0
    have x1 := blk_cell HM5.out 1
    have x2 := blk_cell HM5.out 2
    go_wp2_with (first
      | (refine wpList_store_row rfl 50 (.tmp 4) (.tmp 29) rfl w.heap.size #[.int .i64 (o : Int), .int .i64 (K : Int), .int .i64 (M : Int)] rfl rfl 50 #[.int .i64 0, .int .i64 0, .int .i64 0] HZ5.out (by kernel_rfl) rfl (by simp [Value.oneCell']) ?_))
    refine bodyPost_ret (v := .tuple #[.agg #[.int .i64 (o : Int), .int .i64 (K : Int), .int .i64 (M : Int)], .int .i64 0]) (results_rowa Try.results29 _ _ w.heap.size 50 #[.int .i64 (o : Int), .int .i64 (K : Int), .int .i64 (M : Int)] (0, 0) _ rfl (setRow_heap _ w.heap.size _ #[.int .i64 (o : Int), .int .i64 (K : Int), .int .i64 (M : Int)] _ _ HZ5.out) Try.underlying50 rfl (by kernel_rfl)) rfl ?_
    exact ⟨rfl, below_setRow HB5.out (Nat.le_refl _) _⟩
end Go.Proofs.Ytfchmmojhfjibaa
