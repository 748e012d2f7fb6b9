/- Stage 18: the landed Of. -/
import Derived.Test.YtfchmmojhfjibaaPqx
namespace Go.Proofs.Ytfchmmojhfjibaa
set_option maxRecDepth 100000
open Go.RowKit Go.Shelf
set_option maxHeartbeats 2000000 in
theorem peof_any (n : Nat) (f : Nat → Int) (hf : Byt f) (hn : n ≤ 4611686018427387904) (m : Int) (w : World) : Calls Try.prog 40 #[.string (strOfNums (nums n f)), .int .i64 m] w (ret (.tuple #[.agg (peV n f m), .int .i64 (peE m)]) w) := by
  have HS := Lib.hid fun W => pmP.size m W
  have H1 : Hid (∀ W : World, Calls Try.prog 52 #[.int .u64 1, .string (strOfNums (nums n f))] W (ret (.int .u64 ((seedN 1 (nb f) n : Nat) : Int)) W)) := Lib.hid fun W => name_any 1 (by decide) n f hf hn W
  have H2 : Hid (∀ W : World, Calls Try.prog 52 #[.int .u64 2, .string (strOfNums (nums n f))] W (ret (.int .u64 ((seedN 2 (nb f) n : Nat) : Int)) W)) := Lib.hid fun W => name_any 2 (by decide) n f hf hn W
  have HZ : Hid ((w.alloc (.cells #[.int .i64 0, .int .i64 0, .int .i64 0] 50)).heap[w.heap.size]? = some (.cells #[.int .i64 0, .int .i64 0, .int .i64 0] 50 (0, 0))) := Lib.hid (heap_alloc_new w _)
  have HB : Hid (Below w.heap.size w (w.alloc (.cells #[.int .i64 0, .int .i64 0, .int .i64 0] 50))) := Lib.hid (below_alloc w _)
  obtain ⟨S, hS⟩ : ∃ S, S = strOfNums (nums n f) := ⟨_, rfl⟩
  rw [← hS] at H1 H2 ⊢
  clear hS
  cases hs : szP m with
  | false =>
    rw [hs] at HS
    have e1 : peV n f m = #[.int .i64 0, .int .i64 0, .int .i64 0] := by unfold peV; rw [hs]; rfl
    have e2 : peE m = 2 := by unfold peE; rw [hs]; rfl
    rw [e1, e2]
    clear e1 e2 hs hf
    go_enter Try.func40, Try.ntmps40
    go_upto_region 1 with fail
    change Code.wp _ _ _ _ (w.alloc (.cells #[.int .i64 0, .int .i64 0, .int .i64 0] 50))
    generalize w.alloc (.cells #[.int .i64 0, .int .i64 0, .int .i64 0] 50) = v at *
    go_upto_region 2 with (first
      | (go_at_call 19
         refine (HS.out _).mono ?_
         rintro e u ⟨rfl, hb⟩
         have HBu := Lib.hid (HB.out.trans (hb.mono HB.out.size))
         have HZu : Hid (u.heap[w.heap.size]? = some (.cells #[.int .i64 0, .int .i64 0, .int .i64 0] 50 (0, 0))) := Lib.hid ((hb.block _ (lt_heap HZ.out)).trans HZ.out)
         clear hb))
    go_wp2_with (first
      | (refine wpList_store_row rfl 50 (.tmp 4) (.tmp 9) rfl w.heap.size #[.int .i64 0, .int .i64 0, .int .i64 0] rfl rfl 50 #[.int .i64 0, .int .i64 0, .int .i64 0] HZu.out (by kernel_rfl) rfl (by simp [Value.oneCell']) ?_))
    refine bodyPost_ret (v := .tuple #[.agg #[.int .i64 0, .int .i64 0, .int .i64 0], .int .i64 2]) (results_rowa Try.results40 _ _ w.heap.size 50 #[.int .i64 0, .int .i64 0, .int .i64 0] (0, 0) _ rfl (setRow_heap _ w.heap.size _ #[.int .i64 0, .int .i64 0, .int .i64 0] _ _ HZu.out) Try.underlying50 rfl (by kernel_rfl)) rfl ?_
    exact ⟨rfl, below_setRow HBu.out (Nat.le_refl _) _⟩
  | true =>
    rw [hs] at HS
    obtain ⟨M, hm, h7, h9, _⟩ := szP_int hs
    obtain ⟨a, ha⟩ : ∃ a, a = seedN 1 (nb f) n := ⟨_, rfl⟩
    obtain ⟨b, hb⟩ : ∃ b, b = seedN 2 (nb f) n := ⟨_, rfl⟩
    rw [← ha] at H1
    rw [← hb] at H2
    obtain ⟨M1, hM1⟩ : ∃ M1, M1 = M - 1 := ⟨_, rfl⟩
    have HW1 : Hid (∀ W : World, Calls Try.prog 51 #[.int .u64 (a : Int), .int .i64 (M : Int)] W (ret (.int .i64 ((a % M : Nat) : Int)) W)) := Lib.hid fun W => pbelow_any a M (by omega) h9 W
    have HW2 : Hid (∀ W : World, Calls Try.prog 51 #[.int .u64 (b : Int), .int .i64 (M1 : Int)] W (ret (.int .i64 ((b % M1 : Nat) : Int)) W)) := Lib.hid fun W => pbelow_any b M1 (by omega) (by omega) W
    obtain ⟨o, ho⟩ : ∃ o, o = a % M := ⟨_, rfl⟩
    obtain ⟨k, hk⟩ : ∃ k, k = b % M1 := ⟨_, rfl⟩
    have hk9 : k < M1 := by rw [hk]; exact Nat.mod_lt _ (by omega)
    rw [← ho] at HW1
    rw [← hk] at HW2
    have e1 : peV n f m = #[.int .i64 (o : Int), .int .i64 ((1 + k : Nat) : Int), .int .i64 (M : Int)] := by
      unfold peV peO peK
      rw [hs, if_pos rfl, hm, Int.toNat_natCast, ← ha, ← hb, ← hM1, ho, hk]
    have e2 : peE m = 0 := by unfold peE; rw [hs]; rfl
    rw [e1, e2]
    subst hm
    have y0 : IntKind.i64.wrap ((M : Int) - 1) = (M1 : Int) := by rw [IntKind.wrap_i64]; omega
    have y5 : IntKind.i64.wrap ((k : Int) + 1) = ((1 + k : Nat) : Int) := by rw [IntKind.wrap_i64]; omega
    obtain ⟨K, hK⟩ : ∃ K, K = 1 + k := ⟨_, rfl⟩
    rw [← hK] at y5 ⊢
    have hbd : ∀ W, (Instr.build 50 #[(0, .int .i64 (o : Int)), (1, .int .i64 (K : Int)), (2, .int .i64 (M : Int))]).run Try.prog W = .ok (.agg #[.int .i64 (o : Int), .int .i64 (K : Int), .int .i64 (M : Int)]) W := fun W => by kernel_rfl
    clear e1 e2 hs hf ha hb ho hk hK hM1 hk9 h7 h9
    go_enter Try.func40, Try.ntmps40
    go_upto_region 1 with fail
    change Code.wp _ _ _ _ (w.alloc (.cells #[.int .i64 0, .int .i64 0, .int .i64 0] 50))
    generalize w.alloc (.cells #[.int .i64 0, .int .i64 0, .int .i64 0] 50) = v at *
    go_upto_region 3 with (first
      | (go_at_call 19
         refine (HS.out _).mono ?_
         rintro e u ⟨rfl, hb⟩
         have HBu := Lib.hid (HB.out.trans (hb.mono HB.out.size))
         have HZu : Hid (u.heap[w.heap.size]? = some (.cells #[.int .i64 0, .int .i64 0, .int .i64 0] 50 (0, 0))) := Lib.hid ((hb.block _ (lt_heap HZ.out)).trans HZ.out)
         clear hb))
    go_wp2_with (first
      | (go_at_call 52
         with_reducible refine (H1.out _).mono ?_
         rintro e v1 ⟨rfl, hb⟩
         have HZ1 := Lib.hid ((hb.block _ (lt_heap HZu.out)).trans HZu.out)
         have HB1 := Lib.hid (HBu.out.trans (hb.mono HBu.out.size))
         clear hb)
      | (go_at_call 52
         with_reducible refine (H2.out _).mono ?_
         rintro e v3 ⟨rfl, hb⟩
         have HZ3 := Lib.hid ((hb.block _ (lt_heap HZ2.out)).trans HZ2.out)
         have HB3 := Lib.hid (HB2.out.trans (hb.mono HB2.out.size))
         clear hb)
      | (go_at_call 51
         with_reducible refine (HW1.out _).mono ?_
         rintro e v2 ⟨rfl, hb⟩
         have HZ2 := Lib.hid ((hb.block _ (lt_heap HZ1.out)).trans HZ1.out)
         have HB2 := Lib.hid (HB1.out.trans (hb.mono HB1.out.size))
         clear hb)
      | (go_at_call 51
         with_reducible refine (HW2.out _).mono ?_
         rintro e v4 ⟨rfl, hb⟩
         have HZ4 := Lib.hid ((hb.block _ (lt_heap HZ3.out)).trans HZ3.out)
         have HB4 := Lib.hid (HB3.out.trans (hb.mono HB3.out.size))
         clear hb)
      | (refine wpList_store_row rfl 50 (.tmp 4) (.tmp 21) rfl w.heap.size #[.int .i64 (o : Int), .int .i64 (K : Int), .int .i64 (M : Int)] rfl rfl 50 #[.int .i64 0, .int .i64 0, .int .i64 0] HZ4.out (by kernel_rfl) rfl (by simp [Value.oneCell']) ?_))
    refine bodyPost_ret (v := .tuple #[.agg #[.int .i64 (o : Int), .int .i64 (K : Int), .int .i64 (M : Int)], .int .i64 0]) (results_rowa Try.results40 _ _ w.heap.size 50 #[.int .i64 (o : Int), .int .i64 (K : Int), .int .i64 (M : Int)] (0, 0) _ rfl (setRow_heap _ w.heap.size _ #[.int .i64 (o : Int), .int .i64 (K : Int), .int .i64 (M : Int)] _ _ HZ4.out) Try.underlying50 rfl (by kernel_rfl)) rfl ?_
    exact ⟨rfl, below_setRow HB4.out (Nat.le_refl _) _⟩
end Go.Proofs.Ytfchmmojhfjibaa
