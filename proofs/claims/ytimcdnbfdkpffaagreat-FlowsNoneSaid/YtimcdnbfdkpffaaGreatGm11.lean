import Derived.StillTailTactics
import Derived.Test.YtimcdnbfdkpffaaGreatGm10
/- Stage 10: the landed unlink. -/
namespace Go.Proofs.YtimcdnbfdkpffaaGreat
set_option maxRecDepth 100000
open Go.RowKit Go.Shelf
/-- A walk that is at c goes back to a. -/
def wkCut (c a : Nat) : Option (Nat × Nat) → Option (Nat × Nat)
  | none => none
  | some x => some (x.1, if x.2 = c then a else x.2)
section
variable {w : World} {p A cA B cB m n : Nat} {V : Option Addr} {cV : Nat} {fl : Nat → Int} {pv nx sz : Nat → Nat} {wk : Option (Nat × Nat)} {F : Nat → Prop}
theorem SX.drew (h : SX w p A cA B cB m n V cV fl pv nx sz wk F) : SX w.drew p A cA B cB m n V cV fl pv nx sz wk F := h.step ((Below.refl _ w).drew)
theorem SX.v0 {x : Nat × Nat} (h : SX w p A cA B cB m n V cV fl pv nx sz (some x) F) : ∃ C, V = some ⟨C, 0, none⟩ ∧ w.cell? ⟨C, 0, none⟩ = some (.pointer (some ⟨x.1, 0, none⟩)) ∧ 1 ≤ cV ∧ cV ≤ 9223372036854775807 ∧ F C ∧ ∀ k, w.frozen? ⟨C, k, none⟩ = false := by
  obtain ⟨g, e, _, _, hc, hf⟩ := h.rowV.lies (show 0 < wkn (some x) from Nat.one_pos)
  have h1 := h.rowV.cap
  have h2 := h.rowV.cap_le
  unfold maxLen at h2
  exact ⟨g, e, hc 0 (show 0 < 1 * 1 from Nat.one_pos), h1, by omega, h.mV g e, hf⟩
set_option maxHeartbeats 2000000 in
theorem punlink_none (h : SX w p A cA B cB m n V cV fl pv nx sz none F) (i c la ne : Nat) (hi : i < n) (hc : c < m) (hf : fl c = (i : Int)) (hla : la = pv c) (hne : ne = nx c) (hll : la < m + n) (hnl : ne < m + n) (_hlc : la ≠ c) (_hnc : ne ≠ c) (hsz : sz i ≤ 65536) (hsp : 1 ≤ sz i) :
    Calls Tryz.prog 138 #[.pointer (some ⟨p, 0, none⟩), .int .i64 (c : Int)] w fun e w' => e = .returned (.tuple #[]) ∧
      SX w' p A cA B cB m n V cV (updI fl c (-1)) (updN (updN pv ne la) c 0) (updN (updN nx la ne) c 0) (updN sz i (sz i - 1)) none F ∧ Kept F w w' := by
  have HX := Lib.hid h
  have cA9 := h.cA9
  have cB9 := h.cB9
  have hcl : c < m + n := by omega
  have j0 : (0 : Int) ≤ (c : Int) := by omega
  have j1 : (c : Int) < ((m + n : Nat) : Int) := by omega
  have i0 : (0 : Int) ≤ (i : Int) := by omega
  have i1 : (i : Int) < (n : Int) := by omega
  have l0 : (0 : Int) ≤ (la : Int) := by omega
  have l1 : (la : Int) < ((m + n : Nat) : Int) := by omega
  have n0 : (0 : Int) ≤ (ne : Int) := by omega
  have n1 : (ne : Int) < ((m + n : Nat) : Int) := by omega
  have zw : IntKind.i64.wrap ((sz i : Int) - 1) = ((sz i - 1 : Nat) : Int) := by rw [IntKind.wrap_i64]; omega
  have HR : Hid (w.rangeAt A (c * 3) [.int .i64 (i : Int), .int .i64 (la : Int), .int .i64 (ne : Int)]) := Lib.hid (by
    have := h.rng hcl
    rwa [hf, ← hla, ← hne] at this)
  have x0 : w.cell? ⟨p, 0, none⟩ = some (.slice (some ⟨A, 0, none⟩) (m + n) cA) := blk_cell h.blk 0
  obtain ⟨N, hN⟩ : ∃ N, N = m + n := ⟨_, rfl⟩
  rw [← hN] at j1 l1 n1 x0 cA9
  have HN := Lib.hid hN
  have hbl : ∀ W, (Instr.build 196 #[(0, .int .i64 (-1))]).run Tryz.prog W = .ok (.agg #[.int .i64 (-1), .int .i64 0, .int .i64 0]) W := fun W => by kernel_rfl
  clear h hN hla hne hf
  go_enter Tryz.func138, Tryz.ntmps138
  go_upto_region 1 with (first
    | (refine wpList_load_mid rfl 196 (.tmp 12) rfl A (c * 3) rfl [.int .i64 (i : Int), .int .i64 (la : Int), .int .i64 (ne : Int)] _ HR.out Tryz.underlying196 rfl (by kernel_rfl) ?_)
    | (refine wpList_store_row rfl 196 (.tmp 4) (.tmp 13) rfl w.heap.size #[.int .i64 (i : Int), .int .i64 (la : Int), .int .i64 (ne : Int)] rfl rfl 196 #[.int .i64 0, .int .i64 0, .int .i64 0] (heap_alloc_new w _) (by kernel_rfl) rfl (by simp [Value.oneCell']) ?_))
  change Code.wp _ _ _ _ ((w.alloc (.cells #[.int .i64 0, .int .i64 0, .int .i64 0] 196)).setRow w.heap.size #[.int .i64 (i : Int), .int .i64 (la : Int), .int .i64 (ne : Int)])
  have HB1 : Hid (Below w.heap.size w ((w.alloc (.cells #[.int .i64 0, .int .i64 0, .int .i64 0] 196)).setRow w.heap.size #[.int .i64 (i : Int), .int .i64 (la : Int), .int .i64 (ne : Int)])) := Lib.hid (below_setRow (below_alloc w _) (Nat.le_refl _) _)
  have HM1 : Hid (((w.alloc (.cells #[.int .i64 0, .int .i64 0, .int .i64 0] 196)).setRow w.heap.size #[.int .i64 (i : Int), .int .i64 (la : Int), .int .i64 (ne : Int)]).heap[w.heap.size]? = some (.cells #[.int .i64 (i : Int), .int .i64 (la : Int), .int .i64 (ne : Int)] 196 (0, 0))) := Lib.hid (setRow_heap _ w.heap.size _ #[.int .i64 (i : Int), .int .i64 (la : Int), .int .i64 (ne : Int)] _ _ (heap_alloc_new w _))
  have HX1 := Lib.hid (HX.out.step HB1.out)
  have HK1 : Hid (Kept F w ((w.alloc (.cells #[.int .i64 0, .int .i64 0, .int .i64 0] 196)).setRow w.heap.size #[.int .i64 (i : Int), .int .i64 (la : Int), .int .i64 (ne : Int)])) := Lib.hid (Kept.of_below HB1.out _)
  have HQ : Hid (∀ k, F k → k ≠ w.heap.size) := Lib.hid fun k hk e => by
    have := HX.out.old k hk
    omega
  generalize (w.alloc (.cells #[.int .i64 0, .int .i64 0, .int .i64 0] 196)).setRow w.heap.size #[.int .i64 (i : Int), .int .i64 (la : Int), .int .i64 (ne : Int)] = u1 at *
  obtain ⟨q, hq⟩ : ∃ q, q = w.heap.size := ⟨_, rfl⟩
  rw [← hq] at HM1 HQ ⊢
  have HQW := Lib.hid hq
  clear x0 HR HB1 hq
  clear HX
  have x0 : u1.cell? ⟨p, 0, none⟩ = some (.slice (some ⟨A, 0, none⟩) N cA) := by rw [HN.out]; exact blk_cell HX1.out.blk 0
  have x1 : u1.cell? ⟨p, 1, none⟩ = some (.slice (some ⟨B, 0, none⟩) n cB) := blk_cell HX1.out.blk 1
  have q0 : u1.cell? ⟨q, 0, none⟩ = some (.int .i64 (i : Int)) := blk_cell HM1.out 0
  have q1 : u1.cell? ⟨q, 1, none⟩ = some (.int .i64 (la : Int)) := blk_cell HM1.out 1
  have q2 : u1.cell? ⟨q, 2, none⟩ = some (.int .i64 (ne : Int)) := blk_cell HM1.out 2
  go_still_tail 10, (by kernel_rfl)
  repeat still_step
  try refine wpStill_nil ?_
  change wpList _ _ _ _ _ u1.drew
  have HY1 := Lib.hid HX1.out.drew
  have HN1 : Hid (u1.drew.heap[q]? = some (.cells #[.int .i64 (i : Int), .int .i64 (la : Int), .int .i64 (ne : Int)] 196 (0, 0))) := Lib.hid HM1.out
  have HL1 := Lib.hid HK1.out.drew
  clear x0 x1 q0 q1 q2 HX1 HM1 HK1
  generalize u1.drew = v1 at *
  have xe : v1.cell? ⟨A, la * 3 + 2, none⟩ = some (.int .i64 (nx la : Nat)) := HY1.out.l2 hll
  have xf : v1.frozen? ⟨A, la * 3 + 2, none⟩ = false := HY1.out.fzA _
  go_upto_region 2 with fail
  have HX2 := Lib.hid (HY1.out.setN la ne)
  have HM2 : Hid ((v1.setCell ⟨A, la * 3 + 2, none⟩ (.int .i64 (ne : Int))).heap[q]? = some (.cells #[.int .i64 (i : Int), .int .i64 (la : Int), .int .i64 (ne : Int)] 196 (0, 0))) := Lib.hid ((Below.heap_setCell v1 ⟨A, la * 3 + 2, none⟩ _ q (Ne.symm (HQ.out A HY1.out.mA))).trans HN1.out)
  have HK2 : Hid (Kept F w (v1.setCell ⟨A, la * 3 + 2, none⟩ (.int .i64 (ne : Int)))) := Lib.hid (HL1.out.setCell (p := ⟨A, la * 3 + 2, none⟩) (.inl HY1.out.mA) _)
  clear HY1 HN1 HL1 xe xf
  generalize v1.setCell ⟨A, la * 3 + 2, none⟩ (.int .i64 (ne : Int)) = u2 at *
  have x0 : u2.cell? ⟨p, 0, none⟩ = some (.slice (some ⟨A, 0, none⟩) N cA) := by rw [HN.out]; exact blk_cell HX2.out.blk 0
  have x1 : u2.cell? ⟨p, 1, none⟩ = some (.slice (some ⟨B, 0, none⟩) n cB) := blk_cell HX2.out.blk 1
  have q0 : u2.cell? ⟨q, 0, none⟩ = some (.int .i64 (i : Int)) := blk_cell HM2.out 0
  have q1 : u2.cell? ⟨q, 1, none⟩ = some (.int .i64 (la : Int)) := blk_cell HM2.out 1
  have q2 : u2.cell? ⟨q, 2, none⟩ = some (.int .i64 (ne : Int)) := blk_cell HM2.out 2
  go_still_tail 10, (by kernel_rfl)
  repeat still_step
  try refine wpStill_nil ?_
  change wpList _ _ _ _ _ u2.drew
  have HY2 := Lib.hid HX2.out.drew
  have HN2 : Hid (u2.drew.heap[q]? = some (.cells #[.int .i64 (i : Int), .int .i64 (la : Int), .int .i64 (ne : Int)] 196 (0, 0))) := Lib.hid HM2.out
  have HL2 := Lib.hid HK2.out.drew
  clear x0 x1 q0 q1 q2 HX2 HM2 HK2
  generalize u2.drew = v2 at *
  have xe : v2.cell? ⟨A, ne * 3 + 1, none⟩ = some (.int .i64 (pv ne : Nat)) := HY2.out.l1 hnl
  have xf : v2.frozen? ⟨A, ne * 3 + 1, none⟩ = false := HY2.out.fzA _
  go_upto_region 3 with fail
  have HX3 := Lib.hid (HY2.out.setP ne la)
  have HM3 : Hid ((v2.setCell ⟨A, ne * 3 + 1, none⟩ (.int .i64 (la : Int))).heap[q]? = some (.cells #[.int .i64 (i : Int), .int .i64 (la : Int), .int .i64 (ne : Int)] 196 (0, 0))) := Lib.hid ((Below.heap_setCell v2 ⟨A, ne * 3 + 1, none⟩ _ q (Ne.symm (HQ.out A HY2.out.mA))).trans HN2.out)
  have HK3 : Hid (Kept F w (v2.setCell ⟨A, ne * 3 + 1, none⟩ (.int .i64 (la : Int)))) := Lib.hid (HL2.out.setCell (p := ⟨A, ne * 3 + 1, none⟩) (.inl HY2.out.mA) _)
  clear HY2 HN2 HL2 xe xf
  generalize v2.setCell ⟨A, ne * 3 + 1, none⟩ (.int .i64 (la : Int)) = u3 at *
  have x0 : u3.cell? ⟨p, 0, none⟩ = some (.slice (some ⟨A, 0, none⟩) N cA) := by rw [HN.out]; exact blk_cell HX3.out.blk 0
  go_upto_region 4 with (first
    | (refine wpList_store_mid rfl 196 (.tmp 40) (.tmp 39) rfl A (c * 3) #[.int .i64 (-1), .int .i64 0, .int .i64 0] rfl rfl (HX3.out.there hcl) (by kernel_rfl) (by simp [Value.oneCell']) ?_))
  have HX4 := Lib.hid (HX3.out.put c (-1) 0 0)
  have HK4 : Hid (Kept F w (u3.setCells A (c * 3) [.int .i64 (-1), .int .i64 ((0 : Nat) : Int), .int .i64 ((0 : Nat) : Int)])) := Lib.hid (HK3.out.setCells (.inl HX3.out.mA) _ _)
  have HM4 : Hid ((u3.setCells A (c * 3) [.int .i64 (-1), .int .i64 ((0 : Nat) : Int), .int .i64 ((0 : Nat) : Int)]).heap[q]? = some (.cells #[.int .i64 (i : Int), .int .i64 (la : Int), .int .i64 (ne : Int)] 196 (0, 0))) := Lib.hid ((other_setCells (Ne.symm (HQ.out A HX3.out.mA)) _ _ _).trans HM3.out)
  clear HX3 HK3 HM3 x0
  try simp only [Act.put]
  change Code.wp _ _ _ _ (u3.setCells A (c * 3) [.int .i64 (-1), .int .i64 ((0 : Nat) : Int), .int .i64 ((0 : Nat) : Int)])
  generalize u3.setCells A (c * 3) [.int .i64 (-1), .int .i64 ((0 : Nat) : Int), .int .i64 ((0 : Nat) : Int)] = u4 at *
  have x0 : u4.cell? ⟨p, 0, none⟩ = some (.slice (some ⟨A, 0, none⟩) N cA) := by rw [HN.out]; exact blk_cell HX4.out.blk 0
  have x1 : u4.cell? ⟨p, 1, none⟩ = some (.slice (some ⟨B, 0, none⟩) n cB) := blk_cell HX4.out.blk 1
  have q0 : u4.cell? ⟨q, 0, none⟩ = some (.int .i64 (i : Int)) := blk_cell HM4.out 0
  have q1 : u4.cell? ⟨q, 1, none⟩ = some (.int .i64 (la : Int)) := blk_cell HM4.out 1
  have q2 : u4.cell? ⟨q, 2, none⟩ = some (.int .i64 (ne : Int)) := blk_cell HM4.out 2
  have q9 : u4.cell? ⟨B, i, none⟩ = some (.int .i64 (sz i : Int)) := HX4.out.s0 hi
  go_still_tail 10, (by kernel_rfl)
  repeat still_step
  try refine wpStill_nil ?_
  change wpList _ _ _ _ _ u4.drew
  have HY4 := Lib.hid HX4.out.drew
  have HN4 : Hid (u4.drew.heap[q]? = some (.cells #[.int .i64 (i : Int), .int .i64 (la : Int), .int .i64 (ne : Int)] 196 (0, 0))) := Lib.hid HM4.out
  have HL4 := Lib.hid HK4.out.drew
  clear x0 x1 q0 q1 q2 HX4 HM4 HK4 q9
  generalize u4.drew = v4 at *
  have xe : v4.cell? ⟨B, i, none⟩ = some (.int .i64 (sz i : Nat)) := HY4.out.s0 hi
  have xf : v4.frozen? ⟨B, i, none⟩ = false := HY4.out.fzB _
  have x2 : v4.cell? ⟨p, 2, none⟩ = some (.slice V 0 cV) := blk_cell HY4.out.blk 2
  have x22 : (v4.setCell ⟨B, i, none⟩ (.int .i64 ((sz i - 1 : Nat) : Int))).cell? ⟨p, 2, none⟩ = some (.slice V 0 cV) := blk_cell ((Below.heap_setCell v4 ⟨B, i, none⟩ _ p HY4.out.pB).trans HY4.out.blk) 2
  go_wp2_with fail
  have HX5 := Lib.hid (HY4.out.setS i (sz i - 1))
  have HM5 : Hid ((v4.setCell ⟨B, i, none⟩ (.int .i64 ((sz i - 1 : Nat) : Int))).heap[q]? = some (.cells #[.int .i64 (i : Int), .int .i64 (la : Int), .int .i64 (ne : Int)] 196 (0, 0))) := Lib.hid ((Below.heap_setCell v4 ⟨B, i, none⟩ _ q (Ne.symm (HQ.out B HY4.out.mB))).trans HN4.out)
  have HK5 : Hid (Kept F w (v4.setCell ⟨B, i, none⟩ (.int .i64 ((sz i - 1 : Nat) : Int)))) := Lib.hid (HL4.out.setCell (p := ⟨B, i, none⟩) (.inl HY4.out.mB) _)
  clear HY4 HN4 HL4 xe xf x2
  generalize v4.setCell ⟨B, i, none⟩ (.int .i64 ((sz i - 1 : Nat) : Int)) = u5 at *
  have x2 : u5.cell? ⟨p, 2, none⟩ = some (.slice V 0 cV) := blk_cell HX5.out.blk 2
  refine wp_loop_rounds 1 ?_
  rw [rounds_succ]
  go_wp2_with fail
  first
    | go_ret
    | go_end0
  exact ⟨rfl, HX5.out, HK5.out⟩
set_option maxHeartbeats 2000000 in
theorem punlink_some {x : Nat × Nat} (h : SX w p A cA B cB m n V cV fl pv nx sz (some x) F) (i c la ne : Nat) (hi : i < n) (hc : c < m) (hf : fl c = (i : Int)) (hla : la = pv c) (hne : ne = nx c) (hll : la < m + n) (hnl : ne < m + n) (_hlc : la ≠ c) (_hnc : ne ≠ c) (hsz : sz i ≤ 65536) (hsp : 1 ≤ sz i) :
    Calls Tryz.prog 138 #[.pointer (some ⟨p, 0, none⟩), .int .i64 (c : Int)] w fun e w' => e = .returned (.tuple #[]) ∧
      SX w' p A cA B cB m n V cV (updI fl c (-1)) (updN (updN pv ne la) c 0) (updN (updN nx la ne) c 0) (updN sz i (sz i - 1)) (wkCut c la (some x)) F ∧ Kept F w w' := by
  have HX := Lib.hid h
  have cA9 := h.cA9
  have cB9 := h.cB9
  have hcl : c < m + n := by omega
  have j0 : (0 : Int) ≤ (c : Int) := by omega
  have j1 : (c : Int) < ((m + n : Nat) : Int) := by omega
  have i0 : (0 : Int) ≤ (i : Int) := by omega
  have i1 : (i : Int) < (n : Int) := by omega
  have l0 : (0 : Int) ≤ (la : Int) := by omega
  have l1 : (la : Int) < ((m + n : Nat) : Int) := by omega
  have n0 : (0 : Int) ≤ (ne : Int) := by omega
  have n1 : (ne : Int) < ((m + n : Nat) : Int) := by omega
  have zw : IntKind.i64.wrap ((sz i : Int) - 1) = ((sz i - 1 : Nat) : Int) := by rw [IntKind.wrap_i64]; omega
  have HR : Hid (w.rangeAt A (c * 3) [.int .i64 (i : Int), .int .i64 (la : Int), .int .i64 (ne : Int)]) := Lib.hid (by
    have := h.rng hcl
    rwa [hf, ← hla, ← hne] at this)
  have x0 : w.cell? ⟨p, 0, none⟩ = some (.slice (some ⟨A, 0, none⟩) (m + n) cA) := blk_cell h.blk 0
  obtain ⟨N, hN⟩ : ∃ N, N = m + n := ⟨_, rfl⟩
  rw [← hN] at j1 l1 n1 x0 cA9
  have HN := Lib.hid hN
  have hbl : ∀ W, (Instr.build 196 #[(0, .int .i64 (-1))]).run Tryz.prog W = .ok (.agg #[.int .i64 (-1), .int .i64 0, .int .i64 0]) W := fun W => by kernel_rfl
  clear h hN hla hne hf
  go_enter Tryz.func138, Tryz.ntmps138
  go_upto_region 1 with (first
    | (refine wpList_load_mid rfl 196 (.tmp 12) rfl A (c * 3) rfl [.int .i64 (i : Int), .int .i64 (la : Int), .int .i64 (ne : Int)] _ HR.out Tryz.underlying196 rfl (by kernel_rfl) ?_)
    | (refine wpList_store_row rfl 196 (.tmp 4) (.tmp 13) rfl w.heap.size #[.int .i64 (i : Int), .int .i64 (la : Int), .int .i64 (ne : Int)] rfl rfl 196 #[.int .i64 0, .int .i64 0, .int .i64 0] (heap_alloc_new w _) (by kernel_rfl) rfl (by simp [Value.oneCell']) ?_))
  change Code.wp _ _ _ _ ((w.alloc (.cells #[.int .i64 0, .int .i64 0, .int .i64 0] 196)).setRow w.heap.size #[.int .i64 (i : Int), .int .i64 (la : Int), .int .i64 (ne : Int)])
  have HB1 : Hid (Below w.heap.size w ((w.alloc (.cells #[.int .i64 0, .int .i64 0, .int .i64 0] 196)).setRow w.heap.size #[.int .i64 (i : Int), .int .i64 (la : Int), .int .i64 (ne : Int)])) := Lib.hid (below_setRow (below_alloc w _) (Nat.le_refl _) _)
  have HM1 : Hid (((w.alloc (.cells #[.int .i64 0, .int .i64 0, .int .i64 0] 196)).setRow w.heap.size #[.int .i64 (i : Int), .int .i64 (la : Int), .int .i64 (ne : Int)]).heap[w.heap.size]? = some (.cells #[.int .i64 (i : Int), .int .i64 (la : Int), .int .i64 (ne : Int)] 196 (0, 0))) := Lib.hid (setRow_heap _ w.heap.size _ #[.int .i64 (i : Int), .int .i64 (la : Int), .int .i64 (ne : Int)] _ _ (heap_alloc_new w _))
  have HX1 := Lib.hid (HX.out.step HB1.out)
  have HK1 : Hid (Kept F w ((w.alloc (.cells #[.int .i64 0, .int .i64 0, .int .i64 0] 196)).setRow w.heap.size #[.int .i64 (i : Int), .int .i64 (la : Int), .int .i64 (ne : Int)])) := Lib.hid (Kept.of_below HB1.out _)
  have HQ : Hid (∀ k, F k → k ≠ w.heap.size) := Lib.hid fun k hk e => by
    have := HX.out.old k hk
    omega
  generalize (w.alloc (.cells #[.int .i64 0, .int .i64 0, .int .i64 0] 196)).setRow w.heap.size #[.int .i64 (i : Int), .int .i64 (la : Int), .int .i64 (ne : Int)] = u1 at *
  obtain ⟨q, hq⟩ : ∃ q, q = w.heap.size := ⟨_, rfl⟩
  rw [← hq] at HM1 HQ ⊢
  have HQW := Lib.hid hq
  clear x0 HR HB1 hq
  clear HX
  have x0 : u1.cell? ⟨p, 0, none⟩ = some (.slice (some ⟨A, 0, none⟩) N cA) := by rw [HN.out]; exact blk_cell HX1.out.blk 0
  have x1 : u1.cell? ⟨p, 1, none⟩ = some (.slice (some ⟨B, 0, none⟩) n cB) := blk_cell HX1.out.blk 1
  have q0 : u1.cell? ⟨q, 0, none⟩ = some (.int .i64 (i : Int)) := blk_cell HM1.out 0
  have q1 : u1.cell? ⟨q, 1, none⟩ = some (.int .i64 (la : Int)) := blk_cell HM1.out 1
  have q2 : u1.cell? ⟨q, 2, none⟩ = some (.int .i64 (ne : Int)) := blk_cell HM1.out 2
  go_still_tail 10, (by kernel_rfl)
  repeat still_step
  try refine wpStill_nil ?_
  change wpList _ _ _ _ _ u1.drew
  have HY1 := Lib.hid HX1.out.drew
  have HN1 : Hid (u1.drew.heap[q]? = some (.cells #[.int .i64 (i : Int), .int .i64 (la : Int), .int .i64 (ne : Int)] 196 (0, 0))) := Lib.hid HM1.out
  have HL1 := Lib.hid HK1.out.drew
  clear x0 x1 q0 q1 q2 HX1 HM1 HK1
  generalize u1.drew = v1 at *
  have xe : v1.cell? ⟨A, la * 3 + 2, none⟩ = some (.int .i64 (nx la : Nat)) := HY1.out.l2 hll
  have xf : v1.frozen? ⟨A, la * 3 + 2, none⟩ = false := HY1.out.fzA _
  go_upto_region 2 with fail
  have HX2 := Lib.hid (HY1.out.setN la ne)
  have HM2 : Hid ((v1.setCell ⟨A, la * 3 + 2, none⟩ (.int .i64 (ne : Int))).heap[q]? = some (.cells #[.int .i64 (i : Int), .int .i64 (la : Int), .int .i64 (ne : Int)] 196 (0, 0))) := Lib.hid ((Below.heap_setCell v1 ⟨A, la * 3 + 2, none⟩ _ q (Ne.symm (HQ.out A HY1.out.mA))).trans HN1.out)
  have HK2 : Hid (Kept F w (v1.setCell ⟨A, la * 3 + 2, none⟩ (.int .i64 (ne : Int)))) := Lib.hid (HL1.out.setCell (p := ⟨A, la * 3 + 2, none⟩) (.inl HY1.out.mA) _)
  clear HY1 HN1 HL1 xe xf
  generalize v1.setCell ⟨A, la * 3 + 2, none⟩ (.int .i64 (ne : Int)) = u2 at *
  have x0 : u2.cell? ⟨p, 0, none⟩ = some (.slice (some ⟨A, 0, none⟩) N cA) := by rw [HN.out]; exact blk_cell HX2.out.blk 0
  have x1 : u2.cell? ⟨p, 1, none⟩ = some (.slice (some ⟨B, 0, none⟩) n cB) := blk_cell HX2.out.blk 1
  have q0 : u2.cell? ⟨q, 0, none⟩ = some (.int .i64 (i : Int)) := blk_cell HM2.out 0
  have q1 : u2.cell? ⟨q, 1, none⟩ = some (.int .i64 (la : Int)) := blk_cell HM2.out 1
  have q2 : u2.cell? ⟨q, 2, none⟩ = some (.int .i64 (ne : Int)) := blk_cell HM2.out 2
  go_still_tail 10, (by kernel_rfl)
  repeat still_step
  try refine wpStill_nil ?_
  change wpList _ _ _ _ _ u2.drew
  have HY2 := Lib.hid HX2.out.drew
  have HN2 : Hid (u2.drew.heap[q]? = some (.cells #[.int .i64 (i : Int), .int .i64 (la : Int), .int .i64 (ne : Int)] 196 (0, 0))) := Lib.hid HM2.out
  have HL2 := Lib.hid HK2.out.drew
  clear x0 x1 q0 q1 q2 HX2 HM2 HK2
  generalize u2.drew = v2 at *
  have xe : v2.cell? ⟨A, ne * 3 + 1, none⟩ = some (.int .i64 (pv ne : Nat)) := HY2.out.l1 hnl
  have xf : v2.frozen? ⟨A, ne * 3 + 1, none⟩ = false := HY2.out.fzA _
  go_upto_region 3 with fail
  have HX3 := Lib.hid (HY2.out.setP ne la)
  have HM3 : Hid ((v2.setCell ⟨A, ne * 3 + 1, none⟩ (.int .i64 (la : Int))).heap[q]? = some (.cells #[.int .i64 (i : Int), .int .i64 (la : Int), .int .i64 (ne : Int)] 196 (0, 0))) := Lib.hid ((Below.heap_setCell v2 ⟨A, ne * 3 + 1, none⟩ _ q (Ne.symm (HQ.out A HY2.out.mA))).trans HN2.out)
  have HK3 : Hid (Kept F w (v2.setCell ⟨A, ne * 3 + 1, none⟩ (.int .i64 (la : Int)))) := Lib.hid (HL2.out.setCell (p := ⟨A, ne * 3 + 1, none⟩) (.inl HY2.out.mA) _)
  clear HY2 HN2 HL2 xe xf
  generalize v2.setCell ⟨A, ne * 3 + 1, none⟩ (.int .i64 (la : Int)) = u3 at *
  have x0 : u3.cell? ⟨p, 0, none⟩ = some (.slice (some ⟨A, 0, none⟩) N cA) := by rw [HN.out]; exact blk_cell HX3.out.blk 0
  go_upto_region 4 with (first
    | (refine wpList_store_mid rfl 196 (.tmp 40) (.tmp 39) rfl A (c * 3) #[.int .i64 (-1), .int .i64 0, .int .i64 0] rfl rfl (HX3.out.there hcl) (by kernel_rfl) (by simp [Value.oneCell']) ?_))
  have HX4 := Lib.hid (HX3.out.put c (-1) 0 0)
  have HK4 : Hid (Kept F w (u3.setCells A (c * 3) [.int .i64 (-1), .int .i64 ((0 : Nat) : Int), .int .i64 ((0 : Nat) : Int)])) := Lib.hid (HK3.out.setCells (.inl HX3.out.mA) _ _)
  have HM4 : Hid ((u3.setCells A (c * 3) [.int .i64 (-1), .int .i64 ((0 : Nat) : Int), .int .i64 ((0 : Nat) : Int)]).heap[q]? = some (.cells #[.int .i64 (i : Int), .int .i64 (la : Int), .int .i64 (ne : Int)] 196 (0, 0))) := Lib.hid ((other_setCells (Ne.symm (HQ.out A HX3.out.mA)) _ _ _).trans HM3.out)
  clear HX3 HK3 HM3 x0
  try simp only [Act.put]
  change Code.wp _ _ _ _ (u3.setCells A (c * 3) [.int .i64 (-1), .int .i64 ((0 : Nat) : Int), .int .i64 ((0 : Nat) : Int)])
  generalize u3.setCells A (c * 3) [.int .i64 (-1), .int .i64 ((0 : Nat) : Int), .int .i64 ((0 : Nat) : Int)] = u4 at *
  have x0 : u4.cell? ⟨p, 0, none⟩ = some (.slice (some ⟨A, 0, none⟩) N cA) := by rw [HN.out]; exact blk_cell HX4.out.blk 0
  have x1 : u4.cell? ⟨p, 1, none⟩ = some (.slice (some ⟨B, 0, none⟩) n cB) := blk_cell HX4.out.blk 1
  have q0 : u4.cell? ⟨q, 0, none⟩ = some (.int .i64 (i : Int)) := blk_cell HM4.out 0
  have q1 : u4.cell? ⟨q, 1, none⟩ = some (.int .i64 (la : Int)) := blk_cell HM4.out 1
  have q2 : u4.cell? ⟨q, 2, none⟩ = some (.int .i64 (ne : Int)) := blk_cell HM4.out 2
  have q9 : u4.cell? ⟨B, i, none⟩ = some (.int .i64 (sz i : Int)) := HX4.out.s0 hi
  go_still_tail 10, (by kernel_rfl)
  repeat still_step
  try refine wpStill_nil ?_
  change wpList _ _ _ _ _ u4.drew
  have HY4 := Lib.hid HX4.out.drew
  have HN4 : Hid (u4.drew.heap[q]? = some (.cells #[.int .i64 (i : Int), .int .i64 (la : Int), .int .i64 (ne : Int)] 196 (0, 0))) := Lib.hid HM4.out
  have HL4 := Lib.hid HK4.out.drew
  clear x0 x1 q0 q1 q2 HX4 HM4 HK4 q9
  generalize u4.drew = v4 at *
  have xe : v4.cell? ⟨B, i, none⟩ = some (.int .i64 (sz i : Nat)) := HY4.out.s0 hi
  have xf : v4.frozen? ⟨B, i, none⟩ = false := HY4.out.fzB _
  have x2 : v4.cell? ⟨p, 2, none⟩ = some (.slice V 1 cV) := blk_cell HY4.out.blk 2
  have x22 : (v4.setCell ⟨B, i, none⟩ (.int .i64 ((sz i - 1 : Nat) : Int))).cell? ⟨p, 2, none⟩ = some (.slice V 1 cV) := blk_cell ((Below.heap_setCell v4 ⟨B, i, none⟩ _ p HY4.out.pB).trans HY4.out.blk) 2
  go_wp2_with fail
  have HX5 := Lib.hid (HY4.out.setS i (sz i - 1))
  have HM5 : Hid ((v4.setCell ⟨B, i, none⟩ (.int .i64 ((sz i - 1 : Nat) : Int))).heap[q]? = some (.cells #[.int .i64 (i : Int), .int .i64 (la : Int), .int .i64 (ne : Int)] 196 (0, 0))) := Lib.hid ((Below.heap_setCell v4 ⟨B, i, none⟩ _ q (Ne.symm (HQ.out B HY4.out.mB))).trans HN4.out)
  have HK5 : Hid (Kept F w (v4.setCell ⟨B, i, none⟩ (.int .i64 ((sz i - 1 : Nat) : Int)))) := Lib.hid (HL4.out.setCell (p := ⟨B, i, none⟩) (.inl HY4.out.mB) _)
  clear HY4 HN4 HL4 xe xf x2
  generalize v4.setCell ⟨B, i, none⟩ (.int .i64 ((sz i - 1 : Nat) : Int)) = u5 at *
  have x2 : u5.cell? ⟨p, 2, none⟩ = some (.slice V 1 cV) := blk_cell HX5.out.blk 2
  obtain ⟨C, rfl, xv, hv1, hv9, hFC, hfz⟩ := HX5.out.v0
  have xw : u5.cell? ⟨x.1, 0, none⟩ = some (.int .i64 (x.2 : Int)) := HX5.out.wcell.1
  have xz : u5.frozen? ⟨x.1, 0, none⟩ = false := HX5.out.wcell.2
  have q1 : u5.cell? ⟨q, 1, none⟩ = some (.int .i64 (la : Int)) := blk_cell HM5.out 1
  have hzz : ∀ (W : World), (binOp .lss 3 (.int .i64 0) (.int .i64 ((1 : Nat) : Int))).run Tryz.prog W = .ok (.bool true) W := fun W => by kernel_rfl
  by_cases hq : x.2 = c
  · have hqe : ((x.2 : Int) == (c : Int)) = true := by simp [hq]
    have HX6 := Lib.hid (HX5.out.setW la)
    have HK6 : Hid (Kept F w (u5.setCell ⟨x.1, 0, none⟩ (.int .i64 (la : Int)))) := Lib.hid (HK5.out.setCell (p := ⟨x.1, 0, none⟩) (.inl (HX5.out.wlk x rfl).2) _)
    refine wp_loop_rounds 2 ?_
    rw [rounds_succ]
    go_wp2_with fail
    rw [rounds_succ]
    go_wp2_with fail
    first
      | go_ret
      | go_end0
    refine ⟨rfl, ?_, HK6.out⟩
    show SX _ _ _ _ _ _ _ _ _ _ _ _ _ _ (some (x.1, if x.2 = c then la else x.2)) F
    rw [if_pos hq]
    exact HX6.out
  · have hqe : ((x.2 : Int) == (c : Int)) = false := by simp; omega
    refine wp_loop_rounds 2 ?_
    rw [rounds_succ]
    go_wp2_with fail
    rw [rounds_succ]
    go_wp2_with fail
    first
      | go_ret
      | go_end0
    refine ⟨rfl, ?_, HK5.out⟩
    show SX _ _ _ _ _ _ _ _ _ _ _ _ _ _ (some (x.1, if x.2 = c then la else x.2)) F
    rw [if_neg hq]
    exact HX5.out
end
end Go.Proofs.YtimcdnbfdkpffaaGreat
