import Derived.Test.YtkmakdhlaenaoaaGm10
/- Stage 9: the landed arena in memory; Size, Len, At. -/
namespace Go.Proofs.Ytkmakdhlaenaoaa
set_option maxRecDepth 100000
open Go.RowKit
/-- The free cells, linked: from fd on those of a list. -/
def Lk (bf : Nat → Int) : Int → List Nat → Prop
  | fd, [] => fd = -1
  | fd, i :: t => fd = (i : Int) ∧ Lk bf (bf i) t
theorem Lk.same {bf bf' : Nat → Int} : ∀ {l : List Nat} {fd : Int}, Lk bf fd l → (∀ i, i ∈ l → bf' i = bf i) → Lk bf' fd l
  | [], _, h, _ => h
  | i :: t, _, h, hs => ⟨h.1, by
      rw [hs i (List.mem_cons_self ..)]
      exact Lk.same h.2 fun j hj => hs j (List.mem_cons_of_mem _ hj)⟩
/-- The landed arena's fields stand for s. -/
structure PRep (s : Ar) (fd : Int) (fs : Nat) (bf : Nat → Int) : Prop where
  link : Lk bf fd s.freed.reverse
  fresh : ∀ i, fs ≤ i → i < s.has.length → s.at_ i = 0 ∧ ¬ i ∈ s.freed
  used : ∀ i, i < fs → s.at_ i ≠ 0 ∨ i ∈ s.freed
  le : fs ≤ s.has.length
def pcell (ha : Nat → Nat) (bf : Nat → Int) (j : Nat) : Value := if j % 2 = 0 then .int .u64 (ha (j / 2) : Int) else .int .i64 (bf (j / 2))
theorem pcell_one (ha : Nat → Nat) (bf : Nat → Int) (j : Nat) : (pcell ha bf j).oneCell' = true := by unfold pcell; split <;> rfl
theorem pcell_0 (ha : Nat → Nat) (bf : Nat → Int) (j : Nat) : pcell ha bf (j * 2) = .int .u64 (ha j : Int) := by
  unfold pcell
  rw [if_pos (by omega), show j * 2 / 2 = j by omega]
theorem pcell_1 (ha : Nat → Nat) (bf : Nat → Int) (j : Nat) : pcell ha bf (j * 2 + 1) = .int .i64 (bf j) := by
  unfold pcell
  rw [if_neg (by omega), show (j * 2 + 1) / 2 = j by omega]
/-- The landed arena at a block, as fields. -/
structure PX (w : World) (p g n c : Nat) (fd : Int) (fs lv S : Nat) (ha : Nat → Nat) (bf : Nat → Int) (F : Nat → Prop) : Prop where
  blk : w.heap[p]? = some (.cells #[.slice (some ⟨g, 0, none⟩) n c, .int .i64 fd, .int .i64 (fs : Int), .int .i64 (lv : Int), .int .u64 (S : Int)] 94 (0, 0))
  row : OwnC w 0 113 2 (some ⟨g, 0, none⟩) n c (pcell ha bf)
  mp : F p
  mg : F g
  old : ∀ k, F k → k < w.heap.size
  pos : 0 < n
theorem PX.ne {w : World} {p g n c : Nat} {fd : Int} {fs lv S : Nat} {ha : Nat → Nat} {bf : Nat → Int} {F : Nat → Prop} (h : PX w p g n c fd fs lv S ha bf F) : p ≠ g := OwnC.ne h.row h.blk (by decide)
theorem PX.keep {w w' : World} {p g n c : Nat} {fd : Int} {fs lv S : Nat} {ha : Nat → Nat} {bf : Nat → Int} {F R : Nat → Prop} (h : PX w p g n c fd fs lv S ha bf F) (hk : Kept R w w') (hd : ∀ k, F k → ¬ R k) : PX w' p g n c fd fs lv S ha bf F :=
  ⟨(hk.block p (h.old p h.mp) (hd p h.mp)).trans h.blk, h.row.block (hk.block g (h.old g h.mg) (hd g h.mg)), h.mp, h.mg, fun k hF => Nat.lt_of_lt_of_le (h.old k hF) hk.size, h.pos⟩
theorem PX.step {w w' : World} {p g n c : Nat} {fd : Int} {fs lv S : Nat} {ha : Nat → Nat} {bf : Nat → Int} {F : Nat → Prop} (h : PX w p g n c fd fs lv S ha bf F) (hb : Below w.heap.size w w') : PX w' p g n c fd fs lv S ha bf F :=
  h.keep (Kept.of_below hb fun _ => False) fun _ _ q => q
theorem PX.cap {w : World} {p g n c : Nat} {fd : Int} {fs lv S : Nat} {ha : Nat → Nat} {bf : Nat → Int} {F : Nat → Prop} (h : PX w p g n c fd fs lv S ha bf F) : n ≤ c := h.row.cap
theorem PX.cap9 {w : World} {p g n c : Nat} {fd : Int} {fs lv S : Nat} {ha : Nat → Nat} {bf : Nat → Int} {F : Nat → Prop} (h : PX w p g n c fd fs lv S ha bf F) : c ≤ 9223372036854775807 := by
  have := h.row.cap_le
  unfold maxLen at this
  omega
theorem PX.c0 {w : World} {p g n c : Nat} {fd : Int} {fs lv S : Nat} {ha : Nat → Nat} {bf : Nat → Int} {F : Nat → Prop} (h : PX w p g n c fd fs lv S ha bf F) {j : Nat} (hj : j < n) : w.cell? ⟨g, j * 2, none⟩ = some (.int .u64 (ha j : Int)) := by
  obtain ⟨g', e, _, _, hc, _⟩ := h.row.lies h.pos
  injection e with e
  injection e with e
  subst e
  rw [← pcell_0 ha bf j]
  exact hc _ (by omega)
theorem PX.c1 {w : World} {p g n c : Nat} {fd : Int} {fs lv S : Nat} {ha : Nat → Nat} {bf : Nat → Int} {F : Nat → Prop} (h : PX w p g n c fd fs lv S ha bf F) {j : Nat} (hj : j < n) : w.cell? ⟨g, j * 2 + 1, none⟩ = some (.int .i64 (bf j)) := by
  obtain ⟨g', e, _, _, hc, _⟩ := h.row.lies h.pos
  injection e with e
  injection e with e
  subst e
  rw [← pcell_1 ha bf j]
  exact hc _ (by omega)
theorem PX.fz {w : World} {p g n c : Nat} {fd : Int} {fs lv S : Nat} {ha : Nat → Nat} {bf : Nat → Int} {F : Nat → Prop} (h : PX w p g n c fd fs lv S ha bf F) (k : Nat) : w.frozen? ⟨g, k, none⟩ = false := by
  obtain ⟨g', e, _, _, _, hf⟩ := h.row.lies h.pos
  injection e with e
  injection e with e
  subst e
  exact hf k
/-- .. as what it stands for. -/
def PA (w : World) (p : Nat) (s : Ar) (F : Nat → Prop) : Prop := ∃ g c fd fs bf, PX w p g s.has.length c fd fs s.count s.serial s.at_ bf F ∧ PRep s fd fs bf
theorem psize_c (w : World) (p : Nat) (A : Option Addr) (n c : Nat) (h : w.cell? ⟨p, 0, none⟩ = some (.slice A n c)) : Calls Try.prog 44 #[.pointer (some ⟨p, 0, none⟩)] w (ret (.int .i64 (n : Int)) w) := by
  go_enter Try.func44, Try.ntmps44
  go_wp2_with fail
  go_ret
  exact ⟨rfl, Below.refl _ _⟩
theorem psize_0 (w : World) : Calls Try.prog 44 #[.pointer none] w (ret (.int .i64 0) w) := by
  go_enter Try.func44, Try.ntmps44
  go_wp2_with fail
  go_ret
  exact ⟨rfl, Below.refl _ _⟩
theorem plen_c (w : World) (p : Nat) (v : Int) (h : w.cell? ⟨p, 3, none⟩ = some (.int .i64 v)) : Calls Try.prog 31 #[.pointer (some ⟨p, 0, none⟩)] w (ret (.int .i64 v) w) := by
  go_enter Try.func31, Try.ntmps31
  go_wp2_with fail
  go_ret
  exact ⟨rfl, Below.refl _ _⟩
theorem plen_0 (w : World) : Calls Try.prog 31 #[.pointer none] w (ret (.int .i64 0) w) := by
  go_enter Try.func31, Try.ntmps31
  go_wp2_with fail
  go_ret
  exact ⟨rfl, Below.refl _ _⟩
end Go.Proofs.Ytkmakdhlaenaoaa
/- Stage 9: the landed At, Live. -/
namespace Go.Proofs.Ytkmakdhlaenaoaa
set_option maxRecDepth 100000
open Go.RowKit
theorem patG_neg (w : World) (pa : Option Addr) (i : Int) (hi : i < 0) : Calls Try.prog 54 #[.pointer pa, .int .i64 i] w (ret (.tuple #[.agg #[.int .i64 0, .int .u64 0], .bool false]) w) := by
  have HZ : Hid ((w.alloc (.cells #[.int .i64 0, .int .u64 0] 46)).heap[w.heap.size]? = some (.cells #[.int .i64 0, .int .u64 0] 46 (0, 0))) := Lib.hid (heap_alloc_new w _)
  have HB : Hid (Below w.heap.size w (w.alloc (.cells #[.int .i64 0, .int .u64 0] 46))) := Lib.hid (below_alloc w _)
  go_enter Try.func54, Try.ntmps54
  go_upto_region 1 with fail
  change Code.wp _ _ _ _ (w.alloc (.cells #[.int .i64 0, .int .u64 0] 46))
  go_upto_region 2 with fail
  generalize w.alloc (.cells #[.int .i64 0, .int .u64 0] 46) = u at *
  go_wp2_with (first
    | (refine wpList_store_row rfl 46 (.tmp 4) (.tmp 25) rfl w.heap.size #[.int .i64 0, .int .u64 0] rfl rfl 46 #[.int .i64 0, .int .u64 0] HZ.out (by kernel_rfl) rfl (by simp [Value.oneCell']) ?_))
  refine bodyPost_ret (v := .tuple #[.agg #[.int .i64 0, .int .u64 0], .bool false]) (results_rowa Try.results54 _ _ w.heap.size 46 #[.int .i64 0, .int .u64 0] (0, 0) _ rfl (setRow_heap _ w.heap.size _ #[.int .i64 0, .int .u64 0] _ _ HZ.out) Try.underlying46 rfl (by kernel_rfl)) rfl ?_
  exact ⟨rfl, below_setRow HB.out (Nat.le_refl _) _⟩
theorem patG_out (w : World) (pa : Option Addr) (n : Nat) (hs : ∀ W, Below w.heap.size w W → Calls Try.prog 44 #[.pointer pa] W (ret (.int .i64 (n : Int)) W)) (i : Int) (h0 : 0 ≤ i) (hi : (n : Int) ≤ i) : Calls Try.prog 54 #[.pointer pa, .int .i64 i] w (ret (.tuple #[.agg #[.int .i64 0, .int .u64 0], .bool false]) w) := by
  have hi0 : ¬ i < 0 := by omega
  have HS := Lib.hid hs
  clear hs
  have HZ : Hid ((w.alloc (.cells #[.int .i64 0, .int .u64 0] 46)).heap[w.heap.size]? = some (.cells #[.int .i64 0, .int .u64 0] 46 (0, 0))) := Lib.hid (heap_alloc_new w _)
  have HB : Hid (Below w.heap.size w (w.alloc (.cells #[.int .i64 0, .int .u64 0] 46))) := Lib.hid (below_alloc w _)
  go_enter Try.func54, Try.ntmps54
  go_upto_region 1 with fail
  change Code.wp _ _ _ _ (w.alloc (.cells #[.int .i64 0, .int .u64 0] 46))
  go_upto_region 2 with (first
    | (go_at_call 44
       refine (HS.out _ HB.out).mono ?_
       rintro e u ⟨rfl, hb⟩
       have HBu := Lib.hid (HB.out.trans (hb.mono HB.out.size))
       have HZu : Hid (u.heap[w.heap.size]? = some (.cells #[.int .i64 0, .int .u64 0] 46 (0, 0))) := Lib.hid ((hb.block _ (lt_heap HZ.out)).trans HZ.out)
       clear hb))
  go_wp2_with (first
    | (refine wpList_store_row rfl 46 (.tmp 4) (.tmp 25) rfl w.heap.size #[.int .i64 0, .int .u64 0] rfl rfl 46 #[.int .i64 0, .int .u64 0] HZu.out (by kernel_rfl) rfl (by simp [Value.oneCell']) ?_))
  refine bodyPost_ret (v := .tuple #[.agg #[.int .i64 0, .int .u64 0], .bool false]) (results_rowa Try.results54 _ _ w.heap.size 46 #[.int .i64 0, .int .u64 0] (0, 0) _ rfl (setRow_heap _ w.heap.size _ #[.int .i64 0, .int .u64 0] _ _ HZu.out) Try.underlying46 rfl (by kernel_rfl)) rfl ?_
  exact ⟨rfl, below_setRow HBu.out (Nat.le_refl _) _⟩
theorem patX_free {w : World} {p g n c : Nat} {fd : Int} {fs lv S : Nat} {ha : Nat → Nat} {bf : Nat → Int} {F : Nat → Prop} (h : PX w p g n c fd fs lv S ha bf F) (_hn : n ≤ 65536) (j : Nat) (hj : j < n) (h0 : ha j = 0) : Calls Try.prog 54 #[.pointer (some ⟨p, 0, none⟩), .int .i64 (j : Int)] w (ret (.tuple #[.agg #[.int .i64 0, .int .u64 0], .bool false]) w) := by
  have HS : Hid (∀ W, Below w.heap.size w W → Calls Try.prog 44 #[.pointer (some ⟨p, 0, none⟩)] W (ret (.int .i64 (n : Int)) W)) := Lib.hid fun W hW => psize_c W p _ n c (blk_cell (h.step hW).blk 0)
  have HX := Lib.hid h
  have hi0 : ¬ (j : Int) < 0 := by omega
  have hi1 : ¬ (n : Int) ≤ (j : Int) := by omega
  have i0 : (0 : Int) ≤ (j : Int) := by omega
  have i1 : (j : Int) < (n : Int) := by omega
  have i2 : ((j : Int)).toNat = j := by omega
  have k0 : ((ha j : Int) == 0) = true := by simp [h0]
  have cap := h.cap
  have cap9 := h.cap9
  clear h
  have HZ : Hid ((w.alloc (.cells #[.int .i64 0, .int .u64 0] 46)).heap[w.heap.size]? = some (.cells #[.int .i64 0, .int .u64 0] 46 (0, 0))) := Lib.hid (heap_alloc_new w _)
  have HB : Hid (Below w.heap.size w (w.alloc (.cells #[.int .i64 0, .int .u64 0] 46))) := Lib.hid (below_alloc w _)
  go_enter Try.func54, Try.ntmps54
  go_upto_region 1 with fail
  change Code.wp _ _ _ _ (w.alloc (.cells #[.int .i64 0, .int .u64 0] 46))
  go_upto_region 2 with (first
    | (go_at_call 44
       refine (HS.out _ HB.out).mono ?_
       rintro e u ⟨rfl, hb⟩
       have HBu := Lib.hid (HB.out.trans (hb.mono HB.out.size))
       have HZu : Hid (u.heap[w.heap.size]? = some (.cells #[.int .i64 0, .int .u64 0] 46 (0, 0))) := Lib.hid ((hb.block _ (lt_heap HZ.out)).trans HZ.out)
       have HXu := Lib.hid (HX.out.step HBu.out)
       have x0 : u.cell? ⟨p, 0, none⟩ = some (.slice (some ⟨g, 0, none⟩) n c) := blk_cell HXu.out.blk 0
       have xc : u.cell? ⟨g, j * 2, none⟩ = some (.int .u64 (ha j : Int)) := HXu.out.c0 hj
       clear hb))
  clear x0 xc
  go_wp2_with (first
    | (refine wpList_store_row rfl 46 (.tmp 4) (.tmp 25) rfl w.heap.size #[.int .i64 0, .int .u64 0] rfl rfl 46 #[.int .i64 0, .int .u64 0] HZu.out (by kernel_rfl) rfl (by simp [Value.oneCell']) ?_))
  refine bodyPost_ret (v := .tuple #[.agg #[.int .i64 0, .int .u64 0], .bool false]) (results_rowa Try.results54 _ _ w.heap.size 46 #[.int .i64 0, .int .u64 0] (0, 0) _ rfl (setRow_heap _ w.heap.size _ #[.int .i64 0, .int .u64 0] _ _ HZu.out) Try.underlying46 rfl (by kernel_rfl)) rfl ?_
  exact ⟨rfl, below_setRow HBu.out (Nat.le_refl _) _⟩
theorem patX_yes {w : World} {p g n c : Nat} {fd : Int} {fs lv S : Nat} {ha : Nat → Nat} {bf : Nat → Int} {F : Nat → Prop} (h : PX w p g n c fd fs lv S ha bf F) (_hn : n ≤ 65536) (j : Nat) (hj : j < n) (h0 : ha j ≠ 0) : Calls Try.prog 54 #[.pointer (some ⟨p, 0, none⟩), .int .i64 (j : Int)] w (ret (.tuple #[.agg #[.int .i64 (j : Int), .int .u64 (ha j : Int)], .bool true]) w) := by
  have HS : Hid (∀ W, Below w.heap.size w W → Calls Try.prog 44 #[.pointer (some ⟨p, 0, none⟩)] W (ret (.int .i64 (n : Int)) W)) := Lib.hid fun W hW => psize_c W p _ n c (blk_cell (h.step hW).blk 0)
  have HX := Lib.hid h
  have hi0 : ¬ (j : Int) < 0 := by omega
  have hi1 : ¬ (n : Int) ≤ (j : Int) := by omega
  have i0 : (0 : Int) ≤ (j : Int) := by omega
  have i1 : (j : Int) < (n : Int) := by omega
  have i2 : ((j : Int)).toNat = j := by omega
  have k0 : ((ha j : Int) == 0) = false := by simp; omega
  have cap := h.cap
  have cap9 := h.cap9
  clear h
  have HZ : Hid ((w.alloc (.cells #[.int .i64 0, .int .u64 0] 46)).heap[w.heap.size]? = some (.cells #[.int .i64 0, .int .u64 0] 46 (0, 0))) := Lib.hid (heap_alloc_new w _)
  have HB : Hid (Below w.heap.size w (w.alloc (.cells #[.int .i64 0, .int .u64 0] 46))) := Lib.hid (below_alloc w _)
  go_enter Try.func54, Try.ntmps54
  go_upto_region 1 with fail
  change Code.wp _ _ _ _ (w.alloc (.cells #[.int .i64 0, .int .u64 0] 46))
  go_upto_region 3 with (first
    | (go_at_call 44
       refine (HS.out _ HB.out).mono ?_
       rintro e u ⟨rfl, hb⟩
       have HBu := Lib.hid (HB.out.trans (hb.mono HB.out.size))
       have HZu : Hid (u.heap[w.heap.size]? = some (.cells #[.int .i64 0, .int .u64 0] 46 (0, 0))) := Lib.hid ((hb.block _ (lt_heap HZ.out)).trans HZ.out)
       have HXu := Lib.hid (HX.out.step HBu.out)
       have x0 : u.cell? ⟨p, 0, none⟩ = some (.slice (some ⟨g, 0, none⟩) n c) := blk_cell HXu.out.blk 0
       have xc : u.cell? ⟨g, j * 2, none⟩ = some (.int .u64 (ha j : Int)) := HXu.out.c0 hj
       clear hb))
  go_wp2_with (first
    | (refine wpList_store_row rfl 46 (.tmp 4) (.tmp 35) rfl w.heap.size #[.int .i64 (j : Int), .int .u64 (ha j : Int)] rfl rfl 46 #[.int .i64 0, .int .u64 0] HZu.out (by kernel_rfl) rfl (by simp [Value.oneCell']) ?_))
  refine bodyPost_ret (v := .tuple #[.agg #[.int .i64 (j : Int), .int .u64 (ha j : Int)], .bool true]) (results_rowa Try.results54 _ _ w.heap.size 46 #[.int .i64 (j : Int), .int .u64 (ha j : Int)] (0, 0) _ rfl (setRow_heap _ w.heap.size _ #[.int .i64 (j : Int), .int .u64 (ha j : Int)] _ _ HZu.out) Try.underlying46 rfl (by kernel_rfl)) rfl ?_
  exact ⟨rfl, below_setRow HBu.out (Nat.le_refl _) _⟩
end Go.Proofs.Ytkmakdhlaenaoaa
