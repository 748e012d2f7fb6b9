import Derived.Test.YthjghofjdcepmaaGm18
/- Stage 14: the document's Has, Drop, Left, Marks. -/
namespace Go.Proofs.Ythjghofjdcepmaa
set_option maxRecDepth 100000
open Go.RowKit Go.Shelf
section
variable {w w' : World} {q qn qx : Nat} {s : Gr} {G Gn Gx : Nat → Prop}
theorem tfind_c {t : Tb} {K : Nat → Prop} {p : Nat} (h : RTA w p t K) (ht : t.Ok) (H X : Nat) (hH : H < 18446744073709551616) (hX : X < 4294967296) (W : World) (hb : Below w.heap.size w W) : Calls Try.prog 42 #[.pointer (some ⟨p, 0, none⟩), .int .u64 (H : Int), .int .u32 (X : Int)] W (ret (.tuple (t.fdV H X)) W) := by
  obtain ⟨AF, cF, AM, cM, AE, cE, hX'⟩ := h
  exact rfind_any (hX'.step hb) ht H X hH hX
theorem fdV_none {t : Tb} {H X : Nat} (h : t.find H X = none) : t.fdV H X = #[.int .i64 0, .bool false] := by unfold Tb.fdV; rw [h]
theorem fdV_some {t : Tb} {H X k : Nat} (h : t.find H X = some k) : t.fdV H X = #[.int .i64 (k : Int), .bool true] := by unfold Tb.fdV; rw [h]
set_option maxHeartbeats 4000000 in
theorem rhas_any (h : RG w q qn qx s G Gn Gx) (hs : s.Ok) (H X : Nat) (hH : H < 18446744073709551616) (hX : X < 4294967296) : Calls Try.prog 52 #[.pointer (some ⟨q, 0, none⟩), .agg #[.int .u64 (H : Int), .int .u32 (X : Int)]] w (ret (.bool (s.has H X)) w) := by
  obtain ⟨R, hR⟩ : ∃ R, R = s.has H X := ⟨_, rfl⟩
  have HR : Hid (R = ((s.now.find H X).isSome || (s.mv && (s.next.find H X).isSome))) := Lib.hid hR
  rw [← hR]
  clear hR
  have HFN := Lib.hid (tfind_c h.now hs.now H X hH hX)
  cases hmv : s.mv with
  | true =>
    have HMV := Lib.hid hmv
    have HFX := Lib.hid (tfind_c (h.next hmv) (hs.next hmv) H X hH hX)
    clear hmv
    cases hf : s.now.find H X with
    | some k =>
      have HV : Hid (R = true) := Lib.hid (by rw [HR.out, hf]; rfl)
      rw [fdV_some hf] at HFN
      clear hf
      have HB0 : Hid (Below w.heap.size w (w.alloc (.cells #[.int .u64 (H : Int), .int .u32 (X : Int)] 34))) := Lib.hid (below_alloc w _)
      have HE0 : Hid ((w.alloc (.cells #[.int .u64 (H : Int), .int .u32 (X : Int)] 34)).heap[w.heap.size]? = some (.cells #[.int .u64 (H : Int), .int .u32 (X : Int)] 34 (0, 0))) := Lib.hid (heap_alloc_new w _)
      have HG := Lib.hid (h.step HB0.out)
      obtain ⟨r, hr⟩ : ∃ r, r = w.heap.size := ⟨_, rfl⟩
      rw [← hr] at HE0
      clear h hs hH hX
      go_enter Try.func52, Try.ntmps52
      go_upto_region 1 with fail
      change Code.wp _ _ _ _ (w.alloc (.cells #[.int .u64 (H : Int), .int .u32 (X : Int)] 34))
      rw [← hr]
      clear hr
      generalize w.alloc (.cells #[.int .u64 (H : Int), .int .u32 (X : Int)] 34) = u0 at *
      have HFN0 := Lib.hid fun W (k : Below u0.heap.size u0 W) => HFN.out W (HB0.out.trans (k.mono HB0.out.size))
      have hq := HG.out.blk
      rw [HMV.out] at hq
      have H0 : Hid (∀ W : Stay u0, W.w.cell? ⟨q, 0, none⟩ = some (.pointer (some ⟨qn, 0, none⟩))) := Lib.hid fun W => Stay.cell (blk_cell hq 0) W
      have H1 : Hid (∀ W : Stay u0, W.w.cell? ⟨q, 1, none⟩ = some (.pointer (some ⟨qx, 0, none⟩))) := Lib.hid fun W => Stay.cell (blk_cell hq 1) W
      have H4 : Hid (∀ W : Stay u0, W.w.cell? ⟨q, 4, none⟩ = some (.int .i64 (s.at_ : Int))) := Lib.hid fun W => Stay.cell (blk_cell hq 4) W
      have x2 : u0.cell? ⟨q, 2, none⟩ = some (.bool true) := blk_cell hq 2
      clear hq
      clear x2
      have e0 : ∀ W : Stay u0, W.w.cell? ⟨r, 0, none⟩ = some (.int .u64 (H : Int)) := fun W => Stay.cell (blk_cell HE0.out 0) W
      have e1 : ∀ W : Stay u0, W.w.cell? ⟨r, 1, none⟩ = some (.int .u32 (X : Int)) := fun W => Stay.cell (blk_cell HE0.out 1) W
      have y0 := H0.out
      refine wp_region_stay (by kernel_rfl) (by kernel_rfl) ?_
      repeat (go_big_quiet_step (first | (go_at_call 42; with_reducible exact Calls.stay _ (HFN0.out _ (Stay.below _)))))
      refine wpQuiet_nil ?_
      intro w' hw'
      obtain ⟨W, rfl⟩ := hw'
      have HB1 := Lib.hid W.below
      have HG1 := Lib.hid (HG.out.step HB1.out)
      have HE1 : Hid (W.w.heap[r]? = some (.cells #[.int .u64 (H : Int), .int .u32 (X : Int)] 34 (0, 0))) := Lib.hid ((HB1.out.block r (lt_heap HE0.out)).trans HE0.out)
      have HW1 := Lib.hid (HB0.out.trans (HB1.out.mono HB0.out.size))
      clear y0 e0 e1 H0 H1 H4
      generalize W.w = u1 at *
      have hq := HG1.out.blk
      rw [HMV.out] at hq
      have x2 : u1.cell? ⟨q, 2, none⟩ = some (.bool true) := blk_cell hq 2
      have x0 : u1.cell? ⟨q, 0, none⟩ = some (.pointer (some ⟨qn, 0, none⟩)) := blk_cell hq 0
      clear hq
      go_wp2_with fail
      go_ret
      exact ⟨by rw [HV.out]; rfl, HW1.out⟩
    | none =>
      rw [fdV_none hf] at HFN
      cases hx : s.next.find H X with
      | some k =>
        have HV : Hid (R = true) := Lib.hid (by rw [HR.out, hf, hx, HMV.out]; rfl)
        rw [fdV_some hx] at HFX
        clear hf hx
        have HB0 : Hid (Below w.heap.size w (w.alloc (.cells #[.int .u64 (H : Int), .int .u32 (X : Int)] 34))) := Lib.hid (below_alloc w _)
        have HE0 : Hid ((w.alloc (.cells #[.int .u64 (H : Int), .int .u32 (X : Int)] 34)).heap[w.heap.size]? = some (.cells #[.int .u64 (H : Int), .int .u32 (X : Int)] 34 (0, 0))) := Lib.hid (heap_alloc_new w _)
        have HG := Lib.hid (h.step HB0.out)
        obtain ⟨r, hr⟩ : ∃ r, r = w.heap.size := ⟨_, rfl⟩
        rw [← hr] at HE0
        clear h hs hH hX
        go_enter Try.func52, Try.ntmps52
        go_upto_region 1 with fail
        change Code.wp _ _ _ _ (w.alloc (.cells #[.int .u64 (H : Int), .int .u32 (X : Int)] 34))
        rw [← hr]
        clear hr
        generalize w.alloc (.cells #[.int .u64 (H : Int), .int .u32 (X : Int)] 34) = u0 at *
        have HFN0 := Lib.hid fun W (k : Below u0.heap.size u0 W) => HFN.out W (HB0.out.trans (k.mono HB0.out.size))
        have hq := HG.out.blk
        rw [HMV.out] at hq
        have H0 : Hid (∀ W : Stay u0, W.w.cell? ⟨q, 0, none⟩ = some (.pointer (some ⟨qn, 0, none⟩))) := Lib.hid fun W => Stay.cell (blk_cell hq 0) W
        have H1 : Hid (∀ W : Stay u0, W.w.cell? ⟨q, 1, none⟩ = some (.pointer (some ⟨qx, 0, none⟩))) := Lib.hid fun W => Stay.cell (blk_cell hq 1) W
        have H4 : Hid (∀ W : Stay u0, W.w.cell? ⟨q, 4, none⟩ = some (.int .i64 (s.at_ : Int))) := Lib.hid fun W => Stay.cell (blk_cell hq 4) W
        have x2 : u0.cell? ⟨q, 2, none⟩ = some (.bool true) := blk_cell hq 2
        clear hq
        clear x2
        have e0 : ∀ W : Stay u0, W.w.cell? ⟨r, 0, none⟩ = some (.int .u64 (H : Int)) := fun W => Stay.cell (blk_cell HE0.out 0) W
        have e1 : ∀ W : Stay u0, W.w.cell? ⟨r, 1, none⟩ = some (.int .u32 (X : Int)) := fun W => Stay.cell (blk_cell HE0.out 1) W
        have y0 := H0.out
        refine wp_region_stay (by kernel_rfl) (by kernel_rfl) ?_
        repeat (go_big_quiet_step (first | (go_at_call 42; with_reducible exact Calls.stay _ (HFN0.out _ (Stay.below _)))))
        refine wpQuiet_nil ?_
        intro w' hw'
        obtain ⟨W, rfl⟩ := hw'
        have HB1 := Lib.hid W.below
        have HG1 := Lib.hid (HG.out.step HB1.out)
        have HE1 : Hid (W.w.heap[r]? = some (.cells #[.int .u64 (H : Int), .int .u32 (X : Int)] 34 (0, 0))) := Lib.hid ((HB1.out.block r (lt_heap HE0.out)).trans HE0.out)
        have HW1 := Lib.hid (HB0.out.trans (HB1.out.mono HB0.out.size))
        clear y0 e0 e1 H0 H1 H4
        generalize W.w = u1 at *
        have hq := HG1.out.blk
        rw [HMV.out] at hq
        have x2 : u1.cell? ⟨q, 2, none⟩ = some (.bool true) := blk_cell hq 2
        have x0 : u1.cell? ⟨q, 0, none⟩ = some (.pointer (some ⟨qn, 0, none⟩)) := blk_cell hq 0
        clear hq
        go_upto_region 3 with fail
        clear x2 x0
        have HFX1 := Lib.hid fun W (k : Below u1.heap.size u1 W) => HFX.out W (HW1.out.trans (k.mono HW1.out.size))
        have hq := HG1.out.blk
        rw [HMV.out] at hq
        have y1 : ∀ W : Stay u1, W.w.cell? ⟨q, 1, none⟩ = some (.pointer (some ⟨qx, 0, none⟩)) := fun W => Stay.cell (blk_cell hq 1) W
        have e0 : ∀ W : Stay u1, W.w.cell? ⟨r, 0, none⟩ = some (.int .u64 (H : Int)) := fun W => Stay.cell (blk_cell HE1.out 0) W
        have e1 : ∀ W : Stay u1, W.w.cell? ⟨r, 1, none⟩ = some (.int .u32 (X : Int)) := fun W => Stay.cell (blk_cell HE1.out 1) W
        refine wp_region_stay (by kernel_rfl) (by kernel_rfl) ?_
        repeat (go_big_quiet_step (first | (go_at_call 42; with_reducible exact Calls.stay _ (HFX1.out _ (Stay.below _)))))
        refine wpQuiet_nil ?_
        intro w' hw'
        obtain ⟨W, rfl⟩ := hw'
        have HB2 := Lib.hid (HB1.out.trans (W.below.mono HB1.out.size))
        have HG2 := Lib.hid (HG1.out.step W.below)
        have HW2 := Lib.hid (HW1.out.trans (W.below.mono HW1.out.size))
        clear y1 e0 e1 hq
        generalize W.w = u2 at *
        go_wp2_with fail
        go_ret
        exact ⟨by rw [HV.out]; rfl, HW2.out⟩
      | none =>
        have HV : Hid (R = false) := Lib.hid (by rw [HR.out, hf, hx, HMV.out]; rfl)
        rw [fdV_none hx] at HFX
        clear hf hx
        have HB0 : Hid (Below w.heap.size w (w.alloc (.cells #[.int .u64 (H : Int), .int .u32 (X : Int)] 34))) := Lib.hid (below_alloc w _)
        have HE0 : Hid ((w.alloc (.cells #[.int .u64 (H : Int), .int .u32 (X : Int)] 34)).heap[w.heap.size]? = some (.cells #[.int .u64 (H : Int), .int .u32 (X : Int)] 34 (0, 0))) := Lib.hid (heap_alloc_new w _)
        have HG := Lib.hid (h.step HB0.out)
        obtain ⟨r, hr⟩ : ∃ r, r = w.heap.size := ⟨_, rfl⟩
        rw [← hr] at HE0
        clear h hs hH hX
        go_enter Try.func52, Try.ntmps52
        go_upto_region 1 with fail
        change Code.wp _ _ _ _ (w.alloc (.cells #[.int .u64 (H : Int), .int .u32 (X : Int)] 34))
        rw [← hr]
        clear hr
        generalize w.alloc (.cells #[.int .u64 (H : Int), .int .u32 (X : Int)] 34) = u0 at *
        have HFN0 := Lib.hid fun W (k : Below u0.heap.size u0 W) => HFN.out W (HB0.out.trans (k.mono HB0.out.size))
        have hq := HG.out.blk
        rw [HMV.out] at hq
        have H0 : Hid (∀ W : Stay u0, W.w.cell? ⟨q, 0, none⟩ = some (.pointer (some ⟨qn, 0, none⟩))) := Lib.hid fun W => Stay.cell (blk_cell hq 0) W
        have H1 : Hid (∀ W : Stay u0, W.w.cell? ⟨q, 1, none⟩ = some (.pointer (some ⟨qx, 0, none⟩))) := Lib.hid fun W => Stay.cell (blk_cell hq 1) W
        have H4 : Hid (∀ W : Stay u0, W.w.cell? ⟨q, 4, none⟩ = some (.int .i64 (s.at_ : Int))) := Lib.hid fun W => Stay.cell (blk_cell hq 4) W
        have x2 : u0.cell? ⟨q, 2, none⟩ = some (.bool true) := blk_cell hq 2
        clear hq
        clear x2
        have e0 : ∀ W : Stay u0, W.w.cell? ⟨r, 0, none⟩ = some (.int .u64 (H : Int)) := fun W => Stay.cell (blk_cell HE0.out 0) W
        have e1 : ∀ W : Stay u0, W.w.cell? ⟨r, 1, none⟩ = some (.int .u32 (X : Int)) := fun W => Stay.cell (blk_cell HE0.out 1) W
        have y0 := H0.out
        refine wp_region_stay (by kernel_rfl) (by kernel_rfl) ?_
        repeat (go_big_quiet_step (first | (go_at_call 42; with_reducible exact Calls.stay _ (HFN0.out _ (Stay.below _)))))
        refine wpQuiet_nil ?_
        intro w' hw'
        obtain ⟨W, rfl⟩ := hw'
        have HB1 := Lib.hid W.below
        have HG1 := Lib.hid (HG.out.step HB1.out)
        have HE1 : Hid (W.w.heap[r]? = some (.cells #[.int .u64 (H : Int), .int .u32 (X : Int)] 34 (0, 0))) := Lib.hid ((HB1.out.block r (lt_heap HE0.out)).trans HE0.out)
        have HW1 := Lib.hid (HB0.out.trans (HB1.out.mono HB0.out.size))
        clear y0 e0 e1 H0 H1 H4
        generalize W.w = u1 at *
        have hq := HG1.out.blk
        rw [HMV.out] at hq
        have x2 : u1.cell? ⟨q, 2, none⟩ = some (.bool true) := blk_cell hq 2
        have x0 : u1.cell? ⟨q, 0, none⟩ = some (.pointer (some ⟨qn, 0, none⟩)) := blk_cell hq 0
        clear hq
        go_upto_region 3 with fail
        clear x2 x0
        have HFX1 := Lib.hid fun W (k : Below u1.heap.size u1 W) => HFX.out W (HW1.out.trans (k.mono HW1.out.size))
        have hq := HG1.out.blk
        rw [HMV.out] at hq
        have y1 : ∀ W : Stay u1, W.w.cell? ⟨q, 1, none⟩ = some (.pointer (some ⟨qx, 0, none⟩)) := fun W => Stay.cell (blk_cell hq 1) W
        have e0 : ∀ W : Stay u1, W.w.cell? ⟨r, 0, none⟩ = some (.int .u64 (H : Int)) := fun W => Stay.cell (blk_cell HE1.out 0) W
        have e1 : ∀ W : Stay u1, W.w.cell? ⟨r, 1, none⟩ = some (.int .u32 (X : Int)) := fun W => Stay.cell (blk_cell HE1.out 1) W
        refine wp_region_stay (by kernel_rfl) (by kernel_rfl) ?_
        repeat (go_big_quiet_step (first | (go_at_call 42; with_reducible exact Calls.stay _ (HFX1.out _ (Stay.below _)))))
        refine wpQuiet_nil ?_
        intro w' hw'
        obtain ⟨W, rfl⟩ := hw'
        have HB2 := Lib.hid (HB1.out.trans (W.below.mono HB1.out.size))
        have HG2 := Lib.hid (HG1.out.step W.below)
        have HW2 := Lib.hid (HW1.out.trans (W.below.mono HW1.out.size))
        clear y1 e0 e1 hq
        generalize W.w = u2 at *
        go_wp2_with fail
        go_ret
        exact ⟨by rw [HV.out]; rfl, HW2.out⟩
  | false =>
    have HMV := Lib.hid hmv
    clear hmv
    cases hf : s.now.find H X with
    | some k =>
      have HV : Hid (R = true) := Lib.hid (by rw [HR.out, hf]; rfl)
      rw [fdV_some hf] at HFN
      clear hf
      have HB0 : Hid (Below w.heap.size w (w.alloc (.cells #[.int .u64 (H : Int), .int .u32 (X : Int)] 34))) := Lib.hid (below_alloc w _)
      have HE0 : Hid ((w.alloc (.cells #[.int .u64 (H : Int), .int .u32 (X : Int)] 34)).heap[w.heap.size]? = some (.cells #[.int .u64 (H : Int), .int .u32 (X : Int)] 34 (0, 0))) := Lib.hid (heap_alloc_new w _)
      have HG := Lib.hid (h.step HB0.out)
      obtain ⟨r, hr⟩ : ∃ r, r = w.heap.size := ⟨_, rfl⟩
      rw [← hr] at HE0
      clear h hs hH hX
      go_enter Try.func52, Try.ntmps52
      go_upto_region 1 with fail
      change Code.wp _ _ _ _ (w.alloc (.cells #[.int .u64 (H : Int), .int .u32 (X : Int)] 34))
      rw [← hr]
      clear hr
      generalize w.alloc (.cells #[.int .u64 (H : Int), .int .u32 (X : Int)] 34) = u0 at *
      have HFN0 := Lib.hid fun W (k : Below u0.heap.size u0 W) => HFN.out W (HB0.out.trans (k.mono HB0.out.size))
      have hq := HG.out.blk
      rw [HMV.out] at hq
      have H0 : Hid (∀ W : Stay u0, W.w.cell? ⟨q, 0, none⟩ = some (.pointer (some ⟨qn, 0, none⟩))) := Lib.hid fun W => Stay.cell (blk_cell hq 0) W
      have H1 : Hid (∀ W : Stay u0, W.w.cell? ⟨q, 1, none⟩ = some (.pointer none)) := Lib.hid fun W => Stay.cell (blk_cell hq 1) W
      have H4 : Hid (∀ W : Stay u0, W.w.cell? ⟨q, 4, none⟩ = some (.int .i64 (s.at_ : Int))) := Lib.hid fun W => Stay.cell (blk_cell hq 4) W
      have x2 : u0.cell? ⟨q, 2, none⟩ = some (.bool false) := blk_cell hq 2
      clear hq
      clear x2
      have e0 : ∀ W : Stay u0, W.w.cell? ⟨r, 0, none⟩ = some (.int .u64 (H : Int)) := fun W => Stay.cell (blk_cell HE0.out 0) W
      have e1 : ∀ W : Stay u0, W.w.cell? ⟨r, 1, none⟩ = some (.int .u32 (X : Int)) := fun W => Stay.cell (blk_cell HE0.out 1) W
      have y0 := H0.out
      refine wp_region_stay (by kernel_rfl) (by kernel_rfl) ?_
      repeat (go_big_quiet_step (first | (go_at_call 42; with_reducible exact Calls.stay _ (HFN0.out _ (Stay.below _)))))
      refine wpQuiet_nil ?_
      intro w' hw'
      obtain ⟨W, rfl⟩ := hw'
      have HB1 := Lib.hid W.below
      have HG1 := Lib.hid (HG.out.step HB1.out)
      have HE1 : Hid (W.w.heap[r]? = some (.cells #[.int .u64 (H : Int), .int .u32 (X : Int)] 34 (0, 0))) := Lib.hid ((HB1.out.block r (lt_heap HE0.out)).trans HE0.out)
      have HW1 := Lib.hid (HB0.out.trans (HB1.out.mono HB0.out.size))
      clear y0 e0 e1 H0 H1 H4
      generalize W.w = u1 at *
      have hq := HG1.out.blk
      rw [HMV.out] at hq
      have x2 : u1.cell? ⟨q, 2, none⟩ = some (.bool false) := blk_cell hq 2
      have x0 : u1.cell? ⟨q, 0, none⟩ = some (.pointer (some ⟨qn, 0, none⟩)) := blk_cell hq 0
      clear hq
      go_wp2_with fail
      go_ret
      exact ⟨by rw [HV.out]; rfl, HW1.out⟩
    | none =>
      have HV : Hid (R = false) := Lib.hid (by rw [HR.out, hf, HMV.out]; rfl)
      rw [fdV_none hf] at HFN
      clear hf
      have HB0 : Hid (Below w.heap.size w (w.alloc (.cells #[.int .u64 (H : Int), .int .u32 (X : Int)] 34))) := Lib.hid (below_alloc w _)
      have HE0 : Hid ((w.alloc (.cells #[.int .u64 (H : Int), .int .u32 (X : Int)] 34)).heap[w.heap.size]? = some (.cells #[.int .u64 (H : Int), .int .u32 (X : Int)] 34 (0, 0))) := Lib.hid (heap_alloc_new w _)
      have HG := Lib.hid (h.step HB0.out)
      obtain ⟨r, hr⟩ : ∃ r, r = w.heap.size := ⟨_, rfl⟩
      rw [← hr] at HE0
      clear h hs hH hX
      go_enter Try.func52, Try.ntmps52
      go_upto_region 1 with fail
      change Code.wp _ _ _ _ (w.alloc (.cells #[.int .u64 (H : Int), .int .u32 (X : Int)] 34))
      rw [← hr]
      clear hr
      generalize w.alloc (.cells #[.int .u64 (H : Int), .int .u32 (X : Int)] 34) = u0 at *
      have HFN0 := Lib.hid fun W (k : Below u0.heap.size u0 W) => HFN.out W (HB0.out.trans (k.mono HB0.out.size))
      have hq := HG.out.blk
      rw [HMV.out] at hq
      have H0 : Hid (∀ W : Stay u0, W.w.cell? ⟨q, 0, none⟩ = some (.pointer (some ⟨qn, 0, none⟩))) := Lib.hid fun W => Stay.cell (blk_cell hq 0) W
      have H1 : Hid (∀ W : Stay u0, W.w.cell? ⟨q, 1, none⟩ = some (.pointer none)) := Lib.hid fun W => Stay.cell (blk_cell hq 1) W
      have H4 : Hid (∀ W : Stay u0, W.w.cell? ⟨q, 4, none⟩ = some (.int .i64 (s.at_ : Int))) := Lib.hid fun W => Stay.cell (blk_cell hq 4) W
      have x2 : u0.cell? ⟨q, 2, none⟩ = some (.bool false) := blk_cell hq 2
      clear hq
      clear x2
      have e0 : ∀ W : Stay u0, W.w.cell? ⟨r, 0, none⟩ = some (.int .u64 (H : Int)) := fun W => Stay.cell (blk_cell HE0.out 0) W
      have e1 : ∀ W : Stay u0, W.w.cell? ⟨r, 1, none⟩ = some (.int .u32 (X : Int)) := fun W => Stay.cell (blk_cell HE0.out 1) W
      have y0 := H0.out
      refine wp_region_stay (by kernel_rfl) (by kernel_rfl) ?_
      repeat (go_big_quiet_step (first | (go_at_call 42; with_reducible exact Calls.stay _ (HFN0.out _ (Stay.below _)))))
      refine wpQuiet_nil ?_
      intro w' hw'
      obtain ⟨W, rfl⟩ := hw'
      have HB1 := Lib.hid W.below
      have HG1 := Lib.hid (HG.out.step HB1.out)
      have HE1 : Hid (W.w.heap[r]? = some (.cells #[.int .u64 (H : Int), .int .u32 (X : Int)] 34 (0, 0))) := Lib.hid ((HB1.out.block r (lt_heap HE0.out)).trans HE0.out)
      have HW1 := Lib.hid (HB0.out.trans (HB1.out.mono HB0.out.size))
      clear y0 e0 e1 H0 H1 H4
      generalize W.w = u1 at *
      have hq := HG1.out.blk
      rw [HMV.out] at hq
      have x2 : u1.cell? ⟨q, 2, none⟩ = some (.bool false) := blk_cell hq 2
      have x0 : u1.cell? ⟨q, 0, none⟩ = some (.pointer (some ⟨qn, 0, none⟩)) := blk_cell hq 0
      clear hq
      go_wp2_with fail
      go_ret
      exact ⟨by rw [HV.out]; rfl, HW1.out⟩
set_option maxHeartbeats 4000000 in
theorem rgdrop_any (h : RG w q qn qx s G Gn Gx) (hs : s.Ok) (H X : Nat) (hH : H < 18446744073709551616) (hX : X < 4294967296) : Calls Try.prog 13 #[.pointer (some ⟨q, 0, none⟩), .agg #[.int .u64 (H : Int), .int .u32 (X : Int)]] w fun e w' => e = .returned (.int .i64 (s.drE H X)) ∧ ∃ G', RGA w' q (s.dr H X) G' ∧ ExtG G G' w w' := by
  have HS := Lib.hid hs
  have HFN := Lib.hid (tfind_c h.now hs.now H X hH hX)
  obtain ⟨R, hR⟩ : ∃ R, R = s.drE H X := ⟨_, rfl⟩
  have HR := Lib.hid hR
  rw [← hR]
  clear hR
  cases hf : s.now.find H X with
  | some k =>
    have HD : Hid (s.dr H X = ⟨s.now.dr (k : Int), s.next, s.mv, s.most, s.at_⟩) := Lib.hid (by unfold Gr.dr; rw [hf])
    have HV : Hid (R = s.now.drE (k : Int)) := Lib.hid (by rw [HR.out]; unfold Gr.drE; rw [hf])
    rw [fdV_some hf] at HFN
    clear hf
    cases hmv : s.mv with
    | true =>
      have HMV := Lib.hid hmv
      clear hmv
      have HB0 : Hid (Below w.heap.size w (w.alloc (.cells #[.int .u64 (H : Int), .int .u32 (X : Int)] 34))) := Lib.hid (below_alloc w _)
      have HE0 : Hid ((w.alloc (.cells #[.int .u64 (H : Int), .int .u32 (X : Int)] 34)).heap[w.heap.size]? = some (.cells #[.int .u64 (H : Int), .int .u32 (X : Int)] 34 (0, 0))) := Lib.hid (heap_alloc_new w _)
      have HG := Lib.hid (h.step HB0.out)
      obtain ⟨r, hr⟩ : ∃ r, r = w.heap.size := ⟨_, rfl⟩
      rw [← hr] at HE0
      clear h hs hH hX
      go_enter Try.func13, Try.ntmps13
      go_upto_region 1 with fail
      change Code.wp _ _ _ _ (w.alloc (.cells #[.int .u64 (H : Int), .int .u32 (X : Int)] 34))
      rw [← hr]
      clear hr
      generalize w.alloc (.cells #[.int .u64 (H : Int), .int .u32 (X : Int)] 34) = u0 at *
      have HFN0 := Lib.hid fun W (k : Below u0.heap.size u0 W) => HFN.out W (HB0.out.trans (k.mono HB0.out.size))
      have hq := HG.out.blk
      rw [HMV.out] at hq
      have H0 : Hid (∀ W : Stay u0, W.w.cell? ⟨q, 0, none⟩ = some (.pointer (some ⟨qn, 0, none⟩))) := Lib.hid fun W => Stay.cell (blk_cell hq 0) W
      have H1 : Hid (∀ W : Stay u0, W.w.cell? ⟨q, 1, none⟩ = some (.pointer (some ⟨qx, 0, none⟩))) := Lib.hid fun W => Stay.cell (blk_cell hq 1) W
      have H4 : Hid (∀ W : Stay u0, W.w.cell? ⟨q, 4, none⟩ = some (.int .i64 (s.at_ : Int))) := Lib.hid fun W => Stay.cell (blk_cell hq 4) W
      have x2 : u0.cell? ⟨q, 2, none⟩ = some (.bool true) := blk_cell hq 2
      clear hq
      clear x2
      have e0 : ∀ W : Stay u0, W.w.cell? ⟨r, 0, none⟩ = some (.int .u64 (H : Int)) := fun W => Stay.cell (blk_cell HE0.out 0) W
      have e1 : ∀ W : Stay u0, W.w.cell? ⟨r, 1, none⟩ = some (.int .u32 (X : Int)) := fun W => Stay.cell (blk_cell HE0.out 1) W
      have y0 := H0.out
      refine wp_region_stay (by kernel_rfl) (by kernel_rfl) ?_
      repeat (go_big_quiet_step (first | (go_at_call 42; with_reducible exact Calls.stay _ (HFN0.out _ (Stay.below _)))))
      refine wpQuiet_nil ?_
      intro w' hw'
      obtain ⟨W, rfl⟩ := hw'
      have HB1 := Lib.hid W.below
      have HG1 := Lib.hid (HG.out.step HB1.out)
      have HE1 : Hid (W.w.heap[r]? = some (.cells #[.int .u64 (H : Int), .int .u32 (X : Int)] 34 (0, 0))) := Lib.hid ((HB1.out.block r (lt_heap HE0.out)).trans HE0.out)
      have HW1 := Lib.hid (HB0.out.trans (HB1.out.mono HB0.out.size))
      clear y0 e0 e1 H0 H1 H4
      generalize W.w = u1 at *
      have hq := HG1.out.blk
      rw [HMV.out] at hq
      have x2 : u1.cell? ⟨q, 2, none⟩ = some (.bool true) := blk_cell hq 2
      have x0 : u1.cell? ⟨q, 0, none⟩ = some (.pointer (some ⟨qn, 0, none⟩)) := blk_cell hq 0
      clear hq
      have HPP := Lib.hid (rdrop_ext HG1.out.now HS.out.now (k : Int))
      rw [← HV.out] at HPP
      go_wp2_with (first
        | (go_at_call 43
           refine HPP.out.mono ?_
           rintro e u9 ⟨rfl, G9, ha, hx⟩
           have HA9 := Lib.hid ha
           have HX9 := Lib.hid hx
           clear ha hx x0 x2))
      go_ret
      refine ⟨rfl, _, ?_, (ExtG.of_below HW1.out).trans (HG1.out.setN HA9.out HX9.out).2⟩
      rw [HD.out]
      exact ⟨_, _, _, _, (HG1.out.setN HA9.out HX9.out).1⟩
    | false =>
      have HMV := Lib.hid hmv
      clear hmv
      have HB0 : Hid (Below w.heap.size w (w.alloc (.cells #[.int .u64 (H : Int), .int .u32 (X : Int)] 34))) := Lib.hid (below_alloc w _)
      have HE0 : Hid ((w.alloc (.cells #[.int .u64 (H : Int), .int .u32 (X : Int)] 34)).heap[w.heap.size]? = some (.cells #[.int .u64 (H : Int), .int .u32 (X : Int)] 34 (0, 0))) := Lib.hid (heap_alloc_new w _)
      have HG := Lib.hid (h.step HB0.out)
      obtain ⟨r, hr⟩ : ∃ r, r = w.heap.size := ⟨_, rfl⟩
      rw [← hr] at HE0
      clear h hs hH hX
      go_enter Try.func13, Try.ntmps13
      go_upto_region 1 with fail
      change Code.wp _ _ _ _ (w.alloc (.cells #[.int .u64 (H : Int), .int .u32 (X : Int)] 34))
      rw [← hr]
      clear hr
      generalize w.alloc (.cells #[.int .u64 (H : Int), .int .u32 (X : Int)] 34) = u0 at *
      have HFN0 := Lib.hid fun W (k : Below u0.heap.size u0 W) => HFN.out W (HB0.out.trans (k.mono HB0.out.size))
      have hq := HG.out.blk
      rw [HMV.out] at hq
      have H0 : Hid (∀ W : Stay u0, W.w.cell? ⟨q, 0, none⟩ = some (.pointer (some ⟨qn, 0, none⟩))) := Lib.hid fun W => Stay.cell (blk_cell hq 0) W
      have H1 : Hid (∀ W : Stay u0, W.w.cell? ⟨q, 1, none⟩ = some (.pointer none)) := Lib.hid fun W => Stay.cell (blk_cell hq 1) W
      have H4 : Hid (∀ W : Stay u0, W.w.cell? ⟨q, 4, none⟩ = some (.int .i64 (s.at_ : Int))) := Lib.hid fun W => Stay.cell (blk_cell hq 4) W
      have x2 : u0.cell? ⟨q, 2, none⟩ = some (.bool false) := blk_cell hq 2
      clear hq
      clear x2
      have e0 : ∀ W : Stay u0, W.w.cell? ⟨r, 0, none⟩ = some (.int .u64 (H : Int)) := fun W => Stay.cell (blk_cell HE0.out 0) W
      have e1 : ∀ W : Stay u0, W.w.cell? ⟨r, 1, none⟩ = some (.int .u32 (X : Int)) := fun W => Stay.cell (blk_cell HE0.out 1) W
      have y0 := H0.out
      refine wp_region_stay (by kernel_rfl) (by kernel_rfl) ?_
      repeat (go_big_quiet_step (first | (go_at_call 42; with_reducible exact Calls.stay _ (HFN0.out _ (Stay.below _)))))
      refine wpQuiet_nil ?_
      intro w' hw'
      obtain ⟨W, rfl⟩ := hw'
      have HB1 := Lib.hid W.below
      have HG1 := Lib.hid (HG.out.step HB1.out)
      have HE1 : Hid (W.w.heap[r]? = some (.cells #[.int .u64 (H : Int), .int .u32 (X : Int)] 34 (0, 0))) := Lib.hid ((HB1.out.block r (lt_heap HE0.out)).trans HE0.out)
      have HW1 := Lib.hid (HB0.out.trans (HB1.out.mono HB0.out.size))
      clear y0 e0 e1 H0 H1 H4
      generalize W.w = u1 at *
      have hq := HG1.out.blk
      rw [HMV.out] at hq
      have x2 : u1.cell? ⟨q, 2, none⟩ = some (.bool false) := blk_cell hq 2
      have x0 : u1.cell? ⟨q, 0, none⟩ = some (.pointer (some ⟨qn, 0, none⟩)) := blk_cell hq 0
      clear hq
      have HPP := Lib.hid (rdrop_ext HG1.out.now HS.out.now (k : Int))
      rw [← HV.out] at HPP
      go_wp2_with (first
        | (go_at_call 43
           refine HPP.out.mono ?_
           rintro e u9 ⟨rfl, G9, ha, hx⟩
           have HA9 := Lib.hid ha
           have HX9 := Lib.hid hx
           clear ha hx x0 x2))
      go_ret
      refine ⟨rfl, _, ?_, (ExtG.of_below HW1.out).trans (HG1.out.setN HA9.out HX9.out).2⟩
      rw [HD.out]
      exact ⟨_, _, _, _, (HG1.out.setN HA9.out HX9.out).1⟩
  | none =>
    rw [fdV_none hf] at HFN
    cases hmv : s.mv with
    | true =>
      have HMV := Lib.hid hmv
      have HFX := Lib.hid (tfind_c (h.next hmv) (hs.next hmv) H X hH hX)
      cases hx : s.next.find H X with
      | some k =>
        have HD : Hid (s.dr H X = ⟨s.now, s.next.dr (k : Int), true, s.most, s.at_⟩) := Lib.hid (by unfold Gr.dr; rw [hf, hmv, if_pos rfl, hx])
        have HV : Hid (R = s.next.drE (k : Int)) := Lib.hid (by rw [HR.out]; unfold Gr.drE; rw [hf, hmv, if_pos rfl, hx])
        rw [fdV_some hx] at HFX
        clear hf hx hmv
        have HB0 : Hid (Below w.heap.size w (w.alloc (.cells #[.int .u64 (H : Int), .int .u32 (X : Int)] 34))) := Lib.hid (below_alloc w _)
        have HE0 : Hid ((w.alloc (.cells #[.int .u64 (H : Int), .int .u32 (X : Int)] 34)).heap[w.heap.size]? = some (.cells #[.int .u64 (H : Int), .int .u32 (X : Int)] 34 (0, 0))) := Lib.hid (heap_alloc_new w _)
        have HG := Lib.hid (h.step HB0.out)
        obtain ⟨r, hr⟩ : ∃ r, r = w.heap.size := ⟨_, rfl⟩
        rw [← hr] at HE0
        clear h hs hH hX
        go_enter Try.func13, Try.ntmps13
        go_upto_region 1 with fail
        change Code.wp _ _ _ _ (w.alloc (.cells #[.int .u64 (H : Int), .int .u32 (X : Int)] 34))
        rw [← hr]
        clear hr
        generalize w.alloc (.cells #[.int .u64 (H : Int), .int .u32 (X : Int)] 34) = u0 at *
        have HFN0 := Lib.hid fun W (k : Below u0.heap.size u0 W) => HFN.out W (HB0.out.trans (k.mono HB0.out.size))
        have hq := HG.out.blk
        rw [HMV.out] at hq
        have H0 : Hid (∀ W : Stay u0, W.w.cell? ⟨q, 0, none⟩ = some (.pointer (some ⟨qn, 0, none⟩))) := Lib.hid fun W => Stay.cell (blk_cell hq 0) W
        have H1 : Hid (∀ W : Stay u0, W.w.cell? ⟨q, 1, none⟩ = some (.pointer (some ⟨qx, 0, none⟩))) := Lib.hid fun W => Stay.cell (blk_cell hq 1) W
        have H4 : Hid (∀ W : Stay u0, W.w.cell? ⟨q, 4, none⟩ = some (.int .i64 (s.at_ : Int))) := Lib.hid fun W => Stay.cell (blk_cell hq 4) W
        have x2 : u0.cell? ⟨q, 2, none⟩ = some (.bool true) := blk_cell hq 2
        clear hq
        clear x2
        have e0 : ∀ W : Stay u0, W.w.cell? ⟨r, 0, none⟩ = some (.int .u64 (H : Int)) := fun W => Stay.cell (blk_cell HE0.out 0) W
        have e1 : ∀ W : Stay u0, W.w.cell? ⟨r, 1, none⟩ = some (.int .u32 (X : Int)) := fun W => Stay.cell (blk_cell HE0.out 1) W
        have y0 := H0.out
        refine wp_region_stay (by kernel_rfl) (by kernel_rfl) ?_
        repeat (go_big_quiet_step (first | (go_at_call 42; with_reducible exact Calls.stay _ (HFN0.out _ (Stay.below _)))))
        refine wpQuiet_nil ?_
        intro w' hw'
        obtain ⟨W, rfl⟩ := hw'
        have HB1 := Lib.hid W.below
        have HG1 := Lib.hid (HG.out.step HB1.out)
        have HE1 : Hid (W.w.heap[r]? = some (.cells #[.int .u64 (H : Int), .int .u32 (X : Int)] 34 (0, 0))) := Lib.hid ((HB1.out.block r (lt_heap HE0.out)).trans HE0.out)
        have HW1 := Lib.hid (HB0.out.trans (HB1.out.mono HB0.out.size))
        clear y0 e0 e1 H0 H1 H4
        generalize W.w = u1 at *
        have hq := HG1.out.blk
        rw [HMV.out] at hq
        have x2 : u1.cell? ⟨q, 2, none⟩ = some (.bool true) := blk_cell hq 2
        have x0 : u1.cell? ⟨q, 0, none⟩ = some (.pointer (some ⟨qn, 0, none⟩)) := blk_cell hq 0
        clear hq
        go_upto_region 5 with fail
        clear x2 x0
        have HFX1 := Lib.hid fun W (k : Below u1.heap.size u1 W) => HFX.out W (HW1.out.trans (k.mono HW1.out.size))
        have hq := HG1.out.blk
        rw [HMV.out] at hq
        have y1 : ∀ W : Stay u1, W.w.cell? ⟨q, 1, none⟩ = some (.pointer (some ⟨qx, 0, none⟩)) := fun W => Stay.cell (blk_cell hq 1) W
        have e0 : ∀ W : Stay u1, W.w.cell? ⟨r, 0, none⟩ = some (.int .u64 (H : Int)) := fun W => Stay.cell (blk_cell HE1.out 0) W
        have e1 : ∀ W : Stay u1, W.w.cell? ⟨r, 1, none⟩ = some (.int .u32 (X : Int)) := fun W => Stay.cell (blk_cell HE1.out 1) W
        refine wp_region_stay (by kernel_rfl) (by kernel_rfl) ?_
        repeat (go_big_quiet_step (first | (go_at_call 42; with_reducible exact Calls.stay _ (HFX1.out _ (Stay.below _)))))
        refine wpQuiet_nil ?_
        intro w' hw'
        obtain ⟨W, rfl⟩ := hw'
        have HB2 := Lib.hid (HB1.out.trans (W.below.mono HB1.out.size))
        have HG2 := Lib.hid (HG1.out.step W.below)
        have HW2 := Lib.hid (HW1.out.trans (W.below.mono HW1.out.size))
        clear y1 e0 e1 hq
        generalize W.w = u2 at *
        have HPP := Lib.hid (rdrop_ext (HG2.out.next HMV.out) (HS.out.next HMV.out) (k : Int))
        rw [← HV.out] at HPP
        have hq := HG2.out.blk
        rw [HMV.out] at hq
        have x1 : u2.cell? ⟨q, 1, none⟩ = some (.pointer (some ⟨qx, 0, none⟩)) := blk_cell hq 1
        clear hq
        go_wp2_with (first
          | (go_at_call 43
             refine HPP.out.mono ?_
             rintro e u9 ⟨rfl, G9, ha, hx⟩
             have HA9 := Lib.hid ha
             have HX9 := Lib.hid hx
             clear ha hx x1))
        go_ret
        refine ⟨rfl, _, ?_, (ExtG.of_below HW2.out).trans (HG2.out.putX HMV.out HA9.out HX9.out).2⟩
        rw [HD.out]
        exact ⟨_, _, _, _, (HG2.out.putX HMV.out HA9.out HX9.out).1⟩
      | none =>
        have HD : Hid (s.dr H X = s) := Lib.hid (by unfold Gr.dr; rw [hf, hmv, if_pos rfl, hx])
        have HV : Hid (R = 7) := Lib.hid (by rw [HR.out]; unfold Gr.drE; rw [hf, hmv, if_pos rfl, hx])
        rw [fdV_none hx] at HFX
        clear hf hx hmv
        have HB0 : Hid (Below w.heap.size w (w.alloc (.cells #[.int .u64 (H : Int), .int .u32 (X : Int)] 34))) := Lib.hid (below_alloc w _)
        have HE0 : Hid ((w.alloc (.cells #[.int .u64 (H : Int), .int .u32 (X : Int)] 34)).heap[w.heap.size]? = some (.cells #[.int .u64 (H : Int), .int .u32 (X : Int)] 34 (0, 0))) := Lib.hid (heap_alloc_new w _)
        have HG := Lib.hid (h.step HB0.out)
        obtain ⟨r, hr⟩ : ∃ r, r = w.heap.size := ⟨_, rfl⟩
        rw [← hr] at HE0
        clear h hs hH hX
        go_enter Try.func13, Try.ntmps13
        go_upto_region 1 with fail
        change Code.wp _ _ _ _ (w.alloc (.cells #[.int .u64 (H : Int), .int .u32 (X : Int)] 34))
        rw [← hr]
        clear hr
        generalize w.alloc (.cells #[.int .u64 (H : Int), .int .u32 (X : Int)] 34) = u0 at *
        have HFN0 := Lib.hid fun W (k : Below u0.heap.size u0 W) => HFN.out W (HB0.out.trans (k.mono HB0.out.size))
        have hq := HG.out.blk
        rw [HMV.out] at hq
        have H0 : Hid (∀ W : Stay u0, W.w.cell? ⟨q, 0, none⟩ = some (.pointer (some ⟨qn, 0, none⟩))) := Lib.hid fun W => Stay.cell (blk_cell hq 0) W
        have H1 : Hid (∀ W : Stay u0, W.w.cell? ⟨q, 1, none⟩ = some (.pointer (some ⟨qx, 0, none⟩))) := Lib.hid fun W => Stay.cell (blk_cell hq 1) W
        have H4 : Hid (∀ W : Stay u0, W.w.cell? ⟨q, 4, none⟩ = some (.int .i64 (s.at_ : Int))) := Lib.hid fun W => Stay.cell (blk_cell hq 4) W
        have x2 : u0.cell? ⟨q, 2, none⟩ = some (.bool true) := blk_cell hq 2
        clear hq
        clear x2
        have e0 : ∀ W : Stay u0, W.w.cell? ⟨r, 0, none⟩ = some (.int .u64 (H : Int)) := fun W => Stay.cell (blk_cell HE0.out 0) W
        have e1 : ∀ W : Stay u0, W.w.cell? ⟨r, 1, none⟩ = some (.int .u32 (X : Int)) := fun W => Stay.cell (blk_cell HE0.out 1) W
        have y0 := H0.out
        refine wp_region_stay (by kernel_rfl) (by kernel_rfl) ?_
        repeat (go_big_quiet_step (first | (go_at_call 42; with_reducible exact Calls.stay _ (HFN0.out _ (Stay.below _)))))
        refine wpQuiet_nil ?_
        intro w' hw'
        obtain ⟨W, rfl⟩ := hw'
        have HB1 := Lib.hid W.below
        have HG1 := Lib.hid (HG.out.step HB1.out)
        have HE1 : Hid (W.w.heap[r]? = some (.cells #[.int .u64 (H : Int), .int .u32 (X : Int)] 34 (0, 0))) := Lib.hid ((HB1.out.block r (lt_heap HE0.out)).trans HE0.out)
        have HW1 := Lib.hid (HB0.out.trans (HB1.out.mono HB0.out.size))
        clear y0 e0 e1 H0 H1 H4
        generalize W.w = u1 at *
        have hq := HG1.out.blk
        rw [HMV.out] at hq
        have x2 : u1.cell? ⟨q, 2, none⟩ = some (.bool true) := blk_cell hq 2
        have x0 : u1.cell? ⟨q, 0, none⟩ = some (.pointer (some ⟨qn, 0, none⟩)) := blk_cell hq 0
        clear hq
        go_upto_region 5 with fail
        clear x2 x0
        have HFX1 := Lib.hid fun W (k : Below u1.heap.size u1 W) => HFX.out W (HW1.out.trans (k.mono HW1.out.size))
        have hq := HG1.out.blk
        rw [HMV.out] at hq
        have y1 : ∀ W : Stay u1, W.w.cell? ⟨q, 1, none⟩ = some (.pointer (some ⟨qx, 0, none⟩)) := fun W => Stay.cell (blk_cell hq 1) W
        have e0 : ∀ W : Stay u1, W.w.cell? ⟨r, 0, none⟩ = some (.int .u64 (H : Int)) := fun W => Stay.cell (blk_cell HE1.out 0) W
        have e1 : ∀ W : Stay u1, W.w.cell? ⟨r, 1, none⟩ = some (.int .u32 (X : Int)) := fun W => Stay.cell (blk_cell HE1.out 1) W
        refine wp_region_stay (by kernel_rfl) (by kernel_rfl) ?_
        repeat (go_big_quiet_step (first | (go_at_call 42; with_reducible exact Calls.stay _ (HFX1.out _ (Stay.below _)))))
        refine wpQuiet_nil ?_
        intro w' hw'
        obtain ⟨W, rfl⟩ := hw'
        have HB2 := Lib.hid (HB1.out.trans (W.below.mono HB1.out.size))
        have HG2 := Lib.hid (HG1.out.step W.below)
        have HW2 := Lib.hid (HW1.out.trans (W.below.mono HW1.out.size))
        clear y1 e0 e1 hq
        generalize W.w = u2 at *
        go_wp2_with fail
        go_ret
        refine ⟨by rw [HV.out]; rfl, G, ?_, ExtG.of_below HW2.out⟩
        rw [HD.out]
        exact ⟨_, _, _, _, HG2.out⟩
    | false =>
      have HMV := Lib.hid hmv
      have HD : Hid (s.dr H X = s) := Lib.hid (by unfold Gr.dr; rw [hf, hmv, if_neg Bool.false_ne_true])
      have HV : Hid (R = 7) := Lib.hid (by rw [HR.out]; unfold Gr.drE; rw [hf, hmv, if_neg Bool.false_ne_true])
      clear hf hmv
      have HB0 : Hid (Below w.heap.size w (w.alloc (.cells #[.int .u64 (H : Int), .int .u32 (X : Int)] 34))) := Lib.hid (below_alloc w _)
      have HE0 : Hid ((w.alloc (.cells #[.int .u64 (H : Int), .int .u32 (X : Int)] 34)).heap[w.heap.size]? = some (.cells #[.int .u64 (H : Int), .int .u32 (X : Int)] 34 (0, 0))) := Lib.hid (heap_alloc_new w _)
      have HG := Lib.hid (h.step HB0.out)
      obtain ⟨r, hr⟩ : ∃ r, r = w.heap.size := ⟨_, rfl⟩
      rw [← hr] at HE0
      clear h hs hH hX
      go_enter Try.func13, Try.ntmps13
      go_upto_region 1 with fail
      change Code.wp _ _ _ _ (w.alloc (.cells #[.int .u64 (H : Int), .int .u32 (X : Int)] 34))
      rw [← hr]
      clear hr
      generalize w.alloc (.cells #[.int .u64 (H : Int), .int .u32 (X : Int)] 34) = u0 at *
      have HFN0 := Lib.hid fun W (k : Below u0.heap.size u0 W) => HFN.out W (HB0.out.trans (k.mono HB0.out.size))
      have hq := HG.out.blk
      rw [HMV.out] at hq
      have H0 : Hid (∀ W : Stay u0, W.w.cell? ⟨q, 0, none⟩ = some (.pointer (some ⟨qn, 0, none⟩))) := Lib.hid fun W => Stay.cell (blk_cell hq 0) W
      have H1 : Hid (∀ W : Stay u0, W.w.cell? ⟨q, 1, none⟩ = some (.pointer none)) := Lib.hid fun W => Stay.cell (blk_cell hq 1) W
      have H4 : Hid (∀ W : Stay u0, W.w.cell? ⟨q, 4, none⟩ = some (.int .i64 (s.at_ : Int))) := Lib.hid fun W => Stay.cell (blk_cell hq 4) W
      have x2 : u0.cell? ⟨q, 2, none⟩ = some (.bool false) := blk_cell hq 2
      clear hq
      clear x2
      have e0 : ∀ W : Stay u0, W.w.cell? ⟨r, 0, none⟩ = some (.int .u64 (H : Int)) := fun W => Stay.cell (blk_cell HE0.out 0) W
      have e1 : ∀ W : Stay u0, W.w.cell? ⟨r, 1, none⟩ = some (.int .u32 (X : Int)) := fun W => Stay.cell (blk_cell HE0.out 1) W
      have y0 := H0.out
      refine wp_region_stay (by kernel_rfl) (by kernel_rfl) ?_
      repeat (go_big_quiet_step (first | (go_at_call 42; with_reducible exact Calls.stay _ (HFN0.out _ (Stay.below _)))))
      refine wpQuiet_nil ?_
      intro w' hw'
      obtain ⟨W, rfl⟩ := hw'
      have HB1 := Lib.hid W.below
      have HG1 := Lib.hid (HG.out.step HB1.out)
      have HE1 : Hid (W.w.heap[r]? = some (.cells #[.int .u64 (H : Int), .int .u32 (X : Int)] 34 (0, 0))) := Lib.hid ((HB1.out.block r (lt_heap HE0.out)).trans HE0.out)
      have HW1 := Lib.hid (HB0.out.trans (HB1.out.mono HB0.out.size))
      clear y0 e0 e1 H0 H1 H4
      generalize W.w = u1 at *
      have hq := HG1.out.blk
      rw [HMV.out] at hq
      have x2 : u1.cell? ⟨q, 2, none⟩ = some (.bool false) := blk_cell hq 2
      have x0 : u1.cell? ⟨q, 0, none⟩ = some (.pointer (some ⟨qn, 0, none⟩)) := blk_cell hq 0
      clear hq
      go_wp2_with fail
      go_ret
      refine ⟨by rw [HV.out]; rfl, G, ?_, ExtG.of_below HW1.out⟩
      rw [HD.out]
      exact ⟨_, _, _, _, HG1.out⟩
theorem rleft_any (h : RG w q qn qx s G Gn Gx) (hs : s.Ok) : Calls Try.prog 50 #[.pointer (some ⟨q, 0, none⟩)] w (ret (.int .i64 (s.left : Int)) w) := by
  obtain ⟨R, hR⟩ : ∃ R, R = s.left := ⟨_, rfl⟩
  have HR : Hid (R = if s.mv then s.now.n - s.at_ else 0) := Lib.hid hR
  rw [← hR]
  clear hR
  have HG := Lib.hid h
  obtain ⟨AE, cE, hE⟩ := tlen_c h.now
  have HE := Lib.hid hE
  have htop := hs.now.top
  cases hmv : s.mv with
  | true =>
    have HMV := Lib.hid hmv
    have hc := hs.cur hmv
    have HV : Hid (R = s.now.n - s.at_) := Lib.hid (by rw [HR.out, if_pos hmv])
    obtain ⟨n, hn⟩ : ∃ n, n = s.now.n := ⟨_, rfl⟩
    rw [← hn] at HE htop hc HV
    have zs : IntKind.i64.wrap ((n : Int) - (s.at_ : Int)) = (n : Int) - (s.at_ : Int) := by rw [IntKind.wrap_i64]; omega
    have HL : Hid ((n : Int) - (s.at_ : Int) = ((n - s.at_ : Nat) : Int)) := Lib.hid (by omega)
    clear hmv hE hn h hs
    have hq := HG.out.blk
    rw [HMV.out] at hq
    have H0 : Hid (∀ W : Stay w, W.w.cell? ⟨q, 0, none⟩ = some (.pointer (some ⟨qn, 0, none⟩))) := Lib.hid fun W => Stay.cell (blk_cell hq 0) W
    have H1 : Hid (∀ W : Stay w, W.w.cell? ⟨q, 1, none⟩ = some (.pointer (some ⟨qx, 0, none⟩))) := Lib.hid fun W => Stay.cell (blk_cell hq 1) W
    have H4 : Hid (∀ W : Stay w, W.w.cell? ⟨q, 4, none⟩ = some (.int .i64 (s.at_ : Int))) := Lib.hid fun W => Stay.cell (blk_cell hq 4) W
    have x2 : w.cell? ⟨q, 2, none⟩ = some (.bool true) := blk_cell hq 2
    clear hq
    have HC : Hid (∀ W : Stay w, W.w.cell? ⟨qn, 2, none⟩ = some (.slice AE n cE)) := Lib.hid fun W => HE.out W.w W.below
    go_enter Try.func50, Try.ntmps50
    go_upto_region 2 with fail
    clear x2
    have y0 := H0.out
    have y4 := H4.out
    have yc := HC.out
    refine wp_region_stay (by kernel_rfl) (by kernel_rfl) ?_
    repeat (go_big_quiet_step (fail))
    refine wpQuiet_nil ?_
    intro w' hw'
    obtain ⟨W, rfl⟩ := hw'
    have HB := Lib.hid W.below
    go_wp2_with fail
    go_ret
    exact ⟨by rw [HV.out, ← HL.out]; rfl, HB.out⟩
  | false =>
    have HMV := Lib.hid hmv
    have HV : Hid (R = 0) := Lib.hid (by rw [HR.out, if_neg (by rw [hmv]; exact Bool.false_ne_true)])
    clear hmv hE h hs
    have hq := HG.out.blk
    rw [HMV.out] at hq
    have H0 : Hid (∀ W : Stay w, W.w.cell? ⟨q, 0, none⟩ = some (.pointer (some ⟨qn, 0, none⟩))) := Lib.hid fun W => Stay.cell (blk_cell hq 0) W
    have H1 : Hid (∀ W : Stay w, W.w.cell? ⟨q, 1, none⟩ = some (.pointer none)) := Lib.hid fun W => Stay.cell (blk_cell hq 1) W
    have H4 : Hid (∀ W : Stay w, W.w.cell? ⟨q, 4, none⟩ = some (.int .i64 (s.at_ : Int))) := Lib.hid fun W => Stay.cell (blk_cell hq 4) W
    have x2 : w.cell? ⟨q, 2, none⟩ = some (.bool false) := blk_cell hq 2
    clear hq
    go_enter Try.func50, Try.ntmps50
    go_wp2_with fail
    go_ret
    exact ⟨by rw [HV.out]; rfl, Below.refl _ _⟩
theorem rgmarks_any (h : RG w q qn qx s G Gn Gx) (hs : s.Ok) : Calls Try.prog 51 #[.pointer (some ⟨q, 0, none⟩)] w (ret (.int .i64 (s.marks : Int)) w) := by
  obtain ⟨R, hR⟩ : ∃ R, R = s.marks := ⟨_, rfl⟩
  have HR : Hid (R = s.now.marks + if s.mv then s.next.marks else 0) := Lib.hid hR
  rw [← hR]
  clear hR
  have HG := Lib.hid h
  have HMN := Lib.hid (tmrk_c h.now hs.now)
  have l1 := (tent_le hs.now).2
  obtain ⟨a, ha⟩ : ∃ a, a = s.now.marks := ⟨_, rfl⟩
  rw [← ha] at HMN HR l1
  clear ha
  cases hmv : s.mv with
  | true =>
    have HMV := Lib.hid hmv
    have HMX := Lib.hid (tmrk_c (h.next hmv) (hs.next hmv))
    have l2 := (tent_le (hs.next hmv)).2
    obtain ⟨b, hb⟩ : ∃ b, b = s.next.marks := ⟨_, rfl⟩
    rw [← hb] at HMX l2
    have HV : Hid (R = a + b) := Lib.hid (by rw [HR.out, if_pos hmv, hb])
    have za : IntKind.i64.wrap ((a : Int) + (b : Int)) = (a : Int) + (b : Int) := by rw [IntKind.wrap_i64]; omega
    clear hmv hb h hs
    have hq := HG.out.blk
    rw [HMV.out] at hq
    have H0 : Hid (∀ W : Stay w, W.w.cell? ⟨q, 0, none⟩ = some (.pointer (some ⟨qn, 0, none⟩))) := Lib.hid fun W => Stay.cell (blk_cell hq 0) W
    have H1 : Hid (∀ W : Stay w, W.w.cell? ⟨q, 1, none⟩ = some (.pointer (some ⟨qx, 0, none⟩))) := Lib.hid fun W => Stay.cell (blk_cell hq 1) W
    have H4 : Hid (∀ W : Stay w, W.w.cell? ⟨q, 4, none⟩ = some (.int .i64 (s.at_ : Int))) := Lib.hid fun W => Stay.cell (blk_cell hq 4) W
    have x2 : w.cell? ⟨q, 2, none⟩ = some (.bool true) := blk_cell hq 2
    clear hq
    go_enter Try.func51, Try.ntmps51
    go_upto_region 2 with fail
    clear x2
    have y0 := H0.out
    have y1 := H1.out
    refine wp_region_stay (by kernel_rfl) (by kernel_rfl) ?_
    repeat (go_big_quiet_step (first | (go_at_call 37; with_reducible exact Calls.stay _ (HMN.out _ (Stay.below _))) | (go_at_call 37; with_reducible exact Calls.stay _ (HMX.out _ (Stay.below _)))))
    refine wpQuiet_nil ?_
    intro w' hw'
    obtain ⟨W, rfl⟩ := hw'
    have HB := Lib.hid W.below
    go_wp2_with fail
    go_ret
    exact ⟨by rw [HV.out]; rfl, HB.out⟩
  | false =>
    have HMV := Lib.hid hmv
    have HV : Hid (R = a) := Lib.hid (by rw [HR.out, if_neg (by rw [hmv]; exact Bool.false_ne_true), Nat.add_zero])
    clear hmv h hs
    have hq := HG.out.blk
    rw [HMV.out] at hq
    have x0 : w.cell? ⟨q, 0, none⟩ = some (.pointer (some ⟨qn, 0, none⟩)) := blk_cell hq 0
    have x2 : w.cell? ⟨q, 2, none⟩ = some (.bool false) := blk_cell hq 2
    clear hq
    go_enter Try.func51, Try.ntmps51
    go_wp2_with (first
      | (go_at_call 37
         refine (HMN.out _ (Below.refl _ _)).mono ?_
         rintro e u ⟨rfl, hb⟩
         have HB := Lib.hid hb
         clear hb))
    go_ret
    exact ⟨by rw [HV.out]; rfl, HB.out⟩
end
end Go.Proofs.Ythjghofjdcepmaa
