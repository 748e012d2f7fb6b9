/- Stage 9: the landed Free. -/
import Derived.Test.YthljpfmonienlaaLe
namespace Go.Proofs.Ythljpfmonienlaa
set_option maxRecDepth 100000
open Go.RowKit
set_option maxHeartbeats 1000000 in
theorem pfreeX_no {w : World} {p g n c : Nat} {fd : Int} {fs lv S : Nat} {ha : Nat → Nat} {bf : Nat → Int} {F : Nat → Prop} (h : PX w p g n c fd fs lv S ha bf F) (i : Int) (k : Nat)
    (hL : ∀ W, PX W p g n c fd fs lv S ha bf F → Calls Try.prog 18 #[.pointer (some ⟨p, 0, none⟩), .agg #[.int .i64 i, .int .u64 (k : Int)]] W (ret (.bool false) W)) : Calls Try.prog 11 #[.pointer (some ⟨p, 0, none⟩), .agg #[.int .i64 i, .int .u64 (k : Int)]] w (ret (.int .i64 14) w) := by
  have HX0 := Lib.hid h
  have HL := Lib.hid hL
  have HM0 : Hid ((w.alloc (.cells #[.int .i64 i, .int .u64 (k : Int)] 32)).heap[w.heap.size]? = some (.cells #[.int .i64 i, .int .u64 (k : Int)] 32 (0, 0))) := Lib.hid (heap_alloc_new w _)
  have HB0 : Hid (Below w.heap.size w (w.alloc (.cells #[.int .i64 i, .int .u64 (k : Int)] 32))) := Lib.hid (below_alloc w _)
  have HX1 := Lib.hid (h.step HB0.out)
  have HPW : Hid (p < w.heap.size) := Lib.hid (h.old p h.mp)
  have HGW : Hid (g < w.heap.size) := Lib.hid (h.old g h.mg)
  have hpos := h.pos
  have hn0 : ((n : Int) == 0) = false := by simp; omega
  obtain ⟨r, hr⟩ : ∃ r, r = w.heap.size := ⟨_, rfl⟩
  have HRW := Lib.hid hr
  rw [← hr] at HM0
  clear h hL
  go_enter Try.func11, Try.ntmps11
  go_upto_region 1 with fail
  change Code.wp _ _ _ _ (w.alloc (.cells #[.int .i64 i, .int .u64 (k : Int)] 32))
  rw [← hr]
  clear hr
  generalize w.alloc (.cells #[.int .i64 i, .int .u64 (k : Int)] 32) = u1 at *
  have x0 : u1.cell? ⟨p, 0, none⟩ = some (.slice (some ⟨g, 0, none⟩) n c) := blk_cell HX1.out.blk 0
  go_upto_region 3 with (first
    | (go_at_call 19
       refine (psize_c u1 p _ n c x0).mono ?_
       rintro e u2 ⟨rfl, hb⟩
       have HX2 := Lib.hid (HX1.out.step hb)
       have HM2 : Hid (u2.heap[r]? = some (.cells #[.int .i64 i, .int .u64 (k : Int)] 32 (0, 0))) := Lib.hid ((hb.block _ (lt_heap HM0.out)).trans HM0.out)
       have HB2 := Lib.hid (HB0.out.trans (hb.mono HB0.out.size))
       clear hb))
  clear x0 HX1 HM0 HB0
  go_wp2_with (first
  | (refine wpList_load_row rfl 32 (.tmp 3) rfl r rfl 32 #[.int .i64 i, .int .u64 (k : Int)] (0, 0) _ HM2.out Try.underlying32 rfl (by kernel_rfl) ?_)
  | (go_at_call 18
     refine (HL.out _ HX2.out).mono ?_
     rintro e u3 ⟨rfl, hb⟩
     have HX3 := Lib.hid (HX2.out.step hb)
     have HM3 : Hid (u3.heap[r]? = some (.cells #[.int .i64 i, .int .u64 (k : Int)] 32 (0, 0))) := Lib.hid ((hb.block _ (lt_heap HM2.out)).trans HM2.out)
     have HB3 := Lib.hid (HB2.out.trans (hb.mono HB2.out.size))
     clear hb))
  go_ret
  exact ⟨rfl, HB3.out⟩
set_option maxHeartbeats 2000000 in
theorem pfreeX_any {w : World} {p g n c : Nat} {fd : Int} {fs lv S : Nat} {ha : Nat → Nat} {bf : Nat → Int} {F : Nat → Prop} (h : PX w p g n c fd fs lv S ha bf F) (hn : n ≤ 65536) (hl0 : 0 < lv) (hl : lv ≤ n) (i k : Nat) (hi : i < n)
    (hL : ∀ W, PX W p g n c fd fs lv S ha bf F → Calls Try.prog 18 #[.pointer (some ⟨p, 0, none⟩), .agg #[.int .i64 (i : Int), .int .u64 (k : Int)]] W (ret (.bool true) W)) :
    Calls Try.prog 11 #[.pointer (some ⟨p, 0, none⟩), .agg #[.int .i64 (i : Int), .int .u64 (k : Int)]] w fun e w' => e = .returned (.int .i64 0) ∧ PX w' p g n c (i : Int) fs (lv - 1) S (fun k => if k = i then 0 else ha k) (fun k => if k = i then fd else bf k) F ∧ Kept (fun k => k = p ∨ k = g) w w' := by
  have HX0 := Lib.hid h
  have HL := Lib.hid hL
  have HM0 : Hid ((w.alloc (.cells #[.int .i64 (i : Int), .int .u64 (k : Int)] 32)).heap[w.heap.size]? = some (.cells #[.int .i64 (i : Int), .int .u64 (k : Int)] 32 (0, 0))) := Lib.hid (heap_alloc_new w _)
  have HB0 : Hid (Below w.heap.size w (w.alloc (.cells #[.int .i64 (i : Int), .int .u64 (k : Int)] 32))) := Lib.hid (below_alloc w _)
  have HX1 := Lib.hid (h.step HB0.out)
  have HPW : Hid (p < w.heap.size) := Lib.hid (h.old p h.mp)
  have HGW : Hid (g < w.heap.size) := Lib.hid (h.old g h.mg)
  have hpos := h.pos
  have hn0 : ((n : Int) == 0) = false := by simp; omega
  obtain ⟨r, hr⟩ : ∃ r, r = w.heap.size := ⟨_, rfl⟩
  have HRW := Lib.hid hr
  rw [← hr] at HM0
  clear h hL
  go_enter Try.func11, Try.ntmps11
  go_upto_region 1 with fail
  change Code.wp _ _ _ _ (w.alloc (.cells #[.int .i64 (i : Int), .int .u64 (k : Int)] 32))
  rw [← hr]
  clear hr
  generalize w.alloc (.cells #[.int .i64 (i : Int), .int .u64 (k : Int)] 32) = u1 at *
  have x0 : u1.cell? ⟨p, 0, none⟩ = some (.slice (some ⟨g, 0, none⟩) n c) := blk_cell HX1.out.blk 0
  go_upto_region 3 with (first
    | (go_at_call 19
       refine (psize_c u1 p _ n c x0).mono ?_
       rintro e u2 ⟨rfl, hb⟩
       have HX2 := Lib.hid (HX1.out.step hb)
       have HM2 : Hid (u2.heap[r]? = some (.cells #[.int .i64 (i : Int), .int .u64 (k : Int)] 32 (0, 0))) := Lib.hid ((hb.block _ (lt_heap HM0.out)).trans HM0.out)
       have HB2 := Lib.hid (HB0.out.trans (hb.mono HB0.out.size))
       clear hb))
  clear x0 HX1 HM0 HB0
  have HPR : Hid (p ≠ r) := Lib.hid (by have := HPW.out; have := HRW.out; omega)
  have HGR : Hid (g ≠ r) := Lib.hid (by have := HGW.out; have := HRW.out; omega)
  go_upto_region 5 with (first
  | (refine wpList_load_row rfl 32 (.tmp 3) rfl r rfl 32 #[.int .i64 (i : Int), .int .u64 (k : Int)] (0, 0) _ HM2.out Try.underlying32 rfl (by kernel_rfl) ?_)
  | (go_at_call 18
     refine (HL.out _ HX2.out).mono ?_
     rintro e u3 ⟨rfl, hb⟩
     have HX3 := Lib.hid (HX2.out.step hb)
     have HM3 : Hid (u3.heap[r]? = some (.cells #[.int .i64 (i : Int), .int .u64 (k : Int)] 32 (0, 0))) := Lib.hid ((hb.block _ (lt_heap HM2.out)).trans HM2.out)
     have HB3 := Lib.hid (HB2.out.trans (hb.mono HB2.out.size))
     clear hb))
  clear HX2 HM2 HB2
  have xp0 : u3.cell? ⟨p, 0, none⟩ = some (.slice (some ⟨g, 0, none⟩) n c) := blk_cell HX3.out.blk 0
  have xp1 : u3.cell? ⟨p, 1, none⟩ = some (.int .i64 fd) := blk_cell HX3.out.blk 1
  have xr0 : u3.cell? ⟨r, 0, none⟩ = some (.int .i64 (i : Int)) := blk_cell HM3.out 0
  have HPL : Hid (p < u3.heap.size) := Lib.hid (HX3.out.old p HX3.out.mp)
  have HRL : Hid (r < u3.heap.size) := Lib.hid (lt_heap HM3.out)
  have hbd : ∀ w, (Instr.build 65 #[(1, .int .i64 fd)]).run Try.prog w = .ok (.agg #[.int .u64 0, .int .i64 fd]) w := fun w => by kernel_rfl
  have i0 : (0 : Int) ≤ (i : Int) := by omega
  have i1 : (i : Int) < (n : Int) := by omega
  have i2 : ((i : Int)).toNat = i := by omega
  have cap := HX3.out.cap
  have cap9 := HX3.out.cap9
  refine wp_region_grow (C := fun W => Below u3.heap.size u3 W) 12 36 [val (.pointer (some ⟨p, 0, none⟩)), val (.pointer (some ⟨p, 0, none⟩)), val (.pointer (some ⟨p, 0, none⟩)), val (.slice (some ⟨g, 0, none⟩) n c), val (.pointer (some ⟨r, 0, none⟩)), val (.int .i64 (i : Int)), val (.pointer (some ⟨p, 0, none⟩)), val (.pointer (some ⟨p, 0, none⟩)), val (.pointer (some ⟨p, 1, none⟩)), val (.int .i64 fd), val (.agg #[.int .u64 0, .int .i64 fd]), val (.pointer (some ⟨g, i * 2, none⟩))] (by kernel_rfl) rfl (by kernel_rfl) rfl ⟨stb_val _, stb_val _, stb_val _, stb_val _, stb_val _, stb_val _, stb_val _, stb_val _, stb_val _, stb_val _, stb_val _, stb_val _, trivial⟩ (Below.refl _ _).drew ?_ ?_
  · refine each_cons ?_ ?_
    · intro a W hW hd
      have h0 : a.tmps[0]?.getD undef = .pointer (some ⟨p, 0, none⟩) := slot_eq (hd 0 (by decide))
      exact grows_value _ hW (by simp [execOp, Act.eval, h0]) rfl
    refine each_cons ?_ ?_
    · intro a W hW hd
      have h12 : a.tmps[12]?.getD undef = .pointer (some ⟨p, 0, none⟩) := slot_eq (hd 12 (by decide))
      refine grows_value _ hW (?_ : _ = _) rfl
      clear hd
      go_simp
    refine each_cons ?_ ?_
    · intro a W hW hd
      have h13 : a.tmps[13]?.getD undef = .pointer (some ⟨p, 0, none⟩) := slot_eq (hd 13 (by decide))
      refine grows_value _ hW (?_ : _ = _) rfl
      clear hd
      go_simp
    refine each_cons ?_ ?_
    · intro a W hW hd
      have h14 : a.tmps[14]?.getD undef = .pointer (some ⟨p, 0, none⟩) := slot_eq (hd 14 (by decide))
      have xx : W.cell? ⟨p, 0, none⟩ = some (.slice (some ⟨g, 0, none⟩) n c) := (hW.cell (p := ⟨p, 0, none⟩) HPL.out).trans xp0
      refine grows_value _ hW (?_ : _ = _) rfl
      clear hd
      go_simp
    refine each_cons ?_ ?_
    · intro a W hW hd
      have h3 : a.tmps[3]?.getD undef = .pointer (some ⟨r, 0, none⟩) := slot_eq (hd 3 (by decide))
      refine grows_value _ hW (?_ : _ = _) rfl
      clear hd
      go_simp
    refine each_cons ?_ ?_
    · intro a W hW hd
      have h16 : a.tmps[16]?.getD undef = .pointer (some ⟨r, 0, none⟩) := slot_eq (hd 16 (by decide))
      have xx : W.cell? ⟨r, 0, none⟩ = some (.int .i64 (i : Int)) := (hW.cell (p := ⟨r, 0, none⟩) HRL.out).trans xr0
      refine grows_value _ hW (?_ : _ = _) rfl
      clear hd
      go_simp
    refine each_cons ?_ ?_
    · intro a W hW hd
      have h0 : a.tmps[0]?.getD undef = .pointer (some ⟨p, 0, none⟩) := slot_eq (hd 0 (by decide))
      exact grows_value _ hW (by simp [execOp, Act.eval, h0]) rfl
    refine each_cons ?_ ?_
    · intro a W hW hd
      have h18 : a.tmps[18]?.getD undef = .pointer (some ⟨p, 0, none⟩) := slot_eq (hd 18 (by decide))
      refine grows_value _ hW (?_ : _ = _) rfl
      clear hd
      go_simp
    refine each_cons ?_ ?_
    · intro a W hW hd
      have h19 : a.tmps[19]?.getD undef = .pointer (some ⟨p, 0, none⟩) := slot_eq (hd 19 (by decide))
      refine grows_value _ hW (?_ : _ = _) rfl
      clear hd
      go_simp
    refine each_cons ?_ ?_
    · intro a W hW hd
      have h20 : a.tmps[20]?.getD undef = .pointer (some ⟨p, 1, none⟩) := slot_eq (hd 20 (by decide))
      have xx : W.cell? ⟨p, 1, none⟩ = some (.int .i64 fd) := (hW.cell (p := ⟨p, 1, none⟩) HPL.out).trans xp1
      refine grows_value _ hW (?_ : _ = _) rfl
      clear hd
      go_simp
    refine each_cons ?_ ?_
    · intro a W hW hd
      have h21 : a.tmps[21]?.getD undef = .int .i64 fd := slot_eq (hd 21 (by decide))
      refine grows_value _ hW (?_ : _ = _) rfl
      have hb := hbd W
      clear hd
      simp [execOp, Act.eval, h21, hb]
    refine each_cons ?_ ?_
    · intro a W hW hd
      have h15 : a.tmps[15]?.getD undef = .slice (some ⟨g, 0, none⟩) n c := slot_eq (hd 15 (by decide))
      have h17 : a.tmps[17]?.getD undef = .int .i64 (i : Int) := slot_eq (hd 17 (by decide))
      refine grows_value _ hW (?_ : _ = _) rfl
      clear hd
      go_simp
    exact each_nil
  · refine behind_val rfl ?_
    refine behind_val rfl ?_
    refine behind_val rfl ?_
    refine behind_val rfl ?_
    refine behind_val rfl ?_
    refine behind_val rfl ?_
    refine behind_val rfl ?_
    refine behind_val rfl ?_
    refine behind_val rfl ?_
    refine behind_val rfl ?_
    refine behind_val rfl ?_
    refine behind_val rfl ?_
    refine behind_nil fun W8 hCW8 hFW8 => ?_
    simp only [Act.put, List.setIfInBounds_toArray, List.set_cons_succ, List.set_cons_zero, List.drop_succ_cons, List.drop_zero]
    clear hFW8 hbd xp0 xp1 xr0
    have HX8 := Lib.hid (HX3.out.step hCW8)
    have HM8 : Hid (W8.heap[r]? = some (.cells #[.int .i64 (i : Int), .int .u64 (k : Int)] 32 (0, 0))) := Lib.hid ((hCW8.block _ (lt_heap HM3.out)).trans HM3.out)
    have HK8 : Hid (Kept (fun k => k = p ∨ k = g) w W8) := Lib.hid ((Kept.of_below HB3.out _).step hCW8)
    clear hCW8 HX3 HM3 HB3
    go_upto_region 6 with (first
      | (refine wpList_store_mid rfl 65 (.tmp 23) (.tmp 22) rfl g (i * 2) #[.int .u64 0, .int .i64 fd] rfl rfl (HX8.out.there hi) (by kernel_rfl) (by simp [Value.oneCell']) ?_))
    have HX9 : Hid (PX (W8.setCells g (i * 2) [.int .u64 0, .int .i64 fd]) p g n c fd fs lv S (fun k => if k = i then 0 else ha k) (fun k => if k = i then fd else bf k) F) := Lib.hid (HX8.out.put i 0 fd)
    have HM9 : Hid ((W8.setCells g (i * 2) [.int .u64 0, .int .i64 fd]).heap[r]? = some (.cells #[.int .i64 (i : Int), .int .u64 (k : Int)] 32 (0, 0))) := Lib.hid ((other_setCells HGR.out.symm _ _ _).trans HM8.out)
    have HK9 : Hid (Kept (fun k => k = p ∨ k = g) w (W8.setCells g (i * 2) [.int .u64 0, .int .i64 fd])) := Lib.hid (HK8.out.setCells (.inl (.inr rfl)) _ _)
    clear HX8 HM8 HK8
    try simp only [Act.put]
    generalize W8.setCells g (i * 2) [.int .u64 0, .int .i64 fd] = u9 at *
    have x1 : u9.cell? ⟨p, 1, none⟩ = some (.int .i64 fd) := blk_cell HX9.out.blk 1
    have y1 := blk_free HX9.out.blk 1
    have xr0 : u9.cell? ⟨r, 0, none⟩ = some (.int .i64 (i : Int)) := blk_cell HM9.out 0
    have HXA : Hid (PX (u9.setCell ⟨p, 1, none⟩ (.int .i64 (i : Int))) p g n c (i : Int) fs lv S (fun k => if k = i then 0 else ha k) (fun k => if k = i then fd else bf k) F) := Lib.hid (HX9.out.set1 _)
    have HKA := Lib.hid (HK9.out.setCell (p := ⟨p, 1, none⟩) (.inl (.inl rfl)) (.int .i64 (i : Int)))
    go_upto_region 7 with fail
    clear x1 y1 xr0 HX9 HM9 HK9
    generalize u9.setCell ⟨p, 1, none⟩ (.int .i64 (i : Int)) = ua at *
    have x3 : ua.cell? ⟨p, 3, none⟩ = some (.int .i64 (lv : Int)) := blk_cell HXA.out.blk 3
    have y3 := blk_free HXA.out.blk 3
    have zl : IntKind.i64.wrap ((lv : Int) - 1) = (lv : Int) - 1 := by rw [IntKind.wrap_i64]; omega
    have HXB : Hid (PX (ua.setCell ⟨p, 3, none⟩ (.int .i64 ((lv : Int) - 1))) p g n c (i : Int) fs (lv - 1) S (fun k => if k = i then 0 else ha k) (fun k => if k = i then fd else bf k) F) := Lib.hid (by
      have := HXA.out.set3 (lv - 1)
      rwa [show ((lv - 1 : Nat) : Int) = (lv : Int) - 1 by omega] at this)
    have HKB := Lib.hid (HKA.out.setCell (p := ⟨p, 3, none⟩) (.inl (.inl rfl)) (.int .i64 ((lv : Int) - 1)))
    go_wp2_with fail
    go_ret
    exact ⟨rfl, HXB.out, HKB.out⟩
end Go.Proofs.Ythljpfmonienlaa
