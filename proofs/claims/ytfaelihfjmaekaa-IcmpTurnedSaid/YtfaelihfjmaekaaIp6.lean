/- IcmpTurned, walked (IPv6). -/
import Derived.Test.YtfaelihfjmaekaaIo
namespace Go.Proofs.Ytfaelihfjmaekaa
open Go.RowKit
set_option maxRecDepth 100000 in
set_option maxHeartbeats 4000000 in
theorem turned_t6 (pr : Int) (s d : Nat → Int) (sp dp : Int) (hs : Byt s) (hd : Byt d) (h1 : 0 ≤ sp ∧ sp ≤ 65535) (h2 : 0 ≤ dp ∧ dp ≤ 65535) (h : Nat → Int) (hh : Byt h) (w : World) :
    Calls Try.prog 5 #[.agg (tupc true pr s d sp dp), .bool true, .agg (arr20 h)] w fun e w' => e = .returned (.bool true) ∧ Below w.heap.size w w' := by
  obtain ⟨i0, hi0, hz0, hz1, hz2⟩ := info_parts Try.info5
  have HI0 := Lib.hid hi0
  have HZ0 := Lib.hid hz0
  have HZ1 := Lib.hid hz1
  have HZ2 := Lib.hid hz2
  clear hi0 hz0 hz1 hz2
  have KN := Lib.hid known_any
  have HI36 := Lib.hid (show (Try.prog.info? 27).map (·.size) = some 36 by kernel_rfl)
  have HS := Lib.hid hs
  have HD := Lib.hid hd
  have HH := Lib.hid hh
  clear hs hd hh
  have e1 : (w.alloc (.cells (tupc true pr s d sp dp) 27)).heap.size = w.heap.size + 1 := by simp
  have HM1 : Hid (Mem w ((w.alloc (.cells (tupc true pr s d sp dp) 27)).alloc (.cells (arr20 h) 41)) [(w.heap.size, .cells (tupc true pr s d sp dp) 27 (0, 0)), (w.heap.size + 1, .cells (arr20 h) 41 (0, 0))]) := Lib.hid (((Mem.nil w).alloc (.cells (tupc true pr s d sp dp) 27)).new (.cells (arr20 h) 41) (w.heap.size + 1) e1.symm)
  clear e1
  go_enter Try.func5, Try.ntmps5
  go_upto_region 1 with fail
  change Code.wp _ _ _ _ ((w.alloc (.cells (tupc true pr s d sp dp) 27)).alloc (.cells (arr20 h) 41))
  generalize (w.alloc (.cells (tupc true pr s d sp dp) 27)).alloc (.cells (arr20 h) 41) = u1 at *
  have x1 : u1.cell? ⟨w.heap.size, 1, none⟩ = some (.int .u8 pr) := blk_cell (HM1.out.get 0 rfl) 1
  have y1 := blk_free (HM1.out.get 0 rfl) 1
  go_upto_region 5 with fail
  have HM2 : Hid (Mem w ((u1.setCell ⟨w.heap.size, 1, none⟩ (.int .u8 17)).setCell ⟨w.heap.size, 1, none⟩ (.int .u8 6)) [(w.heap.size, .cells (tupc true 6 s d sp dp) 27 (0, 0)), (w.heap.size + 1, .cells (arr20 h) 41 (0, 0))]) := Lib.hid ((HM1.out.set 0 rfl 1 (.int .u8 17)).set 0 rfl 1 (.int .u8 6))
  clear x1 y1 HM1
  generalize (u1.setCell ⟨w.heap.size, 1, none⟩ (.int .u8 17)).setCell ⟨w.heap.size, 1, none⟩ (.int .u8 6) = u2 at *
  have x0 : u2.cell? ⟨w.heap.size, 0, none⟩ = some (.bool true) := blk_cell (HM2.out.get 0 rfl) 0
  have x1 : u2.cell? ⟨w.heap.size, 1, none⟩ = some (.int .u8 6) := blk_cell (HM2.out.get 0 rfl) 1
  have x34 : u2.cell? ⟨w.heap.size, 34, none⟩ = some (.int .u16 sp) := blk_cell (HM2.out.get 0 rfl) 34
  have x35 : u2.cell? ⟨w.heap.size, 35, none⟩ = some (.int .u16 dp) := blk_cell (HM2.out.get 0 rfl) 35
  have HN : Hid ((u2.alloc (.cells tupz 27)).heap[u2.heap.size]? = some (.cells tupz 27 (0, 0))) := heap_alloc_new u2 _
  go_upto_region 6 with (first
    | (refine wpList_load_mid rfl 22 (.tmp 21) rfl w.heap.size 18 rfl (arr16 d).toList _ (blk_range (HM2.out.get 0 rfl) (fun k hk => tup_dsts _ _ _ _ _ _ k hk)) Try.underlying22 rfl (by kernel_rfl) ?_)
    | (refine wpList_load_mid rfl 22 (.tmp 23) rfl w.heap.size 2 rfl (arr16 s).toList _ (blk_range (HM2.out.get 0 rfl) (fun k hk => tup_srcs _ _ _ _ _ _ k hk)) Try.underlying22 rfl (by kernel_rfl) ?_)
    | (refine wpList_tup rfl (.tmp 18) (.tmp 20) (.tmp 22) (.tmp 24) (.tmp 26) (.tmp 28) rfl true 6 d s dp sp rfl rfl rfl rfl rfl rfl ?_)
    | (refine wpList_store_row rfl 27 (.tmp 8) (.tmp 29) rfl u2.heap.size (tupc true 6 d s dp sp) rfl rfl 27 tupz HN.out (by kernel_rfl) rfl (tup_one ..) ?_))
  change Code.wp _ _ _ _ ((u2.alloc (.cells tupz 27)).setRow u2.heap.size (tupc true 6 d s dp sp))
  obtain ⟨q8, hq⟩ : ∃ q, q = u2.heap.size := ⟨_, rfl⟩
  have HM3 : Hid (Mem w ((u2.alloc (.cells tupz 27)).setRow q8 (tupc true 6 d s dp sp)) [(w.heap.size, .cells (tupc true 6 s d sp dp) 27 (0, 0)), (w.heap.size + 1, .cells (arr20 h) 41 (0, 0)), (q8, .cells (tupc true 6 d s dp sp) 27 (0, 0))]) := Lib.hid ((HM2.out.new (.cells tupz 27) q8 hq).row 2 rfl (tupc true 6 d s dp sp))
  rw [← hq]
  clear hq HN HM2 x0 x1 x34 x35
  generalize (u2.alloc (.cells tupz 27)).setRow q8 (tupc true 6 d s dp sp) = u3 at *
  have x0 : u3.cell? ⟨w.heap.size, 0, none⟩ = some (.bool true) := blk_cell (HM3.out.get 0 rfl) 0
  go_upto_region 7 with fail
  clear x0
  have HB3 := Lib.hid (HM3.out.get 0 rfl)
  have HA3 := Lib.hid (HM3.out.get 1 rfl)
  refine wp_region_grow (C := fun W => Below u3.heap.size u3 W) 20 126 [val (.pointer (some ⟨w.heap.size + 1, 1, none⟩)), val (.int .u8 (h 1)), val (.pointer (some ⟨w.heap.size + 1, 2, none⟩)), val (.int .u8 (h 2)), val (.pointer (some ⟨w.heap.size + 1, 3, none⟩)), val (.int .u8 (h 3)), val (.pointer (some ⟨w.heap.size + 1, 4, none⟩)), val (.int .u8 (h 4)), val (.pointer (some ⟨w.heap.size + 1, 5, none⟩)), val (.int .u8 (h 5)), val (.pointer (some ⟨w.heap.size, 1, none⟩)), val (.int .u8 6), val (.pointer (some ⟨w.heap.size + 1, 7, none⟩)), val (.int .u8 (h 7)), fun v W => ∃ z, v = .slice (some ⟨z, 0, none⟩) 8 8 ∧ Own W u3.heap.size 5 (some ⟨z, 0, none⟩) 8 8 (hd8 6 h), val (.pointer (some ⟨w.heap.size, 2, none⟩)), val (.slice (some ⟨w.heap.size, 2, none⟩) 16 16), ownF u3 24 (cat 8 (hd8 6 h) s), val (.pointer (some ⟨w.heap.size, 18, none⟩)), val (.slice (some ⟨w.heap.size, 18, none⟩) 16 16)] (by kernel_rfl) rfl (by kernel_rfl) rfl ⟨stb_val _, stb_val _, stb_val _, stb_val _, stb_val _, stb_val _, stb_val _, stb_val _, stb_val _, stb_val _, stb_val _, stb_val _, stb_val _, stb_val _, (fun _ _ _ ⟨z, h, ho⟩ hb => ⟨z, h, ho.below hb⟩), stb_val _, stb_val _, stb_own _ _ _, stb_val _, stb_val _, trivial⟩ (Below.refl _ _).drew ?_ ?_
  · refine each_cons ?_ ?_
    · intro a W hW hd
      have h5 : a.tmps[5]?.getD undef = .pointer (some ⟨w.heap.size + 1, 0, none⟩) := slot_eq (hd 5 (by decide))
      refine grows_value _ hW (?_ : _ = _) rfl
      clear hd
      go_simp
    refine each_cons ?_ ?_
    · intro a W hW hd
      have h32 : a.tmps[32]?.getD undef = .pointer (some ⟨w.heap.size + 1, 1, none⟩) := slot_eq (hd 32 (by decide))
      have hx : W.cell? ⟨w.heap.size + 1, 1, none⟩ = some (.int .u8 (h 1)) := blk_cell ((hW.block _ (lt_heap HA3.out)).trans HA3.out) 1
      refine grows_value _ hW (?_ : _ = _) rfl
      clear hd
      go_simp
    refine each_cons ?_ ?_
    · intro a W hW hd
      have h5 : a.tmps[5]?.getD undef = .pointer (some ⟨w.heap.size + 1, 0, none⟩) := slot_eq (hd 5 (by decide))
      refine grows_value _ hW (?_ : _ = _) rfl
      clear hd
      go_simp
    refine each_cons ?_ ?_
    · intro a W hW hd
      have h34 : a.tmps[34]?.getD undef = .pointer (some ⟨w.heap.size + 1, 2, none⟩) := slot_eq (hd 34 (by decide))
      have hx : W.cell? ⟨w.heap.size + 1, 2, none⟩ = some (.int .u8 (h 2)) := blk_cell ((hW.block _ (lt_heap HA3.out)).trans HA3.out) 2
      refine grows_value _ hW (?_ : _ = _) rfl
      clear hd
      go_simp
    refine each_cons ?_ ?_
    · intro a W hW hd
      have h5 : a.tmps[5]?.getD undef = .pointer (some ⟨w.heap.size + 1, 0, none⟩) := slot_eq (hd 5 (by decide))
      refine grows_value _ hW (?_ : _ = _) rfl
      clear hd
      go_simp
    refine each_cons ?_ ?_
    · intro a W hW hd
      have h36 : a.tmps[36]?.getD undef = .pointer (some ⟨w.heap.size + 1, 3, none⟩) := slot_eq (hd 36 (by decide))
      have hx : W.cell? ⟨w.heap.size + 1, 3, none⟩ = some (.int .u8 (h 3)) := blk_cell ((hW.block _ (lt_heap HA3.out)).trans HA3.out) 3
      refine grows_value _ hW (?_ : _ = _) rfl
      clear hd
      go_simp
    refine each_cons ?_ ?_
    · intro a W hW hd
      have h5 : a.tmps[5]?.getD undef = .pointer (some ⟨w.heap.size + 1, 0, none⟩) := slot_eq (hd 5 (by decide))
      refine grows_value _ hW (?_ : _ = _) rfl
      clear hd
      go_simp
    refine each_cons ?_ ?_
    · intro a W hW hd
      have h38 : a.tmps[38]?.getD undef = .pointer (some ⟨w.heap.size + 1, 4, none⟩) := slot_eq (hd 38 (by decide))
      have hx : W.cell? ⟨w.heap.size + 1, 4, none⟩ = some (.int .u8 (h 4)) := blk_cell ((hW.block _ (lt_heap HA3.out)).trans HA3.out) 4
      refine grows_value _ hW (?_ : _ = _) rfl
      clear hd
      go_simp
    refine each_cons ?_ ?_
    · intro a W hW hd
      have h5 : a.tmps[5]?.getD undef = .pointer (some ⟨w.heap.size + 1, 0, none⟩) := slot_eq (hd 5 (by decide))
      refine grows_value _ hW (?_ : _ = _) rfl
      clear hd
      go_simp
    refine each_cons ?_ ?_
    · intro a W hW hd
      have h40 : a.tmps[40]?.getD undef = .pointer (some ⟨w.heap.size + 1, 5, none⟩) := slot_eq (hd 40 (by decide))
      have hx : W.cell? ⟨w.heap.size + 1, 5, none⟩ = some (.int .u8 (h 5)) := blk_cell ((hW.block _ (lt_heap HA3.out)).trans HA3.out) 5
      refine grows_value _ hW (?_ : _ = _) rfl
      clear hd
      go_simp
    refine each_cons ?_ ?_
    · intro a W hW hd
      have h3 : a.tmps[3]?.getD undef = .pointer (some ⟨w.heap.size, 0, none⟩) := slot_eq (hd 3 (by decide))
      refine grows_value _ hW (?_ : _ = _) rfl
      clear hd
      go_simp
    refine each_cons ?_ ?_
    · intro a W hW hd
      have h42 : a.tmps[42]?.getD undef = .pointer (some ⟨w.heap.size, 1, none⟩) := slot_eq (hd 42 (by decide))
      have hx : W.cell? ⟨w.heap.size, 1, none⟩ = some (.int .u8 6) := blk_cell ((hW.block _ (lt_heap HB3.out)).trans HB3.out) 1
      refine grows_value _ hW (?_ : _ = _) rfl
      clear hd
      go_simp
    refine each_cons ?_ ?_
    · intro a W hW hd
      have h5 : a.tmps[5]?.getD undef = .pointer (some ⟨w.heap.size + 1, 0, none⟩) := slot_eq (hd 5 (by decide))
      refine grows_value _ hW (?_ : _ = _) rfl
      clear hd
      go_simp
    refine each_cons ?_ ?_
    · intro a W hW hd
      have h44 : a.tmps[44]?.getD undef = .pointer (some ⟨w.heap.size + 1, 7, none⟩) := slot_eq (hd 44 (by decide))
      have hx : W.cell? ⟨w.heap.size + 1, 7, none⟩ = some (.int .u8 (h 7)) := blk_cell ((hW.block _ (lt_heap HA3.out)).trans HA3.out) 7
      refine grows_value _ hW (?_ : _ = _) rfl
      clear hd
      go_simp
    refine each_cons ?_ ?_
    · intro a W hW hd
      have h33 : a.tmps[33]?.getD undef = .int .u8 (h 1) := slot_eq (hd 33 (by decide))
      have h35 : a.tmps[35]?.getD undef = .int .u8 (h 2) := slot_eq (hd 35 (by decide))
      have h37 : a.tmps[37]?.getD undef = .int .u8 (h 3) := slot_eq (hd 37 (by decide))
      have h39 : a.tmps[39]?.getD undef = .int .u8 (h 4) := slot_eq (hd 39 (by decide))
      have h41 : a.tmps[41]?.getD undef = .int .u8 (h 5) := slot_eq (hd 41 (by decide))
      have h43 : a.tmps[43]?.getD undef = .int .u8 6 := slot_eq (hd 43 (by decide))
      have h45 : a.tmps[45]?.getD undef = .int .u8 (h 7) := slot_eq (hd 45 (by decide))
      refine grows_new (.slice (some ⟨W.heap.size, 0, none⟩) 8 8) (w' := W.alloc (.cells #[.int .u8 96, .int .u8 (h 1), .int .u8 (h 2), .int .u8 (h 3), .int .u8 (h 4), .int .u8 (h 5), .int .u8 6, .int .u8 (h 7)] 5)) (?_ : _ = _) ⟨_, rfl, own_new 8 (hd8 6 h) hW.size (by omega) rfl _ rfl⟩ (below_alloc _ _) (hW.alloc hW.size _)
      clear hd
      go_simp
    refine each_cons ?_ ?_
    · intro a W hW hd
      have h3 : a.tmps[3]?.getD undef = .pointer (some ⟨w.heap.size, 0, none⟩) := slot_eq (hd 3 (by decide))
      refine grows_value _ hW (?_ : _ = _) rfl
      clear hd
      go_simp
    refine each_cons ?_ ?_
    · intro a W hW hd
      have h47 : a.tmps[47]?.getD undef = .pointer (some ⟨w.heap.size, 2, none⟩) := slot_eq (hd 47 (by decide))
      refine grows_value _ hW (?_ : _ = _) rfl
      clear hd
      go_simp
    refine each_cons ?_ ?_
    · intro a W hW hd
      have h48 : a.tmps[48]?.getD undef = .slice (some ⟨w.heap.size, 2, none⟩) 16 16 := slot_eq (hd 48 (by decide))
      obtain ⟨z, h46, ho⟩ := hd 46 (by decide)
      have h46' : a.tmps[46]?.getD undef = .slice (some ⟨z, 0, none⟩) 8 8 := slot_eq h46
      have hB := (hW.block _ (lt_heap HB3.out)).trans HB3.out
      obtain ⟨A2, c2, w', hrun, hown, hb⟩ := run_append_full (P := Try.prog) u3.heap.size 23 23 5 i0 Try.underlying23 HI0.out HZ0.out HZ1.out HZ2.out ho (by omega) (c' := 16) (blk_rd hB (lt_heap hB) (i := 2) (fun k hk => tup_srcs _ _ _ _ _ _ k hk)) (by omega) hW.size
      refine grows_new (.slice A2 24 c2) (w' := w') ?_ ⟨A2, c2, rfl, hown⟩ hb (hW.trans (hb.mono hW.size))
      clear hd
      simp only [execOp, resolve, invoke, builtin, Sem.run_bind, Sem.run_pure, Result.andThen_ok, List.map_toArray, List.map_cons, List.map_nil, Act.eval, Array.getD_eq_getD_getElem?, h46', h48, hrun]
    refine each_cons ?_ ?_
    · intro a W hW hd
      have h3 : a.tmps[3]?.getD undef = .pointer (some ⟨w.heap.size, 0, none⟩) := slot_eq (hd 3 (by decide))
      refine grows_value _ hW (?_ : _ = _) rfl
      clear hd
      go_simp
    refine each_cons ?_ ?_
    · intro a W hW hd
      have h50 : a.tmps[50]?.getD undef = .pointer (some ⟨w.heap.size, 18, none⟩) := slot_eq (hd 50 (by decide))
      refine grows_value _ hW (?_ : _ = _) rfl
      clear hd
      go_simp
    exact each_nil
  · refine behind_val rfl ?_
    refine behind_val rfl ?_
    refine behind_val rfl ?_
    refine behind_val rfl ?_
    refine behind_val rfl ?_
    refine behind_val rfl ?_
    refine behind_val rfl ?_
    refine behind_val rfl ?_
    refine behind_val rfl ?_
    refine behind_val rfl ?_
    refine behind_val rfl ?_
    refine behind_val rfl ?_
    refine behind_val rfl ?_
    refine behind_val rfl ?_
    refine behind_cons fun v46 => ?_
    refine behind_val rfl ?_
    refine behind_val rfl ?_
    refine behind_cons fun v49 => ?_
    refine behind_val rfl ?_
    refine behind_val rfl ?_
    refine behind_nil fun u4 hC hFF => ?_
    obtain ⟨⟨_, ⟨_, _⟩⟩, ⟨A4, c4, rfl, ho4⟩⟩ := hFF
    have HM4 := Lib.hid (HM3.out.step hC)
    have HO4 : Hid (MO w u4 [(w.heap.size, .cells (tupc true 6 s d sp dp) 27 (0, 0)), (w.heap.size + 1, .cells (arr20 h) 41 (0, 0)), (q8, .cells (tupc true 6 d s dp sp) 27 (0, 0))] u3.heap.size A4 24 c4 (cat 8 (hd8 6 h) s)) := Lib.hid ⟨HM4.out, ho4, HM3.out.top, hC.size, HM3.out.below.size⟩
    clear ho4 hC HM4 HB3 HA3
    simp only [Act.put, List.setIfInBounds_toArray, List.set_cons_succ, List.set_cons_zero, List.drop_succ_cons, List.drop_zero]
    refine wpList_append_rd rfl (.tmp 49) (.tmp 51) _ rfl u3.heap.size 5 i0 Try.underlying23 HI0.out HZ0.out HZ1.out HZ2.out rfl HO4.out.own rfl (blk_rd (HO4.out.mem.get 0 rfl) (lt_heap (HO4.out.mem.get 0 rfl)) (i := 18) (fun k hk => tup_dsts _ _ _ _ _ _ k hk)) (by omega) HO4.out.le ?_
    intro A5 c5 u5 hown5 hg5 _
    have HO5 := Lib.hid (HO4.out.app hown5 hg5)
    clear hown5 hg5 HO4
    simp only [Act.put]
    have x34 : u5.cell? ⟨w.heap.size, 34, none⟩ = some (.int .u16 sp) := blk_cell (HO5.out.mem.get 0 rfl) 34
    have x35 : u5.cell? ⟨w.heap.size, 35, none⟩ = some (.int .u16 dp) := blk_cell (HO5.out.mem.get 0 rfl) 35
    have z1 : IntKind.u8.wrap (sp / 256) = sp / 256 := by rw [IntKind.wrap_u8']; omega
    have z2 : IntKind.u8.wrap sp = sp % 256 := by rw [IntKind.wrap_u8']
    have z3 : IntKind.u8.wrap (dp / 256) = dp / 256 := by rw [IntKind.wrap_u8']; omega
    have z4 : IntKind.u8.wrap dp = dp % 256 := by rw [IntKind.wrap_u8']
    have HR6 : Hid (Rd (u5.alloc (.cells #[.int .u8 (sp / 256), .int .u8 (sp % 256), .int .u8 (dp / 256), .int .u8 (dp % 256), .int .u8 1, .int .u8 2, .int .u8 3, .int .u8 4] 5)) (u5.alloc (.cells #[.int .u8 (sp / 256), .int .u8 (sp % 256), .int .u8 (dp / 256), .int .u8 (dp % 256), .int .u8 1, .int .u8 2, .int .u8 3, .int .u8 4] 5)).heap.size (some ⟨u5.heap.size, 0, none⟩) 8 (tl8 sp dp)) := Lib.hid (blk_rd (heap_alloc_new u5 _) (lt_heap (heap_alloc_new u5 _)) (i := 0) fun k hk => by
      rw [Nat.zero_add]
      match k, hk with
      | 0, _ => rfl
      | 1, _ => rfl
      | 2, _ => rfl
      | 3, _ => rfl
      | 4, _ => rfl
      | 5, _ => rfl
      | 6, _ => rfl
      | 7, _ => rfl
      )
    have HO5a := Lib.hid (HO5.out.alloc (.cells #[.int .u8 (sp / 256), .int .u8 (sp % 256), .int .u8 (dp / 256), .int .u8 (dp % 256), .int .u8 1, .int .u8 2, .int .u8 3, .int .u8 4] 5))
    have hle5 := HO5a.out.le
    go_upto_region 14 with (first
      | (at_builtin
         refine wpList_append_rd rfl (.tmp 80) (.tmp 95) _ rfl u3.heap.size 5 i0 Try.underlying23 HI0.out HZ0.out HZ1.out HZ2.out rfl HO5a.out.own rfl HR6.out (by omega) hle5 ?_
         intro A6 c6 u6 hown6 hg6 _
         have HO6 := Lib.hid (HO5a.out.app hown6 hg6)
         clear hown6 hg6))
    clear HO5 HO5a HR6 x34 x35 z1 z2 z3 z4 hle5
    have HF6 : Hid (Rd u6 u6.heap.size A6 48 (bts6 6 h s d sp dp)) := HO6.out.own.rd
    have HM6 := Lib.hid HO6.out.mem
    have hc6 := HO6.out.own.cap
    have hc69 := HO6.out.own.cap_le
    clear HO6
    have HBY : Hid (Byt (bts6 6 h s d sp dp)) := bts6_byt ⟨by omega, by omega⟩ HH.out HS.out HD.out h1 h2
    obtain ⟨k1, k2, k3⟩ := turn6_flow 6 (by decide) h s d sp dp h1 h2
    generalize (bts6 6 h s d sp dp) = FF at *
    obtain ⟨CT, hCT⟩ : ∃ C, C = wT true FF 48 := ⟨_, rfl⟩
    obtain ⟨CN, hCN⟩ : ∃ C, C = wT false FF 48 := ⟨_, rfl⟩
    have HSZT : Hid (CT.size = 36) := Lib.hid (by rw [hCT]; exact wT_size ..)
    have HOT : Hid (CT.all (·.oneCell') = true) := Lib.hid (by rw [hCT]; exact wT_one ..)
    have HSZN : Hid (CN.size = 36) := Lib.hid (by rw [hCN]; exact wT_size ..)
    have HON : Hid (CN.all (·.oneCell') = true) := Lib.hid (by rw [hCN]; exact wT_one ..)
    have HCT : Hid (CT = tupc true 6 d s dp sp) := Lib.hid (hCT.trans k3)
    have HW1 : Hid (∀ W, Rd W W.heap.size A6 48 FF → Calls Try.prog 7 #[.bool true, .slice A6 48 c6] W fun e w' => e = .returned (.tuple #[.agg CT, .int .i64 0]) ∧ Below W.heap.size W w') := Lib.hid fun W hr => by
      have q := within_any true A6 48 c6 FF HBY.out (by omega) hc6 hc69 W hr
      unfold WiOut at q
      rw [k1, ← hCT] at q
      exact q
    have HW2 : Hid (∀ W, Rd W W.heap.size A6 48 FF → Calls Try.prog 7 #[.bool false, .slice A6 48 c6] W fun e w' => e = .returned (.tuple #[.agg CN, .int .i64 5]) ∧ Below W.heap.size W w') := Lib.hid fun W hr => by
      have q := within_any false A6 48 c6 FF HBY.out (by omega) hc6 hc69 W hr
      unfold WiOut at q
      rw [k2, ← hCN] at q
      exact q
    clear k1 k2 k3 hCT hCN HBY h1 h2
    have x0 : u6.cell? ⟨w.heap.size, 0, none⟩ = some (.bool true) := blk_cell (HM6.out.get 0 rfl) 0
    go_wp2_with fail
    go_at_call 7
    refine (HW1.out u6 HF6.out).mono ?_
    rintro e u7 ⟨rfl, hb7⟩
    have HM7 := Lib.hid (HM6.out.step hb7)
    have HF7 := Lib.hid ((HF6.out.keep hb7).more hb7.size)
    clear hb7 HM6 HF6 x0 HW1
    have HN : Hid ((u7.alloc (.cells tupz 27)).heap[u7.heap.size]? = some (.cells tupz 27 (0, 0))) := heap_alloc_new u7 _
    go_upto_region 15 with (first
      | (refine wpList_store_row rfl 27 (.tmp 9) (.tmp 102) rfl u7.heap.size CT rfl rfl 27 tupz HN.out (HI36.out.trans (by rw [HSZT.out])) (by rw [HSZT.out]; rfl) HOT.out ?_))
    change Code.wp _ _ _ _ ((u7.alloc (.cells tupz 27)).setRow u7.heap.size CT)
    have HF8 : Hid (Rd ((u7.alloc (.cells tupz 27)).setRow u7.heap.size CT) ((u7.alloc (.cells tupz 27)).setRow u7.heap.size CT).heap.size A6 48 FF) := Lib.hid (by
      have hb := below_setRow (below_alloc u7 (.cells tupz 27)) (Nat.le_refl _) CT
      exact (HF7.out.keep hb).more hb.size)
    obtain ⟨q9, hq⟩ : ∃ q, q = u7.heap.size := ⟨_, rfl⟩
    have HM8 := Lib.hid ((HM7.out.new (.cells tupz 27) q9 hq).row 3 rfl CT)
    rw [← hq] at HF8 ⊢
    clear hq HN HM7 HF7
    generalize (u7.alloc (.cells tupz 27)).setRow q9 CT = u8 at *
    have x0 : u8.cell? ⟨w.heap.size, 0, none⟩ = some (.bool true) := blk_cell (HM8.out.get 0 rfl) 0
    go_wp2_with fail
    go_at_call 7
    refine (HW2.out u8 HF8.out).mono ?_
    rintro e u9 ⟨rfl, hb9⟩
    have HM9 := Lib.hid (HM8.out.step hb9)
    clear hb9 HM8 HF8 x0 HW2
    have HN : Hid ((u9.alloc (.cells tupz 27)).heap[u9.heap.size]? = some (.cells tupz 27 (0, 0))) := heap_alloc_new u9 _
    go_upto_region 16 with (first
      | (refine wpList_store_row rfl 27 (.tmp 11) (.tmp 110) rfl u9.heap.size CN rfl rfl 27 tupz HN.out (HI36.out.trans (by rw [HSZN.out])) (by rw [HSZN.out]; rfl) HON.out ?_))
    change Code.wp _ _ _ _ ((u9.alloc (.cells tupz 27)).setRow u9.heap.size CN)
    have HMA := Lib.hid ((HM9.out.new (.cells tupz 27) u9.heap.size rfl).row 4 rfl CN)
    clear HN HM9
    generalize (u9.alloc (.cells tupz 27)).setRow u9.heap.size CN = u10 at *
    have heq : ∀ W, (Op.equalIn 10000 27 (.agg CT) (.agg (tupc true 6 d s dp sp))).run Try.prog W = .ok true W := fun W => by
      rw [HCT.out]
      exact eqT ..
    go_wp2_with (first
      | (refine wpList_load_roww rfl 27 (.tmp 9) rfl q9 rfl 27 CT (0, 0) _ (HMA.out.get 3 rfl) Try.underlying27 rfl (HI36.out.trans (by rw [HSZT.out])) ?_)
      | (refine wpList_load_roww rfl 27 (.tmp 8) rfl q8 rfl 27 (tupc true 6 d s dp sp) (0, 0) _ (HMA.out.get 2 rfl) Try.underlying27 rfl (by kernel_rfl) ?_)
      | (go_at_call 6; refine (KN.out _).mono ?_; rintro e u11 ⟨rfl, hb11⟩))
    go_ret
    exact ⟨rfl, HMA.out.below.trans (hb11.mono HMA.out.below.size)⟩
set_option maxRecDepth 100000 in
set_option maxHeartbeats 4000000 in
theorem turned_u6 (pr : Int) (s d : Nat → Int) (sp dp : Int) (hs : Byt s) (hd : Byt d) (h1 : 0 ≤ sp ∧ sp ≤ 65535) (h2 : 0 ≤ dp ∧ dp ≤ 65535) (h : Nat → Int) (hh : Byt h) (w : World) :
    Calls Try.prog 5 #[.agg (tupc true pr s d sp dp), .bool false, .agg (arr20 h)] w fun e w' => e = .returned (.bool true) ∧ Below w.heap.size w w' := by
  obtain ⟨i0, hi0, hz0, hz1, hz2⟩ := info_parts Try.info5
  have HI0 := Lib.hid hi0
  have HZ0 := Lib.hid hz0
  have HZ1 := Lib.hid hz1
  have HZ2 := Lib.hid hz2
  clear hi0 hz0 hz1 hz2
  have KN := Lib.hid known_any
  have HI36 := Lib.hid (show (Try.prog.info? 27).map (·.size) = some 36 by kernel_rfl)
  have HS := Lib.hid hs
  have HD := Lib.hid hd
  have HH := Lib.hid hh
  clear hs hd hh
  have e1 : (w.alloc (.cells (tupc true pr s d sp dp) 27)).heap.size = w.heap.size + 1 := by simp
  have HM1 : Hid (Mem w ((w.alloc (.cells (tupc true pr s d sp dp) 27)).alloc (.cells (arr20 h) 41)) [(w.heap.size, .cells (tupc true pr s d sp dp) 27 (0, 0)), (w.heap.size + 1, .cells (arr20 h) 41 (0, 0))]) := Lib.hid (((Mem.nil w).alloc (.cells (tupc true pr s d sp dp) 27)).new (.cells (arr20 h) 41) (w.heap.size + 1) e1.symm)
  clear e1
  go_enter Try.func5, Try.ntmps5
  go_upto_region 1 with fail
  change Code.wp _ _ _ _ ((w.alloc (.cells (tupc true pr s d sp dp) 27)).alloc (.cells (arr20 h) 41))
  generalize (w.alloc (.cells (tupc true pr s d sp dp) 27)).alloc (.cells (arr20 h) 41) = u1 at *
  have x1 : u1.cell? ⟨w.heap.size, 1, none⟩ = some (.int .u8 pr) := blk_cell (HM1.out.get 0 rfl) 1
  have y1 := blk_free (HM1.out.get 0 rfl) 1
  go_upto_region 5 with fail
  have HM2 : Hid (Mem w (u1.setCell ⟨w.heap.size, 1, none⟩ (.int .u8 17)) [(w.heap.size, .cells (tupc true 17 s d sp dp) 27 (0, 0)), (w.heap.size + 1, .cells (arr20 h) 41 (0, 0))]) := Lib.hid (HM1.out.set 0 rfl 1 (.int .u8 17))
  clear x1 y1 HM1
  generalize u1.setCell ⟨w.heap.size, 1, none⟩ (.int .u8 17) = u2 at *
  have x0 : u2.cell? ⟨w.heap.size, 0, none⟩ = some (.bool true) := blk_cell (HM2.out.get 0 rfl) 0
  have x1 : u2.cell? ⟨w.heap.size, 1, none⟩ = some (.int .u8 17) := blk_cell (HM2.out.get 0 rfl) 1
  have x34 : u2.cell? ⟨w.heap.size, 34, none⟩ = some (.int .u16 sp) := blk_cell (HM2.out.get 0 rfl) 34
  have x35 : u2.cell? ⟨w.heap.size, 35, none⟩ = some (.int .u16 dp) := blk_cell (HM2.out.get 0 rfl) 35
  have HN : Hid ((u2.alloc (.cells tupz 27)).heap[u2.heap.size]? = some (.cells tupz 27 (0, 0))) := heap_alloc_new u2 _
  go_upto_region 6 with (first
    | (refine wpList_load_mid rfl 22 (.tmp 21) rfl w.heap.size 18 rfl (arr16 d).toList _ (blk_range (HM2.out.get 0 rfl) (fun k hk => tup_dsts _ _ _ _ _ _ k hk)) Try.underlying22 rfl (by kernel_rfl) ?_)
    | (refine wpList_load_mid rfl 22 (.tmp 23) rfl w.heap.size 2 rfl (arr16 s).toList _ (blk_range (HM2.out.get 0 rfl) (fun k hk => tup_srcs _ _ _ _ _ _ k hk)) Try.underlying22 rfl (by kernel_rfl) ?_)
    | (refine wpList_tup rfl (.tmp 18) (.tmp 20) (.tmp 22) (.tmp 24) (.tmp 26) (.tmp 28) rfl true 17 d s dp sp rfl rfl rfl rfl rfl rfl ?_)
    | (refine wpList_store_row rfl 27 (.tmp 8) (.tmp 29) rfl u2.heap.size (tupc true 17 d s dp sp) rfl rfl 27 tupz HN.out (by kernel_rfl) rfl (tup_one ..) ?_))
  change Code.wp _ _ _ _ ((u2.alloc (.cells tupz 27)).setRow u2.heap.size (tupc true 17 d s dp sp))
  obtain ⟨q8, hq⟩ : ∃ q, q = u2.heap.size := ⟨_, rfl⟩
  have HM3 : Hid (Mem w ((u2.alloc (.cells tupz 27)).setRow q8 (tupc true 17 d s dp sp)) [(w.heap.size, .cells (tupc true 17 s d sp dp) 27 (0, 0)), (w.heap.size + 1, .cells (arr20 h) 41 (0, 0)), (q8, .cells (tupc true 17 d s dp sp) 27 (0, 0))]) := Lib.hid ((HM2.out.new (.cells tupz 27) q8 hq).row 2 rfl (tupc true 17 d s dp sp))
  rw [← hq]
  clear hq HN HM2 x0 x1 x34 x35
  generalize (u2.alloc (.cells tupz 27)).setRow q8 (tupc true 17 d s dp sp) = u3 at *
  have x0 : u3.cell? ⟨w.heap.size, 0, none⟩ = some (.bool true) := blk_cell (HM3.out.get 0 rfl) 0
  go_upto_region 7 with fail
  clear x0
  have HB3 := Lib.hid (HM3.out.get 0 rfl)
  have HA3 := Lib.hid (HM3.out.get 1 rfl)
  refine wp_region_grow (C := fun W => Below u3.heap.size u3 W) 20 126 [val (.pointer (some ⟨w.heap.size + 1, 1, none⟩)), val (.int .u8 (h 1)), val (.pointer (some ⟨w.heap.size + 1, 2, none⟩)), val (.int .u8 (h 2)), val (.pointer (some ⟨w.heap.size + 1, 3, none⟩)), val (.int .u8 (h 3)), val (.pointer (some ⟨w.heap.size + 1, 4, none⟩)), val (.int .u8 (h 4)), val (.pointer (some ⟨w.heap.size + 1, 5, none⟩)), val (.int .u8 (h 5)), val (.pointer (some ⟨w.heap.size, 1, none⟩)), val (.int .u8 17), val (.pointer (some ⟨w.heap.size + 1, 7, none⟩)), val (.int .u8 (h 7)), fun v W => ∃ z, v = .slice (some ⟨z, 0, none⟩) 8 8 ∧ Own W u3.heap.size 5 (some ⟨z, 0, none⟩) 8 8 (hd8 17 h), val (.pointer (some ⟨w.heap.size, 2, none⟩)), val (.slice (some ⟨w.heap.size, 2, none⟩) 16 16), ownF u3 24 (cat 8 (hd8 17 h) s), val (.pointer (some ⟨w.heap.size, 18, none⟩)), val (.slice (some ⟨w.heap.size, 18, none⟩) 16 16)] (by kernel_rfl) rfl (by kernel_rfl) rfl ⟨stb_val _, stb_val _, stb_val _, stb_val _, stb_val _, stb_val _, stb_val _, stb_val _, stb_val _, stb_val _, stb_val _, stb_val _, stb_val _, stb_val _, (fun _ _ _ ⟨z, h, ho⟩ hb => ⟨z, h, ho.below hb⟩), stb_val _, stb_val _, stb_own _ _ _, stb_val _, stb_val _, trivial⟩ (Below.refl _ _).drew ?_ ?_
  · refine each_cons ?_ ?_
    · intro a W hW hd
      have h5 : a.tmps[5]?.getD undef = .pointer (some ⟨w.heap.size + 1, 0, none⟩) := slot_eq (hd 5 (by decide))
      refine grows_value _ hW (?_ : _ = _) rfl
      clear hd
      go_simp
    refine each_cons ?_ ?_
    · intro a W hW hd
      have h32 : a.tmps[32]?.getD undef = .pointer (some ⟨w.heap.size + 1, 1, none⟩) := slot_eq (hd 32 (by decide))
      have hx : W.cell? ⟨w.heap.size + 1, 1, none⟩ = some (.int .u8 (h 1)) := blk_cell ((hW.block _ (lt_heap HA3.out)).trans HA3.out) 1
      refine grows_value _ hW (?_ : _ = _) rfl
      clear hd
      go_simp
    refine each_cons ?_ ?_
    · intro a W hW hd
      have h5 : a.tmps[5]?.getD undef = .pointer (some ⟨w.heap.size + 1, 0, none⟩) := slot_eq (hd 5 (by decide))
      refine grows_value _ hW (?_ : _ = _) rfl
      clear hd
      go_simp
    refine each_cons ?_ ?_
    · intro a W hW hd
      have h34 : a.tmps[34]?.getD undef = .pointer (some ⟨w.heap.size + 1, 2, none⟩) := slot_eq (hd 34 (by decide))
      have hx : W.cell? ⟨w.heap.size + 1, 2, none⟩ = some (.int .u8 (h 2)) := blk_cell ((hW.block _ (lt_heap HA3.out)).trans HA3.out) 2
      refine grows_value _ hW (?_ : _ = _) rfl
      clear hd
      go_simp
    refine each_cons ?_ ?_
    · intro a W hW hd
      have h5 : a.tmps[5]?.getD undef = .pointer (some ⟨w.heap.size + 1, 0, none⟩) := slot_eq (hd 5 (by decide))
      refine grows_value _ hW (?_ : _ = _) rfl
      clear hd
      go_simp
    refine each_cons ?_ ?_
    · intro a W hW hd
      have h36 : a.tmps[36]?.getD undef = .pointer (some ⟨w.heap.size + 1, 3, none⟩) := slot_eq (hd 36 (by decide))
      have hx : W.cell? ⟨w.heap.size + 1, 3, none⟩ = some (.int .u8 (h 3)) := blk_cell ((hW.block _ (lt_heap HA3.out)).trans HA3.out) 3
      refine grows_value _ hW (?_ : _ = _) rfl
      clear hd
      go_simp
    refine each_cons ?_ ?_
    · intro a W hW hd
      have h5 : a.tmps[5]?.getD undef = .pointer (some ⟨w.heap.size + 1, 0, none⟩) := slot_eq (hd 5 (by decide))
      refine grows_value _ hW (?_ : _ = _) rfl
      clear hd
      go_simp
    refine each_cons ?_ ?_
    · intro a W hW hd
      have h38 : a.tmps[38]?.getD undef = .pointer (some ⟨w.heap.size + 1, 4, none⟩) := slot_eq (hd 38 (by decide))
      have hx : W.cell? ⟨w.heap.size + 1, 4, none⟩ = some (.int .u8 (h 4)) := blk_cell ((hW.block _ (lt_heap HA3.out)).trans HA3.out) 4
      refine grows_value _ hW (?_ : _ = _) rfl
      clear hd
      go_simp
    refine each_cons ?_ ?_
    · intro a W hW hd
      have h5 : a.tmps[5]?.getD undef = .pointer (some ⟨w.heap.size + 1, 0, none⟩) := slot_eq (hd 5 (by decide))
      refine grows_value _ hW (?_ : _ = _) rfl
      clear hd
      go_simp
    refine each_cons ?_ ?_
    · intro a W hW hd
      have h40 : a.tmps[40]?.getD undef = .pointer (some ⟨w.heap.size + 1, 5, none⟩) := slot_eq (hd 40 (by decide))
      have hx : W.cell? ⟨w.heap.size + 1, 5, none⟩ = some (.int .u8 (h 5)) := blk_cell ((hW.block _ (lt_heap HA3.out)).trans HA3.out) 5
      refine grows_value _ hW (?_ : _ = _) rfl
      clear hd
      go_simp
    refine each_cons ?_ ?_
    · intro a W hW hd
      have h3 : a.tmps[3]?.getD undef = .pointer (some ⟨w.heap.size, 0, none⟩) := slot_eq (hd 3 (by decide))
      refine grows_value _ hW (?_ : _ = _) rfl
      clear hd
      go_simp
    refine each_cons ?_ ?_
    · intro a W hW hd
      have h42 : a.tmps[42]?.getD undef = .pointer (some ⟨w.heap.size, 1, none⟩) := slot_eq (hd 42 (by decide))
      have hx : W.cell? ⟨w.heap.size, 1, none⟩ = some (.int .u8 17) := blk_cell ((hW.block _ (lt_heap HB3.out)).trans HB3.out) 1
      refine grows_value _ hW (?_ : _ = _) rfl
      clear hd
      go_simp
    refine each_cons ?_ ?_
    · intro a W hW hd
      have h5 : a.tmps[5]?.getD undef = .pointer (some ⟨w.heap.size + 1, 0, none⟩) := slot_eq (hd 5 (by decide))
      refine grows_value _ hW (?_ : _ = _) rfl
      clear hd
      go_simp
    refine each_cons ?_ ?_
    · intro a W hW hd
      have h44 : a.tmps[44]?.getD undef = .pointer (some ⟨w.heap.size + 1, 7, none⟩) := slot_eq (hd 44 (by decide))
      have hx : W.cell? ⟨w.heap.size + 1, 7, none⟩ = some (.int .u8 (h 7)) := blk_cell ((hW.block _ (lt_heap HA3.out)).trans HA3.out) 7
      refine grows_value _ hW (?_ : _ = _) rfl
      clear hd
      go_simp
    refine each_cons ?_ ?_
    · intro a W hW hd
      have h33 : a.tmps[33]?.getD undef = .int .u8 (h 1) := slot_eq (hd 33 (by decide))
      have h35 : a.tmps[35]?.getD undef = .int .u8 (h 2) := slot_eq (hd 35 (by decide))
      have h37 : a.tmps[37]?.getD undef = .int .u8 (h 3) := slot_eq (hd 37 (by decide))
      have h39 : a.tmps[39]?.getD undef = .int .u8 (h 4) := slot_eq (hd 39 (by decide))
      have h41 : a.tmps[41]?.getD undef = .int .u8 (h 5) := slot_eq (hd 41 (by decide))
      have h43 : a.tmps[43]?.getD undef = .int .u8 17 := slot_eq (hd 43 (by decide))
      have h45 : a.tmps[45]?.getD undef = .int .u8 (h 7) := slot_eq (hd 45 (by decide))
      refine grows_new (.slice (some ⟨W.heap.size, 0, none⟩) 8 8) (w' := W.alloc (.cells #[.int .u8 96, .int .u8 (h 1), .int .u8 (h 2), .int .u8 (h 3), .int .u8 (h 4), .int .u8 (h 5), .int .u8 17, .int .u8 (h 7)] 5)) (?_ : _ = _) ⟨_, rfl, own_new 8 (hd8 17 h) hW.size (by omega) rfl _ rfl⟩ (below_alloc _ _) (hW.alloc hW.size _)
      clear hd
      go_simp
    refine each_cons ?_ ?_
    · intro a W hW hd
      have h3 : a.tmps[3]?.getD undef = .pointer (some ⟨w.heap.size, 0, none⟩) := slot_eq (hd 3 (by decide))
      refine grows_value _ hW (?_ : _ = _) rfl
      clear hd
      go_simp
    refine each_cons ?_ ?_
    · intro a W hW hd
      have h47 : a.tmps[47]?.getD undef = .pointer (some ⟨w.heap.size, 2, none⟩) := slot_eq (hd 47 (by decide))
      refine grows_value _ hW (?_ : _ = _) rfl
      clear hd
      go_simp
    refine each_cons ?_ ?_
    · intro a W hW hd
      have h48 : a.tmps[48]?.getD undef = .slice (some ⟨w.heap.size, 2, none⟩) 16 16 := slot_eq (hd 48 (by decide))
      obtain ⟨z, h46, ho⟩ := hd 46 (by decide)
      have h46' : a.tmps[46]?.getD undef = .slice (some ⟨z, 0, none⟩) 8 8 := slot_eq h46
      have hB := (hW.block _ (lt_heap HB3.out)).trans HB3.out
      obtain ⟨A2, c2, w', hrun, hown, hb⟩ := run_append_full (P := Try.prog) u3.heap.size 23 23 5 i0 Try.underlying23 HI0.out HZ0.out HZ1.out HZ2.out ho (by omega) (c' := 16) (blk_rd hB (lt_heap hB) (i := 2) (fun k hk => tup_srcs _ _ _ _ _ _ k hk)) (by omega) hW.size
      refine grows_new (.slice A2 24 c2) (w' := w') ?_ ⟨A2, c2, rfl, hown⟩ hb (hW.trans (hb.mono hW.size))
      clear hd
      simp only [execOp, resolve, invoke, builtin, Sem.run_bind, Sem.run_pure, Result.andThen_ok, List.map_toArray, List.map_cons, List.map_nil, Act.eval, Array.getD_eq_getD_getElem?, h46', h48, hrun]
    refine each_cons ?_ ?_
    · intro a W hW hd
      have h3 : a.tmps[3]?.getD undef = .pointer (some ⟨w.heap.size, 0, none⟩) := slot_eq (hd 3 (by decide))
      refine grows_value _ hW (?_ : _ = _) rfl
      clear hd
      go_simp
    refine each_cons ?_ ?_
    · intro a W hW hd
      have h50 : a.tmps[50]?.getD undef = .pointer (some ⟨w.heap.size, 18, none⟩) := slot_eq (hd 50 (by decide))
      refine grows_value _ hW (?_ : _ = _) rfl
      clear hd
      go_simp
    exact each_nil
  · refine behind_val rfl ?_
    refine behind_val rfl ?_
    refine behind_val rfl ?_
    refine behind_val rfl ?_
    refine behind_val rfl ?_
    refine behind_val rfl ?_
    refine behind_val rfl ?_
    refine behind_val rfl ?_
    refine behind_val rfl ?_
    refine behind_val rfl ?_
    refine behind_val rfl ?_
    refine behind_val rfl ?_
    refine behind_val rfl ?_
    refine behind_val rfl ?_
    refine behind_cons fun v46 => ?_
    refine behind_val rfl ?_
    refine behind_val rfl ?_
    refine behind_cons fun v49 => ?_
    refine behind_val rfl ?_
    refine behind_val rfl ?_
    refine behind_nil fun u4 hC hFF => ?_
    obtain ⟨⟨_, ⟨_, _⟩⟩, ⟨A4, c4, rfl, ho4⟩⟩ := hFF
    have HM4 := Lib.hid (HM3.out.step hC)
    have HO4 : Hid (MO w u4 [(w.heap.size, .cells (tupc true 17 s d sp dp) 27 (0, 0)), (w.heap.size + 1, .cells (arr20 h) 41 (0, 0)), (q8, .cells (tupc true 17 d s dp sp) 27 (0, 0))] u3.heap.size A4 24 c4 (cat 8 (hd8 17 h) s)) := Lib.hid ⟨HM4.out, ho4, HM3.out.top, hC.size, HM3.out.below.size⟩
    clear ho4 hC HM4 HB3 HA3
    simp only [Act.put, List.setIfInBounds_toArray, List.set_cons_succ, List.set_cons_zero, List.drop_succ_cons, List.drop_zero]
    refine wpList_append_rd rfl (.tmp 49) (.tmp 51) _ rfl u3.heap.size 5 i0 Try.underlying23 HI0.out HZ0.out HZ1.out HZ2.out rfl HO4.out.own rfl (blk_rd (HO4.out.mem.get 0 rfl) (lt_heap (HO4.out.mem.get 0 rfl)) (i := 18) (fun k hk => tup_dsts _ _ _ _ _ _ k hk)) (by omega) HO4.out.le ?_
    intro A5 c5 u5 hown5 hg5 _
    have HO5 := Lib.hid (HO4.out.app hown5 hg5)
    clear hown5 hg5 HO4
    simp only [Act.put]
    have x34 : u5.cell? ⟨w.heap.size, 34, none⟩ = some (.int .u16 sp) := blk_cell (HO5.out.mem.get 0 rfl) 34
    have x35 : u5.cell? ⟨w.heap.size, 35, none⟩ = some (.int .u16 dp) := blk_cell (HO5.out.mem.get 0 rfl) 35
    have z1 : IntKind.u8.wrap (sp / 256) = sp / 256 := by rw [IntKind.wrap_u8']; omega
    have z2 : IntKind.u8.wrap sp = sp % 256 := by rw [IntKind.wrap_u8']
    have z3 : IntKind.u8.wrap (dp / 256) = dp / 256 := by rw [IntKind.wrap_u8']; omega
    have z4 : IntKind.u8.wrap dp = dp % 256 := by rw [IntKind.wrap_u8']
    have HR6 : Hid (Rd (u5.alloc (.cells #[.int .u8 (sp / 256), .int .u8 (sp % 256), .int .u8 (dp / 256), .int .u8 (dp % 256), .int .u8 1, .int .u8 2, .int .u8 3, .int .u8 4] 5)) (u5.alloc (.cells #[.int .u8 (sp / 256), .int .u8 (sp % 256), .int .u8 (dp / 256), .int .u8 (dp % 256), .int .u8 1, .int .u8 2, .int .u8 3, .int .u8 4] 5)).heap.size (some ⟨u5.heap.size, 0, none⟩) 8 (tl8 sp dp)) := Lib.hid (blk_rd (heap_alloc_new u5 _) (lt_heap (heap_alloc_new u5 _)) (i := 0) fun k hk => by
      rw [Nat.zero_add]
      match k, hk with
      | 0, _ => rfl
      | 1, _ => rfl
      | 2, _ => rfl
      | 3, _ => rfl
      | 4, _ => rfl
      | 5, _ => rfl
      | 6, _ => rfl
      | 7, _ => rfl
      )
    have HO5a := Lib.hid (HO5.out.alloc (.cells #[.int .u8 (sp / 256), .int .u8 (sp % 256), .int .u8 (dp / 256), .int .u8 (dp % 256), .int .u8 1, .int .u8 2, .int .u8 3, .int .u8 4] 5))
    have hle5 := HO5a.out.le
    go_upto_region 14 with (first
      | (at_builtin
         refine wpList_append_rd rfl (.tmp 80) (.tmp 95) _ rfl u3.heap.size 5 i0 Try.underlying23 HI0.out HZ0.out HZ1.out HZ2.out rfl HO5a.out.own rfl HR6.out (by omega) hle5 ?_
         intro A6 c6 u6 hown6 hg6 _
         have HO6 := Lib.hid (HO5a.out.app hown6 hg6)
         clear hown6 hg6))
    clear HO5 HO5a HR6 x34 x35 z1 z2 z3 z4 hle5
    have HF6 : Hid (Rd u6 u6.heap.size A6 48 (bts6 17 h s d sp dp)) := HO6.out.own.rd
    have HM6 := Lib.hid HO6.out.mem
    have hc6 := HO6.out.own.cap
    have hc69 := HO6.out.own.cap_le
    clear HO6
    have HBY : Hid (Byt (bts6 17 h s d sp dp)) := bts6_byt ⟨by omega, by omega⟩ HH.out HS.out HD.out h1 h2
    obtain ⟨k1, k2, k3⟩ := turn6_flow 17 (by decide) h s d sp dp h1 h2
    generalize (bts6 17 h s d sp dp) = FF at *
    obtain ⟨CT, hCT⟩ : ∃ C, C = wT true FF 48 := ⟨_, rfl⟩
    obtain ⟨CN, hCN⟩ : ∃ C, C = wT false FF 48 := ⟨_, rfl⟩
    have HSZT : Hid (CT.size = 36) := Lib.hid (by rw [hCT]; exact wT_size ..)
    have HOT : Hid (CT.all (·.oneCell') = true) := Lib.hid (by rw [hCT]; exact wT_one ..)
    have HSZN : Hid (CN.size = 36) := Lib.hid (by rw [hCN]; exact wT_size ..)
    have HON : Hid (CN.all (·.oneCell') = true) := Lib.hid (by rw [hCN]; exact wT_one ..)
    have HCT : Hid (CT = tupc true 17 d s dp sp) := Lib.hid (hCT.trans k3)
    have HW1 : Hid (∀ W, Rd W W.heap.size A6 48 FF → Calls Try.prog 7 #[.bool true, .slice A6 48 c6] W fun e w' => e = .returned (.tuple #[.agg CT, .int .i64 0]) ∧ Below W.heap.size W w') := Lib.hid fun W hr => by
      have q := within_any true A6 48 c6 FF HBY.out (by omega) hc6 hc69 W hr
      unfold WiOut at q
      rw [k1, ← hCT] at q
      exact q
    have HW2 : Hid (∀ W, Rd W W.heap.size A6 48 FF → Calls Try.prog 7 #[.bool false, .slice A6 48 c6] W fun e w' => e = .returned (.tuple #[.agg CN, .int .i64 5]) ∧ Below W.heap.size W w') := Lib.hid fun W hr => by
      have q := within_any false A6 48 c6 FF HBY.out (by omega) hc6 hc69 W hr
      unfold WiOut at q
      rw [k2, ← hCN] at q
      exact q
    clear k1 k2 k3 hCT hCN HBY h1 h2
    have x0 : u6.cell? ⟨w.heap.size, 0, none⟩ = some (.bool true) := blk_cell (HM6.out.get 0 rfl) 0
    go_wp2_with fail
    go_at_call 7
    refine (HW1.out u6 HF6.out).mono ?_
    rintro e u7 ⟨rfl, hb7⟩
    have HM7 := Lib.hid (HM6.out.step hb7)
    have HF7 := Lib.hid ((HF6.out.keep hb7).more hb7.size)
    clear hb7 HM6 HF6 x0 HW1
    have HN : Hid ((u7.alloc (.cells tupz 27)).heap[u7.heap.size]? = some (.cells tupz 27 (0, 0))) := heap_alloc_new u7 _
    go_upto_region 15 with (first
      | (refine wpList_store_row rfl 27 (.tmp 9) (.tmp 102) rfl u7.heap.size CT rfl rfl 27 tupz HN.out (HI36.out.trans (by rw [HSZT.out])) (by rw [HSZT.out]; rfl) HOT.out ?_))
    change Code.wp _ _ _ _ ((u7.alloc (.cells tupz 27)).setRow u7.heap.size CT)
    have HF8 : Hid (Rd ((u7.alloc (.cells tupz 27)).setRow u7.heap.size CT) ((u7.alloc (.cells tupz 27)).setRow u7.heap.size CT).heap.size A6 48 FF) := Lib.hid (by
      have hb := below_setRow (below_alloc u7 (.cells tupz 27)) (Nat.le_refl _) CT
      exact (HF7.out.keep hb).more hb.size)
    obtain ⟨q9, hq⟩ : ∃ q, q = u7.heap.size := ⟨_, rfl⟩
    have HM8 := Lib.hid ((HM7.out.new (.cells tupz 27) q9 hq).row 3 rfl CT)
    rw [← hq] at HF8 ⊢
    clear hq HN HM7 HF7
    generalize (u7.alloc (.cells tupz 27)).setRow q9 CT = u8 at *
    have x0 : u8.cell? ⟨w.heap.size, 0, none⟩ = some (.bool true) := blk_cell (HM8.out.get 0 rfl) 0
    go_wp2_with fail
    go_at_call 7
    refine (HW2.out u8 HF8.out).mono ?_
    rintro e u9 ⟨rfl, hb9⟩
    have HM9 := Lib.hid (HM8.out.step hb9)
    clear hb9 HM8 HF8 x0 HW2
    have HN : Hid ((u9.alloc (.cells tupz 27)).heap[u9.heap.size]? = some (.cells tupz 27 (0, 0))) := heap_alloc_new u9 _
    go_upto_region 16 with (first
      | (refine wpList_store_row rfl 27 (.tmp 11) (.tmp 110) rfl u9.heap.size CN rfl rfl 27 tupz HN.out (HI36.out.trans (by rw [HSZN.out])) (by rw [HSZN.out]; rfl) HON.out ?_))
    change Code.wp _ _ _ _ ((u9.alloc (.cells tupz 27)).setRow u9.heap.size CN)
    have HMA := Lib.hid ((HM9.out.new (.cells tupz 27) u9.heap.size rfl).row 4 rfl CN)
    clear HN HM9
    generalize (u9.alloc (.cells tupz 27)).setRow u9.heap.size CN = u10 at *
    have heq : ∀ W, (Op.equalIn 10000 27 (.agg CT) (.agg (tupc true 17 d s dp sp))).run Try.prog W = .ok true W := fun W => by
      rw [HCT.out]
      exact eqT ..
    go_wp2_with (first
      | (refine wpList_load_roww rfl 27 (.tmp 9) rfl q9 rfl 27 CT (0, 0) _ (HMA.out.get 3 rfl) Try.underlying27 rfl (HI36.out.trans (by rw [HSZT.out])) ?_)
      | (refine wpList_load_roww rfl 27 (.tmp 8) rfl q8 rfl 27 (tupc true 17 d s dp sp) (0, 0) _ (HMA.out.get 2 rfl) Try.underlying27 rfl (by kernel_rfl) ?_)
      | (go_at_call 6; refine (KN.out _).mono ?_; rintro e u11 ⟨rfl, hb11⟩))
    go_ret
    exact ⟨rfl, HMA.out.below.trans (hb11.mono HMA.out.below.size)⟩
end Go.Proofs.Ytfaelihfjmaekaa
