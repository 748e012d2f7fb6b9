import Derived.Test.YtimcdnbfdkpffaaGreatGm36
/- Stage 16: the landed flows: Touch. -/
namespace Go.Proofs.YtimcdnbfdkpffaaGreat
set_option maxRecDepth 100000
open Go.RowKit Go.Shelf
section
variable {w : World} {p pw pg b n c o1 o2 o3 o4 : Nat} {l l' : List Fr} {W W' : Wh} {G : Gr} {A B : Nat → Prop}
/-- A flow's state turned. -/
theorem FX.setSt (h : FX w p pw pg b n c o1 o2 o3 o4 l W G A B) (x : Nat) (v : Value) (hl : ∀ y, prow l' y = if y = x then (prow l x).setIfInBounds 41 v else prow l y) :
    FX (w.setCell ⟨b, x * 42 + 41, none⟩ v) p pw pg b n c o1 o2 o3 o4 l' W G A B ∧ ExtG (FF p b A B) (FF p b A B) w (w.setCell ⟨b, x * 42 + 41, none⟩ v) := by
  refine h.turn ((Kept.refl _ w).setCell (p := ⟨b, x * 42 + 41, none⟩) (.inl (.inr rfl)) _) ((Below.heap_setCell w ⟨b, x * 42 + 41, none⟩ _ p h.pb).trans h.blk) ((h.row.set_ (x * 42 + 41) v).same fun j _ => ?_)
  unfold fcell updV
  rw [hl (j / 42)]
  by_cases e : j / 42 = x
  · rw [if_pos e]
    by_cases q : j = x * 42 + 41
    · rw [if_pos q, show j % 42 = 41 by omega, Array.getD_eq_getD_getElem?, Array.getElem?_setIfInBounds_self_of_lt (by rw [prow_size]; decide)]
      rfl
    · rw [if_neg q, Array.getD_eq_getD_getElem?, Array.getElem?_setIfInBounds_ne (by omega)]
      show _ = (prow l (j / 42)).getD (j % 42) undef
      rw [e, Array.getD_eq_getD_getElem?]
  · rw [if_neg e, if_neg (show ¬ j = x * 42 + 41 by omega)]
set_option maxHeartbeats 1000000 in
theorem ftouch_bad (h : FX w p pw pg b n c o1 o2 o3 o4 l W G A B) {T : Array Value} {st : Nat} (hs : st < 256) (hm : fsM st = false) :
    Calls Tryz.prog 21 #[.pointer (some ⟨p, 0, none⟩), .agg T, .int .u8 (st : Int)] w (ret (.int .i64 2) w) := by
  have HB0 : Hid (Below w.heap.size w (w.alloc (.cells T 38))) := Lib.hid (below_alloc w _)
  have HX0 := Lib.hid (h.step HB0.out)
  have HMY := Lib.hid fun V => may_st st V hs
  rw [hm] at HMY
  clear h hm hs
  go_enter Tryz.func21, Tryz.ntmps21
  go_upto_region 1 with fail
  change Code.wp _ _ _ _ (w.alloc (.cells T 38))
  generalize w.alloc (.cells T 38) = u0 at *
  go_wp2_with (first
    | (go_at_call 39
       refine (fmade_c (blk_cell HX0.out.blk 0)).mono ?_
       rintro e u1 ⟨rfl, hb⟩
       have HB1 := Lib.hid (HB0.out.trans (hb.mono HB0.out.size))
       clear hb)
    | (go_at_call 51
       refine (HMY.out _).mono ?_
       rintro e u2 ⟨rfl, hb⟩
       have HB2 := Lib.hid (HB1.out.trans (hb.mono HB1.out.size))
       clear hb))
  go_ret
  exact ⟨rfl, HB2.out⟩
set_option maxHeartbeats 1000000 in
theorem ftouch_no (h : FX w p pw pg b n c o1 o2 o3 o4 l W G A B) {T : Array Value} {H x st : Nat} (hT : T.size = 36) (hs : st < 256) (hm : fsM st = true) (hf : ∀ V, FX V p pw pg b n c o1 o2 o3 o4 l W G A B → Calls Tryz.prog 43 #[.pointer (some ⟨p, 0, none⟩), .agg T] V (ret (.tuple #[.agg #[.int .u64 (H : Int), .int .u32 (x : Int)], .bool false]) V)) :
    Calls Tryz.prog 21 #[.pointer (some ⟨p, 0, none⟩), .agg T, .int .u8 (st : Int)] w (ret (.int .i64 7) w) := by
  have HB0 : Hid (Below w.heap.size w (w.alloc (.cells T 38))) := Lib.hid (below_alloc w _)
  have HM0 : Hid ((w.alloc (.cells T 38)).heap[w.heap.size]? = some (.cells T 38 (0, 0))) := Lib.hid (heap_alloc_new w _)
  have HX0 := Lib.hid (h.step HB0.out)
  have HF := Lib.hid hf
  have HS := Lib.hid hT
  have HI36 : Hid ((Tryz.prog.info? 38).map (·.size) = some 36) := Lib.hid (by kernel_rfl)
  have HRF : Hid (∀ k, FF p b A B k → k < w.heap.size) := Lib.hid h.old
  obtain ⟨r, hr⟩ : ∃ r, r = w.heap.size := ⟨_, rfl⟩
  rw [← hr] at HM0
  have HMY := Lib.hid fun V => may_st st V hs
  rw [hm] at HMY
  clear h hf hT hs hm
  go_enter Tryz.func21, Tryz.ntmps21
  go_upto_region 1 with fail
  change Code.wp _ _ _ _ (w.alloc (.cells T 38))
  rw [← hr]
  clear hr
  generalize w.alloc (.cells T 38) = u0 at *
  go_upto_region 3 with (first
    | (go_at_call 39
       refine (fmade_c (blk_cell HX0.out.blk 0)).mono ?_
       rintro e u1 ⟨rfl, hb⟩
       have HB1 := Lib.hid (HB0.out.trans (hb.mono HB0.out.size))
       have HX1 := Lib.hid (HX0.out.step hb)
       have HM1 : Hid (u1.heap[r]? = some (.cells T 38 (0, 0))) := Lib.hid ((hb.block _ (lt_heap HM0.out)).trans HM0.out)
       clear hb))
  go_upto_region 5 with (first
    | (go_at_call 51
       refine (HMY.out _).mono ?_
       rintro e u9 ⟨rfl, hb⟩
       have HBm := Lib.hid (HB1.out.trans (hb.mono HB1.out.size))
       have HXm := Lib.hid (HX1.out.step hb)
       have HMm : Hid (u9.heap[r]? = some (.cells T 38 (0, 0))) := Lib.hid ((hb.block _ (lt_heap HM1.out)).trans HM1.out)
       clear hb))
  go_upto_region 6 with (first
    | (refine wpList_load_roww rfl 38 (.tmp 4) rfl r rfl 38 T (0, 0) _ HMm.out Tryz.underlying38 rfl (HI36.out.trans (by rw [HS.out])) ?_)
    | (go_at_call 43
       refine (HF.out _ HXm.out).mono ?_
       rintro e u2 ⟨rfl, hb⟩
       have HB2 := Lib.hid (HBm.out.trans (hb.mono HBm.out.size))
       have HX2 := Lib.hid (HXm.out.step hb)
       have HN2 : Hid ((u2.alloc (.cells #[.int .u64 0, .int .u32 0] 99)).heap[u2.heap.size]? = some (.cells #[.int .u64 0, .int .u32 0] 99 (0, 0))) := Lib.hid (heap_alloc_new u2 _)
       clear hb))
  change Code.wp _ _ _ _ (u2.alloc (.cells #[.int .u64 (H : Int), .int .u32 (x : Int)] 99))
  have HM3 : Hid ((u2.alloc (.cells #[.int .u64 (H : Int), .int .u32 (x : Int)] 99)).heap[u2.heap.size]? = some (.cells #[.int .u64 (H : Int), .int .u32 (x : Int)] 99 (0, 0))) := Lib.hid (heap_alloc_new u2 _)
  have HB3 : Hid (Below w.heap.size w (u2.alloc (.cells #[.int .u64 (H : Int), .int .u32 (x : Int)] 99))) := Lib.hid (HB2.out.alloc HB2.out.size _)
  have HX3 := Lib.hid (HX2.out.step (below_alloc u2 (.cells #[.int .u64 (H : Int), .int .u32 (x : Int)] 99)))
  have HZ3 : Hid (w.heap.size ≤ u2.heap.size) := Lib.hid HB2.out.size
  clear HN2 HB2 HX2
  generalize u2.alloc (.cells #[.int .u64 (H : Int), .int .u32 (x : Int)] 99) = u3 at *
  generalize u2.heap.size = e5 at *
  go_wp2_with fail
  go_ret
  exact ⟨rfl, HB3.out⟩
set_option maxHeartbeats 2000000 in
theorem ftouch_yes (h : FX w p pw pg b n c o1 o2 o3 o4 l W G A B) {T : Array Value} {H x i k st D : Nat} (hT : T.size = 36) (hs : st < 256) (hm : fsM st = true) (hx : x < n) (hr0 : (prow l x).getD 0 undef = .int .i64 (i : Int)) (hr1 : (prow l x).getD 1 undef = .int .u64 (k : Int))
    (hf : ∀ V, FX V p pw pg b n c o1 o2 o3 o4 l W G A B → Calls Tryz.prog 43 #[.pointer (some ⟨p, 0, none⟩), .agg T] V (ret (.tuple #[.agg #[.int .u64 (H : Int), .int .u32 (x : Int)], .bool true]) V)) (hen : ∀ V, FX V p pw pg b n c o1 o2 o3 o4 l W G A B → Calls Tryz.prog 60 #[.pointer (some ⟨p, 0, none⟩), .int .u8 (st : Int)] V (ret (.int .u64 (D : Int)) V))
    (hc : ∀ V, FX V p pw pg b n c o1 o2 o3 o4 l W G A B → Calls Tryz.prog 59 #[.pointer (some ⟨pw, 0, none⟩), .agg #[.int .i64 (i : Int), .int .u64 (k : Int)], .int .u64 (D : Int)] V fun e V' => e = .returned (.int .i64 0) ∧ ∃ A', FX V' p pw pg b n c o1 o2 o3 o4 l W' G A' B ∧ ExtG (FF p b A B) (FF p b A' B) V V')
    (hl : ∀ y, prow l' y = if y = x then (prow l x).setIfInBounds 41 (.int .u8 (st : Int)) else prow l y) :
    Calls Tryz.prog 21 #[.pointer (some ⟨p, 0, none⟩), .agg T, .int .u8 (st : Int)] w fun e w' => e = .returned (.int .i64 0) ∧ ∃ A', FX w' p pw pg b n c o1 o2 o3 o4 l' W' G A' B ∧ ExtG (FF p b A B) (FF p b A' B) w w' := by
  have HB0 : Hid (Below w.heap.size w (w.alloc (.cells T 38))) := Lib.hid (below_alloc w _)
  have HM0 : Hid ((w.alloc (.cells T 38)).heap[w.heap.size]? = some (.cells T 38 (0, 0))) := Lib.hid (heap_alloc_new w _)
  have HX0 := Lib.hid (h.step HB0.out)
  have HF := Lib.hid hf
  have HS := Lib.hid hT
  have HI36 : Hid ((Tryz.prog.info? 38).map (·.size) = some 36) := Lib.hid (by kernel_rfl)
  have HRF : Hid (∀ k, FF p b A B k → k < w.heap.size) := Lib.hid h.old
  obtain ⟨r, hr⟩ : ∃ r, r = w.heap.size := ⟨_, rfl⟩
  rw [← hr] at HM0
  have HMY := Lib.hid fun V => may_st st V hs
  rw [hm] at HMY
  have HCA := Lib.hid hc
  have HEN := Lib.hid hen
  have HL := Lib.hid hl
  have HXN := Lib.hid hx
  have HR0 := Lib.hid hr0
  have HR1 := Lib.hid hr1
  have a0 : (0 : Int) ≤ (x : Int) := by omega
  have a1 : (x : Int) < (n : Int) := by omega
  have a2 : ((x : Int)).toNat = x := by omega
  clear h hf hT hs hm hc hx hr0 hr1 hen hl
  go_enter Tryz.func21, Tryz.ntmps21
  go_upto_region 1 with fail
  change Code.wp _ _ _ _ (w.alloc (.cells T 38))
  rw [← hr]
  clear hr
  generalize w.alloc (.cells T 38) = u0 at *
  go_upto_region 3 with (first
    | (go_at_call 39
       refine (fmade_c (blk_cell HX0.out.blk 0)).mono ?_
       rintro e u1 ⟨rfl, hb⟩
       have HB1 := Lib.hid (HB0.out.trans (hb.mono HB0.out.size))
       have HX1 := Lib.hid (HX0.out.step hb)
       have HM1 : Hid (u1.heap[r]? = some (.cells T 38 (0, 0))) := Lib.hid ((hb.block _ (lt_heap HM0.out)).trans HM0.out)
       clear hb))
  go_upto_region 5 with (first
    | (go_at_call 51
       refine (HMY.out _).mono ?_
       rintro e u9 ⟨rfl, hb⟩
       have HBm := Lib.hid (HB1.out.trans (hb.mono HB1.out.size))
       have HXm := Lib.hid (HX1.out.step hb)
       have HMm : Hid (u9.heap[r]? = some (.cells T 38 (0, 0))) := Lib.hid ((hb.block _ (lt_heap HM1.out)).trans HM1.out)
       clear hb))
  go_upto_region 6 with (first
    | (refine wpList_load_roww rfl 38 (.tmp 4) rfl r rfl 38 T (0, 0) _ HMm.out Tryz.underlying38 rfl (HI36.out.trans (by rw [HS.out])) ?_)
    | (go_at_call 43
       refine (HF.out _ HXm.out).mono ?_
       rintro e u2 ⟨rfl, hb⟩
       have HB2 := Lib.hid (HBm.out.trans (hb.mono HBm.out.size))
       have HX2 := Lib.hid (HXm.out.step hb)
       have HN2 : Hid ((u2.alloc (.cells #[.int .u64 0, .int .u32 0] 99)).heap[u2.heap.size]? = some (.cells #[.int .u64 0, .int .u32 0] 99 (0, 0))) := Lib.hid (heap_alloc_new u2 _)
       clear hb))
  change Code.wp _ _ _ _ (u2.alloc (.cells #[.int .u64 (H : Int), .int .u32 (x : Int)] 99))
  have HM3 : Hid ((u2.alloc (.cells #[.int .u64 (H : Int), .int .u32 (x : Int)] 99)).heap[u2.heap.size]? = some (.cells #[.int .u64 (H : Int), .int .u32 (x : Int)] 99 (0, 0))) := Lib.hid (heap_alloc_new u2 _)
  have HB3 : Hid (Below w.heap.size w (u2.alloc (.cells #[.int .u64 (H : Int), .int .u32 (x : Int)] 99))) := Lib.hid (HB2.out.alloc HB2.out.size _)
  have HX3 := Lib.hid (HX2.out.step (below_alloc u2 (.cells #[.int .u64 (H : Int), .int .u32 (x : Int)] 99)))
  have HZ3 : Hid (w.heap.size ≤ u2.heap.size) := Lib.hid HB2.out.size
  clear HN2 HB2 HX2
  generalize u2.alloc (.cells #[.int .u64 (H : Int), .int .u32 (x : Int)] 99) = u3 at *
  generalize u2.heap.size = e5 at *
  go_upto_region 8 with fail
  have q6 : ∀ U : Stay u3, U.w.cell? ⟨p, 6, none⟩ = some (.slice (some ⟨b, 0, none⟩) n c) := fun U => Stay.cell (blk_cell HX3.out.blk 6) U
  have q1 : ∀ U : Stay u3, U.w.cell? ⟨e5, 1, none⟩ = some (.int .u32 (x : Int)) := fun U => Stay.cell (blk_cell HM3.out 1) U
  refine wp_region_stay (by kernel_rfl) (by kernel_rfl) ?_
  repeat (go_big_quiet_step (fail))
  refine wpQuiet_nil ?_
  intro w' hw'
  obtain ⟨U, rfl⟩ := hw'
  have HB4 : Hid (Below w.heap.size w U.w) := Lib.hid (HB3.out.trans (U.below.mono HB3.out.size))
  have HX4 := Lib.hid (HX3.out.step U.below)
  clear q6 q1 HX3 HB3
  generalize U.w = u4 at *
  go_upto_region 9 with fail
  have xp0 : u4.cell? ⟨p, 0, none⟩ = some (.pointer (some ⟨pw, 0, none⟩)) := blk_cell HX4.out.blk 0
  have xb0 : u4.cell? ⟨b, x * 42, none⟩ = some (.int .i64 (i : Int)) := by rw [← HR0.out]; exact (HX4.out.lies HXN.out (by decide : 0 < 42)).1
  have xb1 : u4.cell? ⟨b, x * 42 + 1, none⟩ = some (.int .u64 (k : Int)) := by rw [← HR1.out]; exact (HX4.out.lies HXN.out (by decide : 1 < 42)).1
  have HPL : Hid (p < u4.heap.size) := Lib.hid HX4.out.pold
  have HBL : Hid (b < u4.heap.size) := Lib.hid HX4.out.bold
  refine wp_region_grow (C := fun W => Below u4.heap.size u4 W) 11 51 [val (.pointer (some ⟨p, 0, none⟩)), val (.pointer (some ⟨p, 0, none⟩)), val (.pointer (some ⟨p, 0, none⟩)), val (.pointer (some ⟨pw, 0, none⟩)), val (.pointer (some ⟨b, x * 42, none⟩)), val (.pointer (some ⟨b, x * 42, none⟩)), val (.pointer (some ⟨b, x * 42, none⟩)), val (.agg #[.int .i64 (i : Int), .int .u64 (k : Int)]), val (.pointer (some ⟨p, 0, none⟩)), val (.int .u8 (st : Int)), val (.int .u64 (D : Int))] (by kernel_rfl) rfl (by kernel_rfl) rfl ⟨stb_val _, stb_val _, stb_val _, stb_val _, stb_val _, stb_val _, stb_val _, stb_val _, stb_val _, stb_val _, stb_val _, trivial⟩ (Below.refl _ _).drew ?_ ?_
  · refine each_cons ?_ ?_
    · intro a W hW hd
      have h0 : a.tmps[0]?.getD undef = .pointer (some ⟨p, 0, none⟩) := slot_eq (hd 0 (by decide))
      exact grows_value _ hW (by simp [execOp, Act.eval, h0]) rfl
    refine each_cons ?_ ?_
    · intro a W hW hd
      have h32 : a.tmps[32]?.getD undef = .pointer (some ⟨p, 0, none⟩) := slot_eq (hd 32 (by decide))
      refine grows_value _ hW (?_ : _ = _) rfl
      clear hd
      go_simp
    refine each_cons ?_ ?_
    · intro a W hW hd
      have h33 : a.tmps[33]?.getD undef = .pointer (some ⟨p, 0, none⟩) := slot_eq (hd 33 (by decide))
      refine grows_value _ hW (?_ : _ = _) rfl
      clear hd
      go_simp
    refine each_cons ?_ ?_
    · intro a W hW hd
      have h34 : a.tmps[34]?.getD undef = .pointer (some ⟨p, 0, none⟩) := slot_eq (hd 34 (by decide))
      have xx : W.cell? ⟨p, 0, none⟩ = some (.pointer (some ⟨pw, 0, none⟩)) := (hW.cell (p := ⟨p, 0, none⟩) HPL.out).trans xp0
      refine grows_value _ hW (?_ : _ = _) rfl
      clear hd
      go_simp
    refine each_cons ?_ ?_
    · intro a W hW hd
      have h9 : a.tmps[9]?.getD undef = .pointer (some ⟨b, x * 42, none⟩) := slot_eq (hd 9 (by decide))
      exact grows_value _ hW (by simp [execOp, Act.eval, h9]) rfl
    refine each_cons ?_ ?_
    · intro a W hW hd
      have h36 : a.tmps[36]?.getD undef = .pointer (some ⟨b, x * 42, none⟩) := slot_eq (hd 36 (by decide))
      refine grows_value _ hW (?_ : _ = _) rfl
      clear hd
      go_simp
    refine each_cons ?_ ?_
    · intro a W hW hd
      have h37 : a.tmps[37]?.getD undef = .pointer (some ⟨b, x * 42, none⟩) := slot_eq (hd 37 (by decide))
      refine grows_value _ hW (?_ : _ = _) rfl
      clear hd
      go_simp
    refine each_cons ?_ ?_
    · intro a W hW hd
      have h38 : a.tmps[38]?.getD undef = .pointer (some ⟨b, x * 42, none⟩) := slot_eq (hd 38 (by decide))
      have xx0 : W.cell? ⟨b, x * 42, none⟩ = some (.int .i64 (i : Int)) := (hW.cell (p := ⟨b, x * 42, none⟩) HBL.out).trans xb0
      have xx1 : W.cell? ⟨b, x * 42 + 1, none⟩ = some (.int .u64 (k : Int)) := (hW.cell (p := ⟨b, x * 42 + 1, none⟩) HBL.out).trans xb1
      refine grows_value _ hW (?_ : _ = _) rfl
      clear hd
      go_simp
    refine each_cons ?_ ?_
    · intro a W hW hd
      have h0 : a.tmps[0]?.getD undef = .pointer (some ⟨p, 0, none⟩) := slot_eq (hd 0 (by decide))
      exact grows_value _ hW (by simp [execOp, Act.eval, h0]) rfl
    refine each_cons ?_ ?_
    · intro a W hW hd
      have h2 : a.tmps[2]?.getD undef = .int .u8 (st : Int) := slot_eq (hd 2 (by decide))
      exact grows_value _ hW (by simp [execOp, Act.eval, h2]) rfl
    refine each_cons ?_ ?_
    · intro a W hW hd
      have h40 : a.tmps[40]?.getD undef = .pointer (some ⟨p, 0, none⟩) := slot_eq (hd 40 (by decide))
      have h41 : a.tmps[41]?.getD undef = .int .u8 (st : Int) := slot_eq (hd 41 (by decide))
      refine grows_call (fn := 60) (args := #[.pointer (some ⟨p, 0, none⟩), .int .u8 (st : Int)]) (by clear hd; go_simp) ?_
      refine (HEN.out W (HX4.out.step hW)).mono ?_
      rintro e w' ⟨rfl, hb⟩
      exact ⟨_, rfl, rfl, hb, hW.trans (hb.mono hW.size)⟩
    exact each_nil
  · refine behind_val rfl ?_
    refine behind_val rfl ?_
    refine behind_val rfl ?_
    refine behind_val rfl ?_
    refine behind_val rfl ?_
    refine behind_val rfl ?_
    refine behind_val rfl ?_
    refine behind_val rfl ?_
    refine behind_val rfl ?_
    refine behind_val rfl ?_
    refine behind_val rfl ?_
    refine behind_nil fun W5 hCW5 hFW5 => ?_
    simp only [Act.put, List.setIfInBounds_toArray, List.set_cons_succ, List.set_cons_zero, List.drop_succ_cons, List.drop_zero]
    clear hFW5 xp0 xb0 xb1
    have HX5 := Lib.hid (HX4.out.step hCW5)
    have HE5 : Hid (ExtG (FF p b A B) (FF p b A B) w W5) := Lib.hid (ExtG.of_below (HB4.out.trans (hCW5.mono HB4.out.size)))
    clear hCW5 HX4 HB4
    go_upto_region 12 with (first
      | (go_at_call 59
         refine (HCA.out _ HX5.out).mono ?_
         rintro e u6 ⟨rfl, A', hx, he⟩
         have HX6 := Lib.hid hx
         have HE6 : Hid (ExtG (FF p b A B) (FF p b A' B) w u6) := Lib.hid (HE5.out.trans he)
         clear hx he))
    clear HX5 HE5
    have xs : (u6.cell? ⟨b, x * 42 + 41, none⟩).isSome = true := by rw [(HX6.out.lies HXN.out (by decide : 41 < 42)).1]; rfl
    obtain ⟨vs, xs⟩ := Option.isSome_iff_exists.1 xs
    have ys : u6.frozen? ⟨b, x * 42 + 41, none⟩ = false := (HX6.out.lies HXN.out (by decide : 41 < 42)).2
    have HY := Lib.hid (HX6.out.setSt x (.int .u8 (st : Int)) HL.out)
    clear HX6
    go_wp2_with fail
    go_ret
    exact ⟨rfl, A', HY.out.1, HE6.out.trans HY.out.2⟩
end
end Go.Proofs.YtimcdnbfdkpffaaGreat
