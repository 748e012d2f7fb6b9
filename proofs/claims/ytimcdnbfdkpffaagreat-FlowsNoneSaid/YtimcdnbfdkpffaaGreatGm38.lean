import Derived.Test.YtimcdnbfdkpffaaGreatGm36
/- Stage 16: the landed flows: Get. -/
namespace Go.Proofs.YtimcdnbfdkpffaaGreat
set_option maxRecDepth 100000
open Go.RowKit Go.Shelf
theorem alloc_2 (w : World) (x y : Obj) : Below w.heap.size w ((w.alloc x).alloc y) ∧ ((w.alloc x).alloc y).heap[w.heap.size]? = some x ∧ ((w.alloc x).alloc y).heap[w.heap.size + 1]? = some y := by
  have z1 : (w.alloc x).heap.size = w.heap.size + 1 := by simp
  refine ⟨(below_alloc w x).alloc (below_alloc w x).size y, blk_old (heap_alloc_new w x) y, ?_⟩
  have := heap_alloc_new (w.alloc x) y
  rwa [z1] at this
theorem pc_0 (r : Fr) : r.pc[0]? = some (.int .i64 (r.i : Int)) ∧ r.pc[1]? = some (.int .u64 (r.k : Int)) := by
  unfold Fr.pc
  rw [Array.append_assoc]
  exact ⟨by rw [Array.getElem?_append_left (by show 0 < 2; decide)]; rfl, by rw [Array.getElem?_append_left (by show 1 < 2; decide)]; rfl⟩
section
variable {w : World} {p pw pg b n c o1 o2 o3 o4 : Nat} {l : List Fr} {W : Wh} {G : Gr} {A B : Nat → Prop}
set_option maxHeartbeats 1000000 in
theorem fget_no (h : FX w p pw pg b n c o1 o2 o3 o4 l W G A B) {T : Array Value} {H x : Nat} (hT : T.size = 36) (hf : ∀ V, FX V p pw pg b n c o1 o2 o3 o4 l W G A B → Calls Tryz.prog 43 #[.pointer (some ⟨p, 0, none⟩), .agg T] V (ret (.tuple #[.agg #[.int .u64 (H : Int), .int .u32 (x : Int)], .bool false]) V)) :
    Calls Tryz.prog 20 #[.pointer (some ⟨p, 0, none⟩), .agg T] w (ret (.tuple #[.agg flz, .bool false]) w) := by
  have HA := Lib.hid (alloc_2 w (.cells T 38) (.cells flz 59))
  have HF := Lib.hid hf
  have HS := Lib.hid hT
  have HI36 : Hid ((Tryz.prog.info? 38).map (·.size) = some 36) := Lib.hid (by kernel_rfl)
  have HI41 : Hid ((Tryz.prog.info? 59).map (·.size) = some 41) := Lib.hid (by kernel_rfl)
  have HRF : Hid (∀ k, FF p b A B k → k < w.heap.size) := Lib.hid h.old
  have HX0 := Lib.hid (h.step HA.out.1)
  obtain ⟨Z, hZ⟩ : ∃ Z, Z = flz := ⟨_, rfl⟩
  have HZS : Hid (Z.size = 41) := Lib.hid (by rw [hZ]; rfl)
  have HZO : Hid (Z.all (·.oneCell') = true) := Lib.hid (by rw [hZ]; simp [flz, tupc, Value.oneCell'])
  have hbz : ∀ V : World, (Instr.build 59 #[]).run Tryz.prog V = .ok (.agg Z) V := fun V => by
    rw [hZ]
    kernel_rfl
  have HZE := Lib.hid hZ
  rw [← HZE.out]
  clear h hf hT HZE
  go_enter Tryz.func20, Tryz.ntmps20
  go_upto_region 1 with fail
  change Code.wp _ _ _ _ ((w.alloc (.cells T 38)).alloc (.cells flz 59))
  rw [← hZ] at HA HX0 ⊢
  clear hZ
  generalize (w.alloc (.cells T 38)).alloc (.cells Z 59) = u0 at *
  have HB0 := Lib.hid HA.out.1
  have HM0 := Lib.hid HA.out.2.1
  have HZ0 := Lib.hid HA.out.2.2
  have HB4 : Hid (w.heap.size ≤ w.heap.size + 1) := Lib.hid (Nat.le_succ _)
  clear HA
  generalize w.heap.size + 1 = b4 at *
  obtain ⟨r3, hr3⟩ : ∃ r, r = w.heap.size := ⟨_, rfl⟩
  rw [← hr3] at HM0 ⊢
  clear hr3
  go_upto_region 3 with (first
    | (go_at_call 39
       refine (fmade_c (blk_cell HX0.out.blk 0)).mono ?_
       rintro e u1 ⟨rfl, hb⟩
       have HB1 := Lib.hid (HB0.out.trans (hb.mono HB0.out.size))
       have HX1 := Lib.hid (HX0.out.step hb)
       have HM1 : Hid (u1.heap[r3]? = some (.cells T 38 (0, 0))) := Lib.hid ((hb.block _ (lt_heap HM0.out)).trans HM0.out)
       have HZ1 := Lib.hid ((hb.block _ (lt_heap HZ0.out)).trans HZ0.out)
       clear hb))
  go_upto_region 4 with (first
    | (refine wpList_load_roww rfl 38 (.tmp 3) rfl r3 rfl 38 T (0, 0) _ HM1.out Tryz.underlying38 rfl (HI36.out.trans (by rw [HS.out])) ?_)
    | (go_at_call 43
       refine (HF.out _ HX1.out).mono ?_
       rintro e u2 ⟨rfl, hb⟩
       have HB2 := Lib.hid (HB1.out.trans (hb.mono HB1.out.size))
       have HX2 := Lib.hid (HX1.out.step hb)
       have HZ2 := Lib.hid ((hb.block _ (lt_heap HZ1.out)).trans HZ1.out)
       have HN2 : Hid ((u2.alloc (.cells #[.int .u64 0, .int .u32 0] 99)).heap[u2.heap.size]? = some (.cells #[.int .u64 0, .int .u32 0] 99 (0, 0))) := Lib.hid (heap_alloc_new u2 _)
       clear hb))
  change Code.wp _ _ _ _ (u2.alloc (.cells #[.int .u64 (H : Int), .int .u32 (x : Int)] 99))
  have HM3 : Hid ((u2.alloc (.cells #[.int .u64 (H : Int), .int .u32 (x : Int)] 99)).heap[u2.heap.size]? = some (.cells #[.int .u64 (H : Int), .int .u32 (x : Int)] 99 (0, 0))) := Lib.hid (heap_alloc_new u2 _)
  have HB3 : Hid (Below w.heap.size w (u2.alloc (.cells #[.int .u64 (H : Int), .int .u32 (x : Int)] 99))) := Lib.hid (HB2.out.alloc HB2.out.size _)
  have HX3 := Lib.hid (HX2.out.step (below_alloc u2 (.cells #[.int .u64 (H : Int), .int .u32 (x : Int)] 99)))
  have HZ3 : Hid ((u2.alloc (.cells #[.int .u64 (H : Int), .int .u32 (x : Int)] 99)).heap[b4]? = some (.cells Z 59 (0, 0))) := Lib.hid (blk_old HZ2.out _)
  clear HN2 HB2 HX2 HZ2
  generalize u2.alloc (.cells #[.int .u64 (H : Int), .int .u32 (x : Int)] 99) = u3 at *
  generalize u2.heap.size = e5 at *
  go_wp2_with (first
    | (refine wpList_bw (.agg Z) 59 [] [] hbz (by with_reducible_and_instances rfl) rfl rfl ?_)
    | (refine wpList_store_row rfl 59 (.tmp 4) (.tmp 23) rfl b4 Z rfl rfl 59 Z HZ3.out (HI41.out.trans (by rw [HZS.out])) rfl HZO.out ?_))
  refine bodyPost_ret (v := .tuple #[.agg Z, .bool false]) (results_rowa Tryz.results20 _ _ b4 59 Z (0, 0) _ rfl (setRow_heap _ b4 _ Z _ _ HZ3.out) Tryz.underlying59 rfl (HI41.out.trans (by rw [HZS.out]))) rfl ?_
  exact ⟨rfl, below_setRow HB3.out HB4.out _⟩
set_option maxHeartbeats 2000000 in
theorem fget_yes (h : FX w p pw pg b n c o1 o2 o3 o4 l W G A B) {T : Array Value} {H x due : Nat} {r : Fr} (hT : T.size = 36) (hx : x < n) (hr : prow l x = r.pc) (hf : ∀ V, FX V p pw pg b n c o1 o2 o3 o4 l W G A B → Calls Tryz.prog 43 #[.pointer (some ⟨p, 0, none⟩), .agg T] V (ret (.tuple #[.agg #[.int .u64 (H : Int), .int .u32 (x : Int)], .bool true]) V))
    (hd : ∀ V, FX V p pw pg b n c o1 o2 o3 o4 l W G A B → Calls Tryz.prog 58 #[.pointer (some ⟨pw, 0, none⟩), .agg #[.int .i64 (r.i : Int), .int .u64 (r.k : Int)]] V (ret (.tuple #[.int .u64 (due : Int), .bool true]) V)) :
    Calls Tryz.prog 20 #[.pointer (some ⟨p, 0, none⟩), .agg T] w (ret (.tuple #[.agg (Fr.c ⟨r.t, r.p, r.st, due, r.i, r.k⟩), .bool true]) w) := by
  have HA := Lib.hid (alloc_2 w (.cells T 38) (.cells flz 59))
  have HF := Lib.hid hf
  have HS := Lib.hid hT
  have HI36 : Hid ((Tryz.prog.info? 38).map (·.size) = some 36) := Lib.hid (by kernel_rfl)
  have HI41 : Hid ((Tryz.prog.info? 59).map (·.size) = some 41) := Lib.hid (by kernel_rfl)
  have HRF : Hid (∀ k, FF p b A B k → k < w.heap.size) := Lib.hid h.old
  have HX0 := Lib.hid (h.step HA.out.1)
  obtain ⟨Z, hZ⟩ : ∃ Z, Z = flz := ⟨_, rfl⟩
  have HZS : Hid (Z.size = 41) := Lib.hid (by rw [hZ]; rfl)
  have HZO : Hid (Z.all (·.oneCell') = true) := Lib.hid (by rw [hZ]; simp [flz, tupc, Value.oneCell'])
  have hbz : ∀ V : World, (Instr.build 59 #[]).run Tryz.prog V = .ok (.agg Z) V := fun V => by
    rw [hZ]
    kernel_rfl
  have HDU := Lib.hid hd
  have HXN := Lib.hid hx
  have a0 : (0 : Int) ≤ (x : Int) := by omega
  have a1 : (x : Int) < (n : Int) := by omega
  have a2 : ((x : Int)).toNat = x := by omega
  have HFL := Lib.hid fun V => fflow_any r due V
  obtain ⟨R, hR⟩ : ∃ R, R = Fr.c ⟨r.t, r.p, r.st, due, r.i, r.k⟩ := ⟨_, rfl⟩
  obtain ⟨C, hC⟩ : ∃ C, C = r.pc := ⟨_, rfl⟩
  have HRS : Hid (R.size = 41) := Lib.hid (by rw [hR]; exact flc_size _)
  have HRO : Hid (R.all (·.oneCell') = true) := Lib.hid (by rw [hR]; exact flc_one _)
  have HCS : Hid (C.size = 42) := Lib.hid (by rw [hC]; exact pc_size r)
  have HCO : Hid (C.all (·.oneCell') = true) := Lib.hid (by rw [hC]; exact pc_one r)
  have HP0 : Hid (C[0]? = some (.int .i64 (r.i : Int))) := Lib.hid (by rw [hC]; exact (pc_0 r).1)
  have HP1 : Hid (C[1]? = some (.int .u64 (r.k : Int))) := Lib.hid (by rw [hC]; exact (pc_0 r).2)
  have HPR : Hid (prow l x = C) := Lib.hid (hr.trans hC.symm)
  have HI42 : Hid ((Tryz.prog.info? 97).map (·.size) = some 42) := Lib.hid (by kernel_rfl)
  rw [← hR, ← hC] at HFL
  rw [← hR]
  clear h hf hT hx hr hd hR hC
  go_enter Tryz.func20, Tryz.ntmps20
  go_upto_region 1 with fail
  change Code.wp _ _ _ _ ((w.alloc (.cells T 38)).alloc (.cells flz 59))
  rw [← hZ] at HA HX0 ⊢
  clear hZ
  generalize (w.alloc (.cells T 38)).alloc (.cells Z 59) = u0 at *
  have HB0 := Lib.hid HA.out.1
  have HM0 := Lib.hid HA.out.2.1
  have HZ0 := Lib.hid HA.out.2.2
  have HB4 : Hid (w.heap.size ≤ w.heap.size + 1) := Lib.hid (Nat.le_succ _)
  clear HA
  generalize w.heap.size + 1 = b4 at *
  obtain ⟨r3, hr3⟩ : ∃ r, r = w.heap.size := ⟨_, rfl⟩
  rw [← hr3] at HM0 ⊢
  clear hr3
  go_upto_region 3 with (first
    | (go_at_call 39
       refine (fmade_c (blk_cell HX0.out.blk 0)).mono ?_
       rintro e u1 ⟨rfl, hb⟩
       have HB1 := Lib.hid (HB0.out.trans (hb.mono HB0.out.size))
       have HX1 := Lib.hid (HX0.out.step hb)
       have HM1 : Hid (u1.heap[r3]? = some (.cells T 38 (0, 0))) := Lib.hid ((hb.block _ (lt_heap HM0.out)).trans HM0.out)
       have HZ1 := Lib.hid ((hb.block _ (lt_heap HZ0.out)).trans HZ0.out)
       clear hb))
  go_upto_region 4 with (first
    | (refine wpList_load_roww rfl 38 (.tmp 3) rfl r3 rfl 38 T (0, 0) _ HM1.out Tryz.underlying38 rfl (HI36.out.trans (by rw [HS.out])) ?_)
    | (go_at_call 43
       refine (HF.out _ HX1.out).mono ?_
       rintro e u2 ⟨rfl, hb⟩
       have HB2 := Lib.hid (HB1.out.trans (hb.mono HB1.out.size))
       have HX2 := Lib.hid (HX1.out.step hb)
       have HZ2 := Lib.hid ((hb.block _ (lt_heap HZ1.out)).trans HZ1.out)
       have HN2 : Hid ((u2.alloc (.cells #[.int .u64 0, .int .u32 0] 99)).heap[u2.heap.size]? = some (.cells #[.int .u64 0, .int .u32 0] 99 (0, 0))) := Lib.hid (heap_alloc_new u2 _)
       clear hb))
  change Code.wp _ _ _ _ (u2.alloc (.cells #[.int .u64 (H : Int), .int .u32 (x : Int)] 99))
  have HM3 : Hid ((u2.alloc (.cells #[.int .u64 (H : Int), .int .u32 (x : Int)] 99)).heap[u2.heap.size]? = some (.cells #[.int .u64 (H : Int), .int .u32 (x : Int)] 99 (0, 0))) := Lib.hid (heap_alloc_new u2 _)
  have HB3 : Hid (Below w.heap.size w (u2.alloc (.cells #[.int .u64 (H : Int), .int .u32 (x : Int)] 99))) := Lib.hid (HB2.out.alloc HB2.out.size _)
  have HX3 := Lib.hid (HX2.out.step (below_alloc u2 (.cells #[.int .u64 (H : Int), .int .u32 (x : Int)] 99)))
  have HZ3 : Hid ((u2.alloc (.cells #[.int .u64 (H : Int), .int .u32 (x : Int)] 99)).heap[b4]? = some (.cells Z 59 (0, 0))) := Lib.hid (blk_old HZ2.out _)
  clear HN2 HB2 HX2 HZ2
  generalize u2.alloc (.cells #[.int .u64 (H : Int), .int .u32 (x : Int)] 99) = u3 at *
  generalize u2.heap.size = e5 at *
  go_upto_region 6 with fail
  have xp6 : u3.cell? ⟨p, 6, none⟩ = some (.slice (some ⟨b, 0, none⟩) n c) := blk_cell HX3.out.blk 6
  have xe51 : u3.cell? ⟨e5, 1, none⟩ = some (.int .u32 (x : Int)) := blk_cell HM3.out 1
  have HRG : Hid (u3.rangeAt b (x * 42) C.toList) := Lib.hid (HX3.out.rng HXN.out 0 C (by rw [HCS.out]; decide) fun i hi => by rw [HPR.out, Nat.zero_add])
  have HPL : Hid (p < u3.heap.size) := Lib.hid HX3.out.pold
  have HBL : Hid (b < u3.heap.size) := Lib.hid HX3.out.bold
  have HRL : Hid (e5 < u3.heap.size) := Lib.hid (lt_heap HM3.out)
  refine wp_region_grow (C := fun W => Below u3.heap.size u3 W) 9 45 [val (.pointer (some ⟨p, 0, none⟩)), val (.pointer (some ⟨p, 0, none⟩)), val (.pointer (some ⟨p, 6, none⟩)), val (.slice (some ⟨b, 0, none⟩) n c), val (.pointer (some ⟨e5, 1, none⟩)), val (.int .u32 (x : Int)), val (.pointer (some ⟨b, x * 42, none⟩)), val (.agg C), fun v W => ∃ z, v = .pointer (some ⟨z, 0, none⟩) ∧ W.heap[z]? = some (.cells pz 97 (0, 0)) ∧ u3.heap.size ≤ z] (by kernel_rfl) rfl (by kernel_rfl) rfl ⟨stb_val _, stb_val _, stb_val _, stb_val _, stb_val _, stb_val _, stb_val _, stb_val _, (fun v W W' h hb => by obtain ⟨z, h1, h2, h3⟩ := h; exact ⟨z, h1, (hb.block _ (lt_heap h2)).trans h2, h3⟩), trivial⟩ (Below.refl _ _).drew ?_ ?_
  · refine each_cons ?_ ?_
    · intro a W hW hd
      have h0 : a.tmps[0]?.getD undef = .pointer (some ⟨p, 0, none⟩) := slot_eq (hd 0 (by decide))
      exact grows_value _ hW (by simp [execOp, Act.eval, h0]) rfl
    refine each_cons ?_ ?_
    · intro a W hW hd
      have h24 : a.tmps[24]?.getD undef = .pointer (some ⟨p, 0, none⟩) := slot_eq (hd 24 (by decide))
      refine grows_value _ hW (?_ : _ = _) rfl
      clear hd
      go_simp
    refine each_cons ?_ ?_
    · intro a W hW hd
      have h25 : a.tmps[25]?.getD undef = .pointer (some ⟨p, 0, none⟩) := slot_eq (hd 25 (by decide))
      refine grows_value _ hW (?_ : _ = _) rfl
      clear hd
      go_simp
    refine each_cons ?_ ?_
    · intro a W hW hd
      have h26 : a.tmps[26]?.getD undef = .pointer (some ⟨p, 6, none⟩) := slot_eq (hd 26 (by decide))
      have xx : W.cell? ⟨p, 6, none⟩ = some (.slice (some ⟨b, 0, none⟩) n c) := (hW.cell (p := ⟨p, 6, none⟩) HPL.out).trans xp6
      refine grows_value _ hW (?_ : _ = _) rfl
      clear hd
      go_simp
    refine each_cons ?_ ?_
    · intro a W hW hd
      have h6 : a.tmps[6]?.getD undef = .pointer (some ⟨e5, 0, none⟩) := slot_eq (hd 6 (by decide))
      refine grows_value _ hW (?_ : _ = _) rfl
      clear hd
      go_simp
    refine each_cons ?_ ?_
    · intro a W hW hd
      have h28 : a.tmps[28]?.getD undef = .pointer (some ⟨e5, 1, none⟩) := slot_eq (hd 28 (by decide))
      have xx : W.cell? ⟨e5, 1, none⟩ = some (.int .u32 (x : Int)) := (hW.cell (p := ⟨e5, 1, none⟩) HRL.out).trans xe51
      refine grows_value _ hW (?_ : _ = _) rfl
      clear hd
      go_simp
    refine each_cons ?_ ?_
    · intro a W hW hd
      have h27 : a.tmps[27]?.getD undef = .slice (some ⟨b, 0, none⟩) n c := slot_eq (hd 27 (by decide))
      have h29 : a.tmps[29]?.getD undef = .int .u32 (x : Int) := slot_eq (hd 29 (by decide))
      refine grows_value _ hW (?_ : _ = _) rfl
      clear hd
      go_simp
    refine each_cons ?_ ?_
    · intro a W hW hd
      have h30 : a.tmps[30]?.getD undef = .pointer (some ⟨b, x * 42, none⟩) := slot_eq (hd 30 (by decide))
      have hld := run_loadVar_mid (P := Tryz.prog) W b (x * 42) 97 C.toList _ (fun j v hv => (hW.cell (p := ⟨b, x * 42 + j, none⟩) HBL.out).trans (HRG.out j v hv)) Tryz.underlying97 rfl (HI42.out.trans (by rw [Array.length_toList, HCS.out]))
      refine grows_value _ hW (?_ : _ = _) rfl
      clear hd
      simp only [execOp, Act.eval, Array.getD_eq_getD_getElem?, h30, Instr.loadAt, Instr.sureAddr, Sem.run_bind, Sem.run_pure, Result.andThen_ok, hld]
    refine each_cons ?_ ?_
    · intro a W hW hd
      refine grows_new (w' := W.alloc (.cells pz 97)) (.pointer (some ⟨W.heap.size, 0, none⟩)) (?_ : _ = _) ⟨W.heap.size, rfl, heap_alloc_new W _, hW.size⟩ (below_alloc W _) (hW.alloc hW.size _)
      clear hd
      kernel_rfl
    exact each_nil
  · refine behind_val rfl ?_
    refine behind_val rfl ?_
    refine behind_val rfl ?_
    refine behind_val rfl ?_
    refine behind_val rfl ?_
    refine behind_val rfl ?_
    refine behind_val rfl ?_
    refine behind_val rfl ?_
    refine behind_cons fun v8 => ?_
    refine behind_nil fun W5 hCW5 hFW5 => ?_
    simp only [Act.put, List.setIfInBounds_toArray, List.set_cons_succ, List.set_cons_zero, List.drop_succ_cons, List.drop_zero]
    obtain ⟨_, z, rfl, hz, hzl⟩ := hFW5
    clear xp6 xe51
    have HX5 := Lib.hid (HX3.out.step hCW5)
    have HZ5 := Lib.hid ((hCW5.block _ (lt_heap HZ3.out)).trans HZ3.out)
    have HB5 : Hid (Below w.heap.size w W5) := Lib.hid (HB3.out.trans (hCW5.mono HB3.out.size))
    have HZC := Lib.hid hz
    have HZL : Hid (w.heap.size ≤ z) := Lib.hid (Nat.le_trans HB3.out.size hzl)
    have HZN : Hid (b4 ≠ z) := Lib.hid (by have := lt_heap HZ3.out; omega)
    clear hCW5 HX3 HM3 HB3 HZ3 hz hzl HRL
    go_upto_region 7 with (first
      | (refine wpList_store_row rfl 97 (.tmp 8) (.tmp 31) rfl z C rfl rfl 97 pz HZC.out (HI42.out.trans (by rw [HCS.out])) (by rw [HCS.out]; exact pz_size) HCO.out ?_))
    change Code.wp _ _ _ _ (W5.setRow z C)
    have HX6 : Hid (FX (W5.setRow z C) p pw pg b n c o1 o2 o3 o4 l W G A B) := Lib.hid (HX5.out.keep ((Kept.refl (fun k => k = z) W5).setRow (.inl rfl) C) fun k hk e => by
      have h1 := HRF.out k hk
      have h2 := HZL.out
      have e : k = z := e
      omega)
    have HC6 : Hid ((W5.setRow z C).heap[z]? = some (.cells C 97 (0, 0))) := Lib.hid (setRow_heap _ z _ C _ _ HZC.out)
    have HZ6 : Hid ((W5.setRow z C).heap[b4]? = some (.cells Z 59 (0, 0))) := Lib.hid ((setRow_other W5 z b4 C HZN.out).trans HZ5.out)
    have HB6 : Hid (Below w.heap.size w (W5.setRow z C)) := Lib.hid (below_setRow HB5.out HZL.out C)
    clear HX5 HZ5 HB5 HZC
    simp only [Act.put]
    generalize W5.setRow z C = u6 at *
    have q0 : ∀ U : Stay u6, U.w.cell? ⟨p, 0, none⟩ = some (.pointer (some ⟨pw, 0, none⟩)) := fun U => Stay.cell (blk_cell HX6.out.blk 0) U
    have q1 : ∀ U : Stay u6, U.w.cell? ⟨z, 0, none⟩ = some (.int .i64 (r.i : Int)) := fun U => Stay.cell ((blk_cell HC6.out 0).trans HP0.out) U
    have q2 : ∀ U : Stay u6, U.w.cell? ⟨z, 1, none⟩ = some (.int .u64 (r.k : Int)) := fun U => Stay.cell ((blk_cell HC6.out 1).trans HP1.out) U
    refine wp_region_stay (by kernel_rfl) (by kernel_rfl) ?_
    repeat (go_big_quiet_step (first | (go_at_call 58; with_reducible exact Calls.stay _ (HDU.out _ (HX6.out.step (Stay.below _))))))
    refine wpQuiet_nil ?_
    intro w' hw'
    obtain ⟨U, rfl⟩ := hw'
    have HB7 : Hid (Below w.heap.size w U.w) := Lib.hid (HB6.out.trans (U.below.mono HB6.out.size))
    have HC7 := Lib.hid ((U.below.block _ (lt_heap HC6.out)).trans HC6.out)
    have HZ7 := Lib.hid ((U.below.block _ (lt_heap HZ6.out)).trans HZ6.out)
    clear q0 q1 q2 HX6 HC6 HZ6 HB6
    generalize U.w = u7 at *
    go_wp2_with (first
      | (refine wpList_load_roww rfl 97 (.tmp 8) rfl z rfl 97 C (0, 0) _ HC7.out Tryz.underlying97 rfl (HI42.out.trans (by rw [HCS.out])) ?_)
      | (go_at_call 47
         refine (HFL.out _).mono ?_
         rintro e u8 ⟨rfl, hb⟩
         have HB8 := Lib.hid (HB7.out.trans (hb.mono HB7.out.size))
         have HZ8 := Lib.hid ((hb.block _ (lt_heap HZ7.out)).trans HZ7.out)
         clear hb)
      | (refine wpList_store_row rfl 59 (.tmp 4) (.tmp 44) rfl b4 R rfl rfl 59 Z HZ8.out (HI41.out.trans (by rw [HRS.out])) (by rw [HRS.out, HZS.out]) HRO.out ?_))
    refine bodyPost_ret (v := .tuple #[.agg R, .bool true]) (results_rowa Tryz.results20 _ _ b4 59 R (0, 0) _ rfl (setRow_heap _ b4 _ R _ _ HZ8.out) Tryz.underlying59 rfl (HI41.out.trans (by rw [HRS.out]))) rfl ?_
    exact ⟨rfl, below_setRow HB8.out HB4.out _⟩
end
end Go.Proofs.YtimcdnbfdkpffaaGreat
/- Stage 16: the landed flows: Left, Move. -/
namespace Go.Proofs.YtimcdnbfdkpffaaGreat
set_option maxRecDepth 100000
open Go.RowKit Go.Shelf
section
variable {w : World} {p pw pg b n c o1 o2 o3 o4 : Nat} {l : List Fr} {W : Wh} {G : Gr} {A B : Nat → Prop}
theorem fleft_any (h : FX w p pw pg b n c o1 o2 o3 o4 l W G A B) (hg : G.Ok) : Calls Tryz.prog 19 #[.pointer (some ⟨p, 0, none⟩)] w (ret (.int .i64 (G.left : Int)) w) := by
  have HX := Lib.hid h
  have HL := Lib.hid fun V (hV : FX V p pw pg b n c o1 o2 o3 o4 l W G A B) => groP.left hV.duo.b hg
  clear h hg
  go_enter Tryz.func19, Tryz.ntmps19
  go_upto_region 3 with (first
    | (go_at_call 39
       refine (fmade_c (blk_cell HX.out.blk 0)).mono ?_
       rintro e u1 ⟨rfl, hb⟩
       have HB1 := Lib.hid hb
       have HX1 := Lib.hid (HX.out.step hb)
       clear hb))
  have x1 : u1.cell? ⟨p, 1, none⟩ = some (.pointer (some ⟨pg, 0, none⟩)) := blk_cell HX1.out.blk 1
  go_wp2_with (first
    | (go_at_call 57
       refine (HL.out _ HX1.out).mono ?_
       rintro e u2 ⟨rfl, hb⟩
       have HB2 := Lib.hid (HB1.out.trans (hb.mono HB1.out.size))
       clear hb))
  go_ret
  exact ⟨rfl, HB2.out⟩
theorem mv_succ (j : Nat) (H : Gr) : Fl.mvG (j + 1) H = (if 0 < H.left then Fl.mvG j H.st else H) ∧ Fl.mvN (j + 1) H = (if 0 < H.left then Fl.mvN j H.st + 1 else 0) := ⟨rfl, rfl⟩
theorem mvG_on {m k : Nat} {G H : Gr} (h : Fl.mvG m G = Fl.mvG (m - k) H ∧ Fl.mvN m G = k + Fl.mvN (m - k) H) (hk : k < m) (hl : 0 < H.left) : Fl.mvG m G = Fl.mvG (m - (k + 1)) H.st ∧ Fl.mvN m G = k + 1 + Fl.mvN (m - (k + 1)) H.st := by
  obtain ⟨h1, h2⟩ := h
  rw [show m - k = (m - (k + 1)) + 1 by omega] at h1 h2
  rw [(mv_succ ..).1, if_pos hl] at h1
  rw [(mv_succ ..).2, if_pos hl] at h2
  exact ⟨h1, by omega⟩
theorem mvG_off {m k : Nat} {G H : Gr} (h : Fl.mvG m G = Fl.mvG (m - k) H ∧ Fl.mvN m G = k + Fl.mvN (m - k) H) (hl : m ≤ k ∨ ¬ 0 < H.left) : Fl.mvG m G = H ∧ Fl.mvN m G = k := by
  obtain ⟨h1, h2⟩ := h
  cases e : m - k with
  | zero =>
    rw [e] at h1 h2
    exact ⟨h1, h2⟩
  | succ j =>
    have hl := hl.resolve_left (by omega)
    rw [e] at h1 h2
    rw [(mv_succ ..).1, if_neg hl] at h1
    rw [(mv_succ ..).2, if_neg hl] at h2
    exact ⟨h1, h2⟩
set_option maxHeartbeats 1000000 in
theorem fmove_any (h : FX w p pw pg b n c o1 o2 o3 o4 l W G A B) {f : Nat → Nat} {P : Nat → Bool} (hg : Gr.Kg f G P) (hf : ∀ x, x < 256 → f x < 18446744073709551616) (q : Int) (hq : q < 9223372036854775808) :
    Calls Tryz.prog 18 #[.pointer (some ⟨p, 0, none⟩), .int .i64 q] w fun e w' => e = .returned (.int .i64 (Fl.mvN q.toNat G : Int)) ∧ ∃ B', FX w' p pw pg b n c o1 o2 o3 o4 l W (Fl.mvG q.toNat G) A B' ∧ ExtG (FF p b A B) (FF p b A B') w w' := by
  obtain ⟨m, hm⟩ : ∃ m, m = q.toNat := ⟨_, rfl⟩
  rw [← hm]
  have HX := Lib.hid h
  have HG := Lib.hid hg
  have HFF := Lib.hid hf
  have HM := Lib.hid hm
  clear h hg hf hm
  go_enter Tryz.func18, Tryz.ntmps18
  go_wp2_with fail
  go_loopw [5] (fun vd wr => ∃ (k : Nat) (Gk : Gr) (Bk : Nat → Prop), k ≤ m ∧ vd = .int .i64 (k : Int) ∧ (Fl.mvG m G = Fl.mvG (m - k) Gk ∧ Fl.mvN m G = k + Fl.mvN (m - k) Gk) ∧ Gr.Kg f Gk P ∧ FX wr p pw pg b n c o1 o2 o3 o4 l W Gk A Bk ∧ ExtG (FF p b A B) (FF p b A Bk) w wr) (fun vd _ => m - (intOf vd).toNat)
  case atStart => exact ⟨0, G, B, Nat.zero_le _, rfl, ⟨rfl, by rw [Nat.sub_zero]; omega⟩, HG.out, HX.out, ExtG.refl _ _⟩
  case round =>
    obtain ⟨k, Gk, Bk, hk, rfl, hmv, hgk, hx, he⟩ := hrel
    have HMV := Lib.hid hmv
    have HGK := Lib.hid hgk
    have HXK := Lib.hid hx
    have HEK := Lib.hid he
    have HLF := Lib.hid (fleft_any hx hgk.ok)
    have HST := Lib.hid fun V (hV : FX V p pw pg b n c o1 o2 o3 o4 l W Gk A Bk) => hV.callG (groP.step hV.duo.b hgk.ok)
    obtain ⟨lf, hlf⟩ : ∃ x, x = Gk.left := ⟨_, rfl⟩
    rw [← hlf] at HLF
    have HLE := Lib.hid hlf
    have hmq := HM.out
    clear hmv hgk hx he hlf
    by_cases c1 : k < m
    · have f1 : (k : Int) < q := by omega
      have za : IntKind.i64.wrap ((k : Int) + 1) = (k : Int) + 1 := by rw [IntKind.wrap_i64]; omega
      by_cases c2 : 0 < lf
      · have f2 : (0 : Int) < (lf : Int) := by omega
        have HC1 := Lib.hid c1
        have HC2 := Lib.hid c2
        clear c1 c2 hmq hk
        go_upto_region 3 with (first
          | (go_at_call 19
             refine HLF.out.mono ?_
             rintro e u1 ⟨rfl, hb⟩
             have HX1 := Lib.hid (HXK.out.step hb)
             have HE1 := Lib.hid (HEK.out.trans (ExtG.of_below hb))
             clear hb))
        have x1 : u1.cell? ⟨p, 1, none⟩ = some (.pointer (some ⟨pg, 0, none⟩)) := blk_cell HX1.out.blk 1
        go_wp2_with (first
          | (go_at_call 56
             refine (HST.out _ HX1.out).mono ?_
             rintro e u2 ⟨rfl, B', hx, he⟩
             have HX2 := Lib.hid hx
             have HE2 := Lib.hid (HE1.out.trans he)
             clear hx he x1))
        go_roundw
        case rel => exact ⟨k + 1, Gk.st, B', by have := HC1.out; omega, by go_num, mvG_on HMV.out HC1.out (by rw [← HLE.out]; exact HC2.out), HGK.out.step HFF.out, HX2.out, HE2.out⟩
        case measure =>
          have := HC1.out
          simp [intOf]
          omega
      · have f2 : ¬ (0 : Int) < (lf : Int) := by omega
        have HOF := Lib.hid (mvG_off HMV.out (.inr (by rw [← HLE.out]; exact c2)))
        clear c1 c2 hmq hk
        go_wp2_with (first
          | (go_at_call 19
             refine HLF.out.mono ?_
             rintro e u1 ⟨rfl, hb⟩
             have HX1 := Lib.hid (HXK.out.step hb)
             have HE1 := Lib.hid (HEK.out.trans (ExtG.of_below hb))
             clear hb))
        go_ret
        exact ⟨by rw [HOF.out.2]; rfl, Bk, by rw [HOF.out.1]; exact HX1.out, HE1.out⟩
    · have f1 : ¬ (k : Int) < q := by omega
      have HOF := Lib.hid (mvG_off HMV.out (.inl (by omega)))
      clear c1 hmq hk
      go_wp2_with fail
      go_ret
      exact ⟨by rw [HOF.out.2]; rfl, Bk, by rw [HOF.out.1]; exact HXK.out, HEK.out⟩
end
end Go.Proofs.YtimcdnbfdkpffaaGreat
