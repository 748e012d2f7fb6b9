import Derived.Test.YtkmakdhlaenaoaaGm36
/- Stage 11: the play's handle. -/
namespace Go.Proofs.Ytkmakdhlaenaoaa
set_option maxRecDepth 100000
open Go.RowKit Go.Shelf
/-- The handle that a call names. -/
def hndOf (hs : List (Nat × Nat)) (hh : Int) (what : Nat) : Array Value := if 0 < hs.length ∧ 0 ≤ hh then hnv (hs.getD (hh.toNat % hs.length) (0, 0)) else #[.int .i64 hh, .int .u64 (what : Int)]
section
variable {w W : World} {X : Nat → Prop} {b p q : Nat} {E : Option Addr} {hc tk : Nat} {hs : List (Nat × Nat)} {s t : Wh}
theorem handle_some (h : PL w X W b p q E hc hs tk s t) (hl : hs.length ≤ 4611686018427387904) (κ hh : Int) (h9 : hh ≤ 9223372036854775807) (at_ what : Nat) (h0 : 0 < hs.length) (h1 : 0 ≤ hh) : Calls Try.prog 24 #[.pointer (some ⟨b, 0, none⟩), .agg #[.int .i64 κ, .int .i64 hh, .int .u64 (at_ : Int), .int .u64 (what : Int)]] W (ret (.agg (hndOf hs hh what)) W) := by
  obtain ⟨i, hi⟩ : ∃ i, i = hh.toNat % hs.length := ⟨_, rfl⟩
  have hil : i < hs.length := by rw [hi]; exact Nat.mod_lt _ h0
  obtain ⟨⟨x, k⟩, hxk⟩ : ∃ y, hs[i]? = some y := ⟨_, List.getElem?_eq_getElem hil⟩
  have hv : hndOf hs hh what = #[.int .i64 (x : Int), .int .u64 (k : Int)] := by
    unfold hndOf
    rw [if_pos ⟨h0, h1⟩, ← hi, List.getD_eq_getElem?_getD, hxk]
    rfl
  have HV := Lib.hid hv
  obtain ⟨hN, rfl⟩ := Int.eq_ofNat_of_zero_le h1
  have zr : ((hN : Int)).tmod (hs.length : Int) = (i : Int) := by
    rw [hi]
    rfl
  have HPX := Lib.hid h
  have hBe : Below W.heap.size W ((W.alloc (.cells #[.int .i64 κ, .int .i64 (hN : Int), .int .u64 (at_ : Int), .int .u64 (what : Int)] 41)).alloc (.cells #[.int .i64 0, .int .u64 0] 46)) := (below_alloc W _).trans ((below_alloc _ _).mono (below_alloc W _).size)
  have HB := Lib.hid hBe
  have HP := Lib.hid (h.step hBe)
  have HO : Hid (((W.alloc (.cells #[.int .i64 κ, .int .i64 (hN : Int), .int .u64 (at_ : Int), .int .u64 (what : Int)] 41)).alloc (.cells #[.int .i64 0, .int .u64 0] 46)).heap[W.heap.size]? = some (.cells #[.int .i64 κ, .int .i64 (hN : Int), .int .u64 (at_ : Int), .int .u64 (what : Int)] 41 (0, 0))) := Lib.hid (blk_old (heap_alloc_new W _) _)
  have HR : Hid (((W.alloc (.cells #[.int .i64 κ, .int .i64 (hN : Int), .int .u64 (at_ : Int), .int .u64 (what : Int)] 41)).alloc (.cells #[.int .i64 0, .int .u64 0] 46)).heap[W.heap.size + 1]? = some (.cells #[.int .i64 0, .int .u64 0] 46 (0, 0))) := Lib.hid (by
    have e : (W.alloc (.cells #[.int .i64 κ, .int .i64 (hN : Int), .int .u64 (at_ : Int), .int .u64 (what : Int)] 41)).heap.size = W.heap.size + 1 := by simp
    have := heap_alloc_new (W.alloc (.cells #[.int .i64 κ, .int .i64 (hN : Int), .int .u64 (at_ : Int), .int .u64 (what : Int)] 41)) (.cells #[.int .i64 0, .int .u64 0] 46)
    rw [e] at this
    exact this)
  have hbdz : ∀ w, (Instr.build 46 #[(0, .int .i64 (hN : Int)), (1, .int .u64 (what : Int))]).run Try.prog w = .ok (.agg #[.int .i64 (hN : Int), .int .u64 (what : Int)]) w := fun w => by kernel_rfl
  obtain ⟨ob, hob⟩ : ∃ ob, ob = W.heap.size := ⟨_, rfl⟩
  obtain ⟨rb, hrb⟩ : ∃ rb, rb = ob + 1 := ⟨_, rfl⟩
  have HRW : Hid (W.heap.size ≤ rb) := Lib.hid (by omega)
  rw [← hob] at HO HR
  rw [← hrb] at HR
  clear h hBe
  go_enter Try.func24, Try.ntmps24
  go_upto_region 1 with fail
  change Code.wp _ _ _ _ ((W.alloc (.cells #[.int .i64 κ, .int .i64 (hN : Int), .int .u64 (at_ : Int), .int .u64 (what : Int)] 41)).alloc (.cells #[.int .i64 0, .int .u64 0] 46))
  rw [← hob, ← hrb]
  clear hob hrb
  generalize ((W.alloc (.cells #[.int .i64 κ, .int .i64 (hN : Int), .int .u64 (at_ : Int), .int .u64 (what : Int)] 41)).alloc (.cells #[.int .i64 0, .int .u64 0] 46)) = u1 at *
  have x2 : u1.cell? ⟨b, 2, none⟩ = some (.slice E hs.length hc) := blk_cell HP.out.blk 2
  have y1 : u1.cell? ⟨ob, 1, none⟩ = some (.int .i64 (hN : Int)) := blk_cell HO.out 1
  have y3 : u1.cell? ⟨ob, 3, none⟩ = some (.int .u64 (what : Int)) := blk_cell HO.out 3
  have HBL : Hid (b < u1.heap.size) := Lib.hid (lt_heap HP.out.blk)
  have HOL : Hid (ob < u1.heap.size) := Lib.hid (lt_heap HO.out)
  obtain ⟨g, hE, _, hgl, hgc, _⟩ := HP.out.row.lies h0
  subst hE
  have g0 : u1.cell? ⟨g, i * 2, none⟩ = some (.int .i64 (x : Int)) := by rw [hgc (i * 2) (by omega)]; exact congrArg some (rwc_at (enc := hnv) (j := 0) hxk (by omega))
  have g1 : u1.cell? ⟨g, i * 2 + 1, none⟩ = some (.int .u64 (k : Int)) := by rw [hgc (i * 2 + 1) (by omega)]; exact congrArg some (rwc_at (enc := hnv) (j := 1) hxk (by omega))
  have HGL := Lib.hid hgl
  obtain ⟨n, hn⟩ : ∃ n, n = hs.length := ⟨_, rfl⟩
  rw [← hn] at x2 zr hil h0 hl
  clear hgl hgc hxk hi y3 hbdz hn hv
  have b1 : (0 : Int) < (n : Int) := by omega
  have b2 : (0 : Int) ≤ (hN : Int) := by omega
  have b3 : ¬ n = 0 := by omega
  have j0 : (0 : Int) ≤ (i : Int) := by omega
  have j1 : (i : Int) < (n : Int) := by omega
  have j2 : ((i : Int)).toNat = i := by omega
  go_upto_region 2 with fail
  refine wp_region_grow (C := fun W => Below u1.heap.size u1 W) 14 35 [val (.pointer (some ⟨b, 0, none⟩)), val (.pointer (some ⟨b, 0, none⟩)), val (.pointer (some ⟨b, 2, none⟩)), val (.slice (some ⟨g, 0, none⟩) n hc), val (.pointer (some ⟨ob, 1, none⟩)), val (.int .i64 (hN : Int)), val (.pointer (some ⟨b, 0, none⟩)), val (.pointer (some ⟨b, 0, none⟩)), val (.pointer (some ⟨b, 2, none⟩)), val (.slice (some ⟨g, 0, none⟩) n hc), val (.int .i64 (n : Int)), val (.int .i64 (i : Int)), val (.pointer (some ⟨g, i * 2, none⟩)), val (.agg #[.int .i64 (x : Int), .int .u64 (k : Int)])] (by kernel_rfl) rfl (by kernel_rfl) rfl ⟨stb_val _, stb_val _, stb_val _, stb_val _, stb_val _, stb_val _, stb_val _, stb_val _, stb_val _, stb_val _, stb_val _, stb_val _, stb_val _, stb_val _, trivial⟩ (Below.refl _ _).drew ?_ ?_
  · refine each_cons ?_ ?_
    · intro a W hW hd
      have h0 : a.tmps[0]?.getD undef = .pointer (some ⟨b, 0, none⟩) := slot_eq (hd 0 (by decide))
      exact grows_value _ hW (by simp [execOp, Act.eval, h0]) rfl
    refine each_cons ?_ ?_
    · intro a W hW hd
      have h16 : a.tmps[16]?.getD undef = .pointer (some ⟨b, 0, none⟩) := slot_eq (hd 16 (by decide))
      refine grows_value _ hW (?_ : _ = _) rfl
      clear hd
      go_simp
    refine each_cons ?_ ?_
    · intro a W hW hd
      have h17 : a.tmps[17]?.getD undef = .pointer (some ⟨b, 0, none⟩) := slot_eq (hd 17 (by decide))
      refine grows_value _ hW (?_ : _ = _) rfl
      clear hd
      go_simp
    refine each_cons ?_ ?_
    · intro a W hW hd
      have h18 : a.tmps[18]?.getD undef = .pointer (some ⟨b, 2, none⟩) := slot_eq (hd 18 (by decide))
      have xx : W.cell? ⟨b, 2, none⟩ = some (.slice (some ⟨g, 0, none⟩) n hc) := (hW.cell (p := ⟨b, 2, none⟩) HBL.out).trans x2
      refine grows_value _ hW (?_ : _ = _) rfl
      clear hd
      go_simp
    refine each_cons ?_ ?_
    · intro a W hW hd
      have h3 : a.tmps[3]?.getD undef = .pointer (some ⟨ob, 0, none⟩) := slot_eq (hd 3 (by decide))
      refine grows_value _ hW (?_ : _ = _) rfl
      clear hd
      go_simp
    refine each_cons ?_ ?_
    · intro a W hW hd
      have h20 : a.tmps[20]?.getD undef = .pointer (some ⟨ob, 1, none⟩) := slot_eq (hd 20 (by decide))
      have xx : W.cell? ⟨ob, 1, none⟩ = some (.int .i64 (hN : Int)) := (hW.cell (p := ⟨ob, 1, none⟩) HOL.out).trans y1
      refine grows_value _ hW (?_ : _ = _) rfl
      clear hd
      go_simp
    refine each_cons ?_ ?_
    · intro a W hW hd
      have h0 : a.tmps[0]?.getD undef = .pointer (some ⟨b, 0, none⟩) := slot_eq (hd 0 (by decide))
      exact grows_value _ hW (by simp [execOp, Act.eval, h0]) rfl
    refine each_cons ?_ ?_
    · intro a W hW hd
      have h22 : a.tmps[22]?.getD undef = .pointer (some ⟨b, 0, none⟩) := slot_eq (hd 22 (by decide))
      refine grows_value _ hW (?_ : _ = _) rfl
      clear hd
      go_simp
    refine each_cons ?_ ?_
    · intro a W hW hd
      have h23 : a.tmps[23]?.getD undef = .pointer (some ⟨b, 0, none⟩) := slot_eq (hd 23 (by decide))
      refine grows_value _ hW (?_ : _ = _) rfl
      clear hd
      go_simp
    refine each_cons ?_ ?_
    · intro a W hW hd
      have h24 : a.tmps[24]?.getD undef = .pointer (some ⟨b, 2, none⟩) := slot_eq (hd 24 (by decide))
      have xx : W.cell? ⟨b, 2, none⟩ = some (.slice (some ⟨g, 0, none⟩) n hc) := (hW.cell (p := ⟨b, 2, none⟩) HBL.out).trans x2
      refine grows_value _ hW (?_ : _ = _) rfl
      clear hd
      go_simp
    refine each_cons ?_ ?_
    · intro a W hW hd
      have h25 : a.tmps[25]?.getD undef = .slice (some ⟨g, 0, none⟩) n hc := slot_eq (hd 25 (by decide))
      refine grows_value _ hW (?_ : _ = _) rfl
      clear hd
      go_simp
    refine each_cons ?_ ?_
    · intro a W hW hd
      have h21 : a.tmps[21]?.getD undef = .int .i64 (hN : Int) := slot_eq (hd 21 (by decide))
      have h26 : a.tmps[26]?.getD undef = .int .i64 (n : Int) := slot_eq (hd 26 (by decide))
      refine grows_value _ hW (?_ : _ = _) rfl
      clear hd
      go_simp
    refine each_cons ?_ ?_
    · intro a W hW hd
      have h19 : a.tmps[19]?.getD undef = .slice (some ⟨g, 0, none⟩) n hc := slot_eq (hd 19 (by decide))
      have h27 : a.tmps[27]?.getD undef = .int .i64 (i : Int) := slot_eq (hd 27 (by decide))
      refine grows_value _ hW (?_ : _ = _) rfl
      clear hd
      go_simp
    refine each_cons ?_ ?_
    · intro a W hW hd
      have h28 : a.tmps[28]?.getD undef = .pointer (some ⟨g, i * 2, none⟩) := slot_eq (hd 28 (by decide))
      have xx0 : W.cell? ⟨g, i * 2, none⟩ = some (.int .i64 (x : Int)) := (hW.cell (p := ⟨g, i * 2, none⟩) HGL.out).trans g0
      have xx1 : W.cell? ⟨g, i * 2 + 1, none⟩ = some (.int .u64 (k : Int)) := (hW.cell (p := ⟨g, i * 2 + 1, none⟩) HGL.out).trans g1
      refine grows_value _ hW (?_ : _ = _) rfl
      clear hd
      go_simp
    exact each_nil
  · refine behind_val rfl ?_
    refine behind_val rfl ?_
    refine behind_val rfl ?_
    refine behind_val rfl ?_
    refine behind_val rfl ?_
    refine behind_val rfl ?_
    refine behind_val rfl ?_
    refine behind_val rfl ?_
    refine behind_val rfl ?_
    refine behind_val rfl ?_
    refine behind_val rfl ?_
    refine behind_val rfl ?_
    refine behind_val rfl ?_
    refine behind_val rfl ?_
    refine behind_nil fun u2 hC2 hF2 => ?_
    clear hF2
    have HP2 := Lib.hid (HP.out.setX (Kept.of_below hC2 fun _ => False) fun _ y => y.elim)
    have HR2 := Lib.hid (box_step HR.out hC2)
    have HB2 := Lib.hid (HB.out.trans (hC2.mono HB.out.size))
    clear hC2 x2 y1 g0 g1
    simp only [Act.put, List.setIfInBounds_toArray, List.set_cons_succ, List.set_cons_zero, List.drop_succ_cons, List.drop_zero]
    go_wp2_with (first
      | (refine wpList_store_row rfl 46 (.tmp 4) (.tmp 29) rfl rb #[.int .i64 (x : Int), .int .u64 (k : Int)] rfl rfl 46 #[.int .i64 0, .int .u64 0] HR2.out (by kernel_rfl) rfl (by simp [Value.oneCell']) ?_))
    refine bodyPost_ret (v := .agg #[.int .i64 (x : Int), .int .u64 (k : Int)]) (results_cell_row Try.results24 _ _ rb 46 #[.int .i64 (x : Int), .int .u64 (k : Int)] (0, 0) _ rfl (setRow_heap _ rb _ #[.int .i64 (x : Int), .int .u64 (k : Int)] _ _ HR2.out) Try.underlying46 rfl (by kernel_rfl)) rfl ?_
    have hks : Kept (fun k => k = rb) u2 (u2.setRow rb #[.int .i64 (x : Int), .int .u64 (k : Int)]) := Kept.setRow (R := fun k => k = rb) (Kept.refl _ u2) (.inl rfl) _
    exact ⟨by rw [HV.out], HB2.out.trans (hks.below HB2.out.size fun k e => by rw [e]; exact HRW.out)⟩
theorem handle_any (h : PL w X W b p q E hc hs tk s t) (κ hh : Int) (at_ what : Nat) (h0 : ¬ (0 < hs.length ∧ 0 ≤ hh)) : Calls Try.prog 24 #[.pointer (some ⟨b, 0, none⟩), .agg #[.int .i64 κ, .int .i64 hh, .int .u64 (at_ : Int), .int .u64 (what : Int)]] W (ret (.agg (hndOf hs hh what)) W) := by
  have hv : hndOf hs hh what = #[.int .i64 hh, .int .u64 (what : Int)] := if_neg h0
  have HV := Lib.hid hv
  clear hv
  have hBe : Below W.heap.size W ((W.alloc (.cells #[.int .i64 κ, .int .i64 hh, .int .u64 (at_ : Int), .int .u64 (what : Int)] 41)).alloc (.cells #[.int .i64 0, .int .u64 0] 46)) := (below_alloc W _).trans ((below_alloc _ _).mono (below_alloc W _).size)
  have HB := Lib.hid hBe
  have HP := Lib.hid (h.step hBe)
  have HO : Hid (((W.alloc (.cells #[.int .i64 κ, .int .i64 hh, .int .u64 (at_ : Int), .int .u64 (what : Int)] 41)).alloc (.cells #[.int .i64 0, .int .u64 0] 46)).heap[W.heap.size]? = some (.cells #[.int .i64 κ, .int .i64 hh, .int .u64 (at_ : Int), .int .u64 (what : Int)] 41 (0, 0))) := Lib.hid (blk_old (heap_alloc_new W _) _)
  have HR : Hid (((W.alloc (.cells #[.int .i64 κ, .int .i64 hh, .int .u64 (at_ : Int), .int .u64 (what : Int)] 41)).alloc (.cells #[.int .i64 0, .int .u64 0] 46)).heap[W.heap.size + 1]? = some (.cells #[.int .i64 0, .int .u64 0] 46 (0, 0))) := Lib.hid (by
    have e : (W.alloc (.cells #[.int .i64 κ, .int .i64 hh, .int .u64 (at_ : Int), .int .u64 (what : Int)] 41)).heap.size = W.heap.size + 1 := by simp
    have := heap_alloc_new (W.alloc (.cells #[.int .i64 κ, .int .i64 hh, .int .u64 (at_ : Int), .int .u64 (what : Int)] 41)) (.cells #[.int .i64 0, .int .u64 0] 46)
    rw [e] at this
    exact this)
  have hbdz : ∀ w, (Instr.build 46 #[(0, .int .i64 hh), (1, .int .u64 (what : Int))]).run Try.prog w = .ok (.agg #[.int .i64 hh, .int .u64 (what : Int)]) w := fun w => by kernel_rfl
  obtain ⟨ob, hob⟩ : ∃ ob, ob = W.heap.size := ⟨_, rfl⟩
  obtain ⟨rb, hrb⟩ : ∃ rb, rb = ob + 1 := ⟨_, rfl⟩
  have HRW : Hid (W.heap.size ≤ rb) := Lib.hid (by omega)
  rw [← hob] at HO HR
  rw [← hrb] at HR
  clear h hBe
  go_enter Try.func24, Try.ntmps24
  go_upto_region 1 with fail
  change Code.wp _ _ _ _ ((W.alloc (.cells #[.int .i64 κ, .int .i64 hh, .int .u64 (at_ : Int), .int .u64 (what : Int)] 41)).alloc (.cells #[.int .i64 0, .int .u64 0] 46))
  rw [← hob, ← hrb]
  clear hob hrb
  generalize ((W.alloc (.cells #[.int .i64 κ, .int .i64 hh, .int .u64 (at_ : Int), .int .u64 (what : Int)] 41)).alloc (.cells #[.int .i64 0, .int .u64 0] 46)) = u1 at *
  have x2 : u1.cell? ⟨b, 2, none⟩ = some (.slice E hs.length hc) := blk_cell HP.out.blk 2
  have y1 : u1.cell? ⟨ob, 1, none⟩ = some (.int .i64 hh) := blk_cell HO.out 1
  have y3 : u1.cell? ⟨ob, 3, none⟩ = some (.int .u64 (what : Int)) := blk_cell HO.out 3
  have HBL : Hid (b < u1.heap.size) := Lib.hid (lt_heap HP.out.blk)
  have HOL : Hid (ob < u1.heap.size) := Lib.hid (lt_heap HO.out)
  obtain ⟨n, hn⟩ : ∃ n, n = hs.length := ⟨_, rfl⟩
  rw [← hn] at x2 h0
  clear hn
  rcases Nat.eq_zero_or_pos n with b1 | b1
  · subst b1
    clear h0
    go_wp2_with (first
      | (refine wpList_store_row rfl 46 (.tmp 4) (.tmp 34) rfl rb #[.int .i64 hh, .int .u64 (what : Int)] rfl rfl 46 #[.int .i64 0, .int .u64 0] HR.out (by kernel_rfl) rfl (by simp [Value.oneCell']) ?_))
    refine bodyPost_ret (v := .agg #[.int .i64 hh, .int .u64 (what : Int)]) (results_cell_row Try.results24 _ _ rb 46 #[.int .i64 hh, .int .u64 (what : Int)] (0, 0) _ rfl (setRow_heap _ rb _ #[.int .i64 hh, .int .u64 (what : Int)] _ _ HR.out) Try.underlying46 rfl (by kernel_rfl)) rfl ?_
    have hks : Kept (fun k => k = rb) u1 (u1.setRow rb #[.int .i64 hh, .int .u64 (what : Int)]) := Kept.setRow (R := fun k => k = rb) (Kept.refl _ u1) (.inl rfl) _
    exact ⟨by rw [HV.out], HB.out.trans (hks.below HB.out.size fun k e => by rw [e]; exact HRW.out)⟩
  · have b2 : ¬ (0 : Int) ≤ hh := fun e => h0 ⟨b1, e⟩
    have b3 : (0 : Int) < (n : Int) := by omega
    clear h0 b1
    go_wp2_with (first
      | (refine wpList_store_row rfl 46 (.tmp 4) (.tmp 34) rfl rb #[.int .i64 hh, .int .u64 (what : Int)] rfl rfl 46 #[.int .i64 0, .int .u64 0] HR.out (by kernel_rfl) rfl (by simp [Value.oneCell']) ?_))
    refine bodyPost_ret (v := .agg #[.int .i64 hh, .int .u64 (what : Int)]) (results_cell_row Try.results24 _ _ rb 46 #[.int .i64 hh, .int .u64 (what : Int)] (0, 0) _ rfl (setRow_heap _ rb _ #[.int .i64 hh, .int .u64 (what : Int)] _ _ HR.out) Try.underlying46 rfl (by kernel_rfl)) rfl ?_
    have hks : Kept (fun k => k = rb) u1 (u1.setRow rb #[.int .i64 hh, .int .u64 (what : Int)]) := Kept.setRow (R := fun k => k = rb) (Kept.refl _ u1) (.inl rfl) _
    exact ⟨by rw [HV.out], HB.out.trans (hks.below HB.out.size fun k e => by rw [e]; exact HRW.out)⟩
end
end Go.Proofs.Ytkmakdhlaenaoaa
/- Stage 11: the play's arm. -/
namespace Go.Proofs.Ytkmakdhlaenaoaa
set_option maxRecDepth 100000
open Go.RowKit Go.Shelf
theorem setCell_far (w : World) {p : Addr} {g : Nat} (h : ¬ g = p.block) (v : Value) : (w.setCell p v).heap[g]? = w.heap[g]? := by
  by_cases hg : g < w.heap.size
  · exact (Kept.setCell (R := fun k => k = p.block) (Kept.refl _ w) (p := p) (.inl rfl) v).block g hg h
  · have h1 : (w.setCell p v).heap.size = w.heap.size := by simp
    rw [Array.getElem?_eq_none (by omega), Array.getElem?_eq_none (by omega)]
theorem Wh.armH_form (s : Wh) (at_ : Nat) : ∃ x k : Nat, s.armH at_ = #[.int .i64 (x : Int), .int .u64 (k : Int)] := by
  unfold Wh.armH
  split
  · exact ⟨0, 0, rfl⟩
  · cases s.a.which with
    | none => exact ⟨0, 0, rfl⟩
    | some i => exact ⟨i, s.a.serial + 1, rfl⟩
section
variable {w W : World} {X : Nat → Prop} {b p q : Nat} {E : Option Addr} {hc tk : Nat} {hs : List (Nat × Nat)} {s : Wh} {m : Nat}
set_option maxHeartbeats 2000000 in
theorem play_arm (h : PL w X W b p q E hc hs tk s s) (hf : s.Fit m) (hl : hs.length ≤ 65536) (at_ what : Nat) (ha : at_ < 18446744073709551616) : Calls Try.prog 25 #[.pointer (some ⟨b, 0, none⟩), .int .u64 (at_ : Int), .int .u64 (what : Int)] W fun e w' => e = .returned (.bool true) ∧
    ∃ E' hc' hs', PL w X w' b p q E' hc' hs' tk (s.arm at_ what) (s.arm at_ what) ∧ hs'.length ≤ hs.length + 1 ∧ ∀ j, X j → w'.heap[j]? = W.heap[j]? := by
  obtain ⟨x, k, hform⟩ := s.armH_form at_
  obtain ⟨F, hp, _, hleft⟩ := h.left
  have hpc := pw_arm hp hf at_ what ha
  rw [hform] at hpc
  have HLC := Lib.hid hpc
  have HLT := Lib.hid hleft
  have HP0 := Lib.hid h
  have HFIT := Lib.hid hf
  have heq : ∀ W, (binOp .eql 46 (.agg #[.int .i64 (x : Int), .int .u64 (k : Int)]) (.agg #[.int .i64 (x : Int), .int .u64 (k : Int)])).run Try.prog W = .ok (.bool true) W := fun W => by rw [eqlH]; simp
  have x0 : W.cell? ⟨b, 0, none⟩ = some (.pointer (some ⟨p, 0, none⟩)) := blk_cell h.blk 0
  obtain ⟨er, her⟩ : ∃ er, er = s.armE at_ := ⟨_, rfl⟩
  have HER := Lib.hid her
  rw [← her] at HLC
  obtain ⟨i0, hi0, hz0, hz1, hz2⟩ := info_parts Try.infoH
  have HI0 := Lib.hid hi0
  have HZ0 := Lib.hid hz0
  have HZ1 := Lib.hid hz1
  have HZ2 := Lib.hid hz2
  clear hi0 hz0 hz1 hz2 h hf hp hleft hpc her
  go_enter Try.func25, Try.ntmps25
  go_upto_region 2 with (first
    | (go_at_call 15
       refine (HLC.out).mono ?_
       rintro e u1 ⟨rfl, F', hp', he'⟩
       have hh := HLT.out _ _ _ hp' he'
       have HP1 := Lib.hid hh.1
       have HE1 := Lib.hid hh.2
       clear hh hp' he' HLC HLT x0))
  have hal := HP1.out.box (.cells #[.int .i64 (x : Int), .int .u64 (k : Int)] 46)
  have HP2 := Lib.hid hal
  have H72 : Hid ((u1.alloc (.cells #[.int .i64 (x : Int), .int .u64 (k : Int)] 46)).heap[u1.heap.size]? = some (.cells #[.int .i64 (x : Int), .int .u64 (k : Int)] 46 (0, 0))) := Lib.hid (heap_alloc_new u1 _)
  have HE2 : Hid (∀ j, X j → (u1.alloc (.cells #[.int .i64 (x : Int), .int .u64 (k : Int)] 46)).heap[j]? = W.heap[j]?) := Lib.hid fun j hj => ((below_alloc u1 (.cells #[.int .i64 (x : Int), .int .u64 (k : Int)] 46)).block j (HP1.out.xo j hj)).trans (HE1.out j hj)
  clear hal HP1 HE1
  change Code.wp _ _ _ _ (u1.alloc (.cells #[.int .i64 (x : Int), .int .u64 (k : Int)] 46))
  generalize u1.heap.size = g7 at *
  generalize u1.alloc (.cells #[.int .i64 (x : Int), .int .u64 (k : Int)] 46) = u2 at *
  obtain ⟨G, hq, _, hright⟩ := HP2.out.right
  have hqc := dw_arm hq HFIT.out at_ what ha
  rw [hform, ← HER.out] at hqc
  have HRC := Lib.hid hqc
  have HRT := Lib.hid hright
  have x0 : u2.cell? ⟨b, 1, none⟩ = some (.pointer (some ⟨q, 0, none⟩)) := blk_cell HP2.out.blk 1
  clear hq hright hqc
  go_upto_region 3 with (first
    | (go_at_call 45
       refine (HRC.out).mono ?_
       rintro e u3 ⟨rfl, F', hp', he'⟩
       have hh := HRT.out _ _ _ hp' he'
       have HP3 := Lib.hid hh.1
       have HE3 := Lib.hid hh.2
       clear hh hp' he' HRC HRT x0))
  have H73 := Lib.hid ((HE3.out g7 (.inr rfl)).trans H72.out)
  have hal := HP3.out.box (.cells #[.int .i64 (x : Int), .int .u64 (k : Int)] 46)
  have HPL6 := Lib.hid hal
  have H96 : Hid ((u3.alloc (.cells #[.int .i64 (x : Int), .int .u64 (k : Int)] 46)).heap[u3.heap.size]? = some (.cells #[.int .i64 (x : Int), .int .u64 (k : Int)] 46 (0, 0))) := Lib.hid (heap_alloc_new u3 _)
  have H76 : Hid ((u3.alloc (.cells #[.int .i64 (x : Int), .int .u64 (k : Int)] 46)).heap[g7]? = some (.cells #[.int .i64 (x : Int), .int .u64 (k : Int)] 46 (0, 0))) := Lib.hid (blk_old H73.out _)
  have HE6 : Hid (∀ j, X j → (u3.alloc (.cells #[.int .i64 (x : Int), .int .u64 (k : Int)] 46)).heap[j]? = W.heap[j]?) := Lib.hid fun j hj => ((below_alloc u3 (.cells #[.int .i64 (x : Int), .int .u64 (k : Int)] 46)).block j (HP3.out.xo j (.inl hj))).trans ((HE3.out j (.inl hj)).trans (HE2.out j hj))
  clear hal HP3 HE3 HE2 HP2 H72 H73 HP0
  change Code.wp _ _ _ _ (u3.alloc (.cells #[.int .i64 (x : Int), .int .u64 (k : Int)] 46))
  generalize u3.heap.size = g9 at *
  generalize u3.alloc (.cells #[.int .i64 (x : Int), .int .u64 (k : Int)] 46) = u6 at *
  by_cases he0 : er = 0
  · subst he0
    obtain ⟨n, hn⟩ : ∃ n, n = hs.length := ⟨_, rfl⟩
    have HN := Lib.hid hn
    have HNL : Hid (n ≤ 65536) := Lib.hid (by omega)
    have HZN : Hid (n = 0 → hc = 0) := Lib.hid (by rw [hn]; exact HPL6.out.z0)
    have x2 : u6.cell? ⟨b, 2, none⟩ = some (.slice E n hc) := by rw [hn]; exact blk_cell HPL6.out.blk 2
    have y0 : u6.cell? ⟨g7, 0, none⟩ = some (.int .i64 (x : Int)) := blk_cell H76.out 0
    have y1 : u6.cell? ⟨g7, 1, none⟩ = some (.int .u64 (k : Int)) := blk_cell H76.out 1
    have HBL : Hid (b < u6.heap.size) := Lib.hid (lt_heap HPL6.out.blk)
    have H7L : Hid (g7 < u6.heap.size) := Lib.hid (lt_heap H76.out)
    have H9L : Hid (g9 < u6.heap.size) := Lib.hid (lt_heap H96.out)
    have HRW6 : Hid (OwnC u6 w.heap.size 46 2 E n hc (rwc 2 hnv hs)) := Lib.hid (by rw [hn]; exact HPL6.out.row)
    have HBN : Hid (¬ Value.ownBlock (.slice E n hc) = some b) := Lib.hid fun e => (HPL6.out.rx b (by rw [← hn]; exact e)).2 rfl
    have H7N : Hid (¬ Value.ownBlock (.slice E n hc) = some g7) := Lib.hid fun e => (HPL6.out.rx g7 (by rw [← hn]; exact e)).1 (.inl (.inr rfl))
    have H9N : Hid (¬ Value.ownBlock (.slice E n hc) = some g9) := Lib.hid fun e => (HPL6.out.rx g9 (by rw [← hn]; exact e)).1 (.inr rfl)
    have H7B : Hid (g7 ≠ b) := Lib.hid fun e => HPL6.out.xb (.inl (.inr e.symm))
    have H9B : Hid (g9 ≠ b) := Lib.hid fun e => HPL6.out.xb (.inr e.symm)
    have HOL : Hid (∀ j, Value.ownBlock (.slice E n hc) = some j → j < u6.heap.size) := Lib.hid fun j e => HPL6.out.own_lt (by rw [← hn]; exact e)
    have HWZ : Hid (w.heap.size ≤ u6.heap.size) := Lib.hid HPL6.out.below.size
    clear hn
    go_upto_region 4 with fail
    refine wp_region_growM (C := fun W => Kept (fun k => Value.ownBlock (.slice E n hc) = some k) u6 W ∧ OwnC W w.heap.size 46 2 E n hc (rwc 2 hnv hs)) 10 51 [val (.pointer (some ⟨b, 0, none⟩)), val (.pointer (some ⟨b, 0, none⟩)), val (.pointer (some ⟨b, 0, none⟩)), val (.pointer (some ⟨b, 2, none⟩)), fun v W => v = .slice E n hc ∧ OwnC W w.heap.size 46 2 E n hc (rwc 2 hnv hs), val (.agg #[.int .i64 (x : Int), .int .u64 (k : Int)]), fun v W => ∃ zb, v = .slice (some ⟨zb, 0, none⟩) 1 1 ∧ W.heap[zb]? = some (.cells #[.int .i64 (x : Int), .int .u64 (k : Int)] 46 (0, 0)) ∧ Value.ownBlock (.slice E n hc) ≠ some zb, fun v W => ∃ A2 c2, v = .slice A2 (n + 1) c2 ∧ OwnC W w.heap.size 46 2 A2 (n + 1) c2 (rwc 2 hnv (hs ++ [(x, k)])) ∧ ∀ j, Value.ownBlock (.slice A2 (n + 1) c2) = some j → (Value.ownBlock (.slice E n hc) = some j ∨ u6.heap.size ≤ j), val (.pointer (some ⟨b, 0, none⟩)), val (.pointer (some ⟨b, 2, none⟩))] (by kernel_rfl) rfl (by kernel_rfl) rfl 7 (fun V V2 => AppR w.heap.size 46 2 n V V2 ∧ V.grownBy V2 (Value.ownBlock (.slice E n hc))) ⟨stb_val _, stb_val _, stb_val _, stb_val _, (fun v W W' h hb => ⟨h.1, h.2.below hb⟩), stb_val _, (fun v W W' h hb => by obtain ⟨zb, h1, h2, h3⟩ := h; exact ⟨zb, h1, (hb.block _ (lt_heap h2)).trans h2, h3⟩), (fun v W W' h hb => by obtain ⟨A2, c2, h1, h2, h3⟩ := h; exact ⟨A2, c2, h1, h2.below hb, h3⟩), stb_val _, stb_val _, trivial⟩ ⟨stbR_val _ _, stbR_val _ _, stbR_val _ _, stbR_val _ _, (fun v W W' h hb => ⟨h.1, hb.1.rows _ _ _ h.2⟩), stbR_val _ _, (fun v W W' h hb => by obtain ⟨zb, h1, h2, h3⟩ := h; exact ⟨zb, h1, (hb.2.block _ (lt_heap h2) (fun e => h3 e.symm)).trans h2, h3⟩), stbR_val _ _, stbR_val _ _, trivial⟩ ⟨(Kept.refl _ u6).drew, HRW6.out.drew⟩ ?_ ?_
    · refine eachE_cons (by decide) ?_ ?_
      · intro a W hC9 hd; have hW := hC9.1; have hC := hC9.1; have hC0 := hC9.2
        have h0 : a.tmps[0]?.getD undef = .pointer (some ⟨b, 0, none⟩) := slot_eq (hd 0 (by decide))
        exact grows_value _ hC9 (by simp [execOp, Act.eval, h0]) rfl
      refine eachE_cons (by decide) ?_ ?_
      · intro a W hC9 hd; have hW := hC9.1; have hC := hC9.1; have hC0 := hC9.2
        have h0 : a.tmps[0]?.getD undef = .pointer (some ⟨b, 0, none⟩) := slot_eq (hd 0 (by decide))
        exact grows_value _ hC9 (by simp [execOp, Act.eval, h0]) rfl
      refine eachE_cons (by decide) ?_ ?_
      · intro a W hC9 hd; have hW := hC9.1; have hC := hC9.1; have hC0 := hC9.2
        have h34 : a.tmps[34]?.getD undef = .pointer (some ⟨b, 0, none⟩) := slot_eq (hd 34 (by decide))
        refine grows_value _ hC9 (?_ : _ = _) rfl
        clear hd
        go_simp
      refine eachE_cons (by decide) ?_ ?_
      · intro a W hC9 hd; have hW := hC9.1; have hC := hC9.1; have hC0 := hC9.2
        have h35 : a.tmps[35]?.getD undef = .pointer (some ⟨b, 0, none⟩) := slot_eq (hd 35 (by decide))
        refine grows_value _ hC9 (?_ : _ = _) rfl
        clear hd
        go_simp
      refine eachE_cons (by decide) ?_ ?_
      · intro a W hC9 hd; have hW := hC9.1; have hC := hC9.1; have hC0 := hC9.2
        have h36 : a.tmps[36]?.getD undef = .pointer (some ⟨b, 2, none⟩) := slot_eq (hd 36 (by decide))
        have xx : W.cell? ⟨b, 2, none⟩ = some (.slice E n hc) := (hW.cell (p := ⟨b, 2, none⟩) HBL.out HBN.out).trans x2
        refine grows_value (.slice E n hc) hC9 (?_ : _ = _) ⟨rfl, ?_⟩
        · clear hd
          go_simp
        · exact hC0
      refine eachE_cons (by decide) ?_ ?_
      · intro a W hC9 hd; have hW := hC9.1; have hC := hC9.1; have hC0 := hC9.2
        have h7 : a.tmps[7]?.getD undef = .pointer (some ⟨g7, 0, none⟩) := slot_eq (hd 7 (by decide))
        have xx0 : W.cell? ⟨g7, 0, none⟩ = some (.int .i64 (x : Int)) := (hW.cell (p := ⟨g7, 0, none⟩) H7L.out H7N.out).trans y0
        have xx1 : W.cell? ⟨g7, 1, none⟩ = some (.int .u64 (k : Int)) := (hW.cell (p := ⟨g7, 1, none⟩) H7L.out H7N.out).trans y1
        refine grows_value _ hC9 (?_ : _ = _) rfl
        clear hd
        go_simp
      refine eachE_cons (by decide) ?_ ?_
      · intro a W hC9 hd; have hW := hC9.1; have hC := hC9.1; have hC0 := hC9.2
        have h38 : a.tmps[38]?.getD undef = .agg #[.int .i64 (x : Int), .int .u64 (k : Int)] := slot_eq (hd 38 (by decide))
        refine grows_new (w' := W.alloc (.cells #[.int .i64 (x : Int), .int .u64 (k : Int)] 46)) (.slice (some ⟨W.heap.size, 0, none⟩) 1 1) (?_ : _ = _) ⟨W.heap.size, rfl, heap_alloc_new W _, fun e => by have h1 := HOL.out _ e; have h2 := hW.size; omega⟩ (below_alloc W _) ⟨hC.step (below_alloc W _), hC0.alloc _⟩
        clear hd
        go_simp
      refine eachE_mid ?_ ?_
      · intro a W hC9 hd; have hW := hC9.1; have hC := hC9.1; have hC0 := hC9.2
        obtain ⟨h37, hown⟩ := hd 37 (by decide)
        have h37' : a.tmps[37]?.getD undef = .slice E n hc := slot_eq h37
        obtain ⟨zb, h39, hzb, _⟩ := hd 39 (by decide)
        have h39' : a.tmps[39]?.getD undef = .slice (some ⟨zb, 0, none⟩) 1 1 := slot_eq h39
        have hr : ∀ j, j < 2 → W.cell? ⟨zb, 0 + j, none⟩ = some ((hnv (x, k)).getD j undef) := fun j hj => by
          rw [Nat.zero_add, blk_cell hzb j]
          rcases (show j = 0 ∨ j = 1 by omega) with rfl | rfl <;> rfl
        have hwz : w.heap.size ≤ W.heap.size := Nat.le_trans HWZ.out hW.size
        obtain ⟨A2, c2, W', hrun, hown2, hrel⟩ := run_append_two (P := Try.prog) w.heap.size 33 33 46 i0 (.agg #[.int .i64 0, .int .u64 0]) 2 Try.underlying33 HI0.out HZ0.out HZ1.out rfl (by decide) hown (b := zb) (off := 0) (c' := 1) (g := fun j => (hnv (x, k)).getD j undef) hr (fun j hj => hnv_one _ j hj) (by have := HNL.out; unfold maxLen; omega) (by have := HNL.out; rw [HZ2.out]; omega) hwz HZN.out
        obtain ⟨A3, c3, W3, hrun3, _, hg3, hb3⟩ := run_append_vals (P := Try.prog) w.heap.size 33 33 46 i0 (.agg #[.int .i64 0, .int .u64 0]) 2 Try.underlying33 HI0.out HZ0.out HZ1.out rfl (by decide) hown (m := 1) (c' := 1) (A' := some ⟨zb, 0, none⟩) (B := W.heap.size) (g := fun j => (hnv (x, k)).getD j undef) (.inr ⟨zb, 0, rfl, lt_heap hzb, fun j hj => hr j (by omega)⟩) (fun j hj => hnv_one _ j (by omega)) (by have := HNL.out; unfold maxLen; omega) (by have := HNL.out; rw [HZ2.out]; omega) hwz
        rw [hrun] at hrun3
        injection hrun3 with q1 q2
        subst q2
        rw [← q1] at hb3
        refine growsE_new (.slice A2 (n + 1) c2) (w' := W') ?_ ⟨A2, c2, rfl, hown2.same fun j hj => ?_, fun j e => ?_⟩ ⟨hrel, hg3⟩ ⟨(hC.trans (Kept.grownBy (R := fun k => Value.ownBlock (.slice E n hc) = some k) hg3 fun k e => e) fun j _ e => e), hrel.rows _ _ _ hC0⟩
        · clear hd
          simp only [execOp, resolve, invoke, builtin, Sem.run_bind, Sem.run_pure, Result.andThen_ok, List.map_toArray, List.map_cons, List.map_nil, Act.eval, Array.getD_eq_getD_getElem?, h37', h39', hrun]
        · have e := rwc_snoc (sz := 2) (by decide) hnv hs (x, k) j (by rw [← HN.out]; exact hj)
          rw [← HN.out] at e
          exact e
        · rcases hb3 with q | q
          · exact .inl (q.symm.trans e)
          · rw [e] at q
            injection q with q
            exact .inr (by have := hW.size; omega)
      refine eachE_cons (by decide) ?_ ?_
      · intro a W hC9 hd; have hW := hC9.1; have hC := hC9.1; have hC0 := hC9.2
        have h33 : a.tmps[33]?.getD undef = .pointer (some ⟨b, 0, none⟩) := slot_eq (hd 33 (by decide))
        refine grows_value _ hC9 (?_ : _ = _) rfl
        clear hd
        go_simp
      refine eachE_cons (by decide) ?_ ?_
      · intro a W hC9 hd; have hW := hC9.1; have hC := hC9.1; have hC0 := hC9.2
        have h41 : a.tmps[41]?.getD undef = .pointer (some ⟨b, 0, none⟩) := slot_eq (hd 41 (by decide))
        refine grows_value _ hC9 (?_ : _ = _) rfl
        clear hd
        go_simp
      exact eachE_nil
    · refine behind_val rfl ?_
      refine behind_val rfl ?_
      refine behind_val rfl ?_
      refine behind_val rfl ?_
      refine behind_cons fun v37 => ?_
      refine behind_val rfl ?_
      refine behind_cons fun v39 => ?_
      refine behind_cons fun v40 => ?_
      refine behind_val rfl ?_
      refine behind_val rfl ?_
      refine behind_nil fun u8 hC8 hF8 => ?_
      obtain ⟨⟨⟨_, _⟩, _⟩, A2, c2, rfl, hown, hob⟩ := hF8
      have HOW := Lib.hid hown
      have HOB := Lib.hid hob
      have HK8 := Lib.hid hC8.1
      have HB8 := Lib.hid ((hC8.1.block b HBL.out HBN.out).trans HPL6.out.blk)
      have H78 := Lib.hid ((hC8.1.block g7 H7L.out H7N.out).trans H76.out)
      have H98 := Lib.hid ((hC8.1.block g9 H9L.out H9N.out).trans H96.out)
      clear hC8 hown hob x2 y0 y1
      simp only [Act.put, List.setIfInBounds_toArray, List.set_cons_succ, List.set_cons_zero, List.drop_succ_cons, List.drop_zero]
      have f1 := blk_free HB8.out 2
      have g1 : u8.cell? ⟨b, 2, none⟩ = some (.slice E n hc) := by rw [HN.out]; exact blk_cell HB8.out 2
      have hlen : (hs ++ [(x, k)]).length = n + 1 := by rw [List.length_append, ← HN.out]; rfl
      have hkk : Kept (fun k => k = b ∨ Value.ownBlock (.slice E hs.length hc) = some k) u6 (u8.setCell ⟨b, 2, none⟩ (.slice A2 (n + 1) c2)) := Kept.setCell (R := fun k => k = b ∨ Value.ownBlock (.slice E hs.length hc) = some k) (HK8.out.mono fun k _ e => .inr (by rw [← HN.out]; exact e)) (p := ⟨b, 2, none⟩) (.inl (.inl rfl)) _
      have hpl := HPL6.out.kept_b (E' := A2) (hc' := c2) (tk' := tk) (hs' := hs ++ [(x, k)]) hkk (fun e => by omega) (by rw [hlen]; exact blk_set HB8.out 2 _) (by
          rw [hlen]
          refine HOW.out.keepAny fun g e => setCell_far _ (p := ⟨b, 2, none⟩) (fun eb => ?_) _
          have h1 := HOB.out g (by rw [e]; rfl)
          have eb : g = b := eb
          rcases h1 with h1 | h1
          · rw [eb] at h1
            exact HBN.out h1
          · have := HBL.out
            omega) (fun j e => by
          rw [hlen] at e
          rcases HOB.out j e with h1 | h1
          · have h2 := HPL6.out.rx j (by rw [← HN.out]; exact h1)
            exact ⟨h2.1, h2.2, .inl (by rw [← HN.out]; exact h1)⟩
          · exact ⟨fun hx => by have := HPL6.out.xo j hx; omega, fun e => by have := HBL.out; omega, .inr h1⟩)
      have HPL9 := Lib.hid hpl
      have HE9 : Hid (∀ j, X j → (u8.setCell ⟨b, 2, none⟩ (.slice A2 (n + 1) c2)).heap[j]? = u6.heap[j]?) := Lib.hid fun j hj => hkk.block j (HPL6.out.xo j (.inl (.inl hj))) fun y => y.elim (fun e => HPL6.out.xb (.inl (.inl (e ▸ hj)))) fun e => (HPL6.out.rx j e).1 (.inl (.inl hj))
      have y0 : (u8.setCell ⟨b, 2, none⟩ (.slice A2 (n + 1) c2)).cell? ⟨g7, 0, none⟩ = some (.int .i64 (x : Int)) := blk_cell (blk_far H78.out (p := ⟨b, 2, none⟩) H7B.out _) 0
      have y1 : (u8.setCell ⟨b, 2, none⟩ (.slice A2 (n + 1) c2)).cell? ⟨g7, 1, none⟩ = some (.int .u64 (k : Int)) := blk_cell (blk_far H78.out (p := ⟨b, 2, none⟩) H7B.out _) 1
      have z0 : (u8.setCell ⟨b, 2, none⟩ (.slice A2 (n + 1) c2)).cell? ⟨g9, 0, none⟩ = some (.int .i64 (x : Int)) := blk_cell (blk_far H98.out (p := ⟨b, 2, none⟩) H9B.out _) 0
      have z1 : (u8.setCell ⟨b, 2, none⟩ (.slice A2 (n + 1) c2)).cell? ⟨g9, 1, none⟩ = some (.int .u64 (k : Int)) := blk_cell (blk_far H98.out (p := ⟨b, 2, none⟩) H9B.out _) 1
      clear hkk hpl
      go_upto_region 5 with fail
      clear f1 g1
      generalize u8.setCell ⟨b, 2, none⟩ (.slice A2 (n + 1) c2) = u9 at *
      go_wp2_with fail
      go_ret
      exact ⟨rfl, A2, c2, hs ++ [(x, k)], HPL9.out.less fun j hj => .inl (.inl hj), by rw [hlen, HN.out]; exact Nat.le_refl _, fun j hj => (HE9.out j hj).trans (HE6.out j hj)⟩
  · have b0 : ((er : Int) == 0) = false := by simp; exact he0
    have y0 : u6.cell? ⟨g7, 0, none⟩ = some (.int .i64 (x : Int)) := blk_cell H76.out 0
    have y1 : u6.cell? ⟨g7, 1, none⟩ = some (.int .u64 (k : Int)) := blk_cell H76.out 1
    have z0 : u6.cell? ⟨g9, 0, none⟩ = some (.int .i64 (x : Int)) := blk_cell H96.out 0
    have z1 : u6.cell? ⟨g9, 1, none⟩ = some (.int .u64 (k : Int)) := blk_cell H96.out 1
    clear he0
    go_wp2_with fail
    go_ret
    exact ⟨by simp, E, hc, hs, HPL6.out.less fun j hj => .inl (.inl hj), by omega, HE6.out⟩
end
end Go.Proofs.Ytkmakdhlaenaoaa
