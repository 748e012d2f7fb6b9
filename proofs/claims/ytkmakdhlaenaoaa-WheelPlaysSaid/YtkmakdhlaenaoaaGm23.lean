import Derived.Test.YtkmakdhlaenaoaaGm22
import Derived.Shelf.Lay
import Derived.Shelf.Strconv.Itoa0
import Derived.Ground.NamesProg
import Derived.Laws.Bits64
/- Stage 11: the landed lay, begin, end. -/
namespace Go.Proofs.Ytkmakdhlaenaoaa
set_option maxRecDepth 100000
open Go.RowKit Go.Shelf
shelf_lay Lays.n129 Nm 129 at Try as Try.bitsLen64
theorem plen64 (x : Nat) (hx : x < 18446744073709551616) (w : World) : Calls Try.prog 71 #[.int .u64 (x : Int)] w fun e w' => e = .returned (.int .i64 (Lib.bitLen x : Int)) ∧ w' = w := by
  have h := Any.bits_Len64 Try.bitsLen64 (x : Int) w (by omega) (by omega)
  rwa [Int.toNat_natCast] at h
set_option maxHeartbeats 1000000 in
theorem pwlay {w : World} {p ap z g c : Nat} {A : Ar} {S : Sl} {now tn : Nat} {ta tw tt : Nat → Nat} {F : Nat → Prop} (h : WX w p ap z g c A S now tn ta tw tt F) (hS : S.Fit) (i : Nat) (hi : i < A.has.length) (hta : ta i < 18446744073709551616) (hnow : now < 18446744073709551616) :
    Calls Try.prog 56 #[.pointer (some ⟨p, 0, none⟩), .int .i64 (i : Int)] w fun e w' => e = .returned (.tuple #[]) ∧ ∃ F', WX w' p ap z g c A (S.push (plc now (ta i) : Int) (i : Int)) now tn ta tw tt F' ∧ Ext F F' w w' := by
  have HFIT := Lib.hid hS
  have HX := Lib.hid h
  have x2 : w.cell? ⟨p, 2, none⟩ = some (.slice (some ⟨g, 0, none⟩) A.has.length c) := blk_cell h.blk 2
  have x3 : w.cell? ⟨p, 3, none⟩ = some (.int .u64 (now : Int)) := blk_cell h.blk 3
  have x1 : w.cell? ⟨p, 1, none⟩ = some (.pointer (some ⟨z, 0, none⟩)) := blk_cell h.blk 1
  have y0 := h.t0 hi
  have cap := h.cap9
  have hn := h.n
  have HPL : Hid (p < w.heap.size) := Lib.hid (h.old p h.mp)
  obtain ⟨n, hnn⟩ : ∃ n, n = A.has.length := ⟨_, rfl⟩
  rw [← hnn] at x2 hi cap hn
  clear hnn h hS
  have i0 : (0 : Int) ≤ (i : Int) := by omega
  have i1 : (i : Int) < (n : Int) := by omega
  have i2 : ((i : Int)).toNat = i := by omega
  obtain ⟨X, hX⟩ : ∃ X, X = ta i ^^^ now := ⟨_, rfl⟩
  have hXl : X < 18446744073709551616 := by rw [hX]; exact Nat.xor_lt_two_pow (n := 64) hta hnow
  have hxr : bits .xor .u64 (ta i : Int) (now : Int) = (X : Int) := by rw [hX]; exact bits_xor_u64_nat _ _ hta hnow
  obtain ⟨b, hb⟩ : ∃ b, b = (Lib.bitLen (X / 256) + 7) / 8 := ⟨_, rfl⟩
  obtain ⟨l, hl⟩ : ∃ l, l = lev now (ta i) := ⟨_, rfl⟩
  have hlb : l = min b 3 := by rw [hl, hb, hX]; rfl
  have hl3 : l ≤ 3 := by omega
  have hpl : plc now (ta i) = slt l (ta i) := by rw [hl]; rfl
  rw [hpl]
  have HL := Lib.hid fun W => plen64 (X / 256) (by omega) W
  rw [show ((X / 256 : Nat) : Int) = (X : Int) / 256 by omega] at HL
  have hL64 : Lib.bitLen (X / 256) ≤ 64 := Lib.bitLen_le _ 64 (by omega) (by omega)
  have HSL := Lib.hid fun W => pslot W l hl3 (ta i) hta
  clear hX hl hpl
  generalize Lib.bitLen (X / 256) = L at *
  have z1 : IntKind.i64.wrap ((L : Int) + 7) = (L : Int) + 7 := by rw [IntKind.wrap_i64]; omega
  have hmin : min (((L : Int) + 7) / 8) 3 = (l : Int) := by omega
  clear hlb hb hl3
  go_enter Try.func56, Try.ntmps56
  go_upto_region 2 with (first
    | (go_at_call 71
       refine (HL.out _).mono ?_
       rintro e u1 ⟨rfl, rfl⟩))
  refine wp_region_grow (C := fun W => Below u1.heap.size u1 W) 9 34 [val (.pointer (some ⟨p, 0, none⟩)), val (.pointer (some ⟨p, 0, none⟩)), val (.pointer (some ⟨p, 1, none⟩)), val (.pointer (some ⟨z, 0, none⟩)), val (.int .i64 (((L : Int) + 7) / 8)), val (.int .i64 (l : Int)), val (.int .u64 (ta i : Int)), val (.int .i64 (slt l (ta i) : Int)), val (.int .i64 (i : Int))] (by kernel_rfl) rfl (by kernel_rfl) rfl ⟨stb_val _, stb_val _, stb_val _, stb_val _, stb_val _, stb_val _, stb_val _, stb_val _, stb_val _, trivial⟩ (Below.refl _ _).drew ?_ ?_
  · refine each_cons ?_ ?_
    · intro a W hW hd
      have h0 : a.tmps[0]?.getD undef = .pointer (some ⟨p, 0, none⟩) := slot_eq (hd 0 (by decide))
      exact grows_value _ hW (by simp [execOp, Act.eval, h0]) rfl
    refine each_cons ?_ ?_
    · intro a W hW hd
      have h24 : a.tmps[24]?.getD undef = .pointer (some ⟨p, 0, none⟩) := slot_eq (hd 24 (by decide))
      refine grows_value _ hW (?_ : _ = _) rfl
      clear hd
      go_simp
    refine each_cons ?_ ?_
    · intro a W hW hd
      have h25 : a.tmps[25]?.getD undef = .pointer (some ⟨p, 0, none⟩) := slot_eq (hd 25 (by decide))
      refine grows_value _ hW (?_ : _ = _) rfl
      clear hd
      go_simp
    refine each_cons ?_ ?_
    · intro a W hW hd
      have h26 : a.tmps[26]?.getD undef = .pointer (some ⟨p, 1, none⟩) := slot_eq (hd 26 (by decide))
      have xx : W.cell? ⟨p, 1, none⟩ = some (.pointer (some ⟨z, 0, none⟩)) := (hW.cell (p := ⟨p, 1, none⟩) HPL.out).trans x1
      refine grows_value _ hW (?_ : _ = _) rfl
      clear hd
      go_simp
    refine each_cons ?_ ?_
    · intro a W hW hd
      have h5 : a.tmps[5]?.getD undef = .int .i64 (((L : Int) + 7) / 8) := slot_eq (hd 5 (by decide))
      exact grows_value _ hW (by simp [execOp, Act.eval, h5]) rfl
    refine each_cons ?_ ?_
    · intro a W hW hd
      have h28 : a.tmps[28]?.getD undef = .int .i64 (((L : Int) + 7) / 8) := slot_eq (hd 28 (by decide))
      refine grows_value _ hW (?_ : _ = _) rfl
      clear hd
      go_simp
      all_goals (first | exact hmin | omega)
    refine each_cons ?_ ?_
    · intro a W hW hd
      have h4 : a.tmps[4]?.getD undef = .int .u64 (ta i : Int) := slot_eq (hd 4 (by decide))
      exact grows_value _ hW (by simp [execOp, Act.eval, h4]) rfl
    refine each_cons ?_ ?_
    · intro a W hW hd
      have h29 : a.tmps[29]?.getD undef = .int .i64 (l : Int) := slot_eq (hd 29 (by decide))
      have h30 : a.tmps[30]?.getD undef = .int .u64 (ta i : Int) := slot_eq (hd 30 (by decide))
      refine grows_call (fn := 59) (args := #[.int .i64 (l : Int), .int .u64 (ta i : Int)]) (by clear hd; go_simp) ?_
      refine (HSL.out W).mono ?_
      rintro e W' ⟨rfl, hb⟩
      exact ⟨_, rfl, rfl, hb, hW.trans (hb.mono hW.size)⟩
    refine each_cons ?_ ?_
    · intro a W hW hd
      have h1 : a.tmps[1]?.getD undef = .int .i64 (i : Int) := slot_eq (hd 1 (by decide))
      exact grows_value _ hW (by simp [execOp, Act.eval, h1]) rfl
    exact each_nil
  · refine behind_val rfl ?_
    refine behind_val rfl ?_
    refine behind_val rfl ?_
    refine behind_val rfl ?_
    refine behind_val rfl ?_
    refine behind_val rfl ?_
    refine behind_val rfl ?_
    refine behind_val rfl ?_
    refine behind_val rfl ?_
    refine behind_nil fun W2 hCW2 hFW2 => ?_
    simp only [Act.put, List.setIfInBounds_toArray, List.set_cons_succ, List.set_cons_zero, List.drop_succ_cons, List.drop_zero]
    have HX2 := Lib.hid (HX.out.step hCW2)
    have HE2 := Lib.hid ((Ext.refl F u1).step hCW2)
    clear hCW2 hFW2 x1
    go_wp2_with fail
    go_at_call 72
    refine (HX2.out.slots fun Z => pa_push HFIT.out Z none (slt l (ta i) : Int) (i : Int)).mono ?_
    rintro e u3 ⟨rfl, F', hx3, he3⟩
    have HX3 := Lib.hid hx3
    have HE3 := Lib.hid (HE2.out.trans he3)
    clear hx3 he3
    go_wp2_with fail
    go_end0
    exact ⟨rfl, F', HX3.out, HE3.out⟩
set_option maxHeartbeats 1000000 in
theorem pwbegin {w : World} {p ap z g c : Nat} {A : Ar} {S : Sl} {now tn : Nat} {ta tw tt : Nat → Nat} {F : Nat → Prop} (h : WX w p ap z g c A S now tn ta tw tt F) (hS : S.Fit) (i : Nat) (hi : i < A.has.length) (at_ : Nat) (hat : at_ < 18446744073709551616) (hnow : now < 18446744073709551615) (htn : tn < 18446744073709551615) :
    Calls Try.prog 35 #[.pointer (some ⟨p, 0, none⟩), .int .i64 (i : Int), .int .u64 (at_ : Int)] w fun e w' => e = .returned (.tuple #[]) ∧ ∃ F', WX w' p ap z g c A (S.push (plc now (max at_ (now + 1)) : Int) (i : Int)) now (tn + 1) (updN ta i (max at_ (now + 1))) tw (updN tt i (tn + 1)) F' ∧ Ext F F' w w' := by
  have HFIT := Lib.hid hS
  have HX := Lib.hid h
  have x4 : w.cell? ⟨p, 4, none⟩ = some (.int .u64 (tn : Int)) := blk_cell h.blk 4
  have y4 := blk_free h.blk 4
  have hn := h.n
  have z1 : IntKind.u64.wrap ((tn : Int) + 1) = (tn : Int) + 1 := by rw [IntKind.wrap_u64]; omega
  have HX1 : Hid (WX (w.setCell ⟨p, 4, none⟩ (.int .u64 ((tn : Int) + 1))) p ap z g c A S now (tn + 1) ta tw tt F) := Lib.hid (h.setTurn (tn + 1))
  have HE1 : Hid (Ext F F w (w.setCell ⟨p, 4, none⟩ (.int .u64 ((tn : Int) + 1)))) := Lib.hid ((Ext.refl F w).setCell (p := ⟨p, 4, none⟩) h.mp _)
  obtain ⟨n, hnn⟩ : ∃ n, n = A.has.length := ⟨_, rfl⟩
  have HN := Lib.hid hnn
  rw [← hnn] at hi hn
  obtain ⟨m, hm⟩ : ∃ m, m = max at_ (now + 1) := ⟨_, rfl⟩
  rw [← hm]
  have hmx : max (at_ : Int) ((now : Int) + 1) = (m : Int) := by omega
  have HM : Hid (m < 18446744073709551616) := Lib.hid (by omega)
  clear hnn h hS hm
  have i0 : (0 : Int) ≤ (i : Int) := by omega
  have i1 : (i : Int) < (n : Int) := by omega
  have i2 : ((i : Int)).toNat = i := by omega
  go_enter Try.func35, Try.ntmps35
  go_upto_region 1 with fail
  clear x4 y4 z1 HX
  generalize w.setCell ⟨p, 4, none⟩ (.int .u64 ((tn : Int) + 1)) = u1 at *
  have x2 : u1.cell? ⟨p, 2, none⟩ = some (.slice (some ⟨g, 0, none⟩) n c) := by rw [HN.out]; exact blk_cell HX1.out.blk 2
  have cap := HX1.out.cap9
  rw [← HN.out] at cap
  go_upto_region 2 with fail
  have x3 : u1.cell? ⟨p, 3, none⟩ = some (.int .u64 (now : Int)) := blk_cell HX1.out.blk 3
  have z3 : IntKind.u64.wrap ((now : Int) + 1) = (now : Int) + 1 := by rw [IntKind.wrap_u64]; omega
  have y0 := HX1.out.t0 (j := i) (by rw [← HN.out]; exact hi)
  have f0 := HX1.out.lies.2 (i * 3)
  have HX2 := Lib.hid (HX1.out.setAt i m)
  have HE2 := Lib.hid (HE1.out.setCell (p := ⟨g, i * 3, none⟩) HX1.out.mg (.int .u64 (m : Int)))
  go_upto_region 3 with fail
  clear x2 x3 y0 f0 HX1 HE1 z3
  generalize u1.setCell ⟨g, i * 3, none⟩ (.int .u64 (m : Int)) = u2 at *
  have x4 : u2.cell? ⟨p, 4, none⟩ = some (.int .u64 ((tn : Int) + 1)) := blk_cell HX2.out.blk 4
  have y2 := HX2.out.t2 (j := i) (by rw [← HN.out]; exact hi)
  have f2 := HX2.out.lies.2 (i * 3 + 2)
  have HX3 : Hid (WX (u2.setCell ⟨g, i * 3 + 2, none⟩ (.int .u64 ((tn : Int) + 1))) p ap z g c A S now (tn + 1) (updN ta i m) tw (updN tt i (tn + 1)) F) := Lib.hid (HX2.out.setTt i (tn + 1))
  have HE3 := Lib.hid (HE2.out.setCell (p := ⟨g, i * 3 + 2, none⟩) HX2.out.mg (.int .u64 ((tn : Int) + 1)))
  go_upto_region 4 with fail
  clear x4 y2 f2 HX2 HE2
  generalize u2.setCell ⟨g, i * 3 + 2, none⟩ (.int .u64 ((tn : Int) + 1)) = u3 at *
  go_wp2_with fail
  go_at_call 56
  have hl := pwlay HX3.out HFIT.out i (by rw [← HN.out]; exact hi) (by rw [updN_same]; exact HM.out) (by omega)
  rw [updN_same] at hl
  refine hl.mono ?_
  rintro e u4 ⟨rfl, F', hx4, he4⟩
  have HX4 := Lib.hid hx4
  have HE4 := Lib.hid (HE3.out.trans he4)
  clear hx4 he4 hl
  go_wp2_with fail
  go_end0
  exact ⟨rfl, F', HX4.out, HE4.out⟩
set_option maxHeartbeats 1000000 in
theorem pwend {w : World} {p ap z g c : Nat} {A : Ar} {S : Sl} {now tn : Nat} {ta tw tt : Nat → Nat} {F : Nat → Prop} (h : WX w p ap z g c A S now tn ta tw tt F) (hA : A.Ok) (i k : Nat) (hl : A.live (i : Int) k = true) :
    Calls Try.prog 39 #[.pointer (some ⟨p, 0, none⟩), .agg #[.int .i64 (i : Int), .int .u64 (k : Int)]] w fun e w' => e = .returned (.tuple #[]) ∧ ∃ F', WX w' p ap z g c (A.gone i) S now tn (updN ta i 0) (updN tw i 0) (updN tt i 0) F' ∧ Ext F F' w w' := by
  have HOK := Lib.hid hA
  have HLV := Lib.hid hl
  have hi : i < A.has.length := by
    obtain ⟨h1, h2, h3⟩ := Ar.live_iff.1 hl
    rcases Nat.lt_or_ge i A.has.length with q | q
    · exact q
    · exact absurd (Ar.at_out q) (by rw [show i = ((i : Int)).toNat by omega, h3]; exact h2)
  have HX1 := Lib.hid (h.step (below_alloc w (.cells #[.int .i64 (i : Int), .int .u64 (k : Int)] 46)))
  have HE1 := Lib.hid ((Ext.refl F w).step (below_alloc w (.cells #[.int .i64 (i : Int), .int .u64 (k : Int)] 46)))
  have HR1 : Hid ((w.alloc (.cells #[.int .i64 (i : Int), .int .u64 (k : Int)] 46)).heap[w.heap.size]? = some (.cells #[.int .i64 (i : Int), .int .u64 (k : Int)] 46 (0, 0))) := Lib.hid (heap_alloc_new w _)
  obtain ⟨r, hr⟩ : ∃ r, r = w.heap.size := ⟨_, rfl⟩
  rw [← hr] at HR1
  have HGR : Hid (g ≠ r) := Lib.hid (by have := h.old g h.mg; omega)
  have hn := h.n
  clear h hA hl
  go_enter Try.func39, Try.ntmps39
  go_upto_region 1 with fail
  change Code.wp _ _ _ _ (w.alloc (.cells #[.int .i64 (i : Int), .int .u64 (k : Int)] 46))
  rw [← hr]
  clear hr
  generalize w.alloc (.cells #[.int .i64 (i : Int), .int .u64 (k : Int)] 46) = u1 at *
  obtain ⟨n, hnn⟩ : ∃ n, n = A.has.length := ⟨_, rfl⟩
  have x2 : u1.cell? ⟨p, 2, none⟩ = some (.slice (some ⟨g, 0, none⟩) n c) := by rw [hnn]; exact blk_cell HX1.out.blk 2
  have r0 : u1.cell? ⟨r, 0, none⟩ = some (.int .i64 (i : Int)) := blk_cell HR1.out 0
  have HPL : Hid (p < u1.heap.size) := Lib.hid (HX1.out.old p HX1.out.mp)
  have HRL : Hid (r < u1.heap.size) := Lib.hid (lt_heap HR1.out)
  have hbd : ∀ w, (Instr.build 81 #[]).run Try.prog w = .ok (.agg #[.int .u64 0, .int .u64 0, .int .u64 0]) w := fun w => by kernel_rfl
  have i0 : (0 : Int) ≤ (i : Int) := by omega
  have i1 : (i : Int) < (n : Int) := by omega
  have i2 : ((i : Int)).toNat = i := by omega
  have cap := HX1.out.cap9
  rw [← hnn] at cap
  clear hnn
  refine wp_region_grow (C := fun W => Below u1.heap.size u1 W) 8 18 [val (.pointer (some ⟨p, 0, none⟩)), val (.pointer (some ⟨p, 0, none⟩)), val (.pointer (some ⟨p, 2, none⟩)), val (.slice (some ⟨g, 0, none⟩) n c), val (.pointer (some ⟨r, 0, none⟩)), val (.int .i64 (i : Int)), val (.agg #[.int .u64 0, .int .u64 0, .int .u64 0]), val (.pointer (some ⟨g, i * 3, none⟩))] (by kernel_rfl) rfl (by kernel_rfl) rfl ⟨stb_val _, stb_val _, stb_val _, stb_val _, stb_val _, stb_val _, stb_val _, stb_val _, trivial⟩ (Below.refl _ _).drew ?_ ?_
  · refine each_cons ?_ ?_
    · intro a W hW hd
      have h0 : a.tmps[0]?.getD undef = .pointer (some ⟨p, 0, none⟩) := slot_eq (hd 0 (by decide))
      exact grows_value _ hW (by simp [execOp, Act.eval, h0]) rfl
    refine each_cons ?_ ?_
    · intro a W hW hd
      have h4 : a.tmps[4]?.getD undef = .pointer (some ⟨p, 0, none⟩) := slot_eq (hd 4 (by decide))
      refine grows_value _ hW (?_ : _ = _) rfl
      clear hd
      go_simp
    refine each_cons ?_ ?_
    · intro a W hW hd
      have h5 : a.tmps[5]?.getD undef = .pointer (some ⟨p, 0, none⟩) := slot_eq (hd 5 (by decide))
      refine grows_value _ hW (?_ : _ = _) rfl
      clear hd
      go_simp
    refine each_cons ?_ ?_
    · intro a W hW hd
      have h6 : a.tmps[6]?.getD undef = .pointer (some ⟨p, 2, none⟩) := slot_eq (hd 6 (by decide))
      have xx : W.cell? ⟨p, 2, none⟩ = some (.slice (some ⟨g, 0, none⟩) n c) := (hW.cell (p := ⟨p, 2, none⟩) HPL.out).trans x2
      refine grows_value _ hW (?_ : _ = _) rfl
      clear hd
      go_simp
    refine each_cons ?_ ?_
    · intro a W hW hd
      have h3 : a.tmps[3]?.getD undef = .pointer (some ⟨r, 0, none⟩) := slot_eq (hd 3 (by decide))
      refine grows_value _ hW (?_ : _ = _) rfl
      clear hd
      go_simp
    refine each_cons ?_ ?_
    · intro a W hW hd
      have h8 : a.tmps[8]?.getD undef = .pointer (some ⟨r, 0, none⟩) := slot_eq (hd 8 (by decide))
      have xx : W.cell? ⟨r, 0, none⟩ = some (.int .i64 (i : Int)) := (hW.cell (p := ⟨r, 0, none⟩) HRL.out).trans r0
      refine grows_value _ hW (?_ : _ = _) rfl
      clear hd
      go_simp
    refine each_cons ?_ ?_
    · intro a W hW hd
      refine grows_value _ hW (?_ : _ = _) rfl
      have hb := hbd W
      clear hd
      simp [execOp, Act.eval, hb]
    refine each_cons ?_ ?_
    · intro a W hW hd
      have h7 : a.tmps[7]?.getD undef = .slice (some ⟨g, 0, none⟩) n c := slot_eq (hd 7 (by decide))
      have h9 : a.tmps[9]?.getD undef = .int .i64 (i : Int) := slot_eq (hd 9 (by decide))
      refine grows_value _ hW (?_ : _ = _) rfl
      clear hd
      go_simp
    exact each_nil
  · refine behind_val rfl ?_
    refine behind_val rfl ?_
    refine behind_val rfl ?_
    refine behind_val rfl ?_
    refine behind_val rfl ?_
    refine behind_val rfl ?_
    refine behind_val rfl ?_
    refine behind_val rfl ?_
    refine behind_nil fun W2 hCW2 hFW2 => ?_
    simp only [Act.put, List.setIfInBounds_toArray, List.set_cons_succ, List.set_cons_zero, List.drop_succ_cons, List.drop_zero]
    clear hFW2 hbd x2 r0
    have HX2 := Lib.hid (HX1.out.step hCW2)
    have HE2 := Lib.hid (HE1.out.step hCW2)
    have HR2 : Hid (W2.heap[r]? = some (.cells #[.int .i64 (i : Int), .int .u64 (k : Int)] 46 (0, 0))) := Lib.hid ((hCW2.block _ HRL.out).trans HR1.out)
    clear hCW2
    go_upto_region 2 with (first
      | (refine wpList_store_mid rfl 81 (.tmp 11) (.tmp 10) rfl g (i * 3) #[.int .u64 0, .int .u64 0, .int .u64 0] rfl rfl (HX2.out.there hi) (by kernel_rfl) (by simp [Value.oneCell']) ?_))
    have HX3 := Lib.hid (HX2.out.setT i 0 0 0)
    have HE3 : Hid (Ext F F w (W2.setCells g (i * 3) [.int .u64 0, .int .u64 0, .int .u64 0])) := Lib.hid (HE2.out.setCells HX2.out.mg _ _)
    have HR3 : Hid ((W2.setCells g (i * 3) [.int .u64 0, .int .u64 0, .int .u64 0]).heap[r]? = some (.cells #[.int .i64 (i : Int), .int .u64 (k : Int)] 46 (0, 0))) := Lib.hid ((other_setCells HGR.out.symm _ _ _).trans HR2.out)
    have HX3 : Hid (WX (W2.setCells g (i * 3) [.int .u64 0, .int .u64 0, .int .u64 0]) p ap z g c A S now tn (updN ta i 0) (updN tw i 0) (updN tt i 0) F) := HX3
    try simp only [Act.put]
    generalize W2.setCells g (i * 3) [.int .u64 0, .int .u64 0, .int .u64 0] = u3 at *
    have x0 : u3.cell? ⟨p, 0, none⟩ = some (.pointer (some ⟨ap, 0, none⟩)) := blk_cell HX3.out.blk 0
    have HPL : Hid (p < u3.heap.size) := Lib.hid (HX3.out.old p HX3.out.mp)
    have r0 : u3.cell? ⟨r, 0, none⟩ = some (.int .i64 (i : Int)) := blk_cell HR3.out 0
    have r1 : u3.cell? ⟨r, 1, none⟩ = some (.int .u64 (k : Int)) := blk_cell HR3.out 1
    have HRL : Hid (r < u3.heap.size) := Lib.hid (lt_heap HR3.out)
    refine wp_region_grow (C := fun W => Below u3.heap.size u3 W) 5 18 [val (.pointer (some ⟨p, 0, none⟩)), val (.pointer (some ⟨p, 0, none⟩)), val (.pointer (some ⟨p, 0, none⟩)), val (.pointer (some ⟨ap, 0, none⟩)), val (.agg #[.int .i64 (i : Int), .int .u64 (k : Int)])] (by kernel_rfl) rfl (by kernel_rfl) rfl ⟨stb_val _, stb_val _, stb_val _, stb_val _, stb_val _, trivial⟩ (Below.refl _ _).drew ?_ ?_
    · refine each_cons ?_ ?_
      · intro a W hW hd
        have h0 : a.tmps[0]?.getD undef = .pointer (some ⟨p, 0, none⟩) := slot_eq (hd 0 (by decide))
        exact grows_value _ hW (by simp [execOp, Act.eval, h0]) rfl
      refine each_cons ?_ ?_
      · intro a W hW hd
        have h12 : a.tmps[12]?.getD undef = .pointer (some ⟨p, 0, none⟩) := slot_eq (hd 12 (by decide))
        refine grows_value _ hW (?_ : _ = _) rfl
        clear hd
        go_simp
      refine each_cons ?_ ?_
      · intro a W hW hd
        have h13 : a.tmps[13]?.getD undef = .pointer (some ⟨p, 0, none⟩) := slot_eq (hd 13 (by decide))
        refine grows_value _ hW (?_ : _ = _) rfl
        clear hd
        go_simp
      refine each_cons ?_ ?_
      · intro a W hW hd
        have h14 : a.tmps[14]?.getD undef = .pointer (some ⟨p, 0, none⟩) := slot_eq (hd 14 (by decide))
        have xx : W.cell? ⟨p, 0, none⟩ = some (.pointer (some ⟨ap, 0, none⟩)) := (hW.cell (p := ⟨p, 0, none⟩) HPL.out).trans x0
        refine grows_value _ hW (?_ : _ = _) rfl
        clear hd
        go_simp
      refine each_cons ?_ ?_
      · intro a W hW hd
        have h3 : a.tmps[3]?.getD undef = .pointer (some ⟨r, 0, none⟩) := slot_eq (hd 3 (by decide))
        have xx0 : W.cell? ⟨r, 0, none⟩ = some (.int .i64 (i : Int)) := (hW.cell (p := ⟨r, 0, none⟩) HRL.out).trans r0
        have xx1 : W.cell? ⟨r, 1, none⟩ = some (.int .u64 (k : Int)) := (hW.cell (p := ⟨r, 1, none⟩) HRL.out).trans r1
        refine grows_value _ hW (?_ : _ = _) rfl
        clear hd
        go_simp
      exact each_nil
    · refine behind_val rfl ?_
      refine behind_val rfl ?_
      refine behind_val rfl ?_
      refine behind_val rfl ?_
      refine behind_val rfl ?_
      refine behind_nil fun W4 hCW4 hFW4 => ?_
      simp only [Act.put, List.setIfInBounds_toArray, List.set_cons_succ, List.set_cons_zero, List.drop_succ_cons, List.drop_zero]
      clear hFW4 x0 r0 r1
      have HX4 := Lib.hid (HX3.out.step hCW4)
      have HE4 := Lib.hid (HE3.out.step hCW4)
      clear hCW4
      go_wp2_with fail
      go_at_call 66
      refine (HX4.out.arena (A' := A.gone i) (v := .int .i64 0) List.length_set fun Fa hA => ?_).mono ?_
      · have h9 := pArC.free hA HOK.out HX4.out.n (i : Int) k
        have e1 : A.fr (i : Int) k = A.gone i := by unfold Ar.fr; rw [if_pos HLV.out]; rfl
        have e2 : A.frE (i : Int) k = 0 := by unfold Ar.frE; rw [if_pos HLV.out]
        rw [e1, e2] at h9
        exact h9
      rintro e u5 ⟨rfl, F', hx5, he5⟩
      have HX5 := Lib.hid hx5
      have HE5 := Lib.hid (HE4.out.trans he5)
      clear hx5 he5
      go_wp2_with fail
      go_end0
      exact ⟨rfl, F', HX5.out, HE5.out⟩
end Go.Proofs.Ytkmakdhlaenaoaa
