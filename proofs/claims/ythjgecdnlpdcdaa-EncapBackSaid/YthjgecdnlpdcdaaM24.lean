import Derived.Test.YthjgecdnlpdcdaaM16
import Derived.Test.YthjgecdnlpdcdaaM23
/- The program's seg.ReadUDP, Ports. -/
namespace Go.Proofs.Ythjgecdnlpdcdaa
set_option maxRecDepth 100000
open Go.RowKit
set_option maxRecDepth 100000 in
set_option maxHeartbeats 4000000 in
theorem readU_any (v6 : Bool) (s d : Nat → Int) (hs : Byt s) (hd : Byt d) (A : Option Addr) (n c : Nat) (f : Nat → Int) (hf : Byt f) (hn : n ≤ 140737488355328) (hcap : n ≤ c) (hc' : c ≤ 9223372036854775807) (w : World) (hr : Rd w w.heap.size A n f) :
    Calls Try.prog 18 #[.bool v6, .agg (arr16 s), .agg (arr16 d), .slice A n c] w (ReadU 5 (udpE v6 (psq v6 s d 17 n) f n) f n w) := by
  have HR := Lib.hid hr
  have HF := Lib.hid hf
  have HSO := Lib.hid fun W hr => sumOf_any v6 s d hs hd 17 (by omega) (by omega) A n c f hf (by omega) hcap W hr
  clear hr hf hs hd
  generalize psq v6 s d 17 n = S at *
  obtain ⟨R, hR⟩ : ∃ R, R = udpE v6 S f n := ⟨_, rfl⟩
  rw [← hR]
  have HRE := Lib.hid hR
  clear hR
  obtain ⟨r, hr⟩ : ∃ r, r = rgt S f n := ⟨_, rfl⟩
  rw [← hr] at HSO
  have HRR := Lib.hid hr
  clear hr
  have HX1 := Lib.hid (Box3.start w s d udpz 53)
  go_enter Try.func18, Try.ntmps18
  go_upto_if 15 with fail
  change Code.wp _ _ _ _ (((w.alloc (.cells (arr16 s) 22)).alloc (.cells (arr16 d) 22)).alloc (.cells udpz 53))
  generalize ((w.alloc (.cells (arr16 s) 22)).alloc (.cells (arr16 d) 22)).alloc (.cells udpz 53) = u1 at *
  by_cases c0 : n < 8
  · have c0' : (n : Int) < 8 := by omega
    have hRe : R = 4 := HRE.out.trans (udpE_0 c0)
    go_wp2_with (first
      | (refine wpList_store_row rfl 53 (.tmp 8) (.tmp 16) rfl (w.heap.size + 1 + 1) udpz rfl rfl 53 udpz HX1.out.b2 (by kernel_rfl) rfl udpz_one ?_))
    refine bodyPost_ret (v := .tuple #[.agg udpz, .slice none 0 0, .int .i64 4]) (results_row2 Try.results18 _ _ (w.heap.size + 1 + 1) 53 udpz (0, 0) _ rfl (setRow_heap _ (w.heap.size + 1 + 1) _ udpz _ _ HX1.out.b2) Try.underlying53 rfl (by kernel_rfl)) rfl ?_
    have hRne : ¬ R = 0 := by omega
    exact .inl ⟨by first | exact hRne | omega | decide, by first | rfl | (rw [hRe] <;> rfl), below_setRow HX1.out.below (by omega) _⟩
  · have N0 : Hid (¬ n < 8) := c0
    have c0' : (8 : Int) ≤ (n : Int) := by omega
    rcases HR.out with h0 | ⟨b, off, rfl, hbb, hcell⟩
    · omega
    have HC := Lib.hid hcell
    clear hcell
    have HRD := Lib.hid fun W => reader_any (.slice (some ⟨b, off, none⟩) n c) _ n c rfl W
    unfold wdV at HRD
    go_upto_region 4 with (first
      | (go_at_call 27; refine (HRD.out _).mono ?_; rintro e u3 ⟨rfl, hw3⟩; have HW3 := Lib.hid hw3; clear hw3))
    obtain ⟨p, hp⟩ : ∃ p, p = u1.heap.size := ⟨_, rfl⟩
    have HP3 : Hid (u3.cell? ⟨p, 0, none⟩ = some (.slice (some ⟨b, off, none⟩) n c)) := by rw [HW3.out, hp]; exact blk_cell (heap_alloc_new _ _) 0
    have HX3 : Hid (Box3 w u3 s d udpz 53) := by rw [HW3.out]; exact HX1.out.step (below_alloc _ _)
    clear HW3 HX1 HRD
    rw [← hp]
    clear hp
    have hp3 : p < u3.heap.size := World.block_lt_of_cell? _ _ HP3.out
    have hb3 : b < u3.heap.size := Nat.lt_of_lt_of_le hbb HX3.out.below.size
    have HWD : Hid (∀ (k : Nat) (_ : k + 1 < n) (W : World), Below u3.heap.size u3 W → Calls Try.prog 37 #[.int .i64 (k : Int), .pointer (some ⟨p, 0, none⟩)] W fun e w' => e = .returned (.int .u16 (w2 f k)) ∧ Below W.heap.size W w') := fun k hk W hW =>
      word_any p b off n c k f HF.out hk (by omega) W ((hW.cell (p := ⟨p, 0, none⟩) hp3).trans HP3.out) (fun k hk => (hW.cell (p := ⟨b, off + k, none⟩) hb3).trans ((HX3.out.below.cell (p := ⟨b, off + k, none⟩) hbb).trans (HC.out k hk)))
    have H4 : Hid (∀ (W : World), Below u3.heap.size u3 W → Calls Try.prog 37 #[.int .i64 4, .pointer (some ⟨p, 0, none⟩)] W fun e w' => e = .returned (.int .u16 (w2 f 4)) ∧ Below W.heap.size W w') := HWD.out 4 (by omega)
    have H6 : Hid (∀ (W : World), Below u3.heap.size u3 W → Calls Try.prog 37 #[.int .i64 6, .pointer (some ⟨p, 0, none⟩)] W fun e w' => e = .returned (.int .u16 (w2 f 6)) ∧ Below W.heap.size W w') := HWD.out 6 (by omega)
    clear HWD
    have b4 := w2_bd HF.out 4
    have hw4 : IntKind.i64.wrap (w2 f 4) = w2 f 4 := by rw [IntKind.wrap_i64]; omega
    clear b4
    go_upto_if 24 with (first
      | (go_at_call 37; refine (H4.out _ (Below.refl _ _)).mono ?_; rintro e u4 ⟨rfl, hb4⟩; have HB4 := Lib.hid hb4; clear hb4))
    clear H4 hw4
    by_cases c1 : w2 f 4 = (n : Int)
    · have c1' : (w2 f 4 != (n : Int)) = false := by simpa using c1
      have N1 := Lib.hid c1
      clear c1
      by_cases c2 : w2 f 6 = 0
      · have c2' : (w2 f 6 == 0) = true := by simpa using c2
        have N2 := Lib.hid c2
        clear c2
        have HN6 : Hid (decide (w2 f 6 = 0) = true) := decide_eq_true N2.out
        go_upto_region 7 with (first
          | (go_at_call 37; refine (H6.out _ HB4.out).mono ?_; rintro e u4b ⟨rfl, hb4⟩; have HX4 := Lib.hid (HX3.out.step (HB4.out.trans (hb4.mono HB4.out.size))); have HP4 : Hid (u4b.cell? ⟨p, 0, none⟩ = some (.slice (some ⟨b, off, none⟩) n c)) := ((HB4.out.trans (hb4.mono HB4.out.size)).cell (p := ⟨p, 0, none⟩) hp3).trans HP3.out; clear hb4))
        clear H6 HX3 HP3 HB4 c2' HSO HRR
        cases v6
        · have hRe : R = 0 := HRE.out.trans (udpE_3 N0.out N1.out N2.out)
          go_upto_if 44 with fail
          obtain ⟨D8, hsD8, hrD8⟩ := slice_any (some ⟨b, off, none⟩) n c 8 (by omega) hcap hc'
          have hsD8' : ∀ W, (Instr.sliceAt 26 (.slice (some ⟨b, off, none⟩) n c) (some (.int .i64 8)) none none).run Try.prog W = .ok (.slice D8 (n - 8) (c - 8)) W := hsD8
          have HD8 := Lib.hid hrD8
          clear hrD8 hsD8
          obtain ⟨i0, hi0, hz0, hz1, hz2⟩ := info_parts Try.info5
          have HI0 := Lib.hid hi0
          have HI1 := Lib.hid hz0
          have HI2 := Lib.hid hz1
          have HI3 := Lib.hid hz2
          clear hi0 hz0 hz1 hz2
          go_upto_region 9 with fail
          have HX5b := HX4
          have HP5 := HP4
          clear HX4 HP4
          generalize u4b = u5 at *
          have hb5 : b < u5.heap.size := Nat.lt_of_lt_of_le hbb HX5b.out.below.size
          have hp5 : p < u5.heap.size := World.block_lt_of_cell? _ _ HP5.out
          have HX5 : Hid (∀ k, k < n → u5.cell? ⟨b, off + k, none⟩ = some (.int .u8 (f k))) := fun k hk => (HX5b.out.below.cell (p := ⟨b, off + k, none⟩) hbb).trans (HC.out k hk)
          refine wp_region_grow (C := fun W => Below u5.heap.size u5 W) 10 56 [val (.func (.func 37) #[] #[.pointer (some ⟨p, 0, none⟩)]), val (.int .u16 (w2 f 0)), val (.func (.func 37) #[] #[.pointer (some ⟨p, 0, none⟩)]), val (.int .u16 (w2 f 2)), val (.bool true), val (.agg (udpc (w2 f 0) (w2 f 2) true)), mkF u5, val (.slice (some ⟨b, off, none⟩) n c), val (.slice D8 (n - 8) (c - 8)), ownF u5 (n - 8) (fun k => f (8 + k))] (by kernel_rfl) rfl (by kernel_rfl) rfl ⟨stb_val _, stb_val _, stb_val _, stb_val _, stb_val _, stb_val _, stb_mk _, stb_val _, stb_val _, stb_own _ _ _, trivial⟩ (Below.refl _ _).drew ?_ ?_
          · refine each_cons ?_ ?_
            · intro a W hW hd
              have h11 : a.tmps[11]?.getD undef = .func (.func 37) #[] #[.pointer (some ⟨p, 0, none⟩)] := slot_eq (hd 11 (by decide))
              exact grows_value _ hW (by simp [execOp, Act.eval, h11]) rfl
            refine each_cons ?_ ?_
            · intro a W hW hd
              have h46 : a.tmps[46]?.getD undef = .func (.func 37) #[] #[.pointer (some ⟨p, 0, none⟩)] := slot_eq (hd 46 (by decide))
              refine grows_call (fn := 37) (args := #[.int .i64 0, .pointer (some ⟨p, 0, none⟩)]) ?_ ?_
              · clear hd
                go_simp
              · refine (word_any p b off n c 0 f HF.out (by omega) (by omega) W ((hW.cell (p := ⟨p, 0, none⟩) hp5).trans HP5.out) (fun k hk => (hW.cell (p := ⟨b, off + k, none⟩) hb5).trans (HX5.out k hk))).mono ?_
                rintro e w' ⟨he, hb⟩
                exact ⟨_, he, rfl, hb, hW.trans (hb.mono hW.size)⟩
            refine each_cons ?_ ?_
            · intro a W hW hd
              have h11 : a.tmps[11]?.getD undef = .func (.func 37) #[] #[.pointer (some ⟨p, 0, none⟩)] := slot_eq (hd 11 (by decide))
              exact grows_value _ hW (by simp [execOp, Act.eval, h11]) rfl
            refine each_cons ?_ ?_
            · intro a W hW hd
              have h48 : a.tmps[48]?.getD undef = .func (.func 37) #[] #[.pointer (some ⟨p, 0, none⟩)] := slot_eq (hd 48 (by decide))
              refine grows_call (fn := 37) (args := #[.int .i64 2, .pointer (some ⟨p, 0, none⟩)]) ?_ ?_
              · clear hd
                go_simp
              · refine (word_any p b off n c 2 f HF.out (by omega) (by omega) W ((hW.cell (p := ⟨p, 0, none⟩) hp5).trans HP5.out) (fun k hk => (hW.cell (p := ⟨b, off + k, none⟩) hb5).trans (HX5.out k hk))).mono ?_
                rintro e w' ⟨he, hb⟩
                exact ⟨_, he, rfl, hb, hW.trans (hb.mono hW.size)⟩
            refine each_cons ?_ ?_
            · intro a W hW hd
              have h12 : a.tmps[12]?.getD undef = .bool true := slot_eq (hd 12 (by decide))
              exact grows_value _ hW (by simp [execOp, Act.eval, h12]) rfl
            refine each_cons ?_ ?_
            · intro a W hW hd
              have h47 : a.tmps[47]?.getD undef = .int .u16 (w2 f 0) := slot_eq (hd 47 (by decide))
              have h49 : a.tmps[49]?.getD undef = .int .u16 (w2 f 2) := slot_eq (hd 49 (by decide))
              have h50 : a.tmps[50]?.getD undef = .bool true := slot_eq (hd 50 (by decide))
              refine grows_value _ hW (?_ : _ = _) rfl
              clear hd
              go_simp
              rfl
            refine each_cons ?_ ?_
            · intro a W hW hd
              refine grows_new (.slice (some ⟨W.heap.size, 0, none⟩) 0 0) (w' := W.alloc (.cells #[] 5)) (?_ : _ = _) ⟨_, rfl, Own.fresh W _ _ rfl hW.size _ _⟩ (below_alloc _ _) (hW.alloc hW.size _)
              clear hd
              go_simp
            refine each_cons ?_ ?_
            · intro a W hW hd
              have h3 : a.tmps[3]?.getD undef = .slice (some ⟨b, off, none⟩) n c := slot_eq (hd 3 (by decide))
              exact grows_value _ hW (by simp [execOp, Act.eval, h3]) rfl
            refine each_cons ?_ ?_
            · intro a W hW hd
              have h53 : a.tmps[53]?.getD undef = .slice (some ⟨b, off, none⟩) n c := slot_eq (hd 53 (by decide))
              refine grows_value _ hW (?_ : _ = _) rfl
              clear hd
              go_simp
            refine each_cons ?_ ?_
            · intro a W hW hd
              have h54 : a.tmps[54]?.getD undef = .slice D8 (n - 8) (c - 8) := slot_eq (hd 54 (by decide))
              obtain ⟨z, h52, ho⟩ := hd 52 (by decide)
              have h52' : a.tmps[52]?.getD undef = .slice (some ⟨z, 0, none⟩) 0 0 := slot_eq h52
              obtain ⟨A2, c2, w', hrun, hown, hb⟩ := run_append_fresh (P := Try.prog) u5.heap.size 26 26 5 i0 Try.underlying26 HI0.out HI1.out HI2.out HI3.out ⟨z, 0, none⟩ ho (c' := c - 8) (HD8.out W W.heap.size f (.inr ⟨b, off, rfl, Nat.lt_of_lt_of_le hb5 hW.size, fun k hk => (hW.cell (p := ⟨b, off + k, none⟩) hb5).trans (HX5.out k hk)⟩)) (by omega) hW.size
              refine grows_new (.slice A2 (n - 8) c2) (w' := w') ?_ ⟨A2, c2, rfl, hown⟩ hb (hW.trans (hb.mono hW.size))
              clear hd
              simp only [execOp, resolve, invoke, builtin, Sem.run_bind, Sem.run_pure, Result.andThen_ok, List.map_toArray, List.map_cons, List.map_nil, Act.eval, Array.getD_eq_getD_getElem?, h52', h54, hrun]
            exact each_nil
          · refine behind_val rfl ?_
            refine behind_val rfl ?_
            refine behind_val rfl ?_
            refine behind_val rfl ?_
            refine behind_val rfl ?_
            refine behind_val rfl ?_
            refine behind_cons fun v52 => ?_
            refine behind_val rfl ?_
            refine behind_val rfl ?_
            refine behind_cons fun v55 => ?_
            refine behind_nil fun u8 hCu8 hFu8 => ?_
            obtain ⟨⟨_, _⟩, ⟨P, cp, rfl, hP⟩⟩ := hFu8
            have HP8 := Lib.hid hP
            have HX8 := Lib.hid (HX5b.out.step hCu8)
            clear hP hCu8
            simp only [Act.put, List.setIfInBounds_toArray, List.set_cons_succ, List.set_cons_zero, List.drop_succ_cons, List.drop_zero]
            refine wpList_store_row rfl 53 (.tmp 8) (.tmp 51) rfl (w.heap.size + 1 + 1) (udpc (w2 f 0) (w2 f 2) true) rfl rfl 53 udpz HX8.out.b2 (by kernel_rfl) rfl (udp_one ..) ?_
            simp only [Act.put]
            go_wp2_with fail
            refine bodyPost_ret (v := .tuple #[.agg (udpc (w2 f 0) (w2 f 2) true), .slice P (n - 8) cp, .int .i64 0]) (results_row2 Try.results18 _ _ (w.heap.size + 1 + 1) 53 (udpc (w2 f 0) (w2 f 2) true) (0, 0) _ rfl (setRow_heap _ (w.heap.size + 1 + 1) _ (udpc (w2 f 0) (w2 f 2) true) _ _ HX8.out.b2) Try.underlying53 rfl (by kernel_rfl)) rfl ?_
            refine .inr ⟨by first | rfl | exact hRe, ?_⟩
            unfold ReadUO
            rw [show decide (w2 f 6 = 0) = true from HN6.out]
            exact ⟨P, cp, rfl, (HP8.out.le HX5b.out.below.size).other HX8.out.b2 (by decide) (fun k hk => setRow_other _ (w.heap.size + 1 + 1) k _ hk), below_setRow HX8.out.below (by omega) _⟩
        · go_upto_if 44 with fail
          have hRe : R = 6 := HRE.out.trans (udpE_2 N0.out N1.out N2.out)
          go_wp2_with (first
            | (refine wpList_store_row rfl 53 (.tmp 8) (.tmp 45) rfl (w.heap.size + 1 + 1) udpz rfl rfl 53 udpz HX4.out.b2 (by kernel_rfl) rfl udpz_one ?_))
          refine bodyPost_ret (v := .tuple #[.agg udpz, .slice none 0 0, .int .i64 6]) (results_row2 Try.results18 _ _ (w.heap.size + 1 + 1) 53 udpz (0, 0) _ rfl (setRow_heap _ (w.heap.size + 1 + 1) _ udpz _ _ HX4.out.b2) Try.underlying53 rfl (by kernel_rfl)) rfl ?_
          have hRne : ¬ R = 0 := by omega
          exact .inl ⟨by first | exact hRne | omega | decide, by first | rfl | (rw [hRe] <;> rfl), below_setRow HX4.out.below (by omega) _⟩
      · have c2' : (w2 f 6 == 0) = false := by simpa using c2
        have N2 := Lib.hid c2
        clear c2
        have HN6 : Hid (decide (w2 f 6 = 0) = false) := decide_eq_false N2.out
        go_upto_region 7 with (first
          | (go_at_call 37; refine (H6.out _ HB4.out).mono ?_; rintro e u4b ⟨rfl, hb4⟩; have HX4 := Lib.hid (HX3.out.step (HB4.out.trans (hb4.mono HB4.out.size))); have HP4 : Hid (u4b.cell? ⟨p, 0, none⟩ = some (.slice (some ⟨b, off, none⟩) n c)) := ((HB4.out.trans (hb4.mono HB4.out.size)).cell (p := ⟨p, 0, none⟩) hp3).trans HP3.out; clear hb4))
        clear H6 HX3 HP3 HB4 c2'
        go_upto_if 44 with (first
          | (refine wpList_load_roww rfl 22 (.tmp 5) rfl w.heap.size rfl 22 (arr16 s) (0, 0) _ HX4.out.b0 Try.underlying22 rfl (by kernel_rfl) ?_)
          | (refine wpList_load_roww rfl 22 (.tmp 6) rfl (w.heap.size + 1) rfl 22 (arr16 d) (0, 0) _ HX4.out.b1 Try.underlying22 rfl (by kernel_rfl) ?_)
          | (go_at_call 22; refine (HSO.out _ ((HR.out.keep HX4.out.below).more HX4.out.below.size)).mono ?_; rintro e u6 ⟨rfl, hb6⟩; have HX6 := Lib.hid (HX4.out.step hb6); have HP6 : Hid (u6.cell? ⟨p, 0, none⟩ = some (.slice (some ⟨b, off, none⟩) n c)) := (hb6.cell (p := ⟨p, 0, none⟩) (World.block_lt_of_cell? _ _ HP4.out)).trans HP4.out; clear hb6))
        clear HSO HX4 HP4
        by_cases c3 : r = 0
        · have c3' : (r != 0) = false := by simp [c3]
          have hRe : R = 0 := HRE.out.trans (udpE_5 N0.out N1.out N2.out (HRR.out.symm.trans c3))
          subst c3
          clear HRR
          obtain ⟨D8, hsD8, hrD8⟩ := slice_any (some ⟨b, off, none⟩) n c 8 (by omega) hcap hc'
          have hsD8' : ∀ W, (Instr.sliceAt 26 (.slice (some ⟨b, off, none⟩) n c) (some (.int .i64 8)) none none).run Try.prog W = .ok (.slice D8 (n - 8) (c - 8)) W := hsD8
          have HD8 := Lib.hid hrD8
          clear hrD8 hsD8
          obtain ⟨i0, hi0, hz0, hz1, hz2⟩ := info_parts Try.info5
          have HI0 := Lib.hid hi0
          have HI1 := Lib.hid hz0
          have HI2 := Lib.hid hz1
          have HI3 := Lib.hid hz2
          clear hi0 hz0 hz1 hz2
          go_upto_region 9 with fail
          have HX5b := HX6
          have HP5 := HP6
          clear HX6 HP6
          generalize u6 = u5 at *
          have hb5 : b < u5.heap.size := Nat.lt_of_lt_of_le hbb HX5b.out.below.size
          have hp5 : p < u5.heap.size := World.block_lt_of_cell? _ _ HP5.out
          have HX5 : Hid (∀ k, k < n → u5.cell? ⟨b, off + k, none⟩ = some (.int .u8 (f k))) := fun k hk => (HX5b.out.below.cell (p := ⟨b, off + k, none⟩) hbb).trans (HC.out k hk)
          refine wp_region_grow (C := fun W => Below u5.heap.size u5 W) 10 56 [val (.func (.func 37) #[] #[.pointer (some ⟨p, 0, none⟩)]), val (.int .u16 (w2 f 0)), val (.func (.func 37) #[] #[.pointer (some ⟨p, 0, none⟩)]), val (.int .u16 (w2 f 2)), val (.bool false), val (.agg (udpc (w2 f 0) (w2 f 2) false)), mkF u5, val (.slice (some ⟨b, off, none⟩) n c), val (.slice D8 (n - 8) (c - 8)), ownF u5 (n - 8) (fun k => f (8 + k))] (by kernel_rfl) rfl (by kernel_rfl) rfl ⟨stb_val _, stb_val _, stb_val _, stb_val _, stb_val _, stb_val _, stb_mk _, stb_val _, stb_val _, stb_own _ _ _, trivial⟩ (Below.refl _ _).drew ?_ ?_
          · refine each_cons ?_ ?_
            · intro a W hW hd
              have h11 : a.tmps[11]?.getD undef = .func (.func 37) #[] #[.pointer (some ⟨p, 0, none⟩)] := slot_eq (hd 11 (by decide))
              exact grows_value _ hW (by simp [execOp, Act.eval, h11]) rfl
            refine each_cons ?_ ?_
            · intro a W hW hd
              have h46 : a.tmps[46]?.getD undef = .func (.func 37) #[] #[.pointer (some ⟨p, 0, none⟩)] := slot_eq (hd 46 (by decide))
              refine grows_call (fn := 37) (args := #[.int .i64 0, .pointer (some ⟨p, 0, none⟩)]) ?_ ?_
              · clear hd
                go_simp
              · refine (word_any p b off n c 0 f HF.out (by omega) (by omega) W ((hW.cell (p := ⟨p, 0, none⟩) hp5).trans HP5.out) (fun k hk => (hW.cell (p := ⟨b, off + k, none⟩) hb5).trans (HX5.out k hk))).mono ?_
                rintro e w' ⟨he, hb⟩
                exact ⟨_, he, rfl, hb, hW.trans (hb.mono hW.size)⟩
            refine each_cons ?_ ?_
            · intro a W hW hd
              have h11 : a.tmps[11]?.getD undef = .func (.func 37) #[] #[.pointer (some ⟨p, 0, none⟩)] := slot_eq (hd 11 (by decide))
              exact grows_value _ hW (by simp [execOp, Act.eval, h11]) rfl
            refine each_cons ?_ ?_
            · intro a W hW hd
              have h48 : a.tmps[48]?.getD undef = .func (.func 37) #[] #[.pointer (some ⟨p, 0, none⟩)] := slot_eq (hd 48 (by decide))
              refine grows_call (fn := 37) (args := #[.int .i64 2, .pointer (some ⟨p, 0, none⟩)]) ?_ ?_
              · clear hd
                go_simp
              · refine (word_any p b off n c 2 f HF.out (by omega) (by omega) W ((hW.cell (p := ⟨p, 0, none⟩) hp5).trans HP5.out) (fun k hk => (hW.cell (p := ⟨b, off + k, none⟩) hb5).trans (HX5.out k hk))).mono ?_
                rintro e w' ⟨he, hb⟩
                exact ⟨_, he, rfl, hb, hW.trans (hb.mono hW.size)⟩
            refine each_cons ?_ ?_
            · intro a W hW hd
              have h12 : a.tmps[12]?.getD undef = .bool false := slot_eq (hd 12 (by decide))
              exact grows_value _ hW (by simp [execOp, Act.eval, h12]) rfl
            refine each_cons ?_ ?_
            · intro a W hW hd
              have h47 : a.tmps[47]?.getD undef = .int .u16 (w2 f 0) := slot_eq (hd 47 (by decide))
              have h49 : a.tmps[49]?.getD undef = .int .u16 (w2 f 2) := slot_eq (hd 49 (by decide))
              have h50 : a.tmps[50]?.getD undef = .bool false := slot_eq (hd 50 (by decide))
              refine grows_value _ hW (?_ : _ = _) rfl
              clear hd
              go_simp
              rfl
            refine each_cons ?_ ?_
            · intro a W hW hd
              refine grows_new (.slice (some ⟨W.heap.size, 0, none⟩) 0 0) (w' := W.alloc (.cells #[] 5)) (?_ : _ = _) ⟨_, rfl, Own.fresh W _ _ rfl hW.size _ _⟩ (below_alloc _ _) (hW.alloc hW.size _)
              clear hd
              go_simp
            refine each_cons ?_ ?_
            · intro a W hW hd
              have h3 : a.tmps[3]?.getD undef = .slice (some ⟨b, off, none⟩) n c := slot_eq (hd 3 (by decide))
              exact grows_value _ hW (by simp [execOp, Act.eval, h3]) rfl
            refine each_cons ?_ ?_
            · intro a W hW hd
              have h53 : a.tmps[53]?.getD undef = .slice (some ⟨b, off, none⟩) n c := slot_eq (hd 53 (by decide))
              refine grows_value _ hW (?_ : _ = _) rfl
              clear hd
              go_simp
            refine each_cons ?_ ?_
            · intro a W hW hd
              have h54 : a.tmps[54]?.getD undef = .slice D8 (n - 8) (c - 8) := slot_eq (hd 54 (by decide))
              obtain ⟨z, h52, ho⟩ := hd 52 (by decide)
              have h52' : a.tmps[52]?.getD undef = .slice (some ⟨z, 0, none⟩) 0 0 := slot_eq h52
              obtain ⟨A2, c2, w', hrun, hown, hb⟩ := run_append_fresh (P := Try.prog) u5.heap.size 26 26 5 i0 Try.underlying26 HI0.out HI1.out HI2.out HI3.out ⟨z, 0, none⟩ ho (c' := c - 8) (HD8.out W W.heap.size f (.inr ⟨b, off, rfl, Nat.lt_of_lt_of_le hb5 hW.size, fun k hk => (hW.cell (p := ⟨b, off + k, none⟩) hb5).trans (HX5.out k hk)⟩)) (by omega) hW.size
              refine grows_new (.slice A2 (n - 8) c2) (w' := w') ?_ ⟨A2, c2, rfl, hown⟩ hb (hW.trans (hb.mono hW.size))
              clear hd
              simp only [execOp, resolve, invoke, builtin, Sem.run_bind, Sem.run_pure, Result.andThen_ok, List.map_toArray, List.map_cons, List.map_nil, Act.eval, Array.getD_eq_getD_getElem?, h52', h54, hrun]
            exact each_nil
          · refine behind_val rfl ?_
            refine behind_val rfl ?_
            refine behind_val rfl ?_
            refine behind_val rfl ?_
            refine behind_val rfl ?_
            refine behind_val rfl ?_
            refine behind_cons fun v52 => ?_
            refine behind_val rfl ?_
            refine behind_val rfl ?_
            refine behind_cons fun v55 => ?_
            refine behind_nil fun u8 hCu8 hFu8 => ?_
            obtain ⟨⟨_, _⟩, ⟨P, cp, rfl, hP⟩⟩ := hFu8
            have HP8 := Lib.hid hP
            have HX8 := Lib.hid (HX5b.out.step hCu8)
            clear hP hCu8
            simp only [Act.put, List.setIfInBounds_toArray, List.set_cons_succ, List.set_cons_zero, List.drop_succ_cons, List.drop_zero]
            refine wpList_store_row rfl 53 (.tmp 8) (.tmp 51) rfl (w.heap.size + 1 + 1) (udpc (w2 f 0) (w2 f 2) false) rfl rfl 53 udpz HX8.out.b2 (by kernel_rfl) rfl (udp_one ..) ?_
            simp only [Act.put]
            go_wp2_with fail
            refine bodyPost_ret (v := .tuple #[.agg (udpc (w2 f 0) (w2 f 2) false), .slice P (n - 8) cp, .int .i64 0]) (results_row2 Try.results18 _ _ (w.heap.size + 1 + 1) 53 (udpc (w2 f 0) (w2 f 2) false) (0, 0) _ rfl (setRow_heap _ (w.heap.size + 1 + 1) _ (udpc (w2 f 0) (w2 f 2) false) _ _ HX8.out.b2) Try.underlying53 rfl (by kernel_rfl)) rfl ?_
            refine .inr ⟨by first | rfl | exact hRe, ?_⟩
            unfold ReadUO
            rw [show decide (w2 f 6 = 0) = false from HN6.out]
            exact ⟨P, cp, rfl, (HP8.out.le HX5b.out.below.size).other HX8.out.b2 (by decide) (fun k hk => setRow_other _ (w.heap.size + 1 + 1) k _ hk), below_setRow HX8.out.below (by omega) _⟩
        · have c3' : (r != 0) = true := by simpa using c3
          have hRe : R = 6 := HRE.out.trans (udpE_4 N0.out N1.out N2.out (by rw [← HRR.out]; exact c3))
          go_wp2_with (first
            | (refine wpList_store_row rfl 53 (.tmp 8) (.tmp 45) rfl (w.heap.size + 1 + 1) udpz rfl rfl 53 udpz HX6.out.b2 (by kernel_rfl) rfl udpz_one ?_))
          refine bodyPost_ret (v := .tuple #[.agg udpz, .slice none 0 0, .int .i64 6]) (results_row2 Try.results18 _ _ (w.heap.size + 1 + 1) 53 udpz (0, 0) _ rfl (setRow_heap _ (w.heap.size + 1 + 1) _ udpz _ _ HX6.out.b2) Try.underlying53 rfl (by kernel_rfl)) rfl ?_
          have hRne : ¬ R = 0 := by omega
          exact .inl ⟨by first | exact hRne | omega | decide, by first | rfl | (rw [hRe] <;> rfl), below_setRow HX6.out.below (by omega) _⟩
    · have c1' : (w2 f 4 != (n : Int)) = true := by simpa using c1
      have HX4 := Lib.hid (HX3.out.step HB4.out)
      have hRe : R = 5 := HRE.out.trans (udpE_1 N0.out c1)
      go_wp2_with (first
        | (refine wpList_store_row rfl 53 (.tmp 8) (.tmp 25) rfl (w.heap.size + 1 + 1) udpz rfl rfl 53 udpz HX4.out.b2 (by kernel_rfl) rfl udpz_one ?_))
      refine bodyPost_ret (v := .tuple #[.agg udpz, .slice none 0 0, .int .i64 5]) (results_row2 Try.results18 _ _ (w.heap.size + 1 + 1) 53 udpz (0, 0) _ rfl (setRow_heap _ (w.heap.size + 1 + 1) _ udpz _ _ HX4.out.b2) Try.underlying53 rfl (by kernel_rfl)) rfl ?_
      have hRne : ¬ R = 0 := by omega
      exact .inl ⟨by first | exact hRne | omega | decide, by first | rfl | (rw [hRe] <;> rfl), below_setRow HX4.out.below (by omega) _⟩
end Go.Proofs.Ythjgecdnlpdcdaa
