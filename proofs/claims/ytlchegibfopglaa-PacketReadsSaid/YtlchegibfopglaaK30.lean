import Derived.Test.YtlchegibfopglaaK29
/- The program's seg.ReadTCP. -/
namespace Go.Proofs.Ytlchegibfopglaa
set_option maxRecDepth 100000
open Go.RowKit
set_option maxRecDepth 100000 in
set_option maxHeartbeats 4000000 in
theorem readT_any (v6 : Bool) (s d : Nat → Int) (hs : Byt s) (hd : Byt d) (A : Option Addr) (n c : Nat) (f : Nat → Int) (hf : Byt f) (hn : n ≤ 140737488355328) (hcap : n ≤ c) (hc' : c ≤ 9223372036854775807) (w : World) (hr : Rd w w.heap.size A n f) :
    Calls Try.prog 40 #[.bool v6, .agg (arr16 s), .agg (arr16 d), .slice A n c] w (ReadT 5 (tcpE (psq v6 s d 6 n) f n) f n w) := by
  have HR := Lib.hid hr
  have HF := Lib.hid hf
  have HSO := Lib.hid fun W hr => sumOf_any v6 s d hs hd 6 (by omega) (by omega) A n c f hf (by omega) hcap W hr
  clear hr hf hs hd
  generalize psq v6 s d 6 n = S at *
  obtain ⟨R, hR⟩ : ∃ R, R = tcpE S f n := ⟨_, rfl⟩
  rw [← hR]
  have HRE := Lib.hid hR
  clear hR
  obtain ⟨r, hr⟩ : ∃ r, r = rgt S f n := ⟨_, rfl⟩
  rw [← hr] at HSO
  have HRR := Lib.hid hr
  clear hr
  have HX1 := Lib.hid (Box3.start w s d tcpz 61)
  go_enter Try.func40, Try.ntmps40
  go_upto_if 17 with fail
  change Code.wp _ _ _ _ (((w.alloc (.cells (arr16 s) 23)).alloc (.cells (arr16 d) 23)).alloc (.cells tcpz 61))
  generalize ((w.alloc (.cells (arr16 s) 23)).alloc (.cells (arr16 d) 23)).alloc (.cells tcpz 61) = w1 at *
  by_cases c0 : n < 20
  · have c0' : (n : Int) < 20 := by omega
    have hRe : R = 4 := HRE.out.trans (tcpE_0 c0)
    go_wp2_with (first
      | (refine wpList_store_row rfl 61 (.tmp 8) (.tmp 18) rfl (w.heap.size + 1 + 1) tcpz rfl rfl 61 tcpz HX1.out.b2 (by kernel_rfl) rfl tcpz_one ?_))
    refine bodyPost_ret (v := .tuple #[.agg tcpz, .slice none 0 0, .int .i64 4]) (results_row2 Try.results40 _ _ (w.heap.size + 1 + 1) 61 tcpz (0, 0) _ rfl (setRow_heap _ (w.heap.size + 1 + 1) _ tcpz _ _ HX1.out.b2) Try.underlying61 rfl (by kernel_rfl)) rfl ?_
    have hRne : ¬ R = 0 := by omega
    exact .inl ⟨by first | exact hRne | omega | decide, by first | rfl | (rw [hRe] <;> rfl), below_setRow HX1.out.below (by omega) _⟩
  · have N0 : Hid (¬ n < 20) := c0
    have c0' : (20 : Int) ≤ (n : Int) := by omega
    rcases HR.out with h0 | ⟨b, off, rfl, hbb, hcell⟩
    · omega
    have HC := Lib.hid hcell
    clear hcell
    have p12 := HF.out 12
    obtain ⟨H, hH⟩ : ∃ H, H = 4 * (f 12 / 16).toNat := ⟨_, rfl⟩
    have hH' : f 12 / 16 * 4 = (H : Int) := by omega
    have hH64 : H ≤ 60 := by omega
    have hw1 : IntKind.i64.wrap (f 12 / 16) = f 12 / 16 := by rw [IntKind.wrap_i64]; omega
    have hw2 : IntKind.i64.wrap (H : Int) = (H : Int) := by rw [IntKind.wrap_i64]; omega
    have hlt5 : f 12 / 16 < 5 ↔ H < 20 := by omega
    have HHH := Lib.hid hH
    have H5 := Lib.hid hlt5
    have x12 := (HX1.out.below.cell (p := ⟨b, off + 12, none⟩) hbb).trans (HC.out 12 (by omega))
    have i12 : (12 : Int) < (n : Int) := by omega
    clear hH p12 hlt5
    go_upto_if 26 with fail
    clear x12 i12 hH' hw1 hw2
    by_cases c1 : H < 20
    · have c1' : (H : Int) < 20 := by omega
      have hRe : R = 5 := HRE.out.trans (tcpE_1 N0.out (H5.out.2 c1))
      go_wp2_with (first
        | (refine wpList_store_row rfl 61 (.tmp 8) (.tmp 27) rfl (w.heap.size + 1 + 1) tcpz rfl rfl 61 tcpz HX1.out.b2 (by kernel_rfl) rfl tcpz_one ?_))
      refine bodyPost_ret (v := .tuple #[.agg tcpz, .slice none 0 0, .int .i64 5]) (results_row2 Try.results40 _ _ (w.heap.size + 1 + 1) 61 tcpz (0, 0) _ rfl (setRow_heap _ (w.heap.size + 1 + 1) _ tcpz _ _ HX1.out.b2) Try.underlying61 rfl (by kernel_rfl)) rfl ?_
      have hRne : ¬ R = 0 := by omega
      exact .inl ⟨by first | exact hRne | omega | decide, by first | rfl | (rw [hRe] <;> rfl), below_setRow HX1.out.below (by omega) _⟩
    · have c1' : (20 : Int) ≤ (H : Int) := by omega
      have N1 : Hid (5 ≤ f 12 / 16) := Lib.hid (Int.not_lt.1 fun h => c1 (H5.out.1 h))
      clear H5
      go_upto_if 31 with fail
      by_cases c2 : n < H
      · have c2' : (n : Int) < (H : Int) := by omega
        have hRe : R = 4 := HRE.out.trans (tcpE_2 N0.out N1.out (by rw [← HHH.out]; exact c2))
        go_wp2_with (first
          | (refine wpList_store_row rfl 61 (.tmp 8) (.tmp 32) rfl (w.heap.size + 1 + 1) tcpz rfl rfl 61 tcpz HX1.out.b2 (by kernel_rfl) rfl tcpz_one ?_))
        refine bodyPost_ret (v := .tuple #[.agg tcpz, .slice none 0 0, .int .i64 4]) (results_row2 Try.results40 _ _ (w.heap.size + 1 + 1) 61 tcpz (0, 0) _ rfl (setRow_heap _ (w.heap.size + 1 + 1) _ tcpz _ _ HX1.out.b2) Try.underlying61 rfl (by kernel_rfl)) rfl ?_
        have hRne : ¬ R = 0 := by omega
        exact .inl ⟨by first | exact hRne | omega | decide, by first | rfl | (rw [hRe] <;> rfl), below_setRow HX1.out.below (by omega) _⟩
      · have N2 : Hid (¬ n < 4 * (f 12 / 16).toNat) := by rw [← HHH.out]; exact c2
        have c2' : (H : Int) ≤ (n : Int) := by omega
        have hHn : H ≤ n := by omega
        go_upto_if 38 with (first
          | (refine wpList_load_roww rfl 23 (.tmp 5) rfl w.heap.size rfl 23 (arr16 s) (0, 0) _ HX1.out.b0 Try.underlying23 rfl (by kernel_rfl) ?_)
          | (refine wpList_load_roww rfl 23 (.tmp 6) rfl (w.heap.size + 1) rfl 23 (arr16 d) (0, 0) _ HX1.out.b1 Try.underlying23 rfl (by kernel_rfl) ?_)
          | (go_at_call 58; refine (HSO.out _ ((HR.out.keep HX1.out.below).more HX1.out.below.size)).mono ?_; rintro e u2 ⟨rfl, hb2⟩; have HX2 := Lib.hid (HX1.out.step hb2); clear hb2))
        clear HSO HX1
        by_cases c3 : r = 0
        · have c3' : (r != 0) = false := by simp [c3]
          have N3 : rgt S f n = 0 := HRR.out.symm.trans c3
          have hRe : R = 0 := HRE.out.trans (tcpE_4 N0.out N1.out N2.out N3)
          subst c3
          clear N3 HRR
          obtain ⟨D1, hsD1, hrD1⟩ := slice_both b off n c 20 H (by omega) (by omega) hcap hc'
          have hsD1' : ∀ W, (Instr.sliceAt 22 (.slice (some ⟨b, off, none⟩) n c) (some (.int .i64 20)) (some (.int .i64 (H : Int))) none).run Try.prog W = .ok (.slice D1 (H - 20) (c - 20)) W := hsD1
          have HD1 := Lib.hid hrD1
          obtain ⟨D2, hsD2, hrD2⟩ := slice_any (some ⟨b, off, none⟩) n c H (by omega) hcap hc'
          have HD2 := Lib.hid hrD2
          clear hrD1 hrD2 hsD1
          obtain ⟨i0, hi0, hz0, hz1, hz2⟩ := info_parts Try.info5
          have HI0 := Lib.hid hi0
          have HI1 := Lib.hid hz0
          have HI2 := Lib.hid hz1
          have HI3 := Lib.hid hz2
          clear hi0 hz0 hz1 hz2
          have HRD := Lib.hid fun W => reader_any (.slice (some ⟨b, off, none⟩) n c) _ n c rfl W
          unfold wdV at HRD
          have hmf : ∀ (fn : Fn) (first cap : Array Value) (w : World), (Instr.makeFunc fn first cap).run Try.prog w = .ok (.func fn first cap) w := fun _ _ _ _ => rfl
          have hsf := fun (a : Addr) (c : Array Value) (w : World) => run_store Try.prog w a (.func (.func 76) #[] c) .plain rfl
          go_upto_region 12 with (first
            | (go_at_call 59; refine (HRD.out _).mono ?_; rintro e w3 ⟨rfl, hw3⟩; have HW3 := Lib.hid hw3; clear hw3))
          clear hmf hsf
          obtain ⟨p, hp⟩ : ∃ p, p = u2.heap.size := ⟨_, rfl⟩
          have hq0 : w3.heap.size = p + 1 := by rw [HW3.out, hp]; simp
          have h3p : w3.heap[p]? = some (.cells #[.slice (some ⟨b, off, none⟩) n c] 22 (0, 0)) := by rw [HW3.out, hp]; exact heap_alloc_new _ _
          have HX3 : Hid (Box3 w w3 s d tcpz 61) := by rw [HW3.out]; exact HX2.out.step (below_alloc _ _)
          clear HW3 HX2 HRD
          rw [← hp]
          clear hp
          rw [hq0]
          change Code.wp _ _ _ _ (w3.alloc (.cells #[wdV p] 112))
          have HX4 : Hid (Box3 w (w3.alloc (.cells #[wdV p] 112)) s d tcpz 61) := HX3.out.step (below_alloc _ _)
          have HP5 : Hid ((w3.alloc (.cells #[wdV p] 112)).cell? ⟨p, 0, none⟩ = some (.slice (some ⟨b, off, none⟩) n c)) := blk_cell (blk_old h3p _) 0
          have HQ5 : Hid ((w3.alloc (.cells #[wdV p] 112)).cell? ⟨p + 1, 0, none⟩ = some (wdV p)) := by rw [← hq0]; exact blk_cell (heap_alloc_new w3 _) 0
          have hq5 : p + 1 < (w3.alloc (.cells #[wdV p] 112)).heap.size := by simp [hq0]
          have hp5 : p < (w3.alloc (.cells #[wdV p] 112)).heap.size := by omega
          clear HX3 h3p hq0
          generalize w3.alloc (.cells #[wdV p] 112) = w5 at *
          obtain ⟨q, hq⟩ : ∃ q, q = p + 1 := ⟨_, rfl⟩
          rw [← hq] at HQ5 hq5 ⊢
          clear hq
          have hb5 : b < w5.heap.size := Nat.lt_of_lt_of_le hbb HX4.out.below.size
          have HX5 : Hid (∀ k, k < n → w5.cell? ⟨b, off + k, none⟩ = some (.int .u8 (f k))) := fun k hk => (HX4.out.below.cell (p := ⟨b, off + k, none⟩) hbb).trans (HC.out k hk)
          unfold wdV at HQ5
          have p12 := HF.out 12
          have g3 : bits .and .u8 (f 12) 15 = f 12 % 16 := and_u8 (f 12) 15 16 4 rfl rfl (by omega) (by omega) (by omega)
          clear p12
          have i12 : (12 : Int) < (n : Int) := by omega
          have i13 : (13 : Int) < (n : Int) := by omega
          refine wp_region_grow (C := fun W => Below w5.heap.size w5 W) 26 74 [val (.func (.func 76) #[] #[.pointer (some ⟨p, 0, none⟩)]), val (.int .u16 (w2 f 0)), val (.func (.func 76) #[] #[.pointer (some ⟨p, 0, none⟩)]), val (.int .u16 (w2 f 2)), val (.func (.func 60) #[] #[.pointer (some ⟨q, 0, none⟩)]), val (.int .u32 (w4 f 4)), val (.func (.func 60) #[] #[.pointer (some ⟨q, 0, none⟩)]), val (.int .u32 (w4 f 8)), val (.slice (some ⟨b, off, none⟩) n c), val (.pointer (some ⟨b, off + 12, none⟩)), val (.int .u8 (f 12)), val (.int .u8 (f 12 % 16)), val (.slice (some ⟨b, off, none⟩) n c), val (.pointer (some ⟨b, off + 13, none⟩)), val (.int .u8 (f 13)), val (.func (.func 76) #[] #[.pointer (some ⟨p, 0, none⟩)]), val (.int .u16 (w2 f 14)), val (.func (.func 76) #[] #[.pointer (some ⟨p, 0, none⟩)]), val (.int .u16 (w2 f 18)), mkF w5, val (.slice (some ⟨b, off, none⟩) n c), val (.int .i64 (H : Int)), val (.slice D1 (H - 20) (c - 20)), ownF w5 (H - 20) (fun k => f (20 + k)), bldT w5 (w2 f 0) (w2 f 2) (w4 f 4) (w4 f 8) (f 12 % 16) (f 13) (w2 f 14) (w2 f 18) (H - 20) (fun k => f (20 + k)), newT w5] (by kernel_rfl) rfl (by kernel_rfl) rfl ⟨stb_val _, stb_val _, stb_val _, stb_val _, stb_val _, stb_val _, stb_val _, stb_val _, stb_val _, stb_val _, stb_val _, stb_val _, stb_val _, stb_val _, stb_val _, stb_val _, stb_val _, stb_val _, stb_val _, stb_mk _, stb_val _, stb_val _, stb_val _, stb_own _ _ _, stb_bldT _ _ _ _ _ _ _ _ _ _ _, stb_newT _, trivial⟩ (Below.refl _ _).drew ?_ ?_
          · refine each_cons ?_ ?_
            · intro a W hW hd
              have h12 : a.tmps[12]?.getD undef = .pointer (some ⟨q, 0, none⟩) := slot_eq (hd 12 (by decide))
              have hx := (hW.cell (p := ⟨q, 0, none⟩) hq5).trans HQ5.out
              refine grows_value _ hW (?_ : _ = _) rfl
              clear hd
              go_simp
            refine each_cons ?_ ?_
            · intro a W hW hd
              have h43 : a.tmps[43]?.getD undef = .func (.func 76) #[] #[.pointer (some ⟨p, 0, none⟩)] := slot_eq (hd 43 (by decide))
              refine grows_call (fn := 76) (args := #[.int .i64 0, .pointer (some ⟨p, 0, none⟩)]) ?_ ?_
              · clear hd
                go_simp
              · refine (word_any p b off n c 0 f HF.out (by omega) (by omega) W ((hW.cell (p := ⟨p, 0, none⟩) hp5).trans HP5.out) (fun k hk => (hW.cell (p := ⟨b, off + k, none⟩) hb5).trans (HX5.out k hk))).mono ?_
                rintro e w' ⟨he, hb⟩
                exact ⟨_, he, rfl, hb, hW.trans (hb.mono hW.size)⟩
            refine each_cons ?_ ?_
            · intro a W hW hd
              have h12 : a.tmps[12]?.getD undef = .pointer (some ⟨q, 0, none⟩) := slot_eq (hd 12 (by decide))
              have hx := (hW.cell (p := ⟨q, 0, none⟩) hq5).trans HQ5.out
              refine grows_value _ hW (?_ : _ = _) rfl
              clear hd
              go_simp
            refine each_cons ?_ ?_
            · intro a W hW hd
              have h45 : a.tmps[45]?.getD undef = .func (.func 76) #[] #[.pointer (some ⟨p, 0, none⟩)] := slot_eq (hd 45 (by decide))
              refine grows_call (fn := 76) (args := #[.int .i64 2, .pointer (some ⟨p, 0, none⟩)]) ?_ ?_
              · clear hd
                go_simp
              · refine (word_any p b off n c 2 f HF.out (by omega) (by omega) W ((hW.cell (p := ⟨p, 0, none⟩) hp5).trans HP5.out) (fun k hk => (hW.cell (p := ⟨b, off + k, none⟩) hb5).trans (HX5.out k hk))).mono ?_
                rintro e w' ⟨he, hb⟩
                exact ⟨_, he, rfl, hb, hW.trans (hb.mono hW.size)⟩
            refine each_cons ?_ ?_
            · intro a W hW hd
              have h13 : a.tmps[13]?.getD undef = .func (.func 60) #[] #[.pointer (some ⟨q, 0, none⟩)] := slot_eq (hd 13 (by decide))
              exact grows_value _ hW (by simp [execOp, Act.eval, h13]) rfl
            refine each_cons ?_ ?_
            · intro a W hW hd
              have h47 : a.tmps[47]?.getD undef = .func (.func 60) #[] #[.pointer (some ⟨q, 0, none⟩)] := slot_eq (hd 47 (by decide))
              refine grows_call (fn := 60) (args := #[.int .i64 4, .pointer (some ⟨q, 0, none⟩)]) ?_ ?_
              · clear hd
                go_simp
              · refine (long_any q p b off n c 4 f HF.out (by omega) (by omega) W ((hW.cell (p := ⟨q, 0, none⟩) hq5).trans HQ5.out) ((hW.cell (p := ⟨p, 0, none⟩) hp5).trans HP5.out) (fun k hk => (hW.cell (p := ⟨b, off + k, none⟩) hb5).trans (HX5.out k hk))).mono ?_
                rintro e w' ⟨he, hb⟩
                exact ⟨_, he, rfl, hb, hW.trans (hb.mono hW.size)⟩
            refine each_cons ?_ ?_
            · intro a W hW hd
              have h13 : a.tmps[13]?.getD undef = .func (.func 60) #[] #[.pointer (some ⟨q, 0, none⟩)] := slot_eq (hd 13 (by decide))
              exact grows_value _ hW (by simp [execOp, Act.eval, h13]) rfl
            refine each_cons ?_ ?_
            · intro a W hW hd
              have h49 : a.tmps[49]?.getD undef = .func (.func 60) #[] #[.pointer (some ⟨q, 0, none⟩)] := slot_eq (hd 49 (by decide))
              refine grows_call (fn := 60) (args := #[.int .i64 8, .pointer (some ⟨q, 0, none⟩)]) ?_ ?_
              · clear hd
                go_simp
              · refine (long_any q p b off n c 8 f HF.out (by omega) (by omega) W ((hW.cell (p := ⟨q, 0, none⟩) hq5).trans HQ5.out) ((hW.cell (p := ⟨p, 0, none⟩) hp5).trans HP5.out) (fun k hk => (hW.cell (p := ⟨b, off + k, none⟩) hb5).trans (HX5.out k hk))).mono ?_
                rintro e w' ⟨he, hb⟩
                exact ⟨_, he, rfl, hb, hW.trans (hb.mono hW.size)⟩
            refine each_cons ?_ ?_
            · intro a W hW hd
              have h3 : a.tmps[3]?.getD undef = .slice (some ⟨b, off, none⟩) n c := slot_eq (hd 3 (by decide))
              exact grows_value _ hW (by simp [execOp, Act.eval, h3]) rfl
            refine each_cons ?_ ?_
            · intro a W hW hd
              have h51 : a.tmps[51]?.getD undef = .slice (some ⟨b, off, none⟩) n c := slot_eq (hd 51 (by decide))
              refine grows_value _ hW (?_ : _ = _) rfl
              clear hd
              go_simp
            refine each_cons ?_ ?_
            · intro a W hW hd
              have h52 : a.tmps[52]?.getD undef = .pointer (some ⟨b, off + 12, none⟩) := slot_eq (hd 52 (by decide))
              have hx := (hW.cell (p := ⟨b, off + 12, none⟩) hb5).trans (HX5.out 12 (by omega))
              refine grows_value _ hW (?_ : _ = _) rfl
              clear hd
              go_simp
            refine each_cons ?_ ?_
            · intro a W hW hd
              have h53 : a.tmps[53]?.getD undef = .int .u8 (f 12) := slot_eq (hd 53 (by decide))
              refine grows_value _ hW (?_ : _ = _) rfl
              clear hd
              go_simp
            refine each_cons ?_ ?_
            · intro a W hW hd
              have h3 : a.tmps[3]?.getD undef = .slice (some ⟨b, off, none⟩) n c := slot_eq (hd 3 (by decide))
              exact grows_value _ hW (by simp [execOp, Act.eval, h3]) rfl
            refine each_cons ?_ ?_
            · intro a W hW hd
              have h55 : a.tmps[55]?.getD undef = .slice (some ⟨b, off, none⟩) n c := slot_eq (hd 55 (by decide))
              refine grows_value _ hW (?_ : _ = _) rfl
              clear hd
              go_simp
            refine each_cons ?_ ?_
            · intro a W hW hd
              have h56 : a.tmps[56]?.getD undef = .pointer (some ⟨b, off + 13, none⟩) := slot_eq (hd 56 (by decide))
              have hx := (hW.cell (p := ⟨b, off + 13, none⟩) hb5).trans (HX5.out 13 (by omega))
              refine grows_value _ hW (?_ : _ = _) rfl
              clear hd
              go_simp
            refine each_cons ?_ ?_
            · intro a W hW hd
              have h12 : a.tmps[12]?.getD undef = .pointer (some ⟨q, 0, none⟩) := slot_eq (hd 12 (by decide))
              have hx := (hW.cell (p := ⟨q, 0, none⟩) hq5).trans HQ5.out
              refine grows_value _ hW (?_ : _ = _) rfl
              clear hd
              go_simp
            refine each_cons ?_ ?_
            · intro a W hW hd
              have h58 : a.tmps[58]?.getD undef = .func (.func 76) #[] #[.pointer (some ⟨p, 0, none⟩)] := slot_eq (hd 58 (by decide))
              refine grows_call (fn := 76) (args := #[.int .i64 14, .pointer (some ⟨p, 0, none⟩)]) ?_ ?_
              · clear hd
                go_simp
              · refine (word_any p b off n c 14 f HF.out (by omega) (by omega) W ((hW.cell (p := ⟨p, 0, none⟩) hp5).trans HP5.out) (fun k hk => (hW.cell (p := ⟨b, off + k, none⟩) hb5).trans (HX5.out k hk))).mono ?_
                rintro e w' ⟨he, hb⟩
                exact ⟨_, he, rfl, hb, hW.trans (hb.mono hW.size)⟩
            refine each_cons ?_ ?_
            · intro a W hW hd
              have h12 : a.tmps[12]?.getD undef = .pointer (some ⟨q, 0, none⟩) := slot_eq (hd 12 (by decide))
              have hx := (hW.cell (p := ⟨q, 0, none⟩) hq5).trans HQ5.out
              refine grows_value _ hW (?_ : _ = _) rfl
              clear hd
              go_simp
            refine each_cons ?_ ?_
            · intro a W hW hd
              have h60 : a.tmps[60]?.getD undef = .func (.func 76) #[] #[.pointer (some ⟨p, 0, none⟩)] := slot_eq (hd 60 (by decide))
              refine grows_call (fn := 76) (args := #[.int .i64 18, .pointer (some ⟨p, 0, none⟩)]) ?_ ?_
              · clear hd
                go_simp
              · refine (word_any p b off n c 18 f HF.out (by omega) (by omega) W ((hW.cell (p := ⟨p, 0, none⟩) hp5).trans HP5.out) (fun k hk => (hW.cell (p := ⟨b, off + k, none⟩) hb5).trans (HX5.out k hk))).mono ?_
                rintro e w' ⟨he, hb⟩
                exact ⟨_, he, rfl, hb, hW.trans (hb.mono hW.size)⟩
            refine each_cons ?_ ?_
            · intro a W hW hd
              refine grows_new (.slice (some ⟨W.heap.size, 0, none⟩) 0 0) (w' := W.alloc (.cells #[] 5)) (?_ : _ = _) ⟨_, rfl, Own.fresh W _ _ rfl hW.size _ _⟩ (below_alloc _ _) (hW.alloc hW.size _)
              clear hd
              go_simp
            refine each_cons ?_ ?_
            · intro a W hW hd
              have h3 : a.tmps[3]?.getD undef = .slice (some ⟨b, off, none⟩) n c := slot_eq (hd 3 (by decide))
              exact grows_value _ hW (by simp [execOp, Act.eval, h3]) rfl
            refine each_cons ?_ ?_
            · intro a W hW hd
              have h11 : a.tmps[11]?.getD undef = .int .i64 (H : Int) := slot_eq (hd 11 (by decide))
              exact grows_value _ hW (by simp [execOp, Act.eval, h11]) rfl
            refine each_cons ?_ ?_
            · intro a W hW hd
              have h63 : a.tmps[63]?.getD undef = .slice (some ⟨b, off, none⟩) n c := slot_eq (hd 63 (by decide))
              have h64 : a.tmps[64]?.getD undef = .int .i64 (H : Int) := slot_eq (hd 64 (by decide))
              refine grows_value _ hW (?_ : _ = _) rfl
              clear hd
              go_simp
            refine each_cons ?_ ?_
            · intro a W hW hd
              have h65 : a.tmps[65]?.getD undef = .slice D1 (H - 20) (c - 20) := slot_eq (hd 65 (by decide))
              obtain ⟨z, h62, ho⟩ := hd 62 (by decide)
              have h62' : a.tmps[62]?.getD undef = .slice (some ⟨z, 0, none⟩) 0 0 := slot_eq h62
              obtain ⟨A2, c2, w', hrun, hown, hb⟩ := run_append_fresh (P := Try.prog) w5.heap.size 22 22 5 i0 Try.underlying22 HI0.out HI1.out HI2.out HI3.out ⟨z, 0, none⟩ ho (c' := c - 20) (HD1.out W W.heap.size f (.inr ⟨b, off, rfl, Nat.lt_of_lt_of_le hb5 hW.size, fun k hk => (hW.cell (p := ⟨b, off + k, none⟩) hb5).trans (HX5.out k hk)⟩)) (by omega) hW.size
              refine grows_new (.slice A2 (H - 20) c2) (w' := w') ?_ ⟨A2, c2, rfl, hown⟩ hb (hW.trans (hb.mono hW.size))
              clear hd
              simp only [execOp, resolve, invoke, builtin, Sem.run_bind, Sem.run_pure, Result.andThen_ok, List.map_toArray, List.map_cons, List.map_nil, Act.eval, Array.getD_eq_getD_getElem?, h62', h65, hrun]
            refine each_cons ?_ ?_
            · intro a W hW hd
              have h44 : a.tmps[44]?.getD undef = .int .u16 (w2 f 0) := slot_eq (hd 44 (by decide))
              have h46 : a.tmps[46]?.getD undef = .int .u16 (w2 f 2) := slot_eq (hd 46 (by decide))
              have h48 : a.tmps[48]?.getD undef = .int .u32 (w4 f 4) := slot_eq (hd 48 (by decide))
              have h50 : a.tmps[50]?.getD undef = .int .u32 (w4 f 8) := slot_eq (hd 50 (by decide))
              have h54 : a.tmps[54]?.getD undef = .int .u8 (f 12 % 16) := slot_eq (hd 54 (by decide))
              have h57 : a.tmps[57]?.getD undef = .int .u8 (f 13) := slot_eq (hd 57 (by decide))
              have h59 : a.tmps[59]?.getD undef = .int .u16 (w2 f 14) := slot_eq (hd 59 (by decide))
              have h61 : a.tmps[61]?.getD undef = .int .u16 (w2 f 18) := slot_eq (hd 61 (by decide))
              obtain ⟨A2, c2, h66, ho⟩ := hd 66 (by decide)
              have h66' : a.tmps[66]?.getD undef = .slice A2 (H - 20) c2 := slot_eq h66
              refine grows_value (.agg (tcpc (w2 f 0) (w2 f 2) (w4 f 4) (w4 f 8) (f 12 % 16) (f 13) (w2 f 14) (w2 f 18) (.slice A2 (H - 20) c2))) hW (?_ : _ = _) ⟨A2, c2, rfl, ho⟩
              clear hd
              go_simp
              rfl
            refine each_cons ?_ ?_
            · intro a W hW hd
              refine grows_new (.pointer (some ⟨W.heap.size, 0, none⟩)) (w' := W.alloc (.cells tcpz 61)) (?_ : _ = _) ⟨_, rfl, heap_alloc_new W _, hW.size⟩ (below_alloc _ _) (hW.alloc hW.size _)
              clear hd
              go_simp
              rfl
            exact each_nil
          · refine behind_val rfl ?_
            refine behind_val rfl ?_
            refine behind_val rfl ?_
            refine behind_val rfl ?_
            refine behind_val rfl ?_
            refine behind_val rfl ?_
            refine behind_val rfl ?_
            refine behind_val rfl ?_
            refine behind_val rfl ?_
            refine behind_val rfl ?_
            refine behind_val rfl ?_
            refine behind_val rfl ?_
            refine behind_val rfl ?_
            refine behind_val rfl ?_
            refine behind_val rfl ?_
            refine behind_val rfl ?_
            refine behind_val rfl ?_
            refine behind_val rfl ?_
            refine behind_val rfl ?_
            refine behind_cons fun v62 => ?_
            refine behind_val rfl ?_
            refine behind_val rfl ?_
            refine behind_val rfl ?_
            refine behind_cons fun v66 => ?_
            refine behind_cons fun v67 => ?_
            refine behind_cons fun v14 => ?_
            refine behind_nil fun w8 hCw8 hFw8 => ?_
            obtain ⟨⟨⟨⟨_, _⟩, _⟩, ⟨O, co, rfl, hO⟩⟩, ⟨y, rfl, hy, hly⟩⟩ := hFw8
            simp only [Act.put, List.setIfInBounds_toArray, List.set_cons_succ, List.set_cons_zero, List.drop_succ_cons, List.drop_zero]
            have HY := Lib.hid hy
            have HO := Lib.hid hO
            refine wpList_store_row rfl 61 (.tmp 14) (.tmp 67) rfl y (tcpc (w2 f 0) (w2 f 2) (w4 f 4) (w4 f 8) (f 12 % 16) (f 13) (w2 f 14) (w2 f 18) (.slice O (H - 20) co)) rfl rfl 61 tcpz HY.out (by kernel_rfl) rfl (tcp_one ..) ?_
            refine wpList_nil ?_
            simp only [Act.put]
            have hb3 := HX4.out.size
            have hw5s : w.heap.size + 1 + 1 + 1 ≤ y := Nat.le_trans hb3 hly
            have HX12 : Hid (Box3 w (w8.setRow y (tcpc (w2 f 0) (w2 f 2) (w4 f 4) (w4 f 8) (f 12 % 16) (f 13) (w2 f 14) (w2 f 18) (.slice O (H - 20) co))) s d tcpz 61) := (HX4.out.step hCw8).keep (below_setRow (Below.refl _ _) hw5s _)
            have HO12 : Hid (Own (w8.setRow y (tcpc (w2 f 0) (w2 f 2) (w4 f 4) (w4 f 8) (f 12 % 16) (f 13) (w2 f 14) (w2 f 18) (.slice O (H - 20) co))) w.heap.size 5 O (H - 20) co (fun k => f (20 + k))) := (HO.out.le HX4.out.below.size).other HY.out (by decide) (fun k hk => setRow_other _ y k _ hk)
            have HY12 : Hid ((w8.setRow y (tcpc (w2 f 0) (w2 f 2) (w4 f 4) (w4 f 8) (f 12 % 16) (f 13) (w2 f 14) (w2 f 18) (.slice O (H - 20) co))).heap[y]? = some (.cells (tcpc (w2 f 0) (w2 f 2) (w4 f 4) (w4 f 8) (f 12 % 16) (f 13) (w2 f 14) (w2 f 18) (.slice O (H - 20) co)) 61 (0, 0))) := setRow_heap _ y _ _ _ _ HY.out
            clear HY HO hy hO hCw8 hly HX4 HQ5 HP5 HX5 hw5s hb3
            generalize w8.setRow y (tcpc (w2 f 0) (w2 f 2) (w4 f 4) (w4 f 8) (f 12 % 16) (f 13) (w2 f 14) (w2 f 18) (.slice O (H - 20) co)) = w12 at *
            have hb12 : b < w12.heap.size := Nat.lt_of_lt_of_le hbb HX12.out.below.size
            have HX12c : Hid (∀ k, k < n → w12.cell? ⟨b, off + k, none⟩ = some (.int .u8 (f k))) := fun k hk => (HX12.out.below.cell (p := ⟨b, off + k, none⟩) hbb).trans (HC.out k hk)
            go_upto_region 13 with fail
            refine wp_region_grow (C := fun W => Below w12.heap.size w12 W) 6 74 [val (.agg (tcpc (w2 f 0) (w2 f 2) (w4 f 4) (w4 f 8) (f 12 % 16) (f 13) (w2 f 14) (w2 f 18) (.slice O (H - 20) co))), mkF w12, val (.slice (some ⟨b, off, none⟩) n c), val (.int .i64 (H : Int)), val (.slice D2 (n - H) (c - H)), ownF w12 (n - H) (fun k => f (H + k))] (by kernel_rfl) rfl (by kernel_rfl) rfl ⟨stb_val _, stb_mk _, stb_val _, stb_val _, stb_val _, stb_own _ _ _, trivial⟩ (Below.refl _ _).drew ?_ ?_
            · refine each_cons ?_ ?_
              · intro a W hW hd
                have h14 : a.tmps[14]?.getD undef = .pointer (some ⟨y, 0, none⟩) := slot_eq (hd 14 (by decide))
                refine grows_value (.agg (tcpc (w2 f 0) (w2 f 2) (w4 f 4) (w4 f 8) (f 12 % 16) (f 13) (w2 f 14) (w2 f 18) (.slice O (H - 20) co))) hW (?_ : _ = _) rfl
                clear hd
                simp only [execOp, Act.eval, Array.getD_eq_getD_getElem?, h14, Instr.loadAt, Instr.sureAddr, Sem.run_bind, Sem.run_pure, Result.andThen_ok, run_loadVar_row W y 61 61 (tcpc (w2 f 0) (w2 f 2) (w4 f 4) (w4 f 8) (f 12 % 16) (f 13) (w2 f 14) (w2 f 18) (.slice O (H - 20) co)) (0, 0) _ ((hW.block _ (lt_heap HY12.out)).trans HY12.out) Try.underlying61 rfl (by kernel_rfl)]
              refine each_cons ?_ ?_
              · intro a W hW hd
                refine grows_new (.slice (some ⟨W.heap.size, 0, none⟩) 0 0) (w' := W.alloc (.cells #[] 5)) (?_ : _ = _) ⟨_, rfl, Own.fresh W _ _ rfl hW.size _ _⟩ (below_alloc _ _) (hW.alloc hW.size _)
                clear hd
                go_simp
              refine each_cons ?_ ?_
              · intro a W hW hd
                have h3 : a.tmps[3]?.getD undef = .slice (some ⟨b, off, none⟩) n c := slot_eq (hd 3 (by decide))
                exact grows_value _ hW (by simp [execOp, Act.eval, h3]) rfl
              refine each_cons ?_ ?_
              · intro a W hW hd
                have h11 : a.tmps[11]?.getD undef = .int .i64 (H : Int) := slot_eq (hd 11 (by decide))
                exact grows_value _ hW (by simp [execOp, Act.eval, h11]) rfl
              refine each_cons ?_ ?_
              · intro a W hW hd
                have h70 : a.tmps[70]?.getD undef = .slice (some ⟨b, off, none⟩) n c := slot_eq (hd 70 (by decide))
                have h71 : a.tmps[71]?.getD undef = .int .i64 (H : Int) := slot_eq (hd 71 (by decide))
                refine grows_value _ hW (?_ : _ = _) rfl
                clear hd
                go_simp
              refine each_cons ?_ ?_
              · intro a W hW hd
                have h72 : a.tmps[72]?.getD undef = .slice D2 (n - H) (c - H) := slot_eq (hd 72 (by decide))
                obtain ⟨z, h69, ho⟩ := hd 69 (by decide)
                have h69' : a.tmps[69]?.getD undef = .slice (some ⟨z, 0, none⟩) 0 0 := slot_eq h69
                obtain ⟨A2, c2, w', hrun, hown, hb⟩ := run_append_fresh (P := Try.prog) w12.heap.size 22 22 5 i0 Try.underlying22 HI0.out HI1.out HI2.out HI3.out ⟨z, 0, none⟩ ho (c' := c - H) (HD2.out W W.heap.size f (.inr ⟨b, off, rfl, Nat.lt_of_lt_of_le hb12 hW.size, fun k hk => (hW.cell (p := ⟨b, off + k, none⟩) hb12).trans (HX12c.out k hk)⟩)) (by omega) hW.size
                refine grows_new (.slice A2 (n - H) c2) (w' := w') ?_ ⟨A2, c2, rfl, hown⟩ hb (hW.trans (hb.mono hW.size))
                clear hd
                simp only [execOp, resolve, invoke, builtin, Sem.run_bind, Sem.run_pure, Result.andThen_ok, List.map_toArray, List.map_cons, List.map_nil, Act.eval, Array.getD_eq_getD_getElem?, h69', h72, hrun]
              exact each_nil
            · refine behind_val rfl ?_
              refine behind_cons fun v69 => ?_
              refine behind_val rfl ?_
              refine behind_val rfl ?_
              refine behind_val rfl ?_
              refine behind_cons fun v73 => ?_
              refine behind_nil fun w13 hCw13 hFw13 => ?_
              obtain ⟨⟨_, _⟩, ⟨P, cp, rfl, hP⟩⟩ := hFw13
              have HP := Lib.hid hP
              have HX13 := Lib.hid (HX12.out.step hCw13)
              have HO13 := Lib.hid (HO12.out.below hCw13)
              clear hP hCw13
              simp only [Act.put, List.setIfInBounds_toArray, List.set_cons_succ, List.set_cons_zero, List.drop_succ_cons, List.drop_zero]
              refine wpList_store_row rfl 61 (.tmp 8) (.tmp 68) rfl (w.heap.size + 1 + 1) (tcpc (w2 f 0) (w2 f 2) (w4 f 4) (w4 f 8) (f 12 % 16) (f 13) (w2 f 14) (w2 f 18) (.slice O (H - 20) co)) rfl rfl 61 tcpz HX13.out.b2 (by kernel_rfl) rfl (tcp_one ..) ?_
              simp only [Act.put]
              go_wp2_with fail
              refine bodyPost_ret (v := .tuple #[.agg (tcpc (w2 f 0) (w2 f 2) (w4 f 4) (w4 f 8) (f 12 % 16) (f 13) (w2 f 14) (w2 f 18) (.slice O (H - 20) co)), .slice P (n - H) cp, .int .i64 0]) (results_row2 Try.results40 _ _ (w.heap.size + 1 + 1) 61 (tcpc (w2 f 0) (w2 f 2) (w4 f 4) (w4 f 8) (f 12 % 16) (f 13) (w2 f 14) (w2 f 18) (.slice O (H - 20) co)) (0, 0) _ rfl (setRow_heap _ (w.heap.size + 1 + 1) _ (tcpc (w2 f 0) (w2 f 2) (w4 f 4) (w4 f 8) (f 12 % 16) (f 13) (w2 f 14) (w2 f 18) (.slice O (H - 20) co)) _ _ HX13.out.b2) Try.underlying61 rfl (by kernel_rfl)) rfl ?_
              refine .inr ⟨by first | rfl | exact hRe, ?_⟩
              have eO : tcpO f = H - 20 := by unfold tcpO; rw [← HHH.out]
              have eH : 20 + (H - 20) = H := by omega
              unfold ReadTO
              rw [eO, eH]
              exact ⟨O, co, P, cp, rfl, HO13.out.other HX13.out.b2 (by decide) (fun k hk => setRow_other _ (w.heap.size + 1 + 1) k _ hk), (HP.out.le HX12.out.below.size).other HX13.out.b2 (by decide) (fun k hk => setRow_other _ (w.heap.size + 1 + 1) k _ hk), below_setRow HX13.out.below (by omega) _⟩
        · have c3' : (r != 0) = true := by simpa using c3
          have hRe : R = 6 := HRE.out.trans (tcpE_3 N0.out N1.out N2.out (by rw [← HRR.out]; exact c3))
          go_wp2_with (first
            | (refine wpList_store_row rfl 61 (.tmp 8) (.tmp 39) rfl (w.heap.size + 1 + 1) tcpz rfl rfl 61 tcpz HX2.out.b2 (by kernel_rfl) rfl tcpz_one ?_))
          refine bodyPost_ret (v := .tuple #[.agg tcpz, .slice none 0 0, .int .i64 6]) (results_row2 Try.results40 _ _ (w.heap.size + 1 + 1) 61 tcpz (0, 0) _ rfl (setRow_heap _ (w.heap.size + 1 + 1) _ tcpz _ _ HX2.out.b2) Try.underlying61 rfl (by kernel_rfl)) rfl ?_
          have hRne : ¬ R = 0 := by omega
          exact .inl ⟨by first | exact hRne | omega | decide, by first | rfl | (rw [hRe] <;> rfl), below_setRow HX2.out.below (by omega) _⟩
end Go.Proofs.Ytlchegibfopglaa
