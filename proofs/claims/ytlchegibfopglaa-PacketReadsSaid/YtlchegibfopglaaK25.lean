import Derived.Test.YtlchegibfopglaaK1
import Derived.Test.YtlchegibfopglaaK21
import Derived.Test.YtlchegibfopglaaK23
import Derived.Test.YtlchegibfopglaaK8
import Derived.Test.YtlchegibfopglaaK24
import Derived.Deep.MidRow
import Derived.Deep.CutRange
/- The document's answers for layer 3: Read. -/
namespace Go.Proofs.Ytlchegibfopglaa
set_option maxRecDepth 100000
open Go.RowKit
set_option maxRecDepth 100000 in
set_option maxHeartbeats 4000000 in
theorem rread4_any (A : Option Addr) (n c : Nat) (f : Nat → Int) (hf : Byt f) (hn : n ≤ 140737488355328) (hcap : n ≤ c) (hc' : c ≤ 9223372036854775807) (w : World) (hr : Rd w w.heap.size A n f) :
    Calls Try.prog 31 #[.slice A n c] w (Read4P 5 (rd4E f n) f w) := by
  have HR := Lib.hid hr
  have HF := Lib.hid hf
  clear hr hf
  obtain ⟨R, hR⟩ : ∃ R, R = rd4E f n := ⟨_, rfl⟩
  rw [← hR]
  have HRE := Lib.hid hR
  clear hR
  have b1 : ((w.alloc (.cells ip4z 79)).alloc (.cells ip4z 79)).heap[w.heap.size]? = some (.cells ip4z 79 (0, 0)) := blk_old (heap_alloc_new w _) _
  have e1 : (w.alloc (.cells ip4z 79)).heap.size = w.heap.size + 1 := by simp
  have b2 : ((w.alloc (.cells ip4z 79)).alloc (.cells ip4z 79)).heap[w.heap.size + 1]? = some (.cells ip4z 79 (0, 0)) := by
    rw [← e1]
    exact heap_alloc_new _ _
  have HZ2 := Lib.hid b1
  have HN2 := Lib.hid b2
  have HB2 := Lib.hid (below_alloc2 w (.cells ip4z 79) (.cells ip4z 79))
  clear b1 b2 e1
  go_enter Try.func31, Try.ntmps31
  go_upto_if 14 with (first
    | (refine wpList_store_row rfl 79 (.tmp 5) (.tmp 11) rfl (w.heap.size + 1) ip4z rfl rfl 79 ip4z HN2.out (by kernel_rfl) rfl ip4z_one ?_))
  have HZ3 := Lib.hid ((setRow_other _ (w.heap.size + 1) w.heap.size ip4z (by omega)).trans HZ2.out)
  have HN3 := Lib.hid (setRow_heap _ (w.heap.size + 1) _ ip4z _ _ HN2.out)
  have HB3 := Lib.hid (below_setRow HB2.out (Nat.le_succ w.heap.size) ip4z)
  clear HZ2 HN2 HB2
  change Code.wp _ _ _ _ (((w.alloc (.cells ip4z 79)).alloc (.cells ip4z 79)).setRow (w.heap.size + 1) ip4z)
  generalize ((w.alloc (.cells ip4z 79)).alloc (.cells ip4z 79)).setRow (w.heap.size + 1) ip4z = w3 at *
  by_cases c0 : n < 20
  · have c0' : (n : Int) < 20 := by omega
    have hRe : R = 4 := HRE.out.trans (rd4_0  c0)
    go_wp2_with (first
      | (refine wpList_load_row rfl 79 (.tmp 5) rfl (w.heap.size + 1) rfl 79 ip4z (0, 0) _ HN3.out Try.underlying79 rfl (by kernel_rfl) ?_)
      | (refine wpList_store_row rfl 79 (.tmp 2) (.tmp 15) rfl w.heap.size ip4z rfl rfl 79 ip4z HZ3.out (by kernel_rfl) rfl ip4z_one ?_))
    refine bodyPost_ret (v := .tuple #[.agg ip4z, .slice none 0 0, .int .i64 4]) (results_row2 Try.results31 _ _ w.heap.size 79 ip4z (0, 0) _ rfl (setRow_heap _ w.heap.size _ ip4z _ _ HZ3.out) Try.underlying79 rfl (by kernel_rfl)) rfl ?_
    have hRne : ¬ R = 0 := by omega
    exact .inl ⟨hRne, by first | rfl | (rw [hRe] <;> rfl), below_setRow HB3.out (Nat.le_refl _) _⟩
  · have N0 : Hid (¬ (n < 20)) := c0
    rcases HR.out with h0 | ⟨b, off, rfl, hbb, hcell⟩
    · omega
    · have HC := Lib.hid hcell
      clear hcell
      have hx0 : w3.cell? ⟨b, off, none⟩ = some (.int .u8 (f 0)) := (HB3.out.cell (p := ⟨b, off, none⟩) hbb).trans (HC.out 0 (by omega))
      obtain ⟨p0, q0⟩ := HF.out 0
      have n0 : 0 < n := by omega
      have t0 : (f 0).tmod 16 = f 0 % 16 := Int.tmod_eq_emod_of_nonneg p0
      have t1 : (f 0).tdiv 16 = f 0 / 16 := Int.tdiv_eq_ediv_of_nonneg p0
      obtain ⟨H, hH⟩ : ∃ H, H = hl4 f := ⟨_, rfl⟩
      have hH' : f 0 % 16 * 4 = (H : Int) := by rw [hH]; unfold hl4; omega
      have HH := Lib.hid hH
      clear hH
      by_cases hv : f 0 / 16 = 4
      · by_cases c1 : H < 20
        · have c1' : (H : Int) < 20 := by omega
          go_upto_if 30 with fail
          have hRe : R = 5 := HRE.out.trans (rd4_1 N0.out (.inr (by rw [← HH.out]; exact c1)))
          go_wp2_with (first
            | (refine wpList_load_row rfl 79 (.tmp 5) rfl (w.heap.size + 1) rfl 79 ip4z (0, 0) _ HN3.out Try.underlying79 rfl (by kernel_rfl) ?_)
            | (refine wpList_store_row rfl 79 (.tmp 2) (.tmp 31) rfl w.heap.size ip4z rfl rfl 79 ip4z HZ3.out (by kernel_rfl) rfl ip4z_one ?_))
          refine bodyPost_ret (v := .tuple #[.agg ip4z, .slice none 0 0, .int .i64 5]) (results_row2 Try.results31 _ _ w.heap.size 79 ip4z (0, 0) _ rfl (setRow_heap _ w.heap.size _ ip4z _ _ HZ3.out) Try.underlying79 rfl (by kernel_rfl)) rfl ?_
          have hRne : ¬ R = 0 := by omega
          exact .inl ⟨hRne, by first | rfl | (rw [hRe] <;> rfl), below_setRow HB3.out (Nat.le_refl _) _⟩
        · have N1 : Hid (¬ (f 0 / 16 ≠ 4 ∨ hl4 f < 20)) := by
            rintro (q | q)
            · exact q hv
            · rw [← HH.out] at q; exact c1 q
          have c1' : (20 : Int) ≤ (H : Int) := by omega
          have hH60 : H ≤ 60 := by omega
          go_upto_if 35 with fail
          clear hx0 t0 t1 hv hH'
          by_cases c2 : n < H
          · have c2' : (n : Int) < (H : Int) := by omega
            have hRe : R = 4 := HRE.out.trans (rd4_2 N0.out N1.out (by rw [← HH.out]; exact c2))
            go_wp2_with (first
              | (refine wpList_load_row rfl 79 (.tmp 5) rfl (w.heap.size + 1) rfl 79 ip4z (0, 0) _ HN3.out Try.underlying79 rfl (by kernel_rfl) ?_)
              | (refine wpList_store_row rfl 79 (.tmp 2) (.tmp 36) rfl w.heap.size ip4z rfl rfl 79 ip4z HZ3.out (by kernel_rfl) rfl ip4z_one ?_))
            refine bodyPost_ret (v := .tuple #[.agg ip4z, .slice none 0 0, .int .i64 4]) (results_row2 Try.results31 _ _ w.heap.size 79 ip4z (0, 0) _ rfl (setRow_heap _ w.heap.size _ ip4z _ _ HZ3.out) Try.underlying79 rfl (by kernel_rfl)) rfl ?_
            have hRne : ¬ R = 0 := by omega
            exact .inl ⟨hRne, by first | rfl | (rw [hRe] <;> rfl), below_setRow HB3.out (Nat.le_refl _) _⟩
          · have N2 : Hid (¬ (n < hl4 f)) := by rw [← HH.out]; exact c2
            have c2' : (H : Int) ≤ (n : Int) := by omega
            have hHc : H ≤ c := by omega
            go_wp2_with fail
            have HOF := Lib.hid (rof_any (some ⟨b, off, none⟩) H c f HF.out (by omega) w3 (((HR.out.keep HB3.out).more HB3.out.size).less (by omega)))
            obtain ⟨C, hC⟩ : ∃ C, C = ofv f H := ⟨_, rfl⟩
            rw [← hC] at HOF
            have HCC := Lib.hid hC
            clear hC
            go_at_call 46
            refine HOF.out.mono ?_
            rintro e w4 ⟨rfl, hb4⟩
            have HZ4 := Lib.hid ((hb4.block _ (lt_heap HZ3.out)).trans HZ3.out)
            have HN4 := Lib.hid ((hb4.block _ (lt_heap HN3.out)).trans HN3.out)
            have HB4 : Hid (Below w.heap.size w w4) := HB3.out.trans (hb4.mono HB3.out.size)
            clear hb4 HOF HZ3 HN3 HB3
            go_upto_if 41 with fail
            by_cases c3 : C = 0
            · subst c3
              have N3 : Hid (¬ (ofv f (hl4 f) ≠ 0)) := fun q => q (by rw [← HH.out]; exact HCC.out.symm)
              go_wp2_with fail
              obtain ⟨T, hT⟩ : ∃ T, T = tl4 f := ⟨_, rfl⟩
              have p2 := HF.out 2
              have p3 := HF.out 3
              have hT' : f 2 * 256 + f (2 + 1) = (T : Int) := by rw [hT]; unfold tl4; show f 2 * 256 + f 3 = _; omega
              have HT := Lib.hid hT
              have hT65 : T ≤ 65535 := by have e : f (2 + 1) = f 3 := rfl; omega
              have HTW := rtwo_any b off n c 2 f HF.out (by omega) (by omega) w4 (fun k hk => (HB4.out.cell (p := ⟨b, off + k, none⟩) hbb).trans (HC.out k hk))
              rw [hT'] at HTW
              have HTW' := Lib.hid HTW
              clear hT hT' p2 p3 HTW
              go_at_call 47
              refine HTW'.out.mono ?_
              rintro e w5 ⟨rfl, hb5⟩
              have HZ5 := Lib.hid ((hb5.block _ (lt_heap HZ4.out)).trans HZ4.out)
              have HN5 := Lib.hid ((hb5.block _ (lt_heap HN4.out)).trans HN4.out)
              have HB5 : Hid (Below w.heap.size w w5) := HB4.out.trans (hb5.mono HB4.out.size)
              clear hb5 HTW' HZ4 HN4 HB4
              go_upto_if 47 with fail
              by_cases c4 : T < H
              · have c4' : (T : Int) < (H : Int) := by omega
                have hRe : R = 5 := HRE.out.trans (rd4_4 N0.out N1.out N2.out N3.out (by rw [← HT.out, ← HH.out]; exact c4))
                go_wp2_with (first
                  | (refine wpList_load_row rfl 79 (.tmp 5) rfl (w.heap.size + 1) rfl 79 ip4z (0, 0) _ HN5.out Try.underlying79 rfl (by kernel_rfl) ?_)
                  | (refine wpList_store_row rfl 79 (.tmp 2) (.tmp 48) rfl w.heap.size ip4z rfl rfl 79 ip4z HZ5.out (by kernel_rfl) rfl ip4z_one ?_))
                refine bodyPost_ret (v := .tuple #[.agg ip4z, .slice none 0 0, .int .i64 5]) (results_row2 Try.results31 _ _ w.heap.size 79 ip4z (0, 0) _ rfl (setRow_heap _ w.heap.size _ ip4z _ _ HZ5.out) Try.underlying79 rfl (by kernel_rfl)) rfl ?_
                have hRne : ¬ R = 0 := by omega
                exact .inl ⟨hRne, by first | rfl | (rw [hRe] <;> rfl), below_setRow HB5.out (Nat.le_refl _) _⟩
              · have N4 : Hid (¬ (tl4 f < hl4 f)) := by rw [← HT.out, ← HH.out]; exact c4
                have c4' : (H : Int) ≤ (T : Int) := by omega
                go_upto_if 52 with fail
                by_cases c5 : n < T
                · have c5' : (n : Int) < (T : Int) := by omega
                  have hRe : R = 4 := HRE.out.trans (rd4_5 N0.out N1.out N2.out N3.out N4.out (by rw [← HT.out]; exact c5))
                  go_wp2_with (first
                    | (refine wpList_load_row rfl 79 (.tmp 5) rfl (w.heap.size + 1) rfl 79 ip4z (0, 0) _ HN5.out Try.underlying79 rfl (by kernel_rfl) ?_)
                    | (refine wpList_store_row rfl 79 (.tmp 2) (.tmp 53) rfl w.heap.size ip4z rfl rfl 79 ip4z HZ5.out (by kernel_rfl) rfl ip4z_one ?_))
                  refine bodyPost_ret (v := .tuple #[.agg ip4z, .slice none 0 0, .int .i64 4]) (results_row2 Try.results31 _ _ w.heap.size 79 ip4z (0, 0) _ rfl (setRow_heap _ w.heap.size _ ip4z _ _ HZ5.out) Try.underlying79 rfl (by kernel_rfl)) rfl ?_
                  have hRne : ¬ R = 0 := by omega
                  exact .inl ⟨hRne, by first | rfl | (rw [hRe] <;> rfl), below_setRow HB5.out (Nat.le_refl _) _⟩
                · have N5 : Hid (¬ (n < tl4 f)) := by rw [← HT.out]; exact c5
                  have c5' : (T : Int) ≤ (n : Int) := by omega
                  go_wp2_with fail
                  obtain ⟨G, hG⟩ : ∃ G, G = f 6 * 256 + f 7 := ⟨_, rfl⟩
                  have p6 := HF.out 6
                  have p7 := HF.out 7
                  have hG0 : 0 ≤ G := by omega
                  have hG1 : G ≤ 65535 := by omega
                  have HGG := Lib.hid hG
                  have HTW := rtwo_any b off n c 6 f HF.out (by omega) (by omega) w5 (fun k hk => (HB5.out.cell (p := ⟨b, off + k, none⟩) hbb).trans (HC.out k hk))
                  rw [show f 6 * 256 + f (6 + 1) = G from hG.symm] at HTW
                  have HTW' := Lib.hid HTW
                  clear hG p6 p7 HTW
                  go_at_call 47
                  refine HTW'.out.mono ?_
                  rintro e w6 ⟨rfl, hb6⟩
                  have HZ6 := Lib.hid ((hb6.block _ (lt_heap HZ5.out)).trans HZ5.out)
                  have HN6 := Lib.hid ((hb6.block _ (lt_heap HN5.out)).trans HN5.out)
                  have HB6 : Hid (Below w.heap.size w w6) := HB5.out.trans (hb6.mono HB5.out.size)
                  clear hb6 HTW' HZ5 HN5 HB5
                  go_upto_if 57 with fail
                  by_cases c6 : 32768 ≤ G
                  · have hRe : R = 5 := HRE.out.trans (rd4_6 N0.out N1.out N2.out N3.out N4.out N5.out (by rw [← HGG.out]; exact c6))
                    go_wp2_with (first
                      | (refine wpList_load_row rfl 79 (.tmp 5) rfl (w.heap.size + 1) rfl 79 ip4z (0, 0) _ HN6.out Try.underlying79 rfl (by kernel_rfl) ?_)
                      | (refine wpList_store_row rfl 79 (.tmp 2) (.tmp 58) rfl w.heap.size ip4z rfl rfl 79 ip4z HZ6.out (by kernel_rfl) rfl ip4z_one ?_))
                    refine bodyPost_ret (v := .tuple #[.agg ip4z, .slice none 0 0, .int .i64 5]) (results_row2 Try.results31 _ _ w.heap.size 79 ip4z (0, 0) _ rfl (setRow_heap _ w.heap.size _ ip4z _ _ HZ6.out) Try.underlying79 rfl (by kernel_rfl)) rfl ?_
                    have hRne : ¬ R = 0 := by omega
                    exact .inl ⟨hRne, by first | rfl | (rw [hRe] <;> rfl), below_setRow HB6.out (Nat.le_refl _) _⟩
                  · have N6 : Hid (f 6 * 256 + f 7 < 32768) := by rw [← HGG.out]; exact Int.not_le.1 c6
                    obtain ⟨A20, hs20, hr20⟩ := slice_both b off n c 20 H (by omega) (by omega) hcap hc'
                    have hs20' : ∀ W, (Instr.sliceAt 22 (.slice (some ⟨b, off, none⟩) n c) (some (.int .i64 20)) (some (.int .i64 (H : Int))) none).run Try.prog W = .ok (.slice A20 (H - 20) (c - 20)) W := hs20
                    have HR20 := Lib.hid hr20
                    clear hs20 hr20
                    go_wp2_with fail
                    have HOP := Lib.hid (roptions_any A20 (H - 20) (c - 20) (fun k => f (20 + k)) (fun k => HF.out _) (by omega) w6 (HR20.out _ _ _ ((HR.out.keep HB6.out).more HB6.out.size)))
                    obtain ⟨E, hE⟩ : ∃ E, E = optE (fun k => f (20 + k)) (H - 20) := ⟨_, rfl⟩
                    rw [← hE] at HOP
                    have HEE := Lib.hid hE
                    clear hE
                    go_at_call 48
                    refine HOP.out.mono ?_
                    rintro e w7 ⟨rfl, hb7⟩
                    have HZ7 := Lib.hid ((hb7.block _ (lt_heap HZ6.out)).trans HZ6.out)
                    have HN7 := Lib.hid ((hb7.block _ (lt_heap HN6.out)).trans HN6.out)
                    have HB7 : Hid (Below w.heap.size w w7) := HB6.out.trans (hb7.mono HB6.out.size)
                    clear hb7 HOP HZ6 HN6 HB6
                    by_cases c7 : E = 0
                    · subst c7
                      have N7 : Hid (¬ (optE (fun k => f (20 + k)) (hl4 f - 20) ≠ 0)) := fun q => q (by rw [← HH.out]; exact HEE.out.symm)
                      have g1 : G.tmod 16384 = G % 16384 := Int.tmod_eq_emod_of_nonneg hG0
                      go_upto_if 69 with fail
                      by_cases c8 : 0 < G % 16384
                      · have hRe : R = 11 := HRE.out.trans (rd4_8 N0.out N1.out N2.out N3.out N4.out N5.out (Int.not_le.2 N6.out) N7.out (by rw [← HGG.out]; exact c8))
                        go_wp2_with (first
                          | (refine wpList_load_row rfl 79 (.tmp 5) rfl (w.heap.size + 1) rfl 79 ip4z (0, 0) _ HN7.out Try.underlying79 rfl (by kernel_rfl) ?_)
                          | (refine wpList_store_row rfl 79 (.tmp 2) (.tmp 70) rfl w.heap.size ip4z rfl rfl 79 ip4z HZ7.out (by kernel_rfl) rfl ip4z_one ?_))
                        refine bodyPost_ret (v := .tuple #[.agg ip4z, .slice none 0 0, .int .i64 11]) (results_row2 Try.results31 _ _ w.heap.size 79 ip4z (0, 0) _ rfl (setRow_heap _ w.heap.size _ ip4z _ _ HZ7.out) Try.underlying79 rfl (by kernel_rfl)) rfl ?_
                        have hRne : ¬ R = 0 := by omega
                        exact .inl ⟨hRne, by first | rfl | (rw [hRe] <;> rfl), below_setRow HB7.out (Nat.le_refl _) _⟩
                      · have N8 : Hid ((f 6 * 256 + f 7) % 16384 ≤ 0) := by rw [← HGG.out]; exact Int.not_lt.1 c8
                        have hRe : R = 0 := HRE.out.trans (rd4_9 N0.out N1.out N2.out N3.out N4.out N5.out (Int.not_le.2 N6.out) N7.out (Int.not_lt.2 N8.out))
                        obtain ⟨i0, hi0, hz0, hz1, hz2⟩ := info_parts Try.info5
                        have HI0 := Lib.hid hi0
                        have HI1 := Lib.hid hz0
                        have HI2 := Lib.hid hz1
                        have HI3 := Lib.hid hz2
                        clear hi0 hz0 hz1 hz2
                        have hb7 : b < w7.heap.size := Nat.lt_of_lt_of_le hbb HB7.out.size
                        have HX7 : Hid (∀ k, k < n → w7.cell? ⟨b, off + k, none⟩ = some (.int .u8 (f k))) := fun k hk => (HB7.out.cell (p := ⟨b, off + k, none⟩) hbb).trans (HC.out k hk)
                        obtain ⟨ID, hID⟩ : ∃ ID, ID = f 4 * 256 + f 5 := ⟨_, rfl⟩
                        have hIDw : IntKind.u16.wrap ID = ID := by
                          have := HF.out 4
                          have := HF.out 5
                          simp only [IntKind.wrap_u16]
                          omega
                        have HID := Lib.hid hID
                        obtain ⟨DF, hDF⟩ : ∃ DF, DF = decide (16384 ≤ G) := ⟨_, rfl⟩
                        have HDF := Lib.hid hDF
                        clear hID hDF
                        have i1 : (1 : Int) < (n : Int) := by omega
                        have i8 : (8 : Int) < (n : Int) := by omega
                        have i9 : (9 : Int) < (n : Int) := by omega
                        have i12 : (12 : Int) ≤ (n : Int) := by omega
                        have i16 : (16 : Int) ≤ (n : Int) := by omega
                        have i12c : ¬ c = 12 := by omega
                        have i16c : ¬ c = 16 := by omega
                        obtain ⟨sa, hsa⟩ : ∃ sa, sa = adr fun k => f (12 + k) := ⟨_, rfl⟩
                        obtain ⟨da, hda⟩ : ∃ da, da = adr fun k => f (16 + k) := ⟨_, rfl⟩
                        have HSA := Lib.hid hsa
                        have HDA := Lib.hid hda
                        clear hsa hda
                        go_upto_region 24 with fail
                        refine wp_region_grow (C := fun W => Below w7.heap.size w7 W) 22 105 [val (.slice (some ⟨b, off, none⟩) n c), val (.pointer (some ⟨b, off + 1, none⟩)), val (.int .u8 (f 1)), val (.slice (some ⟨b, off, none⟩) n c), val (.int .i64 ID), val (.int .u16 ID), val (.int .i64 G), val (.bool DF), val (.slice (some ⟨b, off, none⟩) n c), val (.pointer (some ⟨b, off + 8, none⟩)), val (.int .u8 (f 8)), val (.slice (some ⟨b, off, none⟩) n c), val (.pointer (some ⟨b, off + 9, none⟩)), val (.int .u8 (f 9)), val (.slice (some ⟨b, off, none⟩) n c), val (.slice (some ⟨b, off + 12, none⟩) (n - 12) (c - 12)), val (.agg #[.int .u8 (sa 0), .int .u8 (sa 1), .int .u8 (sa 2), .int .u8 (sa 3), .int .u8 (sa 4), .int .u8 (sa 5), .int .u8 (sa 6), .int .u8 (sa 7), .int .u8 (sa 8), .int .u8 (sa 9), .int .u8 (sa 10), .int .u8 (sa 11), .int .u8 (sa 12), .int .u8 (sa 13), .int .u8 (sa 14), .int .u8 (sa 15)]), val (.slice (some ⟨b, off, none⟩) n c), val (.slice (some ⟨b, off + 16, none⟩) (n - 16) (c - 16)), val (.agg #[.int .u8 (da 0), .int .u8 (da 1), .int .u8 (da 2), .int .u8 (da 3), .int .u8 (da 4), .int .u8 (da 5), .int .u8 (da 6), .int .u8 (da 7), .int .u8 (da 8), .int .u8 (da 9), .int .u8 (da 10), .int .u8 (da 11), .int .u8 (da 12), .int .u8 (da 13), .int .u8 (da 14), .int .u8 (da 15)]), val (.agg (ip4c (f 1) ID DF (f 8) (f 9) sa da (.slice none 0 0))), newF4 w7] (by kernel_rfl) rfl (by kernel_rfl) rfl ⟨stb_val _, stb_val _, stb_val _, stb_val _, stb_val _, stb_val _, stb_val _, stb_val _, stb_val _, stb_val _, stb_val _, stb_val _, stb_val _, stb_val _, stb_val _, stb_val _, stb_val _, stb_val _, stb_val _, stb_val _, stb_val _, stb_new4 _, trivial⟩ (Below.refl _ _).drew ?_ ?_
                        · refine each_cons ?_ ?_
                          · intro a W hW hd
                            have h0 : a.tmps[0]?.getD undef = .slice (some ⟨b, off, none⟩) n c := slot_eq (hd 0 (by decide))
                            exact grows_value _ hW (by simp [execOp, Act.eval, h0]) rfl
                          refine each_cons ?_ ?_
                          · intro a W hW hd
                            have h71 : a.tmps[71]?.getD undef = .slice (some ⟨b, off, none⟩) n c := slot_eq (hd 71 (by decide))
                            refine grows_value _ hW (?_ : _ = _) rfl
                            clear hd
                            go_simp
                          refine each_cons ?_ ?_
                          · intro a W hW hd
                            have h72 : a.tmps[72]?.getD undef = .pointer (some ⟨b, off + 1, none⟩) := slot_eq (hd 72 (by decide))
                            have hx := (hW.cell (p := ⟨b, off + 1, none⟩) hb7).trans (HX7.out 1 (by omega))
                            refine grows_value _ hW (?_ : _ = _) rfl
                            clear hd
                            go_simp
                          refine each_cons ?_ ?_
                          · intro a W hW hd
                            have h0 : a.tmps[0]?.getD undef = .slice (some ⟨b, off, none⟩) n c := slot_eq (hd 0 (by decide))
                            exact grows_value _ hW (by simp [execOp, Act.eval, h0]) rfl
                          refine each_cons ?_ ?_
                          · intro a W hW hd
                            have h74 : a.tmps[74]?.getD undef = .slice (some ⟨b, off, none⟩) n c := slot_eq (hd 74 (by decide))
                            refine grows_call (fn := 47) (args := #[.slice (some ⟨b, off, none⟩) n c, .int .i64 4]) ?_ ?_
                            · clear hd
                              go_simp
                            · refine (rtwo_any b off n c 4 f HF.out (by omega) (by omega) W (fun k hk => (hW.cell (p := ⟨b, off + k, none⟩) hb7).trans (HX7.out k hk))).mono ?_
                              rintro e w' ⟨he, hb⟩
                              exact ⟨_, he, (by rw [HID.out]; rfl), hb, hW.trans (hb.mono hW.size)⟩
                          refine each_cons ?_ ?_
                          · intro a W hW hd
                            have h75 : a.tmps[75]?.getD undef = .int .i64 ID := slot_eq (hd 75 (by decide))
                            refine grows_value _ hW (?_ : _ = _) rfl
                            clear hd
                            go_simp
                          refine each_cons ?_ ?_
                          · intro a W hW hd
                            have h8 : a.tmps[8]?.getD undef = .int .i64 G := slot_eq (hd 8 (by decide))
                            exact grows_value _ hW (by simp [execOp, Act.eval, h8]) rfl
                          refine each_cons ?_ ?_
                          · intro a W hW hd
                            have h77 : a.tmps[77]?.getD undef = .int .i64 G := slot_eq (hd 77 (by decide))
                            refine grows_value _ hW (?_ : _ = _) rfl
                            clear hd
                            go_simp
                            rw [HDF.out]
                          refine each_cons ?_ ?_
                          · intro a W hW hd
                            have h0 : a.tmps[0]?.getD undef = .slice (some ⟨b, off, none⟩) n c := slot_eq (hd 0 (by decide))
                            exact grows_value _ hW (by simp [execOp, Act.eval, h0]) rfl
                          refine each_cons ?_ ?_
                          · intro a W hW hd
                            have h79 : a.tmps[79]?.getD undef = .slice (some ⟨b, off, none⟩) n c := slot_eq (hd 79 (by decide))
                            refine grows_value _ hW (?_ : _ = _) rfl
                            clear hd
                            go_simp
                          refine each_cons ?_ ?_
                          · intro a W hW hd
                            have h80 : a.tmps[80]?.getD undef = .pointer (some ⟨b, off + 8, none⟩) := slot_eq (hd 80 (by decide))
                            have hx := (hW.cell (p := ⟨b, off + 8, none⟩) hb7).trans (HX7.out 8 (by omega))
                            refine grows_value _ hW (?_ : _ = _) rfl
                            clear hd
                            go_simp
                          refine each_cons ?_ ?_
                          · intro a W hW hd
                            have h0 : a.tmps[0]?.getD undef = .slice (some ⟨b, off, none⟩) n c := slot_eq (hd 0 (by decide))
                            exact grows_value _ hW (by simp [execOp, Act.eval, h0]) rfl
                          refine each_cons ?_ ?_
                          · intro a W hW hd
                            have h82 : a.tmps[82]?.getD undef = .slice (some ⟨b, off, none⟩) n c := slot_eq (hd 82 (by decide))
                            refine grows_value _ hW (?_ : _ = _) rfl
                            clear hd
                            go_simp
                          refine each_cons ?_ ?_
                          · intro a W hW hd
                            have h83 : a.tmps[83]?.getD undef = .pointer (some ⟨b, off + 9, none⟩) := slot_eq (hd 83 (by decide))
                            have hx := (hW.cell (p := ⟨b, off + 9, none⟩) hb7).trans (HX7.out 9 (by omega))
                            refine grows_value _ hW (?_ : _ = _) rfl
                            clear hd
                            go_simp
                          refine each_cons ?_ ?_
                          · intro a W hW hd
                            have h0 : a.tmps[0]?.getD undef = .slice (some ⟨b, off, none⟩) n c := slot_eq (hd 0 (by decide))
                            exact grows_value _ hW (by simp [execOp, Act.eval, h0]) rfl
                          refine each_cons ?_ ?_
                          · intro a W hW hd
                            have h85 : a.tmps[85]?.getD undef = .slice (some ⟨b, off, none⟩) n c := slot_eq (hd 85 (by decide))
                            refine grows_value _ hW (?_ : _ = _) rfl
                            clear hd
                            go_simp
                          refine each_cons ?_ ?_
                          · intro a W hW hd
                            have h86 : a.tmps[86]?.getD undef = .slice (some ⟨b, off + 12, none⟩) (n - 12) (c - 12) := slot_eq (hd 86 (by decide))
                            refine grows_call (fn := 49) (args := #[.slice (some ⟨b, off + 12, none⟩) (n - 12) (c - 12)]) ?_ ?_
                            · clear hd
                              go_simp
                            · refine (raddress_any b (off + 12) (n - 12) (c - 12) (fun k => f (12 + k)) (by omega) W (Nat.lt_of_lt_of_le hb7 hW.size) (fun k hk => by rw [Nat.add_assoc]; exact (hW.cell (p := ⟨b, off + (12 + k), none⟩) hb7).trans (HX7.out (12 + k) (by omega)))).mono ?_
                              rintro e w' ⟨he, hb⟩
                              exact ⟨_, he, (by show Value.agg (arr16 (adr fun k => f (12 + k))) = _; rw [← HSA.out]; rfl), hb, hW.trans (hb.mono hW.size)⟩
                          refine each_cons ?_ ?_
                          · intro a W hW hd
                            have h0 : a.tmps[0]?.getD undef = .slice (some ⟨b, off, none⟩) n c := slot_eq (hd 0 (by decide))
                            exact grows_value _ hW (by simp [execOp, Act.eval, h0]) rfl
                          refine each_cons ?_ ?_
                          · intro a W hW hd
                            have h88 : a.tmps[88]?.getD undef = .slice (some ⟨b, off, none⟩) n c := slot_eq (hd 88 (by decide))
                            refine grows_value _ hW (?_ : _ = _) rfl
                            clear hd
                            go_simp
                          refine each_cons ?_ ?_
                          · intro a W hW hd
                            have h89 : a.tmps[89]?.getD undef = .slice (some ⟨b, off + 16, none⟩) (n - 16) (c - 16) := slot_eq (hd 89 (by decide))
                            refine grows_call (fn := 49) (args := #[.slice (some ⟨b, off + 16, none⟩) (n - 16) (c - 16)]) ?_ ?_
                            · clear hd
                              go_simp
                            · refine (raddress_any b (off + 16) (n - 16) (c - 16) (fun k => f (16 + k)) (by omega) W (Nat.lt_of_lt_of_le hb7 hW.size) (fun k hk => by rw [Nat.add_assoc]; exact (hW.cell (p := ⟨b, off + (16 + k), none⟩) hb7).trans (HX7.out (16 + k) (by omega)))).mono ?_
                              rintro e w' ⟨he, hb⟩
                              exact ⟨_, he, (by show Value.agg (arr16 (adr fun k => f (16 + k))) = _; rw [← HDA.out]; rfl), hb, hW.trans (hb.mono hW.size)⟩
                          refine each_cons ?_ ?_
                          · intro a W hW hd
                            have h73 : a.tmps[73]?.getD undef = .int .u8 (f 1) := slot_eq (hd 73 (by decide))
                            have h76 : a.tmps[76]?.getD undef = .int .u16 ID := slot_eq (hd 76 (by decide))
                            have h78 : a.tmps[78]?.getD undef = .bool DF := slot_eq (hd 78 (by decide))
                            have h81 : a.tmps[81]?.getD undef = .int .u8 (f 8) := slot_eq (hd 81 (by decide))
                            have h84 : a.tmps[84]?.getD undef = .int .u8 (f 9) := slot_eq (hd 84 (by decide))
                            have h87 : a.tmps[87]?.getD undef = .agg #[.int .u8 (sa 0), .int .u8 (sa 1), .int .u8 (sa 2), .int .u8 (sa 3), .int .u8 (sa 4), .int .u8 (sa 5), .int .u8 (sa 6), .int .u8 (sa 7), .int .u8 (sa 8), .int .u8 (sa 9), .int .u8 (sa 10), .int .u8 (sa 11), .int .u8 (sa 12), .int .u8 (sa 13), .int .u8 (sa 14), .int .u8 (sa 15)] := slot_eq (hd 87 (by decide))
                            have h90 : a.tmps[90]?.getD undef = .agg #[.int .u8 (da 0), .int .u8 (da 1), .int .u8 (da 2), .int .u8 (da 3), .int .u8 (da 4), .int .u8 (da 5), .int .u8 (da 6), .int .u8 (da 7), .int .u8 (da 8), .int .u8 (da 9), .int .u8 (da 10), .int .u8 (da 11), .int .u8 (da 12), .int .u8 (da 13), .int .u8 (da 14), .int .u8 (da 15)] := slot_eq (hd 90 (by decide))
                            refine grows_value _ hW (?_ : _ = _) rfl
                            clear hd
                            go_simp
                            rfl
                          refine each_cons ?_ ?_
                          · intro a W hW hd
                            refine grows_new (.pointer (some ⟨W.heap.size, 0, none⟩)) (w' := W.alloc (.cells ip4z 79)) (?_ : _ = _) ⟨_, rfl, heap_alloc_new W _, hW.size⟩ (below_alloc _ _) (hW.alloc hW.size _)
                            clear hd
                            go_simp
                            rfl
                          exact each_nil
                        · refine behind_val rfl ?_
                          refine behind_val rfl ?_
                          refine behind_val rfl ?_
                          refine behind_val rfl ?_
                          refine behind_val rfl ?_
                          refine behind_val rfl ?_
                          refine behind_val rfl ?_
                          refine behind_val rfl ?_
                          refine behind_val rfl ?_
                          refine behind_val rfl ?_
                          refine behind_val rfl ?_
                          refine behind_val rfl ?_
                          refine behind_val rfl ?_
                          refine behind_val rfl ?_
                          refine behind_val rfl ?_
                          refine behind_val rfl ?_
                          refine behind_val rfl ?_
                          refine behind_val rfl ?_
                          refine behind_val rfl ?_
                          refine behind_val rfl ?_
                          refine behind_val rfl ?_
                          refine behind_cons fun v10 => ?_
                          refine behind_nil fun w8 hCw8 hFw8 => ?_
                          simp only [Act.put, List.setIfInBounds_toArray, List.set_cons_succ, List.set_cons_zero, List.drop_succ_cons, List.drop_zero]
                          obtain ⟨_, ⟨q, rfl, hq, hlq⟩⟩ := hFw8
                          have HQ := Lib.hid hq
                          refine wpList_store_row rfl 79 (.tmp 10) (.tmp 91) rfl q (ip4c (f 1) ID DF (f 8) (f 9) sa da (.slice none 0 0)) rfl rfl 79 ip4z HQ.out (by kernel_rfl) rfl (ip4_one ..) ?_
                          refine wpList_nil ?_
                          simp only [Act.put]
                          have hNq : w.heap.size < q := by have := lt_heap HZ7.out; omega
                          have HH9 : Hid ((w8.setRow q (ip4c (f 1) ID DF (f 8) (f 9) sa da (.slice none 0 0))).heap[q]? = some (.cells (ip4c (f 1) ID DF (f 8) (f 9) sa da (.slice none 0 0)) 79 (0, 0))) := setRow_heap _ q _ _ _ _ HQ.out
                          have HZ9 : Hid ((w8.setRow q (ip4c (f 1) ID DF (f 8) (f 9) sa da (.slice none 0 0))).heap[w.heap.size]? = some (.cells ip4z 79 (0, 0))) := (setRow_other _ q w.heap.size _ (by omega)).trans ((hCw8.block _ (lt_heap HZ7.out)).trans HZ7.out)
                          have HB9 : Hid (Below w.heap.size w (w8.setRow q (ip4c (f 1) ID DF (f 8) (f 9) sa da (.slice none 0 0)))) := below_setRow (HB7.out.trans (hCw8.mono HB7.out.size)) (Nat.le_of_lt hNq) _
                          clear HQ hq hCw8 hlq HZ7 HN7 HB7 HX7
                          generalize w8.setRow q (ip4c (f 1) ID DF (f 8) (f 9) sa da (.slice none 0 0)) = w9 at *
                          have HO9 : Hid (Own (w9.alloc (.cells #[] 5)) (w.heap.size + 1) 5 (some ⟨w9.heap.size, 0, none⟩) 0 0 (fun _ => 0)) := Own.fresh w9 _ _ rfl (lt_heap HZ9.out) _ _
                          have HA9 : Hid (Below w.heap.size w (w9.alloc (.cells #[] 5))) := HB9.out.alloc HB9.out.size _
                          have HH10 : Hid ((w9.alloc (.cells #[] 5)).heap[q]? = some (.cells (ip4c (f 1) ID DF (f 8) (f 9) sa da (.slice none 0 0)) 79 (0, 0))) := blk_old HH9.out _
                          have HZ10 : Hid ((w9.alloc (.cells #[] 5)).heap[w.heap.size]? = some (.cells ip4z 79 (0, 0))) := blk_old HZ9.out _
                          have hq9 : q < w9.heap.size := lt_heap HH9.out
                          go_upto_region 26 with (first
                            | (at_builtin
                               refine wpList_append_rd rfl (.tmp 92) (.tmp 95) _ rfl (w.heap.size + 1) 5 i0 Try.underlying22 HI0.out HI1.out HI2.out HI3.out rfl HO9.out rfl (HR20.out _ _ _ ((HR.out.keep HA9.out).more HA9.out.size)) (by omega) (Nat.le_trans (lt_heap HZ9.out) (alloc_le w9 _)) ?_
                               intro O co w11 hown hg11 _
                               have HO11 : Hid (Own w11 (w.heap.size + 1) 5 O (H - 20) co (fun k => f (20 + k))) := by
                                 rw [Nat.zero_add] at hown
                                 exact hown.same fun k _ => by simp [cat]
                               have HH11 := Lib.hid ((hg11.block q (Nat.lt_of_lt_of_le hq9 (alloc_le w9 _)) (by simp [Value.ownBlock]; omega)).trans HH10.out)
                               have HZ11 := Lib.hid ((hg11.block w.heap.size (lt_heap HZ10.out) (by simp [Value.ownBlock]; have := lt_heap HZ9.out; omega)).trans HZ10.out)
                               have HB11 : Hid (Below w.heap.size w w11) := HA9.out.grown hg11 HA9.out.size (fun k hk => by simp [Value.ownBlock] at hk; have := lt_heap HZ9.out; omega)
                               clear hown hg11
                               have c37 : w11.cell? ⟨q, 37, none⟩ = some (.slice none 0 0) := blk_cell HH11.out 37
                               have f37 : w11.frozen? ⟨q, 37, none⟩ = false := blk_free HH11.out 37))
                          have HS12 : Hid (RdS4 w (w11.setCell ⟨q, 37, none⟩ (.slice O (H - 20) co)) q (ip4c (f 1) ID DF (f 8) (f 9) sa da (.slice O (H - 20) co)) O (H - 20) co (fun k => f (20 + k))) :=
                            ⟨blk_far HZ11.out (by simp; omega) _, blk_set HH11.out 37 _, (HO11.out.other HH11.out (by decide) fun k hk => Below.heap_setCell w11 _ _ k hk).le (Nat.le_succ _), HB11.out.setCell (Nat.le_of_lt hNq) _, hNq⟩
                          clear HO11 HH11 HZ11 HB11 c37 f37 HO9 HA9 HH10 HZ10 HH9 HZ9 HB9
                          generalize w11.setCell ⟨q, 37, none⟩ (.slice O (H - 20) co) = w12 at *
                          obtain ⟨AH, hsH, hrH⟩ := slice_both b off n c H T (by omega) (by omega) hcap hc'
                          have HRH := Lib.hid hrH
                          clear hrH
                          have hb12 : b < w12.heap.size := Nat.lt_of_lt_of_le hbb HS12.out.below.size
                          have HX12 : Hid (∀ k, k < n → w12.cell? ⟨b, off + k, none⟩ = some (.int .u8 (f k))) := fun k hk => (HS12.out.below.cell (p := ⟨b, off + k, none⟩) hbb).trans (HC.out k hk)
                          refine wp_region_grow (C := fun W => Below w12.heap.size w12 W) 7 105 [val (.agg (ip4c (f 1) ID DF (f 8) (f 9) sa da (.slice O (H - 20) co))), mkF w12, val (.slice (some ⟨b, off, none⟩) n c), val (.int .i64 (H : Int)), val (.int .i64 (T : Int)), val (.slice AH (T - H) (c - H)), ownF w12 (T - H) (fun k => f (H + k))] (by kernel_rfl) rfl (by kernel_rfl) rfl ⟨stb_val _, stb_mk _, stb_val _, stb_val _, stb_val _, stb_val _, stb_own _ _ _, trivial⟩ (Below.refl _ _).drew ?_ ?_
                          · refine each_cons ?_ ?_
                            · intro a W hW hd
                              have h10 : a.tmps[10]?.getD undef = .pointer (some ⟨q, 0, none⟩) := slot_eq (hd 10 (by decide))
                              refine grows_value (.agg (ip4c (f 1) ID DF (f 8) (f 9) sa da (.slice O (H - 20) co))) hW (?_ : _ = _) rfl
                              clear hd
                              simp only [execOp, Act.eval, Array.getD_eq_getD_getElem?, h10, Instr.loadAt, Instr.sureAddr, Sem.run_bind, Sem.run_pure, Result.andThen_ok, run_loadVar_row W q 79 79 (ip4c (f 1) ID DF (f 8) (f 9) sa da (.slice O (H - 20) co)) (0, 0) _ ((hW.block _ (lt_heap HS12.out.hd)).trans HS12.out.hd) Try.underlying79 rfl (by kernel_rfl)]
                            refine each_cons ?_ ?_
                            · intro a W hW hd
                              refine grows_new (.slice (some ⟨W.heap.size, 0, none⟩) 0 0) (w' := W.alloc (.cells #[] 5)) (?_ : _ = _) ⟨_, rfl, Own.fresh W _ _ rfl hW.size _ _⟩ (below_alloc _ _) (hW.alloc hW.size _)
                              clear hd
                              go_simp
                            refine each_cons ?_ ?_
                            · intro a W hW hd
                              have h0 : a.tmps[0]?.getD undef = .slice (some ⟨b, off, none⟩) n c := slot_eq (hd 0 (by decide))
                              exact grows_value _ hW (by simp [execOp, Act.eval, h0]) rfl
                            refine each_cons ?_ ?_
                            · intro a W hW hd
                              have h6 : a.tmps[6]?.getD undef = .int .i64 (H : Int) := slot_eq (hd 6 (by decide))
                              exact grows_value _ hW (by simp [execOp, Act.eval, h6]) rfl
                            refine each_cons ?_ ?_
                            · intro a W hW hd
                              have h7 : a.tmps[7]?.getD undef = .int .i64 (T : Int) := slot_eq (hd 7 (by decide))
                              exact grows_value _ hW (by simp [execOp, Act.eval, h7]) rfl
                            refine each_cons ?_ ?_
                            · intro a W hW hd
                              have h100 : a.tmps[100]?.getD undef = .slice (some ⟨b, off, none⟩) n c := slot_eq (hd 100 (by decide))
                              have h101 : a.tmps[101]?.getD undef = .int .i64 (H : Int) := slot_eq (hd 101 (by decide))
                              have h102 : a.tmps[102]?.getD undef = .int .i64 (T : Int) := slot_eq (hd 102 (by decide))
                              refine grows_value _ hW (?_ : _ = _) rfl
                              clear hd
                              go_simp
                            refine each_cons ?_ ?_
                            · intro a W hW hd
                              have h103 : a.tmps[103]?.getD undef = .slice AH (T - H) (c - H) := slot_eq (hd 103 (by decide))
                              obtain ⟨z, h99, ho⟩ := hd 99 (by decide)
                              have h99' : a.tmps[99]?.getD undef = .slice (some ⟨z, 0, none⟩) 0 0 := slot_eq h99
                              obtain ⟨A2, c2, w', hrun, hown, hb⟩ := run_append_fresh (P := Try.prog) w12.heap.size 22 22 5 i0 Try.underlying22 HI0.out HI1.out HI2.out HI3.out ⟨z, 0, none⟩ ho (c' := c - H) (HRH.out W W.heap.size f (.inr ⟨b, off, rfl, Nat.lt_of_lt_of_le hb12 hW.size, fun k hk => (hW.cell (p := ⟨b, off + k, none⟩) hb12).trans (HX12.out k hk)⟩)) (by omega) hW.size
                              refine grows_new (.slice A2 (T - H) c2) (w' := w') ?_ ⟨A2, c2, rfl, hown⟩ hb (hW.trans (hb.mono hW.size))
                              clear hd
                              simp only [execOp, resolve, invoke, builtin, Sem.run_bind, Sem.run_pure, Result.andThen_ok, List.map_toArray, List.map_cons, List.map_nil, Act.eval, Array.getD_eq_getD_getElem?, h99', h103, hrun]
                            exact each_nil
                          · refine behind_val rfl ?_
                            refine behind_cons fun v99 => ?_
                            refine behind_val rfl ?_
                            refine behind_val rfl ?_
                            refine behind_val rfl ?_
                            refine behind_val rfl ?_
                            refine behind_cons fun v104 => ?_
                            refine behind_nil fun w13 hCw13 hFw13 => ?_
                            obtain ⟨⟨_, _⟩, ⟨P, cp, rfl, hP⟩⟩ := hFw13
                            have HP := Lib.hid hP
                            have HS13 := Lib.hid (HS12.out.step hCw13)
                            have HAP := Lib.hid (HS12.out.own.apart hP)
                            clear hP hCw13
                            simp only [Act.put, List.setIfInBounds_toArray, List.set_cons_succ, List.set_cons_zero, List.drop_succ_cons, List.drop_zero]
                            refine wpList_store_row rfl 79 (.tmp 2) (.tmp 98) rfl w.heap.size (ip4c (f 1) ID DF (f 8) (f 9) sa da (.slice O (H - 20) co)) rfl rfl 79 ip4z HS13.out.res (by kernel_rfl) rfl (ip4_one ..) ?_
                            simp only [Act.put]
                            go_wp2_with fail
                            refine bodyPost_ret (v := .tuple #[.agg (ip4c (f 1) ID DF (f 8) (f 9) sa da (.slice O (H - 20) co)), .slice P (T - H) cp, .int .i64 0]) (results_row2 Try.results31 _ _ w.heap.size 79 (ip4c (f 1) ID DF (f 8) (f 9) sa da (.slice O (H - 20) co)) (0, 0) _ rfl (setRow_heap _ w.heap.size _ (ip4c (f 1) ID DF (f 8) (f 9) sa da (.slice O (H - 20) co)) _ _ HS13.out.res) Try.underlying79 rfl (by kernel_rfl)) rfl ?_
                            refine .inr ⟨by first | rfl | exact hRe, ?_⟩
                            unfold Read4
                            rw [← HH.out, ← HT.out, ← HID.out, ← HGG.out, ← HDF.out, ← HSA.out, ← HDA.out]
                            exact ⟨O, co, P, cp, rfl, HS13.out.own.other HS13.out.res (by decide) (fun k hk => setRow_other _ w.heap.size k _ hk), (HP.out.le HS12.out.below.size).other HS13.out.res (by decide) (fun k hk => setRow_other _ w.heap.size k _ hk), HAP.out, below_setRow HS13.out.below (Nat.le_refl _) _⟩
                    · have c7' : (E != 0) = true := by simpa using c7
                      go_upto_if 64 with fail
                      have hRe : R = E := by
                        have q := rd4_7 N0.out N1.out N2.out N3.out N4.out N5.out (Int.not_le.2 N6.out) (show optE (fun k => f (20 + k)) (hl4 f - 20) ≠ 0 by rw [← HH.out, ← HEE.out]; exact c7)
                        rw [← HH.out, ← HEE.out] at q
                        exact HRE.out.trans q
                      go_wp2_with (first
                        | (refine wpList_load_row rfl 79 (.tmp 5) rfl (w.heap.size + 1) rfl 79 ip4z (0, 0) _ HN7.out Try.underlying79 rfl (by kernel_rfl) ?_)
                        | (refine wpList_store_row rfl 79 (.tmp 2) (.tmp 65) rfl w.heap.size ip4z rfl rfl 79 ip4z HZ7.out (by kernel_rfl) rfl ip4z_one ?_))
                      refine bodyPost_ret (v := .tuple #[.agg ip4z, .slice none 0 0, .int .i64 E]) (results_row2 Try.results31 _ _ w.heap.size 79 ip4z (0, 0) _ rfl (setRow_heap _ w.heap.size _ ip4z _ _ HZ7.out) Try.underlying79 rfl (by kernel_rfl)) rfl ?_
                      have hRne : ¬ R = 0 := by omega
                      exact .inl ⟨hRne, by first | rfl | (rw [hRe] <;> rfl), below_setRow HB7.out (Nat.le_refl _) _⟩
            · have c3' : (C != 0) = true := by simpa using c3
              have hRe : R = 6 := HRE.out.trans (rd4_3 N0.out N1.out N2.out (by rw [← HH.out, ← HCC.out]; exact c3))
              go_wp2_with (first
                | (refine wpList_load_row rfl 79 (.tmp 5) rfl (w.heap.size + 1) rfl 79 ip4z (0, 0) _ HN4.out Try.underlying79 rfl (by kernel_rfl) ?_)
                | (refine wpList_store_row rfl 79 (.tmp 2) (.tmp 42) rfl w.heap.size ip4z rfl rfl 79 ip4z HZ4.out (by kernel_rfl) rfl ip4z_one ?_))
              refine bodyPost_ret (v := .tuple #[.agg ip4z, .slice none 0 0, .int .i64 6]) (results_row2 Try.results31 _ _ w.heap.size 79 ip4z (0, 0) _ rfl (setRow_heap _ w.heap.size _ ip4z _ _ HZ4.out) Try.underlying79 rfl (by kernel_rfl)) rfl ?_
              have hRne : ¬ R = 0 := by omega
              exact .inl ⟨hRne, by first | rfl | (rw [hRe] <;> rfl), below_setRow HB4.out (Nat.le_refl _) _⟩
      · have hv' : (f 0 / 16 != 4) = true := by simpa using hv
        go_upto_if 30 with fail
        have hRe : R = 5 := HRE.out.trans (rd4_1 N0.out (.inl hv))
        go_wp2_with (first
          | (refine wpList_load_row rfl 79 (.tmp 5) rfl (w.heap.size + 1) rfl 79 ip4z (0, 0) _ HN3.out Try.underlying79 rfl (by kernel_rfl) ?_)
          | (refine wpList_store_row rfl 79 (.tmp 2) (.tmp 31) rfl w.heap.size ip4z rfl rfl 79 ip4z HZ3.out (by kernel_rfl) rfl ip4z_one ?_))
        refine bodyPost_ret (v := .tuple #[.agg ip4z, .slice none 0 0, .int .i64 5]) (results_row2 Try.results31 _ _ w.heap.size 79 ip4z (0, 0) _ rfl (setRow_heap _ w.heap.size _ ip4z _ _ HZ3.out) Try.underlying79 rfl (by kernel_rfl)) rfl ?_
        have hRne : ¬ R = 0 := by omega
        exact .inl ⟨hRne, by first | rfl | (rw [hRe] <;> rfl), below_setRow HB3.out (Nat.le_refl _) _⟩
end Go.Proofs.Ytlchegibfopglaa
