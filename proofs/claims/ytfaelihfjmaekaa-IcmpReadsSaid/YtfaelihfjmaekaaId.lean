/- Layer 6, the document: the header of a packet within (four, six). -/
import Derived.Test.YtfaelihfjmaekaaIc
import Derived.Test.YtfaelihfjmaekaaRNum
namespace Go.Proofs.Ytfaelihfjmaekaa
open Go.RowKit
theorem tup_proto (v6 : Bool) (a b : Int) (s d : Nat → Int) (sp dp : Int) : (tupc v6 a s d sp dp).setIfInBounds 1 (.int .u8 b) = tupc v6 b s d sp dp := rfl
theorem tup_src (v6 : Bool) (a : Int) (s s' d : Nat → Int) (sp dp : Int) : laid (tupc v6 a s d sp dp) 2 (arr16 s').toList = tupc v6 a s' d sp dp := by kernel_rfl
theorem tup_dst (v6 : Bool) (a : Int) (s d d' : Nat → Int) (sp dp : Int) : laid (tupc v6 a s d sp dp) 18 (arr16 d').toList = tupc v6 a s d' sp dp := by kernel_rfl
theorem tup_sport (v6 : Bool) (a : Int) (s d : Nat → Int) (sp dp x : Int) : (tupc v6 a s d sp dp).setIfInBounds 34 (.int .u16 x) = tupc v6 a s d x dp := rfl
theorem tup_dport (v6 : Bool) (a : Int) (s d : Nat → Int) (sp dp x : Int) : (tupc v6 a s d sp dp).setIfInBounds 35 (.int .u16 x) = tupc v6 a s d sp x := rfl
set_option maxRecDepth 100000 in
set_option maxHeartbeats 4000000 in
theorem four_any (A : Option Addr) (n c : Nat) (f : Nat → Int) (hf : Byt f) (hn : n ≤ 140737488355328) (hcap : n ≤ c) (hc' : c ≤ 9223372036854775807) (w : World) (hr : Rd w w.heap.size A n f) :
    Calls Try.prog 18 #[.slice A n c] w (BkOut false (win4 f n) (winS false f) (winD false f) w) := by
  have HR := Lib.hid hr
  have HF := Lib.hid hf
  clear hr hf
  obtain ⟨R, hR⟩ : ∃ R, R = win4 f n := ⟨_, rfl⟩
  rw [← hR]
  have HRE := Lib.hid hR
  clear hR
  have HZ1 : Hid ((w.alloc (.cells tupz 27)).heap[w.heap.size]? = some (.cells tupz 27 (0, 0))) := heap_alloc_new w _
  have e1 : (w.alloc (.cells tupz 27)).heap.size = w.heap.size + 1 := by simp
  have HB1 : Hid (Below w.heap.size w (w.alloc (.cells tupz 27))) := below_alloc w _
  have HQ : Hid (((w.alloc (.cells tupz 27)).alloc (.cells tupz 27)).heap[w.heap.size + 1]? = some (.cells tupz 27 (0, 0))) := by rw [← e1]; exact heap_alloc_new _ _
  have HS1 := Lib.hid (TwS.new HZ1.out HB1.out tupz (tupc false 0 (fun _ => 0) (fun _ => 0) 0 0) (w.heap.size + 1) e1.symm)
  go_enter Try.func18, Try.ntmps18
  go_upto_if 10 with (first
    | (refine wpList_store_row rfl 27 (.tmp 5) (.tmp 7) rfl (w.heap.size + 1) (tupc false 0 (fun _ => 0) (fun _ => 0) 0 0) rfl rfl 27 tupz HQ.out (by kernel_rfl) rfl (tup_one ..) ?_))
  change Code.wp _ _ _ _ (((w.alloc (.cells tupz 27)).alloc (.cells tupz 27)).setRow (w.heap.size + 1) (tupc false 0 (fun _ => 0) (fun _ => 0) 0 0))
  clear HQ HZ1 HB1 e1
  generalize ((w.alloc (.cells tupz 27)).alloc (.cells tupz 27)).setRow (w.heap.size + 1) (tupc false 0 (fun _ => 0) (fun _ => 0) 0 0) = u1 at *
  obtain ⟨q, hq⟩ : ∃ q, q = w.heap.size + 1 := ⟨_, rfl⟩
  rw [← hq] at HS1 ⊢
  clear hq
  by_cases c0 : n < 20
  · have c0' : (n : Int) < 20 := by omega
    have hRe : R = (4, 0, 0) := HRE.out.trans (win4_0 c0)
    have hne : ¬ (4 : Int) = 0 := by decide
    go_wp2_with (first
      | (refine wpList_load_row rfl 27 (.tmp 5) rfl q rfl 27 (tupc false 0 (fun _ => 0) (fun _ => 0) 0 0) (0, 0) _ HS1.out.hd Try.underlying27 rfl (by kernel_rfl) ?_)
      | (refine wpList_store_row rfl 27 (.tmp 2) (.tmp 11) rfl w.heap.size (tupc false 0 (fun _ => 0) (fun _ => 0) 0 0) rfl rfl 27 tupz HS1.out.res (by kernel_rfl) rfl (tup_one ..) ?_))
    refine bodyPost_ret (v := .tuple #[.agg (tupc false 0 (fun _ => 0) (fun _ => 0) 0 0), .int .i64 0, .int .i64 4]) (results_row2 Try.results18 _ _ w.heap.size 27 (tupc false 0 (fun _ => 0) (fun _ => 0) 0 0) (0, 0) _ rfl (setRow_heap _ w.heap.size _ (tupc false 0 (fun _ => 0) (fun _ => 0) 0 0) _ _ HS1.out.res) Try.underlying27 rfl (by kernel_rfl)) rfl ?_
    exact ⟨false, 0, fun _ => 0, fun _ => 0, by first | rfl | (rw [hRe] <;> rfl), below_setRow HS1.out.below (Nat.le_refl _) _, fun h => absurd h (by first | exact hne | (rw [hRe]; exact hne))⟩
  · have N0 : Hid (¬ n < 20) := c0
    have c0' : (20 : Int) ≤ (n : Int) := by omega
    have n0 : 0 < n := by omega
    rcases HR.out with h0 | ⟨b, off, rfl, hbb, hcell⟩
    · omega
    have HC := Lib.hid hcell
    clear hcell
    have p0 := HF.out 0
    have x0 := (HS1.out.below.cell (p := ⟨b, off, none⟩) hbb).trans (HC.out 0 (by omega))
    have t0 : (f 0).tmod 16 = f 0 % 16 := Int.tmod_eq_emod_of_nonneg p0.1
    have t1 : (f 0).tdiv 16 = f 0 / 16 := Int.tdiv_eq_ediv_of_nonneg p0.1
    obtain ⟨H, hH⟩ : ∃ H, H = 4 * (f 0 % 16).toNat := ⟨_, rfl⟩
    have HH := Lib.hid hH
    have hH' : f 0 % 16 * 4 = (H : Int) := by omega
    have hHb : H ≤ 60 := by omega
    clear hH
    go_upto_region 5 with fail
    clear t0 hH'
    by_cases hv : f 0 / 16 = 4
    · have hv' : (f 0 / 16 != 4) = false := by simpa using hv
      by_cases c1 : H < 20
      · have c1' : (H : Int) < 20 := by omega
        have hRe : R = (5, 0, 0) := HRE.out.trans (win4_1 N0.out (.inr (by rw [← HH.out]; exact c1)))
        have hne : ¬ (5 : Int) = 0 := by decide
        go_upto_region 6 with fail
        go_wp2_with (first
          | (refine wpList_load_row rfl 27 (.tmp 5) rfl q rfl 27 (tupc false 0 (fun _ => 0) (fun _ => 0) 0 0) (0, 0) _ HS1.out.hd Try.underlying27 rfl (by kernel_rfl) ?_)
          | (refine wpList_store_row rfl 27 (.tmp 2) (.tmp 27) rfl w.heap.size (tupc false 0 (fun _ => 0) (fun _ => 0) 0 0) rfl rfl 27 tupz HS1.out.res (by kernel_rfl) rfl (tup_one ..) ?_))
        refine bodyPost_ret (v := .tuple #[.agg (tupc false 0 (fun _ => 0) (fun _ => 0) 0 0), .int .i64 0, .int .i64 5]) (results_row2 Try.results18 _ _ w.heap.size 27 (tupc false 0 (fun _ => 0) (fun _ => 0) 0 0) (0, 0) _ rfl (setRow_heap _ w.heap.size _ (tupc false 0 (fun _ => 0) (fun _ => 0) 0 0) _ _ HS1.out.res) Try.underlying27 rfl (by kernel_rfl)) rfl ?_
        exact ⟨false, 0, fun _ => 0, fun _ => 0, by first | rfl | (rw [hRe] <;> rfl), below_setRow HS1.out.below (Nat.le_refl _) _, fun h => absurd h (by first | exact hne | (rw [hRe]; exact hne))⟩
      · have c1' : (20 : Int) ≤ (H : Int) := by omega
        have N1 : Hid (¬ (f 0 / 16 ≠ 4 ∨ 4 * (f 0 % 16).toNat < 20)) := fun q => by
          rcases q with q | q
          · exact q hv
          · rw [← HH.out] at q; exact c1 q
        go_upto_if 31 with fail
        clear x0 hv hv' t1
        by_cases c2 : n < H
        · have c2' : (n : Int) < (H : Int) := by omega
          have hRe : R = (4, 0, 0) := HRE.out.trans (win4_2 N0.out N1.out (by rw [← HH.out]; exact c2))
          have hne : ¬ (4 : Int) = 0 := by decide
          go_wp2_with (first
            | (refine wpList_load_row rfl 27 (.tmp 5) rfl q rfl 27 (tupc false 0 (fun _ => 0) (fun _ => 0) 0 0) (0, 0) _ HS1.out.hd Try.underlying27 rfl (by kernel_rfl) ?_)
            | (refine wpList_store_row rfl 27 (.tmp 2) (.tmp 32) rfl w.heap.size (tupc false 0 (fun _ => 0) (fun _ => 0) 0 0) rfl rfl 27 tupz HS1.out.res (by kernel_rfl) rfl (tup_one ..) ?_))
          refine bodyPost_ret (v := .tuple #[.agg (tupc false 0 (fun _ => 0) (fun _ => 0) 0 0), .int .i64 0, .int .i64 4]) (results_row2 Try.results18 _ _ w.heap.size 27 (tupc false 0 (fun _ => 0) (fun _ => 0) 0 0) (0, 0) _ rfl (setRow_heap _ w.heap.size _ (tupc false 0 (fun _ => 0) (fun _ => 0) 0 0) _ _ HS1.out.res) Try.underlying27 rfl (by kernel_rfl)) rfl ?_
          exact ⟨false, 0, fun _ => 0, fun _ => 0, by first | rfl | (rw [hRe] <;> rfl), below_setRow HS1.out.below (Nat.le_refl _) _, fun h => absurd h (by first | exact hne | (rw [hRe]; exact hne))⟩
        · have N2 : Hid (¬ n < 4 * (f 0 % 16).toNat) := by rw [← HH.out]; exact c2
          have c2' : (H : Int) ≤ (n : Int) := by omega
          have HN6 : Hid (∀ W B, Rd W B (some ⟨b, off, none⟩) n f → Calls Try.prog 20 #[.slice (some ⟨b, off, none⟩) n c, .int .i64 6, .int .i64 2] W fun e w' => e = .returned (.int .u32 (w2 f 6)) ∧ W = w') := Lib.hid fun W B hr => by
            have h := rnum_any (some ⟨b, off, none⟩) n c 6 2 f HF.out (by omega) (by omega) (by omega) W B hr
            rw [numk_2] at h
            exact h
          have HRd1 := Lib.hid (.inr ⟨b, off, rfl, hbb, fun k hk => (HS1.out.below.cell (p := ⟨b, off + k, none⟩) hbb).trans (HC.out k hk)⟩ : Rd u1 w.heap.size (some ⟨b, off, none⟩) n f)
          have pG := w2_bd HF.out 6
          obtain ⟨G, hG⟩ : ∃ G, G = w2 f 6 := ⟨_, rfl⟩
          rw [← hG] at HN6 pG
          have HG := Lib.hid hG
          have tG : G.tmod 8192 = G % 8192 := Int.tmod_eq_emod_of_nonneg pG.1
          clear hG
          go_wp2_with fail
          go_at_call 20
          refine (HN6.out _ _ HRd1.out).mono ?_
          rintro e w' ⟨rfl, rfl⟩
          go_upto_if 36 with fail
          clear HN6 HRd1 tG pG
          by_cases c3 : G % 8192 = 0
          · have c3' : (G % 8192 != 0) = false := by simpa using c3
            have hRe : R = (0, H, f 9) := by rw [HH.out]; exact HRE.out.trans (win4_4 N0.out N1.out N2.out (by rw [← HG.out]; exact c3))
            have x9 := (HS1.out.below.cell (p := ⟨b, off + 9, none⟩) hbb).trans (HC.out 9 (by omega))
            have i9 : (9 : Int) < (n : Int) := by omega
            have x1 : u1.cell? ⟨q, 1, none⟩ = some (.int .u8 0) := blk_cell HS1.out.hd 1
            have y1 := blk_free HS1.out.hd 1
            have HS2 := Lib.hid (HS1.out.set 1 (.int .u8 (f 9)))
            rw [tup_proto] at HS2
            go_upto_region 12 with fail
            clear x9 i9 x1 y1 HS1 c3 c3'
            generalize u1.setCell ⟨q, 1, none⟩ (.int .u8 (f 9)) = u2 at *
            have HA1 := Lib.hid (addr_any b off n c 16 4 f (by omega) (by omega) (by omega) u2 (Nat.lt_of_lt_of_le hbb HS2.out.below.size) (fun k hk => (HS2.out.below.cell (p := ⟨b, off + k, none⟩) hbb).trans (HC.out k hk)))
            go_upto_region 13 with (first
              | (go_at_call 26; refine HA1.out.mono ?_; rintro e u3 ⟨rfl, hb3⟩; have HS3 := Lib.hid (HS2.out.step hb3); clear hb3)
              | (refine wpList_store_mid rfl 22 (.tmp 44) (.tmp 43) rfl q 2 (arr16 (fst16 f 16 4)) rfl rfl (blk_there HS3.out.hd (by show 2 + 16 ≤ 36; omega)) (by kernel_rfl) (arr16_one _) ?_))
            have HS4 := Lib.hid (HS3.out.cells 2 (arr16 (fst16 f 16 4)).toList)
            rw [tup_src] at HS4
            clear HS2 HS3 HA1
            generalize u3.setCells q 2 (arr16 (fst16 f 16 4)).toList = u4 at *
            have HA2 := Lib.hid (addr_any b off n c 12 4 f (by omega) (by omega) (by omega) u4 (Nat.lt_of_lt_of_le hbb HS4.out.below.size) (fun k hk => (HS4.out.below.cell (p := ⟨b, off + k, none⟩) hbb).trans (HC.out k hk)))
            go_upto_region 14 with (first
              | (go_at_call 26; refine HA2.out.mono ?_; rintro e u5 ⟨rfl, hb5⟩; have HS5 := Lib.hid (HS4.out.step hb5); clear hb5)
              | (refine wpList_store_mid rfl 22 (.tmp 47) (.tmp 46) rfl q 18 (arr16 (fst16 f 12 4)) rfl rfl (blk_there HS5.out.hd (by show 18 + 16 ≤ 36; omega)) (by kernel_rfl) (arr16_one _) ?_))
            have HS6 := Lib.hid (HS5.out.cells 18 (arr16 (fst16 f 12 4)).toList)
            rw [tup_dst] at HS6
            clear HS4 HS5 HA2
            generalize u5.setCells q 18 (arr16 (fst16 f 12 4)).toList = u6 at *
            go_wp2_with (first
              | (refine wpList_load_row rfl 27 (.tmp 5) rfl q rfl 27 (tupc false (f 9) (fst16 f 16 4) (fst16 f 12 4) 0 0) (0, 0) _ HS6.out.hd Try.underlying27 rfl (by kernel_rfl) ?_)
              | (refine wpList_store_row rfl 27 (.tmp 2) (.tmp 48) rfl w.heap.size (tupc false (f 9) (fst16 f 16 4) (fst16 f 12 4) 0 0) rfl rfl 27 tupz HS6.out.res (by kernel_rfl) rfl (tup_one ..) ?_))
            refine bodyPost_ret (v := .tuple #[.agg (tupc false (f 9) (fst16 f 16 4) (fst16 f 12 4) 0 0), .int .i64 (H : Int), .int .i64 0]) (results_row2 Try.results18 _ _ w.heap.size 27 (tupc false (f 9) (fst16 f 16 4) (fst16 f 12 4) 0 0) (0, 0) _ rfl (setRow_heap _ w.heap.size _ _ _ _ HS6.out.res) Try.underlying27 rfl (by kernel_rfl)) rfl ?_
            exact ⟨false, f 9, fst16 f 16 4, fst16 f 12 4, by rw [hRe], below_setRow HS6.out.below (Nat.le_refl _) _, fun _ => ⟨rfl, by rw [hRe], fun k _ => winS4 f k, fun k _ => winD4 f k⟩⟩
          · have c3' : (G % 8192 != 0) = true := by simpa using c3
            have hRe : R = (11, 0, 0) := HRE.out.trans (win4_3 N0.out N1.out N2.out (by rw [← HG.out]; exact c3))
            have hne : ¬ (11 : Int) = 0 := by decide
            go_wp2_with (first
              | (refine wpList_load_row rfl 27 (.tmp 5) rfl q rfl 27 (tupc false 0 (fun _ => 0) (fun _ => 0) 0 0) (0, 0) _ HS1.out.hd Try.underlying27 rfl (by kernel_rfl) ?_)
              | (refine wpList_store_row rfl 27 (.tmp 2) (.tmp 37) rfl w.heap.size (tupc false 0 (fun _ => 0) (fun _ => 0) 0 0) rfl rfl 27 tupz HS1.out.res (by kernel_rfl) rfl (tup_one ..) ?_))
            refine bodyPost_ret (v := .tuple #[.agg (tupc false 0 (fun _ => 0) (fun _ => 0) 0 0), .int .i64 0, .int .i64 11]) (results_row2 Try.results18 _ _ w.heap.size 27 (tupc false 0 (fun _ => 0) (fun _ => 0) 0 0) (0, 0) _ rfl (setRow_heap _ w.heap.size _ (tupc false 0 (fun _ => 0) (fun _ => 0) 0 0) _ _ HS1.out.res) Try.underlying27 rfl (by kernel_rfl)) rfl ?_
            exact ⟨false, 0, fun _ => 0, fun _ => 0, by first | rfl | (rw [hRe] <;> rfl), below_setRow HS1.out.below (Nat.le_refl _) _, fun h => absurd h (by first | exact hne | (rw [hRe]; exact hne))⟩
    · have hv' : (f 0 / 16 != 4) = true := by simpa using hv
      have hRe : R = (5, 0, 0) := HRE.out.trans (win4_1 N0.out (.inl hv))
      have hne : ¬ (5 : Int) = 0 := by decide
      go_upto_region 6 with fail
      go_wp2_with (first
        | (refine wpList_load_row rfl 27 (.tmp 5) rfl q rfl 27 (tupc false 0 (fun _ => 0) (fun _ => 0) 0 0) (0, 0) _ HS1.out.hd Try.underlying27 rfl (by kernel_rfl) ?_)
        | (refine wpList_store_row rfl 27 (.tmp 2) (.tmp 27) rfl w.heap.size (tupc false 0 (fun _ => 0) (fun _ => 0) 0 0) rfl rfl 27 tupz HS1.out.res (by kernel_rfl) rfl (tup_one ..) ?_))
      refine bodyPost_ret (v := .tuple #[.agg (tupc false 0 (fun _ => 0) (fun _ => 0) 0 0), .int .i64 0, .int .i64 5]) (results_row2 Try.results18 _ _ w.heap.size 27 (tupc false 0 (fun _ => 0) (fun _ => 0) 0 0) (0, 0) _ rfl (setRow_heap _ w.heap.size _ (tupc false 0 (fun _ => 0) (fun _ => 0) 0 0) _ _ HS1.out.res) Try.underlying27 rfl (by kernel_rfl)) rfl ?_
      exact ⟨false, 0, fun _ => 0, fun _ => 0, by first | rfl | (rw [hRe] <;> rfl), below_setRow HS1.out.below (Nat.le_refl _) _, fun h => absurd h (by first | exact hne | (rw [hRe]; exact hne))⟩
set_option maxRecDepth 100000 in
set_option maxHeartbeats 4000000 in
theorem six_any (A : Option Addr) (n c : Nat) (f : Nat → Int) (hf : Byt f) (hn : n ≤ 140737488355328) (hcap : n ≤ c) (hc' : c ≤ 9223372036854775807) (w : World) (hr : Rd w w.heap.size A n f) :
    Calls Try.prog 19 #[.slice A n c] w (BkOut true (win6 f n) (winS true f) (winD true f) w) := by
  have HR := Lib.hid hr
  have HF := Lib.hid hf
  clear hr hf
  obtain ⟨R, hR⟩ : ∃ R, R = win6 f n := ⟨_, rfl⟩
  rw [← hR]
  have HRE := Lib.hid hR
  clear hR
  have HZ1 : Hid ((w.alloc (.cells tupz 27)).heap[w.heap.size]? = some (.cells tupz 27 (0, 0))) := heap_alloc_new w _
  have e1 : (w.alloc (.cells tupz 27)).heap.size = w.heap.size + 1 := by simp
  have HB1 : Hid (Below w.heap.size w (w.alloc (.cells tupz 27))) := below_alloc w _
  have HQ : Hid (((w.alloc (.cells tupz 27)).alloc (.cells tupz 27)).heap[w.heap.size + 1]? = some (.cells tupz 27 (0, 0))) := by rw [← e1]; exact heap_alloc_new _ _
  have HS1 := Lib.hid (TwS.new HZ1.out HB1.out tupz (tupc true 0 (fun _ => 0) (fun _ => 0) 0 0) (w.heap.size + 1) e1.symm)
  go_enter Try.func19, Try.ntmps19
  go_upto_if 12 with (first
    | (refine wpList_store_row rfl 27 (.tmp 5) (.tmp 9) rfl (w.heap.size + 1) (tupc true 0 (fun _ => 0) (fun _ => 0) 0 0) rfl rfl 27 tupz HQ.out (by kernel_rfl) rfl (tup_one ..) ?_))
  change Code.wp _ _ _ _ (((w.alloc (.cells tupz 27)).alloc (.cells tupz 27)).setRow (w.heap.size + 1) (tupc true 0 (fun _ => 0) (fun _ => 0) 0 0))
  clear HQ HZ1 HB1 e1
  generalize ((w.alloc (.cells tupz 27)).alloc (.cells tupz 27)).setRow (w.heap.size + 1) (tupc true 0 (fun _ => 0) (fun _ => 0) 0 0) = u1 at *
  obtain ⟨q, hq⟩ : ∃ q, q = w.heap.size + 1 := ⟨_, rfl⟩
  rw [← hq] at HS1 ⊢
  clear hq
  by_cases c0 : n < 40
  · have c0' : (n : Int) < 40 := by omega
    have hRe : R = (4, 0, 0) := HRE.out.trans (win6_0 c0)
    have hne : ¬ (4 : Int) = 0 := by decide
    go_wp2_with (first
      | (refine wpList_load_row rfl 27 (.tmp 5) rfl q rfl 27 (tupc true 0 (fun _ => 0) (fun _ => 0) 0 0) (0, 0) _ HS1.out.hd Try.underlying27 rfl (by kernel_rfl) ?_)
      | (refine wpList_store_row rfl 27 (.tmp 2) (.tmp 13) rfl w.heap.size (tupc true 0 (fun _ => 0) (fun _ => 0) 0 0) rfl rfl 27 tupz HS1.out.res (by kernel_rfl) rfl (tup_one ..) ?_))
    refine bodyPost_ret (v := .tuple #[.agg (tupc true 0 (fun _ => 0) (fun _ => 0) 0 0), .int .i64 0, .int .i64 4]) (results_row2 Try.results19 _ _ w.heap.size 27 (tupc true 0 (fun _ => 0) (fun _ => 0) 0 0) (0, 0) _ rfl (setRow_heap _ w.heap.size _ (tupc true 0 (fun _ => 0) (fun _ => 0) 0 0) _ _ HS1.out.res) Try.underlying27 rfl (by kernel_rfl)) rfl ?_
    exact ⟨true, 0, fun _ => 0, fun _ => 0, by first | rfl | (rw [hRe] <;> rfl), below_setRow HS1.out.below (Nat.le_refl _) _, fun h => absurd h (by first | exact hne | (rw [hRe]; exact hne))⟩
  · have N0 : Hid (¬ n < 40) := c0
    have c0' : (40 : Int) ≤ (n : Int) := by omega
    have n0 : 0 < n := by omega
    rcases HR.out with h0 | ⟨b, off, rfl, hbb, hcell⟩
    · omega
    have HC := Lib.hid hcell
    clear hcell
    have p0 := HF.out 0
    have t1 : (f 0).tdiv 16 = f 0 / 16 := Int.tdiv_eq_ediv_of_nonneg p0.1
    have x0 := (HS1.out.below.cell (p := ⟨b, off, none⟩) hbb).trans (HC.out 0 (by omega))
    go_upto_if 18 with fail
    clear x0 t1
    by_cases hv : f 0 / 16 = 6
    · have hv' : (f 0 / 16 != 6) = false := by simpa using hv
      have N1 := Lib.hid hv
      clear hv
      obtain ⟨D, hsD, hrD⟩ := slice_any (some ⟨b, off, none⟩) n c 40 (by omega) hcap hc'
      have hsD' : ∀ W, (Instr.sliceAt 23 (.slice (some ⟨b, off, none⟩) n c) (some (.int .i64 40)) none none).run Try.prog W = .ok (.slice D (n - 40) (c - 40)) W := hsD
      have x6 := Stay.cell ((HS1.out.below.cell (p := ⟨b, off + 6, none⟩) hbb).trans (HC.out 6 (by omega)))
      have i6 : (6 : Int) < (n : Int) := by omega
      have HRb : Hid (Rd u1 u1.heap.size (some ⟨b, off, none⟩) n f) := (HR.out.keep HS1.out.below).more HS1.out.below.size
      obtain ⟨X, hX⟩ : ∃ X, X = chn (fun k => f (40 + k)) (n - 40) 8 (f 6) 0 := ⟨_, rfl⟩
      have HCH : Hid (∀ W : Stay u1, Calls Try.prog 27 #[.int .u8 (f 6), .slice D (n - 40) (c - 40)] W.w fun e w' => e = .returned (.tuple #[.int .u8 X.1, .int .i64 (X.2.1 : Int), .int .i64 X.2.2]) ∧ Below W.w.heap.size W.w w') := Lib.hid fun W => by
        rw [hX]
        exact rchain_any (f 6) (HF.out 6) D (n - 40) (c - 40) (fun k => f (40 + k)) (fun k => HF.out _) (by omega) (by omega) (by omega) W.w (hrD _ _ _ (Stay.rd HRb.out W))
      have HXX : Hid (X = wch f n) := Lib.hid (by rw [hX]; rfl)
      obtain ⟨p, m, E⟩ := X
      clear hX hsD hrD
      go_upto_region 6 with fail
      refine wp_region_stay (by kernel_rfl) (by kernel_rfl) ?_
      repeat (go_big_quiet_step (first
        | (go_at_call 27; with_reducible exact Calls.stay _ (HCH.out _))))
      refine wpQuiet_nil ?_
      intro w' hw'
      obtain ⟨W, rfl⟩ := hw'
      have hb2 := W.below
      obtain ⟨u2, hu2⟩ : ∃ u, u = W.w := ⟨_, rfl⟩
      rw [← hu2] at hb2 ⊢
      clear hu2 W
      have HS2 := Lib.hid (HS1.out.step hb2)
      clear hb2 HS1 HCH x6 i6 HRb
      go_upto_if 31 with fail
      by_cases c3 : E = 0
      · subst c3
        have hRe : R = (0, 40 + m, p) := HRE.out.trans ((win6_3 N0.out N1.out (by rw [← HXX.out])).trans (by rw [← HXX.out]))
        have hmL : m ≤ n - 40 := (chn_same (f := fun k => f (40 + k)) (g := fun k => f (40 + k)) (N := n - 40) (N' := n - 40) 8 (f 6) 0 p m HXX.out.symm (Nat.zero_le _)).2.2
        have x1 : u2.cell? ⟨q, 1, none⟩ = some (.int .u8 0) := blk_cell HS2.out.hd 1
        have y1 := blk_free HS2.out.hd 1
        have HS3 := Lib.hid (HS2.out.set 1 (.int .u8 p))
        rw [tup_proto] at HS3
        go_upto_region 10 with fail
        clear x1 y1 HS2
        generalize u2.setCell ⟨q, 1, none⟩ (.int .u8 p) = u3 at *
        have HA1 := Lib.hid (addr_any b off n c 24 16 f (by omega) (by omega) (by omega) u3 (Nat.lt_of_lt_of_le hbb HS3.out.below.size) (fun k hk => (HS3.out.below.cell (p := ⟨b, off + k, none⟩) hbb).trans (HC.out k hk)))
        go_upto_region 11 with (first
          | (go_at_call 26; refine HA1.out.mono ?_; rintro e u4 ⟨rfl, hb4⟩; have HS4 := Lib.hid (HS3.out.step hb4); clear hb4)
          | (refine wpList_store_mid rfl 22 (.tmp 38) (.tmp 37) rfl q 2 (arr16 (fst16 f 24 16)) rfl rfl (blk_there HS4.out.hd (by show 2 + 16 ≤ 36; omega)) (by kernel_rfl) (arr16_one _) ?_))
        have HS5 := Lib.hid (HS4.out.cells 2 (arr16 (fst16 f 24 16)).toList)
        rw [tup_src] at HS5
        clear HS3 HS4 HA1
        generalize u4.setCells q 2 (arr16 (fst16 f 24 16)).toList = u5 at *
        have HA2 := Lib.hid (addr_any b off n c 8 16 f (by omega) (by omega) (by omega) u5 (Nat.lt_of_lt_of_le hbb HS5.out.below.size) (fun k hk => (HS5.out.below.cell (p := ⟨b, off + k, none⟩) hbb).trans (HC.out k hk)))
        go_upto_region 12 with (first
          | (go_at_call 26; refine HA2.out.mono ?_; rintro e u6 ⟨rfl, hb6⟩; have HS6 := Lib.hid (HS5.out.step hb6); clear hb6)
          | (refine wpList_store_mid rfl 22 (.tmp 41) (.tmp 40) rfl q 18 (arr16 (fst16 f 8 16)) rfl rfl (blk_there HS6.out.hd (by show 18 + 16 ≤ 36; omega)) (by kernel_rfl) (arr16_one _) ?_))
        have HS7 := Lib.hid (HS6.out.cells 18 (arr16 (fst16 f 8 16)).toList)
        rw [tup_dst] at HS7
        clear HS5 HS6 HA2
        generalize u6.setCells q 18 (arr16 (fst16 f 8 16)).toList = u7 at *
        have hw40 : IntKind.i64.wrap (40 + (m : Int)) = 40 + (m : Int) := by rw [IntKind.wrap_i64]; omega
        go_wp2_with (first
          | (refine wpList_load_row rfl 27 (.tmp 5) rfl q rfl 27 (tupc true p (fst16 f 24 16) (fst16 f 8 16) 0 0) (0, 0) _ HS7.out.hd Try.underlying27 rfl (by kernel_rfl) ?_)
          | (refine wpList_store_row rfl 27 (.tmp 2) (.tmp 42) rfl w.heap.size (tupc true p (fst16 f 24 16) (fst16 f 8 16) 0 0) rfl rfl 27 tupz HS7.out.res (by kernel_rfl) rfl (tup_one ..) ?_))
        refine bodyPost_ret (v := .tuple #[.agg (tupc true p (fst16 f 24 16) (fst16 f 8 16) 0 0), .int .i64 (40 + (m : Int)), .int .i64 0]) (results_row2 Try.results19 _ _ w.heap.size 27 (tupc true p (fst16 f 24 16) (fst16 f 8 16) 0 0) (0, 0) _ rfl (setRow_heap _ w.heap.size _ _ _ _ HS7.out.res) Try.underlying27 rfl (by kernel_rfl)) rfl ?_
        exact ⟨true, p, fst16 f 24 16, fst16 f 8 16, by rw [hRe]; simp, below_setRow HS7.out.below (Nat.le_refl _) _, fun _ => ⟨rfl, by rw [hRe], fun k hk => winS6 f k hk, fun k hk => winD6 f k hk⟩⟩
      · have c3' : (E != 0) = true := by simpa using c3
        have hRe : R = (E, 0, 0) := HRE.out.trans ((win6_2 N0.out N1.out (by rw [← HXX.out]; exact c3)).trans (by rw [← HXX.out]))
        have hne : ¬ E = 0 := c3
        go_wp2_with (first
          | (refine wpList_load_row rfl 27 (.tmp 5) rfl q rfl 27 (tupc true 0 (fun _ => 0) (fun _ => 0) 0 0) (0, 0) _ HS2.out.hd Try.underlying27 rfl (by kernel_rfl) ?_)
          | (refine wpList_store_row rfl 27 (.tmp 2) (.tmp 32) rfl w.heap.size (tupc true 0 (fun _ => 0) (fun _ => 0) 0 0) rfl rfl 27 tupz HS2.out.res (by kernel_rfl) rfl (tup_one ..) ?_))
        refine bodyPost_ret (v := .tuple #[.agg (tupc true 0 (fun _ => 0) (fun _ => 0) 0 0), .int .i64 0, .int .i64 E]) (results_row2 Try.results19 _ _ w.heap.size 27 (tupc true 0 (fun _ => 0) (fun _ => 0) 0 0) (0, 0) _ rfl (setRow_heap _ w.heap.size _ (tupc true 0 (fun _ => 0) (fun _ => 0) 0 0) _ _ HS2.out.res) Try.underlying27 rfl (by kernel_rfl)) rfl ?_
        exact ⟨true, 0, fun _ => 0, fun _ => 0, by first | rfl | (rw [hRe] <;> rfl), below_setRow HS2.out.below (Nat.le_refl _) _, fun h => absurd h (by first | exact hne | (rw [hRe]; exact hne))⟩
    · have hv' : (f 0 / 16 != 6) = true := by simpa using hv
      have hRe : R = (5, 0, 0) := HRE.out.trans (win6_1 N0.out hv)
      have hne : ¬ (5 : Int) = 0 := by decide
      go_wp2_with (first
        | (refine wpList_load_row rfl 27 (.tmp 5) rfl q rfl 27 (tupc true 0 (fun _ => 0) (fun _ => 0) 0 0) (0, 0) _ HS1.out.hd Try.underlying27 rfl (by kernel_rfl) ?_)
        | (refine wpList_store_row rfl 27 (.tmp 2) (.tmp 19) rfl w.heap.size (tupc true 0 (fun _ => 0) (fun _ => 0) 0 0) rfl rfl 27 tupz HS1.out.res (by kernel_rfl) rfl (tup_one ..) ?_))
      refine bodyPost_ret (v := .tuple #[.agg (tupc true 0 (fun _ => 0) (fun _ => 0) 0 0), .int .i64 0, .int .i64 5]) (results_row2 Try.results19 _ _ w.heap.size 27 (tupc true 0 (fun _ => 0) (fun _ => 0) 0 0) (0, 0) _ rfl (setRow_heap _ w.heap.size _ (tupc true 0 (fun _ => 0) (fun _ => 0) 0 0) _ _ HS1.out.res) Try.underlying27 rfl (by kernel_rfl)) rfl ?_
      exact ⟨true, 0, fun _ => 0, fun _ => 0, by first | rfl | (rw [hRe] <;> rfl), below_setRow HS1.out.below (Nat.le_refl _) _, fun h => absurd h (by first | exact hne | (rw [hRe]; exact hne))⟩
end Go.Proofs.Ytfaelihfjmaekaa
