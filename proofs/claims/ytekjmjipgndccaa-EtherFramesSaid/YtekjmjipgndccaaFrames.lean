/- EtherFrames: the walk. -/
import Derived.Test.YtekjmjipgndccaaAll
namespace Go.Proofs.Ytekjmjipgndccaa
open Go.RowKit
set_option maxRecDepth 100000 in
set_option maxHeartbeats 400000 in
theorem frames_long (x y : Nat → Int) (k : Int) (A : Option Addr) (n c : Nat) (hn : 4000 < n) (hn' : n ≤ 9223372036854775807) (w : World) : Calls Try.prog 3 #[.agg (eth x y k), .slice A n c] w fun e w' => e = .returned (.bool true) ∧ Below w.heap.size w w' := by
  go_enter Try.func3, Try.ntmps3
  go_wp2_with (go_at_call 6; refine (known_any _).mono ?_; rintro e w1 ⟨rfl, hb1⟩)
  go_ret
  exact ⟨rfl, ((Below.refl _ _).alloc (Nat.le_refl _) _).trans (hb1.mono (by simp))⟩
theorem Own.cap_le {w : World} {base : Nat} {e : TypeId} {A : Option Addr} {n c : Nat} {f : Nat → Int} (h : Own w base e A n c f) : c ≤ 9223372036854775807 := by
  rcases h.2 with ⟨hv, _⟩ | ⟨g, cap, cur, hv, _, _, _, hm, _⟩
  · injection hv with _ _ h3
    omega
  · injection hv with _ _ h3
    unfold maxLen at hm
    omega
set_option maxRecDepth 100000 in
set_option maxHeartbeats 2000000 in
theorem frames_short (x y : Nat → Int) (hx : Byt x) (hy : Byt y) (k : Int) (hk : 0 ≤ k) (hk' : k ≤ 65535) (A : Option Addr) (n c : Nat) (f : Nat → Int) (hf : Byt f) (hn : n ≤ 4000) (hcap : n ≤ c) (hc' : c ≤ 9223372036854775807) (w : World) (hr : Rd w w.heap.size A n f) :
    Calls Try.prog 3 #[.agg (eth x y k), .slice A n c] w fun e w' => e = .returned (.bool true) ∧ Below w.heap.size w w' := by
  obtain ⟨X, Y, K, m, g, r, hX, hY, hK, hg, hm, hr01, _, r7, r8⟩ := read_both n f hf hn
  obtain ⟨mu, u, hu01, w9, w10⟩ := write_both x y hx hy k hk hk' n f hf hn
  have HR7 := Lib.hid r7
  have HR8 := Lib.hid r8
  have HW9 := Lib.hid w9
  have HW10 := Lib.hid w10
  have hmu : mu ≤ 1660 := by omega
  have HG := Lib.hid hg
  have HU : Hid (Byt (frm x y k f)) := frm_byt hx hy hk hk' hf
  clear r7 r8 w9 w10 hg hX hY
  obtain ⟨i0, hi0, hz0, hz1, hz2⟩ := info_parts Try.info5
  have HI0 := Lib.hid hi0
  have HZ0 := Lib.hid hz0
  have HZ1 := Lib.hid hz1
  have HZ2 := Lib.hid hz2
  have HF := Lib.hid hf
  have HR := Lib.hid hr
  clear hi0 hz0 hz1 hz2 hf hr
  go_enter Try.func3, Try.ntmps3
  go_wp2_with (first
    | (at_builtin
       refine wpList_append_rd rfl (.tmp 22) (.tmp 23) _ rfl w.heap.size 5 i0 Try.underlying26 HI0.out HZ0.out HZ1.out HZ2.out (n := 0) (f := f) rfl (Own.fresh _ _ _ (by simp) (alloc_le _ _) 5 f) rfl (HR.out.keep (below_alloc2 _ _ _)) (by omega) (alloc_le2 _ _ _) ?_
       intro A1 c1 w1 hown1 hg1 _
       have HB1 : Hid (Below w.heap.size w w1) := (below_alloc2 _ _ _).grown hg1 (alloc_le2 _ _ _) (by intro k hk; simp [Value.ownBlock] at hk; omega)
       have HE1 : Hid (w1.heap[w.heap.size]? = some (.cells (eth x y k) 25 (0, 0))) := (hg1.block w.heap.size (by simp; omega) (by simp [Value.ownBlock])).trans (blk_old (heap_alloc_new w _) _)
       have HO1 : Hid (Own w1 w.heap.size 5 A1 n c1 f) := by
         have e := hown1.same (g := f) (by intro k _; simp [cat])
         rw [Nat.zero_add] at e
         exact e
       have hc1 : n ≤ c1 := HO1.out.cap
       clear hown1 hg1))
  have hc1' : c1 ≤ 9223372036854775807 := HO1.out.cap_le
  have hs1 : w.heap.size + 1 ≤ w1.heap.size := lt_heap HE1.out
  have HRin : Hid (Rd w1 w1.heap.size A1 n f) := HO1.out.rd
  go_at_call 7
  refine (HR7.out A1 c1 w1 hc1 hc1' HRin.out).mono ?_
  rintro e w2 ⟨P, cp, rfl, hp2, hb2⟩
  have HP2 := Lib.hid hp2
  have HE2 : Hid (w2.heap[w.heap.size]? = some (.cells (eth x y k) 25 (0, 0))) := (hb2.block _ (lt_heap HE1.out)).trans HE1.out
  have HB2 := Lib.hid hb2
  have hs2 : w1.heap.size ≤ w2.heap.size := hb2.size
  have hPlt : ∀ gp, P = some ⟨gp, 0, none⟩ → 0 < m → gp < w2.heap.size := fun gp e h0 => by
    obtain ⟨g', e', _, hlt, _⟩ := HP2.out.lies h0
    rw [e] at e'
    injection e' with e'
    injection e' with e'
    omega
  have HPL := Lib.hid hPlt
  clear hp2 hb2 hPlt HE1 HO1
  go_wp2_with fail
  have HRb : Hid (Rd (w2.alloc (.cells #[.int .u8 (X 0), .int .u8 (X 1), .int .u8 (X 2), .int .u8 (X 3), .int .u8 (X 4), .int .u8 (X 5), .int .u8 (Y 0), .int .u8 (Y 1), .int .u8 (Y 2), .int .u8 (Y 3), .int .u8 (Y 4), .int .u8 (Y 5), .int .u16 K] 25)) (w2.alloc (.cells #[.int .u8 (X 0), .int .u8 (X 1), .int .u8 (X 2), .int .u8 (X 3), .int .u8 (X 4), .int .u8 (X 5), .int .u8 (Y 0), .int .u8 (Y 1), .int .u8 (Y 2), .int .u8 (Y 3), .int .u8 (Y 4), .int .u8 (Y 5), .int .u16 K] 25)).heap.size A n f) := by
    have q : Below w.heap.size w (w2.alloc (.cells #[.int .u8 (X 0), .int .u8 (X 1), .int .u8 (X 2), .int .u8 (X 3), .int .u8 (X 4), .int .u8 (X 5), .int .u8 (Y 0), .int .u8 (Y 1), .int .u8 (Y 2), .int .u8 (Y 3), .int .u8 (Y 4), .int .u8 (Y 5), .int .u16 K] 25)) := (HB1.out.trans (HB2.out.mono HB1.out.size)).alloc (Nat.le_trans HB1.out.size HB2.out.size) _
    exact (HR.out.keep q).more q.size
  go_at_call 8
  refine (HR8.out A c _ hcap hc' HRb.out).mono ?_
  rintro e w3 ⟨Q, cq, rfl, hq3, hb3⟩
  have HB3 : Hid (Below w2.heap.size w2 w3) := (below_alloc w2 _).trans (hb3.mono (alloc_le w2 _))
  have HX3 : Hid (w3.heap[w2.heap.size]? = some (.cells (eth X Y K) 25 (0, 0))) := (hb3.block _ (lt_heap (heap_alloc_new w2 _))).trans (heap_alloc_new w2 _)
  have HQ3 := Lib.hid hq3
  clear hq3 hb3 HRb
  -- the two compared
  have HB4 : Hid (Below w2.heap.size w2 (w3.alloc (.cells #[.int .u8 (X 0), .int .u8 (X 1), .int .u8 (X 2), .int .u8 (X 3), .int .u8 (X 4), .int .u8 (X 5), .int .u8 (Y 0), .int .u8 (Y 1), .int .u8 (Y 2), .int .u8 (Y 3), .int .u8 (Y 4), .int .u8 (Y 5), .int .u16 K] 25))) := HB3.out.alloc HB3.out.size _
  have HX4 : Hid ((w3.alloc (.cells #[.int .u8 (X 0), .int .u8 (X 1), .int .u8 (X 2), .int .u8 (X 3), .int .u8 (X 4), .int .u8 (X 5), .int .u8 (Y 0), .int .u8 (Y 1), .int .u8 (Y 2), .int .u8 (Y 3), .int .u8 (Y 4), .int .u8 (Y 5), .int .u16 K] 25)).heap[w2.heap.size]? = some (.cells (eth X Y K) 25 (0, 0))) := blk_old HX3.out _
  have HY4 : Hid ((w3.alloc (.cells #[.int .u8 (X 0), .int .u8 (X 1), .int .u8 (X 2), .int .u8 (X 3), .int .u8 (X 4), .int .u8 (X 5), .int .u8 (Y 0), .int .u8 (Y 1), .int .u8 (Y 2), .int .u8 (Y 3), .int .u8 (Y 4), .int .u8 (Y 5), .int .u16 K] 25)).heap[w3.heap.size]? = some (.cells (eth X Y K) 25 (0, 0))) := heap_alloc_new w3 _
  have HE4 : Hid ((w3.alloc (.cells #[.int .u8 (X 0), .int .u8 (X 1), .int .u8 (X 2), .int .u8 (X 3), .int .u8 (X 4), .int .u8 (X 5), .int .u8 (Y 0), .int .u8 (Y 1), .int .u8 (Y 2), .int .u8 (Y 3), .int .u8 (Y 4), .int .u8 (Y 5), .int .u16 K] 25)).heap[w.heap.size]? = some (.cells (eth x y k) 25 (0, 0))) := (HB4.out.block _ (lt_heap HE2.out)).trans HE2.out
  have HQ4 : Hid (Own (w3.alloc (.cells #[.int .u8 (X 0), .int .u8 (X 1), .int .u8 (X 2), .int .u8 (X 3), .int .u8 (X 4), .int .u8 (X 5), .int .u8 (Y 0), .int .u8 (Y 1), .int .u8 (Y 2), .int .u8 (Y 3), .int .u8 (Y 4), .int .u8 (Y 5), .int .u16 K] 25)) _ 5 Q m cq g) := HQ3.out.alloc _
  have HP4 : Hid (Own (w3.alloc (.cells #[.int .u8 (X 0), .int .u8 (X 1), .int .u8 (X 2), .int .u8 (X 3), .int .u8 (X 4), .int .u8 (X 5), .int .u8 (Y 0), .int .u8 (Y 1), .int .u8 (Y 2), .int .u8 (Y 3), .int .u8 (Y 4), .int .u8 (Y 5), .int .u16 K] 25)) w1.heap.size 5 P m cp g) := HP2.out.below HB4.out
  have hc7 : (convert 26 9 (.slice P m cp)).run Try.prog (w3.alloc (.cells #[.int .u8 (X 0), .int .u8 (X 1), .int .u8 (X 2), .int .u8 (X 3), .int .u8 (X 4), .int .u8 (X 5), .int .u8 (Y 0), .int .u8 (Y 1), .int .u8 (Y 2), .int .u8 (Y 3), .int .u8 (Y 4), .int .u8 (Y 5), .int .u16 K] 25)) = .ok (.string (strOfNums (nums m g))) (w3.alloc (.cells #[.int .u8 (X 0), .int .u8 (X 1), .int .u8 (X 2), .int .u8 (X 3), .int .u8 (X 4), .int .u8 (X 5), .int .u8 (Y 0), .int .u8 (Y 1), .int .u8 (Y 2), .int .u8 (Y 3), .int .u8 (Y 4), .int .u8 (Y 5), .int .u16 K] 25)) := run_convert_rd HP4.out.rd 26 5 9 cp Try.underlying26 Try.underlying5 Try.underlying9
  have hc8 : (convert 26 9 (.slice Q m cq)).run Try.prog (w3.alloc (.cells #[.int .u8 (X 0), .int .u8 (X 1), .int .u8 (X 2), .int .u8 (X 3), .int .u8 (X 4), .int .u8 (X 5), .int .u8 (Y 0), .int .u8 (Y 1), .int .u8 (Y 2), .int .u8 (Y 3), .int .u8 (Y 4), .int .u8 (Y 5), .int .u16 K] 25)) = .ok (.string (strOfNums (nums m g))) (w3.alloc (.cells #[.int .u8 (X 0), .int .u8 (X 1), .int .u8 (X 2), .int .u8 (X 3), .int .u8 (X 4), .int .u8 (X 5), .int .u8 (Y 0), .int .u8 (Y 1), .int .u8 (Y 2), .int .u8 (Y 3), .int .u8 (Y 4), .int .u8 (Y 5), .int .u16 K] 25)) := run_convert_rd HQ4.out.rd 26 5 9 cq Try.underlying26 Try.underlying5 Try.underlying9
  have heq : ∀ w, (Op.equalIn 10000 25 (.agg #[.int .u8 (X 0), .int .u8 (X 1), .int .u8 (X 2), .int .u8 (X 3), .int .u8 (X 4), .int .u8 (X 5), .int .u8 (Y 0), .int .u8 (Y 1), .int .u8 (Y 2), .int .u8 (Y 3), .int .u8 (Y 4), .int .u8 (Y 5), .int .u16 K]) (.agg #[.int .u8 (X 0), .int .u8 (X 1), .int .u8 (X 2), .int .u8 (X 3), .int .u8 (X 4), .int .u8 (X 5), .int .u8 (Y 0), .int .u8 (Y 1), .int .u8 (Y 2), .int .u8 (Y 3), .int .u8 (Y 4), .int .u8 (Y 5), .int .u16 K])).run Try.prog w = .ok true w := fun w => by
    have e := equal13 9997 X Y X Y K K w
    rw [same6_self, same6_self] at e
    have e1 : (true && (true && K == K)) = true := by simp
    rw [e1] at e
    exact e
  clear HX3 HQ3 HE2 HB3
  generalize strOfNums (nums m g) = S1 at *
  obtain ⟨a0, a1, a2, a3, a4, a5, a6, a7, a8, a9, a10, a11, a12⟩ := eth_cells HX4.out
  obtain ⟨b0, b1, b2, b3, b4, b5, b6, b7, b8, b9, b10, b11, b12⟩ := eth_cells HY4.out
  obtain ⟨d0, d1, d2, d3, d4, d5, d6, d7, d8, d9, d10, d11, d12⟩ := eth_cells HE4.out
  go_wp2_with fail
  clear heq hc7 hc8 a0 a1 a2 a3 a4 a5 a6 a7 a8 a9 a10 a11 a12 b0 b1 b2 b3 b4 b5 b6 b7 b8 b9 b10 b11 b12 d0 d1 d2 d3 d4 d5 d6 d7 d8 d9 d10 d11 d12 HX4 HY4 HQ4
  have HB5 : Hid (Below w1.heap.size w1 (w3.alloc (.cells #[.int .u8 (X 0), .int .u8 (X 1), .int .u8 (X 2), .int .u8 (X 3), .int .u8 (X 4), .int .u8 (X 5), .int .u8 (Y 0), .int .u8 (Y 1), .int .u8 (Y 2), .int .u8 (Y 3), .int .u8 (Y 4), .int .u8 (Y 5), .int .u16 K] 25))) := HB2.out.trans (HB4.out.mono HB2.out.size)
  have hs5 : w2.heap.size ≤ (w3.alloc (.cells #[.int .u8 (X 0), .int .u8 (X 1), .int .u8 (X 2), .int .u8 (X 3), .int .u8 (X 4), .int .u8 (X 5), .int .u8 (Y 0), .int .u8 (Y 1), .int .u8 (Y 2), .int .u8 (Y 3), .int .u8 (Y 4), .int .u8 (Y 5), .int .u16 K] 25)).heap.size := HB4.out.size
  generalize w3.alloc (.cells #[.int .u8 (X 0), .int .u8 (X 1), .int .u8 (X 2), .int .u8 (X 3), .int .u8 (X 4), .int .u8 (X 5), .int .u8 (Y 0), .int .u8 (Y 1), .int .u8 (Y 2), .int .u8 (Y 3), .int .u8 (Y 4), .int .u8 (Y 5), .int .u16 K] 25) = w4 at *
  clear HB4 HB2
  go_at_call 9
  refine (HW9.out A1 c1 w4 hc1 hc1' ((HRin.out.keep HB5.out).more HB5.out.size)).mono ?_
  rintro e w5 ⟨U, cu, rfl, hu5, hb5⟩
  have HU5 := Lib.hid hu5
  have HP5 := Lib.hid (HP4.out.below hb5)
  have HE5 : Hid (w5.heap[w.heap.size]? = some (.cells (eth x y k) 25 (0, 0))) := (hb5.block _ (lt_heap HE4.out)).trans HE4.out
  have HB6 : Hid (Below w1.heap.size w1 w5) := HB5.out.trans (hb5.mono HB5.out.size)
  have hs6 : w4.heap.size ≤ w5.heap.size := hb5.size
  clear hu5 hb5 HP4 HE4 HB5
  obtain ⟨d0, d1, d2, d3, d4, d5, d6, d7, d8, d9, d10, d11, d12⟩ := eth_cells HE5.out
  go_wp2_with fail
  clear d0 d1 d2 d3 d4 d5 d6 d7 d8 d9 d10 d11 d12
  have HRb : Hid (Rd w5 w5.heap.size A n f) := by
    have q : Below w.heap.size w w5 := HB1.out.trans (HB6.out.mono HB1.out.size)
    exact (HR.out.keep q).more q.size
  go_at_call 10
  refine (HW10.out A c w5 hcap hc' HRb.out).mono ?_
  rintro e w6 ⟨V, cv, rfl, hv6, hb6⟩
  have HV6 := Lib.hid hv6
  have HU6 := Lib.hid (HU5.out.below hb6)
  have HP6 := Lib.hid (HP5.out.below hb6)
  have HE6 : Hid (w6.heap[w.heap.size]? = some (.cells (eth x y k) 25 (0, 0))) := (hb6.block _ (lt_heap HE5.out)).trans HE5.out
  have HB7 : Hid (Below w1.heap.size w1 w6) := HB6.out.trans (hb6.mono HB6.out.size)
  clear hv6 hb6 HP5 HE5 HU5 HB6 HRb HR7 HR8 HW9 HW10
  go_wp2_with fail
  have hk6 : w6.cell? ⟨w.heap.size, 12, none⟩ = some (.int .u16 k) := blk_cell HE6.out 12
  have hL := Stay.cell hk6
  have hvU : ∀ W : Stay w6, (convert 26 9 (.slice U mu cu)).run Try.prog W.w = .ok (.string (strOfNums (nums mu (frm x y k f)))) W.w := fun W => run_convert_rd (Stay.rd HU6.out.rd W) 26 5 9 cu Try.underlying26 Try.underlying5 Try.underlying9
  have hvV : ∀ W : Stay w6, (convert 26 9 (.slice V mu cv)).run Try.prog W.w = .ok (.string (strOfNums (nums mu (frm x y k f)))) W.w := fun W => run_convert_rd (Stay.rd HV6.out.rd W) 26 5 9 cv Try.underlying26 Try.underlying5 Try.underlying9
  generalize strOfNums (nums mu (frm x y k f)) = S2 at *
  have H11 := Lib.hid fun W => still_below (ours_any k W)
  have H12 := Lib.hid fun W => still_below (rours_any k W)
  generalize decide (k = 2048 ∨ k = 34525) = ob at *
  clear hk6
  refine wp_region_stay (by kernel_rfl) (by kernel_rfl) ?_
  repeat (go_big_quiet_step (first
    | (go_at_call 11; with_reducible exact Calls.stay _ (H11.out _))
    | (go_at_call 12; with_reducible exact Calls.stay _ (H12.out _))))
  refine wpQuiet_nil ?_
  intro w' hw'
  obtain ⟨W, rfl⟩ := hw'
  have hb7 := W.below
  go_wp2_with fail
  have HP7 := Lib.hid (HP6.out.below hb7)
  have HU7 := Lib.hid (HU6.out.below hb7)
  have HB8 : Hid (Below w1.heap.size w1 W.w) := HB7.out.trans (hb7.mono HB7.out.size)
  clear HP6 HU6 HB7 hb7 hL hvU hvV HV6 HE6
  generalize W.w = w7 at *
  go_loopw [85] (fun i wr => ∃ j : Nat, j ≤ m ∧ i = .int .i64 j ∧ Own wr w1.heap.size 5 P m cp (inc g j) ∧ Own wr w4.heap.size 5 U mu cu (frm x y k f) ∧ Below w1.heap.size w1 wr) (fun i _ => m - (intOf i).toNat)
  case atStart => exact ⟨0, by omega, rfl, HP7.out.same fun k _ => inc_start g k, HU7.out, HB8.out⟩
  case round =>
    clear HP7 HU7 HB8
    obtain ⟨j, hj, rfl, hp, hu, hbl⟩ := hrel
    have HP := Lib.hid hp
    have HUr := Lib.hid hu
    have HBr := Lib.hid hbl
    clear hp hu hbl
    by_cases hlt : j < m
    · obtain ⟨gp, hPe, hgb, _, hcell, hfree⟩ := HP.out.lies (by omega)
      have hgl := HPL.out gp hPe (by omega)
      subst hPe
      have hx := hcell j hlt
      rw [inc_at] at hx
      have hfx := hfree j
      obtain ⟨g0, g1⟩ := HG.out j
      have HN : Hid (Own (wr.setCell ⟨gp, j, none⟩ (.int .u8 ((g j + 1) % 256))) w1.heap.size 5 (some ⟨gp, 0, none⟩) m cp (inc g (j + 1))) := (HP.out.set_ j ((g j + 1) % 256)).same fun q _ => inc_step g j q
      have HUN : Hid (Own (wr.setCell ⟨gp, j, none⟩ (.int .u8 ((g j + 1) % 256))) w4.heap.size 5 U mu cu (frm x y k f)) := HUr.out.far (by show gp < w4.heap.size; omega) _
      have HBN : Hid (Below w1.heap.size w1 (wr.setCell ⟨gp, j, none⟩ (.int .u8 ((g j + 1) % 256)))) := HBr.out.setCell hgb _
      clear hcell hfree HP HUr HBr
      go_wp2
      go_roundw
      case rel => exact ⟨j + 1, by omega, by go_num, HN.out, HUN.out, HBN.out⟩
      case measure => simp [intOf]; omega
    · obtain rfl : j = m := by omega
      go_wp2
      generalize hmm : mu = mz at *
      go_loopw [97] (fun i wr => ∃ j : Nat, j ≤ mz ∧ i = .int .i64 j ∧ Own wr w4.heap.size 5 U mz cu (inc (frm x y k f) j) ∧ Below w1.heap.size w1 wr) (fun i _ => mz - (intOf i).toNat)
      case atStart => exact ⟨0, by omega, rfl, HUr.out.same fun k _ => inc_start _ k, HBr.out⟩
      case round =>
        clear HP HUr HBr
        obtain ⟨j2, hj2, rfl, hu, hbl⟩ := hrel
        have HUr := Lib.hid hu
        have HBr := Lib.hid hbl
        clear hu hbl
        by_cases hlt2 : j2 < mz
        · obtain ⟨gu, hUe, hgb, _, hcell, hfree⟩ := HUr.out.lies (by omega)
          subst hUe
          have hx := hcell j2 hlt2
          rw [inc_at] at hx
          have hfx := hfree j2
          obtain ⟨g0, g1⟩ := HU.out j2
          have HUN : Hid (Own (wr.setCell ⟨gu, j2, none⟩ (.int .u8 ((frm x y k f j2 + 1) % 256))) w4.heap.size 5 (some ⟨gu, 0, none⟩) mz cu (inc (frm x y k f) (j2 + 1))) := (HUr.out.set_ j2 ((frm x y k f j2 + 1) % 256)).same fun q _ => inc_step _ j2 q
          have HBN : Hid (Below w1.heap.size w1 (wr.setCell ⟨gu, j2, none⟩ (.int .u8 ((frm x y k f j2 + 1) % 256)))) := HBr.out.setCell (p := ⟨gu, j2, none⟩) (Nat.le_trans (Nat.le_trans hs2 hs5) hgb) _
          clear hcell hfree HUr HBr
          go_wp2
          go_roundw
          case rel => exact ⟨j2 + 1, by omega, by go_num, HUN.out, HBN.out⟩
          case measure => simp [intOf]; omega
        · obtain rfl : j2 = mz := by omega
          have HBw : Hid (Below w.heap.size w wr) := HB1.out.trans (HBr.out.mono HB1.out.size)
          have hcA : (convert 26 9 (.slice A n c)).run Try.prog wr = .ok (.string (strOfNums (nums n f))) wr := run_convert_rd (HR.out.keep HBw.out) 26 5 9 c Try.underlying26 Try.underlying5 Try.underlying9
          have hcB : (convert 26 9 (.slice A1 n c1)).run Try.prog wr = .ok (.string (strOfNums (nums n f))) wr := run_convert_rd (HRin.out.keep HBr.out) 26 5 9 c1 Try.underlying26 Try.underlying5 Try.underlying9
          generalize strOfNums (nums n f) = S3 at *
          go_wp2_with fail
          go_at_call 6
          refine (known_any _).mono ?_
          rintro e w9 ⟨rfl, hb9⟩
          go_wp2_with fail
          go_ret
          exact ⟨rfl, HBw.out.trans (hb9.mono HBw.out.size)⟩
theorem frames_any (x y : Nat → Int) (hx : Byt x) (hy : Byt y) (k : Int) (hk : 0 ≤ k) (hk' : k ≤ 65535) (A : Option Addr) (n c : Nat) (f : Nat → Int) (hf : Byt f) (hcap : n ≤ c) (hc' : c ≤ 9223372036854775807) (w : World) (hr : Rd w w.heap.size A n f) :
    Calls Try.prog 3 #[.agg (eth x y k), .slice A n c] w fun e w' => e = .returned (.bool true) ∧ Below w.heap.size w w' := by
  by_cases h : n ≤ 4000
  · exact frames_short x y hx hy k hk hk' A n c f hf h hcap hc' w hr
  · exact frames_long x y k A n c (by omega) (by omega) w
end Go.Proofs.Ytekjmjipgndccaa
