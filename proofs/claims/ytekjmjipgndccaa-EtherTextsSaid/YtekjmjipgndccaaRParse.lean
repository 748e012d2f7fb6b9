/- The document's answers for layer 2: Parse. -/
import Derived.Test.YtekjmjipgndccaaRText
import Derived.Test.YtekjmjipgndccaaRDigit
namespace Go.Proofs.Ytekjmjipgndccaa
open Go.RowKit
/-- The k-th byte of a text. -/
def chr (s : ByteArray) (k : Nat) : Int := (s.data.toList.getD k 0).toNat
set_option maxHeartbeats 400000 in
theorem rparse_len (s : ByteArray) (hs : s.size ≠ 17) (hs' : s.size ≤ 9223372036854775807) (w : World) : Calls Try.prog 14 #[.string s] w fun e w' => e = .returned (.tuple #[.agg (arr6 fun _ => 0), .int .i64 5]) ∧ Below w.heap.size w w' := by
  have h : ((s.size : Int) != 17) = true := by simp; omega
  go_enter Try.func14, Try.ntmps14
  go_wp2
  refine bodyPost_ret (v := .tuple #[.agg (arr6 fun _ => 0), .int .i64 5]) (by simp [results, Try.results14, go_sem, arr6]) rfl ⟨rfl, ?_⟩
  exact (below_alloc2 w _ _).alloc (alloc_le2 w _ _) _
theorem chr_bd (s : ByteArray) (k : Nat) : 0 ≤ chr s k ∧ chr s k ≤ 255 := by
  unfold chr
  have := UInt8.toNat_lt (s.data.toList.getD k 0)
  omega
theorem chr_get (s : ByteArray) (k : Nat) (h : k < s.size) : ((s[k]'h).toNat : Int) = chr s k := by
  unfold chr
  have e : s.data.toList.getD k 0 = s[k]'h := by
    rw [List.getD_eq_getElem?_getD, List.getElem?_eq_getElem (by simpa using h)]
    rfl
  rw [e]
def okAt (s : ByteArray) (i : Nat) : Prop := dig (chr s (3 * i)) ≤ 15 ∧ dig (chr s (3 * i + 1)) ≤ 15 ∧ (i < 5 → chr s (3 * i + 2) = 58)
def pval (s : ByteArray) (i : Nat) : Int := dig (chr s (3 * i)) * 16 + dig (chr s (3 * i + 1))
theorem arr6_step (f : Nat → Int) (k : Nat) (hk : k < 6) : (arr6 (lim f k)).setIfInBounds k (.int .u8 (f k)) = arr6 (lim f (k + 1)) := by
  match k, hk with
  | 0, _ => rfl
  | 1, _ => rfl
  | 2, _ => rfl
  | 3, _ => rfl
  | 4, _ => rfl
  | 5, _ => rfl
  | k + 6, h => exact absurd h (by omega)
theorem arr6_cells {W : World} {N : Nat} {d : Nat → Int} {T : TypeId} (h : W.heap[N]? = some (.cells (arr6 d) T (0, 0))) :
    W.cell? ⟨N, 0, none⟩ = some (.int .u8 (d 0)) ∧ W.cell? ⟨N, 1, none⟩ = some (.int .u8 (d 1)) ∧ W.cell? ⟨N, 2, none⟩ = some (.int .u8 (d 2)) ∧ W.cell? ⟨N, 3, none⟩ = some (.int .u8 (d 3)) ∧ W.cell? ⟨N, 4, none⟩ = some (.int .u8 (d 4)) ∧ W.cell? ⟨N, 5, none⟩ = some (.int .u8 (d 5)) :=
  ⟨blk_cell h 0, blk_cell h 1, blk_cell h 2, blk_cell h 3, blk_cell h 4, blk_cell h 5⟩
theorem arr6_free {W : World} {N : Nat} {d : Nat → Int} {T : TypeId} (h : W.heap[N]? = some (.cells (arr6 d) T (0, 0))) :
    W.frozen? ⟨N, 0, none⟩ = false ∧ W.frozen? ⟨N, 1, none⟩ = false ∧ W.frozen? ⟨N, 2, none⟩ = false ∧ W.frozen? ⟨N, 3, none⟩ = false ∧ W.frozen? ⟨N, 4, none⟩ = false ∧ W.frozen? ⟨N, 5, none⟩ = false :=
  ⟨blk_free h 0, blk_free h 1, blk_free h 2, blk_free h 3, blk_free h 4, blk_free h 5⟩
theorem lim_full6 (f : Nat → Int) : arr6 (lim f 6) = arr6 f := by
  unfold arr6 lim
  simp
set_option maxRecDepth 100000 in
set_option maxHeartbeats 1000000 in
theorem rparse_good (s : ByteArray) (hs : s.size = 17) (hok : ∀ i, i < 6 → okAt s i) (w : World) : Calls Try.prog 14 #[.string s] w fun e w' => e = .returned (.tuple #[.agg (arr6 (pval s)), .int .i64 0]) ∧ Below w.heap.size w w' := by
  have h : ((s.size : Int) != 17) = false := by simp; omega
  have hs1 : s.size ≤ 17 := by omega
  have hs2 : 17 ≤ s.size := by omega
  have HOK := Lib.hid hok
  clear hs hok
  obtain ⟨V, hV⟩ : ∃ V, V = pval s := ⟨_, rfl⟩
  rw [← hV]
  have HV := Lib.hid hV
  clear hV
  go_enter Try.func14, Try.ntmps14
  go_wp2
  have e1 : (w.alloc (.cells (arr6 fun _ => 0) 22)).heap.size = w.heap.size + 1 := by simp
  have k0 : (((w.alloc (.cells (arr6 fun _ => 0) 22)).alloc (.cells (arr6 fun _ => 0) 22)).alloc (.cells (arr6 fun _ => 0) 22)).heap[w.heap.size]? = some (.cells (arr6 fun _ => 0) 22 (0, 0)) := blk_old (blk_old (heap_alloc_new w _) _) _
  have k1 : (((w.alloc (.cells (arr6 fun _ => 0) 22)).alloc (.cells (arr6 fun _ => 0) 22)).alloc (.cells (arr6 fun _ => 0) 22)).heap[w.heap.size + 1]? = some (.cells (arr6 fun _ => 0) 22 (0, 0)) := by
    refine blk_old ?_ _
    rw [← e1]
    exact heap_alloc_new _ _
  have hb0 : Below w.heap.size w (((w.alloc (.cells (arr6 fun _ => 0) 22)).alloc (.cells (arr6 fun _ => 0) 22)).alloc (.cells (arr6 fun _ => 0) 22)) := (below_alloc2 w _ _).alloc (alloc_le2 w _ _) _
  go_loopw [6] (fun i wr => ∃ k : Nat, k ≤ 6 ∧ i = .int .i64 k ∧ wr.heap[w.heap.size]? = some (.cells (arr6 fun _ => 0) 22 (0, 0)) ∧ wr.heap[w.heap.size + 1]? = some (.cells (arr6 (lim V k)) 22 (0, 0)) ∧ Below w.heap.size w wr) (fun i _ => 6 - (intOf i).toNat)
  case atStart => exact ⟨0, by omega, rfl, k0, k1, hb0⟩
  case round =>
    clear k0 k1 hb0 e1
    obtain ⟨k, hk, rfl, hz, ha, hbl⟩ := hrel
    have HZ := Lib.hid hz
    have HA := Lib.hid ha
    clear hz ha
    by_cases hlt : k < 6
    · have i0 : (0 : Int) ≤ 3 * (k : Int) := by omega
      have i1 : 3 * (k : Int) < (s.size : Int) := by omega
      have i2 : (3 * (k : Int)).toNat = 3 * k := by omega
      have i3 : (0 : Int) ≤ 3 * (k : Int) + 1 := by omega
      have i4 : 3 * (k : Int) + 1 < (s.size : Int) := by omega
      have i5 : (3 * (k : Int) + 1).toNat = 3 * k + 1 := by omega
      have g0 := chr_get s (3 * k) (by omega)
      have g1 := chr_get s (3 * k + 1) (by omega)
      obtain ⟨q1, q2, q3⟩ := HOK.out k hlt
      have HQ3 := Lib.hid q3
      clear q3
      have HVk : Hid (V k = dig (chr s (3 * k)) * 16 + dig (chr s (3 * k + 1))) := by rw [HV.out]; rfl
      have D0 := Lib.hid fun n : Nat => Calls.quiet_of_same (w := wr) (n := n) ((rdigit_any (chr s (3 * k)) (chr_bd s _).1 (chr_bd s _).2 (wr.drewN n)).mono fun _ _ h => ⟨h.1, h.2.symm⟩)
      have D1 := Lib.hid fun n : Nat => Calls.quiet_of_same (w := wr) (n := n) ((rdigit_any (chr s (3 * k + 1)) (chr_bd s _).1 (chr_bd s _).2 (wr.drewN n)).mono fun _ _ h => ⟨h.1, h.2.symm⟩)
      obtain ⟨d01, d02⟩ := dig_bd (chr s (3 * k))
      obtain ⟨d11, d12⟩ := dig_bd (chr s (3 * k + 1))
      have hcx := (blk_cell HA.out k).trans (arr6_get _ k hlt)
      have hfx := blk_free HA.out k
      generalize chr s (3 * k) = c0 at *
      generalize chr s (3 * k + 1) = c1 at *
      generalize dig c0 = x0 at *
      generalize dig c1 = x1 at *
      have HN : Hid (∀ n, (((wr.drewN n).setCell ⟨w.heap.size + 1, k, none⟩ (.int .u8 (x0 * 16 + x1))).heap[w.heap.size + 1]? = some (.cells (arr6 (lim V (k + 1))) 22 (0, 0)))) := fun n => by
        rw [← arr6_step V k hlt, HVk.out]
        exact blk_set (w := wr.drewN n) HA.out k _
      have HN0 : Hid (∀ n, (((wr.drewN n).setCell ⟨w.heap.size + 1, k, none⟩ (.int .u8 (x0 * 16 + x1))).heap[w.heap.size]? = some (.cells (arr6 fun _ => 0) 22 (0, 0)))) := fun n => blk_far (w := wr.drewN n) HZ.out (by simp) _
      have HB : Hid (∀ n, Below w.heap.size w ((wr.drewN n).setCell ⟨w.heap.size + 1, k, none⟩ (.int .u8 (x0 * 16 + x1)))) := fun n => Below.setCell (w := wr.drewN n) ⟨hbl.os, hbl.tape, hbl.output, hbl.size, hbl.block⟩ (by simp) _
      by_cases h5 : k < 5
      · have g2 := chr_get s (3 * k + 2) (by omega)
        rw [HQ3.out h5] at g2
        go_wp2
        refine wp_region_quiet_lit (by kernel_rfl) (by kernel_rfl) ?_
        repeat (go_big_quiet_step (first
          | (go_at_call 20; with_reducible exact D0.out _)
          | (go_at_call 20; with_reducible exact D1.out _)))
        refine wpQuiet_nil ?_
        intro _ hw'
        obtain ⟨nq, hw''⟩ := hw'
        subst hw''
        go_wp2
        go_roundw
        case rel => exact ⟨k + 1, by omega, by go_num, HN0.out nq, HN.out nq, HB.out nq⟩
        case measure => simp [intOf]; omega
      · obtain rfl : k = 5 := by omega
        go_wp2
        refine wp_region_quiet_lit (by kernel_rfl) (by kernel_rfl) ?_
        repeat (go_big_quiet_step (first
          | (go_at_call 20; with_reducible exact D0.out _)
          | (go_at_call 20; with_reducible exact D1.out _)))
        refine wpQuiet_nil ?_
        intro _ hw'
        obtain ⟨nq, hw''⟩ := hw'
        subst hw''
        go_wp2
        go_roundw
        case rel => exact ⟨6, by omega, rfl, HN0.out nq, HN.out nq, HB.out nq⟩
        case measure => simp [intOf]
    · obtain rfl : k = 6 := by omega
      rw [lim_full6] at HA
      obtain ⟨a0, a1, a2, a3, a4, a5⟩ := arr6_cells HA.out
      obtain ⟨z0, z1, z2, z3, z4, z5⟩ := arr6_cells HZ.out
      obtain ⟨y0, y1, y2, y3, y4, y5⟩ := arr6_free HZ.out
      go_wp2
      refine bodyPost_ret (v := .tuple #[.agg (arr6 V), .int .i64 0]) (by simp [results, Try.results14, go_sem, arr6, z0, z1, z2, z3, z4, z5]) rfl ⟨rfl, ?_⟩
      exact (((((hbl.setCell (Nat.le_refl _) _).setCell (Nat.le_refl _) _).setCell (Nat.le_refl _) _).setCell (Nat.le_refl _) _).setCell (Nat.le_refl _) _).setCell (Nat.le_refl _) _
set_option maxRecDepth 100000 in
set_option maxHeartbeats 1000000 in
theorem rparse_bad (s : ByteArray) (hs : s.size = 17) (j : Nat) (hj : j < 6) (hok : ∀ i, i < j → okAt s i) (hno : ¬ okAt s j) (w : World) : Calls Try.prog 14 #[.string s] w fun e w' => e = .returned (.tuple #[.agg (arr6 fun _ => 0), .int .i64 5]) ∧ Below w.heap.size w w' := by
  have h : ((s.size : Int) != 17) = false := by simp; omega
  have hs1 : s.size ≤ 17 := by omega
  have hs2 : 17 ≤ s.size := by omega
  have HOK := Lib.hid hok
  clear hs hok
  have HNO := Lib.hid hno
  clear hno
  obtain ⟨V, hV⟩ : ∃ V, V = pval s := ⟨_, rfl⟩
  have HV := Lib.hid hV
  clear hV
  go_enter Try.func14, Try.ntmps14
  go_wp2
  have e1 : (w.alloc (.cells (arr6 fun _ => 0) 22)).heap.size = w.heap.size + 1 := by simp
  have k0 : (((w.alloc (.cells (arr6 fun _ => 0) 22)).alloc (.cells (arr6 fun _ => 0) 22)).alloc (.cells (arr6 fun _ => 0) 22)).heap[w.heap.size]? = some (.cells (arr6 fun _ => 0) 22 (0, 0)) := blk_old (blk_old (heap_alloc_new w _) _) _
  have k1 : (((w.alloc (.cells (arr6 fun _ => 0) 22)).alloc (.cells (arr6 fun _ => 0) 22)).alloc (.cells (arr6 fun _ => 0) 22)).heap[w.heap.size + 1]? = some (.cells (arr6 fun _ => 0) 22 (0, 0)) := by
    refine blk_old ?_ _
    rw [← e1]
    exact heap_alloc_new _ _
  have e2 : ((w.alloc (.cells (arr6 fun _ => 0) 22)).alloc (.cells (arr6 fun _ => 0) 22)).heap.size = w.heap.size + 1 + 1 := by simp
  have k2 : (((w.alloc (.cells (arr6 fun _ => 0) 22)).alloc (.cells (arr6 fun _ => 0) 22)).alloc (.cells (arr6 fun _ => 0) 22)).heap[w.heap.size + 1 + 1]? = some (.cells (arr6 fun _ => 0) 22 (0, 0)) := by
    rw [← e2]
    exact heap_alloc_new _ _
  have hb0 : Below w.heap.size w (((w.alloc (.cells (arr6 fun _ => 0) 22)).alloc (.cells (arr6 fun _ => 0) 22)).alloc (.cells (arr6 fun _ => 0) 22)) := (below_alloc2 w _ _).alloc (alloc_le2 w _ _) _
  go_loopw [6] (fun i wr => ∃ k : Nat, k ≤ j ∧ i = .int .i64 k ∧ wr.heap[w.heap.size + 1 + 1]? = some (.cells (arr6 fun _ => 0) 22 (0, 0)) ∧ wr.heap[w.heap.size]? = some (.cells (arr6 fun _ => 0) 22 (0, 0)) ∧ wr.heap[w.heap.size + 1]? = some (.cells (arr6 (lim V k)) 22 (0, 0)) ∧ Below w.heap.size w wr) (fun i _ => 6 - (intOf i).toNat)
  case atStart => exact ⟨0, by omega, rfl, k2, k0, k1, hb0⟩
  case round =>
    clear k0 k1 k2 hb0 e1 e2
    obtain ⟨k, hk, rfl, hy, hz, ha, hbl⟩ := hrel
    have HY := Lib.hid hy
    clear hy
    have HZ := Lib.hid hz
    have HA := Lib.hid ha
    clear hz ha
    by_cases hltj : k < j
    · have hlt : k < 6 := by omega
      have i0 : (0 : Int) ≤ 3 * (k : Int) := by omega
      have i1 : 3 * (k : Int) < (s.size : Int) := by omega
      have i2 : (3 * (k : Int)).toNat = 3 * k := by omega
      have i3 : (0 : Int) ≤ 3 * (k : Int) + 1 := by omega
      have i4 : 3 * (k : Int) + 1 < (s.size : Int) := by omega
      have i5 : (3 * (k : Int) + 1).toNat = 3 * k + 1 := by omega
      have g0 := chr_get s (3 * k) (by omega)
      have g1 := chr_get s (3 * k + 1) (by omega)
      obtain ⟨q1, q2, q3⟩ := HOK.out k hltj
      have HQ3 := Lib.hid q3
      clear q3
      have HVk : Hid (V k = dig (chr s (3 * k)) * 16 + dig (chr s (3 * k + 1))) := by rw [HV.out]; rfl
      have D0 := Lib.hid fun n : Nat => Calls.quiet_of_same (w := wr) (n := n) ((rdigit_any (chr s (3 * k)) (chr_bd s _).1 (chr_bd s _).2 (wr.drewN n)).mono fun _ _ h => ⟨h.1, h.2.symm⟩)
      have D1 := Lib.hid fun n : Nat => Calls.quiet_of_same (w := wr) (n := n) ((rdigit_any (chr s (3 * k + 1)) (chr_bd s _).1 (chr_bd s _).2 (wr.drewN n)).mono fun _ _ h => ⟨h.1, h.2.symm⟩)
      obtain ⟨d01, d02⟩ := dig_bd (chr s (3 * k))
      obtain ⟨d11, d12⟩ := dig_bd (chr s (3 * k + 1))
      have hcx := (blk_cell HA.out k).trans (arr6_get _ k hlt)
      have hfx := blk_free HA.out k
      generalize chr s (3 * k) = c0 at *
      generalize chr s (3 * k + 1) = c1 at *
      generalize dig c0 = x0 at *
      generalize dig c1 = x1 at *
      have HN : Hid (∀ n, (((wr.drewN n).setCell ⟨w.heap.size + 1, k, none⟩ (.int .u8 (x0 * 16 + x1))).heap[w.heap.size + 1]? = some (.cells (arr6 (lim V (k + 1))) 22 (0, 0)))) := fun n => by
        rw [← arr6_step V k hlt, HVk.out]
        exact blk_set (w := wr.drewN n) HA.out k _
      have HN0 : Hid (∀ n, (((wr.drewN n).setCell ⟨w.heap.size + 1, k, none⟩ (.int .u8 (x0 * 16 + x1))).heap[w.heap.size]? = some (.cells (arr6 fun _ => 0) 22 (0, 0)))) := fun n => blk_far (w := wr.drewN n) HZ.out (by simp) _
      have HN2 : Hid (∀ n, (((wr.drewN n).setCell ⟨w.heap.size + 1, k, none⟩ (.int .u8 (x0 * 16 + x1))).heap[w.heap.size + 1 + 1]? = some (.cells (arr6 fun _ => 0) 22 (0, 0)))) := fun n => blk_far (w := wr.drewN n) HY.out (by simp) _
      have HB : Hid (∀ n, Below w.heap.size w ((wr.drewN n).setCell ⟨w.heap.size + 1, k, none⟩ (.int .u8 (x0 * 16 + x1)))) := fun n => Below.setCell (w := wr.drewN n) ⟨hbl.os, hbl.tape, hbl.output, hbl.size, hbl.block⟩ (by simp) _
      have h5 : k < 5 := by omega
      have g2 := chr_get s (3 * k + 2) (by omega)
      rw [HQ3.out h5] at g2
      go_wp2
      refine wp_region_quiet_lit (by kernel_rfl) (by kernel_rfl) ?_
      repeat (go_big_quiet_step (first
        | (go_at_call 20; with_reducible exact D0.out _)
        | (go_at_call 20; with_reducible exact D1.out _)))
      refine wpQuiet_nil ?_
      intro _ hw'
      obtain ⟨nq, hw''⟩ := hw'
      subst hw''
      go_wp2
      go_roundw
      case rel => exact ⟨k + 1, by omega, by go_num, HN2.out nq, HN0.out nq, HN.out nq, HB.out nq⟩
      case measure => simp [intOf]; omega
    · obtain rfl : k = j := by omega
      clear hltj hk HA HOK HV
      have i0 : (0 : Int) ≤ 3 * (k : Int) := by omega
      have i1 : 3 * (k : Int) < (s.size : Int) := by omega
      have i2 : (3 * (k : Int)).toNat = 3 * k := by omega
      have i3 : (0 : Int) ≤ 3 * (k : Int) + 1 := by omega
      have i4 : 3 * (k : Int) + 1 < (s.size : Int) := by omega
      have i5 : (3 * (k : Int) + 1).toNat = 3 * k + 1 := by omega
      have g0 := chr_get s (3 * k) (by omega)
      have g1 := chr_get s (3 * k + 1) (by omega)
      have D0 := Lib.hid fun n : Nat => Calls.quiet_of_same (w := wr) (n := n) ((rdigit_any (chr s (3 * k)) (chr_bd s _).1 (chr_bd s _).2 (wr.drewN n)).mono fun _ _ h => ⟨h.1, h.2.symm⟩)
      have D1 := Lib.hid fun n : Nat => Calls.quiet_of_same (w := wr) (n := n) ((rdigit_any (chr s (3 * k + 1)) (chr_bd s _).1 (chr_bd s _).2 (wr.drewN n)).mono fun _ _ h => ⟨h.1, h.2.symm⟩)
      obtain ⟨d01, d02⟩ := dig_bd (chr s (3 * k))
      obtain ⟨d11, d12⟩ := dig_bd (chr s (3 * k + 1))
      have hcase : 15 < dig (chr s (3 * k)) ∨ (dig (chr s (3 * k)) ≤ 15 ∧ 15 < dig (chr s (3 * k + 1))) ∨ (dig (chr s (3 * k)) ≤ 15 ∧ dig (chr s (3 * k + 1)) ≤ 15 ∧ k < 5 ∧ chr s (3 * k + 2) ≠ 58) := by
        have e := HNO.out
        unfold okAt at e
        by_cases h1 : 15 < dig (chr s (3 * k))
        · exact .inl h1
        · by_cases h2 : 15 < dig (chr s (3 * k + 1))
          · exact .inr (.inl ⟨by omega, h2⟩)
          · refine .inr (.inr ⟨by omega, by omega, ?_⟩)
            by_cases h3 : k < 5
            · exact ⟨h3, fun h4 => e ⟨by omega, by omega, fun _ => h4⟩⟩
            · exact absurd ⟨by omega, by omega, fun h => absurd h h3⟩ e
      obtain ⟨z0, z1, z2, z3, z4, z5⟩ := arr6_cells HZ.out
      obtain ⟨y0, y1, y2, y3, y4, y5⟩ := arr6_free HZ.out
      obtain ⟨u0, u1, u2, u3, u4, u5⟩ := arr6_cells HY.out
      have hf : Below w.heap.size w wr := hbl
      clear HNO
      have g2 : ∀ h : 3 * k + 2 < s.size, ((s[3 * k + 2]'h).toNat : Int) = chr s (3 * k + 2) := chr_get s (3 * k + 2)
      have HG2 := Lib.hid g2
      clear g2
      generalize chr s (3 * k) = c0 at *
      generalize chr s (3 * k + 1) = c1 at *
      generalize dig c0 = x0 at *
      generalize dig c1 = x1 at *
      rcases hcase with hc | ⟨hc, hc'⟩ | ⟨hc, hc', h5, h58⟩
      · go_wp2
        refine wp_region_quiet_lit (by kernel_rfl) (by kernel_rfl) ?_
        repeat (go_big_quiet_step (first
          | (go_at_call 20; with_reducible exact D0.out _)
          | (go_at_call 20; with_reducible exact D1.out _)))
        refine wpQuiet_nil ?_
        intro _ hw'
        obtain ⟨nq, hw''⟩ := hw'
        subst hw''
        go_wp2
        refine bodyPost_ret (v := .tuple #[.agg (arr6 fun _ => 0), .int .i64 5]) (by simp [results, Try.results14, go_sem, arr6, z0, z1, z2, z3, z4, z5]) rfl ⟨rfl, ?_⟩
        have hd : Below w.heap.size w (wr.drewN nq) := ⟨hf.os, hf.tape, hf.output, hf.size, hf.block⟩
        exact (((((hd.setCell (Nat.le_refl _) _).setCell (Nat.le_refl _) _).setCell (Nat.le_refl _) _).setCell (Nat.le_refl _) _).setCell (Nat.le_refl _) _).setCell (Nat.le_refl _) _
      · go_wp2
        refine wp_region_quiet_lit (by kernel_rfl) (by kernel_rfl) ?_
        repeat (go_big_quiet_step (first
          | (go_at_call 20; with_reducible exact D0.out _)
          | (go_at_call 20; with_reducible exact D1.out _)))
        refine wpQuiet_nil ?_
        intro _ hw'
        obtain ⟨nq, hw''⟩ := hw'
        subst hw''
        go_wp2
        refine bodyPost_ret (v := .tuple #[.agg (arr6 fun _ => 0), .int .i64 5]) (by simp [results, Try.results14, go_sem, arr6, z0, z1, z2, z3, z4, z5]) rfl ⟨rfl, ?_⟩
        have hd : Below w.heap.size w (wr.drewN nq) := ⟨hf.os, hf.tape, hf.output, hf.size, hf.block⟩
        exact (((((hd.setCell (Nat.le_refl _) _).setCell (Nat.le_refl _) _).setCell (Nat.le_refl _) _).setCell (Nat.le_refl _) _).setCell (Nat.le_refl _) _).setCell (Nat.le_refl _) _
      · have g2 := HG2.out (by omega)
        have hne : (chr s (3 * k + 2) != 58) = true := by simpa using h58
        generalize chr s (3 * k + 2) = c2 at *
        clear h58
        go_wp2
        refine wp_region_quiet_lit (by kernel_rfl) (by kernel_rfl) ?_
        repeat (go_big_quiet_step (first
          | (go_at_call 20; with_reducible exact D0.out _)
          | (go_at_call 20; with_reducible exact D1.out _)))
        refine wpQuiet_nil ?_
        intro _ hw'
        obtain ⟨nq, hw''⟩ := hw'
        subst hw''
        go_wp2
        refine bodyPost_ret (v := .tuple #[.agg (arr6 fun _ => 0), .int .i64 5]) (by simp [results, Try.results14, go_sem, arr6, z0, z1, z2, z3, z4, z5]) rfl ⟨rfl, ?_⟩
        have hd : Below w.heap.size w (wr.drewN nq) := ⟨hf.os, hf.tape, hf.output, hf.size, hf.block⟩
        exact (((((hd.setCell (Nat.le_refl _) _).setCell (Nat.le_refl _) _).setCell (Nat.le_refl _) _).setCell (Nat.le_refl _) _).setCell (Nat.le_refl _) _).setCell (Nat.le_refl _) _
end Go.Proofs.Ytekjmjipgndccaa
