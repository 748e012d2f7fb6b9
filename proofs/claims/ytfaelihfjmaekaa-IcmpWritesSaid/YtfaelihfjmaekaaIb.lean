/- Layer 6: addresses, the sums of a message (the program's and the document's). -/
import Derived.Test.YtfaelihfjmaekaaIa
namespace Go.Proofs.Ytfaelihfjmaekaa
open Go.RowKit
theorem arr16_set (f : Nat → Int) (v : Int) (k : Nat) (hk : k < 16) : (arr16 f).setIfInBounds k (.int .u8 v) = arr16 (fun j => if j = k then v else f j) := by
  match k, hk with
  | 0, _ => rfl
  | 1, _ => rfl
  | 2, _ => rfl
  | 3, _ => rfl
  | 4, _ => rfl
  | 5, _ => rfl
  | 6, _ => rfl
  | 7, _ => rfl
  | 8, _ => rfl
  | 9, _ => rfl
  | 10, _ => rfl
  | 11, _ => rfl
  | 12, _ => rfl
  | 13, _ => rfl
  | 14, _ => rfl
  | 15, _ => rfl
  | k + 16, h => exact absurd h (by omega)
theorem arr16_ext {f g : Nat → Int} (h : ∀ k, k < 16 → f k = g k) : arr16 f = arr16 g := by
  unfold arr16
  rw [h 0 (by omega), h 1 (by omega), h 2 (by omega), h 3 (by omega), h 4 (by omega), h 5 (by omega), h 6 (by omega), h 7 (by omega), h 8 (by omega), h 9 (by omega), h 10 (by omega), h 11 (by omega), h 12 (by omega), h 13 (by omega), h 14 (by omega), h 15 (by omega)]
/-- The first k of them. -/
def fst16 (f : Nat → Int) (a k j : Nat) : Int := if j < k then f (a + j) else 0
theorem fst16_byt {f : Nat → Int} (hf : Byt f) (a k : Nat) : Byt (fst16 f a k) := fun j => by
  have := hf (a + j)
  unfold fst16
  split <;> omega
theorem fst16_step (f : Nat → Int) (a k : Nat) (hk : k < 16) : (arr16 (fst16 f a k)).setIfInBounds k (.int .u8 (f (a + k))) = arr16 (fst16 f a (k + 1)) := by
  rw [arr16_set _ _ k hk]
  refine arr16_ext fun j _ => ?_
  unfold fst16
  by_cases h : j = k
  · subst h; rw [if_pos rfl, if_pos (by omega)]
  · rw [if_neg h]
    by_cases h2 : j < k
    · rw [if_pos h2, if_pos (by omega)]
    · rw [if_neg h2, if_neg (by omega)]
set_option maxHeartbeats 1000000 in
theorem addr_any (b off n c a m : Nat) (f : Nat → Int) (hm : m ≤ 16) (ha : a + m ≤ n) (hn : n ≤ 4611686018427387904) (w : World) (hb : b < w.heap.size) (hc : ∀ k, k < n → w.cell? ⟨b, off + k, none⟩ = some (.int .u8 (f k))) :
    Calls Try.prog 26 #[.slice (some ⟨b, off, none⟩) n c, .int .i64 (a : Int), .int .i64 (m : Int)] w fun e w' => e = .returned (.agg (arr16 (fst16 f a m))) ∧ Below w.heap.size w w' := by
  have HC := Lib.hid hc
  clear hc
  have hb0 : Below w.heap.size w ((w.alloc (.cells (arr16 fun _ => 0) 22)).alloc (.cells (arr16 fun _ => 0) 22)) := below_alloc2 w _ _
  have e1 : (w.alloc (.cells (arr16 fun _ => 0) 22)).heap.size = w.heap.size + 1 := by simp
  have k0 : ((w.alloc (.cells (arr16 fun _ => 0) 22)).alloc (.cells (arr16 fun _ => 0) 22)).heap[w.heap.size]? = some (.cells (arr16 fun _ => 0) 22 (0, 0)) := blk_old (heap_alloc_new w _) _
  have k1 : ((w.alloc (.cells (arr16 fun _ => 0) 22)).alloc (.cells (arr16 fun _ => 0) 22)).heap[w.heap.size + 1]? = some (.cells (arr16 fun _ => 0) 22 (0, 0)) := by rw [← e1]; exact heap_alloc_new _ _
  have HK0 := Lib.hid k0
  have HK1 := Lib.hid k1
  have HB0 := Lib.hid hb0
  clear k0 k1 hb0 e1
  go_enter Try.func26, Try.ntmps26
  go_wp2
  change Code.wp _ _ _ _ ((w.alloc (.cells (arr16 fun _ => 0) 22)).alloc (.cells (arr16 fun _ => 0) 22))
  generalize (w.alloc (.cells (arr16 fun _ => 0) 22)).alloc (.cells (arr16 fun _ => 0) 22) = w1 at *
  go_loopw [8] (fun i wr => ∃ k : Nat, k ≤ m ∧ i = .int .i64 (k : Int) ∧ Hid (wr.heap[w.heap.size]? = some (.cells (arr16 fun _ => 0) 22 (0, 0))) ∧
    Hid (wr.heap[w.heap.size + 1]? = some (.cells (arr16 (fst16 f a k)) 22 (0, 0))) ∧ Hid (Below w.heap.size w wr)) (fun i _ => m - (intOf i).toNat)
  case atStart => exact ⟨0, by omega, rfl, HK0, Lib.hid (by rw [HK1.out]; rfl), HB0⟩
  case round =>
    clear HK0 HK1 HB0
    obtain ⟨k, hk, rfl, HZ, HE, HB⟩ := hrel
    by_cases hlt : k < m
    · have hlt16 : k < 16 := by omega
      have hx := (HB.out.cell (p := ⟨b, off + (a + k), none⟩) hb).trans (HC.out (a + k) (by omega))
      have hcx := (blk_cell HE.out k).trans (arr16_get _ k hlt16)
      have hfx := blk_free HE.out k
      have HN : Hid ((wr.setCell ⟨w.heap.size + 1, k, none⟩ (.int .u8 (f (a + k)))).heap[w.heap.size + 1]? = some (.cells (arr16 (fst16 f a (k + 1))) 22 (0, 0))) := by
        refine Lib.hid ?_
        rw [← fst16_step f a k hlt16]
        exact blk_set HE.out k _
      have HN0 : Hid ((wr.setCell ⟨w.heap.size + 1, k, none⟩ (.int .u8 (f (a + k)))).heap[w.heap.size]? = some (.cells (arr16 fun _ => 0) 22 (0, 0))) :=
        Lib.hid (blk_far HZ.out (by simp) _)
      have HBN : Hid (Below w.heap.size w (wr.setCell ⟨w.heap.size + 1, k, none⟩ (.int .u8 (f (a + k))))) := HB.out.setCell (by simp) _
      have i0 : (k : Int) < (m : Int) := by omega
      have i8 : (k : Int) < 16 := by omega
      have i1 : (0 : Int) ≤ (k : Int) := by omega
      have i2 : IntKind.i64.wrap ((a : Int) + (k : Int)) = (a : Int) + (k : Int) := by rw [IntKind.wrap_i64]; omega
      have i3 : (0 : Int) ≤ (a : Int) + (k : Int) := by omega
      have i4 : (a : Int) + (k : Int) < (n : Int) := by omega
      have i5 : ((a : Int) + (k : Int)).toNat = a + k := by omega
      have i6 : ((k : Int)).toNat = k := by omega
      have i7 : IntKind.i64.wrap ((k : Int) + 1) = (k : Int) + 1 := by rw [IntKind.wrap_i64]; omega
      go_wp2
      go_roundw
      case rel => exact ⟨k + 1, by omega, by simp, HN0, HN, HBN⟩
      case measure => simp [intOf]; omega
    · obtain rfl : m = k := by omega
      clear hlt hk
      go_wp2_with (first
        | (refine wpList_load_row rfl 22 (.tmp 7) rfl (w.heap.size + 1) rfl 22 (arr16 (fst16 f a m)) (0, 0) _ HE.out Try.underlying22 rfl (by kernel_rfl) ?_)
        | (refine wpList_store_row rfl 22 (.tmp 6) (.tmp 22) rfl w.heap.size (arr16 (fst16 f a m)) rfl rfl 22 (arr16 fun _ => 0) HZ.out (by kernel_rfl) rfl (arr16_one _) ?_))
      have hz := setRow_heap wr w.heap.size _ (arr16 (fst16 f a m)) _ _ HZ.out
      refine bodyPost_ret (v := .agg (arr16 (fst16 f a m))) (results_cell_row Try.results26 _ _ w.heap.size 22 (arr16 (fst16 f a m)) (0, 0) _ rfl hz Try.underlying22 rfl (by kernel_rfl)) rfl ⟨rfl, ?_⟩
      exact below_setRow HB.out (Nat.le_refl _) _
theorem ofv_rgt (f : Nat → Int) (n : Nat) : ofv f n = rgt 0 f n := rfl
set_option maxHeartbeats 1000000 in
theorem isum_any (v6 : Bool) (s d : Nat → Int) (hs : Byt s) (hd : Byt d) (A : Option Addr) (n c : Nat) (f : Nat → Int) (hf : Byt f) (hn : n ≤ 4611686018427387900) (hcap : n ≤ c) (w : World) (hr : Rd w w.heap.size A n f) :
    Calls Try.prog 21 #[.bool v6, .agg (arr16 s), .agg (arr16 d), .slice A n c] w fun e w' => e = .returned (.int .u16 (rgt (mS v6 s d n) f n)) ∧ Below w.heap.size w w' := by
  have HX := Lib.hid (Box2.start w s d)
  have HR := Lib.hid hr
  cases v6
  · have HO : Hid (∀ W, Rd W W.heap.size A n f → Calls Try.prog 28 #[.slice A n c] W fun e w' => e = .returned (.int .u16 (rgt (mS false s d n) f n)) ∧ Below W.heap.size W w') := Lib.hid fun W h => by
      have q := of_any A n c f hf hn hcap W h
      rw [ofv_rgt] at q
      exact q
    clear hs hd hf hr
    generalize rgt (mS false s d n) f n = r at *
    go_enter Try.func21, Try.ntmps21
    go_upto_region 2 with fail
    change Code.wp _ _ _ _ ((w.alloc (.cells (arr16 s) 22)).alloc (.cells (arr16 d) 22))
    generalize (w.alloc (.cells (arr16 s) 22)).alloc (.cells (arr16 d) 22) = w2 at *
    go_wp2_with (go_at_call 28; refine (HO.out _ ((HR.out.keep HX.out.below).more HX.out.below.size)).mono ?_; rintro e w3 ⟨rfl, hb3⟩; have HB3 : Hid (Below w.heap.size w w3) := HX.out.below.trans (hb3.mono HX.out.below.size); clear hb3)
    go_ret
    exact ⟨rfl, HB3.out⟩
  · have hSb := psq_bd true hs hd (pr := 58) (by omega) (by omega) n
    have HP := Lib.hid fun W => pseudo_any true s d hs hd 58 (by omega) (by omega) n (by omega) W
    have e : mS true s d n = psq true s d 58 n := by unfold mS; rw [if_pos rfl]
    rw [e]
    unfold rgt
    generalize psq true s d 58 n = S at *
    have HA := Lib.hid fun W hr => add_any S false A n c f hf hn hcap W hSb.1 hSb.2 hr
    have hb := fld_bd (p := (S, false)) hf hSb n
    generalize fld f (S, false) n = q at *
    have HE := Lib.hid fun W => end_any q.1 q.2 W hb.1 hb.2
    clear hs hd hf hr hSb hb e
    go_enter Try.func21, Try.ntmps21
    go_upto_region 3 with fail
    change Code.wp _ _ _ _ ((w.alloc (.cells (arr16 s) 22)).alloc (.cells (arr16 d) 22))
    generalize (w.alloc (.cells (arr16 s) 22)).alloc (.cells (arr16 d) 22) = w2 at *
    go_wp2_with (first
      | (refine wpList_load_roww rfl 22 (.tmp 5) rfl w.heap.size rfl 22 (arr16 s) (0, 0) _ HX.out.b0 Try.underlying22 rfl (by kernel_rfl) ?_)
      | (refine wpList_load_roww rfl 22 (.tmp 6) rfl (w.heap.size + 1) rfl 22 (arr16 d) (0, 0) _ HX.out.b1 Try.underlying22 rfl (by kernel_rfl) ?_)
      | (go_at_call 31; refine (HP.out _).mono ?_; rintro e w3 ⟨rfl, hb3⟩; have HB3 : Hid (Below w.heap.size w w3) := HX.out.below.trans (hb3.mono HX.out.below.size); clear hb3)
      | (go_at_call 30; refine (HA.out _ ((HR.out.keep HB3.out).more HB3.out.size)).mono ?_; rintro e w4 ⟨rfl, hb4⟩; have HB4 : Hid (Below w.heap.size w w4) := HB3.out.trans (hb4.mono HB3.out.size); clear hb4)
      | (go_at_call 29; refine (HE.out _).mono ?_; rintro e w5 ⟨rfl, hb5⟩; have HB5 : Hid (Below w.heap.size w w5) := HB4.out.trans (hb5.mono HB4.out.size); clear hb5))
    go_ret
    exact ⟨rfl, HB5.out⟩
set_option maxHeartbeats 1000000 in
theorem iright_any (v6 : Bool) (s d : Nat → Int) (hs : Byt s) (hd : Byt d) (A : Option Addr) (n c : Nat) (f : Nat → Int) (hf : Byt f) (hn : n ≤ 4611686018427387900) (w : World) (hr : Rd w w.heap.size A n f) :
    Calls Try.prog 22 #[.bool v6, .agg (arr16 s), .agg (arr16 d), .slice A n c] w fun e w' => e = .returned (.int .u16 (rgt (mS v6 s d n) f n)) ∧ Below w.heap.size w w' := by
  have HX := Lib.hid (Box2.start w s d)
  have HR := Lib.hid hr
  cases v6
  · have HO : Hid (∀ W, Rd W W.heap.size A n f → Calls Try.prog 33 #[.slice A n c] W fun e w' => e = .returned (.int .u16 (rgt (mS false s d n) f n)) ∧ Below W.heap.size W w') := Lib.hid fun W h => by
      have q := rof_any A n c f hf hn W h
      rw [ofv_rgt] at q
      exact q
    clear hs hd hf hr
    generalize rgt (mS false s d n) f n = r at *
    go_enter Try.func22, Try.ntmps22
    go_upto_region 3 with fail
    change Code.wp _ _ _ _ ((w.alloc (.cells (arr16 s) 22)).alloc (.cells (arr16 d) 22))
    generalize (w.alloc (.cells (arr16 s) 22)).alloc (.cells (arr16 d) 22) = w2 at *
    go_wp2_with (go_at_call 33; refine (HO.out _ ((HR.out.keep HX.out.below).more HX.out.below.size)).mono ?_; rintro e w3 ⟨rfl, hb3⟩; have HB3 : Hid (Below w.heap.size w w3) := HX.out.below.trans (hb3.mono HX.out.below.size); clear hb3)
    go_ret
    exact ⟨rfl, HB3.out⟩
  · have e : mS true s d n = psq true s d 58 n := by unfold mS; rw [if_pos rfl]
    rw [e]
    have HO := Lib.hid fun W hr => right_any true s d hs hd 58 (by omega) (by omega) A n c f hf hn W hr
    clear hs hd hf hr e
    generalize rgt (psq true s d 58 n) f n = r at *
    go_enter Try.func22, Try.ntmps22
    go_upto_region 2 with fail
    change Code.wp _ _ _ _ ((w.alloc (.cells (arr16 s) 22)).alloc (.cells (arr16 d) 22))
    generalize (w.alloc (.cells (arr16 s) 22)).alloc (.cells (arr16 d) 22) = w2 at *
    go_wp2_with (first
      | (refine wpList_load_roww rfl 22 (.tmp 5) rfl w.heap.size rfl 22 (arr16 s) (0, 0) _ HX.out.b0 Try.underlying22 rfl (by kernel_rfl) ?_)
      | (refine wpList_load_roww rfl 22 (.tmp 6) rfl (w.heap.size + 1) rfl 22 (arr16 d) (0, 0) _ HX.out.b1 Try.underlying22 rfl (by kernel_rfl) ?_)
      | (go_at_call 32; refine (HO.out _ ((HR.out.keep HX.out.below).more HX.out.below.size)).mono ?_; rintro e w3 ⟨rfl, hb3⟩; have HB3 : Hid (Below w.heap.size w w3) := HX.out.below.trans (hb3.mono HX.out.below.size); clear hb3))
    go_ret
    exact ⟨rfl, HB3.out⟩
end Go.Proofs.Ytfaelihfjmaekaa
