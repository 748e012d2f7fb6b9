/- Stage 18: the landed At, below. -/
import Derived.Test.YtdeghjhlbhpopaaPqy
namespace Go.Proofs.Ytdeghjhlbhpopaa
set_option maxRecDepth 100000
open Go.RowKit Go.Shelf
attribute [local go_sem] Oper.semAt_some
theorem pbelow_any (H n : Nat) (hn : 0 < n) (hn9 : n ≤ 65537) (w : World) : Calls Try.prog 15 #[.int .u64 (H : Int), .int .i64 (n : Int)] w (ret (.int .i64 ((H % n : Nat) : Int)) w) := by
  obtain ⟨r, hr⟩ : ∃ r, r = H % n := ⟨_, rfl⟩
  have hrn : r < n := by rw [hr]; exact Nat.mod_lt _ hn
  rw [← hr]
  have z1 : IntKind.u64.wrap (n : Int) = (n : Int) := by rw [IntKind.wrap_u64]; omega
  have z2 : (H : Int) % (n : Int) = (r : Int) := by rw [hr, Int.natCast_emod]
  have z3 : IntKind.i64.wrap (r : Int) = (r : Int) := by rw [IntKind.wrap_i64]; omega
  have z4 : ¬ (n : Int) = 0 := by omega
  clear hr hrn
  go_enter Try.func15, Try.ntmps15
  go_wp2_with fail
  go_ret
  exact ⟨rfl, Below.refl _ _⟩
set_option maxHeartbeats 2000000 in
theorem peat_any (p : Pe) (i : Int) (w : World) : Calls Try.prog 12 #[.agg #[.int .i64 p.o, .int .i64 p.k, .int .i64 p.m], .int .i64 i] w (ret (.int .i64 (p.atV i)) w) := by
  have HS := Lib.hid fun W => pemay_any p W
  have HM0 : Hid ((w.alloc (.cells #[.int .i64 p.o, .int .i64 p.k, .int .i64 p.m] 23)).heap[w.heap.size]? = some (.cells #[.int .i64 p.o, .int .i64 p.k, .int .i64 p.m] 23 (0, 0))) := Lib.hid (heap_alloc_new w _)
  have HB0 : Hid (Below w.heap.size w (w.alloc (.cells #[.int .i64 p.o, .int .i64 p.k, .int .i64 p.m] 23))) := Lib.hid (below_alloc w _)
  by_cases h0 : i < 0
  · have hv : p.atV i = -1 := by unfold Pe.atV; rw [if_neg (by omega)]
    rw [hv]
    clear hv
    go_enter Try.func12, Try.ntmps12
    go_upto_region 1 with fail
    change Code.wp _ _ _ _ (w.alloc (.cells #[.int .i64 p.o, .int .i64 p.k, .int .i64 p.m] 23))
    generalize w.alloc (.cells #[.int .i64 p.o, .int .i64 p.k, .int .i64 p.m] 23) = u1 at *
    go_wp2_with fail
    go_ret
    exact ⟨rfl, HB0.out⟩
  cases hm : p.may with
  | false =>
    rw [hm] at HS
    have hv : p.atV i = -1 := by unfold Pe.atV; rw [if_neg (by rw [hm]; simp)]
    rw [hv]
    clear hv hm
    go_enter Try.func12, Try.ntmps12
    go_upto_region 1 with fail
    change Code.wp _ _ _ _ (w.alloc (.cells #[.int .i64 p.o, .int .i64 p.k, .int .i64 p.m] 23))
    generalize w.alloc (.cells #[.int .i64 p.o, .int .i64 p.k, .int .i64 p.m] 23) = u1 at *
    obtain ⟨q, hq⟩ : ∃ q, q = w.heap.size := ⟨_, rfl⟩
    rw [← hq] at HM0 ⊢
    clear hq
    have y0 := blk_cell HM0.out 0
    have y1 := blk_cell HM0.out 1
    have y2 := blk_cell HM0.out 2
    go_wp2_with (first
      | (go_at_call 8
         refine (HS.out _).mono ?_
         rintro e u2 ⟨rfl, hb⟩
         have HB2 := Lib.hid (HB0.out.trans (hb.mono HB0.out.size))
         clear hb))
    go_ret
    exact ⟨rfl, HB2.out⟩
  | true =>
    rw [hm] at HS
    obtain ⟨o, k, m, hok⟩ := Pe.ok_of hm
    obtain ⟨n, rfl⟩ := Int.eq_ofNat_of_zero_le (show 0 ≤ i by omega)
    have hz := szP_le hok.sz
    rw [hok.at_, hok.eo, hok.ek, hok.em] at *
    have lo := hok.lo
    have lk := hok.lk
    obtain ⟨j, hj⟩ : ∃ j, j = n % m := ⟨_, rfl⟩
    have hjm : j < m := by rw [hj]; exact Nat.mod_lt _ (by omega)
    obtain ⟨x, hx⟩ : ∃ x, x = j * k := ⟨_, rfl⟩
    have hx9 : x ≤ 4295098369 := by
      rw [hx]
      have h1 := Nat.mul_le_mul (show j ≤ 65537 by omega) (show k ≤ 65537 by omega)
      omega
    obtain ⟨s, hs⟩ : ∃ s, s = slN o k m n := ⟨_, rfl⟩
    have hs2 : s = (o + x) % m := by rw [hs, ← slN_mod, ← hj, hx]; rfl
    have hsm : s < m := by rw [hs2]; exact Nat.mod_lt _ (by omega)
    rw [← hs]
    have z1 : (n : Int).tmod (m : Int) = (j : Int) := by rw [Int.tmod_eq_emod_of_nonneg (by omega), hj, Int.natCast_emod]
    have z1e : (n : Int) % (m : Int) = (j : Int) := by rw [hj, Int.natCast_emod]
    have z2 : IntKind.i64.wrap (j : Int) = (j : Int) := by rw [IntKind.wrap_i64]; omega
    have z3 : IntKind.i64.wrap ((j : Int) * (k : Int)) = (x : Int) := by rw [IntKind.wrap_i64, ← Int.natCast_mul, ← hx]; omega
    obtain ⟨y, hy⟩ : ∃ y, y = o + x := ⟨_, rfl⟩
    rw [← hy] at hs2
    have z4 : IntKind.i64.wrap ((o : Int) + (x : Int)) = (y : Int) := by rw [IntKind.wrap_i64]; omega
    have z5 : (y : Int).tmod (m : Int) = (s : Int) := by rw [Int.tmod_eq_emod_of_nonneg (by omega), hs2, Int.natCast_emod]
    have z5e : (y : Int) % (m : Int) = (s : Int) := by rw [hs2, Int.natCast_emod]
    have z6 : IntKind.i64.wrap (s : Int) = (s : Int) := by rw [IntKind.wrap_i64]; omega
    have z7 : ¬ (m : Int) = 0 := by omega
    have z8 : ¬ (m : Int) = -1 := by omega
    clear hm hok hz lo lk hj hjm hx hx9 hs hs2 hsm hy
    go_enter Try.func12, Try.ntmps12
    go_upto_region 1 with fail
    change Code.wp _ _ _ _ (w.alloc (.cells #[.int .i64 (o : Int), .int .i64 (k : Int), .int .i64 (m : Int)] 23))
    generalize w.alloc (.cells #[.int .i64 (o : Int), .int .i64 (k : Int), .int .i64 (m : Int)] 23) = u1 at *
    obtain ⟨q, hq⟩ : ∃ q, q = w.heap.size := ⟨_, rfl⟩
    rw [← hq] at HM0 ⊢
    clear hq
    have y0 := blk_cell HM0.out 0
    have y1 := blk_cell HM0.out 1
    have y2 := blk_cell HM0.out 2
    go_upto_region 3 with (first
      | (go_at_call 8
         refine (HS.out _).mono ?_
         rintro e u2 ⟨rfl, hb⟩
         have hm := (hb.block q (lt_heap HM0.out)).trans HM0.out
         have HB2 := Lib.hid (HB0.out.trans (hb.mono HB0.out.size))
         have x0 := blk_cell hm 0
         have x1 := blk_cell hm 1
         have x2 := blk_cell hm 2
         clear hb hm y0 y1 y2))
    go_region
    go_wp2_with fail
    go_ret
    exact ⟨rfl, HB2.out.drew⟩
end Go.Proofs.Ytdeghjhlbhpopaa
