/- Stage 12: the document's bytes of a tuple. -/
import Derived.Test.YtlodkmidnhcmaaaHt
import Derived.Test.YtlodkmidnhcmaaaMo
import Derived.Test.YtlodkmidnhcmaaaHd
namespace Go.Proofs.Ytlodkmidnhcmaaa
set_option maxRecDepth 100000
open Go.RowKit Go.Shelf
theorem app_one {f : Nat → Int} {n : Nat} {x : Int} (h : f n = x) : ∀ j, j < n + 1 → f j = cat n f (fun _ => x) j := fun j hj => by
  unfold cat
  split
  · rfl
  · rw [show j = n by omega]
    exact h
theorem app_four (v6 : Bool) (pr : Int) (s d : Nat → Int) (sp dp : Int) : ∀ j, j < 2 + alen v6 + alen v6 + 4 → tupB v6 pr s d sp dp j = cat (2 + alen v6 + alen v6) (tupB v6 pr s d sp dp) (four (sp / 256) (sp % 256) (dp / 256) (dp % 256)) j := fun j hj => by
  obtain ⟨h0, h1, h2, h3⟩ := tupB_end (v6 := v6) (pr := pr) (s := s) (d := d) (sp := sp) (dp := dp)
  unfold cat
  split
  · rfl
  · obtain ⟨i, hi⟩ : ∃ i, j = 2 + 2 * alen v6 + i := ⟨j - (2 + 2 * alen v6), by omega⟩
    have hi4 : i < 4 := by omega
    rw [show j - (2 + alen v6 + alen v6) = i by omega, hi]
    match i, hi4 with
    | 0, _ => exact h0
    | 1, _ => exact h1
    | 2, _ => exact h2
    | 3, _ => exact h3
set_option maxHeartbeats 1000000 in
theorem rbytes_false (pr : Int) (s d : Nat → Int) (sp dp : Int) (h1 : 0 ≤ sp ∧ sp ≤ 65535) (h2 : 0 ≤ dp ∧ dp ≤ 65535) (w : World) : Calls Try.prog 16 #[.agg (tupc false pr s d sp dp)] w fun e w' => ∃ A c, e = .returned (.slice A 14 c) ∧ Own w' w.heap.size 5 A 14 c (tupB false pr s d sp dp) ∧ Below w.heap.size w w' := by
  obtain ⟨i0_, hi0, hz0, hz1, hz2⟩ := info_parts Try.info5
  have HI0 := Lib.hid hi0
  have HZ0 := Lib.hid hz0
  have HZ1 := Lib.hid hz1
  have HZ2 := Lib.hid hz2
  clear hi0 hz0 hz1 hz2
  obtain ⟨C, hC⟩ : ∃ C, C = tupc false pr s d sp dp := ⟨_, rfl⟩
  rw [← hC]
  have HC := Lib.hid hC
  have HSZ : Hid (C.size = 36) := Lib.hid (by rw [hC]; rfl)
  clear hC
  have HM0 : Hid (Mem w (w.alloc (.cells C 33)) [(w.heap.size, .cells C 33)]) := Lib.hid ((Mem.nil w).alloc _)
  go_enter Try.func16, Try.ntmps16
  go_upto_region 1 with fail
  change Code.wp _ _ _ _ (w.alloc (.cells C 33))
  have HBX : Hid (w.heap.size ≤ (w.alloc (.cells C 33)).heap.size) := Lib.hid (alloc_le _ _)
  obtain ⟨bx, hbx⟩ : ∃ b, b = w.heap.size := ⟨_, rfl⟩
  rw [← hbx] at HM0 ⊢
  clear hbx
  generalize w.alloc (.cells C 33) = u1 at *
  have x1 : u1.cell? ⟨bx, 1, none⟩ = some (.int .u8 pr) := by
    rw [blk_cell (HM0.out.get 0 rfl) 1, HC.out]
    rfl
  go_upto_region 3 with fail
  clear x1
  change Code.wp _ _ _ _ (u1.alloc (.cells #[.int .u8 4, .int .u8 pr] 5))
  have HM2 : Hid (MO w (u1.alloc (.cells #[.int .u8 4, .int .u8 pr] 5)) [(bx, .cells C 33)] u1.heap.size (some ⟨u1.heap.size, 0, none⟩) 2 2 (fun k => if k = 0 then 4 else pr)) := Lib.hid (MO.start HM0.out (below_alloc u1 _) (own_new 2 _ (Nat.le_refl _) (by decide) rfl _ rfl))
  obtain ⟨B, hB⟩ : ∃ b, b = u1.heap.size := ⟨_, rfl⟩
  rw [← hB] at HM2 HBX ⊢
  clear hB HM0
  generalize u1.alloc (.cells #[.int .u8 4, .int .u8 pr] 5) = u2 at *
  have x0 : u2.cell? ⟨bx, 0, none⟩ = some (.bool false) := by
    rw [blk_cell (HM2.out.mem.get 0 rfl) 0, HC.out]
    rfl
  have HM3 := Lib.hid (HM2.out.same (g := (tupB false pr s d sp dp)) fun k hk => by
    rcases (show k = 0 ∨ k = 1 by omega) with rfl | rfl <;> rfl)
  go_upto_region 6 with fail
  clear x0 HM2
  generalize u2 = u3 at *
  go_wp2_with fail
  go_loopw [3, 5] (fun vs vi wr => ∃ (k : Nat) (A : Option Addr) (c : Nat), k ≤ 4 ∧ vi = .int .i64 (k : Int) ∧ vs = .slice A (2 + k) c ∧ MO w wr [(bx, .cells C 33)] B A (2 + k) c (tupB false pr s d sp dp)) (fun _ vi _ => 4 - (intOf vi).toNat)
  case atStart => exact ⟨0, _, _, Nat.zero_le _, rfl, rfl, HM3.out⟩
  case round =>
    obtain ⟨k, A, c, hk, rfl, rfl, hm⟩ := hrel
    have HM := Lib.hid hm
    clear hm
    by_cases hka : k < 4
    · have i1 : (k : Int) < 4 := by omega
      have i0 : (0 : Int) ≤ (k : Int) := by omega
      have i2 : ((k : Int)).toNat = k := by omega
      have i3 : (k : Int) < 16 := by omega
      have zk : IntKind.i64.wrap ((k : Int) + 1) = (k : Int) + 1 := by rw [IntKind.wrap_i64]; omega
      have xk : wr.cell? ⟨bx, 2 + k, none⟩ = some (.int .u8 (s k)) := by
        rw [blk_cell (HM.out.mem.get 0 rfl) (2 + k), HC.out]
        exact tupc_s _ _ _ _ _ _ (by omega)
      go_wp2_with (at_builtin; refine wpList_append_rd rfl (.tmp 19) (.tmp 24) _ rfl B 5 i0_ Try.underlying23 HI0.out HZ0.out HZ1.out HZ2.out (n := 2 + k) (f := (tupB false pr s d sp dp)) rfl ((HM.out.alloc (.cells #[.int .u8 (s k)] 5)).own) rfl (rd_one wr 5 (s k) (0, 0)) (by omega) (HM.out.alloc (.cells #[.int .u8 (s k)] 5)).le ?_; intro A9 c9 w9 hown9 hg9 _)
      have HM9 := Lib.hid (((HM.out.alloc (.cells #[.int .u8 (s k)] 5)).app hown9 hg9).same (g := (tupB false pr s d sp dp)) (app_one (tupB_s (v6 := false) (pr := pr) (s := s) (d := d) (sp := sp) (dp := dp) hka)))
      clear hown9 hg9 HM
      go_wp2_with fail
      go_roundw
      case rel => exact ⟨k + 1, A9, c9, by omega, by go_num, by go_num, HM9.out⟩
      case measure => simp [intOf]; omega
    · obtain rfl : k = 4 := by omega
      have i1 : ¬ (((4 : Nat) : Int)) < 4 := by omega
      have HM4 := HM
      clear HM
      go_wp2_with fail
      go_loopw [3, 6] (fun vs vi wr => ∃ (k : Nat) (A : Option Addr) (c : Nat), k ≤ 4 ∧ vi = .int .i64 (k : Int) ∧ vs = .slice A (6 + k) c ∧ MO w wr [(bx, .cells C 33)] B A (6 + k) c (tupB false pr s d sp dp)) (fun _ vi _ => 4 - (intOf vi).toNat)
      case atStart => exact ⟨0, _, _, Nat.zero_le _, rfl, rfl, HM4.out⟩
      case round =>
        obtain ⟨k, A, c, hk, rfl, rfl, hm⟩ := hrel
        have HN := Lib.hid hm
        clear hm
        by_cases hka : k < 4
        · have i1 : (k : Int) < 4 := by omega
          have i0 : (0 : Int) ≤ (k : Int) := by omega
          have i2 : ((k : Int)).toNat = k := by omega
          have i3 : (k : Int) < 16 := by omega
          have zk : IntKind.i64.wrap ((k : Int) + 1) = (k : Int) + 1 := by rw [IntKind.wrap_i64]; omega
          have xk : wr.cell? ⟨bx, 18 + k, none⟩ = some (.int .u8 (d k)) := by
            rw [blk_cell (HN.out.mem.get 0 rfl) (18 + k), HC.out]
            exact tupc_d _ _ _ _ _ _ (by omega)
          go_wp2_with (at_builtin; refine wpList_append_rd rfl (.tmp 31) (.tmp 36) _ rfl B 5 i0_ Try.underlying23 HI0.out HZ0.out HZ1.out HZ2.out (n := 6 + k) (f := (tupB false pr s d sp dp)) rfl ((HN.out.alloc (.cells #[.int .u8 (d k)] 5)).own) rfl (rd_one wr 5 (d k) (0, 0)) (by omega) (HN.out.alloc (.cells #[.int .u8 (d k)] 5)).le ?_; intro A9 c9 w9 hown9 hg9 _)
          have HM9 := Lib.hid (((HN.out.alloc (.cells #[.int .u8 (d k)] 5)).app hown9 hg9).same (g := (tupB false pr s d sp dp)) (app_one (tupB_d (v6 := false) (pr := pr) (s := s) (d := d) (sp := sp) (dp := dp) hka)))
          clear hown9 hg9 HN
          go_wp2_with fail
          go_roundw
          case rel => exact ⟨k + 1, A9, c9, by omega, by go_num, by go_num, HM9.out⟩
          case measure => simp [intOf]; omega
        · obtain rfl : k = 4 := by omega
          have i1 : ¬ (((4 : Nat) : Int)) < 4 := by omega
          have e0 : wr.cell? ⟨bx, 34, none⟩ = some (.int .u16 sp) := by
            rw [blk_cell (HN.out.mem.get 0 rfl) 34, HC.out]
            rfl
          have e1 : wr.cell? ⟨bx, 35, none⟩ = some (.int .u16 dp) := by
            rw [blk_cell (HN.out.mem.get 0 rfl) 35, HC.out]
            rfl
          have z1 : IntKind.u16.wrap (sp.tdiv 256) = sp / 256 := by rw [IntKind.wrap_u16, Int.tdiv_eq_ediv_of_nonneg h1.1]; omega
          have z2 : sp / 256 % 256 = sp / 256 := by omega
          have z3 : IntKind.u16.wrap (dp.tdiv 256) = dp / 256 := by rw [IntKind.wrap_u16, Int.tdiv_eq_ediv_of_nonneg h2.1]; omega
          have z4 : dp / 256 % 256 = dp / 256 := by omega
          go_wp2_with (at_builtin; refine wpList_append_rd rfl (.tmp 38) (.tmp 55) _ rfl B 5 i0_ Try.underlying23 HI0.out HZ0.out HZ1.out HZ2.out (n := 6 + 4) (f := (tupB false pr s d sp dp)) rfl ((HN.out.alloc (.cells #[.int .u8 (sp / 256), .int .u8 (sp % 256), .int .u8 (dp / 256), .int .u8 (dp % 256)] 5)).own) rfl (rd_new4 wr (wr.heap.size + 1) wr.heap.size rfl (Nat.lt_succ_self _) (sp / 256) (sp % 256) (dp / 256) (dp % 256) 5) (by omega) (HN.out.alloc (.cells #[.int .u8 (sp / 256), .int .u8 (sp % 256), .int .u8 (dp / 256), .int .u8 (dp % 256)] 5)).le ?_; intro A9 c9 w9 hown9 hg9 _)
          have HM9 := Lib.hid (((HN.out.alloc (.cells #[.int .u8 (sp / 256), .int .u8 (sp % 256), .int .u8 (dp / 256), .int .u8 (dp % 256)] 5)).app hown9 hg9).same (g := (tupB false pr s d sp dp)) (app_four false pr s d sp dp))
          clear hown9 hg9 HN
          go_wp2_with fail
          go_ret
          exact ⟨A9, c9, rfl, HM9.out.own.le HBX.out, HM9.out.below⟩
set_option maxHeartbeats 1000000 in
theorem rbytes_true (pr : Int) (s d : Nat → Int) (sp dp : Int) (h1 : 0 ≤ sp ∧ sp ≤ 65535) (h2 : 0 ≤ dp ∧ dp ≤ 65535) (w : World) : Calls Try.prog 16 #[.agg (tupc true pr s d sp dp)] w fun e w' => ∃ A c, e = .returned (.slice A 38 c) ∧ Own w' w.heap.size 5 A 38 c (tupB true pr s d sp dp) ∧ Below w.heap.size w w' := by
  obtain ⟨i0_, hi0, hz0, hz1, hz2⟩ := info_parts Try.info5
  have HI0 := Lib.hid hi0
  have HZ0 := Lib.hid hz0
  have HZ1 := Lib.hid hz1
  have HZ2 := Lib.hid hz2
  clear hi0 hz0 hz1 hz2
  obtain ⟨C, hC⟩ : ∃ C, C = tupc true pr s d sp dp := ⟨_, rfl⟩
  rw [← hC]
  have HC := Lib.hid hC
  have HSZ : Hid (C.size = 36) := Lib.hid (by rw [hC]; rfl)
  clear hC
  have HM0 : Hid (Mem w (w.alloc (.cells C 33)) [(w.heap.size, .cells C 33)]) := Lib.hid ((Mem.nil w).alloc _)
  go_enter Try.func16, Try.ntmps16
  go_upto_region 1 with fail
  change Code.wp _ _ _ _ (w.alloc (.cells C 33))
  have HBX : Hid (w.heap.size ≤ (w.alloc (.cells C 33)).heap.size) := Lib.hid (alloc_le _ _)
  obtain ⟨bx, hbx⟩ : ∃ b, b = w.heap.size := ⟨_, rfl⟩
  rw [← hbx] at HM0 ⊢
  clear hbx
  generalize w.alloc (.cells C 33) = u1 at *
  have x1 : u1.cell? ⟨bx, 1, none⟩ = some (.int .u8 pr) := by
    rw [blk_cell (HM0.out.get 0 rfl) 1, HC.out]
    rfl
  go_upto_region 3 with fail
  clear x1
  change Code.wp _ _ _ _ (u1.alloc (.cells #[.int .u8 4, .int .u8 pr] 5))
  have HM2 : Hid (MO w (u1.alloc (.cells #[.int .u8 4, .int .u8 pr] 5)) [(bx, .cells C 33)] u1.heap.size (some ⟨u1.heap.size, 0, none⟩) 2 2 (fun k => if k = 0 then 4 else pr)) := Lib.hid (MO.start HM0.out (below_alloc u1 _) (own_new 2 _ (Nat.le_refl _) (by decide) rfl _ rfl))
  obtain ⟨B, hB⟩ : ∃ b, b = u1.heap.size := ⟨_, rfl⟩
  rw [← hB] at HM2 HBX ⊢
  clear hB HM0
  generalize u1.alloc (.cells #[.int .u8 4, .int .u8 pr] 5) = u2 at *
  have x0 : u2.cell? ⟨bx, 0, none⟩ = some (.bool true) := by
    rw [blk_cell (HM2.out.mem.get 0 rfl) 0, HC.out]
    rfl
  have y0 : u2.cell? ⟨B, 0, none⟩ = some (.int .u8 4) := (HM2.out.cells 0 (by decide)).1
  have y1 := (HM2.out.cells 0 (by decide)).2
  have HM3 := Lib.hid ((HM2.out.set (by decide) 0 6).same (g := (tupB true pr s d sp dp)) fun k hk => by
    rcases (show k = 0 ∨ k = 1 by omega) with rfl | rfl <;> rfl)
  go_upto_region 6 with fail
  clear y0 y1 x0 HM2
  generalize u2.setCell ⟨B, 0, none⟩ (.int .u8 6) = u3 at *
  go_wp2_with fail
  go_loopw [3, 5] (fun vs vi wr => ∃ (k : Nat) (A : Option Addr) (c : Nat), k ≤ 16 ∧ vi = .int .i64 (k : Int) ∧ vs = .slice A (2 + k) c ∧ MO w wr [(bx, .cells C 33)] B A (2 + k) c (tupB true pr s d sp dp)) (fun _ vi _ => 16 - (intOf vi).toNat)
  case atStart => exact ⟨0, _, _, Nat.zero_le _, rfl, rfl, HM3.out⟩
  case round =>
    obtain ⟨k, A, c, hk, rfl, rfl, hm⟩ := hrel
    have HM := Lib.hid hm
    clear hm
    by_cases hka : k < 16
    · have i1 : (k : Int) < 16 := by omega
      have i0 : (0 : Int) ≤ (k : Int) := by omega
      have i2 : ((k : Int)).toNat = k := by omega
      have i3 : (k : Int) < 16 := by omega
      have zk : IntKind.i64.wrap ((k : Int) + 1) = (k : Int) + 1 := by rw [IntKind.wrap_i64]; omega
      have xk : wr.cell? ⟨bx, 2 + k, none⟩ = some (.int .u8 (s k)) := by
        rw [blk_cell (HM.out.mem.get 0 rfl) (2 + k), HC.out]
        exact tupc_s _ _ _ _ _ _ (by omega)
      go_wp2_with (at_builtin; refine wpList_append_rd rfl (.tmp 19) (.tmp 24) _ rfl B 5 i0_ Try.underlying23 HI0.out HZ0.out HZ1.out HZ2.out (n := 2 + k) (f := (tupB true pr s d sp dp)) rfl ((HM.out.alloc (.cells #[.int .u8 (s k)] 5)).own) rfl (rd_one wr 5 (s k) (0, 0)) (by omega) (HM.out.alloc (.cells #[.int .u8 (s k)] 5)).le ?_; intro A9 c9 w9 hown9 hg9 _)
      have HM9 := Lib.hid (((HM.out.alloc (.cells #[.int .u8 (s k)] 5)).app hown9 hg9).same (g := (tupB true pr s d sp dp)) (app_one (tupB_s (v6 := true) (pr := pr) (s := s) (d := d) (sp := sp) (dp := dp) hka)))
      clear hown9 hg9 HM
      go_wp2_with fail
      go_roundw
      case rel => exact ⟨k + 1, A9, c9, by omega, by go_num, by go_num, HM9.out⟩
      case measure => simp [intOf]; omega
    · obtain rfl : k = 16 := by omega
      have i1 : ¬ (((16 : Nat) : Int)) < 16 := by omega
      have HM4 := HM
      clear HM
      go_wp2_with fail
      go_loopw [3, 6] (fun vs vi wr => ∃ (k : Nat) (A : Option Addr) (c : Nat), k ≤ 16 ∧ vi = .int .i64 (k : Int) ∧ vs = .slice A (18 + k) c ∧ MO w wr [(bx, .cells C 33)] B A (18 + k) c (tupB true pr s d sp dp)) (fun _ vi _ => 16 - (intOf vi).toNat)
      case atStart => exact ⟨0, _, _, Nat.zero_le _, rfl, rfl, HM4.out⟩
      case round =>
        obtain ⟨k, A, c, hk, rfl, rfl, hm⟩ := hrel
        have HN := Lib.hid hm
        clear hm
        by_cases hka : k < 16
        · have i1 : (k : Int) < 16 := by omega
          have i0 : (0 : Int) ≤ (k : Int) := by omega
          have i2 : ((k : Int)).toNat = k := by omega
          have i3 : (k : Int) < 16 := by omega
          have zk : IntKind.i64.wrap ((k : Int) + 1) = (k : Int) + 1 := by rw [IntKind.wrap_i64]; omega
          have xk : wr.cell? ⟨bx, 18 + k, none⟩ = some (.int .u8 (d k)) := by
            rw [blk_cell (HN.out.mem.get 0 rfl) (18 + k), HC.out]
            exact tupc_d _ _ _ _ _ _ (by omega)
          go_wp2_with (at_builtin; refine wpList_append_rd rfl (.tmp 31) (.tmp 36) _ rfl B 5 i0_ Try.underlying23 HI0.out HZ0.out HZ1.out HZ2.out (n := 18 + k) (f := (tupB true pr s d sp dp)) rfl ((HN.out.alloc (.cells #[.int .u8 (d k)] 5)).own) rfl (rd_one wr 5 (d k) (0, 0)) (by omega) (HN.out.alloc (.cells #[.int .u8 (d k)] 5)).le ?_; intro A9 c9 w9 hown9 hg9 _)
          have HM9 := Lib.hid (((HN.out.alloc (.cells #[.int .u8 (d k)] 5)).app hown9 hg9).same (g := (tupB true pr s d sp dp)) (app_one (tupB_d (v6 := true) (pr := pr) (s := s) (d := d) (sp := sp) (dp := dp) hka)))
          clear hown9 hg9 HN
          go_wp2_with fail
          go_roundw
          case rel => exact ⟨k + 1, A9, c9, by omega, by go_num, by go_num, HM9.out⟩
          case measure => simp [intOf]; omega
        · obtain rfl : k = 16 := by omega
          have i1 : ¬ (((16 : Nat) : Int)) < 16 := by omega
          have e0 : wr.cell? ⟨bx, 34, none⟩ = some (.int .u16 sp) := by
            rw [blk_cell (HN.out.mem.get 0 rfl) 34, HC.out]
            rfl
          have e1 : wr.cell? ⟨bx, 35, none⟩ = some (.int .u16 dp) := by
            rw [blk_cell (HN.out.mem.get 0 rfl) 35, HC.out]
            rfl
          have z1 : IntKind.u16.wrap (sp.tdiv 256) = sp / 256 := by rw [IntKind.wrap_u16, Int.tdiv_eq_ediv_of_nonneg h1.1]; omega
          have z2 : sp / 256 % 256 = sp / 256 := by omega
          have z3 : IntKind.u16.wrap (dp.tdiv 256) = dp / 256 := by rw [IntKind.wrap_u16, Int.tdiv_eq_ediv_of_nonneg h2.1]; omega
          have z4 : dp / 256 % 256 = dp / 256 := by omega
          go_wp2_with (at_builtin; refine wpList_append_rd rfl (.tmp 38) (.tmp 55) _ rfl B 5 i0_ Try.underlying23 HI0.out HZ0.out HZ1.out HZ2.out (n := 18 + 16) (f := (tupB true pr s d sp dp)) rfl ((HN.out.alloc (.cells #[.int .u8 (sp / 256), .int .u8 (sp % 256), .int .u8 (dp / 256), .int .u8 (dp % 256)] 5)).own) rfl (rd_new4 wr (wr.heap.size + 1) wr.heap.size rfl (Nat.lt_succ_self _) (sp / 256) (sp % 256) (dp / 256) (dp % 256) 5) (by omega) (HN.out.alloc (.cells #[.int .u8 (sp / 256), .int .u8 (sp % 256), .int .u8 (dp / 256), .int .u8 (dp % 256)] 5)).le ?_; intro A9 c9 w9 hown9 hg9 _)
          have HM9 := Lib.hid (((HN.out.alloc (.cells #[.int .u8 (sp / 256), .int .u8 (sp % 256), .int .u8 (dp / 256), .int .u8 (dp % 256)] 5)).app hown9 hg9).same (g := (tupB true pr s d sp dp)) (app_four true pr s d sp dp))
          clear hown9 hg9 HN
          go_wp2_with fail
          go_ret
          exact ⟨A9, c9, rfl, HM9.out.own.le HBX.out, HM9.out.below⟩
end Go.Proofs.Ytlodkmidnhcmaaa
