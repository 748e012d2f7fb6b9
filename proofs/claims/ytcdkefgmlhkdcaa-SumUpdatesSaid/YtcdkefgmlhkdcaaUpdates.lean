/- SumUpdates: the walk. -/
import Derived.Test.YtcdkefgmlhkdcaaUpd
namespace Go.Proofs.Ytcdkefgmlhkdcaa
open Go.RowKit

theorem upd_at (x : Int) (n : Nat) (hn : n ≤ 2000) (h2 : 2 ≤ n) : ∃ m : Nat, 2 * m + 1 < n ∧ wrap64 ((IntKind.u64.wrap x).tmod ((n : Int) / 2)) = m := by
  have h0 : 0 ≤ IntKind.u64.wrap x := by simp only [IntKind.wrap_u64]; omega
  rw [Int.tmod_eq_emod_of_nonneg h0]
  have h1 := Int.emod_nonneg (IntKind.u64.wrap x) (b := (n : Int) / 2) (by omega)
  have h2 := Int.emod_lt_of_pos (IntKind.u64.wrap x) (b := (n : Int) / 2) (by omega)
  generalize IntKind.u64.wrap x % ((n : Int) / 2) = r at *
  refine ⟨r.toNat, by omega, ?_⟩
  unfold wrap64
  omega

set_option maxHeartbeats 400000 in
theorem upd_none (A : Option Addr) (n c : Nat) (x to : Int) (w : World) (hn : n < 2 ∨ 2000 < n) (hn' : n ≤ 9223372036854775807) :
    Calls Try.prog 6 #[.slice A n c, .int .i64 x, .int .u16 to] w fun e w' => e = .returned (.bool true) ∧ Below w.heap.size w w' := by
  rcases hn with hn | hn
  all_goals
    go_enter Try.func6, Try.ntmps6
    go_wp2_with (go_at_call 7; refine (known_any _).mono ?_; rintro e w1 ⟨rfl, hb1⟩)
    go_ret
    exact ⟨rfl, hb1⟩

set_option maxHeartbeats 400000 in
theorem upd_some (A : Option Addr) (n c : Nat) (x to : Int) (f : Nat → Int) (hf : Byt f) (hn : n ≤ 2000) (h2 : 2 ≤ n) (hcap : n ≤ c) (hc' : c ≤ 9223372036854775807) (w : World) (ha : -9223372036854775808 ≤ x) (ha' : x ≤ 9223372036854775807) (ht : 0 ≤ to) (ht' : to ≤ 65535)
    (hr : Rd w w.heap.size A n f) :
    Calls Try.prog 6 #[.slice A n c, .int .i64 x, .int .u16 to] w fun e w' => e = .returned (.bool true) ∧ Below w.heap.size w w' := by
  obtain ⟨i0, hi0, hz0, hz1, hz2⟩ := info_parts Try.info5
  have HI0 := Lib.hid hi0
  have HZ0 := Lib.hid hz0
  have HZ1 := Lib.hid hz1
  have HZ2 := Lib.hid hz2
  clear hi0 hz0 hz1 hz2
  have HF := Lib.hid hf
  clear hf
  have HR := Lib.hid hr
  rcases hr with h0 | ⟨b, off, rfl, hlt, hcell⟩
  · omega
  have HC := Lib.hid hcell
  clear hcell
  obtain ⟨m, hm, he⟩ := upd_at x n hn h2
  go_enter Try.func6, Try.ntmps6
  go_wp2_with (first
    | (at_builtin
       refine wpList_append_rd rfl (.tmp 28) (.tmp 29) _ rfl w.heap.size 5 i0 Try.underlying25 HI0.out HZ0.out HZ1.out HZ2.out (n := 0) (f := f) rfl (Own.fresh _ _ _ rfl (Nat.le_refl _) 5 f) rfl (HR.out.keep (below_alloc _ _)) (by omega) (alloc_le _ _) ?_
       intro A1 c1 w1 hown1 hg1 _
       have hb3 : Below w.heap.size w w1 := (below_alloc _ _).grown hg1 (alloc_le _ _) (by intro k hk; simp [Value.ownBlock] at hk; omega)
       have HO1 : Hid (Own w1 w.heap.size 5 A1 n c1 f) := by
         have e := hown1.same (g := f) (by intro k _; simp [cat])
         rw [Nat.zero_add] at e
         exact e
       clear hown1 hg1
       obtain ⟨g, rfl, hg0, hg1, hgc, hgf⟩ := HO1.out.lies (by omega)
       have hgc0 := hgc (2 * m) (by omega)
       have hgc1 := hgc (2 * m + 1) (by omega)
       have hgf0 := hgf (2 * m)
       have hgf1 := hgf (2 * m + 1)
       clear hgc hgf))
  have HO2 : Hid (Own ((w1.setCell ⟨g, 2 * m, none⟩ (.int .u8 (to / 256))).setCell ⟨g, 2 * m + 1, none⟩ (.int .u8 (to % 256))) w.heap.size 5 (some ⟨g, 0, none⟩) n c1 (upd (upd f (2 * m) (to / 256)) (2 * m + 1) (to % 256))) :=
    (HO1.out.set_ _ _).set_ _ _
  have hb4 : Below w.heap.size w ((w1.setCell ⟨g, 2 * m, none⟩ (.int .u8 (to / 256))).setCell ⟨g, 2 * m + 1, none⟩ (.int .u8 (to % 256))) := (hb3.setCell hg0 _).setCell hg0 _
  generalize (w1.setCell ⟨g, 2 * m, none⟩ (.int .u8 (to / 256))).setCell ⟨g, 2 * m + 1, none⟩ (.int .u8 (to % 256)) = w2 at *
  clear hgc0 hgc1 hgf0 hgf1
  have HR2 : Hid (Rd w2 w2.heap.size (some ⟨b, off, none⟩) n f) := (HR.out.keep hb4).more hb4.size
  have hL0 := Stay.cell (((hb4.cell (p := ⟨b, off + 2 * m, none⟩) hlt)).trans (HC.out (2 * m) (by omega)))
  have hL1 := Stay.cell (((hb4.cell (p := ⟨b, off + (2 * m + 1), none⟩) hlt)).trans (HC.out (2 * m + 1) (by omega)))
  obtain ⟨hx, hx'⟩ := HF.out (2 * m)
  obtain ⟨hy, hy'⟩ := HF.out (2 * m + 1)
  have HFU : Hid (Byt (upd (upd f (2 * m) (to / 256)) (2 * m + 1) (to % 256))) := upd_byt (upd_byt HF.out _ ⟨by omega, by omega⟩) _ ⟨by omega, by omega⟩
  have hU := ofv_upd HF.out n m hm (to / 256) (to % 256) ⟨by omega, by omega⟩ ⟨by omega, by omega⟩
  have hto : to / 256 * 256 + to % 256 = to := by omega
  rw [hto] at hU
  clear hto
  have hcc := HO2.out.cap
  have H8a := Lib.hid fun W : Stay w2 => Calls.stay W (of_any (some ⟨g, 0, none⟩) n c1 _ HFU.out (by omega) hcc W.w (Stay.rd HO2.out.rd W))
  have H8b := Lib.hid fun W : Stay w2 => Calls.stay W (of_any (some ⟨b, off, none⟩) n c f HF.out (by omega) hcap W.w (Stay.rd HR2.out W))
  have H16 := Lib.hid fun W : Stay w2 => Calls.stay W ((update_any (ofv f n) (f (2 * m) * 256 + f (2 * m + 1)) to W.w (ofv_bd HF.out n) ⟨by omega, by omega⟩ ⟨ht, ht'⟩).mono fun _ _ h => ⟨h.1, h.2 ▸ Below.refl _ _⟩)
  dsimp only at hU
  generalize upv (ofv f n) (f (2 * m) * 256 + f (2 * m + 1)) to = Y at *
  generalize ofv (upd (upd f (2 * m) (to / 256)) (2 * m + 1) (to % 256)) n = X at *
  generalize ofv f n = S at *
  generalize f (2 * m) = fx at *
  generalize f (2 * m + 1) = fy at *
  clear he
  rcases hU with rfl | ⟨rfl, rfl⟩ | ⟨rfl, rfl⟩
  all_goals
    refine wp_region_stay (by kernel_rfl) (by kernel_rfl) ?_
    repeat (go_big_quiet_step (first
      | (go_at_call 8; with_reducible exact H8a.out _)
      | (go_at_call 8; with_reducible exact H8b.out _)
      | (go_at_call 16; with_reducible exact H16.out _)))
    refine wpQuiet_nil ?_
    intro w' hw'
    obtain ⟨W, rfl⟩ := hw'
    have hb5 := W.below
    go_wp2_with (go_at_call 7; refine (known_any _).mono ?_; rintro e w9 ⟨rfl, hb9⟩)
    go_ret
    exact ⟨rfl, (hb4.trans (hb5.mono hb4.size)).trans (hb9.mono (hb4.trans (hb5.mono hb4.size)).size)⟩
end Go.Proofs.Ytcdkefgmlhkdcaa
