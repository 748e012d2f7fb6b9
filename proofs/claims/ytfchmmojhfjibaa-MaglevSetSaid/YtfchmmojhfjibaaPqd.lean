/- Stage 18: the document's Slots. -/
import Derived.Test.YtfchmmojhfjibaaPqc
namespace Go.Proofs.Ytfchmmojhfjibaa
set_option maxRecDepth 100000
open Go.RowKit Go.Shelf
theorem Try.infoIT : (Try.prog.info? 3).map (fun i => (i.zero, i.size, i.bytes)) = some (some (.int .i64 0), 1, 8) := by kernel_rfl
theorem slN_succ {o k m i : Nat} (hm : 0 < m) (hk : k < m) : slN o k m (i + 1) = if m ≤ slN o k m i + k then slN o k m i + k - m else slN o k m i + k := by
  have h := slN_lt (o := o) (k := k) hm i
  have e : slN o k m (i + 1) = (slN o k m i + k) % m := by
    unfold slN
    rw [Nat.add_mul, Nat.one_mul, ← Nat.add_assoc, Nat.mod_add_mod]
  rw [e]
  split
  · rename_i q
    rw [Nat.mod_eq_sub_mod q, Nat.mod_eq_of_lt (by omega)]
  · exact Nat.mod_eq_of_lt (by omega)
/-- The row so far: the first i slots. -/
def pf (o k m i j : Nat) : Value := .int .i64 ((if j < i then slN o k m j else 0 : Nat) : Int)
def sf (o k m j : Nat) : Value := .int .i64 (slN o k m j : Int)
set_option maxHeartbeats 2000000 in
theorem rslots_yes {p : Pe} {o k m : Nat} (h : p.Ok o k m) (w : World) : Calls Try.prog 30 #[.agg #[.int .i64 (o : Int), .int .i64 (k : Int), .int .i64 (m : Int)]] w fun e w' => ∃ g, e = .returned (.slice (some ⟨g, 0, none⟩) m m) ∧ OwnC w' w.heap.size 3 1 (some ⟨g, 0, none⟩) m m (sf o k m) ∧ Below w.heap.size w w' := by
  have hz := szP_le h.sz
  have HM : Hid (∀ W : World, Calls Try.prog 42 #[.agg #[.int .i64 (o : Int), .int .i64 (k : Int), .int .i64 (m : Int)]] W (ret (.bool true) W)) := Lib.hid fun W => by
    have := rpmay_any p W
    rwa [h.may_, h.eo, h.ek, h.em] at this
  have HLK := Lib.hid (show o < m ∧ 0 < k ∧ k < m ∧ 7 ≤ m ∧ m ≤ 65537 from ⟨h.lo, h.pk, h.lk, hz.1, hz.2.1⟩)
  have hm9 : m ≤ 65537 := hz.2.1
  have hm7 : 7 ≤ m := hz.1
  have HMK : Hid (∀ W : World, ∃ w', (Instr.makeSlice 23 (.int .i64 (m : Int)) (.int .i64 (m : Int))).run Try.prog W = .ok (.slice (some ⟨W.heap.size, 0, none⟩) m m) w' ∧ OwnC w' W.heap.size 3 1 (some ⟨W.heap.size, 0, none⟩) m m (pf o k m 0) ∧ W.grownBy w' none) := Lib.hid fun W => by
    obtain ⟨i0, hi0, hz0, hz1, hz2⟩ := info_parts Try.infoIT
    obtain ⟨w', q1, q2, q3⟩ := run_make_vals (P := Try.prog) W W.heap.size 23 3 i0 (.int .i64 0) Try.underlying23 hi0 hz0 hz1 rfl m (by rw [hz2]; omega) (by unfold maxLen; omega) (Nat.le_refl _)
    exact ⟨w', q1, q2.same fun j _ => by unfold pf; rw [if_neg (Nat.not_lt_zero _)]; rfl, q3⟩
  have HM0 : Hid ((w.alloc (.cells #[.int .i64 (o : Int), .int .i64 (k : Int), .int .i64 (m : Int)] 50)).heap[w.heap.size]? = some (.cells #[.int .i64 (o : Int), .int .i64 (k : Int), .int .i64 (m : Int)] 50 (0, 0))) := Lib.hid (heap_alloc_new w _)
  have HB0 : Hid (Below w.heap.size w (w.alloc (.cells #[.int .i64 (o : Int), .int .i64 (k : Int), .int .i64 (m : Int)] 50))) := Lib.hid (below_alloc w _)
  clear h hz
  go_enter Try.func30, Try.ntmps30
  go_upto_region 1 with fail
  change Code.wp _ _ _ _ (w.alloc (.cells #[.int .i64 (o : Int), .int .i64 (k : Int), .int .i64 (m : Int)] 50))
  generalize w.alloc (.cells #[.int .i64 (o : Int), .int .i64 (k : Int), .int .i64 (m : Int)] 50) = u1 at *
  obtain ⟨q, hq⟩ : ∃ q, q = w.heap.size := ⟨_, rfl⟩
  rw [← hq] at HM0 ⊢
  have HQ := Lib.hid hq
  clear hq
  have y0 := blk_cell HM0.out 0
  have y1 := blk_cell HM0.out 1
  have y2 := blk_cell HM0.out 2
  go_upto_region 3 with (first
    | (go_at_call 42
       refine (HM.out _).mono ?_
       rintro e u2 ⟨rfl, hb⟩
       have HM2 := Lib.hid ((hb.block q (lt_heap HM0.out)).trans HM0.out)
       have HB2 := Lib.hid (HB0.out.trans (hb.mono HB0.out.size))
       clear hb))
  clear y0 y1 y2
  obtain ⟨u3, hmk, ho, hg⟩ := HMK.out u2
  have hbg : Below u2.heap.size u2 u3 := (Below.refl _ _).grown hg (Nat.le_refl _) fun _ h => nomatch h
  have HO3 := Lib.hid ho
  have HM3 := Lib.hid ((hbg.block q (lt_heap HM2.out)).trans HM2.out)
  have HB3 := Lib.hid (HB2.out.trans (hbg.mono HB2.out.size))
  have HGQ : Hid (q < u2.heap.size ∧ w.heap.size ≤ u2.heap.size) := Lib.hid ⟨lt_heap HM2.out, HB2.out.size⟩
  have x2 := blk_cell HM2.out 2
  have z0 := blk_cell HM3.out 0
  obtain ⟨g, hgg⟩ : ∃ g, g = u2.heap.size := ⟨_, rfl⟩
  rw [← hgg] at hmk HO3 HGQ
  clear ho hg hbg HMK hgg
  go_wp2_with fail
  clear x2 z0 hmk
  go_loopw [4, 5] (fun vs vi wr => ∃ i : Nat, i ≤ m ∧ vs = .int .i64 (slN o k m i : Int) ∧ vi = .int .i64 (i : Int) ∧ OwnC wr g 3 1 (some ⟨g, 0, none⟩) m m (pf o k m i) ∧ wr.heap[q]? = some (.cells #[.int .i64 (o : Int), .int .i64 (k : Int), .int .i64 (m : Int)] 50 (0, 0)) ∧ Below w.heap.size w wr) (fun _ vi _ => m - (intOf vi).toNat)
  case atStart => exact ⟨0, Nat.zero_le _, by have := HLK.out; unfold slN; rw [Nat.zero_mul, Nat.add_zero, Nat.mod_eq_of_lt this.1], rfl, HO3.out, HM3.out, HB3.out⟩
  case round =>
    obtain ⟨i, hi, rfl, rfl, ho, hq, hb⟩ := hrel
    have HO := Lib.hid ho
    have HQR := Lib.hid hq
    have HB := Lib.hid hb
    have x0 := blk_cell hq 0
    have x1 := blk_cell hq 1
    have x2 := blk_cell hq 2
    by_cases hlt : i < m
    · have l1 : (i : Int) < (m : Int) := by omega
      have i0 : (0 : Int) ≤ (i : Int) := by omega
      have i2 : ((i : Int)).toNat = i := by omega
      have zi : IntKind.i64.wrap ((i : Int) + 1) = (i : Int) + 1 := by rw [IntKind.wrap_i64]; omega
      obtain ⟨s, hs⟩ : ∃ s, s = slN o k m i := ⟨_, rfl⟩
      have hsm : s < m := by rw [hs]; exact slN_lt (by omega) i
      have hkm : k < m := HLK.out.2.2.1
      have HS1 := Lib.hid (slN_succ (o := o) (i := i) (by omega) hkm)
      rw [← hs] at HS1 ⊢
      have zs : IntKind.i64.wrap ((s : Int) + (k : Int)) = (s : Int) + (k : Int) := by rw [IntKind.wrap_i64]; omega
      have zs2 : IntKind.i64.wrap ((s : Int) + (k : Int) - (m : Int)) = (s : Int) + (k : Int) - (m : Int) := by rw [IntKind.wrap_i64]; omega
      obtain ⟨g', e, _, hgl, hc, hfz⟩ := ho.lies (by omega)
      injection e with e
      injection e with e
      subst e
      have xc : _ = some (pf o k m i i) := hc i (by omega)
      have xf := hfz i
      have HXS := Lib.hid hs
      have HO2 : Hid (∀ W' : World, OwnC W' g 3 1 (some ⟨g, 0, none⟩) m m (updV (pf o k m i) i (.int .i64 (s : Int))) → OwnC W' g 3 1 (some ⟨g, 0, none⟩) m m (pf o k m (i + 1))) := Lib.hid fun W' h => h.same fun j _ => by
        unfold updV pf
        by_cases e : j = i
        · rw [if_pos e, if_pos (by omega), e, HXS.out]
        · rw [if_neg e]
          by_cases e2 : j < i
          · rw [if_pos e2, if_pos (by omega)]
          · rw [if_neg e2, if_neg (by omega)]
      unfold pf at xc
      obtain ⟨c0, hc0⟩ : ∃ c0 : Int, c0 = ((if i < i then slN o k m i else 0 : Nat) : Int) := ⟨_, rfl⟩
      rw [← hc0] at xc
      have hne : q ≠ g := by have := HGQ.out; omega
      have HSET := Lib.hid (HO2.out _ (HO.out.set_ i (.int .i64 (s : Int))))
      have HQ2 := Lib.hid ((Below.heap_setCell wr ⟨g, i, none⟩ (.int .i64 (s : Int)) q hne).trans HQR.out)
      have HB2 := Lib.hid (HB.out.setCell (p := ⟨g, i, none⟩) (by have := HGQ.out; show w.heap.size ≤ g; omega) (.int .i64 (s : Int)))
      have w1 := blk_cell HQ2.out 1
      have w2 := blk_cell HQ2.out 2
      clear ho hq hb hc hfz hc0 hs hgl hne HO2
      by_cases hov : m ≤ s + k
      · have l2 : (m : Int) ≤ (s : Int) + (k : Int) := by omega
        have HS2 : Hid (slN o k m (i + 1) = s + k - m) := Lib.hid (by rw [HS1.out, if_pos hov])
        go_wp2_with fail
        go_roundw
        case rel => exact ⟨i + 1, by omega, by rw [HS2.out]; go_num, by go_num, HSET.out, HQ2.out, HB2.out⟩
        case measure => simp [intOf]; omega
      · have l2 : ¬ (m : Int) ≤ (s : Int) + (k : Int) := by omega
        have HS2 : Hid (slN o k m (i + 1) = s + k) := Lib.hid (by rw [HS1.out, if_neg hov])
        go_wp2_with fail
        go_roundw
        case rel => exact ⟨i + 1, by omega, by rw [HS2.out]; go_num, by go_num, HSET.out, HQ2.out, HB2.out⟩
        case measure => simp [intOf]; omega
    · obtain rfl : i = m := by omega
      have l1 : ¬ (i : Int) < (i : Int) := by omega
      clear ho hq hb
      go_wp2_with fail
      go_ret
      refine ⟨g, rfl, (HO.out.le HGQ.out.2).same fun j hj => ?_, HB.out⟩
      unfold pf sf
      rw [if_pos (by omega)]
end Go.Proofs.Ytfchmmojhfjibaa
