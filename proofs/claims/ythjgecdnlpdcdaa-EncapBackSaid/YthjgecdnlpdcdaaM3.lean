import Derived.Test.YthjgecdnlpdcdaaM1
/- The program's Add behind an odd number of bytes. -/
namespace Go.Proofs.Ythjgecdnlpdcdaa
set_option maxRecDepth 100000
open Go.RowKit
set_option maxHeartbeats 400000 in
theorem add_odd (s : Int) (b off m c : Nat) (f : Nat → Int) (hf : Byt f) (hn : 0 < m) (hcap : m + 1 ≤ c) (hn' : m ≤ 4611686018427387900) (w : World) (ha : 0 ≤ s) (ha' : s ≤ 65535)
    (hb : b < w.heap.size) (hc : ∀ k, k < m + 1 → w.cell? ⟨b, off + k, none⟩ = some (.int .u8 (f k))) :
    Calls Try.prog 34 #[.agg #[.int .u16 s, .bool true], .slice (some ⟨b, off, none⟩) (m + 1) c] w fun e w' => e = .returned (.agg #[.int .u16 (fld f (s, true) (m + 1)).1, .bool (fld f (s, true) (m + 1)).2]) ∧ Below w.heap.size w w' := by
  have hc0 : w.cell? ⟨b, off, none⟩ = some (.int .u8 (f 0)) := hc 0 (by omega)
  have HC := Lib.hid hc
  clear hc
  obtain ⟨hx, hx'⟩ := hf 0
  have HF := Lib.hid hf
  clear hf
  generalize hx0 : f 0 = x at hx hx' hc0
  have HX := Lib.hid hx0
  clear hx0
  have hz : ((m : Int) + 1 == 0) = false := by simp; omega
  go_enter Try.func34, Try.ntmps34
  go_wp2
  have hA := AddW.start w s true (.slice (some ⟨b, off, none⟩) (m + 1) c)
  obtain ⟨wr, hwr⟩ : ∃ wr, wr = ((w.alloc (Obj.cells #[.int .u16 s, .bool true] 84)).alloc (Obj.cells #[.slice (some ⟨b, off, none⟩) (m + 1) c] 26)).alloc (Obj.cells #[.int .u16 0, .bool false] 84) := ⟨_, rfl⟩
  rw [← hwr] at hA ⊢
  clear hwr
  have HA0 := Lib.hid hA
  obtain ⟨h0, h1, h2, h3, h4, g0, g1, g2, g3, g4, hbl⟩ := hA
  have hcx : wr.cell? ⟨b, off, none⟩ = some (.int .u8 x) := (hbl.cell (p := ⟨b, off, none⟩) hb).trans hc0
  have hwx : IntKind.u16.wrap x = x := by simp only [IntKind.wrap_u16]; omega
  go_still_tail 8, (by kernel_rfl)
  still_call ((plus_any s x _ ha ha' hx (by omega)).mono fun _ _ h => ⟨h.1, h.2.symm⟩)
  repeat still_step
  refine wpStill_nil ?_
  clear hwx
  change wpList _ _ _ _ _ wr.drew
  go_wp2
  have HA := Lib.hid (AddW.cut (s' := pl s x) (v' := .slice (some ⟨b, off + 1, none⟩) m (c - 1)) HA0.out)
  have HE : Hid (fld f (s, true) (m + 1) = fld (fun k => f (k + 1)) (pl s x, false) m) := by
    have e := fld_shift f (s, true) m
    rw [← e, HX.out]
    rfl
  have hs1 : 0 ≤ pl s x ∧ pl s x ≤ 65535 := by unfold pl; split <;> omega
  have HG : Hid (Byt fun k => f (k + 1)) := fun k => HF.out (k + 1)
  have HCG : Hid (∀ k, k < m → w.cell? ⟨b, off + 1 + k, none⟩ = some (.int .u8 ((fun k => f (k + 1)) k))) := by
    intro k hk
    have e := HC.out (k + 1) (by omega)
    rw [show off + (k + 1) = off + 1 + k by omega] at e
    exact e
  have hm' : m ≤ 4611686018427387904 := by omega
  obtain ⟨g, hg⟩ : ∃ g : Nat → Int, g = fun k => f (k + 1) := ⟨_, rfl⟩
  rw [← hg] at HE HG HCG
  clear hg
  clear h0 h1 h2 h3 h4 g0 g1 g2 g3 g4 hbl hcx HA0

  go_loopw [31] (fun i wr => ∃ k : Nat, k ≤ m / 2 + m % 2 ∧ i = .int .i64 k ∧ AddW w wr (fld g (pl s x, false) (if 2 * k ≤ m then 2 * k else m)).1 true (.slice (some ⟨b, off + 1, none⟩) m (c - 1))) (fun i _ => (m / 2 + m % 2) - (intOf i).toNat)
  case atStart => exact ⟨0, by omega, rfl, HA.out⟩
  case round =>
    obtain ⟨k, hk, rfl, hw⟩ := hrel
    have HW := Lib.hid hw
    obtain ⟨h0, h1, h2, h3, h4, g0, g1, g2, g3, g4, hbl⟩ := hw
    by_cases hlt : k < m / 2 + m % 2
    · obtain ⟨hx, hx'⟩ := HG.out (2 * k)
      obtain ⟨hq, hq'⟩ := fld_bd (p := (pl s x, false)) HG.out hs1 (2 * k)
      have hcx : wr.cell? ⟨b, off + 1 + 2 * k, none⟩ = some (.int .u8 (g (2 * k))) := (hbl.cell (p := ⟨b, off + 1 + 2 * k, none⟩) hb).trans (HCG.out _ (by omega))
      by_cases hl : 2 * k + 1 = m
      · have HW1 := Lib.hid (fld_one_sum g (pl s x) k)
        have HL := Lib.hid hl
        rw [if_pos (by omega)] at h0
        clear hl
        have hl1 : m ≤ 2 * k + 1 := by have := HL.out; omega
        have hl2 : 2 * k + 1 ≤ m := by have := HL.out; omega
        generalize hqq : fld g (pl s x, false) (2 * k) = q at *
        have HQ := Lib.hid hqq
        clear hqq
        generalize g (2 * k) = z at *
        go_wp2_with fail
        go_still_tail 7, (by kernel_rfl)
        still_call ((word_last _ _ b (off + 1) m (c - 1) k z hx hx' hm' HL.out (by assumption) (by assumption)).mono fun _ _ h => ⟨h.1, h.2.symm⟩)
        still_call ((plus_any q.1 (z * 256) _ hq hq' (by omega) (by omega)).mono fun _ _ h => ⟨h.1, h.2.symm⟩)
        repeat still_step
        refine wpStill_nil ?_
        change wpList _ _ _ _ _ wr.drew
        go_wp2
        go_roundw
        case rel =>
          refine ⟨k + 1, by omega, by go_num, ?_⟩
          rw [if_neg (by omega)]
          have e : (fld g (pl s x, false) m).1 = pl q.1 (z * 256) := by rw [← HL.out]; exact HW1.out
          rw [e]
          exact HW.out.sum
        case measure => simp [intOf]; omega
      · obtain ⟨hy, hy'⟩ := HG.out (2 * k + 1)
        have hcy : wr.cell? ⟨b, off + 1 + (2 * k + 1), none⟩ = some (.int .u8 (g (2 * k + 1))) := (hbl.cell (p := ⟨b, off + 1 + (2 * k + 1), none⟩) hb).trans (HCG.out _ (by omega))
        have HW2 := Lib.hid (fld_word HG.out hs1 k)
        rw [if_pos (by omega)] at h0
        generalize fld g (pl s x, false) (2 * k) = q at *
        generalize g (2 * k) = z at *
        generalize g (2 * k + 1) = y at *
        go_wp2_with fail
        go_still_tail 7, (by kernel_rfl)
        still_call ((word_mid _ _ b (off + 1) m (c - 1) k z y hx hx' hy hy' hm' (by omega) (by assumption) (by assumption) (by assumption)).mono fun _ _ h => ⟨h.1, h.2.symm⟩)
        still_call ((plus_any q.1 (z * 256 + y) _ hq hq' (by omega) (by omega)).mono fun _ _ h => ⟨h.1, h.2.symm⟩)
        repeat still_step
        refine wpStill_nil ?_
        change wpList _ _ _ _ _ wr.drew
        go_wp2
        go_roundw
        case rel =>
          refine ⟨k + 1, by omega, by go_num, ?_⟩
          rw [if_pos (by omega), show 2 * (k + 1) = 2 * k + 2 by omega, HW2.out]
          exact HW.out.sum
        case measure => simp [intOf]; omega
    · have hk2 : k = m / 2 + m % 2 := by omega
      subst hk2
      clear hk hlt
      have e : (if 2 * (m / 2 + m % 2) ≤ m then 2 * (m / 2 + m % 2) else m) = m := by split <;> omega
      rw [e] at h0
      clear e
      go_wp2
      refine bodyPost_ret (v := .agg #[.int .u16 (fld g (pl s x, false) m).1, .bool ((m : Int) % 2 == 1)]) (by simp [results, Try.results34, go_sem, h3, h4]) rfl ⟨?_, ?_⟩
      · rw [HE.out, fld_odd]
        have e : ((m : Int) % 2 == 1) = decide (m % 2 = 1) := by rw [Bool.eq_iff_iff]; simp; omega
        rw [e]
      · exact ((hbl.setCell (by simp) _).setCell (by simp; omega) _).setCell (by simp; omega) _
end Go.Proofs.Ythjgecdnlpdcdaa
