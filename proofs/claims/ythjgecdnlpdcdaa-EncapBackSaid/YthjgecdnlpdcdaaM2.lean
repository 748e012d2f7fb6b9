import Derived.Test.YthjgecdnlpdcdaaM1
/- The program's Add behind an even number of bytes. -/
namespace Go.Proofs.Ythjgecdnlpdcdaa
set_option maxRecDepth 100000
open Go.RowKit
set_option maxHeartbeats 400000 in
theorem add_even (s : Int) (b off n c : Nat) (f : Nat → Int) (hf : Byt f) (hn : 0 < n) (hn' : n ≤ 4611686018427387904) (w : World) (ha : 0 ≤ s) (ha' : s ≤ 65535)
    (hb : b < w.heap.size) (hc : ∀ k, k < n → w.cell? ⟨b, off + k, none⟩ = some (.int .u8 (f k))) :
    Calls Try.prog 34 #[.agg #[.int .u16 s, .bool false], .slice (some ⟨b, off, none⟩) n c] w fun e w' => e = .returned (.agg #[.int .u16 (fld f (s, false) n).1, .bool (fld f (s, false) n).2]) ∧ Below w.heap.size w w' := by
  have HC := Lib.hid hc
  clear hc
  have HF := Lib.hid hf
  clear hf
  have hz : ((n : Int) == 0) = false := by simp; omega
  go_enter Try.func34, Try.ntmps34
  go_wp2
  go_loopw [31] (fun i wr => ∃ k : Nat, k ≤ n / 2 + n % 2 ∧ i = .int .i64 k ∧ AddW w wr (fld f (s, false) (if 2 * k ≤ n then 2 * k else n)).1 false (.slice (some ⟨b, off, none⟩) n c)) (fun i _ => (n / 2 + n % 2) - (intOf i).toNat)
  case atStart => exact ⟨0, by omega, rfl, AddW.start w s false _⟩
  case round =>
    obtain ⟨k, hk, rfl, hw⟩ := hrel
    have HW := Lib.hid hw
    obtain ⟨h0, h1, h2, h3, h4, g0, g1, g2, g3, g4, hbl⟩ := hw
    by_cases hlt : k < n / 2 + n % 2
    · obtain ⟨hx, hx'⟩ := HF.out (2 * k)
      obtain ⟨hq, hq'⟩ := fld_bd (p := (s, false)) HF.out ⟨ha, ha'⟩ (2 * k)
      have hcx : wr.cell? ⟨b, off + 2 * k, none⟩ = some (.int .u8 (f (2 * k))) := (hbl.cell (p := ⟨b, off + 2 * k, none⟩) hb).trans (HC.out _ (by omega))
      by_cases hl : 2 * k + 1 = n
      · have HW1 := Lib.hid (fld_one_sum f s k)
        have HL := Lib.hid hl
        rw [if_pos (by omega)] at h0
        clear hl
        have hl1 : n ≤ 2 * k + 1 := by have := HL.out; omega
        have hl2 : 2 * k + 1 ≤ n := by have := HL.out; omega
        generalize hqq : fld f (s, false) (2 * k) = q at *
        have HQ := Lib.hid hqq
        clear hqq
        generalize f (2 * k) = x at *
        go_wp2_with fail
        go_still_tail 7, (by kernel_rfl)
        still_call ((word_last _ _ b off n c k x hx hx' hn' HL.out (by assumption) (by assumption)).mono fun _ _ h => ⟨h.1, h.2.symm⟩)
        still_call ((plus_any q.1 (x * 256) _ hq hq' (by omega) (by omega)).mono fun _ _ h => ⟨h.1, h.2.symm⟩)
        repeat still_step
        refine wpStill_nil ?_
        change wpList _ _ _ _ _ wr.drew
        go_wp2
        go_roundw
        case rel =>
          refine ⟨k + 1, by omega, by go_num, ?_⟩
          rw [if_neg (by omega)]
          have e : (fld f (s, false) n).1 = pl q.1 (x * 256) := by rw [← HL.out]; exact HW1.out
          rw [e]
          exact HW.out.sum
        case measure => simp [intOf]; omega
      · obtain ⟨hy, hy'⟩ := HF.out (2 * k + 1)
        have hcy : wr.cell? ⟨b, off + (2 * k + 1), none⟩ = some (.int .u8 (f (2 * k + 1))) := (hbl.cell (p := ⟨b, off + (2 * k + 1), none⟩) hb).trans (HC.out _ (by omega))
        have HW2 := Lib.hid (fld_word HF.out ⟨ha, ha'⟩ k)
        rw [if_pos (by omega)] at h0
        generalize fld f (s, false) (2 * k) = q at *
        generalize f (2 * k) = x at *
        generalize f (2 * k + 1) = y at *
        go_wp2_with fail
        go_still_tail 7, (by kernel_rfl)
        still_call ((word_mid _ _ b off n c k x y hx hx' hy hy' hn' (by omega) (by assumption) (by assumption) (by assumption)).mono fun _ _ h => ⟨h.1, h.2.symm⟩)
        still_call ((plus_any q.1 (x * 256 + y) _ hq hq' (by omega) (by omega)).mono fun _ _ h => ⟨h.1, h.2.symm⟩)
        repeat still_step
        refine wpStill_nil ?_
        change wpList _ _ _ _ _ wr.drew
        go_wp2
        go_roundw
        case rel =>
          refine ⟨k + 1, by omega, by go_num, ?_⟩
          rw [if_pos (by omega), show 2 * (k + 1) = 2 * k + 2 by omega, HW2.out]
          exact HW.out.sum
        case measure => simp [intOf]; omega
    · have hk2 : k = n / 2 + n % 2 := by omega
      subst hk2
      clear hk hlt
      have e : (if 2 * (n / 2 + n % 2) ≤ n then 2 * (n / 2 + n % 2) else n) = n := by split <;> omega
      rw [e] at h0
      clear e
      go_wp2
      refine bodyPost_ret (v := .agg #[.int .u16 (fld f (s, false) n).1, .bool ((n : Int) % 2 == 1)]) (by simp [results, Try.results34, go_sem, h3, h4]) rfl ⟨?_, ?_⟩
      · rw [fld_odd]
        have e : ((n : Int) % 2 == 1) = decide (n % 2 = 1) := by rw [Bool.eq_iff_iff]; simp; omega
        rw [e]
      · exact ((hbl.setCell (by simp) _).setCell (by simp; omega) _).setCell (by simp; omega) _
end Go.Proofs.Ythjgecdnlpdcdaa
