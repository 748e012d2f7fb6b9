/- Stage 19: the landed Shares. -/
import Derived.Test.YtfchmmojhfjibaaMgi
namespace Go.Proofs.Ytfchmmojhfjibaa
set_option maxRecDepth 100000
open Go.RowKit Go.Shelf
set_option maxHeartbeats 2000000 in
theorem pshares_any (t : Nat → Int) (A : Option Addr) (n c : Nat) (N : Int) (w : World) (h : RdC w w.heap.size A n (iV t)) (hn9 : n ≤ 100000) : Calls Try.prog 13 #[.slice A n c, .int .i64 N] w (OutI (shL N) (shV t n) w) := by
  have HL := Lib.hid h
  by_cases h1 : N < 1
  · have e : shL N = 0 := by unfold shL; rw [if_neg (by omega)]
    rw [e]
    clear h e
    go_enter Try.func13, Try.ntmps13
    go_wp2_with fail
    go_ret
    exact ⟨none, 0, rfl, Nat.le_refl _, by omega, .inl rfl, Below.refl _ _⟩
  by_cases h2 : 16 < N
  · have e : shL N = 0 := by unfold shL; rw [if_neg (by omega)]
    rw [e]
    clear h e
    go_enter Try.func13, Try.ntmps13
    go_wp2_with fail
    go_ret
    exact ⟨none, 0, rfl, Nat.le_refl _, by omega, .inl rfl, Below.refl _ _⟩
  obtain ⟨K, rfl⟩ := Int.eq_ofNat_of_zero_le (show 0 ≤ N by omega)
  have e : shL (K : Int) = K := by unfold shL; rw [if_pos (by omega), Int.toNat_natCast]
  rw [e]
  clear e
  have hK1 : 1 ≤ K := by omega
  have hK9 : K ≤ 16 := by omega
  obtain ⟨u, hmk, ho, hg⟩ := made_i w K (by omega)
  have HO := Lib.hid ho
  have HB : Hid (Below w.heap.size w u) := Lib.hid ((Below.refl _ _).grown hg (Nat.le_refl _) fun _ h => nomatch h)
  obtain ⟨g, hgg⟩ : ∃ g, g = w.heap.size := ⟨_, rfl⟩
  rw [← hgg] at hmk HO
  have HGG := Lib.hid hgg
  clear hgg ho hg h
  go_enter Try.func13, Try.ntmps13
  go_wp2_with fail
  clear hmk
  go_loopw [7, 18] (fun _ vi wr => ∃ i : Nat, i ≤ n ∧ vi = .int .i64 (i : Int) ∧ OwnC wr g 3 1 (some ⟨g, 0, none⟩) K K (iV (shV t i)) ∧ Below w.heap.size w wr) (fun _ vi _ => n - (intOf vi).toNat)
  case atStart => exact ⟨0, Nat.zero_le _, rfl, HO.out, HB.out⟩
  case round =>
    obtain ⟨i, hi, rfl, ho, hb⟩ := hrel
    have HO1 := Lib.hid ho
    have HB1 := Lib.hid hb
    by_cases hlt : i < n
    · have l1 : (i : Int) < (n : Int) := by omega
      have i0 : (0 : Int) ≤ (i : Int) := by omega
      have i2 : ((i : Int)).toNat = i := by omega
      have zi : IntKind.i64.wrap ((i : Int) + 1) = (i : Int) + 1 := by rw [IntKind.wrap_i64]; omega
      obtain ⟨b, off, rfl, hbb, hc⟩ : ∃ b off, A = some ⟨b, off, none⟩ ∧ b < w.heap.size ∧ w.cell? ⟨b, off + i, none⟩ = some (.int .i64 (t i)) := by
        rcases HL.out with h0 | ⟨b, off, e, hb, hc⟩
        · omega
        · exact ⟨b, off, e, hb, hc i hlt⟩
      have x1 := (hb.cell (p := ⟨b, off + i, none⟩) hbb).trans hc
      have HSH : Hid (∀ x : Nat, shV t (i + 1) x = shV t i x + if t i = (x : Int) then 1 else 0) := Lib.hid fun x => by
        unfold shV
        show ((cntI t (x : Int) i + (if t i = (x : Int) then 1 else 0) : Nat) : Int) = _
        rw [Int.natCast_add]
        congr 1
        split <;> rfl
      have HCB : Hid (∀ x : Nat, 0 ≤ shV t i x ∧ shV t i x ≤ i) := Lib.hid fun x => by
        have := cntI_le t (x : Int) i
        unfold shV
        omega
      obtain ⟨v, hv⟩ : ∃ v, v = t i := ⟨_, rfl⟩
      rw [← hv] at x1 HSH
      have hne : b ≠ g := by have := HGG.out; omega
      clear hv hc
      by_cases hin : 0 ≤ v ∧ v < (K : Int)
      · obtain ⟨x, rfl⟩ := Int.eq_ofNat_of_zero_le hin.1
        have d1 : (0 : Int) ≤ (x : Int) := by omega
        have d2 : (x : Int) < (K : Int) := hin.2
        have d3 : ((x : Int)).toNat = x := by omega
        obtain ⟨g', e, _, hgl, hcc, hfz⟩ := ho.lies (by omega)
        injection e with e
        injection e with e
        subst e
        have xc := hcc x (by omega)
        have xf := hfz x
        have hvb := HCB.out x
        unfold iV at xc
        obtain ⟨q, hq⟩ : ∃ q, q = shV t i x := ⟨_, rfl⟩
        rw [← hq] at xc hvb
        have HQ := Lib.hid hq
        have zq : IntKind.i64.wrap (q + 1) = q + 1 := by rw [IntKind.wrap_i64]; omega
        have HSET : Hid (OwnC (wr.setCell ⟨g, x, none⟩ (.int .i64 (q + 1))) g 3 1 (some ⟨g, 0, none⟩) K K (iV (shV t (i + 1)))) := Lib.hid ((HO1.out.set_ x (.int .i64 (q + 1))).same fun j _ => by
          unfold updV iV
          rw [HSH.out]
          by_cases e : j = x
          · rw [if_pos e, e, if_pos rfl, HQ.out]
          · rw [if_neg e, if_neg (by omega), Int.add_zero])
        have HB2 : Hid (Below w.heap.size w (wr.setCell ⟨g, x, none⟩ (.int .i64 (q + 1)))) := Lib.hid (HB1.out.setCell (p := ⟨g, x, none⟩) (by have := HGG.out; show w.heap.size ≤ g; omega) _)
        clear hin ho hb hcc hfz hq hgl hvb
        go_wp2_with fail
        go_roundw
        case rel => exact ⟨i + 1, by omega, by go_num, HSET.out, HB2.out⟩
        case measure => simp [intOf]; omega
      · have HSAME : Hid (OwnC wr g 3 1 (some ⟨g, 0, none⟩) K K (iV (shV t (i + 1)))) := Lib.hid (ho.same fun j hj => by
          unfold iV
          rw [HSH.out, if_neg (by omega), Int.add_zero])
        by_cases d1 : 0 ≤ v
        · have d2 : ¬ v < (K : Int) := by omega
          clear ho hb
          go_wp2_with fail
          go_roundw
          case rel => exact ⟨i + 1, by omega, by go_num, HSAME.out, HB1.out⟩
          case measure => simp [intOf]; omega
        · clear ho hb
          go_wp2_with fail
          go_roundw
          case rel => exact ⟨i + 1, by omega, by go_num, HSAME.out, HB1.out⟩
          case measure => simp [intOf]; omega
    · obtain rfl : i = n := by omega
      clear ho hb
      go_wp2_with fail
      go_ret
      have hr := HO1.out.rd
      rw [Nat.mul_one] at hr
      exact ⟨_, K, rfl, Nat.le_refl _, by omega, hr, HB1.out⟩
end Go.Proofs.Ytfchmmojhfjibaa
