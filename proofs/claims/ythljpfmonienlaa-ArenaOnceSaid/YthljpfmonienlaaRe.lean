/- Stage 9: the document's All. -/
import Derived.Test.YthljpfmonienlaaRd
namespace Go.Proofs.Ythljpfmonienlaa
set_option maxRecDepth 100000
open Go.RowKit
/-- Handles as cells. -/
def tcell (l : List (Nat × Nat)) (j : Nat) : Value := if j % 2 = 0 then .int .i64 ((l.getD (j / 2) (0, 0)).1 : Int) else .int .u64 ((l.getD (j / 2) (0, 0)).2 : Int)
theorem tcell_snoc (l : List (Nat × Nat)) (x : Nat × Nat) (g : Nat → Value) (h0 : g 0 = .int .i64 (x.1 : Int)) (h1 : g 1 = .int .u64 (x.2 : Int)) (j : Nat) (hj : j < (l.length + 1) * 2) : tcell (l ++ [x]) j = catV (l.length * 2) (tcell l) g j := by
  unfold catV
  by_cases c : j < l.length * 2
  · rw [if_pos c]
    unfold tcell
    have : j / 2 < l.length := by omega
    have e : (l ++ [x]).getD (j / 2) (0, 0) = l.getD (j / 2) (0, 0) := by
      rw [List.getD_eq_getElem?_getD, List.getD_eq_getElem?_getD, List.getElem?_append_left this]
    rw [e]
  · rw [if_neg c]
    have e : (l ++ [x]).getD (j / 2) (0, 0) = x := by
      rw [List.getD_eq_getElem?_getD, List.getElem?_append_right (by omega), show j / 2 - l.length = 0 by omega]
      rfl
    unfold tcell
    rw [e]
    rcases (show j - l.length * 2 = 0 ∨ j - l.length * 2 = 1 by omega) with q | q
    · rw [q, h0, if_pos (by omega)]
    · rw [q, h1, if_neg (by omega)]
theorem tcell_one (l : List (Nat × Nat)) (j : Nat) : (tcell l j).oneCell' = true := by unfold tcell; split <;> rfl
theorem Try.infoH : (Try.prog.info? 32).map (fun i => (i.zero, i.size, i.bytes)) = some (some (.agg #[.int .i64 0, .int .u64 0]), 2, 16) := by kernel_rfl
theorem Ar.told_len (s : Ar) (n : Nat) : (s.told n).length ≤ n := by
  unfold Ar.told
  rw [List.length_map]
  exact Nat.le_trans (List.length_filter_le _ _) (by rw [List.length_range]; exact Nat.le_refl _)
set_option maxHeartbeats 2000000 in
theorem rall_any {w : World} {q : Nat} {s : Ar} {G : Nat → Prop} (h : RA w q s G) (hn : s.has.length ≤ 65536) : Calls Try.prog 26 #[.pointer (some ⟨q, 0, none⟩)] w fun e w' => ∃ A c, e = .returned (.slice A (s.told s.has.length).length c) ∧ OwnC w' w.heap.size 32 2 A (s.told s.has.length).length c (tcell (s.told s.has.length)) ∧ Below w.heap.size w w' := by
  obtain ⟨i0, hi0, hz0, hz1, hz2⟩ := info_parts Try.infoH
  have HI0 := Lib.hid hi0
  have HZ0 := Lib.hid hz0
  have HZ1 := Lib.hid hz1
  have HZ2 := Lib.hid hz2
  clear hi0 hz0 hz1 hz2
  obtain ⟨A0, c0, B0, d0, hx⟩ := h
  have HX := Lib.hid hx
  have HA := Lib.hid hx.has
  have c1 := hx.c1
  have HS : Hid (∀ k, s.told (k + 1) = if s.at_ k != 0 then s.told k ++ [(k, s.at_ k)] else s.told k) := Lib.hid s.told_succ
  have HL := Lib.hid s.told_len
  have H0 : Hid (s.told 0 = []) := Lib.hid rfl
  clear hx
  generalize s.told = tl at *
  generalize s.freed.length = m at *
  generalize (fun k => s.freed.getD k 0) = fr at *
  generalize s.serial = S at *
  generalize s.at_ = ha at *
  generalize s.has.length = n at *
  go_enter Try.func26, Try.ntmps26
  go_wp2_with fail
  go_loopw [3, 4] (fun o i wr => ∃ (k : Nat) (A : Option Addr) (c : Nat), k ≤ n ∧ i = .int .i64 (k : Int) ∧ o = .slice A (tl k).length c ∧ OwnC wr w.heap.size 32 2 A (tl k).length c (tcell (tl k)) ∧ Below w.heap.size w wr) (fun _ i _ => n - (intOf i).toNat)
  case atStart => exact ⟨0, none, 0, Nat.zero_le _, rfl, by rw [H0.out]; rfl, by rw [H0.out]; exact OwnC.nil_ _ _ _ _ _, Below.refl _ _⟩
  case round =>
    obtain ⟨k, A, c, hk, rfl, rfl, ho, hb⟩ := hrel
    have HO := Lib.hid ho
    have HB := Lib.hid hb
    clear ho hb
    have HXr := Lib.hid (HX.out.step HB.out)
    have x0 : wr.cell? ⟨q, 0, none⟩ = some (.slice A0 n c0) := blk_cell HXr.out.blk 0
    by_cases hkn : k < n
    · rcases HXr.out.has with h0 | ⟨b, off, e1, _, hlt, hcl⟩
      · omega
      subst e1
      have xb : wr.cell? ⟨b, off + k, none⟩ = some (.int .u64 (ha k : Int)) := hcl k hkn
      have i0' : (0 : Int) ≤ (k : Int) := by omega
      have i1' : (k : Int) < (n : Int) := by omega
      have i2' : ((k : Int)).toNat = k := by omega
      have zw : IntKind.i64.wrap ((k : Int) + 1) = (k : Int) + 1 := by rw [IntKind.wrap_i64]; omega
      clear hcl
      by_cases h0 : ha k = 0
      · have HT : Hid (tl (k + 1) = tl k) := Lib.hid (by rw [HS.out, h0]; rfl)
        have k0 : ¬ (0 : Int) < (ha k : Int) := by omega
        clear h0
        go_wp2_with fail
        go_roundw
        case rel => exact ⟨k + 1, A, c, by omega, by go_num, by rw [HT.out], by rw [HT.out]; exact HO.out, HB.out⟩
        case measure => simp [intOf]; omega
      · have HT : Hid (tl (k + 1) = tl k ++ [(k, ha k)]) := Lib.hid (by rw [HS.out]; simp [h0])
        have k0 : (0 : Int) < (ha k : Int) := by omega
        have HLk := Lib.hid (HL.out k)
        have hwl := HB.out.size
        obtain ⟨t, ht⟩ : ∃ t, t = (tl k).length := ⟨_, rfl⟩
        rw [← ht] at HO ⊢
        have HTL := Lib.hid ht
        clear h0 ht
        go_upto_region 4 with (first
          | (at_builtin
             refine wpList_append_vals rfl (.tmp 22) (.tmp 32) 45 rfl w.heap.size 32 i0 (.agg #[.int .i64 0, .int .u64 0]) 2 Try.underlying45 HI0.out HZ0.out HZ1.out rfl (by decide) rfl (HO.out.alloc (.cells #[.int .i64 (k : Int), .int .u64 (ha k : Int)] 32)) (m := 1) (A' := some ⟨wr.heap.size, 0, none⟩) (B := (wr.alloc (.cells #[.int .i64 (k : Int), .int .u64 (ha k : Int)] 32)).heap.size) (g := fun j => (#[.int .i64 (k : Int), .int .u64 (ha k : Int)] : Array Value)[j]?.getD undef) rfl (.inr ⟨wr.heap.size, 0, rfl, by simp, fun j hj => ?_⟩) (fun j hj => ?_) (by have := HLk.out; have := HTL.out; unfold maxLen; omega) (by rw [HZ2.out]; have := HLk.out; have := HTL.out; omega) (Nat.le_trans hwl (alloc_le wr _)) ?_
             · rw [Nat.zero_add, blk_cell (heap_alloc_new wr _) j]
               match j, hj with
               | 0, _ => rfl
               | 1, _ => rfl
             · match j, hj with
               | 0, _ => rfl
               | 1, _ => rfl
             intro A2 c2 u hown hg _
             have HO2 := Lib.hid hown
             have HB2 : Hid (Below w.heap.size w u) := Lib.hid ((HB.out.alloc hwl _).grown hg (Nat.le_trans hwl (alloc_le wr _)) (fun k hk => HO.out.at_ k hk))
             clear hown hg))
        go_wp2_with fail
        go_roundw
        case rel =>
          have e : (tl (k + 1)).length = t + 1 := by rw [HT.out, List.length_append, HTL.out]; rfl
          refine ⟨k + 1, A2, c2, by omega, by go_num, by rw [e], ?_, HB2.out⟩
          rw [e]
          refine HO2.out.same fun j hj => ?_
          rw [HT.out, HTL.out]
          exact tcell_snoc (tl k) (k, ha k) _ rfl rfl j (by rw [← HTL.out]; exact hj)
        case measure => simp [intOf]; omega
    · obtain rfl : n = k := by omega
      go_wp2_with fail
      go_ret
      exact ⟨A, c, rfl, HO.out, HB.out⟩
end Go.Proofs.Ythljpfmonienlaa
