/- The program's ether.Text: an address as text. -/
import Derived.Test.YtekjmjipgndccaaWrite
import Derived.Test.YtekjmjipgndccaaRParse
import Derived.Laws.BitsLemmas
namespace Go.Proofs.Ytekjmjipgndccaa
open Go.RowKit
/-- A digit's letter. -/
def dgt (x : Int) : Int := if x < 10 then x + 48 else x + 87
def sixteen : ByteArray := ⟨#[48, 49, 50, 51, 52, 53, 54, 55, 56, 57, 97, 98, 99, 100, 101, 102]⟩
theorem of_sixteen {p : Int → Prop} (h : p 0 ∧ p 1 ∧ p 2 ∧ p 3 ∧ p 4 ∧ p 5 ∧ p 6 ∧ p 7 ∧ p 8 ∧ p 9 ∧ p 10 ∧ p 11 ∧ p 12 ∧ p 13 ∧ p 14 ∧ p 15) (x : Int) (h0 : 0 ≤ x) (h1 : x ≤ 15) : p x := by
  obtain ⟨a0, a1, a2, a3, a4, a5, a6, a7, a8, a9, a10, a11, a12, a13, a14, a15⟩ := h
  have e : x = 0 ∨ x = 1 ∨ x = 2 ∨ x = 3 ∨ x = 4 ∨ x = 5 ∨ x = 6 ∨ x = 7 ∨ x = 8 ∨ x = 9 ∨ x = 10 ∨ x = 11 ∨ x = 12 ∨ x = 13 ∨ x = 14 ∨ x = 15 := by omega
  rcases e with rfl | rfl | rfl | rfl | rfl | rfl | rfl | rfl | rfl | rfl | rfl | rfl | rfl | rfl | rfl | rfl <;> assumption
theorem hx_one (x : Int) (h0 : 0 ≤ x) (h1 : x ≤ 15) : hx x = ⟨#[(dgt x).toNat.toUInt8]⟩ := by
  refine of_sixteen (p := fun x => hx x = ⟨#[(dgt x).toNat.toUInt8]⟩) ?_ x h0 h1
  refine ⟨?_, ?_, ?_, ?_, ?_, ?_, ?_, ?_, ?_, ?_, ?_, ?_, ?_, ?_, ?_, ?_⟩ <;> kernel_rfl
theorem index_sixteen (x : Int) (h0 : 0 ≤ x) (h1 : x ≤ 15) : ∀ w, (Instr.index 9 (.string ⟨#[48, 49, 50, 51, 52, 53, 54, 55, 56, 57, 97, 98, 99, 100, 101, 102]⟩) (.int .u8 x)).run Try.prog w = .ok (.int .u8 (dgt x)) w := by
  refine of_sixteen (p := fun x => ∀ w, (Instr.index 9 (.string ⟨#[48, 49, 50, 51, 52, 53, 54, 55, 56, 57, 97, 98, 99, 100, 101, 102]⟩) (.int .u8 x)).run Try.prog w = .ok (.int .u8 (dgt x)) w) ?_ x h0 h1
  refine ⟨?_, ?_, ?_, ?_, ?_, ?_, ?_, ?_, ?_, ?_, ?_, ?_, ?_, ?_, ?_, ?_⟩ <;> exact fun w => by kernel_rfl
theorem index_six (d : Nat → Int) (k : Nat) (hk : k < 6) : ∀ w, (Instr.index 22 (.agg #[.int .u8 (d 0), .int .u8 (d 1), .int .u8 (d 2), .int .u8 (d 3), .int .u8 (d 4), .int .u8 (d 5)]) (.int .i64 (k : Int))).run Try.prog w = .ok (.int .u8 (d k)) w := by
  obtain rfl | rfl | rfl | rfl | rfl | rfl : k = 0 ∨ k = 1 ∨ k = 2 ∨ k = 3 ∨ k = 4 ∨ k = 5 := by omega
  all_goals exact fun w => by kernel_rfl
/-- A text's byte. -/
def tb (d : Nat → Int) (p : Nat) : Int := if p % 3 = 0 then dgt (d (p / 3) / 16) else if p % 3 = 1 then dgt (d (p / 3) % 16) else 58
theorem tb_colon (d : Nat → Int) (k : Nat) (p : Nat) (hk : 0 < k) (hp : p < 3 * k - 1 + 1) : tb d p = cat (3 * k - 1) (tb d) (fun _ => 58) p := by
  unfold cat
  by_cases h : p < 3 * k - 1
  · rw [if_pos h]
  · rw [if_neg h]
    unfold tb
    rw [if_neg (by omega), if_neg (by omega)]
theorem tb_digits (d : Nat → Int) (k : Nat) (p : Nat) (hp : p < 3 * k + 2) : tb d p = cat (3 * k) (tb d) (fun j => if j = 0 then dgt (d k / 16) else dgt (d k % 16)) p := by
  unfold cat
  by_cases h : p < 3 * k
  · rw [if_pos h]
  · rw [if_neg h]
    unfold tb
    by_cases e : p = 3 * k
    · subst e
      rw [if_pos (by omega), Nat.mul_div_cancel_left k (by omega), Nat.sub_self]
      rfl
    · have e2 : p / 3 = k := by omega
      have e3 : p - 3 * k = 1 := by omega
      rw [if_neg (by omega), if_pos (by omega), e2, e3]
      rfl
theorem Own.drew {w : World} {base : Nat} {e : TypeId} {A : Option Addr} {n c : Nat} {f : Nat → Int} (h : Own w base e A n c f) : Own w.drew base e A n c f := h
theorem bytes_append (a b : Array UInt8) : (⟨a⟩ : ByteArray) ++ ⟨b⟩ = ⟨a ++ b⟩ := by
  apply ByteArray.ext
  simp [ByteArray.data_append]
theorem rtx_tb (d : Nat → Int) (hd : Byt d) : strOfNums (nums 17 (tb d)) = rtx d 6 := by
  have h1 : ∀ k, Go.Proofs.Ytekjmjipgndccaa.hx (d k / 16) = ⟨#[(dgt (d k / 16)).toNat.toUInt8]⟩ := fun k => hx_one _ (by have := hd k; omega) (by have := hd k; omega)
  have h2 : ∀ k, Go.Proofs.Ytekjmjipgndccaa.hx (d k % 16) = ⟨#[(dgt (d k % 16)).toNat.toUInt8]⟩ := fun k => hx_one _ (by omega) (by omega)
  simp only [rtx, h1, h2, bytes_append]
  rfl
set_option maxRecDepth 100000 in
set_option maxHeartbeats 1000000 in
theorem text_any (d : Nat → Int) (hd : Byt d) (w : World) : Calls Try.prog 15 #[.agg (arr6 d)] w fun e w' => e = .returned (.string (rtx d 6)) ∧ Below w.heap.size w w' := by
  obtain ⟨i0, hi0, hz0, hz1, hz2⟩ := info_parts Try.info5
  have hmk : ∀ W : World, (Instr.makeSlice 26 (.int .i64 0) (.int .i64 17)).run Try.prog W = .ok (.slice (some ⟨W.heap.size, 0, none⟩) 0 17) (W.alloc (.cells (madeCells (Value.int .u8 0).cells 17) 5)) := fun W => by
    have h := run_make (P := Try.prog) W 26 5 i0 (.int .u8 0) Try.underlying26 hi0 hz0 .i64 .i64 0 17 (by omega) (by omega) (by rw [hz2]; omega) (by omega)
    rw [hz1, Nat.mul_one] at h
    exact h
  have HI0 := Lib.hid hi0
  have HZ0 := Lib.hid hz0
  have HZ1 := Lib.hid hz1
  have HZ2 := Lib.hid hz2
  have HD := Lib.hid hd
  clear hi0 hz0 hz1 hz2 hd
  have HE : Hid (strOfNums (nums 17 (tb d)) = rtx d 6) := rtx_tb d HD.out
  obtain ⟨R, hR⟩ : ∃ R, R = rtx d 6 := ⟨_, rfl⟩
  rw [← hR] at HE ⊢
  clear hR
  have e1 : (w.alloc (Obj.cells (arr6 d) 22)).heap.size = w.heap.size + 1 := by simp
  have HO0 : Hid (Own ((w.alloc (Obj.cells (arr6 d) 22)).alloc (Obj.cells (madeCells #[Value.int IntKind.u8 0] 17) 5)) (w.heap.size + 1) 5 (some ⟨w.heap.size + 1, 0, none⟩) 0 17 (tb d)) := made_own0 (w.alloc (Obj.cells (arr6 d) 22)) (w.heap.size + 1) 5 17 (by omega) (by omega) _ _ e1.symm
  have HB0 : Hid (Below w.heap.size w ((w.alloc (Obj.cells (arr6 d) 22)).alloc (Obj.cells (madeCells #[Value.int IntKind.u8 0] 17) 5))) := below_alloc2 w _ _
  have hs0 : w.heap.size + 1 ≤ ((w.alloc (Obj.cells (arr6 d) 22)).alloc (Obj.cells (madeCells #[Value.int IntKind.u8 0] 17) 5)).heap.size := by simp
  have hz : ((w.alloc (Obj.cells (arr6 d) 22)).alloc (Obj.cells (madeCells #[Value.int IntKind.u8 0] 17) 5)).heap[w.heap.size]? = some (.cells (arr6 d) 22 (0, 0)) := blk_old (heap_alloc_new w _) _
  obtain ⟨a0, a1, a2, a3, a4, a5⟩ := arr6_cells hz
  clear e1 hz
  go_enter Try.func15, Try.ntmps15
  go_wp2
  clear a0 a1 a2 a3 a4 a5
  go_loopw [3, 8] (fun s i wr => ∃ (k : Nat) (A : Option Addr) (c : Nat), k ≤ 6 ∧ i = .int .i64 k ∧ s = .slice A (3 * k - 1) c ∧ Own wr (w.heap.size + 1) 5 A (3 * k - 1) c (tb d) ∧ w.heap.size + 1 ≤ wr.heap.size ∧ Below w.heap.size w wr) (fun _ i _ => 6 - (intOf i).toNat)
  case atStart => exact ⟨0, _, _, by omega, rfl, rfl, HO0.out, hs0, HB0.out⟩
  case round =>
    clear HO0 HB0 hs0 hmk
    obtain ⟨k, A, c, hk, rfl, rfl, ho, hs1, hbl⟩ := hrel
    have HO := Lib.hid ho
    have HB := Lib.hid hbl
    clear ho hbl
    by_cases hlt : k < 6
    · obtain ⟨b1, b2⟩ := HD.out k
      have x1 := index_sixteen (d k / 16) (by omega) (by omega)
      have x2 := index_sixteen (d k % 16) (by omega) (by omega)
      have x3 : bits .and .u8 (d k) 15 = d k % 16 := u8_and15 _ (by omega) (by omega)
      have HN := Lib.hid (tb_digits d k)
      by_cases h0 : k = 0
      · subst h0
        have hix : ∀ w, (Instr.index 22 (.agg #[.int .u8 (d 0), .int .u8 (d 1), .int .u8 (d 2), .int .u8 (d 3), .int .u8 (d 4), .int .u8 (d 5)]) (.int .i64 0)).run Try.prog w = .ok (.int .u8 (d 0)) w := index_six d 0 hlt
        have HO1 : Hid (Own wr (w.heap.size + 1) 5 A 0 c (tb d)) := HO.out
        go_wp2
        go_region_held3 (fun _ => True) (trivial) (first
          | (refine step_append_rd rfl (.tmp 17) (.tmp 24) _ rfl (w.heap.size + 1) 5 i0 Try.underlying26 HI0.out HZ0.out HZ1.out HZ2.out rfl (HO1.out.alloc (.cells #[.int .u8 (dgt (d 0 / 16)), .int .u8 (dgt (d 0 % 16))] 5)).drew rfl (rd_new2 _ _ _ rfl (Nat.lt_succ_self _) (dgt (d 0 / 16)) (dgt (d 0 % 16)) 5).drew (by omega) (Nat.le_trans hs1 (alloc_le wr _)) ?_
             intro A5 c5 w5 hown5 hg5))
        all_goals
          have HB5 : Hid (Below w.heap.size w w5) := ((HB.out.alloc HB.out.size (.cells #[.int .u8 (dgt (d 0 / 16)), .int .u8 (dgt (d 0 % 16))] 5)).drew).grown hg5 (Nat.le_trans HB.out.size (alloc_le wr _)) (fun j hj => Nat.le_of_succ_le ((HO1.out.alloc (.cells #[.int .u8 (dgt (d 0 / 16)), .int .u8 (dgt (d 0 % 16))] 5)).drew.at_ j hj))
          have hs5 : w.heap.size + 1 ≤ w5.heap.size := Nat.le_trans (Nat.le_trans hs1 (alloc_le wr _)) hg5.size
          have HO5 : Hid (Own w5 (w.heap.size + 1) 5 A5 (3 * (0 + 1) - 1) c5 (tb d)) := by
            have e : 0 + 2 = 3 * (0 + 1) - 1 := by omega
            rw [← e]
            exact hown5.same fun p hp => HN.out p (by omega)
          clear hown5 hg5
          go_wp2
          go_roundw
          case rel => exact ⟨0 + 1, A5, c5, by omega, by go_num, by first | rfl | exact congrArg (fun x => Value.slice A5 x c5) (by omega), HO5.out, hs5, HB5.out⟩
          case measure => simp [intOf] <;> omega
      · have hix := index_six d k hlt
        have HC := Lib.hid (tb_colon d k)
        have hk1 : 0 < k := by omega
        have hk2 : 3 * k - 1 + 1 = 3 * k := by omega
        go_wp2_with (first
          | (at_builtin
             refine wpList_append_rd rfl (.tmp 14) (.tmp 15) _ rfl (w.heap.size + 1) 5 i0 Try.underlying26 HI0.out HZ0.out HZ1.out HZ2.out rfl (HO.out.alloc (.cells #[.int .u8 58] 5)) rfl (rd_new1 wr (wr.heap.size + 1) _ rfl (Nat.lt_succ_self _) 58 5) (by omega) (Nat.le_trans hs1 (alloc_le wr _)) ?_
             intro A3 c3 w3 hown3 hg3 _
             rw [hk2] at hown3
             rw [hk2]
             have HO3 : Hid (Own w3 (w.heap.size + 1) 5 A3 (3 * k) c3 (tb d)) := hown3.same fun p hp => HC.out p hk1 (by omega)
             have HB3 : Hid (Below w.heap.size w w3) := (HB.out.alloc HB.out.size (.cells #[.int .u8 58] 5)).grown hg3 (HB.out.alloc HB.out.size (.cells #[.int .u8 58] 5)).size (fun j hj => Nat.le_of_succ_le ((HO.out.alloc (.cells #[.int .u8 58] 5)).at_ j hj))
             have hs3 : w.heap.size + 1 ≤ w3.heap.size := Nat.le_trans (Nat.le_trans hs1 (alloc_le wr _)) hg3.size
             clear hown3 hg3))
        go_region_held3 (fun _ => True) (trivial) (first
          | (refine step_append_rd rfl (.tmp 17) (.tmp 24) _ rfl (w.heap.size + 1) 5 i0 Try.underlying26 HI0.out HZ0.out HZ1.out HZ2.out rfl (HO3.out.alloc (.cells #[.int .u8 (dgt (d k / 16)), .int .u8 (dgt (d k % 16))] 5)).drew rfl (rd_new2 _ _ _ rfl (Nat.lt_succ_self _) (dgt (d k / 16)) (dgt (d k % 16)) 5).drew (by omega) (Nat.le_trans hs3 (alloc_le w3 _)) ?_
             intro A5 c5 w5 hown5 hg5))
        all_goals
          have HB5 : Hid (Below w.heap.size w w5) := ((HB3.out.alloc HB3.out.size (.cells #[.int .u8 (dgt (d k / 16)), .int .u8 (dgt (d k % 16))] 5)).drew).grown hg5 (Nat.le_trans HB3.out.size (alloc_le w3 _)) (fun j hj => Nat.le_of_succ_le ((HO3.out.alloc (.cells #[.int .u8 (dgt (d k / 16)), .int .u8 (dgt (d k % 16))] 5)).drew.at_ j hj))
          have hs5 : w.heap.size + 1 ≤ w5.heap.size := Nat.le_trans (Nat.le_trans hs3 (alloc_le w3 _)) hg5.size
          have HO5 : Hid (Own w5 (w.heap.size + 1) 5 A5 (3 * (k + 1) - 1) c5 (tb d)) := by
            have e : 3 * k + 2 = 3 * (k + 1) - 1 := by omega
            rw [← e]
            exact hown5.same fun p hp => HN.out p (by omega)
          clear hown5 hg5
          go_wp2
          go_roundw
          case rel => exact ⟨k + 1, A5, c5, by omega, by go_num, by first | rfl | exact congrArg (fun x => Value.slice A5 x c5) (by omega), HO5.out, hs5, HB5.out⟩
          case measure => simp [intOf] <;> omega
    · obtain rfl : k = 6 := by omega
      have HO6 : Hid (Own wr (w.heap.size + 1) 5 A 17 c (tb d)) := HO.out
      have hcv : (convert 26 9 (.slice A 17 c)).run Try.prog wr = .ok (.string R) wr := by
        rw [← HE.out]
        exact run_convert_rd HO6.out.rd 26 5 9 c Try.underlying26 Try.underlying5 Try.underlying9
      go_wp2
      go_ret
      exact ⟨rfl, HB.out⟩
end Go.Proofs.Ytekjmjipgndccaa
