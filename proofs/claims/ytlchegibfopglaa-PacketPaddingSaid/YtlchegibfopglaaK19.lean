import Derived.Test.YtlchegibfopglaaK18
import Derived.Laws.Cover3
import Derived.Laws.BitsAllLaws
/- The program's ether.Read: what stands ahead in a frame, and its payload. -/
namespace Go.Proofs.Ytlchegibfopglaa
set_option maxRecDepth 100000
open Go.RowKit
theorem or_hi2 (x y : Int) (hx : 0 ≤ x) (hx' : x ≤ 255) (hy : 0 ≤ y) (hy' : y ≤ 255) : bits .or .u16 (x * 256) y = x * 256 + y := by
  obtain ⟨n, rfl⟩ := Int.eq_ofNat_of_zero_le hx
  obtain ⟨m, rfl⟩ := Int.eq_ofNat_of_zero_le hy
  have h := Nat.shiftLeft_add_eq_or_of_lt (i := 8) (b := m) (by omega) n
  rw [Nat.shiftLeft_eq, show (2:Nat) ^ 8 = 256 from rfl] at h
  have e := u16_or_nat (n * 256) m (by omega) (by omega)
  rw [← h] at e
  have c : ((n * 256 : Nat) : Int) = (n : Int) * 256 := by omega
  have d : ((n * 256 + m : Nat) : Int) = (n : Int) * 256 + (m : Int) := by rw [Int.natCast_add, c]
  rw [c, d] at e
  exact e
set_option maxHeartbeats 400000 in
theorem eread_long (A : Option Addr) (n c : Nat) (hn : 1600 < n) (hn' : n ≤ 9223372036854775807) (w : World) :
    Calls Try.prog 14 #[.slice A n c] w fun e w' => e = .returned (.tuple #[.agg (eth (fun _ => 0) (fun _ => 0) 0), .slice none 0 0, .int .i64 3]) ∧ Below w.heap.size w w' := by
  go_enter Try.func14, Try.ntmps14
  go_wp2
  refine bodyPost_ret (v := .tuple #[.agg (eth (fun _ => 0) (fun _ => 0) 0), .slice none 0 0, .int .i64 3]) (by simp [results, Try.results14, go_sem, eth]) rfl ⟨rfl, ?_⟩
  exact below_alloc w _
set_option maxHeartbeats 400000 in
theorem eread_short (A : Option Addr) (n c : Nat) (hn : n < 14) (w : World) :
    Calls Try.prog 14 #[.slice A n c] w fun e w' => e = .returned (.tuple #[.agg (eth (fun _ => 0) (fun _ => 0) 0), .slice none 0 0, .int .i64 4]) ∧ Below w.heap.size w w' := by
  go_enter Try.func14, Try.ntmps14
  go_wp2
  refine bodyPost_ret (v := .tuple #[.agg (eth (fun _ => 0) (fun _ => 0) 0), .slice none 0 0, .int .i64 4]) (by simp [results, Try.results14, go_sem, eth]) rfl ⟨rfl, ?_⟩
  exact below_alloc w _
set_option maxHeartbeats 1000000 in
theorem eread_good (b off n c : Nat) (f : Nat → Int) (hf : Byt f) (hn : 14 ≤ n) (hn' : n ≤ 1600) (hcap : n ≤ c) (hc' : c ≤ 9223372036854775807) (w : World) (hb : b < w.heap.size) (hc : ∀ k, k < n → w.cell? ⟨b, off + k, none⟩ = some (.int .u8 (f k))) :
    Calls Try.prog 14 #[.slice (some ⟨b, off, none⟩) n c] w (ReadGood w.heap.size 5 f n w) := by
  have HC := Lib.hid hc
  clear hc
  have HF := Lib.hid hf
  clear hf
  have hc6 : ¬ c = 6 := by omega
  have hc6' : (6 : Int) ≤ (c : Int) := by omega
  have hc12 : (12 : Int) ≤ (c : Int) := by omega
  have hat : ∀ (a : Option Addr) (k : Nat) w, (Instr.arrayAt 28 (.slice a 6 k)).run Try.prog w = .ok (.pointer a) w := fun a k w => run_arrayAt w 28 _ 6 _ 6 k Try.underlying28 (Nat.le_refl _)
  go_enter Try.func14, Try.ntmps14
  go_wp2
  generalize hw1 : w.alloc (.cells #[.int .u8 0, .int .u8 0, .int .u8 0, .int .u8 0, .int .u8 0, .int .u8 0, .int .u8 0, .int .u8 0, .int .u8 0, .int .u8 0, .int .u8 0, .int .u8 0, .int .u16 0] 30) = w1
  have HB : Hid (Below w.heap.size w w1) := by rw [← hw1]; exact below_alloc w _
  have HZ : Hid (w1.heap[w.heap.size]? = some (.cells (eth (fun _ => 0) (fun _ => 0) 0) 30 (0, 0))) := by rw [← hw1]; exact heap_alloc_new w _
  have hsz : w1.heap.size = w.heap.size + 1 := by rw [← hw1]; simp
  clear hw1
  have HB2 := Lib.hid HB.out.drew
  have HG : Hid (∀ W, Below w.heap.size w W → (W.cell? ⟨b, off, none⟩ = some (.int .u8 (f 0)) ∧ W.cell? ⟨b, off + 1, none⟩ = some (.int .u8 (f 1)) ∧ W.cell? ⟨b, off + 2, none⟩ = some (.int .u8 (f 2)) ∧ W.cell? ⟨b, off + 3, none⟩ = some (.int .u8 (f 3)) ∧ W.cell? ⟨b, off + 4, none⟩ = some (.int .u8 (f 4)) ∧ W.cell? ⟨b, off + 5, none⟩ = some (.int .u8 (f 5)) ∧ W.cell? ⟨b, off + 6, none⟩ = some (.int .u8 (f 6)) ∧ W.cell? ⟨b, off + 7, none⟩ = some (.int .u8 (f 7)) ∧ W.cell? ⟨b, off + 8, none⟩ = some (.int .u8 (f 8)) ∧ W.cell? ⟨b, off + 9, none⟩ = some (.int .u8 (f 9)) ∧ W.cell? ⟨b, off + 10, none⟩ = some (.int .u8 (f 10)) ∧ W.cell? ⟨b, off + 11, none⟩ = some (.int .u8 (f 11)) ∧ W.cell? ⟨b, off + 12, none⟩ = some (.int .u8 (f 12)) ∧ W.cell? ⟨b, off + 13, none⟩ = some (.int .u8 (f 13)))) := fun W h => by
    have q := fun k (hk : k < n) => (h.cell (p := ⟨b, off + k, none⟩) hb).trans (HC.out k hk)
    exact ⟨q 0 (by omega), q 1 (by omega), q 2 (by omega), q 3 (by omega), q 4 (by omega), q 5 (by omega), q 6 (by omega), q 7 (by omega), q 8 (by omega), q 9 (by omega), q 10 (by omega), q 11 (by omega), q 12 (by omega), q 13 (by omega)⟩
  obtain ⟨p12, q12⟩ := HF.out 12
  obtain ⟨p13, q13⟩ := HF.out 13
  have i12 : (12 : Int) < (n : Int) := by omega
  have i13 : (13 : Int) < (n : Int) := by omega
  have w1' : IntKind.u16.wrap (f 12) = f 12 := by simp only [IntKind.wrap_u16]; omega
  have w2' : IntKind.u16.wrap (f 13) = f 13 := by simp only [IntKind.wrap_u16]; omega
  have w3' : IntKind.u16.wrap (f 12 * 256) = f 12 * 256 := by simp only [IntKind.wrap_u16]; omega
  have w4' := or_hi2 (f 12) (f 13) p12 q12 p13 q13
  apply wp_one
  case h =>
    go_region_held3 (fun W => W.cell? ⟨b, off, none⟩ = some (.int .u8 (f 0)) ∧ W.cell? ⟨b, off + 1, none⟩ = some (.int .u8 (f 1)) ∧ W.cell? ⟨b, off + 2, none⟩ = some (.int .u8 (f 2)) ∧ W.cell? ⟨b, off + 3, none⟩ = some (.int .u8 (f 3)) ∧ W.cell? ⟨b, off + 4, none⟩ = some (.int .u8 (f 4)) ∧ W.cell? ⟨b, off + 5, none⟩ = some (.int .u8 (f 5)) ∧ W.cell? ⟨b, off + 6, none⟩ = some (.int .u8 (f 6)) ∧ W.cell? ⟨b, off + 7, none⟩ = some (.int .u8 (f 7)) ∧ W.cell? ⟨b, off + 8, none⟩ = some (.int .u8 (f 8)) ∧ W.cell? ⟨b, off + 9, none⟩ = some (.int .u8 (f 9)) ∧ W.cell? ⟨b, off + 10, none⟩ = some (.int .u8 (f 10)) ∧ W.cell? ⟨b, off + 11, none⟩ = some (.int .u8 (f 11)) ∧ W.cell? ⟨b, off + 12, none⟩ = some (.int .u8 (f 12)) ∧ W.cell? ⟨b, off + 13, none⟩ = some (.int .u8 (f 13))) (first | (with_reducible exact HG.out _ HB2.out) | (with_reducible exact HG.out _ (HB.out.alloc HB.out.size _).drew)) (fail)
    all_goals exact ⟨rfl, rfl, rfl⟩
  case hq =>
    clear HB2 HG i12 i13 w1' w2' w3' w4' hat hc6' hc12 p12 q12 p13 q13
    have HT : Hid ((w1.alloc (.cells #[.int .u8 (f 0), .int .u8 (f 1), .int .u8 (f 2), .int .u8 (f 3), .int .u8 (f 4), .int .u8 (f 5), .int .u8 (f 6), .int .u8 (f 7), .int .u8 (f 8), .int .u8 (f 9), .int .u8 (f 10), .int .u8 (f 11), .int .u16 (f 12 * 256 + f 13)] 30)).drew.heap[w.heap.size + 1]? = some (.cells (eth f (fun k => f (6 + k)) (f 12 * 256 + f 13)) 30 (0, 0))) := by rw [← hsz]; exact heap_alloc_new w1 _
    have HT0 : Hid ((w1.alloc (.cells #[.int .u8 (f 0), .int .u8 (f 1), .int .u8 (f 2), .int .u8 (f 3), .int .u8 (f 4), .int .u8 (f 5), .int .u8 (f 6), .int .u8 (f 7), .int .u8 (f 8), .int .u8 (f 9), .int .u8 (f 10), .int .u8 (f 11), .int .u16 (f 12 * 256 + f 13)] 30)).drew.heap[w.heap.size]? = some (.cells (eth (fun _ => 0) (fun _ => 0) 0) 30 (0, 0))) := blk_old HZ.out _
    have hbt : Below w.heap.size w (w1.alloc (.cells #[.int .u8 (f 0), .int .u8 (f 1), .int .u8 (f 2), .int .u8 (f 3), .int .u8 (f 4), .int .u8 (f 5), .int .u8 (f 6), .int .u8 (f 7), .int .u8 (f 8), .int .u8 (f 9), .int .u8 (f 10), .int .u8 (f 11), .int .u16 (f 12 * 256 + f 13)] 30)).drew := (HB.out.alloc HB.out.size _).drew
    generalize (w1.alloc (.cells #[.int .u8 (f 0), .int .u8 (f 1), .int .u8 (f 2), .int .u8 (f 3), .int .u8 (f 4), .int .u8 (f 5), .int .u8 (f 6), .int .u8 (f 7), .int .u8 (f 8), .int .u8 (f 9), .int .u8 (f 10), .int .u8 (f 11), .int .u16 (f 12 * 256 + f 13)] 30)).drew = w2 at *
    clear HB HZ hsz
    go_wp2
    obtain ⟨i0, hi0, hz0, hz1, hz2⟩ := info_parts Try.info5
    have HI0 := Lib.hid hi0
    have HZ0 := Lib.hid hz0
    have HZ1 := Lib.hid hz1
    have HZ2 := Lib.hid hz2
    clear hi0 hz0 hz1 hz2
    have HR : Hid (Rd w2 w2.heap.size (some ⟨b, off, none⟩) n f) := (Rd.keep (.inr ⟨b, off, rfl, hb, HC.out⟩) hbt).more hbt.size
    have hl1 := lt_heap HT.out
    have HD : Hid (w2.drew.heap[w.heap.size + 1]? = some (.cells (eth f (fun k => f (6 + k)) (f 12 * 256 + f 13)) 30 (0, 0))) := HT.out
    have HB : Hid ((w2.alloc (.cells #[] 5)).drew.heap[w.heap.size + 1]? = some (.cells (eth f (fun k => f (6 + k)) (f 12 * 256 + f 13)) 30 (0, 0))) := blk_old HT.out _
    go_region_held3 (fun W => W.cell? ⟨w.heap.size + 1, 0, none⟩ = some (.int .u8 (f 0)) ∧ W.cell? ⟨w.heap.size + 1, 1, none⟩ = some (.int .u8 (f 1)) ∧ W.cell? ⟨w.heap.size + 1, 2, none⟩ = some (.int .u8 (f 2)) ∧ W.cell? ⟨w.heap.size + 1, 3, none⟩ = some (.int .u8 (f 3)) ∧ W.cell? ⟨w.heap.size + 1, 4, none⟩ = some (.int .u8 (f 4)) ∧ W.cell? ⟨w.heap.size + 1, 5, none⟩ = some (.int .u8 (f 5)) ∧ W.cell? ⟨w.heap.size + 1, 6, none⟩ = some (.int .u8 (f (6 + 0))) ∧ W.cell? ⟨w.heap.size + 1, 7, none⟩ = some (.int .u8 (f (6 + 1))) ∧ W.cell? ⟨w.heap.size + 1, 8, none⟩ = some (.int .u8 (f (6 + 2))) ∧ W.cell? ⟨w.heap.size + 1, 9, none⟩ = some (.int .u8 (f (6 + 3))) ∧ W.cell? ⟨w.heap.size + 1, 10, none⟩ = some (.int .u8 (f (6 + 4))) ∧ W.cell? ⟨w.heap.size + 1, 11, none⟩ = some (.int .u8 (f (6 + 5))) ∧ W.cell? ⟨w.heap.size + 1, 12, none⟩ = some (.int .u16 (f 12 * 256 + f 13))) (first | (with_reducible exact eth_cells HD.out) | (with_reducible exact eth_cells HB.out) | (with_reducible exact eth_cells HA1.out) | exact eth_cells (blk_far (blk_far (blk_far (blk_far (blk_far (blk_far (blk_far (blk_far (blk_far (blk_far (blk_far (blk_far (blk_far HA1.out (by simp) _) (by simp) _) (by simp) _) (by simp) _) (by simp) _) (by simp) _) (by simp) _) (by simp) _) (by simp) _) (by simp) _) (by simp) _) (by simp) _) (by simp) _))
      (first
      | (refine step_append_rd rfl (.tmp 34) (.tmp 36) _ rfl w2.heap.size 5 i0 Try.underlying22 HI0.out HZ0.out HZ1.out HZ2.out (n := 0) (f := f) rfl (Own.fresh w2 _ _ rfl (Nat.le_refl _) _ f) rfl ((HR.out.cut (k := 14) hn hcap).keep (below_alloc w2 _).drew) (by omega) (alloc_le w2 _) ?_
         intro A4 c4 w4 hown4 hg4
         have HA0 := Lib.hid ((hg4.block w.heap.size (by simp; omega) (by simp [Value.ownBlock]; omega)).trans (blk_old HT0.out _))
         have HA1 := Lib.hid ((hg4.block (w.heap.size + 1) (by simp; omega) (by simp [Value.ownBlock]; omega)).trans (blk_old HT.out _))
         have HO4 := Lib.hid hown4
         have HG4 := Lib.hid hg4
         clear hown4 hg4
         obtain ⟨z0, z1, z2, z3, z4, z5, z6, z7, z8, z9, z10, z11, z12⟩ := eth_cells HA0.out
         obtain ⟨y0, y1, y2, y3, y4, y5, y6, y7, y8, y9, y10, y11, y12⟩ := eth_free HA0.out))
    have hb4 : Below w.heap.size w w4 := ((hbt.alloc hbt.size _).drew).grown HG4.out (Nat.le_trans hbt.size (alloc_le w2 _)) (by intro k hk; simp [Value.ownBlock] at hk; have := hbt.size; omega)
    have hNl : w.heap.size < w2.heap.size := by omega
    have HO5 : Hid (Own w4 w2.heap.size 5 A4 (n - 14) c4 (fun k => f (14 + k))) := by
      have e := HO4.out
      rw [Nat.zero_add] at e
      exact e.same fun k _ => by simp [cat]
    go_wp2
    all_goals
      refine bodyPost_ret (v := .tuple #[.agg (eth f (fun k => f (6 + k)) (f 12 * 256 + f 13)), .slice A4 (n - 14) c4, .int .i64 0]) (by simp [results, Try.results14, go_sem, eth, z0, z1, z2, z3, z4, z5, z6, z7, z8, z9, z10, z11, z12]) rfl ⟨A4, c4, rfl, ?_, ?_⟩
      · exact Own.le (Own.far (Own.far (Own.far (Own.far (Own.far (Own.far (Own.far (Own.far (Own.far (Own.far (Own.far (Own.far (Own.far HO5.out (p := ⟨w.heap.size, 0, none⟩) hNl _) (p := ⟨w.heap.size, 1, none⟩) hNl _) (p := ⟨w.heap.size, 2, none⟩) hNl _) (p := ⟨w.heap.size, 3, none⟩) hNl _) (p := ⟨w.heap.size, 4, none⟩) hNl _) (p := ⟨w.heap.size, 5, none⟩) hNl _) (p := ⟨w.heap.size, 6, none⟩) hNl _) (p := ⟨w.heap.size, 7, none⟩) hNl _) (p := ⟨w.heap.size, 8, none⟩) hNl _) (p := ⟨w.heap.size, 9, none⟩) hNl _) (p := ⟨w.heap.size, 10, none⟩) hNl _) (p := ⟨w.heap.size, 11, none⟩) hNl _) (p := ⟨w.heap.size, 12, none⟩) hNl _) (Nat.le_of_lt hNl)
      · exact (Below.setCell (Below.setCell (Below.setCell (Below.setCell (Below.setCell (Below.setCell (Below.setCell (Below.setCell (Below.setCell (Below.setCell (Below.setCell (Below.setCell (Below.setCell hb4 (p := ⟨w.heap.size, 0, none⟩) (Nat.le_refl _) _) (p := ⟨w.heap.size, 1, none⟩) (Nat.le_refl _) _) (p := ⟨w.heap.size, 2, none⟩) (Nat.le_refl _) _) (p := ⟨w.heap.size, 3, none⟩) (Nat.le_refl _) _) (p := ⟨w.heap.size, 4, none⟩) (Nat.le_refl _) _) (p := ⟨w.heap.size, 5, none⟩) (Nat.le_refl _) _) (p := ⟨w.heap.size, 6, none⟩) (Nat.le_refl _) _) (p := ⟨w.heap.size, 7, none⟩) (Nat.le_refl _) _) (p := ⟨w.heap.size, 8, none⟩) (Nat.le_refl _) _) (p := ⟨w.heap.size, 9, none⟩) (Nat.le_refl _) _) (p := ⟨w.heap.size, 10, none⟩) (Nat.le_refl _) _) (p := ⟨w.heap.size, 11, none⟩) (Nat.le_refl _) _) (p := ⟨w.heap.size, 12, none⟩) (Nat.le_refl _) _)
end Go.Proofs.Ytlchegibfopglaa
