/- The document's answers for layer 3: two, address. -/
import Derived.Test.YtmmmednghdnhnaaRows
import Derived.Test.YtmmmednghdnhnaaBlk
import Derived.Test.YtmmmednghdnhnaaInfo
import Derived.Test.YtmmmednghdnhnaaI4Pkt
import Derived.Deep.RegionHeld3
import Derived.StillTailTactics
import Derived.WalkLawsBesides
import Derived.IntWalk
import Derived.Laws.CopyOwn
import Derived.Laws.Tables
namespace Go.Proofs.Ytmmmednghdnhnaa
open Go.RowKit
set_option maxHeartbeats 400000 in
theorem rtwo_any (b off n c a : Nat) (f : Nat → Int) (hf : Byt f) (ha : a + 1 < n) (hn : n ≤ 4611686018427387904) (w : World) (hc : ∀ k, k < n → w.cell? ⟨b, off + k, none⟩ = some (.int .u8 (f k))) :
    Calls Try.prog 19 #[.slice (some ⟨b, off, none⟩) n c, .int .i64 (a : Int)] w fun e w' => e = .returned (.int .i64 (f a * 256 + f (a + 1))) ∧ Below w.heap.size w w' := by
  have h0 := hc a (by omega)
  have h1 := hc (a + 1) (by omega)
  obtain ⟨p0, q0⟩ := hf a
  obtain ⟨p1, q1⟩ := hf (a + 1)
  clear hc hf
  have i0 : (0 : Int) ≤ (a : Int) := by omega
  have i1 : (a : Int) < (n : Int) := by omega
  have i2 : (0 : Int) ≤ (a : Int) + 1 := by omega
  have i3 : (a : Int) + 1 < (n : Int) := by omega
  have i4 : ((a : Int)).toNat = a := by omega
  have i5 : ((a : Int) + 1).toNat = a + 1 := by omega
  go_enter Try.func19, Try.ntmps19
  go_wp2
  go_quiet (fail)
  go_wp2
  go_ret
  exact ⟨rfl, below_drewN (Below.refl _ _) _⟩
theorem arr16_one (f : Nat → Int) : (arr16 f).all (·.oneCell') = true := by simp [arr16, Value.oneCell']
/-- The four bytes of an address. -/
def adr (f : Nat → Int) (k : Nat) : Int := if k < 4 then f k else 0
set_option maxHeartbeats 400000 in
theorem raddress_any (b off n c : Nat) (f : Nat → Int) (hn : 4 ≤ n) (w : World) (hb : b < w.heap.size) (hc : ∀ k, k < n → w.cell? ⟨b, off + k, none⟩ = some (.int .u8 (f k))) :
    Calls Try.prog 20 #[.slice (some ⟨b, off, none⟩) n c] w fun e w' => e = .returned (.agg (arr16 (adr f))) ∧ Below w.heap.size w w' := by
  have i0 : (0 : Int) < (n : Int) := by omega
  have i0' : 0 < n := by omega
  have i1 : (1 : Int) < (n : Int) := by omega
  have i2 : (2 : Int) < (n : Int) := by omega
  have i3 : (3 : Int) < (n : Int) := by omega
  go_enter Try.func20, Try.ntmps20
  go_wp2
  generalize hw1 : w.alloc (.cells #[.int .u8 0, .int .u8 0, .int .u8 0, .int .u8 0, .int .u8 0, .int .u8 0, .int .u8 0, .int .u8 0, .int .u8 0, .int .u8 0, .int .u8 0, .int .u8 0, .int .u8 0, .int .u8 0, .int .u8 0, .int .u8 0] 23) = w1
  have HB : Hid (Below w.heap.size w w1) := by rw [← hw1]; exact below_alloc w _
  have HZ : Hid (w1.heap[w.heap.size]? = some (.cells (arr16 fun _ => 0) 23 (0, 0))) := by rw [← hw1]; exact heap_alloc_new w _
  clear hw1
  have h0 : w1.cell? ⟨b, off, none⟩ = some (.int .u8 (f 0)) := (HB.out.cell (p := ⟨b, off, none⟩) hb).trans (hc 0 (by omega))
  have h1 := (HB.out.cell (p := ⟨b, off + 1, none⟩) hb).trans (hc 1 (by omega))
  have h2 := (HB.out.cell (p := ⟨b, off + 2, none⟩) hb).trans (hc 2 (by omega))
  have h3 := (HB.out.cell (p := ⟨b, off + 3, none⟩) hb).trans (hc 3 (by omega))
  clear hc
  go_still_tail 13, (by kernel_rfl)
  clear h0 h1 h2 h3
  change wpList _ _ _ _ _ w1.drew
  refine wpList_store_row rfl 23 (.tmp 2) (.tmp 15) rfl w.heap.size (arr16 (adr f)) rfl rfl 23 (arr16 fun _ => 0) HZ.out (by kernel_rfl) rfl (arr16_one _) ?_
  go_wp2
  have hz := setRow_heap w1.drew w.heap.size _ (arr16 (adr f)) _ _ HZ.out
  refine bodyPost_ret (v := .agg (arr16 (adr f))) (results_cell_row Try.results20 _ _ w.heap.size 23 (arr16 (adr f)) (0, 0) _ rfl hz Try.underlying23 rfl (by kernel_rfl)) rfl ⟨rfl, ?_⟩
  exact below_setRow HB.out.drew (Nat.le_refl _) _
end Go.Proofs.Ytmmmednghdnhnaa
