/- Stage 9: ArenaNone, whoever's arena it is that is not there. -/
import Derived.Test.YthljpfmonienlaaRs
namespace Go.Proofs.Ythljpfmonienlaa
set_option maxRecDepth 100000
set_option pp.maxSteps 100000
open Go.RowKit Go.Shelf
/-- What an arena that is not there, or was not made, tells. -/
def NoneC (g : Nat) (pa : Option Addr) (W : World) (n : Nat) : Prop :=
  Calls Try.prog 9 #[.pointer pa] W (ret (.tuple #[.agg #[.int .i64 0, .int .u64 0], .int .i64 1]) W) ∧
  (∀ i : Int, Calls Try.prog 13 #[.pointer pa, .int .i64 i] W (ret (.tuple #[.agg #[.int .i64 0, .int .u64 0], .bool false]) W)) ∧
  (∀ (i : Int) (k : Nat), Calls Try.prog 11 #[.pointer pa, .agg #[.int .i64 i, .int .u64 (k : Int)]] W (ret (.int .i64 1) W)) ∧
  (∀ (i : Int) (k : Nat), Calls Try.prog 18 #[.pointer pa, .agg #[.int .i64 i, .int .u64 (k : Int)]] W (ret (.bool false) W)) ∧
  Calls Try.prog 17 #[.pointer pa] W (ret (.int .i64 0) W) ∧
  Calls Try.prog 19 #[.pointer pa] W (ret (.int .i64 0) W) ∧
  Calls Try.prog 14 #[.pointer pa] W (ret (.pointer none) W) ∧
  (∀ B, n ≤ B → Calls Try.prog 20 #[.pointer pa] W (AllO g [] B W))
set_option maxHeartbeats 4000000 in
theorem none_any (g : Nat) (eg : ∀ args w, (callFunc g args).run Try.prog w = .ok (.enter g args) w)
    (HN : ∀ (u W : World) (pa : Option Addr), Below u.heap.size u W → (pa = none ∨ ∃ z, pa = some ⟨z, 0, none⟩ ∧ u.heap[z]? = some (.cells #[.slice none 0 0, .int .i64 0, .int .i64 0, .int .i64 0, .int .u64 0] 53 (0, 0))) → NoneC g pa W u.heap.size)
    (KN : ∀ W, Calls Try.prog 6 #[] W (ret (.bool true) W)) (hi : Int) (hk : Nat) (i : Int) (w : World) :
    Calls Try.prog 5 #[.agg #[.int .i64 hi, .int .u64 (hk : Int)], .int .i64 i] w (ret (.bool true) w) := by
  have HNN := Lib.hid HN
  have HKN := Lib.hid KN
  clear HN KN
  go_enter Try.func5, Try.ntmps5
  go_wp2_with fail
  have hz1 : (w.alloc (.cells #[.int .i64 hi, .int .u64 (hk : Int)] 32)).heap.size = w.heap.size + 1 := by simp
  have hz2 : ((w.alloc (.cells #[.int .i64 hi, .int .u64 (hk : Int)] 32)).alloc (.cells #[.slice none 0 0, .int .i64 0, .int .i64 0, .int .i64 0, .int .u64 0] 53)).heap.size = w.heap.size + 2 := by simp
  have HM : Hid ((((w.alloc (.cells #[.int .i64 hi, .int .u64 (hk : Int)] 32)).alloc (.cells #[.slice none 0 0, .int .i64 0, .int .i64 0, .int .i64 0, .int .u64 0] 53)).alloc (.cells #[.pointer none, .pointer (some ⟨w.heap.size + 1, 0, none⟩)] 24)).heap[w.heap.size]? = some (.cells #[.int .i64 hi, .int .u64 (hk : Int)] 32 (0, 0)) ∧
      (((w.alloc (.cells #[.int .i64 hi, .int .u64 (hk : Int)] 32)).alloc (.cells #[.slice none 0 0, .int .i64 0, .int .i64 0, .int .i64 0, .int .u64 0] 53)).alloc (.cells #[.pointer none, .pointer (some ⟨w.heap.size + 1, 0, none⟩)] 24)).heap[w.heap.size + 2]? = some (.cells #[.pointer none, .pointer (some ⟨w.heap.size + 1, 0, none⟩)] 24 (0, 0)) ∧
      (((w.alloc (.cells #[.int .i64 hi, .int .u64 (hk : Int)] 32)).alloc (.cells #[.slice none 0 0, .int .i64 0, .int .i64 0, .int .i64 0, .int .u64 0] 53)).alloc (.cells #[.pointer none, .pointer (some ⟨w.heap.size + 1, 0, none⟩)] 24)).heap[w.heap.size + 1]? = some (.cells #[.slice none 0 0, .int .i64 0, .int .i64 0, .int .i64 0, .int .u64 0] 53 (0, 0))) := Lib.hid (by
    refine ⟨blk_old (blk_old (heap_alloc_new w _) _) _, ?_, ?_⟩
    · have h := heap_alloc_new ((w.alloc (.cells #[.int .i64 hi, .int .u64 (hk : Int)] 32)).alloc (.cells #[.slice none 0 0, .int .i64 0, .int .i64 0, .int .i64 0, .int .u64 0] 53)) (.cells #[.pointer none, .pointer (some ⟨w.heap.size + 1, 0, none⟩)] 24)
      rw [hz2] at h
      exact h
    · have h := heap_alloc_new (w.alloc (.cells #[.int .i64 hi, .int .u64 (hk : Int)] 32)) (.cells #[.slice none 0 0, .int .i64 0, .int .i64 0, .int .i64 0, .int .u64 0] 53)
      rw [hz1] at h
      exact blk_old h _)
  have HBW : Hid (Below w.heap.size w (((w.alloc (.cells #[.int .i64 hi, .int .u64 (hk : Int)] 32)).alloc (.cells #[.slice none 0 0, .int .i64 0, .int .i64 0, .int .i64 0, .int .u64 0] 53)).alloc (.cells #[.pointer none, .pointer (some ⟨w.heap.size + 1, 0, none⟩)] 24))) := Lib.hid (((below_alloc w _).alloc (by rw [hz1]; omega) _).alloc (by rw [hz2]; omega) _)
  clear hz1 hz2
  generalize ((w.alloc (.cells #[.int .i64 hi, .int .u64 (hk : Int)] 32)).alloc (.cells #[.slice none 0 0, .int .i64 0, .int .i64 0, .int .i64 0, .int .u64 0] 53)).alloc (.cells #[.pointer none, .pointer (some ⟨w.heap.size + 1, 0, none⟩)] 24) = u at *
  have HNL : Hid (∀ W, Below u.heap.size u W → ∀ pa : Option Addr, (pa = none ∨ ∃ z, pa = some ⟨z, 0, none⟩ ∧ u.heap[z]? = some (.cells #[.slice none 0 0, .int .i64 0, .int .i64 0, .int .i64 0, .int .u64 0] 53 (0, 0))) → NoneC g pa W u.heap.size) := Lib.hid fun W hW pa hp => HNN.out u W pa hW hp
  go_loopw [16] (fun i wr => ∃ k : Nat, k ≤ 2 ∧ i = .int .i64 (k : Int) ∧ Below u.heap.size u wr) (fun i _ => 2 - (intOf i).toNat)
  case atStart => exact ⟨0, by omega, rfl, Below.refl _ _⟩
  case round =>
    obtain ⟨k, hk2, rfl, hb⟩ := hrel
    have hfn : ∀ (lb : Array Value) (W : World), (binOp BinOp.eql 56 (.func (.func g) #[] lb) .nilFunc).run Try.prog W = .ok (.bool false) W := fun lb W => by kernel_rfl
    rcases (show k = 0 ∨ k = 1 ∨ k = 2 by omega) with rfl | rfl | rfl
    · rw [show ((0 : Nat) : Int) = 0 from rfl]
      have hb0 := hb
      have HB0 := Lib.hid hb
      clear hb0 hb
      have xs : wr.cell? ⟨w.heap.size + 2, 0, none⟩ = some (.pointer none) := (HB0.out.cell (p := ⟨w.heap.size + 2, 0, none⟩) (lt_heap HM.out.2.1)).trans (blk_cell HM.out.2.1 0)
      go_upto_region 6 with fail
      clear xs
      go_upto_region 7 with (first
        | (go_at_call 9
           refine ((HNL.out _ HB0.out none ((.inl rfl))).1).mono ?_
           rintro e v1 ⟨rfl, hb⟩
           have HB1 : Hid (Below u.heap.size u (v1.alloc (.cells #[.int .i64 0, .int .u64 0] 32))) := Lib.hid ((HB0.out.trans (hb.mono HB0.out.size)).alloc (HB0.out.trans (hb.mono HB0.out.size)).size _)
           clear hb))
      generalize (v1.alloc (.cells #[.int .i64 0, .int .u64 0] 32)) = u1 at *
      go_upto_region 8 with (first
        | (go_at_call 13
           refine ((HNL.out _ HB1.out none ((.inl rfl))).2.1 i).mono ?_
           rintro e v2 ⟨rfl, hb⟩
           have HB2 : Hid (Below u.heap.size u (v2.alloc (.cells #[.int .i64 0, .int .u64 0] 32))) := Lib.hid ((HB1.out.trans (hb.mono HB1.out.size)).alloc (HB1.out.trans (hb.mono HB1.out.size)).size _)
           clear hb))
      generalize (v2.alloc (.cells #[.int .i64 0, .int .u64 0] 32)) = u2 at *
      have HQ2 : Hid (u2.heap[w.heap.size]? = some (.cells #[.int .i64 hi, .int .u64 (hk : Int)] 32 (0, 0))) := Lib.hid ((HB2.out.block _ (lt_heap HM.out.1)).trans HM.out.1)
      have x20 : u2.cell? ⟨w.heap.size, 0, none⟩ = some (.int .i64 hi) := blk_cell HQ2.out 0
      have x21 : u2.cell? ⟨w.heap.size, 1, none⟩ = some (.int .u64 (hk : Int)) := blk_cell HQ2.out 1
      go_wp2_with (first
        | (go_at_call 11
           refine ((HNL.out _ HB2.out none ((.inl rfl))).2.2.1 hi hk).mono ?_
           rintro e u3 ⟨rfl, hb⟩
           have HB_u3 : Hid (Below u.heap.size u u3) := Lib.hid (HB2.out.trans (hb.mono HB2.out.size))
           have HQ_u3 : Hid (u3.heap[w.heap.size]? = some (.cells #[.int .i64 hi, .int .u64 (hk : Int)] 32 (0, 0))) := Lib.hid ((HB_u3.out.block _ (lt_heap HM.out.1)).trans HM.out.1)
           have x30 : u3.cell? ⟨w.heap.size, 0, none⟩ = some (.int .i64 hi) := blk_cell HQ_u3.out 0
           have x31 : u3.cell? ⟨w.heap.size, 1, none⟩ = some (.int .u64 (hk : Int)) := blk_cell HQ_u3.out 1
           clear hb)
        | (go_at_call 18
           refine ((HNL.out _ HB_u3.out none ((.inl rfl))).2.2.2.1 hi hk).mono ?_
           rintro e u4 ⟨rfl, hb⟩
           have HB_u4 : Hid (Below u.heap.size u u4) := Lib.hid (HB_u3.out.trans (hb.mono HB_u3.out.size))
           have HQ_u4 : Hid (u4.heap[w.heap.size]? = some (.cells #[.int .i64 hi, .int .u64 (hk : Int)] 32 (0, 0))) := Lib.hid ((HB_u4.out.block _ (lt_heap HM.out.1)).trans HM.out.1)
           clear hb)
        | (go_at_call 17
           refine ((HNL.out _ HB_u4.out none ((.inl rfl))).2.2.2.2.1).mono ?_
           rintro e u5 ⟨rfl, hb⟩
           have HB_u5 : Hid (Below u.heap.size u u5) := Lib.hid (HB_u4.out.trans (hb.mono HB_u4.out.size))
           have HQ_u5 : Hid (u5.heap[w.heap.size]? = some (.cells #[.int .i64 hi, .int .u64 (hk : Int)] 32 (0, 0))) := Lib.hid ((HB_u5.out.block _ (lt_heap HM.out.1)).trans HM.out.1)
           clear hb)
        | (go_at_call 19
           refine ((HNL.out _ HB_u5.out none ((.inl rfl))).2.2.2.2.2.1).mono ?_
           rintro e u6 ⟨rfl, hb⟩
           have HB_u6 : Hid (Below u.heap.size u u6) := Lib.hid (HB_u5.out.trans (hb.mono HB_u5.out.size))
           have HQ_u6 : Hid (u6.heap[w.heap.size]? = some (.cells #[.int .i64 hi, .int .u64 (hk : Int)] 32 (0, 0))) := Lib.hid ((HB_u6.out.block _ (lt_heap HM.out.1)).trans HM.out.1)
           clear hb)
        | (go_at_call 14
           refine ((HNL.out _ HB_u6.out none ((.inl rfl))).2.2.2.2.2.2.1).mono ?_
           rintro e u7 ⟨rfl, hb⟩
           have HB_u7 : Hid (Below u.heap.size u u7) := Lib.hid (HB_u6.out.trans (hb.mono HB_u6.out.size))
           have HQ_u7 : Hid (u7.heap[w.heap.size]? = some (.cells #[.int .i64 hi, .int .u64 (hk : Int)] 32 (0, 0))) := Lib.hid ((HB_u7.out.block _ (lt_heap HM.out.1)).trans HM.out.1)
           clear hb)
        | (go_at_call 20
           refine ((HNL.out _ HB_u7.out none ((.inl rfl))).2.2.2.2.2.2.2 u7.heap.size (by have := HB_u7.out.size; omega)).mono ?_
           rintro e u8 ⟨lb, Fi, rfl, hb, _, _⟩
           have HB8 : Hid (Below u.heap.size u u8) := Lib.hid (HB_u7.out.trans (hb.mono HB_u7.out.size))
           clear hb)
        | (go_at_call 21
           refine (told_any g eg none [] (Nat.zero_le _) u8 fun W hW => (HNL.out W (HB8.out.trans (hW.mono HB8.out.size)) none ((.inl rfl))).2.2.2.2.2.2.2 u8.heap.size (by have := HB8.out.size; omega)).mono ?_
           rintro e u9 ⟨rfl, hb⟩
           have HB9 : Hid (Below u.heap.size u u9) := Lib.hid (HB8.out.trans (hb.mono HB8.out.size))
           clear hb))
      exact ⟨⟨1, by omega, rfl, HB9.out⟩, by decide⟩
    · rw [show ((1 : Nat) : Int) = 1 from rfl]
      have hb0 := hb
      have HB0 := Lib.hid hb
      clear hb0 hb
      have xs : wr.cell? ⟨w.heap.size + 2, 1, none⟩ = some (.pointer (some ⟨w.heap.size + 1, 0, none⟩)) := (HB0.out.cell (p := ⟨w.heap.size + 2, 1, none⟩) (lt_heap HM.out.2.1)).trans (blk_cell HM.out.2.1 1)
      go_upto_region 6 with fail
      clear xs
      go_upto_region 7 with (first
        | (go_at_call 9
           refine ((HNL.out _ HB0.out (some ⟨w.heap.size + 1, 0, none⟩) ((.inr ⟨_, rfl, HM.out.2.2⟩))).1).mono ?_
           rintro e v1 ⟨rfl, hb⟩
           have HB1 : Hid (Below u.heap.size u (v1.alloc (.cells #[.int .i64 0, .int .u64 0] 32))) := Lib.hid ((HB0.out.trans (hb.mono HB0.out.size)).alloc (HB0.out.trans (hb.mono HB0.out.size)).size _)
           clear hb))
      generalize (v1.alloc (.cells #[.int .i64 0, .int .u64 0] 32)) = u1 at *
      go_upto_region 8 with (first
        | (go_at_call 13
           refine ((HNL.out _ HB1.out (some ⟨w.heap.size + 1, 0, none⟩) ((.inr ⟨_, rfl, HM.out.2.2⟩))).2.1 i).mono ?_
           rintro e v2 ⟨rfl, hb⟩
           have HB2 : Hid (Below u.heap.size u (v2.alloc (.cells #[.int .i64 0, .int .u64 0] 32))) := Lib.hid ((HB1.out.trans (hb.mono HB1.out.size)).alloc (HB1.out.trans (hb.mono HB1.out.size)).size _)
           clear hb))
      generalize (v2.alloc (.cells #[.int .i64 0, .int .u64 0] 32)) = u2 at *
      have HQ2 : Hid (u2.heap[w.heap.size]? = some (.cells #[.int .i64 hi, .int .u64 (hk : Int)] 32 (0, 0))) := Lib.hid ((HB2.out.block _ (lt_heap HM.out.1)).trans HM.out.1)
      have x20 : u2.cell? ⟨w.heap.size, 0, none⟩ = some (.int .i64 hi) := blk_cell HQ2.out 0
      have x21 : u2.cell? ⟨w.heap.size, 1, none⟩ = some (.int .u64 (hk : Int)) := blk_cell HQ2.out 1
      go_wp2_with (first
        | (go_at_call 11
           refine ((HNL.out _ HB2.out (some ⟨w.heap.size + 1, 0, none⟩) ((.inr ⟨_, rfl, HM.out.2.2⟩))).2.2.1 hi hk).mono ?_
           rintro e u3 ⟨rfl, hb⟩
           have HB_u3 : Hid (Below u.heap.size u u3) := Lib.hid (HB2.out.trans (hb.mono HB2.out.size))
           have HQ_u3 : Hid (u3.heap[w.heap.size]? = some (.cells #[.int .i64 hi, .int .u64 (hk : Int)] 32 (0, 0))) := Lib.hid ((HB_u3.out.block _ (lt_heap HM.out.1)).trans HM.out.1)
           have x30 : u3.cell? ⟨w.heap.size, 0, none⟩ = some (.int .i64 hi) := blk_cell HQ_u3.out 0
           have x31 : u3.cell? ⟨w.heap.size, 1, none⟩ = some (.int .u64 (hk : Int)) := blk_cell HQ_u3.out 1
           clear hb)
        | (go_at_call 18
           refine ((HNL.out _ HB_u3.out (some ⟨w.heap.size + 1, 0, none⟩) ((.inr ⟨_, rfl, HM.out.2.2⟩))).2.2.2.1 hi hk).mono ?_
           rintro e u4 ⟨rfl, hb⟩
           have HB_u4 : Hid (Below u.heap.size u u4) := Lib.hid (HB_u3.out.trans (hb.mono HB_u3.out.size))
           have HQ_u4 : Hid (u4.heap[w.heap.size]? = some (.cells #[.int .i64 hi, .int .u64 (hk : Int)] 32 (0, 0))) := Lib.hid ((HB_u4.out.block _ (lt_heap HM.out.1)).trans HM.out.1)
           clear hb)
        | (go_at_call 17
           refine ((HNL.out _ HB_u4.out (some ⟨w.heap.size + 1, 0, none⟩) ((.inr ⟨_, rfl, HM.out.2.2⟩))).2.2.2.2.1).mono ?_
           rintro e u5 ⟨rfl, hb⟩
           have HB_u5 : Hid (Below u.heap.size u u5) := Lib.hid (HB_u4.out.trans (hb.mono HB_u4.out.size))
           have HQ_u5 : Hid (u5.heap[w.heap.size]? = some (.cells #[.int .i64 hi, .int .u64 (hk : Int)] 32 (0, 0))) := Lib.hid ((HB_u5.out.block _ (lt_heap HM.out.1)).trans HM.out.1)
           clear hb)
        | (go_at_call 19
           refine ((HNL.out _ HB_u5.out (some ⟨w.heap.size + 1, 0, none⟩) ((.inr ⟨_, rfl, HM.out.2.2⟩))).2.2.2.2.2.1).mono ?_
           rintro e u6 ⟨rfl, hb⟩
           have HB_u6 : Hid (Below u.heap.size u u6) := Lib.hid (HB_u5.out.trans (hb.mono HB_u5.out.size))
           have HQ_u6 : Hid (u6.heap[w.heap.size]? = some (.cells #[.int .i64 hi, .int .u64 (hk : Int)] 32 (0, 0))) := Lib.hid ((HB_u6.out.block _ (lt_heap HM.out.1)).trans HM.out.1)
           clear hb)
        | (go_at_call 14
           refine ((HNL.out _ HB_u6.out (some ⟨w.heap.size + 1, 0, none⟩) ((.inr ⟨_, rfl, HM.out.2.2⟩))).2.2.2.2.2.2.1).mono ?_
           rintro e u7 ⟨rfl, hb⟩
           have HB_u7 : Hid (Below u.heap.size u u7) := Lib.hid (HB_u6.out.trans (hb.mono HB_u6.out.size))
           have HQ_u7 : Hid (u7.heap[w.heap.size]? = some (.cells #[.int .i64 hi, .int .u64 (hk : Int)] 32 (0, 0))) := Lib.hid ((HB_u7.out.block _ (lt_heap HM.out.1)).trans HM.out.1)
           clear hb)
        | (go_at_call 20
           refine ((HNL.out _ HB_u7.out (some ⟨w.heap.size + 1, 0, none⟩) ((.inr ⟨_, rfl, HM.out.2.2⟩))).2.2.2.2.2.2.2 u7.heap.size (by have := HB_u7.out.size; omega)).mono ?_
           rintro e u8 ⟨lb, Fi, rfl, hb, _, _⟩
           have HB8 : Hid (Below u.heap.size u u8) := Lib.hid (HB_u7.out.trans (hb.mono HB_u7.out.size))
           clear hb)
        | (go_at_call 21
           refine (told_any g eg (some ⟨w.heap.size + 1, 0, none⟩) [] (Nat.zero_le _) u8 fun W hW => (HNL.out W (HB8.out.trans (hW.mono HB8.out.size)) (some ⟨w.heap.size + 1, 0, none⟩) ((.inr ⟨_, rfl, HM.out.2.2⟩))).2.2.2.2.2.2.2 u8.heap.size (by have := HB8.out.size; omega)).mono ?_
           rintro e u9 ⟨rfl, hb⟩
           have HB9 : Hid (Below u.heap.size u u9) := Lib.hid (HB8.out.trans (hb.mono HB8.out.size))
           clear hb))
      exact ⟨⟨2, by omega, rfl, HB9.out⟩, by decide⟩
    · rw [show ((2 : Nat) : Int) = 2 from rfl]
      have HB0 := Lib.hid (HBW.out.trans (hb.mono HBW.out.size))
      clear hb
      go_wp2_with (first
        | (go_at_call 6
           refine (HKN.out wr).mono ?_
           rintro e v1 ⟨rfl, hb⟩
           have HB1 := Lib.hid (HB0.out.trans (hb.mono HB0.out.size))
           clear hb))
      go_ret
      exact ⟨rfl, HB1.out⟩
end Go.Proofs.Ythljpfmonienlaa
