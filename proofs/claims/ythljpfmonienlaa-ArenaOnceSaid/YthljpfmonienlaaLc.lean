/- Stage 9: the landed Live; what All tells. -/
import Derived.Test.YthljpfmonienlaaLb
namespace Go.Proofs.Ythljpfmonienlaa
set_option maxRecDepth 100000
open Go.RowKit Go.Shelf
attribute [local go_sem] Oper.semAt_some
theorem pliveG_no (w : World) (pa : Option Addr) (i : Int) (k : Nat) (ha : ∀ W, Below w.heap.size w W → Calls Try.prog 13 #[.pointer pa, .int .i64 i] W (ret (.tuple #[.agg #[.int .i64 0, .int .u64 0], .bool false]) W)) : Calls Try.prog 18 #[.pointer pa, .agg #[.int .i64 i, .int .u64 (k : Int)]] w (ret (.bool false) w) := by
  have HA := Lib.hid ha
  have HM1 : Hid (Mem w (w.alloc (.cells #[.int .i64 i, .int .u64 (k : Int)] 32)) [(w.heap.size, .cells #[.int .i64 i, .int .u64 (k : Int)] 32 (0, 0))]) := Lib.hid ((Mem.nil w).alloc (.cells #[.int .i64 i, .int .u64 (k : Int)] 32))
  clear ha
  go_enter Try.func18, Try.ntmps18
  go_upto_region 1 with fail
  change Code.wp _ _ _ _ (w.alloc (.cells #[.int .i64 i, .int .u64 (k : Int)] 32))
  generalize w.alloc (.cells #[.int .i64 i, .int .u64 (k : Int)] 32) = u1 at *
  have x0 : u1.cell? ⟨w.heap.size, 0, none⟩ = some (.int .i64 i) := blk_cell (HM1.out.get 0 rfl) 0
  go_upto_region 2 with (first
    | (go_at_call 13
       refine (HA.out _ HM1.out.below).mono ?_
       rintro e u2 ⟨rfl, hb⟩
       have HM2 := Lib.hid (HM1.out.step hb)
       clear hb))
  have HM3 := Lib.hid (HM2.out.alloc (.cells #[.int .i64 0, .int .u64 0] 32))
  obtain ⟨b5, hb5⟩ : ∃ b, b = u2.heap.size := ⟨_, rfl⟩
  rw [← hb5] at HM3 ⊢
  clear hb5 x0
  generalize u2.alloc (.cells #[.int .i64 0, .int .u64 0] 32) = u3 at *
  have y0 : u3.cell? ⟨w.heap.size, 0, none⟩ = some (.int .i64 i) := blk_cell (HM3.out.get 0 rfl) 0
  have y1 : u3.cell? ⟨w.heap.size, 1, none⟩ = some (.int .u64 (k : Int)) := blk_cell (HM3.out.get 0 rfl) 1
  go_wp2_with fail
  go_ret
  exact ⟨rfl, HM3.out.below⟩
theorem pliveG_yes (w : World) (pa : Option Addr) (i : Int) (v k : Nat) (ha : ∀ W, Below w.heap.size w W → Calls Try.prog 13 #[.pointer pa, .int .i64 i] W (ret (.tuple #[.agg #[.int .i64 i, .int .u64 (v : Int)], .bool true]) W)) : Calls Try.prog 18 #[.pointer pa, .agg #[.int .i64 i, .int .u64 (k : Int)]] w (ret (.bool ((v : Int) == (k : Int))) w) := by
  have HA := Lib.hid ha
  have HM1 : Hid (Mem w (w.alloc (.cells #[.int .i64 i, .int .u64 (k : Int)] 32)) [(w.heap.size, .cells #[.int .i64 i, .int .u64 (k : Int)] 32 (0, 0))]) := Lib.hid ((Mem.nil w).alloc (.cells #[.int .i64 i, .int .u64 (k : Int)] 32))
  clear ha
  go_enter Try.func18, Try.ntmps18
  go_upto_region 1 with fail
  change Code.wp _ _ _ _ (w.alloc (.cells #[.int .i64 i, .int .u64 (k : Int)] 32))
  generalize w.alloc (.cells #[.int .i64 i, .int .u64 (k : Int)] 32) = u1 at *
  have x0 : u1.cell? ⟨w.heap.size, 0, none⟩ = some (.int .i64 i) := blk_cell (HM1.out.get 0 rfl) 0
  go_upto_region 2 with (first
    | (go_at_call 13
       refine (HA.out _ HM1.out.below).mono ?_
       rintro e u2 ⟨rfl, hb⟩
       have HM2 := Lib.hid (HM1.out.step hb)
       clear hb))
  have HM3 := Lib.hid (HM2.out.alloc (.cells #[.int .i64 i, .int .u64 (v : Int)] 32))
  obtain ⟨b5, hb5⟩ : ∃ b, b = u2.heap.size := ⟨_, rfl⟩
  rw [← hb5] at HM3 ⊢
  clear hb5 x0
  generalize u2.alloc (.cells #[.int .i64 i, .int .u64 (v : Int)] 32) = u3 at *
  have y0 : u3.cell? ⟨w.heap.size, 0, none⟩ = some (.int .i64 i) := blk_cell (HM3.out.get 0 rfl) 0
  have y1 : u3.cell? ⟨w.heap.size, 1, none⟩ = some (.int .u64 (k : Int)) := blk_cell (HM3.out.get 0 rfl) 1
  have z0 : u3.cell? ⟨b5, 0, none⟩ = some (.int .i64 i) := blk_cell (HM3.out.get 1 rfl) 0
  have z1 : u3.cell? ⟨b5, 1, none⟩ = some (.int .u64 (v : Int)) := blk_cell (HM3.out.get 1 rfl) 1
  have heq : ∀ (V : World), (binOp .eql 32 (.agg #[.int .i64 i, .int .u64 (v : Int)]) (.agg #[.int .i64 i, .int .u64 (k : Int)])).run Try.prog V = .ok (.bool ((v : Int) == (k : Int))) V := fun V => by rw [eqlH]; simp
  go_wp2_with fail
  go_ret
  exact ⟨rfl, HM3.out.below⟩
theorem grown_below {w w' : World} (h : Below w.heap.size w w') : w.grownBy w' none := ⟨h.os, h.tape, h.output, h.size, fun k hk _ => h.block k hk⟩
theorem pall_any (w : World) (pa : Option Addr) : Calls Try.prog 20 #[.pointer pa] w fun e w' => e = .returned (.func (.func 27) #[] #[.pointer (some ⟨w.heap.size, 0, none⟩)]) ∧ w' = w.alloc (.cells #[.pointer pa] 24) := by
  go_enter Try.func20, Try.ntmps20
  go_wp2_with fail
  go_ret
  exact ⟨rfl, rfl⟩
set_option maxHeartbeats 1000000 in
theorem piter_any (w0 : World) (pa : Option Addr) (R : Nat → Prop) (b0 n : Nat) (hn : n ≤ 65536) (hR : ¬ R b0) (hb0 : b0 < w0.heap.size) (hc : w0.cell? ⟨b0, 0, none⟩ = some (.pointer pa)) (tl : Nat → List (Nat × Nat)) (ha : Nat → Nat)
    (h0 : tl 0 = []) (hS : ∀ k, tl (k + 1) = if ha k != 0 then tl k ++ [(k, ha k)] else tl k) (hP : ∀ k, k ≤ n → tl k <+: tl n)
    (HS : ∀ W, Kept R w0 W → Calls Try.prog 19 #[.pointer pa] W (ret (.int .i64 (n : Int)) W))
    (HA : ∀ W, Kept R w0 W → ∀ j, j < n → Calls Try.prog 13 #[.pointer pa, .int .i64 (j : Int)] W (ret (.tuple (if ha j = 0 then #[.agg #[.int .i64 0, .int .u64 0], .bool false] else #[.agg #[.int .i64 (j : Int), .int .u64 (ha j : Int)], .bool true])) W)) :
    SeqStopsK Fence.wide 12 Try.prog 27 #[.pointer (some ⟨b0, 0, none⟩)] hEnc (Kept R) (fun xs => xs = tl n) (fun pre => pre <+: tl n) (tl n).length w0 := fun l J Jx W hW hJ hJx hY hJ0 => by
  have HSz := Lib.hid HS
  have HAt := Lib.hid HA
  have HSu := Lib.hid hS
  have HPr := Lib.hid hP
  have HLt : Hid (∀ k, k < n → ha k ≠ 0 → (tl k).length < (tl n).length) := Lib.hid fun k hk h => by
    have := (hP (k + 1) hk).length_le
    rw [hS k] at this
    simp [h] at this
    omega
  have HYd := Lib.hid hY
  have HJ := Lib.hid hJ
  have HK0 : Hid (Kept R w0 W) := Lib.hid (Kept.of_below hW R)
  have HJ0 : Hid (J (tl 0) W) := Lib.hid (by rw [h0]; exact hJ0)
  have HC : Hid (∀ V, Kept R w0 V → V.cell? ⟨b0, 0, none⟩ = some (.pointer pa)) := Lib.hid fun V hV => (hV.cell (p := ⟨b0, 0, none⟩) hb0 hR).trans hc
  clear HS HA hS hP hY hJ hW hJ0 hJx h0 hc
  refine callsIn_of_wp Try.func27 rfl trivial ?_ rfl
  simp only [Try.ntmps27, List.size_toArray, List.length_cons, List.length_nil, Nat.reduceAdd, Nat.reduceSub, Array.replicate_succ, Array.replicate_zero, List.push_toArray, List.append_toArray, List.nil_append, List.cons_append]
  have x0 : W.cell? ⟨b0, 0, none⟩ = some (.pointer pa) := HC.out W HK0.out
  gi_wp2_with (refine ⟨trivial, ?_⟩; gi_at_call 19; refine (callsIn_wide.2 (HSz.out _ HK0.out)).mono ?_; rintro e W1 ⟨rfl, hb⟩)
  have HK1 := Lib.hid (HK0.out.step hb)
  have HJ1 := Lib.hid (HJ.out _ _ _ none HJ0.out (grown_below hb) (fun r e => nomatch e))
  have HJ9 := Lib.hid HJ.out
  clear x0 hb HJ0 HK0
  gi_loopw [8] (fun i wr => ∃ k : Nat, k ≤ n ∧ i = .int .i64 (k : Int) ∧ J (tl k) wr ∧ Kept R w0 wr) (fun i _ => n - (intOf i).toNat)
  case atStart => exact ⟨0, Nat.zero_le _, rfl, HJ1.out, HK1.out⟩
  case round =>
    obtain ⟨k, hk, rfl, hJs, hkw⟩ := hrel
    have HJs := Lib.hid hJs
    have HKw := Lib.hid hkw
    clear hJs hkw
    have x0 : wr.cell? ⟨b0, 0, none⟩ = some (.pointer pa) := HC.out wr HKw.out
    have zw : IntKind.i64.wrap ((k : Int) + 1) = (k : Int) + 1 := by rw [IntKind.wrap_i64]; omega
    by_cases hlt : k < n
    · have hlt' : (k : Int) < (n : Int) := by omega
      have HAk := Lib.hid (HAt.out wr HKw.out k hlt)
      by_cases h0 : ha k = 0
      · have HAk2 : Hid (Calls Try.prog 13 #[.pointer pa, .int .i64 (k : Int)] wr (ret (.tuple #[.agg #[.int .i64 0, .int .u64 0], .bool false]) wr)) := Lib.hid (by
          have := HAk.out
          rwa [if_pos h0] at this)
        have HT : Hid (tl (k + 1) = tl k) := Lib.hid (by rw [HSu.out, h0]; rfl)
        clear HAk
        gi_wp2_with (refine ⟨trivial, ?_⟩; gi_at_call 13; refine (callsIn_wide.2 HAk2.out).mono ?_; rintro e W2 ⟨rfl, hb⟩)
        have HK2 := Lib.hid ((HKw.out.step hb).alloc (.cells #[.int .i64 0, .int .u64 0] 32))
        have HJ2 := Lib.hid (HJ9.out _ _ _ none HJs.out (grown_below (hb.alloc hb.size (.cells #[.int .i64 0, .int .u64 0] 32))) (fun r e => nomatch e))
        clear hb x0
        gi_wp2
        refine ⟨fun _ h => (by cases h), ?_⟩
        gi_wp2
        go_roundw
        case rel => exact ⟨k + 1, by omega, by go_num, by rw [HT.out]; exact HJ2.out, HK2.out⟩
        case measure => simp [intOf]; omega
      · have HAk2 : Hid (Calls Try.prog 13 #[.pointer pa, .int .i64 (k : Int)] wr (ret (.tuple #[.agg #[.int .i64 (k : Int), .int .u64 (ha k : Int)], .bool true]) wr)) := Lib.hid (by
          have := HAk.out
          rwa [if_neg h0] at this)
        have HT : Hid (tl (k + 1) = tl k ++ [(k, ha k)]) := Lib.hid (by rw [HSu.out]; simp [h0])
        clear HAk
        have HLk := Lib.hid (HLt.out k hlt h0)
        gi_wp2_with (
          refine ⟨trivial, ?_⟩
          gi_at_call 13
          refine (callsIn_wide.2 HAk2.out).mono ?_
          rintro e W2 ⟨rfl, hb⟩
          have HK2 := Lib.hid ((HKw.out.step hb).alloc (.cells #[.int .i64 (k : Int), .int .u64 (ha k : Int)] 32))
          have HJ2 := Lib.hid (HJ9.out _ _ _ none HJs.out (grown_below (hb.alloc hb.size (.cells #[.int .i64 (k : Int), .int .u64 (ha k : Int)] 32))) (fun r e => nomatch e))
          have hz4 : (W2.alloc (.cells #[.int .i64 (k : Int), .int .u64 (ha k : Int)] 32)).heap[W2.heap.size]? = some (.cells #[.int .i64 (k : Int), .int .u64 (ha k : Int)] 32 (0, 0)) := heap_alloc_new W2 _
          have z40 : (W2.alloc (.cells #[.int .i64 (k : Int), .int .u64 (ha k : Int)] 32)).cell? ⟨W2.heap.size, 0, none⟩ = some (.int .i64 (k : Int)) := blk_cell hz4 0
          have z41 : (W2.alloc (.cells #[.int .i64 (k : Int), .int .u64 (ha k : Int)] 32)).cell? ⟨W2.heap.size, 1, none⟩ = some (.int .u64 (ha k : Int)) := blk_cell hz4 1
          obtain ⟨fn, tmps, assign, body, hy, hR2⟩ := HYd.out (tl k) (k, ha k) (W2.alloc (.cells #[.int .i64 (k : Int), .int .u64 (ha k : Int)] 32)) HJ2.out HLk.out
          dsimp only [hEnc] at hy
          have HR2 := Lib.hid hR2
          clear hb x0 hR2)
        refine HR2.out.mono ?_
        rintro e W3 (⟨rfl, hJ3, hk3⟩ | ⟨rfl, hJx3⟩)
        · have HK3 := Lib.hid (HK2.out.trans hk3 fun _ _ r => r)
          have HJ3 := Lib.hid hJ3
          clear hJ3 hk3 hy z40 z41 hz4
          gi_wp2
          go_roundw
          case rel => exact ⟨k + 1, by omega, by go_num, by rw [HT.out]; exact HJ3.out, HK3.out⟩
          case measure => simp [intOf]; omega
        · have HJ3 := Lib.hid hJx3
          clear hJx3 hy z40 z41 hz4
          gi_wp2
          refine bodyPost_ret (results_none rfl _ _ _) rfl ?_
          exact ⟨⟨_, rfl⟩, .inr ⟨_, by rw [← HT.out]; exact HPr.out (k + 1) hlt, HJ3.out⟩⟩
    · obtain rfl : n = k := by omega
      gi_wp2
      go_end0
      exact ⟨⟨_, rfl⟩, .inl ⟨_, rfl, HJs.out⟩⟩
end Go.Proofs.Ythljpfmonienlaa
