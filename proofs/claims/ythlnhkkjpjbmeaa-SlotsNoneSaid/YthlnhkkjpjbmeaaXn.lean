/- Stage 10: SlotsNone. -/
import Derived.Test.YthlnhkkjpjbmeaaXc
namespace Go.Proofs.Ythlnhkkjpjbmeaa
set_option maxRecDepth 100000
open Go.RowKit Go.Shelf
section
variable {wb W : World} {pa : Option Addr} {X : Nat → Prop}
theorem NT.len (h : NT wb pa X W) (l : Int) : Calls Try.prog 20 #[.pointer pa, .int .i64 l] W (ret (.int .i64 0) W) := plen_no W pa l (h.hasL l)
theorem NT.pop (h : NT wb pa X W) (l : Int) : Calls Try.prog 11 #[.pointer pa, .int .i64 l] W (ret (.tuple #[.int .i64 0, .bool false]) W) := ppop_no pa l (h.len l)
theorem NT.where_ (h : NT wb pa X W) (c : Int) : Calls Try.prog 21 #[.pointer pa, .int .i64 c] W (ret (.tuple #[.int .i64 0, .bool false]) W) := pwhere_no W pa c (h.hasC c)
theorem NT.made (h : NT wb pa X W) : Calls Try.prog 24 #[.pointer pa] W (ret (.bool false) W) := pmade_c W pa false (h.hasL 0)
theorem NT.push (h : NT wb pa X W) (l c : Int) : Calls Try.prog 9 #[.pointer pa, .int .i64 l, .int .i64 c] W (ret (.int .i64 1) W) :=
  ppush_no pa l c false false false 1 rfl (.inl rfl) (fun _U hU => (h.step hU).made) (fun _U hU => (h.step hU).hasL l) (fun _U hU => (h.step hU).hasC c)
theorem NT.remove (h : NT wb pa X W) (c : Int) : Calls Try.prog 13 #[.pointer pa, .int .i64 c] W (ret (.int .i64 1) W) :=
  premove_no pa c false false 1 rfl (.inl rfl) (fun _U hU => (h.step hU).made) (fun _U hU => (h.step hU).hasC c)
theorem NT.copy (h : NT wb pa X W) : Calls Try.prog 16 #[.pointer pa] W (ret (.pointer none) W) := pcopy_no pa h.made
theorem NT.tells (h : NT wb pa X W) (l : Int) : Calls Try.prog 22 #[.pointer pa, .int .i64 l, .slice none 0 0] W fun e w' => e = .returned (.bool true) ∧ NT wb pa X w' ∧ ∀ k, X k → w'.heap[k]? = W.heap[k]? :=
  tells_any (it_nt wb pa l) (Nat.zero_le _) X W h none 0 0 rfl (Nat.le_refl _) (by omega) (.inl rfl)
end
set_option maxHeartbeats 4000000 in
theorem none_any (l c : Int) (w : World) : Calls Try.prog 5 #[.int .i64 l, .int .i64 c] w (ret (.bool true) w) := by
  have hz1 : (w.alloc (.cells #[.slice none 0 0, .slice none 0 0, .slice none 0 0] 53)).heap.size = w.heap.size + 1 := by simp
  obtain ⟨z, hz⟩ : ∃ z, z = w.heap.size := ⟨_, rfl⟩
  have HZ1 : Hid (((w.alloc (.cells #[.slice none 0 0, .slice none 0 0, .slice none 0 0] 53)).alloc (.cells #[.pointer none, .pointer (some ⟨z, 0, none⟩)] 24)).heap[z]? = some (.cells #[.slice none 0 0, .slice none 0 0, .slice none 0 0] 53 (0, 0))) := Lib.hid (by rw [hz]; exact blk_old (heap_alloc_new w _) _)
  have HB1 : Hid (((w.alloc (.cells #[.slice none 0 0, .slice none 0 0, .slice none 0 0] 53)).alloc (.cells #[.pointer none, .pointer (some ⟨z, 0, none⟩)] 24)).heap[z + 1]? = some (.cells #[.pointer none, .pointer (some ⟨z, 0, none⟩)] 24 (0, 0))) := Lib.hid (by
    have h := heap_alloc_new (w.alloc (.cells #[.slice none 0 0, .slice none 0 0, .slice none 0 0] 53)) (.cells #[.pointer none, .pointer (some ⟨z, 0, none⟩)] 24)
    rwa [hz1, ← hz] at h)
  have HW1 : Hid (Below w.heap.size w ((w.alloc (.cells #[.slice none 0 0, .slice none 0 0, .slice none 0 0] 53)).alloc (.cells #[.pointer none, .pointer (some ⟨z, 0, none⟩)] 24))) := Lib.hid ((below_alloc w _).alloc (below_alloc w _).size _)
  clear hz1
  go_enter Try.func5, Try.ntmps5
  go_upto_region 4 with fail
  rw [← hz]
  have HZZ := Lib.hid hz
  clear hz
  change Code.wp _ _ _ _ ((w.alloc (.cells #[.slice none 0 0, .slice none 0 0, .slice none 0 0] 53)).alloc (.cells #[.pointer none, .pointer (some ⟨z, 0, none⟩)] 24))
  generalize (w.alloc (.cells #[.slice none 0 0, .slice none 0 0, .slice none 0 0] 53)).alloc (.cells #[.pointer none, .pointer (some ⟨z, 0, none⟩)] 24) = u0 at *
  go_loopw [16] (fun v wr => ∃ k : Nat, k ≤ 2 ∧ v = .int .i64 (k : Int) ∧ Below w.heap.size w wr ∧ wr.heap[z]? = some (.cells #[.slice none 0 0, .slice none 0 0, .slice none 0 0] 53 (0, 0)) ∧ wr.heap[z + 1]? = some (.cells #[.pointer none, .pointer (some ⟨z, 0, none⟩)] 24 (0, 0))) (fun v _ => 2 - (intOf v).toNat)
  case atStart => exact ⟨0, Nat.zero_le _, rfl, HW1.out, HZ1.out, HB1.out⟩
  case round =>
    obtain ⟨k, hk, rfl, hw, hzz, hbb⟩ := hrel
    have HWr := Lib.hid hw
    have HZr := Lib.hid hzz
    have HBr := Lib.hid hbb
    by_cases hlt : k < 2
    · have hlt' : (k : Int) < 2 := by omega
      have k0 : (0 : Int) ≤ (k : Int) := by omega
      have zk : IntKind.i64.wrap ((k : Int) + 1) = (k : Int) + 1 := by rw [IntKind.wrap_i64]; omega
      have hpa : ∃ (pa : Option Addr) (X : Nat → Prop), wr.cell? ⟨z + 1, k, none⟩ = some (.pointer pa) ∧ NT w pa X wr ∧ ∀ U, NT w pa X U → (∀ j, X j → U.heap[j]? = wr.heap[j]?) → U.heap[z]? = some (.cells #[.slice none 0 0, .slice none 0 0, .slice none 0 0] 53 (0, 0)) ∧ U.heap[z + 1]? = some (.cells #[.pointer none, .pointer (some ⟨z, 0, none⟩)] 24 (0, 0)) := by
        rcases (show k = 0 ∨ k = 1 by omega) with rfl | rfl
        · refine ⟨none, fun j => j = z ∨ j = z + 1, blk_cell hbb 0, ⟨hw, fun j q => ?_, .inl rfl⟩, fun U _ hU => ⟨(hU z (.inl rfl)).trans hzz, (hU (z + 1) (.inr rfl)).trans hbb⟩⟩
          rcases q with rfl | rfl
          · exact lt_heap hzz
          · exact lt_heap hbb
        · refine ⟨some ⟨z, 0, none⟩, fun j => j = z + 1, blk_cell hbb 1, ⟨hw, fun j q => ?_, .inr ⟨z, rfl, fun q => ?_, hzz⟩⟩, fun U h hU => ⟨?_, (hU (z + 1) rfl).trans hbb⟩⟩
          · subst q
            exact lt_heap hbb
          · have q : z = z + 1 := q
            omega
          · rcases h.2.2 with e | ⟨z', e, _, hb⟩
            · cases e
            · injection e with e
              injection e with e
              subst e
              exact hb
      obtain ⟨pa, X, xc, hT, hback⟩ := hpa
      have HT0 := Lib.hid hT
      have HT0k := HT0
      have HK0 : Hid (Below wr.heap.size wr wr) := Lib.hid (Below.refl _ _)
      have HBK := Lib.hid hback
      have hnn : ∀ W, (binOp .neq 24 (.pointer none) (.pointer none)).run Try.prog W = .ok (.bool false) W := fun W => by kernel_rfl
      clear hw hzz hbb hT hback
      go_wp2_with (first
        | (go_at_call 11
           refine (HT0.out.pop l).mono ?_
           rintro e u1 ⟨rfl, hb⟩
           have HT1 := Lib.hid (HT0.out.step hb)
           have HK1 := Lib.hid (HK0.out.trans (hb.mono HK0.out.size))
           clear hb HT0 HK0)
        | (go_at_call 21
           refine (HT1.out.where_ c).mono ?_
           rintro e u2 ⟨rfl, hb⟩
           have HT2 := Lib.hid (HT1.out.step hb)
           have HK2 := Lib.hid (HK1.out.trans (hb.mono HK1.out.size))
           clear hb HT1 HK1)
        | (go_at_call 9
           refine (HT2.out.push l c).mono ?_
           rintro e u3 ⟨rfl, hb⟩
           have HT3 := Lib.hid (HT2.out.step hb)
           have HK3 := Lib.hid (HK2.out.trans (hb.mono HK2.out.size))
           clear hb HT2 HK2)
        | (go_at_call 13
           refine (HT3.out.remove c).mono ?_
           rintro e u4 ⟨rfl, hb⟩
           have HT4 := Lib.hid (HT3.out.step hb)
           have HK4 := Lib.hid (HK3.out.trans (hb.mono HK3.out.size))
           clear hb HT3 HK3)
        | (go_at_call 20
           refine (HT4.out.len l).mono ?_
           rintro e u5 ⟨rfl, hb⟩
           have HT5 := Lib.hid (HT4.out.step hb)
           have HK5 := Lib.hid (HK4.out.trans (hb.mono HK4.out.size))
           clear hb HT4 HK4)
        | (go_at_call 16
           refine (HT5.out.copy).mono ?_
           rintro e u6 ⟨rfl, hb⟩
           have HT6 := Lib.hid (HT5.out.step hb)
           have HK6 := Lib.hid (HK5.out.trans (hb.mono HK5.out.size))
           clear hb HT5 HK5)
        | (go_at_call 22
           refine (HT6.out.tells l).mono ?_
           rintro e u7 ⟨rfl, ht, hx⟩
           have HT7 := Lib.hid ht
           have HX7 := Lib.hid hx
           clear ht hx HT6))
      go_roundw
      case rel =>
        have hX : ∀ j, X j → u7.heap[j]? = wr.heap[j]? := fun j q => (HX7.out j q).trans (HK6.out.block j (HT0k.out.2.1 j q))
        obtain ⟨q1, q2⟩ := HBK.out u7 HT7.out hX
        exact ⟨k + 1, by omega, by go_num, HT7.out.1, q1, q2⟩
      case measure => simp [intOf]; omega
    · obtain rfl : k = 2 := by omega
      have hlt' : ¬ ((2 : Nat) : Int) < 2 := by omega
      have HKN := Lib.hid (known_any wr)
      clear hlt
      go_wp2_with (first
        | (go_at_call 6
           refine HKN.out.mono ?_
           rintro e u9 ⟨rfl, hb⟩
           have HB9 := Lib.hid hb
           clear hb))
      go_ret
      exact ⟨rfl, HWr.out.trans (HB9.out.mono HWr.out.size)⟩
end Go.Proofs.Ythlnhkkjpjbmeaa
