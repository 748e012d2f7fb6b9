/- Stage 10: same. -/
import Derived.Test.YthlnhkkjpjbmeaaXf
namespace Go.Proofs.Ythlnhkkjpjbmeaa
set_option maxRecDepth 100000
open Go.RowKit Go.Shelf
section
variable {wb w : World} {X : Nat → Prop} {p q : Nat} {s : Sl}
theorem TwoD.tells (h : TwoD wb X w p q s s) (hs : s.Fit) (l : Int) : Calls Try.prog 30 #[.pointer (some ⟨q, 0, none⟩), .int .i64 l] w fun e w' => ∃ v, e = .returned v ∧ Below w.heap.size w w' ∧
    Calls Try.prog 22 #[.pointer (some ⟨p, 0, none⟩), .int .i64 l, v] w' fun e w2 => e = .returned (.bool true) ∧ TwoD wb X w2 p q s s ∧ ∀ k, X k → w2.heap[k]? = w.heap[k]? := by
  obtain ⟨G, hr, hG, hst⟩ := h
  have hr0 := hr
  obtain ⟨A, c, rows, hx⟩ := hr
  refine (rof_any hx l).mono ?_
  rintro e w' ⟨v, rfl, hv, hb⟩
  refine ⟨v, rfl, hb, (tells_st wb p hs l (hst.step hb) (hv.mono (G' := Or2 X G) fun k r => .inr r.1)).mono ?_⟩
  rintro e w2 ⟨rfl, h1, h2⟩
  exact ⟨rfl, ⟨G, (hr0.step hb).blocks (fun k r => h1.lt k (.inr r)) fun k r => h2 k (.inr r), hG, h1⟩, fun k r => (h2 k (.inl r)).trans (hb.block k (hst.lt k (.inl r)))⟩
theorem whE_eq (s : Sl) (c : Int) : ∃ (a : Int) (b : Bool), s.whE c = #[.int .i64 a, .bool b] := by
  unfold Sl.whE
  split
  · exact ⟨_, _, rfl⟩
  · exact ⟨_, _, rfl⟩
set_option maxHeartbeats 4000000 in
theorem same_any (hs : s.Fit) (h : TwoD wb X w p q s s) :
    Calls Try.prog 18 #[.pointer (some ⟨p, 0, none⟩), .pointer (some ⟨q, 0, none⟩)] w fun e w' => e = .returned (.bool true) ∧ TwoD wb X w' p q s s ∧ ∀ k, X k → w'.heap[k]? = w.heap[k]? := by
  have HT := Lib.hid h
  have HS := Lib.hid hs
  have hn4 := hs.n
  have hm6 := hs.m
  obtain ⟨n, hn⟩ : ∃ n, n = s.ls.length := ⟨_, rfl⟩
  obtain ⟨m, hm⟩ : ∃ m, m = s.cells := ⟨_, rfl⟩
  have HQ : Hid (∀ V, TwoD wb X V p q s s → ∃ A c, V.cell? ⟨q, 0, none⟩ = some (.slice A n c) ∧ V.cell? ⟨q, 1, none⟩ = some (.int .i64 (m : Int))) := Lib.hid fun V hV => by
    obtain ⟨G, ⟨A, c, rows, hx⟩, _⟩ := hV
    rw [hn, hm]
    exact ⟨A, c, blk_cell hx.blk 0, blk_cell hx.blk 1⟩
  have HW : Hid (∀ V, TwoD wb X V p q s s → ∀ cc, Calls Try.prog 27 #[.pointer (some ⟨q, 0, none⟩), .int .i64 cc] V (ret (.tuple (s.whE cc)) V) ∧ Calls Try.prog 21 #[.pointer (some ⟨p, 0, none⟩), .int .i64 cc] V (ret (.tuple (s.whE cc)) V)) := Lib.hid fun V hV cc => by
    obtain ⟨G, ⟨A, c, rows, hx⟩, _, hst⟩ := hV
    exact ⟨rwhere_any hx hs cc, hst.where_ hs cc⟩
  rw [← hn] at hn4
  rw [← hm] at hm6
  clear h hs hn hm
  go_enter Try.func18, Try.ntmps18
  go_wp2_with fail
  go_loopw [5] (fun v wr => ∃ k : Nat, k ≤ n + 2 ∧ v = .int .i64 ((k : Int) - 1) ∧ TwoD wb X wr p q s s ∧ ∀ j, X j → wr.heap[j]? = w.heap[j]?) (fun v _ => n + 2 - (intOf v + 1).toNat)
  case atStart => exact ⟨0, Nat.zero_le _, rfl, HT.out, fun _ _ => rfl⟩
  case round =>
    obtain ⟨k, hk, rfl, ht, hxk⟩ := hrel
    have HTr := Lib.hid ht
    have HXk := Lib.hid hxk
    obtain ⟨A, c, x0, _⟩ := HQ.out wr ht
    have zk : IntKind.i64.wrap ((k : Int) - 1 + 1) = (k : Int) := by rw [IntKind.wrap_i64]; omega
    clear ht hxk
    by_cases hlt : k < n + 2
    · have hlt' : (k : Int) - 1 ≤ (n : Int) := by omega
      have HTL := Lib.hid (HTr.out.tells HS.out ((k : Int) - 1))
      go_wp2_with (first
        | (go_at_call 30
           refine HTL.out.mono ?_
           rintro e u1 ⟨v, rfl, hb, hc⟩
           have HC := Lib.hid hc
           clear hb hc x0)
        | (go_at_call 22
           refine HC.out.mono ?_
           rintro e u2 ⟨rfl, ht, hx⟩
           have HT2 := Lib.hid ht
           have HX2 := Lib.hid hx
           clear ht hx))
      go_roundw
      case rel => exact ⟨k + 1, by omega, by go_num, HT2.out, fun j hj => (HX2.out j hj).trans (HXk.out j hj)⟩
      case measure => simp [intOf]; omega
    · obtain rfl : k = n + 2 := by omega
      have hlt' : ¬ ((n + 2 : Nat) : Int) - 1 ≤ (n : Int) := by omega
      clear hlt
      go_wp2_with fail
      go_loopw [6] (fun v wr2 => ∃ k : Nat, k ≤ m + 2 ∧ v = .int .i64 ((k : Int) - 1) ∧ TwoD wb X wr2 p q s s ∧ ∀ j, X j → wr2.heap[j]? = w.heap[j]?) (fun v _ => m + 2 - (intOf v + 1).toNat)
      case atStart => exact ⟨0, Nat.zero_le _, rfl, HTr.out, HXk.out⟩
      case round =>
        obtain ⟨j, hj, rfl, ht, hxj⟩ := hrel
        have HTj := Lib.hid ht
        have HXj := Lib.hid hxj
        obtain ⟨A1, c1, _, x1⟩ := HQ.out _ ht
        have zj : IntKind.i64.wrap ((j : Int) - 1 + 1) = (j : Int) := by rw [IntKind.wrap_i64]; omega
        clear ht hxj
        by_cases hlj : j < m + 2
        · have hlj' : (j : Int) - 1 ≤ (m : Int) := by omega
          obtain ⟨a, b, hab⟩ := whE_eq s ((j : Int) - 1)
          have HWW : Hid (∀ V, TwoD wb X V p q s s → Calls Try.prog 27 #[.pointer (some ⟨q, 0, none⟩), .int .i64 ((j : Int) - 1)] V (ret (.tuple #[.int .i64 a, .bool b]) V) ∧ Calls Try.prog 21 #[.pointer (some ⟨p, 0, none⟩), .int .i64 ((j : Int) - 1)] V (ret (.tuple #[.int .i64 a, .bool b]) V)) := Lib.hid fun V hV => by
            have := HW.out V hV ((j : Int) - 1)
            rwa [hab] at this
          have haa : (a != a) = false := by simp
          have hbb : (b != b) = false := by simp
          have hbe : ∀ W, (binOp .neq 4 (.bool b) (.bool b)).run Try.prog W = .ok (.bool false) W := fun W => by cases b <;> kernel_rfl
          clear hab
          go_wp2_with (first
            | (go_at_call 21
               refine (HWW.out _ HTj.out).2.mono ?_
               rintro e u1 ⟨rfl, hb⟩
               have HB1 := Lib.hid hb
               have HT1 := Lib.hid (HTj.out.step hb)
               clear hb x1)
            | (go_at_call 27
               refine (HWW.out _ HT1.out).1.mono ?_
               rintro e u2 ⟨rfl, hb⟩
               have HB2 := Lib.hid hb
               have HT2 := Lib.hid (HT1.out.step hb)
               clear hb))
          go_roundw
          case rel => exact ⟨j + 1, by omega, by go_num, HT2.out, fun i hi => ((HB2.out.block i (HT1.out.lt i hi)).trans (HB1.out.block i (HTj.out.lt i hi))).trans (HXj.out i hi)⟩
          case measure => simp [intOf]; omega
        · obtain rfl : j = m + 2 := by omega
          have hlj' : ¬ ((m + 2 : Nat) : Int) - 1 ≤ (m : Int) := by omega
          clear hlj
          go_wp2_with fail
          go_ret
          exact ⟨rfl, HTj.out, HXj.out⟩
end
end Go.Proofs.Ythlnhkkjpjbmeaa
