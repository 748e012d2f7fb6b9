/- The program's Ports (seg). -/
import Derived.Test.YtfaelihfjmaekaaSaR
namespace Go.Proofs.Ytfaelihfjmaekaa
open Go.RowKit
/-- What Ports tells. -/
def PortsE (n : Nat) : Int := if n < 4 then 4 else 0
set_option maxHeartbeats 1000000 in
theorem ports_any (A : Option Addr) (n c : Nat) (f : Nat → Int) (hf : Byt f) (hn : n ≤ 140737488355328) (w : World) (hr : Rd w w.heap.size A n f) :
    Calls Try.prog 17 #[.slice A n c] w fun e w' => e = .returned (.tuple #[.int .u16 (if n < 4 then 0 else w2 f 0), .int .u16 (if n < 4 then 0 else w2 f 2), .int .i64 (PortsE n)]) ∧ Below w.heap.size w w' := by
  unfold PortsE
  by_cases c0 : n < 4
  · rw [if_pos c0, if_pos c0, if_pos c0]
    have c0' : (n : Int) < 4 := by omega
    clear c0 hr hf
    go_enter Try.func17, Try.ntmps17
    go_wp2
    exact bodyPost_ret (v := .tuple #[.int .u16 0, .int .u16 0, .int .i64 4]) (by simp [results, Try.results17, go_sem]) rfl ⟨rfl, Below.refl _ _⟩
  · rw [if_neg c0, if_neg c0, if_neg c0]
    have c0' : (4 : Int) ≤ (n : Int) := by omega
    rcases hr with h0 | ⟨b, off, rfl, hbb, hcell⟩
    · omega
    have HC := Lib.hid hcell
    have HF := Lib.hid hf
    clear hcell hf
    have HRD := Lib.hid fun W => reader_any (.slice (some ⟨b, off, none⟩) n c) _ n c rfl W
    unfold wdV at HRD
    go_enter Try.func17, Try.ntmps17
    go_upto_region 4 with (first
      | (go_at_call 25; refine (HRD.out _).mono ?_; rintro e u3 ⟨rfl, hw3⟩; have HW3 := Lib.hid hw3; clear hw3))
    have HP3 : Hid (u3.cell? ⟨w.heap.size, 0, none⟩ = some (.slice (some ⟨b, off, none⟩) n c)) := by rw [HW3.out]; exact blk_cell (heap_alloc_new _ _) 0
    have HB3 : Hid (Below w.heap.size w u3) := by rw [HW3.out]; exact below_alloc _ _
    clear HW3 HRD
    have hp3 : w.heap.size < u3.heap.size := World.block_lt_of_cell? _ _ HP3.out
    have hb3 : b < u3.heap.size := Nat.lt_of_lt_of_le hbb HB3.out.size
    have HWD : Hid (∀ (k : Nat) (_ : k + 1 < n) (W : World), Below u3.heap.size u3 W → Calls Try.prog 37 #[.int .i64 (k : Int), .pointer (some ⟨w.heap.size, 0, none⟩)] W fun e w' => e = .returned (.int .u16 (w2 f k)) ∧ Below W.heap.size W w') := fun k hk W hW =>
      word_any w.heap.size b off n c k f HF.out hk (by omega) W ((hW.cell (p := ⟨w.heap.size, 0, none⟩) hp3).trans HP3.out) (fun k hk => (hW.cell (p := ⟨b, off + k, none⟩) hb3).trans ((HB3.out.cell (p := ⟨b, off + k, none⟩) hbb).trans (HC.out k hk)))
    have H0 : Hid (∀ (W : World), Below u3.heap.size u3 W → Calls Try.prog 37 #[.int .i64 0, .pointer (some ⟨w.heap.size, 0, none⟩)] W fun e w' => e = .returned (.int .u16 (w2 f 0)) ∧ Below W.heap.size W w') := HWD.out 0 (by omega)
    have H2 : Hid (∀ (W : World), Below u3.heap.size u3 W → Calls Try.prog 37 #[.int .i64 2, .pointer (some ⟨w.heap.size, 0, none⟩)] W fun e w' => e = .returned (.int .u16 (w2 f 2)) ∧ Below W.heap.size W w') := HWD.out 2 (by omega)
    clear HWD
    go_wp2_with fail
    go_at_call 37
    refine (H0.out _ (Below.refl _ _)).mono ?_
    rintro e u4 ⟨rfl, hb4⟩
    go_wp2_with fail
    go_at_call 37
    refine (H2.out _ hb4).mono ?_
    rintro e u5 ⟨rfl, hb5⟩
    go_wp2_with fail
    refine bodyPost_ret (v := .tuple #[.int .u16 (w2 f 0), .int .u16 (w2 f 2), .int .i64 0]) (by simp [results, Try.results17, go_sem]) rfl ⟨rfl, ?_⟩
    exact (HB3.out.trans (hb4.mono HB3.out.size)).trans (hb5.mono (Nat.le_trans HB3.out.size hb4.size))
end Go.Proofs.Ytfaelihfjmaekaa
