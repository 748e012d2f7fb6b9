/- Contracts of Of, the program's and the document's. -/
import Derived.Test.YtfaelihfjmaekaaOf
namespace Go.Proofs.Ytfaelihfjmaekaa
open Go.RowKit

set_option maxHeartbeats 400000 in
theorem of_any (A : Option Addr) (n c : Nat) (f : Nat → Int) (hf : Byt f) (hn : n ≤ 4611686018427387900) (hcap : n ≤ c) (w : World) (hr : Rd w w.heap.size A n f) :
    Calls Try.prog 28 #[.slice A n c] w fun e w' => e = .returned (.int .u16 (ofv f n)) ∧ Below w.heap.size w w' := by
  obtain ⟨hq, hq'⟩ := fld_bd (p := (0, false)) hf ⟨by omega, by omega⟩ n
  have HF := Lib.hid hf
  clear hf
  have HR := Lib.hid hr
  clear hr
  unfold ofv
  have HA := Lib.hid (add_any 0 false A n c f HF.out hn hcap w (by omega) (by omega) HR.out)
  generalize fld f (0, false) n = q at *
  go_enter Try.func28, Try.ntmps28
  go_wp2_with (first
    | (go_at_call 30; refine HA.out.mono ?_; rintro e w1 ⟨rfl, hb1⟩)
    | (go_at_call 29; refine (end_any q.1 q.2 _ hq hq').mono ?_; rintro e w2 ⟨rfl, hb2⟩))
  go_ret
  exact ⟨rfl, hb1.trans (hb2.mono hb1.size)⟩
set_option maxHeartbeats 400000 in
theorem rof_any (A : Option Addr) (n c : Nat) (f : Nat → Int) (hf : Byt f) (hn : n ≤ 4611686018427387900) (w : World) (hr : Rd w w.heap.size A n f) :
    Calls Try.prog 33 #[.slice A n c] w fun e w' => e = .returned (.int .u16 (ofv f n)) ∧ Below w.heap.size w w' := by
  obtain ⟨hq, hq'⟩ := fld_bd (p := (0, false)) hf ⟨by omega, by omega⟩ n
  have HF := Lib.hid hf
  clear hf
  have HR := Lib.hid hr
  clear hr
  unfold ofv
  have HA := Lib.hid (radd_any 0 false A n c f HF.out hn w (by omega) (by omega) HR.out)
  generalize fld f (0, false) n = q at *
  go_enter Try.func33, Try.ntmps33
  go_wp2_with (first
    | (go_at_call 44; refine HA.out.mono ?_; rintro e w1 ⟨rfl, hb1⟩)
    | (go_at_call 43; refine (rend_any q.1 q.2 _ hq hq').mono ?_; rintro e w2 ⟨rfl, hb2⟩))
  go_ret
  exact ⟨rfl, hb1.trans (hb2.mono hb1.size)⟩

end Go.Proofs.Ytfaelihfjmaekaa
