/- SumParts. -/
import Derived.Test.YtcdkefgmlhkdcaaOf
namespace Go.Proofs.Ytcdkefgmlhkdcaa
open Go.RowKit


set_option maxHeartbeats 400000 in
theorem parts_long (s : Int) (o : Bool) (A : Option Addr) (n c : Nat) (w : World) (hn : 4000 < n) (hn' : n ≤ 9223372036854775807) :
    Calls Try.prog 3 #[.agg #[.int .u16 s, .bool o], .slice A n c] w fun e w' => e = .returned (.bool true) ∧ Below w.heap.size w w' := by
  go_enter Try.func3, Try.ntmps3
  go_wp2_with (go_at_call 7; refine (known_any _).mono ?_; rintro e w1 ⟨rfl, hb1⟩)
  go_ret
  exact ⟨rfl, ((Below.refl _ _).alloc (Nat.le_refl _) _).trans (hb1.mono (by simp))⟩

set_option maxHeartbeats 400000 in
theorem parts_short (s : Int) (o : Bool) (A : Option Addr) (n c : Nat) (f : Nat → Int) (hf : Byt f) (hn : n ≤ 4000) (hcap : n ≤ c) (w : World) (ha : 0 ≤ s) (ha' : s ≤ 65535) (hr : Rd w w.heap.size A n f) :
    Calls Try.prog 3 #[.agg #[.int .u16 s, .bool o], .slice A n c] w fun e w' => e = .returned (.bool true) ∧ Below w.heap.size w w' := by
  obtain ⟨i0, hi0, hz0, hz1, hz2⟩ := info_parts Try.info5
  have HF := Lib.hid hf
  clear hf
  have HR := Lib.hid hr
  clear hr
  have HI0 := Lib.hid hi0
  have HZ0 := Lib.hid hz0
  have HZ1 := Lib.hid hz1
  have HZ2 := Lib.hid hz2
  clear hi0 hz0 hz1 hz2
  go_enter Try.func3, Try.ntmps3
  go_wp2_with (at_builtin; refine wpList_append_rd rfl (.tmp 10) (.tmp 11) _ rfl w.heap.size 5 i0 Try.underlying25 HI0.out HZ0.out HZ1.out HZ2.out (n := 0) (f := f) rfl (Own.fresh _ _ _ (by simp) (alloc_le _ _) 5 f) rfl (HR.out.keep (below_alloc2 _ _ _)) (by omega) (alloc_le2 _ _ _) ?_; intro A1 c1 w1 hown1 hg1 _)
  have hb1 : Below w.heap.size w w1 := (below_alloc2 _ _ _).grown hg1 (alloc_le2 _ _ _) (by intro k hk; simp [Value.ownBlock] at hk; omega)
  have hp0 : w1.cell? ⟨w.heap.size, 0, none⟩ = some (.int .u16 s) := (World.cell?_of_block (a := ⟨w.heap.size, 0, none⟩) (hg1.block w.heap.size (by simp; omega) (by simp [Value.ownBlock]))).trans (by go_simp)
  have hp1 : w1.cell? ⟨w.heap.size, 1, none⟩ = some (.bool o) := (World.cell?_of_block (a := ⟨w.heap.size, 1, none⟩) (hg1.block w.heap.size (by simp; omega) (by simp [Value.ownBlock]))).trans (by go_simp)
  have HR1 : Hid (Rd w1 w1.heap.size A n f) := (HR.out.keep hb1).more hb1.size
  have hc1 := hown1.cap
  rw [Nat.zero_add] at hc1
  have HI1 : Hid (Rd w1 w1.heap.size A1 n f) := by
    have e := hown1.rd.same (g := f) (by intro k _; simp [cat])
    rw [Nat.zero_add] at e
    exact e
  have hL0 := Stay.cell hp0
  have hL1 := Stay.cell hp1
  have hv1 : ∀ W : Stay w1, (convert 25 9 (.slice A1 n c1)).run Try.prog W.w = .ok (.string (strOfNums (nums n f))) W.w := fun W => run_convert_rd (Stay.rd HI1.out W) 25 5 9 c1 Try.underlying25 Try.underlying5 Try.underlying9
  have hv : ∀ W : Stay w1, (convert 25 9 (.slice A n c)).run Try.prog W.w = .ok (.string (strOfNums (nums n f))) W.w := fun W => run_convert_rd (Stay.rd HR1.out W) 25 5 9 c Try.underlying25 Try.underlying5 Try.underlying9
  clear hown1 hg1 hp0 hp1
  refine wp_region_stay (by kernel_rfl) (by kernel_rfl) ?_
  repeat (go_big_quiet_step (first
    | (go_at_call 8; exact Calls.stay _ (of_any _ _ _ f HF.out (by omega) (by omega) _ (Stay.rd HI1.out _)))
    | (go_at_call 9; exact Calls.stay _ (rof_any _ _ _ f HF.out (by omega) _ (Stay.rd HR1.out _)))
    | (go_at_call 10; exact Calls.stay _ (add_any s o _ _ _ f HF.out (by omega) (by omega) _ ha ha' (Stay.rd HI1.out _)))
    | (go_at_call 11; exact Calls.stay _ (radd_any s o _ _ _ f HF.out (by omega) _ ha ha' (Stay.rd HR1.out _)))
    | (go_at_call 12; exact Calls.stay _ (end_any s o _ ha ha'))
    | (go_at_call 13; exact Calls.stay _ (rend_any s o _ ha ha'))
    | (go_at_call 7; exact Calls.stay _ (known_any _))))
  refine wpQuiet_nil ?_
  intro w' hw'
  obtain ⟨W, rfl⟩ := hw'
  have hb2 := W.below
  go_wp2_with fail
  go_ret
  exact ⟨rfl, below_then hb1 hb2⟩
end Go.Proofs.Ytcdkefgmlhkdcaa
