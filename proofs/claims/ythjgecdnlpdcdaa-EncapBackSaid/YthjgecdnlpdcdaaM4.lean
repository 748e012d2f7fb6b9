import Derived.Test.YthjgecdnlpdcdaaM1
/- The program's Add of nothing, and of one byte behind an odd number. -/
namespace Go.Proofs.Ythjgecdnlpdcdaa
set_option maxRecDepth 100000
open Go.RowKit
set_option maxHeartbeats 400000 in
theorem add_one (s x : Int) (b off c : Nat) (hcap : 1 ≤ c) (w : World) (ha : 0 ≤ s) (ha' : s ≤ 65535) (hx : 0 ≤ x) (hx' : x ≤ 255)
    (hb : b < w.heap.size) (hc0 : w.cell? ⟨b, off, none⟩ = some (.int .u8 x)) :
    Calls Try.prog 34 #[.agg #[.int .u16 s, .bool true], .slice (some ⟨b, off, none⟩) 1 c] w fun e w' => e = .returned (.agg #[.int .u16 (pl s x), .bool false]) ∧ Below w.heap.size w w' := by
  by_cases hc1 : c = 1
  · subst hc1
    go_enter Try.func34, Try.ntmps34
    go_wp2
    have hA := AddW.start w s true (.slice (some ⟨b, off, none⟩) 1 1)
    obtain ⟨wr, hwr⟩ : ∃ wr, wr = ((w.alloc (Obj.cells #[.int .u16 s, .bool true] 84)).alloc (Obj.cells #[.slice (some ⟨b, off, none⟩) 1 1] 26)).alloc (Obj.cells #[.int .u16 0, .bool false] 84) := ⟨_, rfl⟩
    rw [← hwr] at hA ⊢
    clear hwr
    have HA0 := Lib.hid hA
    obtain ⟨h0, h1, h2, h3, h4, g0, g1, g2, g3, g4, hbl⟩ := hA
    have hcx : wr.cell? ⟨b, off, none⟩ = some (.int .u8 x) := (hbl.cell (p := ⟨b, off, none⟩) hb).trans hc0
    have hwx : IntKind.u16.wrap x = x := by simp only [IntKind.wrap_u16]; omega
    go_still_tail 8, (by kernel_rfl)
    still_call ((plus_any s x _ ha ha' hx (by omega)).mono fun _ _ h => ⟨h.1, h.2.symm⟩)
    repeat still_step
    refine wpStill_nil ?_
    clear hwx
    change wpList _ _ _ _ _ wr.drew
    go_wp2
    have HA := Lib.hid (AddW.cut (s' := pl s x) (v' := .slice (some ⟨b, off, none⟩) 0 0) HA0.out)
    clear h0 h1 h2 h3 h4 g0 g1 g2 g3 g4 hbl hcx HA0
    go_loopw [31] (fun i wr => i = .int .i64 0 ∧ AddW w wr (pl s x) true (.slice (some ⟨b, off, none⟩) 0 0)) (fun _ _ => 0)
    case atStart => exact ⟨rfl, HA.out⟩
    case round =>
      obtain ⟨rfl, hw⟩ := hrel
      obtain ⟨h0, h1, h2, h3, h4, g0, g1, g2, g3, g4, hbl⟩ := hw
      go_wp2
      refine bodyPost_ret (v := .agg #[.int .u16 (pl s x), .bool false]) (by simp [results, Try.results34, go_sem, h3, h4]) rfl ⟨rfl, ?_⟩
      exact ((hbl.setCell (by simp) _).setCell (by simp; omega) _).setCell (by simp; omega) _
  · have hc2 : 2 ≤ c := by omega
    clear hcap hc1
    go_enter Try.func34, Try.ntmps34
    go_wp2
    have hA := AddW.start w s true (.slice (some ⟨b, off, none⟩) 1 c)
    obtain ⟨wr, hwr⟩ : ∃ wr, wr = ((w.alloc (Obj.cells #[.int .u16 s, .bool true] 84)).alloc (Obj.cells #[.slice (some ⟨b, off, none⟩) 1 c] 26)).alloc (Obj.cells #[.int .u16 0, .bool false] 84) := ⟨_, rfl⟩
    rw [← hwr] at hA ⊢
    clear hwr
    have HA0 := Lib.hid hA
    obtain ⟨h0, h1, h2, h3, h4, g0, g1, g2, g3, g4, hbl⟩ := hA
    have hcx : wr.cell? ⟨b, off, none⟩ = some (.int .u8 x) := (hbl.cell (p := ⟨b, off, none⟩) hb).trans hc0
    have hwx : IntKind.u16.wrap x = x := by simp only [IntKind.wrap_u16]; omega
    go_still_tail 8, (by kernel_rfl)
    still_call ((plus_any s x _ ha ha' hx (by omega)).mono fun _ _ h => ⟨h.1, h.2.symm⟩)
    repeat still_step
    refine wpStill_nil ?_
    clear hwx
    change wpList _ _ _ _ _ wr.drew
    go_wp2
    have HA := Lib.hid (AddW.cut (s' := pl s x) (v' := .slice (some ⟨b, off + 1, none⟩) 0 (c - 1)) HA0.out)
    clear h0 h1 h2 h3 h4 g0 g1 g2 g3 g4 hbl hcx HA0
    go_loopw [31] (fun i wr => i = .int .i64 0 ∧ AddW w wr (pl s x) true (.slice (some ⟨b, off + 1, none⟩) 0 (c - 1))) (fun _ _ => 0)
    case atStart => exact ⟨rfl, HA.out⟩
    case round =>
      obtain ⟨rfl, hw⟩ := hrel
      obtain ⟨h0, h1, h2, h3, h4, g0, g1, g2, g3, g4, hbl⟩ := hw
      go_wp2
      refine bodyPost_ret (v := .agg #[.int .u16 (pl s x), .bool false]) (by simp [results, Try.results34, go_sem, h3, h4]) rfl ⟨rfl, ?_⟩
      exact ((hbl.setCell (by simp) _).setCell (by simp; omega) _).setCell (by simp; omega) _
set_option maxHeartbeats 400000 in
theorem add_zero (s : Int) (o : Bool) (A : Option Addr) (c : Nat) (w : World) :
    Calls Try.prog 34 #[.agg #[.int .u16 s, .bool o], .slice A 0 c] w fun e w' => e = .returned (.agg #[.int .u16 s, .bool o]) ∧ Below w.heap.size w w' := by
  go_enter Try.func34, Try.ntmps34
  go_wp2
  refine bodyPost_ret (v := .agg #[.int .u16 s, .bool o]) (by simp [results, Try.results34, go_sem]) rfl ⟨rfl, ?_⟩
  exact (((Below.refl _ _).alloc (Nat.le_refl _) _).alloc (by simp) _).alloc (by simp; omega) _
end Go.Proofs.Ythjgecdnlpdcdaa
