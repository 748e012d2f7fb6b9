/- Stage 13: the landed table: has, made, count, Places, Entries, Marks. -/
import Derived.Test.YthbjkchgbjopfaaLta
namespace Go.Proofs.Ythbjkchgbjopfaa
set_option maxRecDepth 100000
open Go.RowKit Go.Shelf
def hasB (n : Nat) (q : Int) : Bool := decide (0 ≤ q) && decide (q < (n : Int))
theorem thas_0 (w : World) (q : Int) : Calls Try.prog 33 #[.pointer none, .int .i64 q] w (ret (.bool false) w) := by
  go_enter Try.func33, Try.ntmps33
  go_wp2_with fail
  go_ret
  exact ⟨rfl, Below.refl _ _⟩
theorem thas_c (w : World) (p : Nat) (A : Option Addr) (n c : Nat) (h : w.cell? ⟨p, 0, none⟩ = some (.slice A n c)) (q : Int) : Calls Try.prog 33 #[.pointer (some ⟨p, 0, none⟩), .int .i64 q] w (ret (.bool (hasB n q)) w) := by
  by_cases h0 : (0 : Int) ≤ q
  · by_cases h1 : q < (n : Int)
    · have hR : hasB n q = true := by unfold hasB; simp [h0, h1]
      rw [hR]
      clear hR
      go_enter Try.func33, Try.ntmps33
      go_wp2_with fail
      go_ret
      exact ⟨rfl, Below.refl _ _⟩
    · have hR : hasB n q = false := by unfold hasB; simp [h1]
      rw [hR]
      clear hR
      go_enter Try.func33, Try.ntmps33
      go_wp2_with fail
      go_ret
      exact ⟨rfl, Below.refl _ _⟩
  · have hR : hasB n q = false := by unfold hasB; simp [h0]
    rw [hR]
    clear hR
    go_enter Try.func33, Try.ntmps33
    go_wp2_with fail
    go_ret
    exact ⟨rfl, Below.refl _ _⟩
theorem tmade_0 (w : World) : Calls Try.prog 28 #[.pointer none] w (ret (.bool false) w) := by
  go_enter Try.func28, Try.ntmps28
  go_wp2_with (first
    | (go_at_call 33
       refine (thas_0 w 0).mono ?_
       rintro e u1 ⟨rfl, hb⟩
       have HB := Lib.hid hb
       clear hb))
  go_ret
  exact ⟨rfl, HB.out⟩
theorem tmade_c (w : World) (p : Nat) (A : Option Addr) (n c : Nat) (h : w.cell? ⟨p, 0, none⟩ = some (.slice A n c)) : Calls Try.prog 28 #[.pointer (some ⟨p, 0, none⟩)] w (ret (.bool (decide (0 < n))) w) := by
  have HC := Lib.hid (thas_c w p A n c h 0)
  have hR : hasB n 0 = decide (0 < n) := by unfold hasB; simp
  rw [hR] at HC
  clear h hR
  go_enter Try.func28, Try.ntmps28
  go_wp2_with (first
    | (go_at_call 33
       refine HC.out.mono ?_
       rintro e u1 ⟨rfl, hb⟩
       have HB := Lib.hid hb
       clear hb))
  go_ret
  exact ⟨rfl, HB.out⟩
theorem tmade_yes {w : World} {p : Nat} {A : Option Addr} {n c : Nat} (h : w.cell? ⟨p, 0, none⟩ = some (.slice A n c)) (hn : 8 ≤ n) : Calls Try.prog 28 #[.pointer (some ⟨p, 0, none⟩)] w (ret (.bool true) w) := by
  have := tmade_c w p A n c h
  rwa [show decide (0 < n) = true from by simp; omega] at this
theorem tmade_no {w : World} {p : Nat} (h : w.cell? ⟨p, 0, none⟩ = some (.slice none 0 0)) : Calls Try.prog 28 #[.pointer (some ⟨p, 0, none⟩)] w (ret (.bool false) w) := tmade_c w p none 0 0 h
/-- A table that is not there, or was not made. -/
def Unm (pa : Option Addr) (w : World) : Prop := pa = none ∨ ∃ p, pa = some ⟨p, 0, none⟩ ∧ w.cell? ⟨p, 0, none⟩ = some (.slice none 0 0)
theorem tmade_un {pa : Option Addr} {w : World} (h : Unm pa w) : Calls Try.prog 28 #[.pointer pa] w (ret (.bool false) w) := by
  rcases h with rfl | ⟨p, rfl, h⟩
  · exact tmade_0 w
  · exact tmade_no h
theorem thas_un {pa : Option Addr} {w : World} (h : Unm pa w) (q : Int) : Calls Try.prog 33 #[.pointer pa, .int .i64 q] w (ret (.bool false) w) := by
  rcases h with rfl | ⟨p, rfl, h⟩
  · exact thas_0 w q
  · have := thas_c w p none 0 0 h q
    rwa [show hasB 0 q = false from by
      unfold hasB
      by_cases h : (0 : Int) ≤ q
      · rw [show decide (q < ((0 : Nat) : Int)) = false from by simp; omega, Bool.and_false]
      · rw [show decide (0 ≤ q) = false from by simp; omega, Bool.false_and]] at this
theorem tcount_1 {w : World} {p g n c : Nat} {e en mk : Int} {f : Nat → Value} {F : Nat → Prop} (h : PTY w p g n c e en mk f F) : Calls Try.prog 41 #[.pointer (some ⟨p, 0, none⟩), .int .u8 1] w (ret (.int .i64 en) w) := by
  have x0 : w.cell? ⟨p, 0, none⟩ = some (.slice (some ⟨g, 0, none⟩) n c) := blk_cell h.blk 0
  have HM := Lib.hid (tmade_yes x0 h.pos.1)
  have HX := Lib.hid h
  clear x0 h
  go_enter Try.func41, Try.ntmps41
  go_wp2_with (first
    | (go_at_call 28
       refine HM.out.mono ?_
       rintro e u1 ⟨rfl, hb⟩
       have HB := Lib.hid hb
       have x1 : u1.cell? ⟨p, 2, none⟩ = some (.int .i64 en) := blk_cell (HX.out.step hb).blk 2
       clear hb))
  go_ret
  exact ⟨rfl, HB.out⟩
theorem tcountu_1 {pa : Option Addr} {w : World} (h : Unm pa w) : Calls Try.prog 41 #[.pointer pa, .int .u8 1] w (ret (.int .i64 0) w) := by
  have HM := Lib.hid (tmade_un h)
  clear h
  go_enter Try.func41, Try.ntmps41
  go_wp2_with (first
    | (go_at_call 28
       refine HM.out.mono ?_
       rintro e u1 ⟨rfl, hb⟩
       have HB := Lib.hid hb
       clear hb))
  go_ret
  exact ⟨rfl, HB.out⟩
theorem tentries_c {pa : Option Addr} {w : World} {v : Int} (h : Calls Try.prog 41 #[.pointer pa, .int .u8 1] w (ret (.int .i64 v) w)) : Calls Try.prog 22 #[.pointer pa] w (ret (.int .i64 v) w) := by
  have HM := Lib.hid h
  clear h
  go_enter Try.func22, Try.ntmps22
  go_wp2_with (first
    | (go_at_call 41
       refine HM.out.mono ?_
       rintro e u1 ⟨rfl, hb⟩
       have HB := Lib.hid hb
       clear hb))
  go_ret
  exact ⟨rfl, HB.out⟩
theorem tcount_2 {w : World} {p g n c : Nat} {e en mk : Int} {f : Nat → Value} {F : Nat → Prop} (h : PTY w p g n c e en mk f F) : Calls Try.prog 41 #[.pointer (some ⟨p, 0, none⟩), .int .u8 2] w (ret (.int .i64 mk) w) := by
  have x0 : w.cell? ⟨p, 0, none⟩ = some (.slice (some ⟨g, 0, none⟩) n c) := blk_cell h.blk 0
  have HM := Lib.hid (tmade_yes x0 h.pos.1)
  have HX := Lib.hid h
  clear x0 h
  go_enter Try.func41, Try.ntmps41
  go_wp2_with (first
    | (go_at_call 28
       refine HM.out.mono ?_
       rintro e u1 ⟨rfl, hb⟩
       have HB := Lib.hid hb
       have x2 : u1.cell? ⟨p, 3, none⟩ = some (.int .i64 mk) := blk_cell (HX.out.step hb).blk 3
       clear hb))
  go_ret
  exact ⟨rfl, HB.out⟩
theorem tcountu_2 {pa : Option Addr} {w : World} (h : Unm pa w) : Calls Try.prog 41 #[.pointer pa, .int .u8 2] w (ret (.int .i64 0) w) := by
  have HM := Lib.hid (tmade_un h)
  clear h
  go_enter Try.func41, Try.ntmps41
  go_wp2_with (first
    | (go_at_call 28
       refine HM.out.mono ?_
       rintro e u1 ⟨rfl, hb⟩
       have HB := Lib.hid hb
       clear hb))
  go_ret
  exact ⟨rfl, HB.out⟩
theorem tmarks_c {pa : Option Addr} {w : World} {v : Int} (h : Calls Try.prog 41 #[.pointer pa, .int .u8 2] w (ret (.int .i64 v) w)) : Calls Try.prog 25 #[.pointer pa] w (ret (.int .i64 v) w) := by
  have HM := Lib.hid h
  clear h
  go_enter Try.func25, Try.ntmps25
  go_wp2_with (first
    | (go_at_call 41
       refine HM.out.mono ?_
       rintro e u1 ⟨rfl, hb⟩
       have HB := Lib.hid hb
       clear hb))
  go_ret
  exact ⟨rfl, HB.out⟩
theorem tplaces {w : World} {p g n c : Nat} {e en mk : Int} {f : Nat → Value} {F : Nat → Prop} (h : PTY w p g n c e en mk f F) : Calls Try.prog 24 #[.pointer (some ⟨p, 0, none⟩)] w (ret (.int .i64 (n : Int)) w) := by
  have x0 : w.cell? ⟨p, 0, none⟩ = some (.slice (some ⟨g, 0, none⟩) n c) := blk_cell h.blk 0
  have HM := Lib.hid (tmade_yes x0 h.pos.1)
  have HX := Lib.hid h
  clear x0 h
  go_enter Try.func24, Try.ntmps24
  go_wp2_with (first
    | (go_at_call 28
       refine HM.out.mono ?_
       rintro e u1 ⟨rfl, hb⟩
       have HB := Lib.hid hb
       have x0 : u1.cell? ⟨p, 0, none⟩ = some (.slice (some ⟨g, 0, none⟩) n c) := blk_cell (HX.out.step hb).blk 0
       clear hb))
  go_ret
  exact ⟨rfl, HB.out⟩
theorem tplacesu {pa : Option Addr} {w : World} (h : Unm pa w) : Calls Try.prog 24 #[.pointer pa] w (ret (.int .i64 0) w) := by
  have HM := Lib.hid (tmade_un h)
  clear h
  go_enter Try.func24, Try.ntmps24
  go_wp2_with (first
    | (go_at_call 28
       refine HM.out.mono ?_
       rintro e u1 ⟨rfl, hb⟩
       have HB := Lib.hid hb
       clear hb))
  go_ret
  exact ⟨rfl, HB.out⟩
end Go.Proofs.Ythbjkchgbjopfaa
