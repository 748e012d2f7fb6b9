/- The program's row: three parts one behind the other. -/
import Derived.Test.YtfaelihfjmaekaaOf
import Derived.Deep.RegionHeld3
import Derived.Deep.RegionWith
namespace Go.Proofs.Ytfaelihfjmaekaa
open Go.RowKit

/-- The two blocks of row: the result and p. -/
structure RowW (w wr : World) (p : Int × Bool) : Prop where
  c0 : wr.cell? ⟨w.heap.size, 0, none⟩ = some (.int .u16 0)
  c1 : wr.cell? ⟨w.heap.size, 1, none⟩ = some (.bool false)
  c2 : wr.cell? ⟨w.heap.size + 1, 0, none⟩ = some (.int .u16 p.1)
  c3 : wr.cell? ⟨w.heap.size + 1, 1, none⟩ = some (.bool p.2)
  f0 : wr.frozen? ⟨w.heap.size, 0, none⟩ = false
  f1 : wr.frozen? ⟨w.heap.size, 1, none⟩ = false
  f2 : wr.frozen? ⟨w.heap.size + 1, 0, none⟩ = false
  f3 : wr.frozen? ⟨w.heap.size + 1, 1, none⟩ = false
  below : Below w.heap.size w wr
theorem RowW.start (w : World) : RowW w ((w.alloc (Obj.cells #[.int .u16 0, .bool false] 61)).alloc (Obj.cells #[.int .u16 0, .bool false] 61)) (0, false) := by
  constructor
  case below => exact below_alloc2 w _ _
  all_goals go_simp
theorem lt_of_cell {w : World} {b o : Nat} {v : Value} (h : w.cell? ⟨b, o, none⟩ = some v) : b < w.heap.size := World.block_lt_of_cell? w _ h
theorem RowW.next {w wr w' : World} {p q : Int × Bool} (h : RowW w wr p) (hb : Below wr.heap.size wr w') :
    RowW w ((w'.setCell ⟨w.heap.size + 1, 0, none⟩ (.int .u16 q.1)).setCell ⟨w.heap.size + 1, 1, none⟩ (.bool q.2)) q := by
  obtain ⟨h0, h1, h2, h3, g0, g1, g2, g3, hbl⟩ := h
  have l0 := lt_of_cell h0
  have l1 := lt_of_cell h2
  have e0 := (hb.cell (p := ⟨w.heap.size, 0, none⟩) l0).trans h0
  have e1 := (hb.cell (p := ⟨w.heap.size, 1, none⟩) l0).trans h1
  have e2 := (hb.cell (p := ⟨w.heap.size + 1, 0, none⟩) l1).trans h2
  have e3 := (hb.cell (p := ⟨w.heap.size + 1, 1, none⟩) l1).trans h3
  have k0 := (hb.frozen (p := ⟨w.heap.size, 0, none⟩) l0).trans g0
  have k1 := (hb.frozen (p := ⟨w.heap.size, 1, none⟩) l0).trans g1
  have k2 := (hb.frozen (p := ⟨w.heap.size + 1, 0, none⟩) l1).trans g2
  have k3 := (hb.frozen (p := ⟨w.heap.size + 1, 1, none⟩) l1).trans g3
  have hb2 : Below w.heap.size w w' := hbl.trans (hb.mono hbl.size)
  exact ⟨by go_simp, by go_simp, by go_simp, by go_simp, by go_simp, by go_simp, by go_simp, by go_simp, (hb2.setCell (by simp) _).setCell (by simp) _⟩

set_option maxHeartbeats 400000 in
theorem row_any (w : World) (g : Nat) (A0 A1 A2 : Option Addr) (n0 n1 n2 c0 c1 c2 : Nat) (f0 f1 f2 : Nat → Int) (hf0 : Byt f0) (hf1 : Byt f1) (hf2 : Byt f2)
    (hn0 : n0 ≤ 4611686018427387900) (hn1 : n1 ≤ 4611686018427387900) (hn2 : n2 ≤ 4611686018427387900) (hc0 : n0 ≤ c0) (hc1 : n1 ≤ c1) (hc2 : n2 ≤ c2)
    (hg0 : w.cell? ⟨g, 0, none⟩ = some (.slice A0 n0 c0)) (hg1 : w.cell? ⟨g, 1, none⟩ = some (.slice A1 n1 c1)) (hg2 : w.cell? ⟨g, 2, none⟩ = some (.slice A2 n2 c2))
    (hr0 : Rd w w.heap.size A0 n0 f0) (hr1 : Rd w w.heap.size A1 n1 f1) (hr2 : Rd w w.heap.size A2 n2 f2) :
    Calls Try.prog 42 #[.slice (some ⟨g, 0, none⟩) 3 3] w fun e w' =>
      e = .returned (.agg #[.int .u16 (fld f2 (fld f1 (fld f0 (0, false) n0) n1) n2).1, .bool (fld f2 (fld f1 (fld f0 (0, false) n0) n1) n2).2]) ∧ Below w.heap.size w w' := by
  have HG0 := Lib.hid hg0
  have HG1 := Lib.hid hg1
  have HG2 := Lib.hid hg2
  have hlt := lt_of_cell hg0
  have HR0 := Lib.hid hr0
  have HR1 := Lib.hid hr1
  have HR2 := Lib.hid hr2
  have b1 := fld_bd (p := (0, false)) hf0 ⟨by omega, by omega⟩ n0
  have b2 := fld_bd hf1 b1 n1
  have HF0 := Lib.hid hf0
  have HF1 := Lib.hid hf1
  have HF2 := Lib.hid hf2
  clear hg0 hg1 hg2 hr0 hr1 hr2 hf0 hf1 hf2
  obtain ⟨q1, hq1⟩ : ∃ q, q = fld f0 (0, false) n0 := ⟨_, rfl⟩
  obtain ⟨q2, hq2⟩ : ∃ q, q = fld f1 q1 n1 := ⟨_, rfl⟩
  obtain ⟨q3, hq3⟩ : ∃ q, q = fld f2 q2 n2 := ⟨_, rfl⟩
  rw [← hq1, ← hq2, ← hq3]
  rw [← hq1] at b1 b2
  rw [← hq2] at b2
  have HQ1 := Lib.hid hq1
  have HQ2 := Lib.hid hq2
  have HQ3 := Lib.hid hq3
  clear hq1 hq2 hq3
  obtain ⟨b11, b12⟩ := b1
  obtain ⟨b21, b22⟩ := b2
  go_enter Try.func42, Try.ntmps42
  go_wp2
  go_loopw [8] (fun i wr => ∃ k : Nat, k ≤ 3 ∧ i = .int .i64 k ∧ RowW w wr (match k with | 0 => (0, false) | 1 => q1 | 2 => q2 | _ => q3)) (fun i _ => 3 - (intOf i).toNat)
  case atStart => exact ⟨0, by omega, rfl, RowW.start w⟩
  case round =>
    obtain ⟨k, hk, rfl, hw⟩ := hrel
    have HW := Lib.hid hw
    obtain rfl | rfl | rfl | rfl : k = 0 ∨ k = 1 ∨ k = 2 ∨ k = 3 := by omega
    · obtain ⟨h0, h1, h2, h3, g0, g1, g2, g3, hbl⟩ := hw
      have hcell := (hbl.cell (p := ⟨g, 0, none⟩) hlt).trans HG0.out
      have HA := Lib.hid (add_any 0 false A0 n0 c0 f0 HF0.out hn0 hc0 wr (by omega) (by omega) ((HR0.out.keep hbl).more hbl.size))
      rw [← HQ1.out] at HA
      go_wp2_with (go_at_call 30; refine HA.out.mono ?_; rintro e w5 ⟨rfl, hb5⟩; have HN := Lib.hid (RowW.next (q := q1) HW.out hb5); have l1 := lt_of_cell h2; have e2 := (hb5.cell (p := ⟨w.heap.size + 1, 0, none⟩) l1).trans h2; have e3 := (hb5.cell (p := ⟨w.heap.size + 1, 1, none⟩) l1).trans h3; have k2 := (hb5.frozen (p := ⟨w.heap.size + 1, 0, none⟩) l1).trans g2; have k3 := (hb5.frozen (p := ⟨w.heap.size + 1, 1, none⟩) l1).trans g3)
      go_roundw
      case rel => exact ⟨1, by omega, rfl, HN.out⟩
      case measure => simp [intOf]
    · obtain ⟨h0, h1, h2, h3, g0, g1, g2, g3, hbl⟩ := hw
      have hcell := (hbl.cell (p := ⟨g, 1, none⟩) hlt).trans HG1.out
      have HA := Lib.hid (add_any q1.1 q1.2 A1 n1 c1 f1 HF1.out hn1 hc1 wr b11 b12 ((HR1.out.keep hbl).more hbl.size))
      rw [← HQ2.out] at HA
      go_wp2_with (go_at_call 30; refine HA.out.mono ?_; rintro e w5 ⟨rfl, hb5⟩; have HN := Lib.hid (RowW.next (q := q2) HW.out hb5); have l1 := lt_of_cell h2; have e2 := (hb5.cell (p := ⟨w.heap.size + 1, 0, none⟩) l1).trans h2; have e3 := (hb5.cell (p := ⟨w.heap.size + 1, 1, none⟩) l1).trans h3; have k2 := (hb5.frozen (p := ⟨w.heap.size + 1, 0, none⟩) l1).trans g2; have k3 := (hb5.frozen (p := ⟨w.heap.size + 1, 1, none⟩) l1).trans g3)
      go_roundw
      case rel => exact ⟨2, by omega, rfl, HN.out⟩
      case measure => simp [intOf]
    · obtain ⟨h0, h1, h2, h3, g0, g1, g2, g3, hbl⟩ := hw
      have hcell := (hbl.cell (p := ⟨g, 2, none⟩) hlt).trans HG2.out
      have HA := Lib.hid (add_any q2.1 q2.2 A2 n2 c2 f2 HF2.out hn2 hc2 wr b21 b22 ((HR2.out.keep hbl).more hbl.size))
      rw [← HQ3.out] at HA
      go_wp2_with (go_at_call 30; refine HA.out.mono ?_; rintro e w5 ⟨rfl, hb5⟩; have HN := Lib.hid (RowW.next (q := q3) HW.out hb5); have l1 := lt_of_cell h2; have e2 := (hb5.cell (p := ⟨w.heap.size + 1, 0, none⟩) l1).trans h2; have e3 := (hb5.cell (p := ⟨w.heap.size + 1, 1, none⟩) l1).trans h3; have k2 := (hb5.frozen (p := ⟨w.heap.size + 1, 0, none⟩) l1).trans g2; have k3 := (hb5.frozen (p := ⟨w.heap.size + 1, 1, none⟩) l1).trans g3)
      go_roundw
      case rel => exact ⟨3, by omega, rfl, HN.out⟩
      case measure => simp [intOf]
    · obtain ⟨h0, h1, h2, h3, g0, g1, g2, g3, hbl⟩ := hw
      go_wp2
      refine bodyPost_ret (v := .agg #[.int .u16 q3.1, .bool q3.2]) (by simp [results, Try.results42, go_sem, h0, h1]) rfl ⟨rfl, ?_⟩
      exact (hbl.setCell (by simp) _).setCell (by simp) _
end Go.Proofs.Ytfaelihfjmaekaa
