import Derived.Test.YtlchegibfopglaaK1
import Derived.Test.YtlchegibfopglaaK0
import Derived.Test.YtlchegibfopglaaK2
import Derived.Test.YtlchegibfopglaaK3
import Derived.Deep.RegionHeld3
import Derived.Deep.RegionWith
/- The program's Add of nothing, and of one byte behind an odd number. -/
namespace Go.Proofs.Ytlchegibfopglaa
set_option maxRecDepth 100000
open Go.RowKit
set_option maxHeartbeats 400000 in
theorem add_one (s x : Int) (b off c : Nat) (hcap : 1 ≤ c) (w : World) (ha : 0 ≤ s) (ha' : s ≤ 65535) (hx : 0 ≤ x) (hx' : x ≤ 255)
    (hb : b < w.heap.size) (hc0 : w.cell? ⟨b, off, none⟩ = some (.int .u8 x)) :
    Calls Try.prog 74 #[.agg #[.int .u16 s, .bool true], .slice (some ⟨b, off, none⟩) 1 c] w fun e w' => e = .returned (.agg #[.int .u16 (pl s x), .bool false]) ∧ Below w.heap.size w w' := by
  by_cases hc1 : c = 1
  · subst hc1
    go_enter Try.func74, Try.ntmps74
    go_wp2
    have hA := AddW.start w s true (.slice (some ⟨b, off, none⟩) 1 1)
    obtain ⟨wr, hwr⟩ : ∃ wr, wr = ((w.alloc (Obj.cells #[.int .u16 s, .bool true] 101)).alloc (Obj.cells #[.slice (some ⟨b, off, none⟩) 1 1] 22)).alloc (Obj.cells #[.int .u16 0, .bool false] 101) := ⟨_, rfl⟩
    rw [← hwr] at hA ⊢
    clear hwr
    have HA0 := Lib.hid hA
    obtain ⟨h0, h1, h2, h3, h4, g0, g1, g2, g3, g4, hbl⟩ := hA
    have hcx : wr.cell? ⟨b, off, none⟩ = some (.int .u8 x) := (hbl.cell (p := ⟨b, off, none⟩) hb).trans hc0
    have hwx : IntKind.u16.wrap x = x := by simp only [IntKind.wrap_u16]; omega
    go_still_tail 8, (by kernel_rfl)
    still_call ((plus_any s x _ ha ha' hx (by omega)).mono fun _ _ h => ⟨h.1, h.2.symm⟩)
    repeat still_step
    refine wpStill_nil ?_
    clear hwx
    change wpList _ _ _ _ _ wr.drew
    go_wp2
    have HA := Lib.hid (AddW.cut (s' := pl s x) (v' := .slice (some ⟨b, off, none⟩) 0 0) HA0.out)
    clear h0 h1 h2 h3 h4 g0 g1 g2 g3 g4 hbl hcx HA0
    go_loopw [31] (fun i wr => i = .int .i64 0 ∧ AddW w wr (pl s x) true (.slice (some ⟨b, off, none⟩) 0 0)) (fun _ _ => 0)
    case atStart => exact ⟨rfl, HA.out⟩
    case round =>
      obtain ⟨rfl, hw⟩ := hrel
      obtain ⟨h0, h1, h2, h3, h4, g0, g1, g2, g3, g4, hbl⟩ := hw
      go_wp2
      refine bodyPost_ret (v := .agg #[.int .u16 (pl s x), .bool false]) (by simp [results, Try.results74, go_sem, h3, h4]) rfl ⟨rfl, ?_⟩
      exact ((hbl.setCell (by simp) _).setCell (by simp; omega) _).setCell (by simp; omega) _
  · have hc2 : 2 ≤ c := by omega
    clear hcap hc1
    go_enter Try.func74, Try.ntmps74
    go_wp2
    have hA := AddW.start w s true (.slice (some ⟨b, off, none⟩) 1 c)
    obtain ⟨wr, hwr⟩ : ∃ wr, wr = ((w.alloc (Obj.cells #[.int .u16 s, .bool true] 101)).alloc (Obj.cells #[.slice (some ⟨b, off, none⟩) 1 c] 22)).alloc (Obj.cells #[.int .u16 0, .bool false] 101) := ⟨_, rfl⟩
    rw [← hwr] at hA ⊢
    clear hwr
    have HA0 := Lib.hid hA
    obtain ⟨h0, h1, h2, h3, h4, g0, g1, g2, g3, g4, hbl⟩ := hA
    have hcx : wr.cell? ⟨b, off, none⟩ = some (.int .u8 x) := (hbl.cell (p := ⟨b, off, none⟩) hb).trans hc0
    have hwx : IntKind.u16.wrap x = x := by simp only [IntKind.wrap_u16]; omega
    go_still_tail 8, (by kernel_rfl)
    still_call ((plus_any s x _ ha ha' hx (by omega)).mono fun _ _ h => ⟨h.1, h.2.symm⟩)
    repeat still_step
    refine wpStill_nil ?_
    clear hwx
    change wpList _ _ _ _ _ wr.drew
    go_wp2
    have HA := Lib.hid (AddW.cut (s' := pl s x) (v' := .slice (some ⟨b, off + 1, none⟩) 0 (c - 1)) HA0.out)
    clear h0 h1 h2 h3 h4 g0 g1 g2 g3 g4 hbl hcx HA0
    go_loopw [31] (fun i wr => i = .int .i64 0 ∧ AddW w wr (pl s x) true (.slice (some ⟨b, off + 1, none⟩) 0 (c - 1))) (fun _ _ => 0)
    case atStart => exact ⟨rfl, HA.out⟩
    case round =>
      obtain ⟨rfl, hw⟩ := hrel
      obtain ⟨h0, h1, h2, h3, h4, g0, g1, g2, g3, g4, hbl⟩ := hw
      go_wp2
      refine bodyPost_ret (v := .agg #[.int .u16 (pl s x), .bool false]) (by simp [results, Try.results74, go_sem, h3, h4]) rfl ⟨rfl, ?_⟩
      exact ((hbl.setCell (by simp) _).setCell (by simp; omega) _).setCell (by simp; omega) _
set_option maxHeartbeats 400000 in
theorem add_zero (s : Int) (o : Bool) (A : Option Addr) (c : Nat) (w : World) :
    Calls Try.prog 74 #[.agg #[.int .u16 s, .bool o], .slice A 0 c] w fun e w' => e = .returned (.agg #[.int .u16 s, .bool o]) ∧ Below w.heap.size w w' := by
  go_enter Try.func74, Try.ntmps74
  go_wp2
  refine bodyPost_ret (v := .agg #[.int .u16 s, .bool o]) (by simp [results, Try.results74, go_sem]) rfl ⟨rfl, ?_⟩
  exact (((Below.refl _ _).alloc (Nat.le_refl _) _).alloc (by simp) _).alloc (by simp; omega) _
end Go.Proofs.Ytlchegibfopglaa
/- The document's Add, byte by byte. -/
namespace Go.Proofs.Ytlchegibfopglaa
set_option maxRecDepth 100000
open Go.RowKit
/-- The two blocks of the document's Add: p and the result. -/
structure RAddW (w wr : World) (s : Int) (o : Bool) : Prop where
  c0 : wr.cell? ⟨w.heap.size, 0, none⟩ = some (.int .u16 s)
  c1 : wr.cell? ⟨w.heap.size, 1, none⟩ = some (.bool o)
  c3 : wr.cell? ⟨w.heap.size + 1, 0, none⟩ = some (.int .u16 0)
  c4 : wr.cell? ⟨w.heap.size + 1, 1, none⟩ = some (.bool false)
  f0 : wr.frozen? ⟨w.heap.size, 0, none⟩ = false
  f1 : wr.frozen? ⟨w.heap.size, 1, none⟩ = false
  f3 : wr.frozen? ⟨w.heap.size + 1, 0, none⟩ = false
  f4 : wr.frozen? ⟨w.heap.size + 1, 1, none⟩ = false
  below : Below w.heap.size w wr
theorem RAddW.start (w : World) (s : Int) (o : Bool) : RAddW w ((w.alloc (Obj.cells #[.int .u16 s, .bool o] 101)).alloc (Obj.cells #[.int .u16 0, .bool false] 101)) s o := by
  constructor
  case below => exact ((Below.refl _ _).alloc (Nat.le_refl _) _).alloc (by simp) _
  all_goals go_simp
theorem RAddW.sum {w wr : World} {s s' : Int} {o o' : Bool} (h : RAddW w wr s o) : RAddW w ((wr.setCell ⟨w.heap.size, 0, none⟩ (.int .u16 s')).setCell ⟨w.heap.size, 1, none⟩ (.bool o')) s' o' := by
  obtain ⟨h0, h1, h3, h4, g0, g1, g3, g4, hb⟩ := h
  exact ⟨by go_simp, by go_simp, by go_simp, by go_simp, by go_simp, by go_simp, by go_simp, by go_simp, (hb.setCell (Nat.le_refl _) _).setCell (Nat.le_refl _) _⟩
set_option maxHeartbeats 400000 in
theorem radd_some (s : Int) (o : Bool) (b off n c : Nat) (f : Nat → Int) (hf : Byt f) (hn' : n ≤ 4611686018427387904) (w : World) (ha : 0 ≤ s) (ha' : s ≤ 65535)
    (hb : b < w.heap.size) (hc : ∀ k, k < n → w.cell? ⟨b, off + k, none⟩ = some (.int .u8 (f k))) :
    Calls Try.prog 51 #[.agg #[.int .u16 s, .bool o], .slice (some ⟨b, off, none⟩) n c] w fun e w' => e = .returned (.agg #[.int .u16 (fld f (s, o) n).1, .bool (fld f (s, o) n).2]) ∧ Below w.heap.size w w' := by
  have HC := Lib.hid hc
  clear hc
  have HF := Lib.hid hf
  clear hf
  go_enter Try.func51, Try.ntmps51
  go_wp2
  go_loopw [5] (fun i wr => ∃ k : Nat, k ≤ n ∧ i = .int .i64 k ∧ RAddW w wr (fld f (s, o) k).1 (fld f (s, o) k).2) (fun i _ => n - (intOf i).toNat)
  case atStart => exact ⟨0, by omega, rfl, RAddW.start w s o⟩
  case round =>
    obtain ⟨k, hk, rfl, hw⟩ := hrel
    have HW := Lib.hid hw
    obtain ⟨h0, h1, h3, h4, g0, g1, g3, g4, hbl⟩ := hw
    by_cases hlt : k < n
    · obtain ⟨hx, hx'⟩ := HF.out k
      obtain ⟨hq, hq'⟩ := fld_bd (p := (s, o)) HF.out ⟨ha, ha'⟩ k
      have hcx : wr.cell? ⟨b, off + k, none⟩ = some (.int .u8 (f k)) := (hbl.cell (p := ⟨b, off + k, none⟩) hb).trans (HC.out _ (by omega))
      have HS : Hid (fld f (s, o) (k + 1) = stp (fld f (s, o) k) (f k)) := rfl
      generalize fld f (s, o) k = q at *
      generalize f k = x at *
      obtain ⟨q, fl⟩ := q
      cases fl
      · go_wp2_with (go_at_call 66; refine (rplus_any q (x * 256) _ hq hq' (by omega) (by omega)).mono ?_; rintro e w' ⟨rfl, rfl⟩)
        go_roundw
        case rel =>
          refine ⟨k + 1, by omega, by go_num, ?_⟩
          rw [HS.out]
          exact HW.out.sum
        case measure => simp [intOf]; omega
      · go_wp2_with (go_at_call 66; refine (rplus_any q x _ hq hq' (by omega) (by omega)).mono ?_; rintro e w' ⟨rfl, rfl⟩)
        go_roundw
        case rel =>
          refine ⟨k + 1, by omega, by go_num, ?_⟩
          rw [HS.out]
          exact HW.out.sum
        case measure => simp [intOf]; omega
    · have hk2 : k = n := by omega
      subst hk2
      clear hk hlt
      go_wp2
      refine bodyPost_ret (v := .agg #[.int .u16 (fld f (s, o) k).1, .bool (fld f (s, o) k).2]) (by simp [results, Try.results51, go_sem, h3, h4]) rfl ⟨rfl, ?_⟩
      exact (hbl.setCell (by simp) _).setCell (by simp) _
set_option maxHeartbeats 400000 in
theorem radd_zero (s : Int) (o : Bool) (A : Option Addr) (c : Nat) (w : World) :
    Calls Try.prog 51 #[.agg #[.int .u16 s, .bool o], .slice A 0 c] w fun e w' => e = .returned (.agg #[.int .u16 s, .bool o]) ∧ Below w.heap.size w w' := by
  go_enter Try.func51, Try.ntmps51
  go_wp2
  go_loopw [5] (fun i wr => i = .int .i64 0 ∧ RAddW w wr s o) (fun _ _ => 0)
  case atStart => exact ⟨rfl, RAddW.start w s o⟩
  case round =>
    obtain ⟨rfl, hw⟩ := hrel
    obtain ⟨h0, h1, h3, h4, g0, g1, g3, g4, hbl⟩ := hw
    go_wp2
    refine bodyPost_ret (v := .agg #[.int .u16 s, .bool o]) (by simp [results, Try.results51, go_sem, h3, h4]) rfl ⟨rfl, ?_⟩
    exact (hbl.setCell (by simp) _).setCell (by simp) _
end Go.Proofs.Ytlchegibfopglaa
/- Contracts of Of and of the page's examples. -/
namespace Go.Proofs.Ytlchegibfopglaa
set_option maxRecDepth 100000
open Go.RowKit
theorem add_any (s : Int) (o : Bool) (A : Option Addr) (n c : Nat) (f : Nat → Int) (hf : Byt f) (hn : n ≤ 4611686018427387900) (hcap : n ≤ c) (w : World) (ha : 0 ≤ s) (ha' : s ≤ 65535) (hr : Rd w w.heap.size A n f) :
    Calls Try.prog 74 #[.agg #[.int .u16 s, .bool o], .slice A n c] w fun e w' => e = .returned (.agg #[.int .u16 (fld f (s, o) n).1, .bool (fld f (s, o) n).2]) ∧ Below w.heap.size w w' := by
  rcases hr with rfl | ⟨b, off, rfl, hb, hc⟩
  · exact add_zero s o A c w
  · rcases Nat.eq_zero_or_pos n with rfl | h0
    · exact add_zero s o _ c w
    · cases o
      · exact add_even s b off n c f hf h0 (by omega) w ha ha' hb hc
      · rcases Nat.lt_or_ge 1 n with h1 | h1
        · obtain ⟨m, rfl⟩ : ∃ m, n = m + 1 := ⟨n - 1, by omega⟩
          exact add_odd s b off m c f hf (by omega) hcap (by omega) w ha ha' hb hc
        · obtain rfl : n = 1 := by omega
          exact add_one s (f 0) b off c hcap w ha ha' (hf 0).1 (hf 0).2 hb (hc 0 (by omega))
theorem radd_any (s : Int) (o : Bool) (A : Option Addr) (n c : Nat) (f : Nat → Int) (hf : Byt f) (hn : n ≤ 4611686018427387900) (w : World) (ha : 0 ≤ s) (ha' : s ≤ 65535) (hr : Rd w w.heap.size A n f) :
    Calls Try.prog 51 #[.agg #[.int .u16 s, .bool o], .slice A n c] w fun e w' => e = .returned (.agg #[.int .u16 (fld f (s, o) n).1, .bool (fld f (s, o) n).2]) ∧ Below w.heap.size w w' := by
  rcases hr with rfl | ⟨b, off, rfl, hb, hc⟩
  · exact radd_zero s o A c w
  · exact radd_some s o b off n c f hf (by omega) w ha ha' hb hc
/-- The checksum of n bytes. -/
def ofv (f : Nat → Int) (n : Nat) : Int := 65535 - (fld f (0, false) n).1
theorem ofv_bd {f : Nat → Int} (hf : Byt f) (n : Nat) : 0 ≤ ofv f n ∧ ofv f n ≤ 65535 := by
  have := fld_bd (p := (0, false)) hf ⟨by omega, by omega⟩ n
  unfold ofv; omega
end Go.Proofs.Ytlchegibfopglaa
/- The program's row: three parts one behind the other. -/
namespace Go.Proofs.Ytlchegibfopglaa
set_option maxRecDepth 100000
open Go.RowKit
/-- The two blocks of row: the result and p. -/
structure RowW (w wr : World) (p : Int × Bool) : Prop where
  c0 : wr.cell? ⟨w.heap.size, 0, none⟩ = some (.int .u16 0)
  c1 : wr.cell? ⟨w.heap.size, 1, none⟩ = some (.bool false)
  c2 : wr.cell? ⟨w.heap.size + 1, 0, none⟩ = some (.int .u16 p.1)
  c3 : wr.cell? ⟨w.heap.size + 1, 1, none⟩ = some (.bool p.2)
  f0 : wr.frozen? ⟨w.heap.size, 0, none⟩ = false
  f1 : wr.frozen? ⟨w.heap.size, 1, none⟩ = false
  f2 : wr.frozen? ⟨w.heap.size + 1, 0, none⟩ = false
  f3 : wr.frozen? ⟨w.heap.size + 1, 1, none⟩ = false
  below : Below w.heap.size w wr
theorem RowW.start (w : World) : RowW w ((w.alloc (Obj.cells #[.int .u16 0, .bool false] 101)).alloc (Obj.cells #[.int .u16 0, .bool false] 101)) (0, false) := by
  constructor
  case below => exact below_alloc2 w _ _
  all_goals go_simp
theorem lt_of_cell {w : World} {b o : Nat} {v : Value} (h : w.cell? ⟨b, o, none⟩ = some v) : b < w.heap.size := World.block_lt_of_cell? w _ h
theorem RowW.next {w wr w' : World} {p q : Int × Bool} (h : RowW w wr p) (hb : Below wr.heap.size wr w') :
    RowW w ((w'.setCell ⟨w.heap.size + 1, 0, none⟩ (.int .u16 q.1)).setCell ⟨w.heap.size + 1, 1, none⟩ (.bool q.2)) q := by
  obtain ⟨h0, h1, h2, h3, g0, g1, g2, g3, hbl⟩ := h
  have l0 := lt_of_cell h0
  have l1 := lt_of_cell h2
  have e0 := (hb.cell (p := ⟨w.heap.size, 0, none⟩) l0).trans h0
  have e1 := (hb.cell (p := ⟨w.heap.size, 1, none⟩) l0).trans h1
  have e2 := (hb.cell (p := ⟨w.heap.size + 1, 0, none⟩) l1).trans h2
  have e3 := (hb.cell (p := ⟨w.heap.size + 1, 1, none⟩) l1).trans h3
  have k0 := (hb.frozen (p := ⟨w.heap.size, 0, none⟩) l0).trans g0
  have k1 := (hb.frozen (p := ⟨w.heap.size, 1, none⟩) l0).trans g1
  have k2 := (hb.frozen (p := ⟨w.heap.size + 1, 0, none⟩) l1).trans g2
  have k3 := (hb.frozen (p := ⟨w.heap.size + 1, 1, none⟩) l1).trans g3
  have hb2 : Below w.heap.size w w' := hbl.trans (hb.mono hbl.size)
  exact ⟨by go_simp, by go_simp, by go_simp, by go_simp, by go_simp, by go_simp, by go_simp, by go_simp, (hb2.setCell (by simp) _).setCell (by simp) _⟩
set_option maxHeartbeats 400000 in
theorem row_any (w : World) (g : Nat) (A0 A1 A2 : Option Addr) (n0 n1 n2 c0 c1 c2 : Nat) (f0 f1 f2 : Nat → Int) (hf0 : Byt f0) (hf1 : Byt f1) (hf2 : Byt f2)
    (hn0 : n0 ≤ 4611686018427387900) (hn1 : n1 ≤ 4611686018427387900) (hn2 : n2 ≤ 4611686018427387900) (hc0 : n0 ≤ c0) (hc1 : n1 ≤ c1) (hc2 : n2 ≤ c2)
    (hg0 : w.cell? ⟨g, 0, none⟩ = some (.slice A0 n0 c0)) (hg1 : w.cell? ⟨g, 1, none⟩ = some (.slice A1 n1 c1)) (hg2 : w.cell? ⟨g, 2, none⟩ = some (.slice A2 n2 c2))
    (hr0 : Rd w w.heap.size A0 n0 f0) (hr1 : Rd w w.heap.size A1 n1 f1) (hr2 : Rd w w.heap.size A2 n2 f2) :
    Calls Try.prog 83 #[.slice (some ⟨g, 0, none⟩) 3 3] w fun e w' =>
      e = .returned (.agg #[.int .u16 (fld f2 (fld f1 (fld f0 (0, false) n0) n1) n2).1, .bool (fld f2 (fld f1 (fld f0 (0, false) n0) n1) n2).2]) ∧ Below w.heap.size w w' := by
  have HG0 := Lib.hid hg0
  have HG1 := Lib.hid hg1
  have HG2 := Lib.hid hg2
  have hlt := lt_of_cell hg0
  have HR0 := Lib.hid hr0
  have HR1 := Lib.hid hr1
  have HR2 := Lib.hid hr2
  have b1 := fld_bd (p := (0, false)) hf0 ⟨by omega, by omega⟩ n0
  have b2 := fld_bd hf1 b1 n1
  have HF0 := Lib.hid hf0
  have HF1 := Lib.hid hf1
  have HF2 := Lib.hid hf2
  clear hg0 hg1 hg2 hr0 hr1 hr2 hf0 hf1 hf2
  obtain ⟨q1, hq1⟩ : ∃ q, q = fld f0 (0, false) n0 := ⟨_, rfl⟩
  obtain ⟨q2, hq2⟩ : ∃ q, q = fld f1 q1 n1 := ⟨_, rfl⟩
  obtain ⟨q3, hq3⟩ : ∃ q, q = fld f2 q2 n2 := ⟨_, rfl⟩
  rw [← hq1, ← hq2, ← hq3]
  rw [← hq1] at b1 b2
  rw [← hq2] at b2
  have HQ1 := Lib.hid hq1
  have HQ2 := Lib.hid hq2
  have HQ3 := Lib.hid hq3
  clear hq1 hq2 hq3
  obtain ⟨b11, b12⟩ := b1
  obtain ⟨b21, b22⟩ := b2
  go_enter Try.func83, Try.ntmps83
  go_wp2
  go_loopw [8] (fun i wr => ∃ k : Nat, k ≤ 3 ∧ i = .int .i64 k ∧ RowW w wr (match k with | 0 => (0, false) | 1 => q1 | 2 => q2 | _ => q3)) (fun i _ => 3 - (intOf i).toNat)
  case atStart => exact ⟨0, by omega, rfl, RowW.start w⟩
  case round =>
    obtain ⟨k, hk, rfl, hw⟩ := hrel
    have HW := Lib.hid hw
    obtain rfl | rfl | rfl | rfl : k = 0 ∨ k = 1 ∨ k = 2 ∨ k = 3 := by omega
    · obtain ⟨h0, h1, h2, h3, g0, g1, g2, g3, hbl⟩ := hw
      have hcell := (hbl.cell (p := ⟨g, 0, none⟩) hlt).trans HG0.out
      have HA := Lib.hid (add_any 0 false A0 n0 c0 f0 HF0.out hn0 hc0 wr (by omega) (by omega) ((HR0.out.keep hbl).more hbl.size))
      rw [← HQ1.out] at HA
      go_wp2_with (go_at_call 74; refine HA.out.mono ?_; rintro e w5 ⟨rfl, hb5⟩; have HN := Lib.hid (RowW.next (q := q1) HW.out hb5); have l1 := lt_of_cell h2; have e2 := (hb5.cell (p := ⟨w.heap.size + 1, 0, none⟩) l1).trans h2; have e3 := (hb5.cell (p := ⟨w.heap.size + 1, 1, none⟩) l1).trans h3; have k2 := (hb5.frozen (p := ⟨w.heap.size + 1, 0, none⟩) l1).trans g2; have k3 := (hb5.frozen (p := ⟨w.heap.size + 1, 1, none⟩) l1).trans g3)
      go_roundw
      case rel => exact ⟨1, by omega, rfl, HN.out⟩
      case measure => simp [intOf]
    · obtain ⟨h0, h1, h2, h3, g0, g1, g2, g3, hbl⟩ := hw
      have hcell := (hbl.cell (p := ⟨g, 1, none⟩) hlt).trans HG1.out
      have HA := Lib.hid (add_any q1.1 q1.2 A1 n1 c1 f1 HF1.out hn1 hc1 wr b11 b12 ((HR1.out.keep hbl).more hbl.size))
      rw [← HQ2.out] at HA
      go_wp2_with (go_at_call 74; refine HA.out.mono ?_; rintro e w5 ⟨rfl, hb5⟩; have HN := Lib.hid (RowW.next (q := q2) HW.out hb5); have l1 := lt_of_cell h2; have e2 := (hb5.cell (p := ⟨w.heap.size + 1, 0, none⟩) l1).trans h2; have e3 := (hb5.cell (p := ⟨w.heap.size + 1, 1, none⟩) l1).trans h3; have k2 := (hb5.frozen (p := ⟨w.heap.size + 1, 0, none⟩) l1).trans g2; have k3 := (hb5.frozen (p := ⟨w.heap.size + 1, 1, none⟩) l1).trans g3)
      go_roundw
      case rel => exact ⟨2, by omega, rfl, HN.out⟩
      case measure => simp [intOf]
    · obtain ⟨h0, h1, h2, h3, g0, g1, g2, g3, hbl⟩ := hw
      have hcell := (hbl.cell (p := ⟨g, 2, none⟩) hlt).trans HG2.out
      have HA := Lib.hid (add_any q2.1 q2.2 A2 n2 c2 f2 HF2.out hn2 hc2 wr b21 b22 ((HR2.out.keep hbl).more hbl.size))
      rw [← HQ3.out] at HA
      go_wp2_with (go_at_call 74; refine HA.out.mono ?_; rintro e w5 ⟨rfl, hb5⟩; have HN := Lib.hid (RowW.next (q := q3) HW.out hb5); have l1 := lt_of_cell h2; have e2 := (hb5.cell (p := ⟨w.heap.size + 1, 0, none⟩) l1).trans h2; have e3 := (hb5.cell (p := ⟨w.heap.size + 1, 1, none⟩) l1).trans h3; have k2 := (hb5.frozen (p := ⟨w.heap.size + 1, 0, none⟩) l1).trans g2; have k3 := (hb5.frozen (p := ⟨w.heap.size + 1, 1, none⟩) l1).trans g3)
      go_roundw
      case rel => exact ⟨3, by omega, rfl, HN.out⟩
      case measure => simp [intOf]
    · obtain ⟨h0, h1, h2, h3, g0, g1, g2, g3, hbl⟩ := hw
      go_wp2
      refine bodyPost_ret (v := .agg #[.int .u16 q3.1, .bool q3.2]) (by simp [results, Try.results83, go_sem, h0, h1]) rfl ⟨rfl, ?_⟩
      exact (hbl.setCell (by simp) _).setCell (by simp) _
end Go.Proofs.Ytlchegibfopglaa
/- The document's number, as bytes. -/
namespace Go.Proofs.Ytlchegibfopglaa
set_option maxRecDepth 100000
open Go.RowKit
/-- The bytes of a number, the highest one first, of 2 and of 4. -/
def num2 (x : Int) (k : Nat) : Int := match k with
  | 0 => x / 256 % 256 | 1 => x % 256 | _ => 0
def num4 (x : Int) (k : Nat) : Int := match k with
  | 0 => x / 256 / 256 / 256 % 256 | 1 => x / 256 / 256 % 256 | 2 => x / 256 % 256 | 3 => x % 256 | _ => 0
theorem num2_byt (x : Int) : Byt (num2 x) := fun k => by unfold num2; split <;> omega
theorem num4_byt (x : Int) : Byt (num4 x) := fun k => by unfold num4; split <;> omega
theorem cell_in {w : World} {g : Nat} {cs : Array Value} {t : TypeId} (h : w.heap[g]? = some (.cells cs t (0, 0))) (i : Nat) : w.cell? ⟨g, i, none⟩ = cs[i]? := cell_of_row w g i cs t (0, 0) h
theorem free_in {w : World} {g : Nat} {cs : Array Value} {t : TypeId} (h : w.heap[g]? = some (.cells cs t (0, 0))) (i : Nat) : w.frozen? ⟨g, i, none⟩ = false := by simp [World.frozen?, h]
theorem set_in {w : World} {g : Nat} {cs : Array Value} {t : TypeId} (h : w.heap[g]? = some (.cells cs t (0, 0))) (i : Nat) (v : Value) : (w.setCell ⟨g, i, none⟩ v).heap[g]? = some (.cells (cs.setIfInBounds i v) t (0, 0)) := by
  simp [World.setCell, Array.getElem?_modify, h]
theorem lt_of_heap {w : World} {g : Nat} {o : Obj} (h : w.heap[g]? = some o) : g < w.heap.size := by
  rcases Nat.lt_or_ge g w.heap.size with hlt | hge
  · exact hlt
  · rw [Array.getElem?_eq_none hge] at h; cases h
def nst2 (x : Int) (j : Nat) : Int := match j with
  | 0 => x
  | 1 => x / 256
  | _ => x / 256 / 256
def nout2 (x : Int) (j : Nat) : Array Value := match j with
  | 0 => #[.int .u8 0, .int .u8 0]
  | 1 => #[.int .u8 0, .int .u8 (x % 256)]
  | _ => #[.int .u8 (x / 256 % 256), .int .u8 (x % 256)]
set_option maxHeartbeats 400000 in
theorem num2_any (x : Int) (w : World) (hx : 0 ≤ x) (hx' : x ≤ 9223372036854775807) :
    Calls Try.prog 67 #[.int .i64 x, .int .i64 2] w fun e w' => e = .returned (.slice (some ⟨w.heap.size, 0, none⟩) 2 2) ∧ Below w.heap.size w w' ∧ Rd w' w'.heap.size (some ⟨w.heap.size, 0, none⟩) 2 (num2 x) := by
  have hmk : ∀ w : World, (Instr.makeSlice 22 (.int .i64 2) (.int .i64 2)).run Try.prog w = .ok (.slice (some ⟨w.heap.size, 0, none⟩) 2 2) (w.alloc (.cells #[.int .u8 0, .int .u8 0] 5)) := fun _ => by kernel_rfl
  go_enter Try.func67, Try.ntmps67
  go_wp2
  clear hmk
  go_loopw [0, 6] (fun n i wr => ∃ j : Nat, j ≤ 2 ∧ i = .int .i64 (1 - (j : Int)) ∧ n = .int .i64 (nst2 x j) ∧ wr.heap[w.heap.size]? = some (.cells (nout2 x j) 5 (0, 0)) ∧ Below w.heap.size w wr) (fun _ i _ => (intOf i + 1).toNat)
  case atStart => exact ⟨0, by omega, rfl, rfl, heap_alloc_new w _, below_alloc w _⟩
  case round =>
    obtain ⟨j, hj, rfl, rfl, hblk, hbl⟩ := hrel
    have HB := Lib.hid hblk
    have hlt : w.heap.size < wr.heap.size := lt_of_heap hblk
    clear hblk
    obtain rfl | rfl | rfl : j = 0 ∨ j = 1 ∨ j = 2 := by omega
    · have hc := cell_in HB.out 1
      have hfr := free_in HB.out 1
      have HN := Lib.hid (set_in HB.out 1 (.int .u8 (x % 256)))
      simp only [nst2] at *
      rw [show (nout2 x 0)[1]? = some (.int .u8 0) from rfl] at hc
      go_wp2
      go_roundw
      case rel => exact ⟨1, by omega, rfl, rfl, HN.out, hbl.setCell (Nat.le_refl _) _⟩
      case measure => simp [intOf]
    · have hc := cell_in HB.out 0
      have hfr := free_in HB.out 0
      have HN := Lib.hid (set_in HB.out 0 (.int .u8 (x / 256 % 256)))
      simp only [nst2] at *
      rw [show (nout2 x 1)[0]? = some (.int .u8 0) from rfl] at hc
      go_wp2
      go_roundw
      case rel => exact ⟨2, by omega, rfl, rfl, HN.out, hbl.setCell (Nat.le_refl _) _⟩
      case measure => simp [intOf]
    · go_wp2
      go_ret
      refine ⟨rfl, hbl, .inr ⟨_, _, rfl, hlt, fun k hk => ?_⟩⟩
      rw [Nat.zero_add, cell_in HB.out k]
      match k, hk with
      | 0, _ => rfl
      | 1, _ => rfl
def nst4 (x : Int) (j : Nat) : Int := match j with
  | 0 => x
  | 1 => x / 256
  | 2 => x / 256 / 256
  | 3 => x / 256 / 256 / 256
  | _ => x / 256 / 256 / 256 / 256
def nout4 (x : Int) (j : Nat) : Array Value := match j with
  | 0 => #[.int .u8 0, .int .u8 0, .int .u8 0, .int .u8 0]
  | 1 => #[.int .u8 0, .int .u8 0, .int .u8 0, .int .u8 (x % 256)]
  | 2 => #[.int .u8 0, .int .u8 0, .int .u8 (x / 256 % 256), .int .u8 (x % 256)]
  | 3 => #[.int .u8 0, .int .u8 (x / 256 / 256 % 256), .int .u8 (x / 256 % 256), .int .u8 (x % 256)]
  | _ => #[.int .u8 (x / 256 / 256 / 256 % 256), .int .u8 (x / 256 / 256 % 256), .int .u8 (x / 256 % 256), .int .u8 (x % 256)]
set_option maxHeartbeats 400000 in
theorem num4_any (x : Int) (w : World) (hx : 0 ≤ x) (hx' : x ≤ 9223372036854775807) :
    Calls Try.prog 67 #[.int .i64 x, .int .i64 4] w fun e w' => e = .returned (.slice (some ⟨w.heap.size, 0, none⟩) 4 4) ∧ Below w.heap.size w w' ∧ Rd w' w'.heap.size (some ⟨w.heap.size, 0, none⟩) 4 (num4 x) := by
  have hmk : ∀ w : World, (Instr.makeSlice 22 (.int .i64 4) (.int .i64 4)).run Try.prog w = .ok (.slice (some ⟨w.heap.size, 0, none⟩) 4 4) (w.alloc (.cells #[.int .u8 0, .int .u8 0, .int .u8 0, .int .u8 0] 5)) := fun _ => by kernel_rfl
  go_enter Try.func67, Try.ntmps67
  go_wp2
  clear hmk
  go_loopw [0, 6] (fun n i wr => ∃ j : Nat, j ≤ 4 ∧ i = .int .i64 (3 - (j : Int)) ∧ n = .int .i64 (nst4 x j) ∧ wr.heap[w.heap.size]? = some (.cells (nout4 x j) 5 (0, 0)) ∧ Below w.heap.size w wr) (fun _ i _ => (intOf i + 1).toNat)
  case atStart => exact ⟨0, by omega, rfl, rfl, heap_alloc_new w _, below_alloc w _⟩
  case round =>
    obtain ⟨j, hj, rfl, rfl, hblk, hbl⟩ := hrel
    have HB := Lib.hid hblk
    have hlt : w.heap.size < wr.heap.size := lt_of_heap hblk
    clear hblk
    obtain rfl | rfl | rfl | rfl | rfl : j = 0 ∨ j = 1 ∨ j = 2 ∨ j = 3 ∨ j = 4 := by omega
    · have hc := cell_in HB.out 3
      have hfr := free_in HB.out 3
      have HN := Lib.hid (set_in HB.out 3 (.int .u8 (x % 256)))
      simp only [nst4] at *
      rw [show (nout4 x 0)[3]? = some (.int .u8 0) from rfl] at hc
      go_wp2
      go_roundw
      case rel => exact ⟨1, by omega, rfl, rfl, HN.out, hbl.setCell (Nat.le_refl _) _⟩
      case measure => simp [intOf]
    · have hc := cell_in HB.out 2
      have hfr := free_in HB.out 2
      have HN := Lib.hid (set_in HB.out 2 (.int .u8 (x / 256 % 256)))
      simp only [nst4] at *
      rw [show (nout4 x 1)[2]? = some (.int .u8 0) from rfl] at hc
      go_wp2
      go_roundw
      case rel => exact ⟨2, by omega, rfl, rfl, HN.out, hbl.setCell (Nat.le_refl _) _⟩
      case measure => simp [intOf]
    · have hc := cell_in HB.out 1
      have hfr := free_in HB.out 1
      have HN := Lib.hid (set_in HB.out 1 (.int .u8 (x / 256 / 256 % 256)))
      simp only [nst4] at *
      rw [show (nout4 x 2)[1]? = some (.int .u8 0) from rfl] at hc
      go_wp2
      go_roundw
      case rel => exact ⟨3, by omega, rfl, rfl, HN.out, hbl.setCell (Nat.le_refl _) _⟩
      case measure => simp [intOf]
    · have hc := cell_in HB.out 0
      have hfr := free_in HB.out 0
      have HN := Lib.hid (set_in HB.out 0 (.int .u8 (x / 256 / 256 / 256 % 256)))
      simp only [nst4] at *
      rw [show (nout4 x 3)[0]? = some (.int .u8 0) from rfl] at hc
      go_wp2
      go_roundw
      case rel => exact ⟨4, by omega, rfl, rfl, HN.out, hbl.setCell (Nat.le_refl _) _⟩
      case measure => simp [intOf]
    · go_wp2
      go_ret
      refine ⟨rfl, hbl, .inr ⟨_, _, rfl, hlt, fun k hk => ?_⟩⟩
      rw [Nat.zero_add, cell_in HB.out k]
      match k, hk with
      | 0, _ => rfl
      | 1, _ => rfl
      | 2, _ => rfl
      | 3, _ => rfl
end Go.Proofs.Ytlchegibfopglaa
