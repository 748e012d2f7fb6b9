/- The document's Add, byte by byte. -/
import Derived.Test.YtfaelihfjmaekaaAdd
namespace Go.Proofs.Ytfaelihfjmaekaa
open Go.RowKit

/-- The two blocks of the document's Add: p and the result. -/
structure RAddW (w wr : World) (s : Int) (o : Bool) : Prop where
  c0 : wr.cell? ⟨w.heap.size, 0, none⟩ = some (.int .u16 s)
  c1 : wr.cell? ⟨w.heap.size, 1, none⟩ = some (.bool o)
  c3 : wr.cell? ⟨w.heap.size + 1, 0, none⟩ = some (.int .u16 0)
  c4 : wr.cell? ⟨w.heap.size + 1, 1, none⟩ = some (.bool false)
  f0 : wr.frozen? ⟨w.heap.size, 0, none⟩ = false
  f1 : wr.frozen? ⟨w.heap.size, 1, none⟩ = false
  f3 : wr.frozen? ⟨w.heap.size + 1, 0, none⟩ = false
  f4 : wr.frozen? ⟨w.heap.size + 1, 1, none⟩ = false
  below : Below w.heap.size w wr
theorem RAddW.start (w : World) (s : Int) (o : Bool) : RAddW w ((w.alloc (Obj.cells #[.int .u16 s, .bool o] 61)).alloc (Obj.cells #[.int .u16 0, .bool false] 61)) s o := by
  constructor
  case below => exact ((Below.refl _ _).alloc (Nat.le_refl _) _).alloc (by simp) _
  all_goals go_simp
theorem RAddW.sum {w wr : World} {s s' : Int} {o o' : Bool} (h : RAddW w wr s o) : RAddW w ((wr.setCell ⟨w.heap.size, 0, none⟩ (.int .u16 s')).setCell ⟨w.heap.size, 1, none⟩ (.bool o')) s' o' := by
  obtain ⟨h0, h1, h3, h4, g0, g1, g3, g4, hb⟩ := h
  exact ⟨by go_simp, by go_simp, by go_simp, by go_simp, by go_simp, by go_simp, by go_simp, by go_simp, (hb.setCell (Nat.le_refl _) _).setCell (Nat.le_refl _) _⟩

set_option maxHeartbeats 400000 in
theorem radd_some (s : Int) (o : Bool) (b off n c : Nat) (f : Nat → Int) (hf : Byt f) (hn' : n ≤ 4611686018427387904) (w : World) (ha : 0 ≤ s) (ha' : s ≤ 65535)
    (hb : b < w.heap.size) (hc : ∀ k, k < n → w.cell? ⟨b, off + k, none⟩ = some (.int .u8 (f k))) :
    Calls Try.prog 44 #[.agg #[.int .u16 s, .bool o], .slice (some ⟨b, off, none⟩) n c] w fun e w' => e = .returned (.agg #[.int .u16 (fld f (s, o) n).1, .bool (fld f (s, o) n).2]) ∧ Below w.heap.size w w' := by
  have HC := Lib.hid hc
  clear hc
  have HF := Lib.hid hf
  clear hf
  go_enter Try.func44, Try.ntmps44
  go_wp2
  go_loopw [5] (fun i wr => ∃ k : Nat, k ≤ n ∧ i = .int .i64 k ∧ RAddW w wr (fld f (s, o) k).1 (fld f (s, o) k).2) (fun i _ => n - (intOf i).toNat)
  case atStart => exact ⟨0, by omega, rfl, RAddW.start w s o⟩
  case round =>
    obtain ⟨k, hk, rfl, hw⟩ := hrel
    have HW := Lib.hid hw
    obtain ⟨h0, h1, h3, h4, g0, g1, g3, g4, hbl⟩ := hw
    by_cases hlt : k < n
    · obtain ⟨hx, hx'⟩ := HF.out k
      obtain ⟨hq, hq'⟩ := fld_bd (p := (s, o)) HF.out ⟨ha, ha'⟩ k
      have hcx : wr.cell? ⟨b, off + k, none⟩ = some (.int .u8 (f k)) := (hbl.cell (p := ⟨b, off + k, none⟩) hb).trans (HC.out _ (by omega))
      have HS : Hid (fld f (s, o) (k + 1) = stp (fld f (s, o) k) (f k)) := rfl
      generalize fld f (s, o) k = q at *
      generalize f k = x at *
      obtain ⟨q, fl⟩ := q
      cases fl
      · go_wp2_with (go_at_call 50; refine (rplus_any q (x * 256) _ hq hq' (by omega) (by omega)).mono ?_; rintro e w' ⟨rfl, rfl⟩)
        go_roundw
        case rel =>
          refine ⟨k + 1, by omega, by go_num, ?_⟩
          rw [HS.out]
          exact HW.out.sum
        case measure => simp [intOf]; omega
      · go_wp2_with (go_at_call 50; refine (rplus_any q x _ hq hq' (by omega) (by omega)).mono ?_; rintro e w' ⟨rfl, rfl⟩)
        go_roundw
        case rel =>
          refine ⟨k + 1, by omega, by go_num, ?_⟩
          rw [HS.out]
          exact HW.out.sum
        case measure => simp [intOf]; omega
    · have hk2 : k = n := by omega
      subst hk2
      clear hk hlt
      go_wp2
      refine bodyPost_ret (v := .agg #[.int .u16 (fld f (s, o) k).1, .bool (fld f (s, o) k).2]) (by simp [results, Try.results44, go_sem, h3, h4]) rfl ⟨rfl, ?_⟩
      exact (hbl.setCell (by simp) _).setCell (by simp) _
set_option maxHeartbeats 400000 in
theorem radd_zero (s : Int) (o : Bool) (A : Option Addr) (c : Nat) (w : World) :
    Calls Try.prog 44 #[.agg #[.int .u16 s, .bool o], .slice A 0 c] w fun e w' => e = .returned (.agg #[.int .u16 s, .bool o]) ∧ Below w.heap.size w w' := by
  go_enter Try.func44, Try.ntmps44
  go_wp2
  go_loopw [5] (fun i wr => i = .int .i64 0 ∧ RAddW w wr s o) (fun _ _ => 0)
  case atStart => exact ⟨rfl, RAddW.start w s o⟩
  case round =>
    obtain ⟨rfl, hw⟩ := hrel
    obtain ⟨h0, h1, h3, h4, g0, g1, g3, g4, hbl⟩ := hw
    go_wp2
    refine bodyPost_ret (v := .agg #[.int .u16 s, .bool o]) (by simp [results, Try.results44, go_sem, h3, h4]) rfl ⟨rfl, ?_⟩
    exact (hbl.setCell (by simp) _).setCell (by simp) _
end Go.Proofs.Ytfaelihfjmaekaa
