/- Contract of the program's Add. -/
import Derived.Test.YtfaelihfjmaekaaPlus
import Derived.Test.YtfaelihfjmaekaaBytes
import Derived.Deep.RegionHeld3
import Derived.Deep.Draws
import Derived.Laws.Rows
import Derived.Lib.Hide
import Derived.StillTailTactics
namespace Go.Proofs.Ytfaelihfjmaekaa
open Go.RowKit

def stp (p : Int × Bool) (x : Int) : Int × Bool := (pl p.1 (if p.2 then x else x * 256), !p.2)
/-- The document's sum so far: byte by byte. -/
def fld (f : Nat → Int) (p : Int × Bool) : Nat → Int × Bool
  | 0 => p
  | n + 1 => stp (fld f p n) (f n)
theorem stp_bd {p : Int × Bool} {x : Int} (h : 0 ≤ p.1 ∧ p.1 ≤ 65535) (hx : 0 ≤ x ∧ x ≤ 255) : 0 ≤ (stp p x).1 ∧ (stp p x).1 ≤ 65535 := by
  unfold stp pl
  cases p.2 <;> simp only [if_true, Bool.false_eq_true, if_false] <;> split <;> omega
theorem fld_bd {f : Nat → Int} {p : Int × Bool} (hf : Byt f) (h : 0 ≤ p.1 ∧ p.1 ≤ 65535) (n : Nat) : 0 ≤ (fld f p n).1 ∧ (fld f p n).1 ≤ 65535 := by
  induction n with
  | zero => exact h
  | succ n ih => exact stp_bd ih (hf n)
theorem fld_two (f : Nat → Int) (p : Int × Bool) (n : Nat) : (fld f p (n + 2)).2 = (fld f p n).2 := by
  simp [fld, stp]
theorem fld_flag (f : Nat → Int) (s : Int) (k : Nat) : (fld f (s, false) (2 * k)).2 = false := by
  induction k with
  | zero => rfl
  | succ k ih => rw [show 2 * (k + 1) = 2 * k + 2 by omega, fld_two, ih]
theorem fld_one_sum (f : Nat → Int) (s : Int) (k : Nat) : (fld f (s, false) (2 * k + 1)).1 = pl (fld f (s, false) (2 * k)).1 (f (2 * k) * 256) := by
  have h := fld_flag f s k
  show (stp (fld f (s, false) (2 * k)) (f (2 * k))).1 = _
  unfold stp
  rw [h]
  rfl
theorem pl_word (a x y : Int) (hx : 0 ≤ x ∧ x ≤ 255) (hy : 0 ≤ y ∧ y ≤ 255) (ha : 0 ≤ a ∧ a ≤ 65535) : pl a (x * 256 + y) = pl (pl a (x * 256)) y := by
  unfold pl
  repeat' split
  all_goals omega
theorem fld_word {f : Nat → Int} (hf : Byt f) {s : Int} (hs : 0 ≤ s ∧ s ≤ 65535) (k : Nat) : (fld f (s, false) (2 * k + 2)).1 = pl (fld f (s, false) (2 * k)).1 (f (2 * k) * 256 + f (2 * k + 1)) := by
  rw [pl_word _ _ _ (hf _) (hf _) (fld_bd hf hs _), ← fld_one_sum]
  have h := fld_flag f s k
  show (stp (stp (fld f (s, false) (2 * k)) (f (2 * k))) (f (2 * k + 1))).1 = _
  simp only [stp, h, Bool.not_false, if_true, Bool.false_eq_true, if_false]
  rw [fld_one_sum]
theorem fld_odd (f : Nat → Int) (s : Int) (n : Nat) : (fld f (s, false) n).2 = decide (n % 2 = 1) := by
  rcases Nat.mod_two_eq_zero_or_one n with h | h
  · rw [show n = 2 * (n / 2) by omega, fld_flag]; simp
  · have e : n = 2 * (n / 2) + 1 := by omega
    rw [e]
    show (!(fld f (s, false) (2 * (n / 2))).2) = _
    rw [fld_flag]; simp
theorem fld_shift (f : Nat → Int) (p : Int × Bool) (n : Nat) : fld (fun k => f (k + 1)) (stp p (f 0)) n = fld f p (n + 1) := by
  induction n with
  | zero => rfl
  | succ n ih => show stp (fld (fun k => f (k + 1)) (stp p (f 0)) n) (f (n + 1)) = _; rw [ih]; rfl

set_option maxHeartbeats 400000 in
theorem word_last (w : World) (g b off n c k : Nat) (x : Int) (hx : 0 ≤ x) (hx' : x ≤ 255) (hn : n ≤ 4611686018427387904) (hk : 2 * k + 1 = n)
    (hs : w.cell? ⟨g, 0, none⟩ = some (.slice (some ⟨b, off, none⟩) n c)) (hc : w.cell? ⟨b, off + 2 * k, none⟩ = some (.int .u8 x)) :
    Calls Try.prog 41 #[.int .i64 k, .pointer (some ⟨g, 0, none⟩)] w fun e w' => e = .returned (.int .u16 (x * 256)) ∧ w = w' := by
  go_enter Try.func41, Try.ntmps41
  go_wp2
  go_ret
  simp

set_option maxHeartbeats 400000 in
theorem word_mid (w : World) (g b off n c k : Nat) (x y : Int) (hx : 0 ≤ x) (hx' : x ≤ 255) (hy : 0 ≤ y) (hy' : y ≤ 255) (hn : n ≤ 4611686018427387904) (hk : 2 * k + 1 < n)
    (hs : w.cell? ⟨g, 0, none⟩ = some (.slice (some ⟨b, off, none⟩) n c)) (hc : w.cell? ⟨b, off + 2 * k, none⟩ = some (.int .u8 x)) (hc' : w.cell? ⟨b, off + (2 * k + 1), none⟩ = some (.int .u8 y)) :
    Calls Try.prog 41 #[.int .i64 k, .pointer (some ⟨g, 0, none⟩)] w fun e w' => e = .returned (.int .u16 (x * 256 + y)) ∧ w = w' := by
  have ho := or_hi x y hx hx' hy hy'
  go_enter Try.func41, Try.ntmps41
  go_wp2
  go_ret
  exact ⟨rfl, rfl⟩

/-- The three blocks of Add's own: p, b and the result. -/
structure AddW (w wr : World) (s : Int) (o : Bool) (v : Value) : Prop where
  c0 : wr.cell? ⟨w.heap.size, 0, none⟩ = some (.int .u16 s)
  c1 : wr.cell? ⟨w.heap.size, 1, none⟩ = some (.bool o)
  c2 : wr.cell? ⟨w.heap.size + 1, 0, none⟩ = some v
  c3 : wr.cell? ⟨w.heap.size + 1 + 1, 0, none⟩ = some (.int .u16 0)
  c4 : wr.cell? ⟨w.heap.size + 1 + 1, 1, none⟩ = some (.bool false)
  f0 : wr.frozen? ⟨w.heap.size, 0, none⟩ = false
  f1 : wr.frozen? ⟨w.heap.size, 1, none⟩ = false
  f2 : wr.frozen? ⟨w.heap.size + 1, 0, none⟩ = false
  f3 : wr.frozen? ⟨w.heap.size + 1 + 1, 0, none⟩ = false
  f4 : wr.frozen? ⟨w.heap.size + 1 + 1, 1, none⟩ = false
  below : Below w.heap.size w wr

theorem AddW.start (w : World) (s : Int) (o : Bool) (v : Value) : AddW w (((w.alloc (Obj.cells #[.int .u16 s, .bool o] 61)).alloc (Obj.cells #[v] 23)).alloc (Obj.cells #[.int .u16 0, .bool false] 61)) s o v := by
  constructor
  case below => exact (((Below.refl _ _).alloc (Nat.le_refl _) _).alloc (by simp) _).alloc (by simp; omega) _
  all_goals go_simp
theorem AddW.sum {w wr : World} {s s' : Int} {o : Bool} {v : Value} (h : AddW w wr s o v) : AddW w (wr.setCell ⟨w.heap.size, 0, none⟩ (.int .u16 s')).drew s' o v := by
  obtain ⟨h0, h1, h2, h3, h4, g0, g1, g2, g3, g4, hb⟩ := h
  exact ⟨by go_simp, by go_simp, by go_simp, by go_simp, by go_simp, by go_simp, by go_simp, by go_simp, by go_simp, by go_simp, (hb.setCell (Nat.le_refl _) _).drew⟩

theorem AddW.cut {w wr : World} {s s' : Int} {o : Bool} {v v' : Value} (h : AddW w wr s o v) : AddW w ((wr.setCell ⟨w.heap.size, 0, none⟩ (.int .u16 s')).setCell ⟨w.heap.size + 1, 0, none⟩ v').drew s' o v' := by
  obtain ⟨h0, h1, h2, h3, h4, g0, g1, g2, g3, g4, hb⟩ := h
  exact ⟨by go_simp, by go_simp, by go_simp, by go_simp, by go_simp, by go_simp, by go_simp, by go_simp, by go_simp, by go_simp, ((hb.setCell (Nat.le_refl _) _).setCell (by simp) _).drew⟩
end Go.Proofs.Ytfaelihfjmaekaa
