import Derived.Test.YthjgecdnlpdcdaaM0
import Derived.Test.YthjgecdnlpdcdaaRows
import Derived.WalkKit
import Derived.WalkSpells
import Derived.WalkLawsBesides
import Derived.Laws.BitsAllLaws
import Derived.Deep.RegionHeld3
import Derived.Deep.Draws
import Derived.Laws.Rows
import Derived.Lib.Hide
import Derived.StillTailTactics
/- Layer 4's words: a chain of extension headers. -/
namespace Go.Proofs.Ythjgecdnlpdcdaa
open Go.RowKit
--CUT
/-- Is a next header an extension header? -/
def ext6 (k : Int) : Bool := k == 0 || k == 43 || k == 44 || k == 60
/-- How many bytes one says that it has. -/
def len6 (k : Int) (f : Nat → Int) : Nat := if k = 44 then 8 else 8 + 8 * (f 1).toNat
/-- How many bytes one has that begins m bytes, and what is wrong with it. -/
def one6 (k : Int) (first : Bool) (f : Nat → Int) (m : Nat) : Nat × Int :=
  if k = 0 ∧ first = false then (0, 5)
  else if m < 8 then (0, 4)
  else if m < len6 k f then (0, 4)
  else if k = 43 ∧ f 3 ≠ 0 then (0, 12)
  else if k = 44 ∧ ((f 2 * 256 + f 3) / 8 ≠ 0 ∨ (f 2 * 256 + f 3) % 2 = 1) then (0, 11)
  else (len6 k f, 0)
/-- A chain from a place on, of at most so many headers more. -/
def chn (f : Nat → Int) (N : Nat) : Nat → Int → Nat → Int × Nat × Int
  | 0, next, a => if ext6 next = true then (0, 0, 3) else (next, a, 0)
  | k + 1, next, a => if ext6 next = true then
      (if (one6 next (decide (k = 7)) (fun j => f (a + j)) (N - a)).2 = 0 then chn f N k (f a) (a + (one6 next (decide (k = 7)) (fun j => f (a + j)) (N - a)).1)
       else (0, 0, (one6 next (decide (k = 7)) (fun j => f (a + j)) (N - a)).2))
    else (next, a, 0)
theorem one6_ok {k : Int} {first : Bool} {f : Nat → Int} {m : Nat} (h : (one6 k first f m).2 = 0) : 8 ≤ (one6 k first f m).1 ∧ (one6 k first f m).1 ≤ m ∧ (one6 k first f m).1 = len6 k f := by
  unfold one6 at *
  split at h
  · cases h
  rename_i q1
  rw [if_neg q1]
  split at h
  · cases h
  rename_i q2
  rw [if_neg q2]
  split at h
  · cases h
  rename_i q3
  rw [if_neg q3]
  split at h
  · cases h
  rename_i q4
  rw [if_neg q4]
  split at h
  · cases h
  rename_i q5
  rw [if_neg q5]
  refine ⟨?_, by simpa using q3, rfl⟩
  show 8 ≤ len6 k f
  unfold len6
  split <;> omega
/-- One header hangs on its own bytes, if it is whole. -/
theorem one6_same {k : Int} {first : Bool} {f g : Nat → Int} {m m' : Nat} (h : (one6 k first f m).2 = 0) (hm : (one6 k first f m).1 ≤ m') (hg : ∀ j, j < (one6 k first f m).1 → g j = f j) : one6 k first g m' = one6 k first f m := by
  obtain ⟨a, b, c⟩ := one6_ok h
  have e1 := hg 1 (by omega)
  have e2 := hg 2 (by omega)
  have e3 := hg 3 (by omega)
  rw [c] at hm
  have q : ¬ (k = 0 ∧ first = false) ∧ ¬ (k = 43 ∧ f 3 ≠ 0) ∧ ¬ (k = 44 ∧ ((f 2 * 256 + f 3) / 8 ≠ 0 ∨ (f 2 * 256 + f 3) % 2 = 1)) ∧ ¬ m < 8 ∧ ¬ m < len6 k f := by
    unfold one6 at h
    split at h
    · cases h
    split at h
    · cases h
    split at h
    · cases h
    split at h
    · cases h
    split at h
    · cases h
    rename_i q1 q2 q3 q4 q5
    exact ⟨q1, q4, q5, q2, q3⟩
  obtain ⟨q1, q4, q5, q2, q3⟩ := q
  have el : len6 k g = len6 k f := by unfold len6; rw [e1]
  have q8 : 8 ≤ len6 k f := by rw [← c]; exact a
  unfold one6
  rw [el, e2, e3, if_neg q1, if_neg (show ¬ m' < 8 by omega), if_neg (show ¬ m' < len6 k f by omega), if_neg q4, if_neg q5, if_neg q1, if_neg q2, if_neg q3]
/-- A chain hangs on its own bytes. -/
theorem chn_same {f g : Nat → Int} {N N' : Nat} : ∀ (k : Nat) (next : Int) (a : Nat) (p : Int) (n : Nat), chn f N k next a = (p, n, 0) → a ≤ N → (n ≤ N' → (∀ j, j < n → g j = f j) → chn g N' k next a = (p, n, 0)) ∧ a ≤ n ∧ n ≤ N
  | 0, next, a, p, n, h, ha => by
    unfold chn at h
    split at h
    · injection h with _ h
      injection h with _ h
      cases h
    · rename_i q
      injection h with h1 h2
      injection h2 with h2 _
      subst h1 h2
      refine ⟨fun _ _ => ?_, Nat.le_refl _, ha⟩
      unfold chn
      rw [if_neg q]
  | k + 1, next, a, p, n, h, ha => by
    unfold chn at h
    split at h
    · rename_i q
      split at h
      · rename_i h0
        obtain ⟨b1, b2, _⟩ := one6_ok h0
        obtain ⟨ih, l1, l2⟩ := chn_same k _ _ p n h (by omega)
        refine ⟨fun hn hg => ?_, by omega, l2⟩
        have e := one6_same (g := fun j => g (a + j)) (m' := N' - a) h0 (by omega) (fun j hj => hg _ (by omega))
        unfold chn
        rw [if_pos q, e, if_pos h0, hg a (by omega)]
        exact ih hn hg
      · rename_i h0
        injection h with _ h
        injection h with _ h
        exact absurd h h0
    · rename_i q
      injection h with h1 h2
      injection h2 with h2 _
      subst h1 h2
      refine ⟨fun _ _ => ?_, Nat.le_refl _, ha⟩
      unfold chn
      rw [if_neg q]
theorem chn_congr {f g : Nat → Int} {N : Nat} (h : ∀ j, j < N → g j = f j) : ∀ (k : Nat) (next : Int) (a : Nat), a ≤ N → chn g N k next a = chn f N k next a
  | 0, _, _, _ => rfl
  | k + 1, next, a, ha => by
    have e : one6 next (decide (k = 7)) (fun j => g (a + j)) (N - a) = one6 next (decide (k = 7)) (fun j => f (a + j)) (N - a) := by
      unfold one6
      by_cases h8 : N - a < 8
      · rw [if_pos h8, if_pos h8]
      · have el : len6 next (fun j => g (a + j)) = len6 next (fun j => f (a + j)) := by
          unfold len6
          show (if next = 44 then 8 else 8 + 8 * (g (a + 1)).toNat) = (if next = 44 then 8 else 8 + 8 * (f (a + 1)).toNat)
          rw [h (a + 1) (by omega)]
        have e2 : g (a + 2) = f (a + 2) := h (a + 2) (by omega)
        have e3 : g (a + 3) = f (a + 3) := h (a + 3) (by omega)
        simp only [el, e2, e3]
    unfold chn
    rw [e]
    split
    · split
      · rename_i h0
        obtain ⟨b1, b2, _⟩ := one6_ok h0
        rw [h a (by omega)]
        exact chn_congr h k _ _ (by omega)
      · rfl
    · rfl
theorem chn_bad {f : Nat → Int} {N : Nat} : ∀ (k : Nat) (next : Int) (a : Nat), (chn f N k next a).2.2 ≠ 0 → (chn f N k next a).1 = 0 ∧ (chn f N k next a).2.1 = 0
  | 0, next, a, h => by
    unfold chn at *
    split at h
    · rename_i q; rw [if_pos q]; exact ⟨rfl, rfl⟩
    · exact absurd rfl h
  | k + 1, next, a, h => by
    unfold chn at *
    split at h
    · rename_i q
      rw [if_pos q]
      split at h
      · rename_i h0
        rw [if_pos h0]
        exact chn_bad k _ _ h
      · rename_i h0
        rw [if_neg h0]
        exact ⟨rfl, rfl⟩
    · exact absurd rfl h
end Go.Proofs.Ythjgecdnlpdcdaa
/- Contracts of the small functions of layer 1: adding in ones' complement, in the program and in the document's answer. -/
namespace Go.Proofs.Ythjgecdnlpdcdaa
set_option maxRecDepth 100000
open Go.RowKit
/-- Ones' complement addition of two words, as numbers. -/
def pl (a b : Int) : Int := if a + b > 65535 then a + b - 65535 else a + b
theorem ret_int {k : IntKind} {a b : Int} (h : a = b) : Ending.returned (.int k a) = .returned (.int k b) := by rw [h]
set_option maxHeartbeats 400000 in
theorem plus_any (a b : Int) (w : World) (ha : 0 ≤ a) (ha' : a ≤ 65535) (hb : 0 ≤ b) (hb' : b ≤ 65535) :
    Calls Try.prog 38 #[.int .u16 a, .int .u16 b] w fun e w' => e = .returned (.int .u16 (pl a b)) ∧ w = w' := by
  go_enter Try.func38, Try.ntmps38
  go_wp2
  go_ret
  refine ⟨ret_int ?_, rfl⟩
  unfold pl
  simp only [IntKind.wrap_u16]
  split <;> omega
theorem xor_max (s : Int) (ha : 0 ≤ s) (ha' : s ≤ 65535) : bits .xor .u16 IntKind.u16.max s = 65535 - s := by
  obtain ⟨n, rfl⟩ := Int.eq_ofNat_of_zero_le ha
  have hn : n < 65536 := by omega
  have hm : IntKind.u16.max = ((65535 : Nat) : Int) := rfl
  rw [hm, u16_xor_nat 65535 n (by omega) hn]
  have h : 65535 ^^^ n = 65535 - n := by
    have e := congrArg BitVec.toNat (BitVec.allOnes_xor (x := BitVec.ofNat 16 n))
    rw [BitVec.toNat_xor, BitVec.toNat_not, BitVec.toNat_allOnes, BitVec.toNat_ofNat, Nat.mod_eq_of_lt (by omega)] at e
    exact e
  rw [h]
  omega
theorem or_hi (x y : Int) (hx : 0 ≤ x) (hx' : x ≤ 255) (hy : 0 ≤ y) (hy' : y ≤ 255) : bits .or .u16 (x * 256) y = x * 256 + y := by
  obtain ⟨n, rfl⟩ := Int.eq_ofNat_of_zero_le hx
  obtain ⟨m, rfl⟩ := Int.eq_ofNat_of_zero_le hy
  have h := Nat.shiftLeft_add_eq_or_of_lt (i := 8) (b := m) (by omega) n
  rw [Nat.shiftLeft_eq, show (2:Nat) ^ 8 = 256 from rfl] at h
  have e := u16_or_nat (n * 256) m (by omega) (by omega)
  rw [← h] at e
  have c : ((n * 256 : Nat) : Int) = (n : Int) * 256 := by omega
  have d : ((n * 256 + m : Nat) : Int) = (n : Int) * 256 + (m : Int) := by rw [Int.natCast_add, c]
  rw [c, d] at e
  exact e
set_option maxHeartbeats 400000 in
theorem end_any (s : Int) (o : Bool) (w : World) (ha : 0 ≤ s) (ha' : s ≤ 65535) :
    Calls Try.prog 33 #[.agg #[.int .u16 s, .bool o]] w fun e w' => e = .returned (.int .u16 (65535 - s)) ∧ Below w.heap.size w w' := by
  go_enter Try.func33, Try.ntmps33
  go_wp2
  go_ret
  exact ⟨ret_int (xor_max s ha ha'), (Below.refl _ _).alloc (Nat.le_refl _) _⟩
end Go.Proofs.Ythjgecdnlpdcdaa
/- Contract of the program's Add. -/
namespace Go.Proofs.Ythjgecdnlpdcdaa
set_option maxRecDepth 100000
open Go.RowKit
def stp (p : Int × Bool) (x : Int) : Int × Bool := (pl p.1 (if p.2 then x else x * 256), !p.2)
/-- The document's sum so far: byte by byte. -/
def fld (f : Nat → Int) (p : Int × Bool) : Nat → Int × Bool
  | 0 => p
  | n + 1 => stp (fld f p n) (f n)
theorem stp_bd {p : Int × Bool} {x : Int} (h : 0 ≤ p.1 ∧ p.1 ≤ 65535) (hx : 0 ≤ x ∧ x ≤ 255) : 0 ≤ (stp p x).1 ∧ (stp p x).1 ≤ 65535 := by
  unfold stp pl
  cases p.2 <;> simp only [if_true, Bool.false_eq_true, if_false] <;> split <;> omega
theorem fld_bd {f : Nat → Int} {p : Int × Bool} (hf : Byt f) (h : 0 ≤ p.1 ∧ p.1 ≤ 65535) (n : Nat) : 0 ≤ (fld f p n).1 ∧ (fld f p n).1 ≤ 65535 := by
  induction n with
  | zero => exact h
  | succ n ih => exact stp_bd ih (hf n)
theorem fld_two (f : Nat → Int) (p : Int × Bool) (n : Nat) : (fld f p (n + 2)).2 = (fld f p n).2 := by
  simp [fld, stp]
theorem fld_flag (f : Nat → Int) (s : Int) (k : Nat) : (fld f (s, false) (2 * k)).2 = false := by
  induction k with
  | zero => rfl
  | succ k ih => rw [show 2 * (k + 1) = 2 * k + 2 by omega, fld_two, ih]
theorem fld_one_sum (f : Nat → Int) (s : Int) (k : Nat) : (fld f (s, false) (2 * k + 1)).1 = pl (fld f (s, false) (2 * k)).1 (f (2 * k) * 256) := by
  have h := fld_flag f s k
  show (stp (fld f (s, false) (2 * k)) (f (2 * k))).1 = _
  unfold stp
  rw [h]
  rfl
theorem pl_word (a x y : Int) (hx : 0 ≤ x ∧ x ≤ 255) (hy : 0 ≤ y ∧ y ≤ 255) (ha : 0 ≤ a ∧ a ≤ 65535) : pl a (x * 256 + y) = pl (pl a (x * 256)) y := by
  unfold pl
  repeat' split
  all_goals omega
theorem fld_word {f : Nat → Int} (hf : Byt f) {s : Int} (hs : 0 ≤ s ∧ s ≤ 65535) (k : Nat) : (fld f (s, false) (2 * k + 2)).1 = pl (fld f (s, false) (2 * k)).1 (f (2 * k) * 256 + f (2 * k + 1)) := by
  rw [pl_word _ _ _ (hf _) (hf _) (fld_bd hf hs _), ← fld_one_sum]
  have h := fld_flag f s k
  show (stp (stp (fld f (s, false) (2 * k)) (f (2 * k))) (f (2 * k + 1))).1 = _
  simp only [stp, h, Bool.not_false, if_true, Bool.false_eq_true, if_false]
  rw [fld_one_sum]
theorem fld_odd (f : Nat → Int) (s : Int) (n : Nat) : (fld f (s, false) n).2 = decide (n % 2 = 1) := by
  rcases Nat.mod_two_eq_zero_or_one n with h | h
  · rw [show n = 2 * (n / 2) by omega, fld_flag]; simp
  · have e : n = 2 * (n / 2) + 1 := by omega
    rw [e]
    show (!(fld f (s, false) (2 * (n / 2))).2) = _
    rw [fld_flag]; simp
theorem fld_shift (f : Nat → Int) (p : Int × Bool) (n : Nat) : fld (fun k => f (k + 1)) (stp p (f 0)) n = fld f p (n + 1) := by
  induction n with
  | zero => rfl
  | succ n ih => show stp (fld (fun k => f (k + 1)) (stp p (f 0)) n) (f (n + 1)) = _; rw [ih]; rfl
set_option maxHeartbeats 400000 in
theorem word_last (w : World) (g b off n c k : Nat) (x : Int) (hx : 0 ≤ x) (hx' : x ≤ 255) (hn : n ≤ 4611686018427387904) (hk : 2 * k + 1 = n)
    (hs : w.cell? ⟨g, 0, none⟩ = some (.slice (some ⟨b, off, none⟩) n c)) (hc : w.cell? ⟨b, off + 2 * k, none⟩ = some (.int .u8 x)) :
    Calls Try.prog 39 #[.int .i64 k, .pointer (some ⟨g, 0, none⟩)] w fun e w' => e = .returned (.int .u16 (x * 256)) ∧ w = w' := by
  go_enter Try.func39, Try.ntmps39
  go_wp2
  go_ret
  simp
set_option maxHeartbeats 400000 in
theorem word_mid (w : World) (g b off n c k : Nat) (x y : Int) (hx : 0 ≤ x) (hx' : x ≤ 255) (hy : 0 ≤ y) (hy' : y ≤ 255) (hn : n ≤ 4611686018427387904) (hk : 2 * k + 1 < n)
    (hs : w.cell? ⟨g, 0, none⟩ = some (.slice (some ⟨b, off, none⟩) n c)) (hc : w.cell? ⟨b, off + 2 * k, none⟩ = some (.int .u8 x)) (hc' : w.cell? ⟨b, off + (2 * k + 1), none⟩ = some (.int .u8 y)) :
    Calls Try.prog 39 #[.int .i64 k, .pointer (some ⟨g, 0, none⟩)] w fun e w' => e = .returned (.int .u16 (x * 256 + y)) ∧ w = w' := by
  have ho := or_hi x y hx hx' hy hy'
  go_enter Try.func39, Try.ntmps39
  go_wp2
  go_ret
  exact ⟨rfl, rfl⟩
/-- The three blocks of Add's own: p, b and the result. -/
structure AddW (w wr : World) (s : Int) (o : Bool) (v : Value) : Prop where
  c0 : wr.cell? ⟨w.heap.size, 0, none⟩ = some (.int .u16 s)
  c1 : wr.cell? ⟨w.heap.size, 1, none⟩ = some (.bool o)
  c2 : wr.cell? ⟨w.heap.size + 1, 0, none⟩ = some v
  c3 : wr.cell? ⟨w.heap.size + 1 + 1, 0, none⟩ = some (.int .u16 0)
  c4 : wr.cell? ⟨w.heap.size + 1 + 1, 1, none⟩ = some (.bool false)
  f0 : wr.frozen? ⟨w.heap.size, 0, none⟩ = false
  f1 : wr.frozen? ⟨w.heap.size, 1, none⟩ = false
  f2 : wr.frozen? ⟨w.heap.size + 1, 0, none⟩ = false
  f3 : wr.frozen? ⟨w.heap.size + 1 + 1, 0, none⟩ = false
  f4 : wr.frozen? ⟨w.heap.size + 1 + 1, 1, none⟩ = false
  below : Below w.heap.size w wr
theorem AddW.start (w : World) (s : Int) (o : Bool) (v : Value) : AddW w (((w.alloc (Obj.cells #[.int .u16 s, .bool o] 84)).alloc (Obj.cells #[v] 26)).alloc (Obj.cells #[.int .u16 0, .bool false] 84)) s o v := by
  constructor
  case below => exact (((Below.refl _ _).alloc (Nat.le_refl _) _).alloc (by simp) _).alloc (by simp; omega) _
  all_goals go_simp
theorem AddW.sum {w wr : World} {s s' : Int} {o : Bool} {v : Value} (h : AddW w wr s o v) : AddW w (wr.setCell ⟨w.heap.size, 0, none⟩ (.int .u16 s')).drew s' o v := by
  obtain ⟨h0, h1, h2, h3, h4, g0, g1, g2, g3, g4, hb⟩ := h
  exact ⟨by go_simp, by go_simp, by go_simp, by go_simp, by go_simp, by go_simp, by go_simp, by go_simp, by go_simp, by go_simp, (hb.setCell (Nat.le_refl _) _).drew⟩
theorem AddW.cut {w wr : World} {s s' : Int} {o : Bool} {v v' : Value} (h : AddW w wr s o v) : AddW w ((wr.setCell ⟨w.heap.size, 0, none⟩ (.int .u16 s')).setCell ⟨w.heap.size + 1, 0, none⟩ v').drew s' o v' := by
  obtain ⟨h0, h1, h2, h3, h4, g0, g1, g2, g3, g4, hb⟩ := h
  exact ⟨by go_simp, by go_simp, by go_simp, by go_simp, by go_simp, by go_simp, by go_simp, by go_simp, by go_simp, by go_simp, ((hb.setCell (Nat.le_refl _) _).setCell (by simp) _).drew⟩
end Go.Proofs.Ythjgecdnlpdcdaa
