import Derived.Test.YthjgecdnlpdcdaaM5
import Derived.Deep.RegionHeld3
import Derived.Deep.RegionWith
/- The checksum in closed form: a sum of words, modulo 65535. -/
namespace Go.Proofs.Ythjgecdnlpdcdaa
open Go.RowKit
--CUT
/-- What a byte at place k weighs. -/
def wgt (k : Nat) (x : Int) : Int := if k % 2 = 0 then x * 256 else x
/-- The sum of n bytes as words. -/
def tot (f : Nat → Int) : Nat → Int
  | 0 => 0
  | n + 1 => tot f n + wgt n (f n)
/-- .. in ones' complement. -/
def nrm (s : Int) : Int := if s = 0 then 0 else (s - 1) % 65535 + 1
theorem nrm_bd (s : Int) (_ : 0 ≤ s) : 0 ≤ nrm s ∧ nrm s ≤ 65535 ∧ (0 < s → 1 ≤ nrm s) := by
  unfold nrm
  split <;> omega
theorem pl_nrm (s b : Int) (hs : 0 ≤ s) (hb : 0 ≤ b) (hb' : b ≤ 65535) : pl (nrm s) b = nrm (s + b) := by
  unfold nrm pl
  by_cases h0 : s = 0
  · subst h0
    rw [if_pos rfl]
    by_cases h1 : b = 0
    · subst h1
      decide
    · rw [if_neg (by omega), if_neg (by omega)]
      omega
  · rw [if_neg h0, if_neg (show ¬ s + b = 0 by omega)]
    split <;> omega
theorem wgt_bd {k : Nat} {x : Int} (hx : 0 ≤ x ∧ x ≤ 255) : 0 ≤ wgt k x ∧ wgt k x ≤ 65535 := by
  unfold wgt
  split <;> omega
theorem tot_nonneg {f : Nat → Int} (hf : Byt f) : ∀ n, 0 ≤ tot f n
  | 0 => Int.le_refl 0
  | n + 1 => by
    have a := tot_nonneg hf n
    have b := (wgt_bd (k := n) (hf n)).1
    show 0 ≤ tot f n + wgt n (f n)
    omega
theorem fld_tot {f : Nat → Int} (hf : Byt f) : ∀ n, (fld f (0, false) n).1 = nrm (tot f n)
  | 0 => rfl
  | n + 1 => by
    have ih := fld_tot hf n
    have ho := fld_odd f 0 n
    have hw := wgt_bd (k := n) (hf n)
    have e : (fld f (0, false) (n + 1)).1 = pl (fld f (0, false) n).1 (wgt n (f n)) := by
      show (stp (fld f (0, false) n) (f n)).1 = _
      unfold stp wgt
      rw [ho]
      rcases Nat.mod_two_eq_zero_or_one n with h | h <;> simp [h]
    rw [e, ih]
    exact pl_nrm _ _ (tot_nonneg hf n) hw.1 hw.2
theorem ofv_tot {f : Nat → Int} (hf : Byt f) (n : Nat) : ofv f n = 65535 - nrm (tot f n) := by
  unfold ofv
  rw [fld_tot hf]
/-- When the checksum is 0. -/
theorem ofv_zero {f : Nat → Int} (hf : Byt f) (n : Nat) : ofv f n = 0 ↔ 0 < tot f n ∧ tot f n % 65535 = 0 := by
  rw [ofv_tot hf]
  have h := tot_nonneg hf n
  unfold nrm
  split <;> omega
theorem tot_same {f g : Nat → Int} : ∀ n, (∀ k, k < n → g k = f k) → tot g n = tot f n
  | 0, _ => rfl
  | n + 1, h => by
    show tot g n + wgt n (g n) = tot f n + wgt n (f n)
    rw [tot_same n fun k hk => h k (by omega), h n (by omega)]
/-- One byte another one. -/
theorem tot_upd (f : Nat → Int) (p : Nat) (v : Int) : ∀ n, p < n → tot (upd f p v) n = tot f n + (wgt p v - wgt p (f p))
  | 0, h => absurd h (by omega)
  | n + 1, h => by
    show tot (upd f p v) n + wgt n (upd f p v n) = tot f n + wgt n (f n) + (wgt p v - wgt p (f p))
    by_cases e : n = p
    · subst e
      have e1 : tot (upd f n v) n = tot f n := tot_same n fun k hk => by unfold upd; rw [if_neg (by omega)]
      have e2 : upd f n v n = v := by unfold upd; rw [if_pos rfl]
      rw [e1, e2]
      omega
    · have e2 : upd f p v n = f n := by unfold upd; rw [if_neg e]
      rw [tot_upd f p v n (by omega), e2]
      omega
/-- The first byte's words are above 0, if it is. -/
theorem tot_pos {f : Nat → Int} (hf : Byt f) (h : 0 < f 0) : ∀ n, 0 < n → 0 < tot f n
  | 0, hn => absurd hn (by omega)
  | 1, _ => by
    show 0 < 0 + wgt 0 (f 0)
    unfold wgt
    simp
    omega
  | n + 2, _ => by
    have a := tot_pos hf h (n + 1) (by omega)
    have b := (wgt_bd (k := n + 1) (hf (n + 1))).1
    show 0 < tot f (n + 1) + wgt (n + 1) (f (n + 1))
    omega
/-- A header whose sum is laid at an even place p has the checksum 0. -/
theorem ofv_laid {f : Nat → Int} (hf : Byt f) (p n : Nat) (hp : p % 2 = 0) (hn : p + 1 < n) (h0 : f p = 0) (h1 : f (p + 1) = 0) (hpos : 0 < tot f n) :
    ofv (upd (upd f p (ofv f n / 256)) (p + 1) (ofv f n % 256)) n = 0 := by
  have hb := ofv_bd hf n
  have hc := ofv_tot hf n
  have hf1 : Byt (upd f p (ofv f n / 256)) := upd_byt hf p (by omega)
  have hf2 : Byt (upd (upd f p (ofv f n / 256)) (p + 1) (ofv f n % 256)) := upd_byt hf1 (p + 1) (by omega)
  rw [ofv_zero hf2, tot_upd _ _ _ n (by omega), tot_upd _ _ _ n (by omega)]
  have e : upd f p (ofv f n / 256) (p + 1) = 0 := by unfold upd; rw [if_neg (by omega)]; exact h1
  rw [e, h0]
  have w1 : ∀ x, wgt p x = x * 256 := fun x => by unfold wgt; rw [if_pos hp]
  have w2 : ∀ x, wgt (p + 1) x = x := fun x => by unfold wgt; rw [if_neg (by omega)]
  rw [w1, w1, w2, w2]
  unfold nrm at hc
  rw [if_neg (by omega)] at hc
  omega
/-- Of a header whose checksum is 0 the sum that it bears is the one that is made, or both are no sum. -/
theorem ofv_read {f : Nat → Int} (hf : Byt f) (p n : Nat) (hp : p % 2 = 0) (hn : p + 1 < n) (hpos : 0 < tot (upd (upd f p 0) (p + 1) 0) n) (h : ofv f n = 0) :
    ofv (upd (upd f p 0) (p + 1) 0) n = (if f p = 255 ∧ f (p + 1) = 255 then 0 else f p * 256 + f (p + 1)) := by
  have hf1 : Byt (upd f p 0) := upd_byt hf p (by omega)
  have hf2 : Byt (upd (upd f p 0) (p + 1) 0) := upd_byt hf1 (p + 1) (by omega)
  rw [ofv_tot hf2]
  have hz := (ofv_zero hf n).1 h
  have e : upd f p 0 (p + 1) = f (p + 1) := by unfold upd; rw [if_neg (by omega)]
  have et : tot (upd (upd f p 0) (p + 1) 0) n = tot f n - f p * 256 - f (p + 1) := by
    rw [tot_upd _ _ _ n (by omega), tot_upd _ _ _ n (by omega), e]
    have w1 : ∀ x, wgt p x = x * 256 := fun x => by unfold wgt; rw [if_pos hp]
    have w2 : ∀ x, wgt (p + 1) x = x := fun x => by unfold wgt; rw [if_neg (by omega)]
    rw [w1, w1, w2, w2]
    omega
  rw [et] at hpos ⊢
  have b0 := hf p
  have b1 := hf (p + 1)
  unfold nrm
  rw [if_neg (by omega)]
  split <;> omega
/-- One bit turned: the checksum is not 0 any more. -/
theorem ofv_bit {f : Nat → Int} (hf : Byt f) (p n : Nat) (hn : p < n) (v : Int) (hv : 0 ≤ v ∧ v ≤ 255) (j : Nat) (hj : j < 8) (hd : v - f p = 2 ^ j ∨ f p - v = 2 ^ j) (h : ofv f n = 0) : ofv (upd f p v) n ≠ 0 := by
  have hf1 : Byt (upd f p v) := upd_byt hf p hv
  intro hc
  have a := (ofv_zero hf n).1 h
  have b := (ofv_zero hf1 n).1 hc
  rw [tot_upd _ _ _ n hn] at b
  have e : wgt p v - wgt p (f p) = wgt p (v - f p) := by unfold wgt; split <;> omega
  rw [e] at b
  obtain rfl | rfl | rfl | rfl | rfl | rfl | rfl | rfl : j = 0 ∨ j = 1 ∨ j = 2 ∨ j = 3 ∨ j = 4 ∨ j = 5 ∨ j = 6 ∨ j = 7 := by omega
  all_goals
    simp only [show (2 : Int) ^ 0 = 1 from rfl, show (2 : Int) ^ 1 = 2 from rfl, show (2 : Int) ^ 2 = 4 from rfl, show (2 : Int) ^ 3 = 8 from rfl, show (2 : Int) ^ 4 = 16 from rfl, show (2 : Int) ^ 5 = 32 from rfl, show (2 : Int) ^ 6 = 64 from rfl, show (2 : Int) ^ 7 = 128 from rfl] at hd
    unfold wgt at b
    split at b <;> omega
end Go.Proofs.Ythjgecdnlpdcdaa
/- The program's row: three parts one behind the other. -/
namespace Go.Proofs.Ythjgecdnlpdcdaa
set_option maxRecDepth 100000
open Go.RowKit
/-- The two blocks of row: the result and p. -/
structure RowW (w wr : World) (p : Int × Bool) : Prop where
  c0 : wr.cell? ⟨w.heap.size, 0, none⟩ = some (.int .u16 0)
  c1 : wr.cell? ⟨w.heap.size, 1, none⟩ = some (.bool false)
  c2 : wr.cell? ⟨w.heap.size + 1, 0, none⟩ = some (.int .u16 p.1)
  c3 : wr.cell? ⟨w.heap.size + 1, 1, none⟩ = some (.bool p.2)
  f0 : wr.frozen? ⟨w.heap.size, 0, none⟩ = false
  f1 : wr.frozen? ⟨w.heap.size, 1, none⟩ = false
  f2 : wr.frozen? ⟨w.heap.size + 1, 0, none⟩ = false
  f3 : wr.frozen? ⟨w.heap.size + 1, 1, none⟩ = false
  below : Below w.heap.size w wr
theorem RowW.start (w : World) : RowW w ((w.alloc (Obj.cells #[.int .u16 0, .bool false] 84)).alloc (Obj.cells #[.int .u16 0, .bool false] 84)) (0, false) := by
  constructor
  case below => exact below_alloc2 w _ _
  all_goals go_simp
theorem lt_of_cell {w : World} {b o : Nat} {v : Value} (h : w.cell? ⟨b, o, none⟩ = some v) : b < w.heap.size := World.block_lt_of_cell? w _ h
theorem RowW.next {w wr w' : World} {p q : Int × Bool} (h : RowW w wr p) (hb : Below wr.heap.size wr w') :
    RowW w ((w'.setCell ⟨w.heap.size + 1, 0, none⟩ (.int .u16 q.1)).setCell ⟨w.heap.size + 1, 1, none⟩ (.bool q.2)) q := by
  obtain ⟨h0, h1, h2, h3, g0, g1, g2, g3, hbl⟩ := h
  have l0 := lt_of_cell h0
  have l1 := lt_of_cell h2
  have e0 := (hb.cell (p := ⟨w.heap.size, 0, none⟩) l0).trans h0
  have e1 := (hb.cell (p := ⟨w.heap.size, 1, none⟩) l0).trans h1
  have e2 := (hb.cell (p := ⟨w.heap.size + 1, 0, none⟩) l1).trans h2
  have e3 := (hb.cell (p := ⟨w.heap.size + 1, 1, none⟩) l1).trans h3
  have k0 := (hb.frozen (p := ⟨w.heap.size, 0, none⟩) l0).trans g0
  have k1 := (hb.frozen (p := ⟨w.heap.size, 1, none⟩) l0).trans g1
  have k2 := (hb.frozen (p := ⟨w.heap.size + 1, 0, none⟩) l1).trans g2
  have k3 := (hb.frozen (p := ⟨w.heap.size + 1, 1, none⟩) l1).trans g3
  have hb2 : Below w.heap.size w w' := hbl.trans (hb.mono hbl.size)
  exact ⟨by go_simp, by go_simp, by go_simp, by go_simp, by go_simp, by go_simp, by go_simp, by go_simp, (hb2.setCell (by simp) _).setCell (by simp) _⟩
set_option maxHeartbeats 400000 in
theorem row_any (w : World) (g : Nat) (A0 A1 A2 : Option Addr) (n0 n1 n2 c0 c1 c2 : Nat) (f0 f1 f2 : Nat → Int) (hf0 : Byt f0) (hf1 : Byt f1) (hf2 : Byt f2)
    (hn0 : n0 ≤ 4611686018427387900) (hn1 : n1 ≤ 4611686018427387900) (hn2 : n2 ≤ 4611686018427387900) (hc0 : n0 ≤ c0) (hc1 : n1 ≤ c1) (hc2 : n2 ≤ c2)
    (hg0 : w.cell? ⟨g, 0, none⟩ = some (.slice A0 n0 c0)) (hg1 : w.cell? ⟨g, 1, none⟩ = some (.slice A1 n1 c1)) (hg2 : w.cell? ⟨g, 2, none⟩ = some (.slice A2 n2 c2))
    (hr0 : Rd w w.heap.size A0 n0 f0) (hr1 : Rd w w.heap.size A1 n1 f1) (hr2 : Rd w w.heap.size A2 n2 f2) :
    Calls Try.prog 40 #[.slice (some ⟨g, 0, none⟩) 3 3] w fun e w' =>
      e = .returned (.agg #[.int .u16 (fld f2 (fld f1 (fld f0 (0, false) n0) n1) n2).1, .bool (fld f2 (fld f1 (fld f0 (0, false) n0) n1) n2).2]) ∧ Below w.heap.size w w' := by
  have HG0 := Lib.hid hg0
  have HG1 := Lib.hid hg1
  have HG2 := Lib.hid hg2
  have hlt := lt_of_cell hg0
  have HR0 := Lib.hid hr0
  have HR1 := Lib.hid hr1
  have HR2 := Lib.hid hr2
  have b1 := fld_bd (p := (0, false)) hf0 ⟨by omega, by omega⟩ n0
  have b2 := fld_bd hf1 b1 n1
  have HF0 := Lib.hid hf0
  have HF1 := Lib.hid hf1
  have HF2 := Lib.hid hf2
  clear hg0 hg1 hg2 hr0 hr1 hr2 hf0 hf1 hf2
  obtain ⟨q1, hq1⟩ : ∃ q, q = fld f0 (0, false) n0 := ⟨_, rfl⟩
  obtain ⟨q2, hq2⟩ : ∃ q, q = fld f1 q1 n1 := ⟨_, rfl⟩
  obtain ⟨q3, hq3⟩ : ∃ q, q = fld f2 q2 n2 := ⟨_, rfl⟩
  rw [← hq1, ← hq2, ← hq3]
  rw [← hq1] at b1 b2
  rw [← hq2] at b2
  have HQ1 := Lib.hid hq1
  have HQ2 := Lib.hid hq2
  have HQ3 := Lib.hid hq3
  clear hq1 hq2 hq3
  obtain ⟨b11, b12⟩ := b1
  obtain ⟨b21, b22⟩ := b2
  go_enter Try.func40, Try.ntmps40
  go_wp2
  go_loopw [8] (fun i wr => ∃ k : Nat, k ≤ 3 ∧ i = .int .i64 k ∧ RowW w wr (match k with | 0 => (0, false) | 1 => q1 | 2 => q2 | _ => q3)) (fun i _ => 3 - (intOf i).toNat)
  case atStart => exact ⟨0, by omega, rfl, RowW.start w⟩
  case round =>
    obtain ⟨k, hk, rfl, hw⟩ := hrel
    have HW := Lib.hid hw
    obtain rfl | rfl | rfl | rfl : k = 0 ∨ k = 1 ∨ k = 2 ∨ k = 3 := by omega
    · obtain ⟨h0, h1, h2, h3, g0, g1, g2, g3, hbl⟩ := hw
      have hcell := (hbl.cell (p := ⟨g, 0, none⟩) hlt).trans HG0.out
      have HA := Lib.hid (add_any 0 false A0 n0 c0 f0 HF0.out hn0 hc0 wr (by omega) (by omega) ((HR0.out.keep hbl).more hbl.size))
      rw [← HQ1.out] at HA
      go_wp2_with (go_at_call 34; refine HA.out.mono ?_; rintro e w5 ⟨rfl, hb5⟩; have HN := Lib.hid (RowW.next (q := q1) HW.out hb5); have l1 := lt_of_cell h2; have e2 := (hb5.cell (p := ⟨w.heap.size + 1, 0, none⟩) l1).trans h2; have e3 := (hb5.cell (p := ⟨w.heap.size + 1, 1, none⟩) l1).trans h3; have k2 := (hb5.frozen (p := ⟨w.heap.size + 1, 0, none⟩) l1).trans g2; have k3 := (hb5.frozen (p := ⟨w.heap.size + 1, 1, none⟩) l1).trans g3)
      go_roundw
      case rel => exact ⟨1, by omega, rfl, HN.out⟩
      case measure => simp [intOf]
    · obtain ⟨h0, h1, h2, h3, g0, g1, g2, g3, hbl⟩ := hw
      have hcell := (hbl.cell (p := ⟨g, 1, none⟩) hlt).trans HG1.out
      have HA := Lib.hid (add_any q1.1 q1.2 A1 n1 c1 f1 HF1.out hn1 hc1 wr b11 b12 ((HR1.out.keep hbl).more hbl.size))
      rw [← HQ2.out] at HA
      go_wp2_with (go_at_call 34; refine HA.out.mono ?_; rintro e w5 ⟨rfl, hb5⟩; have HN := Lib.hid (RowW.next (q := q2) HW.out hb5); have l1 := lt_of_cell h2; have e2 := (hb5.cell (p := ⟨w.heap.size + 1, 0, none⟩) l1).trans h2; have e3 := (hb5.cell (p := ⟨w.heap.size + 1, 1, none⟩) l1).trans h3; have k2 := (hb5.frozen (p := ⟨w.heap.size + 1, 0, none⟩) l1).trans g2; have k3 := (hb5.frozen (p := ⟨w.heap.size + 1, 1, none⟩) l1).trans g3)
      go_roundw
      case rel => exact ⟨2, by omega, rfl, HN.out⟩
      case measure => simp [intOf]
    · obtain ⟨h0, h1, h2, h3, g0, g1, g2, g3, hbl⟩ := hw
      have hcell := (hbl.cell (p := ⟨g, 2, none⟩) hlt).trans HG2.out
      have HA := Lib.hid (add_any q2.1 q2.2 A2 n2 c2 f2 HF2.out hn2 hc2 wr b21 b22 ((HR2.out.keep hbl).more hbl.size))
      rw [← HQ3.out] at HA
      go_wp2_with (go_at_call 34; refine HA.out.mono ?_; rintro e w5 ⟨rfl, hb5⟩; have HN := Lib.hid (RowW.next (q := q3) HW.out hb5); have l1 := lt_of_cell h2; have e2 := (hb5.cell (p := ⟨w.heap.size + 1, 0, none⟩) l1).trans h2; have e3 := (hb5.cell (p := ⟨w.heap.size + 1, 1, none⟩) l1).trans h3; have k2 := (hb5.frozen (p := ⟨w.heap.size + 1, 0, none⟩) l1).trans g2; have k3 := (hb5.frozen (p := ⟨w.heap.size + 1, 1, none⟩) l1).trans g3)
      go_roundw
      case rel => exact ⟨3, by omega, rfl, HN.out⟩
      case measure => simp [intOf]
    · obtain ⟨h0, h1, h2, h3, g0, g1, g2, g3, hbl⟩ := hw
      go_wp2
      refine bodyPost_ret (v := .agg #[.int .u16 q3.1, .bool q3.2]) (by simp [results, Try.results40, go_sem, h0, h1]) rfl ⟨rfl, ?_⟩
      exact (hbl.setCell (by simp) _).setCell (by simp) _
end Go.Proofs.Ythjgecdnlpdcdaa
