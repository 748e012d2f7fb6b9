/- Stage 19: the document's free; what is told as a row of numbers. -/
import Derived.Test.YtfchmmojhfjibaaMge
namespace Go.Proofs.Ytfchmmojhfjibaa
set_option maxRecDepth 100000
open Go.RowKit Go.Shelf
/-- Numbers, as cells. -/
def iV (f : Nat → Int) (j : Nat) : Value := .int .i64 (f j)
/-- A row of k numbers is told; what lay there lies there still. -/
def OutI (k : Nat) (f : Nat → Int) (w : World) : Ending → World → Prop := fun e w' => ∃ A c, e = .returned (.slice A k c) ∧ k ≤ c ∧ c ≤ 9223372036854775807 ∧ RdC w' w'.heap.size A k (iV f) ∧ Below w.heap.size w w'
theorem OutI.of {w0 w w' : World} {k c : Nat} {f : Nat → Int} {A : Option Addr} {g : Nat → Value} {t : TypeId} {base : Nat} (h : OwnC w' base t 1 A k c g) (hg : ∀ j, j < k → iV f j = g j) (hb : Below w.heap.size w w') (hw : w0.heap.size ≤ w.heap.size) (hb0 : Below w0.heap.size w0 w) : OutI k f w0 (.returned (.slice A k c)) w' := by
  have hr := h.rd
  rw [Nat.mul_one] at hr
  exact ⟨A, c, rfl, h.cap, Nat.le_trans h.cap_le (by unfold maxLen; omega), hr.same hg, hb0.trans (hb.mono hw)⟩
theorem rorder_out (l : List Wt) (A : Option Addr) (c : Nat) (w : World) (h : Lw w w.heap.size A c l) : Calls Try.prog 12 #[.slice A l.length c] w (OutI (ordL l).length (fun j => (oa (ordL l) j : Int)) w) := by
  refine (rorder_any l A c w h).mono ?_
  rintro e w' ⟨A2, c2, rfl, ho, hb⟩
  exact OutI.of (w := w) ho (fun j _ => rfl) hb (Nat.le_refl _) (Below.refl _ _)
theorem made_i (w : World) (n : Nat) (hn : n ≤ 1000000) : ∃ w', (Instr.makeSlice 23 (.int .i64 (n : Int)) (.int .i64 (n : Int))).run Try.prog w = .ok (.slice (some ⟨w.heap.size, 0, none⟩) n n) w' ∧ OwnC w' w.heap.size 3 1 (some ⟨w.heap.size, 0, none⟩) n n (fun _ => .int .i64 0) ∧ w.grownBy w' none := by
  obtain ⟨i0, hi0, hz0, hz1, hz2⟩ := info_parts Try.infoIT
  exact run_make_vals (P := Try.prog) w w.heap.size 23 3 i0 (.int .i64 0) Try.underlying23 hi0 hz0 hz1 rfl n (by rw [hz2]; omega) (by unfold maxLen; omega) (Nat.le_refl _)
/-- The first slot of a row that is free. -/
theorem rfree_any (t : Nat → Int) (o k m : Nat) (A B : Option Addr) (c d : Nat) (w : World) (j : Nat) (hj : j < m) (hm9 : m ≤ 100000) (hf : t (slN o k m j) < 0) (hlow : ∀ x, x < j → ¬ t (slN o k m x) < 0) (hm : 0 < m) (hA : RdC w w.heap.size A m (iV t)) (hB : RdC w w.heap.size B m (sf o k m)) : Calls Try.prog 31 #[.slice A m c, .slice B m d] w (ret (.int .i64 (slN o k m j : Int)) w) := by
  rcases hA with h0 | ⟨a, aoff, rfl, ha, hca⟩
  · omega
  rcases hB with h0 | ⟨b, boff, rfl, hb, hcb⟩
  · omega
  have HCA := Lib.hid hca
  have HCB := Lib.hid hcb
  have HFR := Lib.hid hf
  have HLW := Lib.hid hlow
  have HAB := Lib.hid (show a < w.heap.size ∧ b < w.heap.size from ⟨ha, hb⟩)
  clear hf hlow hca hcb ha hb
  go_enter Try.func31, Try.ntmps31
  go_wp2_with fail
  go_loopw [5] (fun vi wr => ∃ i : Nat, i ≤ j ∧ vi = .int .i64 (i : Int) ∧ Below w.heap.size w wr) (fun vi _ => j - (intOf vi).toNat)
  case atStart => exact ⟨0, Nat.zero_le _, rfl, Below.refl _ _⟩
  case round =>
    obtain ⟨i, hi, rfl, hbw⟩ := hrel
    have HBW := Lib.hid hbw
    have l1 : (i : Int) < (m : Int) := by omega
    have i0 : (0 : Int) ≤ (i : Int) := by omega
    have i2 : ((i : Int)).toNat = i := by omega
    have zi : IntKind.i64.wrap ((i : Int) + 1) = (i : Int) + 1 := by rw [IntKind.wrap_i64]; omega
    have hs := slN_lt (o := o) (k := k) hm i
    have xb := (hbw.cell (p := ⟨b, boff + i, none⟩) HAB.out.2).trans (HCB.out i (by omega))
    have xa := (hbw.cell (p := ⟨a, aoff + slN o k m i, none⟩) HAB.out.1).trans (HCA.out _ hs)
    unfold sf at xb
    unfold iV at xa
    have HLI : Hid (i < j → ¬ t (slN o k m i) < 0) := Lib.hid fun h => by have := HLW.out i h; omega
    have HFI : Hid (i = j → t (slN o k m i) < 0 ∧ slN o k m i = slN o k m j) := Lib.hid fun h => by rw [h]; exact ⟨HFR.out, rfl⟩
    obtain ⟨s, hs'⟩ : ∃ s, s = slN o k m i := ⟨_, rfl⟩
    rw [← hs'] at hs xb xa HLI HFI
    obtain ⟨v, hv⟩ : ∃ v, v = t s := ⟨_, rfl⟩
    rw [← hv] at xa HLI HFI
    have s1 : (s : Int) < (m : Int) := by omega
    have s0 : (0 : Int) ≤ (s : Int) := by omega
    have s2 : ((s : Int)).toNat = s := by omega
    clear hs' hv hbw
    by_cases e : i = j
    · have d1 : v < 0 := (HFI.out e).1
      have HE := Lib.hid (HFI.out e).2
      clear e hs
      go_wp2_with fail
      go_ret
      exact ⟨by rw [← HE.out]; rfl, HBW.out⟩
    · have d1 : ¬ v < 0 := HLI.out (by omega)
      clear hs
      go_wp2_with fail
      go_roundw
      case rel => exact ⟨i + 1, by omega, by go_num, HBW.out⟩
      case measure => simp [intOf]; omega
end Go.Proofs.Ytfchmmojhfjibaa
