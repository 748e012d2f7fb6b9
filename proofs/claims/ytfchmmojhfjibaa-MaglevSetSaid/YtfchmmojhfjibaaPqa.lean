/- Stage 18: permutations in pure words; what is asked of the program. -/
import Derived.Test.YtfchmmojhfjibaaPma
import Derived.Test.YtfchmmojhfjibaaHn
namespace Go.Proofs.Ytfchmmojhfjibaa
set_option maxRecDepth 100000
open Go.RowKit Go.Shelf
/-- A permutation: offset, skip, how many slots. -/
structure Pe where
  o : Int
  k : Int
  m : Int
namespace Pe
noncomputable def may (p : Pe) : Bool := szP p.m && (decide (0 ≤ p.o) && (decide (p.o < p.m) && (decide (0 < p.k) && decide (p.k < p.m))))
/-- .. as numbers that may be. -/
structure Ok (p : Pe) (o k m : Nat) : Prop where
  eo : p.o = (o : Int)
  ek : p.k = (k : Int)
  em : p.m = (m : Int)
  sz : szP (m : Int) = true
  lo : o < m
  pk : 0 < k
  lk : k < m
def cells (p : Pe) : Array Value := #[.int .i64 p.o, .int .i64 p.k, .int .i64 p.m]
theorem Ok.may_ {p : Pe} {o k m : Nat} (h : p.Ok o k m) : p.may = true := by
  have := h.lo
  have := h.pk
  have := h.lk
  unfold may
  simp only [Bool.and_eq_true, decide_eq_true_eq]
  rw [h.eo, h.ek, h.em]
  exact ⟨h.sz, by omega, by omega, by omega, by omega⟩
end Pe
/-- The i-th slot. -/
def slN (o k m i : Nat) : Nat := (o + i * k) % m
theorem prime_mul {m a b : Nat} (hm : 2 ≤ m) (hp : ld m = m) (hb0 : 0 < b) (hb : b < m) (h : (a * b) % m = 0) : a % m = 0 := by
  have hc : Nat.Coprime m b := by
    unfold Nat.Coprime
    have h1 : Nat.gcd m b ∣ m := Nat.gcd_dvd_left m b
    have h2 : Nat.gcd m b ∣ b := Nat.gcd_dvd_right m b
    have h3 : 0 < Nat.gcd m b := Nat.gcd_pos_of_pos_left b (by omega)
    have h4 : Nat.gcd m b ≤ b := Nat.le_of_dvd hb0 h2
    rcases (show Nat.gcd m b = 1 ∨ 2 ≤ Nat.gcd m b by omega) with q | q
    · exact q
    · have hl := ld_at hm
      rw [hp] at hl
      exact absurd (Nat.mod_eq_zero_of_dvd h1) (hl.low _ q (by omega))
  have h5 : m ∣ a * b := Nat.dvd_of_mod_eq_zero h
  exact Nat.mod_eq_zero_of_dvd (hc.dvd_of_dvd_mul_right h5)
theorem slN_lt {o k m : Nat} (hm : 0 < m) (i : Nat) : slN o k m i < m := Nat.mod_lt _ hm
theorem slN_inj {o k m i j : Nat} (hm : 2 ≤ m) (hp : ld m = m) (hk0 : 0 < k) (hk : k < m) (hi : i < m) (hj : j < m) (h : slN o k m i = slN o k m j) : i = j := by
  have key : ∀ {i j : Nat}, i ≤ j → j < m → slN o k m i = slN o k m j → i = j := by
    intro i j hij hj h
    unfold slN at h
    have h1 : ((j - i) * k) % m = 0 := by
      have e : o + j * k = (o + i * k) + (j - i) * k := by
        rw [Nat.add_assoc, ← Nat.add_mul, show i + (j - i) = j by omega]
      rw [e] at h
      obtain ⟨x, hx⟩ : ∃ x, x = (j - i) * k := ⟨_, rfl⟩
      obtain ⟨y, hy⟩ : ∃ y, y = o + i * k := ⟨_, rfl⟩
      rw [← hx, ← hy] at h
      rw [← hx]
      have a1 := Nat.div_add_mod y m
      have a2 := Nat.div_add_mod (y + x) m
      rw [← h] at a2
      have a3 : y / m ≤ (y + x) / m := Nat.div_le_div_right (by omega)
      obtain ⟨q, hq⟩ : ∃ q, (y + x) / m = y / m + q := ⟨(y + x) / m - y / m, by omega⟩
      rw [hq, Nat.mul_add] at a2
      have : x = m * q := by omega
      rw [this, Nat.mul_mod_right]
    have h2 := prime_mul hm hp hk0 hk h1
    have h3 : (j - i) % m = j - i := Nat.mod_eq_of_lt (by omega)
    omega
  rcases Nat.le_total i j with q | q
  · exact key q hj h
  · exact (key q hi h.symm).symm
/-- All slots. -/
def slL (o k m : Nat) : List Nat := (List.range m).map (slN o k m)
theorem slL_len (o k m : Nat) : (slL o k m).length = m := by
  unfold slL
  rw [List.length_map, List.length_range]
end Go.Proofs.Ytfchmmojhfjibaa
