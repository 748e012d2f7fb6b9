import Derived.Test.YthjgecdnlpdcdaaM1
/- Layer 4's words: a packet's bytes, what Read and Write tell; what is written is read, what is read is written. -/
namespace Go.Proofs.Ythjgecdnlpdcdaa
open Go.RowKit
--CUT
/-- The first four bytes as a number; the payload's length. -/
def fst6 (f : Nat → Int) : Int := ((f 0 * 256 + f 1) * 256 + f 2) * 256 + f 3
def ln6 (f : Nat → Int) : Nat := (f 4 * 256 + f 5).toNat
/-- The chain of a packet. -/
def chn6 (f : Nat → Int) : Int × Nat × Int := chn (fun k => f (40 + k)) (ln6 f) 8 (f 6) 0
/-- What Read tells. -/
def rd6E (f : Nat → Int) (n : Nat) : Int :=
  if n < 40 then 4 else if f 0 / 16 ≠ 6 then 5 else if n - 40 < ln6 f then 4 else (chn6 f).2.2
def cls6 (f : Nat → Int) : Int := f 0 % 16 * 16 + f 1 / 16
def lab6 (f : Nat → Int) : Int := (f 1 % 16 * 256 + f 2) * 256 + f 3
/-- A header's bytes. -/
def hdr6 (cls lab next hops : Int) (s d : Nat → Int) (L : Nat) (k : Nat) : Int :=
  if k = 0 then 96 + cls / 16 else if k = 1 then cls % 16 * 16 + lab / 65536 else if k = 2 then lab / 256 % 256 else if k = 3 then lab % 256
  else if k = 4 then (L : Int) / 256 else if k = 5 then (L : Int) % 256 else if k = 6 then next else if k = 7 then hops else if k < 24 then s (k - 8) else if k < 40 then d (k - 24) else 0
theorem hdr6_byt {cls lab next hops : Int} {s d : Nat → Int} {L : Nat} (h1 : 0 ≤ cls ∧ cls ≤ 255) (h2 : 0 ≤ lab ∧ lab ≤ 1048575) (h3 : 0 ≤ next ∧ next ≤ 255) (h4 : 0 ≤ hops ∧ hops ≤ 255) (hs : Byt s) (hd : Byt d) (hL : L ≤ 65535) : Byt (hdr6 cls lab next hops s d L) := fun k => by
  have a := hs (k - 8)
  have b := hd (k - 24)
  unfold hdr6
  repeat' split
  all_goals omega
theorem fst6_cls {f : Nat → Int} (hf : Byt f) : fst6 f / 268435456 = f 0 / 16 ∧ fst6 f / 1048576 % 256 = cls6 f ∧ fst6 f % 1048576 = lab6 f ∧ 0 ≤ fst6 f ∧ fst6 f ≤ 4294967295 := by
  have a := hf 0
  have b := hf 1
  have c := hf 2
  have d := hf 3
  unfold fst6 cls6 lab6
  omega
/-- What stands in bytes that begin with a written packet. -/
theorem hdr6_read {cls lab next hops proto : Int} {s d fc : Nat → Int} {cn n : Nat} (h1 : 0 ≤ cls ∧ cls ≤ 255) (h2 : 0 ≤ lab ∧ lab ≤ 1048575) (hL : cn + n ≤ 65535) (hc : chn fc cn 8 next 0 = (proto, cn, 0)) {g : Nat → Int} (N : Nat) (hN : 40 + (cn + n) ≤ N)
    (hh : ∀ k, k < 40 → g k = hdr6 cls lab next hops s d (cn + n) k) (hg : ∀ k, k < cn → g (40 + k) = fc k) :
    rd6E g N = 0 ∧ ln6 g = cn + n ∧ chn6 g = (proto, cn, 0) ∧ cls6 g = cls ∧ lab6 g = lab ∧ g 6 = next ∧ g 7 = hops ∧ (∀ k, k < 16 → g (8 + k) = s k) ∧ (∀ k, k < 16 → g (24 + k) = d k) := by
  have e0 : g 0 = 96 + cls / 16 := by rw [hh 0 (by omega)]; simp [hdr6]
  have e1 : g 1 = cls % 16 * 16 + lab / 65536 := by rw [hh 1 (by omega)]; simp [hdr6]
  have e2 : g 2 = lab / 256 % 256 := by rw [hh 2 (by omega)]; simp [hdr6]
  have e3 : g 3 = lab % 256 := by rw [hh 3 (by omega)]; simp [hdr6]
  have e4 : g 4 = ((cn + n : Nat) : Int) / 256 := by rw [hh 4 (by omega)]; simp [hdr6]
  have e5 : g 5 = ((cn + n : Nat) : Int) % 256 := by rw [hh 5 (by omega)]; simp [hdr6]
  have e6 : g 6 = next := by rw [hh 6 (by omega)]; simp [hdr6]
  have e7 : g 7 = hops := by rw [hh 7 (by omega)]; simp [hdr6]
  have es : ∀ k, k < 16 → g (8 + k) = s k := fun k hk => by
    rw [hh (8 + k) (by omega)]
    unfold hdr6
    rw [if_neg (by omega), if_neg (by omega), if_neg (by omega), if_neg (by omega), if_neg (by omega), if_neg (by omega), if_neg (by omega), if_neg (by omega), if_pos (by omega)]
    congr 1
    omega
  have ed : ∀ k, k < 16 → g (24 + k) = d k := fun k hk => by
    rw [hh (24 + k) (by omega)]
    unfold hdr6
    rw [if_neg (by omega), if_neg (by omega), if_neg (by omega), if_neg (by omega), if_neg (by omega), if_neg (by omega), if_neg (by omega), if_neg (by omega), if_neg (by omega), if_pos (by omega)]
    congr 1
    omega
  have el : ln6 g = cn + n := by unfold ln6; rw [e4, e5]; omega
  have ec : chn6 g = (proto, cn, 0) := by
    unfold chn6
    rw [el, e6]
    exact (chn_same 8 next 0 proto cn hc (Nat.zero_le _)).1 (by omega) hg
  refine ⟨?_, el, ec, ?_, ?_, e6, e7, es, ed⟩
  · unfold rd6E
    rw [if_neg (by omega), if_neg (by rw [e0]; omega), el, if_neg (by omega), ec]
  · unfold cls6; rw [e0, e1]; omega
  · unfold lab6; rw [e1, e2, e3]; omega
/-- What is known of a packet that was read. -/
theorem rd6_ok {f : Nat → Int} {n : Nat} (h : rd6E f n = 0) : 40 ≤ n ∧ f 0 / 16 = 6 ∧ 40 + ln6 f ≤ n ∧ ∃ p m, chn6 f = (p, m, 0) ∧ m ≤ ln6 f := by
  unfold rd6E at h
  split at h
  · omega
  split at h
  · omega
  split at h
  · omega
  rename_i q1 q2 q3
  refine ⟨by omega, by omega, by omega, (chn6 f).1, (chn6 f).2.1, ?_, ?_⟩
  · rw [← h]
  · exact (chn_same (f := fun k => f (40 + k)) (g := fun k => f (40 + k)) (N := ln6 f) (N' := ln6 f) 8 (f 6) 0 (chn6 f).1 (chn6 f).2.1 (show chn6 f = ((chn6 f).1, (chn6 f).2.1, 0) by rw [← h]) (Nat.zero_le _)).2.2
theorem ln6_le {f : Nat → Int} (hf : Byt f) : ln6 f ≤ 65535 := by
  have a := hf 4
  have b := hf 5
  unfold ln6
  omega
/-- What was read is written as it was. -/
theorem rd6_write {f : Nat → Int} (hf : Byt f) {n : Nat} (h : rd6E f n = 0) (s d : Nat → Int) (hs : ∀ k, k < 16 → s k = f (8 + k)) (hd : ∀ k, k < 16 → d k = f (24 + k)) (k : Nat) (hk : k < 40) :
    hdr6 (cls6 f) (lab6 f) (f 6) (f 7) s d (ln6 f) k = f k := by
  obtain ⟨_, a2, _⟩ := rd6_ok h
  have b0 := hf 0
  have b1 := hf 1
  have b2 := hf 2
  have b3 := hf 3
  have b4 := hf 4
  have b5 := hf 5
  by_cases h8 : k < 8
  · obtain rfl | rfl | rfl | rfl | rfl | rfl | rfl | rfl : k = 0 ∨ k = 1 ∨ k = 2 ∨ k = 3 ∨ k = 4 ∨ k = 5 ∨ k = 6 ∨ k = 7 := by omega
    · show 96 + cls6 f / 16 = _; unfold cls6; omega
    · show cls6 f % 16 * 16 + lab6 f / 65536 = _; unfold cls6 lab6; omega
    · show lab6 f / 256 % 256 = _; unfold lab6; omega
    · show lab6 f % 256 = _; unfold lab6; omega
    · show (ln6 f : Int) / 256 = _; unfold ln6; omega
    · show (ln6 f : Int) % 256 = _; unfold ln6; omega
    · rfl
    · rfl
  · unfold hdr6
    rw [if_neg (by omega), if_neg (by omega), if_neg (by omega), if_neg (by omega), if_neg (by omega), if_neg (by omega), if_neg (by omega), if_neg (by omega)]
    by_cases h24 : k < 24
    · rw [if_pos h24, hs _ (by omega)]
      congr 1
      omega
    · rw [if_neg h24, if_pos hk, hd _ (by omega)]
      congr 1
      omega
/-- The chain of a packet that was read, alone. -/
theorem rd6_chain {f : Nat → Int} {p : Int} {m : Nat} (h : chn6 f = (p, m, 0)) {o : Nat → Int} (ho : ∀ k, k < m → o k = f (40 + k)) : chn o m 8 (f 6) 0 = (p, m, 0) :=
  (chn_same 8 (f 6) 0 p m h (Nat.zero_le _)).1 (Nat.le_refl _) ho
end Go.Proofs.Ythjgecdnlpdcdaa
