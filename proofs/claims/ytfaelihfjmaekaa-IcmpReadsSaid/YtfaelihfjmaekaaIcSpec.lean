/- Layer 6's words: errors' kinds and numbers, what a received error tells, what is written, and that writing then reading gives the same. Nothing of the program. -/
import Derived.Test.YtfaelihfjmaekaaI6Spec
import Derived.Test.YtfaelihfjmaekaaSegSpec

namespace Go.Proofs.Ytfaelihfjmaekaa

open Go.RowKit

--CUT
/-- Is a type an error's? -/
def errK (v6 : Bool) (k : Int) : Bool := if v6 = true then decide (1 ≤ k ∧ k ≤ 4) else decide (k = 3 ∨ k = 4 ∨ k = 5 ∨ k = 11 ∨ k = 12)
/-- The header of a packet within: what is wrong with it, where its segment begins, its protocol. -/
def win4 (f : Nat → Int) (n : Nat) : Int × Nat × Int :=
  if n < 20 then (4, 0, 0) else if f 0 / 16 ≠ 4 ∨ 4 * (f 0 % 16).toNat < 20 then (5, 0, 0) else if n < 4 * (f 0 % 16).toNat then (4, 0, 0) else if w2 f 6 % 8192 ≠ 0 then (11, 0, 0) else (0, 4 * (f 0 % 16).toNat, f 9)
/-- The chain of a packet within. -/
def wch (f : Nat → Int) (n : Nat) : Int × Nat × Int := chn (fun k => f (40 + k)) (n - 40) 8 (f 6) 0
def win6 (f : Nat → Int) (n : Nat) : Int × Nat × Int :=
  if n < 40 then (4, 0, 0) else if f 0 / 16 ≠ 6 then (5, 0, 0) else if (wch f n).2.2 ≠ 0 then ((wch f n).2.2, 0, 0) else (0, 40 + (wch f n).2.1, (wch f n).1)
def win (v6 : Bool) (f : Nat → Int) (n : Nat) : Int × Nat × Int := if v6 = true then win6 f n else win4 f n
/-- What Within tells. -/
def winE (v6 : Bool) (f : Nat → Int) (n : Nat) : Int :=
  if (win v6 f n).1 ≠ 0 then (win v6 f n).1 else if (win v6 f n).2.2 ≠ 6 ∧ (win v6 f n).2.2 ≠ 17 then 10 else if n - (win v6 f n).2.1 < 4 then 4 else 0
/-- The flow's ends, its ports. -/
def winA (v6 : Bool) (f : Nat → Int) (a4 a6 k : Nat) : Int := if v6 = true then f (a6 + k) else if k < 4 then f (a4 + k) else 0
def winS (v6 : Bool) (f : Nat → Int) : Nat → Int := winA v6 f 16 24
def winD (v6 : Bool) (f : Nat → Int) : Nat → Int := winA v6 f 12 8
theorem winA_byt {v6 : Bool} {f : Nat → Int} (hf : Byt f) (a4 a6 : Nat) : Byt (winA v6 f a4 a6) := fun k => by
  unfold winA
  have a := hf (a6 + k)
  have b := hf (a4 + k)
  repeat' split
  all_goals omega
/-- The sum of a message. -/
def mS (v6 : Bool) (s d : Nat → Int) (n : Nat) : Int := if v6 = true then psq true s d 58 n else 0
theorem mS_bd (v6 : Bool) {s d : Nat → Int} (hs : Byt s) (hd : Byt d) (n : Nat) : 0 ≤ mS v6 s d n ∧ mS v6 s d n ≤ 65535 := by
  unfold mS
  split
  · exact psq_bd true hs hd (by omega) (by omega) n
  · omega
/-- What Read tells. -/
def icE (v6 : Bool) (S : Int) (f : Nat → Int) (n : Nat) : Int :=
  if n < 8 then 4 else if rgt S f n ≠ 0 then 6 else if errK v6 (f 0) = false then 10 else winE v6 (fun k => f (8 + k)) (n - 8)
/-- What Write tells: an error, the bytes. -/
def icX (v6 : Bool) (kind : Int) (n : Nat) : Int := if errK v6 kind = false then 10 else if 1652 < n then 3 else 0
def icH (kind code su : Int) (r : Nat → Int) (k : Nat) : Int :=
  if k = 0 then kind else if k = 1 then code else if k = 2 then su / 256 else if k = 3 then su % 256 else if k < 8 then r (k - 4) else 0
def icB (kind code su : Int) (r f : Nat → Int) : Nat → Int := cat 8 (icH kind code su r) f
theorem icH_byt {kind code su : Int} {r : Nat → Int} (h1 : 0 ≤ kind ∧ kind ≤ 255) (h2 : 0 ≤ code ∧ code ≤ 255) (h3 : 0 ≤ su ∧ su ≤ 65535) (hr : Byt r) : Byt (icH kind code su r) := fun k => by
  have a := hr (k - 4)
  unfold icH
  repeat' split
  all_goals omega
theorem icB_sum (kind code su : Int) (r f : Nat → Int) : icB kind code su r f = lay2 (icB kind code 0 r f) 2 su := by
  funext k
  unfold lay2 upd icB cat icH
  by_cases h3 : k = 3
  · subst h3
    simp
  · rw [if_neg h3]
    by_cases h2 : k = 2
    · subst h2
      simp
    · rw [if_neg h2]
      simp [h2, h3]
/-- A written message, read. -/
theorem ic_back {v6 : Bool} {kind code S : Int} {r f : Nat → Int} {n : Nat} (h1 : 0 ≤ kind ∧ kind ≤ 255) (h2 : 0 ≤ code ∧ code ≤ 255) (hr : Byt r) (hf : ∀ k, 0 ≤ f k ∧ f k ≤ 255) (hS : 0 ≤ S ∧ S ≤ 65535) (hx : icX v6 kind n = 0) (hcat : Byt (icB kind code 0 r f)) (g : Nat → Int)
    (hg : g = icB kind code (rgt S (icB kind code 0 r f) (8 + n)) r f) : rgt S g (8 + n) = 0 ∧ g 0 = kind ∧ g 1 = code ∧ (∀ k, g (8 + k) = f k) ∧ errK v6 kind = true ∧ n ≤ 1652 := by
  have hC := rgt_bd hcat hS (8 + n)
  have z2 : icB kind code 0 r f 2 = 0 := by simp [icB, cat, icH]
  have z3 : icB kind code 0 r f 3 = 0 := by simp [icB, cat, icH]
  have hok : errK v6 kind = true ∧ n ≤ 1652 := by
    unfold icX at hx
    split at hx
    · omega
    split at hx
    · omega
    rename_i q1 q2
    exact ⟨by simpa using q1, by omega⟩
  refine ⟨?_, by rw [hg]; simp [icB, cat, icH], by rw [hg]; simp [icB, cat, icH], fun k => ?_, hok⟩
  · rw [hg, icB_sum]
    exact rgt_laid hcat hS 2 (8 + n) (by omega) (by omega) z2 z3
  · rw [hg]
    unfold icB cat
    rw [if_neg (by omega)]
    congr 1
    omega
/-- Within hangs on the bytes that there are. -/
theorem wch_plain {f : Nat → Int} {n : Nat} (h : ext6 (f 6) = false) : wch f n = (f 6, 0, 0) := by
  unfold wch chn
  rw [if_neg (by rw [h]; decide)]
theorem win_turn6 {f : Nat → Int} (h0 : f 0 = 96) (hp : f 6 = 6 ∨ f 6 = 17) : winE true f 48 = 0 ∧ win true f 48 = (0, 40, f 6) ∧ winE false f 48 = 5 := by
  have e : ext6 (f 6) = false := by rcases hp with h | h <;> rw [h] <;> rfl
  have w : win true f 48 = (0, 40, f 6) := by
    unfold win win6
    rw [if_pos rfl, if_neg (by omega), if_neg (by rw [h0]; decide), wch_plain e, if_neg (fun q => q rfl)]
    rfl
  have w4 : win false f 48 = (5, 0, 0) := by
    unfold win win4
    rw [if_neg (by decide), if_neg (by omega), if_pos (.inl (by rw [h0]; decide))]
  refine ⟨?_, w, ?_⟩
  · unfold winE
    rw [w, if_neg (fun q => q rfl), if_neg (fun q => by rcases hp with h | h; exact q.1 h; exact q.2 h), if_neg (by show ¬ 48 - 40 < 4; omega)]
  · unfold winE
    rw [w4, if_pos (by decide)]
theorem win_turn4 {f : Nat → Int} (h0 : f 0 = 69) (h6 : w2 f 6 % 8192 = 0) (hp : f 9 = 6 ∨ f 9 = 17) : winE false f 28 = 0 ∧ win false f 28 = (0, 20, f 9) ∧ winE true f 28 = 4 := by
  have w : win false f 28 = (0, 20, f 9) := by
    unfold win win4
    rw [if_neg (by decide), if_neg (by omega), if_neg (by rw [h0]; decide), if_neg (by rw [h0]; decide), if_neg (fun q => q h6), h0]
    rfl
  have w6 : win true f 28 = (4, 0, 0) := by
    unfold win win6
    rw [if_pos rfl, if_pos (by omega)]
  refine ⟨?_, w, ?_⟩
  · unfold winE
    rw [w, if_neg (fun q => q rfl), if_neg (fun q => by rcases hp with h | h; exact q.1 h; exact q.2 h), if_neg (by show ¬ 28 - 20 < 4; omega)]
  · unfold winE
    rw [w6, if_pos (by decide)]

end Go.Proofs.Ytfaelihfjmaekaa
