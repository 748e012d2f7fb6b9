import Derived.Test.YthjgecdnlpdcdaaM10
import Derived.Test.YthjgecdnlpdcdaaM6
/- Layer 3's words: a packet's bytes, what Read and Write tell; what is written is read, what is read is written, one bit turned. -/
namespace Go.Proofs.Ythjgecdnlpdcdaa
open Go.RowKit
--CUT
/-- A header's length, a packet's. -/
def hl4 (f : Nat → Int) : Nat := (f 0 % 16 * 4).toNat
def tl4 (f : Nat → Int) : Nat := (f 2 * 256 + f 3).toNat
/-- What Read tells. -/
def rd4E (f : Nat → Int) (n : Nat) : Int :=
  if n < 20 then 4
  else if f 0 / 16 ≠ 4 ∨ hl4 f < 20 then 5
  else if n < hl4 f then 4
  else if ofv f (hl4 f) ≠ 0 then 6
  else if tl4 f < hl4 f then 5
  else if n < tl4 f then 4
  else if 32768 ≤ f 6 * 256 + f 7 then 5
  else if optE (fun k => f (20 + k)) (hl4 f - 20) ≠ 0 then optE (fun k => f (20 + k)) (hl4 f - 20)
  else if 0 < (f 6 * 256 + f 7) % 16384 then 11
  else 0
/-- An address of four4 bytes. -/
def four4 (s : Nat → Int) : Prop := ∀ k, 4 ≤ k → k < 16 → s k = 0
/-- A header's bytes, but for its sum. -/
def hdr0 (tos id : Int) (df : Bool) (ttl proto : Int) (s d : Nat → Int) (on : Nat) (o : Nat → Int) (total : Nat) (k : Nat) : Int :=
  if k = 0 then 64 + (20 + (on : Int)) / 4 else if k = 1 then tos else if k = 2 then (total : Int) / 256 else if k = 3 then (total : Int) % 256
  else if k = 4 then id / 256 else if k = 5 then id % 256 else if k = 6 then (if df then 64 else 0) else if k = 7 then 0 else if k = 8 then ttl else if k = 9 then proto
  else if k = 10 then 0 else if k = 11 then 0 else if k < 16 then s (k - 12) else if k < 20 then d (k - 16) else if k < 20 + on then o (k - 20) else 0
/-- .. with its sum. -/
def hdr4 (tos id : Int) (df : Bool) (ttl proto : Int) (s d : Nat → Int) (on : Nat) (o : Nat → Int) (total : Nat) : Nat → Int :=
  upd (upd (hdr0 tos id df ttl proto s d on o total) 10 (ofv (hdr0 tos id df ttl proto s d on o total) (20 + on) / 256)) 11 (ofv (hdr0 tos id df ttl proto s d on o total) (20 + on) % 256)
theorem hdr0_byt {tos id : Int} {df : Bool} {ttl proto : Int} {s d : Nat → Int} {on : Nat} {o : Nat → Int} {total : Nat} (h1 : 0 ≤ tos ∧ tos ≤ 255) (h2 : 0 ≤ id ∧ id ≤ 65535) (h3 : 0 ≤ ttl ∧ ttl ≤ 255) (h4 : 0 ≤ proto ∧ proto ≤ 255) (hs : Byt s) (hd : Byt d) (ho : Byt o) (hon : on ≤ 40) (ht : total ≤ 65535) :
    Byt (hdr0 tos id df ttl proto s d on o total) := fun k => by
  have a := hs (k - 12)
  have b := hd (k - 16)
  have c := ho (k - 20)
  unfold hdr0
  repeat' split
  all_goals omega
theorem hdr0_pos {tos id : Int} {df : Bool} {ttl proto : Int} {s d : Nat → Int} {on : Nat} {o : Nat → Int} {total : Nat} : 0 < hdr0 tos id df ttl proto s d on o total 0 := by
  unfold hdr0
  rw [if_pos rfl]
  omega
theorem hdr4_at {tos id : Int} {df : Bool} {ttl proto : Int} {s d : Nat → Int} {on : Nat} {o : Nat → Int} {total : Nat} (k : Nat) (h10 : k ≠ 10) (h11 : k ≠ 11) : hdr4 tos id df ttl proto s d on o total k = hdr0 tos id df ttl proto s d on o total k := by
  unfold hdr4 upd
  rw [if_neg h11, if_neg h10]
theorem hdr4_ofv {tos id : Int} {df : Bool} {ttl proto : Int} {s d : Nat → Int} {on : Nat} {o : Nat → Int} {total : Nat} (hb : Byt (hdr0 tos id df ttl proto s d on o total)) : ofv (hdr4 tos id df ttl proto s d on o total) (20 + on) = 0 :=
  ofv_laid hb 10 (20 + on) (by omega) (by omega) (by unfold hdr0; simp) (by unfold hdr0; simp) (tot_pos hb hdr0_pos _ (by omega))
theorem ofv_same' {f g : Nat → Int} (hf : Byt f) (hg : Byt g) (n : Nat) (h : ∀ k, k < n → g k = f k) : ofv g n = ofv f n := by
  rw [ofv_tot hg, ofv_tot hf, tot_same n h]
/-- What stands in bytes that begin with a written header. -/
theorem hdr4_read {tos id : Int} {df : Bool} {ttl proto : Int} {s d : Nat → Int} {on : Nat} {o : Nat → Int} {total : Nat} (h1 : 0 ≤ tos ∧ tos ≤ 255) (h2 : 0 ≤ id ∧ id ≤ 65535) (h3 : 0 ≤ ttl ∧ ttl ≤ 255) (h4 : 0 ≤ proto ∧ proto ≤ 255) (hs : Byt s) (hd : Byt d) (ho : Byt o)
    (hopt : optE o on = 0) (ht : total ≤ 65535) (htl : 20 + on ≤ total) {f : Nat → Int} (hf : Byt f) (n : Nat) (hn : total ≤ n) (h : ∀ k, k < 20 + on → f k = hdr4 tos id df ttl proto s d on o total k) :
    rd4E f n = 0 ∧ hl4 f = 20 + on ∧ tl4 f = total ∧ f 1 = tos ∧ f 4 * 256 + f 5 = id ∧ (decide (16384 ≤ f 6 * 256 + f 7) = df) ∧ f 8 = ttl ∧ f 9 = proto ∧ (∀ k, k < 4 → f (12 + k) = s k) ∧ (∀ k, k < 4 → f (16 + k) = d k) ∧ (∀ k, k < on → f (20 + k) = o k) := by
  obtain ⟨hon, hon4⟩ := optE_ok hopt
  have hb := hdr0_byt (df := df) h1 h2 h3 h4 hs hd ho hon ht
  have at_ : ∀ k, k < 20 + on → k ≠ 10 → k ≠ 11 → f k = hdr0 tos id df ttl proto s d on o total k := fun k hk a b => by rw [h k hk, hdr4_at k a b]
  have e0 : f 0 = 64 + (20 + (on : Int)) / 4 := by rw [at_ 0 (by omega) (by omega) (by omega)]; simp [hdr0]
  have e1 : f 1 = tos := by rw [at_ 1 (by omega) (by omega) (by omega)]; simp [hdr0]
  have e2 : f 2 = (total : Int) / 256 := by rw [at_ 2 (by omega) (by omega) (by omega)]; simp [hdr0]
  have e3 : f 3 = (total : Int) % 256 := by rw [at_ 3 (by omega) (by omega) (by omega)]; simp [hdr0]
  have e4 : f 4 = id / 256 := by rw [at_ 4 (by omega) (by omega) (by omega)]; simp [hdr0]
  have e5 : f 5 = id % 256 := by rw [at_ 5 (by omega) (by omega) (by omega)]; simp [hdr0]
  have e6 : f 6 = if df then 64 else 0 := by rw [at_ 6 (by omega) (by omega) (by omega)]; simp [hdr0]
  have e7 : f 7 = 0 := by rw [at_ 7 (by omega) (by omega) (by omega)]; simp [hdr0]
  have e8 : f 8 = ttl := by rw [at_ 8 (by omega) (by omega) (by omega)]; simp [hdr0]
  have e9 : f 9 = proto := by rw [at_ 9 (by omega) (by omega) (by omega)]; simp [hdr0]
  have es : ∀ k, k < 4 → f (12 + k) = s k := fun k hk => by
    rw [at_ (12 + k) (by omega) (by omega) (by omega)]
    obtain rfl | rfl | rfl | rfl : k = 0 ∨ k = 1 ∨ k = 2 ∨ k = 3 := by omega
    all_goals simp [hdr0]
  have ed : ∀ k, k < 4 → f (16 + k) = d k := fun k hk => by
    rw [at_ (16 + k) (by omega) (by omega) (by omega)]
    obtain rfl | rfl | rfl | rfl : k = 0 ∨ k = 1 ∨ k = 2 ∨ k = 3 := by omega
    all_goals simp [hdr0]
  have eo : ∀ k, k < on → f (20 + k) = o k := fun k hk => by
    rw [at_ (20 + k) (by omega) (by omega) (by omega)]
    unfold hdr0
    rw [if_neg (by omega), if_neg (by omega), if_neg (by omega), if_neg (by omega), if_neg (by omega), if_neg (by omega), if_neg (by omega), if_neg (by omega), if_neg (by omega), if_neg (by omega), if_neg (by omega), if_neg (by omega), if_neg (by omega), if_neg (by omega), if_pos (by omega)]
    congr 1
    omega
  have eh : hl4 f = 20 + on := by unfold hl4; rw [e0]; omega
  have et : tl4 f = total := by unfold tl4; rw [e2, e3]; omega
  have eopt : optE (fun k => f (20 + k)) on = 0 := by rw [← hopt]; exact optE_congr eo
  have e67 : 0 ≤ f 6 * 256 + f 7 ∧ f 6 * 256 + f 7 < 32768 ∧ (f 6 * 256 + f 7) % 16384 = 0 ∧ decide (16384 ≤ f 6 * 256 + f 7) = df := by
    rw [e6, e7]
    cases df <;> simp
  have b4 : Byt (hdr4 tos id df ttl proto s d on o total) := by
    have q := ofv_bd hb (20 + on)
    exact upd_byt (upd_byt hb 10 (by omega)) 11 (by omega)
  have eofv : ofv f (20 + on) = 0 := by rw [ofv_same' b4 hf _ h]; exact hdr4_ofv hb
  refine ⟨?_, eh, et, e1, by rw [e4, e5]; omega, e67.2.2.2, e8, e9, es, ed, eo⟩
  unfold rd4E
  rw [eh, et, show 20 + on - 20 = on by omega, eopt, eofv, if_neg (by omega), if_neg (by rw [e0]; omega), if_neg (by omega), if_neg (by simp), if_neg (by omega), if_neg (by omega), if_neg (by omega), if_neg (by simp), if_neg (by omega)]
/-- What is known of a packet that was read. -/
theorem rd4_ok {f : Nat → Int} (hf : Byt f) {n : Nat} (h : rd4E f n = 0) : 20 ≤ hl4 f ∧ hl4 f ≤ 60 ∧ hl4 f ≤ tl4 f ∧ tl4 f ≤ n ∧ tl4 f ≤ 65535 ∧ f 0 = 64 + (hl4 f : Int) / 4 ∧ hl4 f % 4 = 0 ∧ ofv f (hl4 f) = 0 ∧ optE (fun k => f (20 + k)) (hl4 f - 20) = 0 ∧ f 7 = 0 ∧ f 6 = (if decide (16384 ≤ f 6 * 256 + f 7) then 64 else 0) := by
  unfold rd4E at h
  have b0 := hf 0
  have b2 := hf 2
  have b3 := hf 3
  have b6 := hf 6
  have b7 := hf 7
  split at h
  · omega
  split at h
  · omega
  split at h
  · omega
  split at h
  · omega
  split at h
  · omega
  split at h
  · omega
  split at h
  · omega
  split at h
  · rename_i q1 q2 q3 q4 q5 q6 q7 q8
    exact absurd h q8
  split at h
  · omega
  rename_i q1 q2 q3 q4 q5 q6 q7 q8 q9
  have e : hl4 f = (f 0 % 16 * 4).toNat := rfl
  have e2 : tl4 f = (f 2 * 256 + f 3).toNat := rfl
  refine ⟨by omega, by omega, by omega, by omega, by omega, by omega, by omega, by omega, Classical.byContradiction q8, by omega, ?_⟩
  by_cases hc : 16384 ≤ f 6 * 256 + f 7
  · rw [if_pos (by simpa using hc)]
    omega
  · rw [if_neg (by simpa using hc)]
    omega
/-- What was read is written as it was, but for a sum of 65535. -/
theorem rd4_write {f : Nat → Int} (hf : Byt f) {n : Nat} (h : rd4E f n = 0) (s d : Nat → Int) (o : Nat → Int) (hs : ∀ k, k < 4 → s k = f (12 + k)) (hd : ∀ k, k < 4 → d k = f (16 + k)) (ho : ∀ k, k < hl4 f - 20 → o k = f (20 + k)) (k : Nat) (hk : k < hl4 f) :
    hdr4 (f 1) (f 4 * 256 + f 5) (decide (16384 ≤ f 6 * 256 + f 7)) (f 8) (f 9) s d (hl4 f - 20) o (tl4 f) k = if f 10 = 255 ∧ f 11 = 255 ∧ (k = 10 ∨ k = 11) then 0 else f k := by
  obtain ⟨a1, a2, a3, a4, a5, a6, a7, a8, _, a10, a11⟩ := rd4_ok hf h
  have e2 : tl4 f = (f 2 * 256 + f 3).toNat := rfl
  have b2 := hf 2
  have b3 := hf 3
  have b4 := hf 4
  have b5 := hf 5
  have base : ∀ k, k < hl4 f → hdr0 (f 1) (f 4 * 256 + f 5) (decide (16384 ≤ f 6 * 256 + f 7)) (f 8) (f 9) s d (hl4 f - 20) o (tl4 f) k = upd (upd f 10 0) 11 0 k := by
    intro k hk
    unfold upd
    by_cases h0 : k < 12
    · obtain rfl | rfl | rfl | rfl | rfl | rfl | rfl | rfl | rfl | rfl | rfl | rfl : k = 0 ∨ k = 1 ∨ k = 2 ∨ k = 3 ∨ k = 4 ∨ k = 5 ∨ k = 6 ∨ k = 7 ∨ k = 8 ∨ k = 9 ∨ k = 10 ∨ k = 11 := by omega
      · simp [hdr0]; omega
      · simp [hdr0]
      · simp [hdr0]; omega
      · simp [hdr0]; omega
      · simp [hdr0]; omega
      · simp [hdr0]; omega
      · rw [if_neg (by omega), if_neg (by omega)]
        exact a11.symm
      · simp [hdr0]; omega
      · simp [hdr0]
      · simp [hdr0]
      · simp [hdr0]
      · simp [hdr0]
    · rw [if_neg (by omega), if_neg (by omega)]
      unfold hdr0
      rw [if_neg (by omega), if_neg (by omega), if_neg (by omega), if_neg (by omega), if_neg (by omega), if_neg (by omega), if_neg (by omega), if_neg (by omega), if_neg (by omega), if_neg (by omega), if_neg (by omega), if_neg (by omega)]
      by_cases h1 : k < 16
      · rw [if_pos h1, hs _ (by omega)]
        congr 1
        omega
      · rw [if_neg h1]
        by_cases h2 : k < 20
        · rw [if_pos h2, hd _ (by omega)]
          congr 1
          omega
        · rw [if_neg h2, if_pos (by omega), ho _ (by omega)]
          congr 1
          omega
  have hz : Byt (upd (upd f 10 0) 11 0) := upd_byt (upd_byt hf 10 (by omega)) 11 (by omega)
  have z0 : upd (upd f 10 0) 11 0 0 = f 0 := by unfold upd; simp
  have hpos : 0 < tot (upd (upd f 10 0) 11 0) (hl4 f) := tot_pos hz (by rw [z0]; omega) _ (by omega)
  have hread := ofv_read hf 10 (hl4 f) (by omega) (by omega) hpos a8
  unfold hdr4
  rw [show 20 + (hl4 f - 20) = hl4 f by omega]
  have hsame : ofv (hdr0 (f 1) (f 4 * 256 + f 5) (decide (16384 ≤ f 6 * 256 + f 7)) (f 8) (f 9) s d (hl4 f - 20) o (tl4 f)) (hl4 f) = ofv (upd (upd f 10 0) 11 0) (hl4 f) := by
    unfold ofv
    rw [fld_same (0, false) (hl4 f) base]
  rw [show (10 + 1 : Nat) = 11 from rfl] at hread
  rw [hsame, hread]
  have b10 := hf 10
  have b11 := hf 11
  by_cases e11 : k = 11
  · subst e11
    show (if (11 : Nat) = 11 then _ else _) = _
    rw [if_pos rfl]
    by_cases hq : f 10 = 255 ∧ f 11 = 255
    · rw [if_pos hq, if_pos ⟨hq.1, hq.2, .inr rfl⟩]
      rfl
    · rw [if_neg hq, if_neg (fun q => hq ⟨q.1, q.2.1⟩)]
      omega
  · by_cases e10 : k = 10
    · subst e10
      show (if (10 : Nat) = 11 then _ else if (10 : Nat) = 10 then _ else _) = _
      rw [if_neg (by omega), if_pos rfl]
      by_cases hq : f 10 = 255 ∧ f 11 = 255
      · rw [if_pos hq, if_pos ⟨hq.1, hq.2, .inl rfl⟩]
        rfl
      · rw [if_neg hq, if_neg (fun q => hq ⟨q.1, q.2.1⟩)]
        omega
    · show (if k = 11 then _ else if k = 10 then _ else _) = _
      rw [if_neg e11, if_neg e10, base k hk, if_neg (fun q => by omega)]
      unfold upd
      rw [if_neg e11, if_neg e10]
end Go.Proofs.Ythjgecdnlpdcdaa
