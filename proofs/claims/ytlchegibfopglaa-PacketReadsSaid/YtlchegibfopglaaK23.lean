import Derived.Test.YtlchegibfopglaaK17
import Derived.Test.YtlchegibfopglaaK1
import Derived.Laws.Cover3
import Derived.Laws.BitsAllLaws
import Derived.Laws.BytesArg
import Derived.Deep.MidRow
import Derived.Test.YtlchegibfopglaaK22
import Derived.Test.YtlchegibfopglaaK8
import Derived.Laws.IdiomCopy
import Derived.Laws.CopyRow
/- The program's small functions of layer 3: headLen, word, fits, and the closure that lays a number. -/
namespace Go.Proofs.Ytlchegibfopglaa
set_option maxRecDepth 100000
open Go.RowKit
theorem and15 (x : Int) (h : 0 ≤ x) (h' : x ≤ 255) : bits .and .u8 x 15 = x % 16 := by
  obtain ⟨n, rfl⟩ := Int.eq_ofNat_of_zero_le h
  have e := u8_and_nat n 15 (by omega) (by omega)
  have q : n &&& 15 = n % 16 := Nat.and_two_pow_sub_one_eq_mod n 4
  rw [q] at e
  exact e
set_option maxHeartbeats 400000 in
theorem headLen_any (b off n c : Nat) (f : Nat → Int) (hf : Byt f) (hn : 0 < n) (w : World) (hc : w.cell? ⟨b, off, none⟩ = some (.int .u8 (f 0))) :
    Calls Try.prog 38 #[.slice (some ⟨b, off, none⟩) n c] w fun e w' => e = .returned (.int .i64 (f 0 % 16 * 4)) ∧ w = w' := by
  obtain ⟨p0, q0⟩ := hf 0
  have i0 : (0 : Int) < (n : Int) := by omega
  have ha := and15 (f 0) p0 q0
  have hm : 0 ≤ f 0 % 16 ∧ f 0 % 16 ≤ 15 := by omega
  obtain ⟨m0, m1⟩ := hm
  generalize f 0 % 16 = m at *
  go_enter Try.func38, Try.ntmps38
  go_wp2
  go_ret
  exact ⟨rfl, rfl⟩
set_option maxHeartbeats 400000 in
theorem word4_any (b off n c a : Nat) (f : Nat → Int) (hf : Byt f) (ha : a + 1 < n) (hn : n ≤ 4611686018427387904) (w : World) (hc : ∀ k, k < n → w.cell? ⟨b, off + k, none⟩ = some (.int .u8 (f k))) :
    Calls Try.prog 39 #[.slice (some ⟨b, off, none⟩) n c, .int .i64 (a : Int)] w fun e w' => e = .returned (.int .u16 (f a * 256 + f (a + 1))) ∧ Below w.heap.size w w' := by
  have h0 := hc a (by omega)
  have h1 := hc (a + 1) (by omega)
  obtain ⟨p0, q0⟩ := hf a
  obtain ⟨p1, q1⟩ := hf (a + 1)
  clear hc hf
  have i0 : (0 : Int) ≤ (a : Int) := by omega
  have i1 : (a : Int) < (n : Int) := by omega
  have i2 : (0 : Int) ≤ (a : Int) + 1 := by omega
  have i3 : (a : Int) + 1 < (n : Int) := by omega
  have i4 : ((a : Int)).toNat = a := by omega
  have i5 : ((a : Int) + 1).toNat = a + 1 := by omega
  have w1' : IntKind.u16.wrap (f a) = f a := by simp only [IntKind.wrap_u16]; omega
  have w2' : IntKind.u16.wrap (f (a + 1)) = f (a + 1) := by simp only [IntKind.wrap_u16]; omega
  have w3' : IntKind.u16.wrap (f a * 256) = f a * 256 := by simp only [IntKind.wrap_u16]; omega
  have w4' := or_hi (f a) (f (a + 1)) p0 q0 p1 q1
  go_enter Try.func39, Try.ntmps39
  go_wp2
  go_quiet (fail)
  go_wp2
  go_ret
  exact ⟨rfl, below_drewN (Below.refl _ _) _⟩
end Go.Proofs.Ytlchegibfopglaa
/- A slice of bytes cut on both sides, wherever its memory ends. -/
namespace Go.Proofs.Ytlchegibfopglaa
open Go.RowKit

end Go.Proofs.Ytlchegibfopglaa
/- An IPv4 header's cells; the document's Same. -/
namespace Go.Proofs.Ytlchegibfopglaa
set_option maxRecDepth 100000
open Go.RowKit
/-- A header's cells. -/
def ip4c (tos id : Int) (df : Bool) (ttl proto : Int) (s d : Nat → Int) (o : Value) : Array Value := #[.int .u8 tos, .int .u16 id, .bool df, .int .u8 ttl, .int .u8 proto, .int .u8 (s 0), .int .u8 (s 1), .int .u8 (s 2), .int .u8 (s 3), .int .u8 (s 4), .int .u8 (s 5), .int .u8 (s 6), .int .u8 (s 7), .int .u8 (s 8), .int .u8 (s 9), .int .u8 (s 10), .int .u8 (s 11), .int .u8 (s 12), .int .u8 (s 13), .int .u8 (s 14), .int .u8 (s 15), .int .u8 (d 0), .int .u8 (d 1), .int .u8 (d 2), .int .u8 (d 3), .int .u8 (d 4), .int .u8 (d 5), .int .u8 (d 6), .int .u8 (d 7), .int .u8 (d 8), .int .u8 (d 9), .int .u8 (d 10), .int .u8 (d 11), .int .u8 (d 12), .int .u8 (d 13), .int .u8 (d 14), .int .u8 (d 15), o]
theorem ip4_src {tos id : Int} {df : Bool} {ttl proto : Int} {s d : Nat → Int} {o : Value} (k : Nat) (hk : k < 16) : (ip4c tos id df ttl proto s d o)[5 + k]? = some (.int .u8 (s k)) := by
  match k, hk with
  | 0, _ => rfl
  | 1, _ => rfl
  | 2, _ => rfl
  | 3, _ => rfl
  | 4, _ => rfl
  | 5, _ => rfl
  | 6, _ => rfl
  | 7, _ => rfl
  | 8, _ => rfl
  | 9, _ => rfl
  | 10, _ => rfl
  | 11, _ => rfl
  | 12, _ => rfl
  | 13, _ => rfl
  | 14, _ => rfl
  | 15, _ => rfl
  | k + 16, h => exact absurd h (by omega)
theorem ip4_dst {tos id : Int} {df : Bool} {ttl proto : Int} {s d : Nat → Int} {o : Value} (k : Nat) (hk : k < 16) : (ip4c tos id df ttl proto s d o)[21 + k]? = some (.int .u8 (d k)) := by
  match k, hk with
  | 0, _ => rfl
  | 1, _ => rfl
  | 2, _ => rfl
  | 3, _ => rfl
  | 4, _ => rfl
  | 5, _ => rfl
  | 6, _ => rfl
  | 7, _ => rfl
  | 8, _ => rfl
  | 9, _ => rfl
  | 10, _ => rfl
  | 11, _ => rfl
  | 12, _ => rfl
  | 13, _ => rfl
  | 14, _ => rfl
  | 15, _ => rfl
  | k + 16, h => exact absurd h (by omega)
end Go.Proofs.Ytlchegibfopglaa
/- Layer 3's Read, told step by step: which answer, and what it tells of a packet that is one. -/
namespace Go.Proofs.Ytlchegibfopglaa
open Go.RowKit
def ip4z : Array Value := ip4c 0 0 false 0 0 (fun _ => 0) (fun _ => 0) (.slice none 0 0)
theorem ip4_one (tos id : Int) (df : Bool) (ttl proto : Int) (s d : Nat → Int) (O : Option Addr) (on co : Nat) : (ip4c tos id df ttl proto s d (.slice O on co)).all (·.oneCell') = true := by simp [ip4c, Value.oneCell']
theorem ip4z_one : ip4z.all (·.oneCell') = true := ip4_one ..
theorem rd4_0 {f : Nat → Int} {n : Nat}  (h : n < 20) : rd4E f n = 4 := by
  unfold rd4E
  rw [if_pos h]
theorem rd4_1 {f : Nat → Int} {n : Nat} (n0 : ¬ (n < 20)) (h : f 0 / 16 ≠ 4 ∨ hl4 f < 20) : rd4E f n = 5 := by
  unfold rd4E
  rw [if_neg n0, if_pos h]
theorem rd4_2 {f : Nat → Int} {n : Nat} (n0 : ¬ (n < 20)) (n1 : ¬ (f 0 / 16 ≠ 4 ∨ hl4 f < 20)) (h : n < hl4 f) : rd4E f n = 4 := by
  unfold rd4E
  rw [if_neg n0, if_neg n1, if_pos h]
theorem rd4_3 {f : Nat → Int} {n : Nat} (n0 : ¬ (n < 20)) (n1 : ¬ (f 0 / 16 ≠ 4 ∨ hl4 f < 20)) (n2 : ¬ (n < hl4 f)) (h : ofv f (hl4 f) ≠ 0) : rd4E f n = 6 := by
  unfold rd4E
  rw [if_neg n0, if_neg n1, if_neg n2, if_pos h]
theorem rd4_4 {f : Nat → Int} {n : Nat} (n0 : ¬ (n < 20)) (n1 : ¬ (f 0 / 16 ≠ 4 ∨ hl4 f < 20)) (n2 : ¬ (n < hl4 f)) (n3 : ¬ (ofv f (hl4 f) ≠ 0)) (h : tl4 f < hl4 f) : rd4E f n = 5 := by
  unfold rd4E
  rw [if_neg n0, if_neg n1, if_neg n2, if_neg n3, if_pos h]
theorem rd4_5 {f : Nat → Int} {n : Nat} (n0 : ¬ (n < 20)) (n1 : ¬ (f 0 / 16 ≠ 4 ∨ hl4 f < 20)) (n2 : ¬ (n < hl4 f)) (n3 : ¬ (ofv f (hl4 f) ≠ 0)) (n4 : ¬ (tl4 f < hl4 f)) (h : n < tl4 f) : rd4E f n = 4 := by
  unfold rd4E
  rw [if_neg n0, if_neg n1, if_neg n2, if_neg n3, if_neg n4, if_pos h]
theorem rd4_6 {f : Nat → Int} {n : Nat} (n0 : ¬ (n < 20)) (n1 : ¬ (f 0 / 16 ≠ 4 ∨ hl4 f < 20)) (n2 : ¬ (n < hl4 f)) (n3 : ¬ (ofv f (hl4 f) ≠ 0)) (n4 : ¬ (tl4 f < hl4 f)) (n5 : ¬ (n < tl4 f)) (h : 32768 ≤ f 6 * 256 + f 7) : rd4E f n = 5 := by
  unfold rd4E
  rw [if_neg n0, if_neg n1, if_neg n2, if_neg n3, if_neg n4, if_neg n5, if_pos h]
theorem rd4_7 {f : Nat → Int} {n : Nat} (n0 : ¬ (n < 20)) (n1 : ¬ (f 0 / 16 ≠ 4 ∨ hl4 f < 20)) (n2 : ¬ (n < hl4 f)) (n3 : ¬ (ofv f (hl4 f) ≠ 0)) (n4 : ¬ (tl4 f < hl4 f)) (n5 : ¬ (n < tl4 f)) (n6 : ¬ (32768 ≤ f 6 * 256 + f 7)) (h : optE (fun k => f (20 + k)) (hl4 f - 20) ≠ 0) : rd4E f n = optE (fun k => f (20 + k)) (hl4 f - 20) := by
  unfold rd4E
  rw [if_neg n0, if_neg n1, if_neg n2, if_neg n3, if_neg n4, if_neg n5, if_neg n6, if_pos h]
theorem rd4_8 {f : Nat → Int} {n : Nat} (n0 : ¬ (n < 20)) (n1 : ¬ (f 0 / 16 ≠ 4 ∨ hl4 f < 20)) (n2 : ¬ (n < hl4 f)) (n3 : ¬ (ofv f (hl4 f) ≠ 0)) (n4 : ¬ (tl4 f < hl4 f)) (n5 : ¬ (n < tl4 f)) (n6 : ¬ (32768 ≤ f 6 * 256 + f 7)) (n7 : ¬ (optE (fun k => f (20 + k)) (hl4 f - 20) ≠ 0)) (h : 0 < (f 6 * 256 + f 7) % 16384) : rd4E f n = 11 := by
  unfold rd4E
  rw [if_neg n0, if_neg n1, if_neg n2, if_neg n3, if_neg n4, if_neg n5, if_neg n6, if_neg n7, if_pos h]
theorem rd4_9 {f : Nat → Int} {n : Nat} (n0 : ¬ (n < 20)) (n1 : ¬ (f 0 / 16 ≠ 4 ∨ hl4 f < 20)) (n2 : ¬ (n < hl4 f)) (n3 : ¬ (ofv f (hl4 f) ≠ 0)) (n4 : ¬ (tl4 f < hl4 f)) (n5 : ¬ (n < tl4 f)) (n6 : ¬ (32768 ≤ f 6 * 256 + f 7)) (n7 : ¬ (optE (fun k => f (20 + k)) (hl4 f - 20) ≠ 0)) (n8 : ¬ (0 < (f 6 * 256 + f 7) % 16384)) : rd4E f n = 0 := by
  unfold rd4E
  rw [if_neg n0, if_neg n1, if_neg n2, if_neg n3, if_neg n4, if_neg n5, if_neg n6, if_neg n7, if_neg n8]
/-- What Read tells of a packet that is one. -/
def Read4 (et : Nat) (f : Nat → Int) (w : World) (e : Ending) (w' : World) : Prop :=
  ∃ O co P cp, e = .returned (.tuple #[.agg (ip4c (f 1) (f 4 * 256 + f 5) (decide (16384 ≤ f 6 * 256 + f 7)) (f 8) (f 9) (adr fun k => f (12 + k)) (adr fun k => f (16 + k)) (.slice O (hl4 f - 20) co)), .slice P (tl4 f - hl4 f) cp, .int .i64 0]) ∧
    Own w' w.heap.size et O (hl4 f - 20) co (fun k => f (20 + k)) ∧ Own w' w.heap.size et P (tl4 f - hl4 f) cp (fun k => f (hl4 f + k)) ∧
    (∀ g, Value.ownBlock (.slice O (hl4 f - 20) co) = some g → Value.ownBlock (.slice P (tl4 f - hl4 f) cp) ≠ some g) ∧ Below w.heap.size w w'
def Read4P (et : Nat) (E : Int) (f : Nat → Int) (w : World) (e : Ending) (w' : World) : Prop :=
  (E ≠ 0 ∧ e = .returned (.tuple #[.agg ip4z, .slice none 0 0, .int .i64 E]) ∧ Below w.heap.size w w') ∨ (E = 0 ∧ Read4 et f w e w')
end Go.Proofs.Ytlchegibfopglaa
/- The program's fault: why bytes are no packet. -/
namespace Go.Proofs.Ytlchegibfopglaa
set_option maxRecDepth 100000
open Go.RowKit
theorem and_pow (n k : Nat) (h : n < 2 ^ (k + 1)) : n &&& 2 ^ k = if 2 ^ k ≤ n then 2 ^ k else 0 := by
  apply Nat.eq_of_testBit_eq
  intro i
  rw [Nat.testBit_and, Nat.testBit_two_pow]
  by_cases e : k = i
  · subst e
    have h2 : n.testBit k = decide (2 ^ k ≤ n) := by
      rw [Nat.testBit_eq_decide_div_mod_eq]
      have hp : 0 < 2 ^ k := Nat.two_pow_pos k
      rw [Nat.pow_succ] at h
      by_cases c : 2 ^ k ≤ n
      · have : n / 2 ^ k = 1 := by
          apply Nat.div_eq_of_lt_le <;> omega
        simp [c, this]
      · have : n / 2 ^ k = 0 := Nat.div_eq_of_lt (by omega)
        simp [c, this]
    rw [h2]
    by_cases c : 2 ^ k ≤ n
    · rw [if_pos c, Nat.testBit_two_pow]
      simp [c]
    · rw [if_neg c]
      simp [c]
  · split
    · rw [Nat.testBit_two_pow]
      simp [e]
    · simp [e]
theorem and_top (x : Int) (h : 0 ≤ x) (h' : x ≤ 65535) : bits .and .u16 x 32768 = if 32768 ≤ x then 32768 else 0 := by
  obtain ⟨n, rfl⟩ := Int.eq_ofNat_of_zero_le h
  have e := u16_and_nat n 32768 (by omega) (by omega)
  have q : n &&& 32768 = if 32768 ≤ n then 32768 else 0 := and_pow n 15 (by omega)
  rw [q] at e
  refine e.trans ?_
  by_cases c : 32768 ≤ n
  · rw [if_pos c, if_pos (by omega)]; rfl
  · rw [if_neg c, if_neg (by omega)]; rfl
theorem and_low (x : Int) (h : 0 ≤ x) (h' : x ≤ 65535) : bits .and .u16 x 16383 = x % 16384 := by
  obtain ⟨n, rfl⟩ := Int.eq_ofNat_of_zero_le h
  have e := u16_and_nat n 16383 (by omega) (by omega)
  have q : n &&& 16383 = n % 16384 := Nat.and_two_pow_sub_one_eq_mod n 14
  rw [q] at e
  exact e
set_option maxRecDepth 100000 in
set_option maxHeartbeats 2000000 in
theorem fault_any (A : Option Addr) (n c : Nat) (f : Nat → Int) (hf : Byt f) (hn : n ≤ 4611686018427387904) (hcap : n ≤ c) (hc' : c ≤ 9223372036854775807) (w : World) (hr : Rd w w.heap.size A n f) :
    Calls Try.prog 37 #[.slice A n c] w fun e w' => e = .returned (.int .i64 (rd4E f n)) ∧ Below w.heap.size w w' := by
  have HR := Lib.hid hr
  have HF := Lib.hid hf
  clear hr hf
  obtain ⟨R, hR⟩ : ∃ R, R = rd4E f n := ⟨_, rfl⟩
  rw [← hR]
  have HRE := Lib.hid hR
  clear hR
  by_cases c0 : n < 20
  · have hRe : R = 4 := HRE.out.trans (by unfold rd4E; rw [if_pos c0])
    have c0' : (n : Int) < 20 := by omega
    go_enter Try.func37, Try.ntmps37
    go_wp2
    go_ret
    exact ⟨by first | rfl | (rw [hRe]; rfl), Below.refl _ _⟩
  rcases HR.out with h0 | ⟨b, off, rfl, hbb, hcell⟩
  · omega
  have HC := Lib.hid hcell
  clear hcell
  have c0' : ¬ (n : Int) < 20 := by omega
  have n0 : 0 < n := by omega
  have n0' : (0 : Int) < (n : Int) := by omega
  have hx0 : w.cell? ⟨b, off, none⟩ = some (.int .u8 (f 0)) := HC.out 0 (by omega)
  obtain ⟨p0, q0⟩ := HF.out 0
  have HHL := Lib.hid (headLen_any b off n c f HF.out n0 w hx0)
  obtain ⟨H, hH⟩ : ∃ H, H = hl4 f := ⟨_, rfl⟩
  have hH' : f 0 % 16 * 4 = (H : Int) := by rw [hH]; unfold hl4; omega
  rw [hH'] at HHL
  have HH := Lib.hid hH
  clear hH
  have hH60 : H ≤ 60 := by omega
  have t1 : (f 0).tdiv 16 = f 0 / 16 := Int.tdiv_eq_ediv_of_nonneg p0
  have N0 : Hid (¬ (n < 20)) := c0
  go_enter Try.func37, Try.ntmps37
  go_upto_if 9 with fail
  by_cases hv : f 0 / 16 = 4
  · by_cases c1 : H < 20
    · have c1' : (H : Int) < 20 := by omega
      go_upto_if 20 with (first
        | (go_at_call 38; refine HHL.out.mono ?_; rintro e w1 ⟨rfl, rfl⟩))
      have hRe : R = 5 := HRE.out.trans (rd4_1 N0.out (.inr (by rw [← HH.out]; exact c1)))
      go_wp2
      go_ret
      exact ⟨by first | rfl | (rw [hRe]; rfl), Below.refl _ _⟩
    · have N1 : Hid (¬ (f 0 / 16 ≠ 4 ∨ hl4 f < 20)) := by
        rintro (q | q)
        · exact q hv
        · rw [← HH.out] at q; exact c1 q
      have c1' : ¬ (H : Int) < 20 := by omega
      have c1'' : (20 : Int) ≤ (H : Int) := by omega
      go_upto_if 20 with (first
        | (go_at_call 38; refine HHL.out.mono ?_; rintro e w1 ⟨rfl, rfl⟩))
      clear HHL hx0 t1 hv hH' p0 q0
      by_cases c2 : n < H
      · have c2' : (n : Int) < (H : Int) := by omega
        have hRe : R = 4 := HRE.out.trans (rd4_2 N0.out N1.out (by rw [← HH.out]; exact c2))
        go_wp2
        go_ret
        exact ⟨by first | rfl | (rw [hRe]; rfl), Below.refl _ _⟩
      · have N2 : Hid (¬ (n < hl4 f)) := by rw [← HH.out]; exact c2
        have c2' : (H : Int) ≤ (n : Int) := by omega
        have c2c : (H : Int) ≤ (c : Int) := by omega
        have HOF := Lib.hid (of_any (some ⟨b, off, none⟩) H c f HF.out (by omega) (by omega) w (HR.out.less (by omega)))
        obtain ⟨C, hC⟩ : ∃ C, C = ofv f H := ⟨_, rfl⟩
        rw [← hC] at HOF
        have HCC := Lib.hid hC
        clear hC
        go_upto_if 29 with (first
          | (go_at_call 56; refine HOF.out.mono ?_; rintro e w1 ⟨rfl, hb1⟩; have HB1 := Lib.hid hb1; clear hb1))
        by_cases c3 : C = 0
        · subst c3
          have N3 : Hid (¬ (ofv f (hl4 f) ≠ 0)) := fun q => q (by rw [← HH.out]; exact HCC.out.symm)
          clear HOF
          obtain ⟨T, hT⟩ : ∃ T, T = tl4 f := ⟨_, rfl⟩
          have p2 := HF.out 2
          have p3 := HF.out 3
          have hT' : f 2 * 256 + f (2 + 1) = (T : Int) := by rw [hT]; unfold tl4; show f 2 * 256 + f 3 = _; omega
          have HT := Lib.hid hT
          have hT65 : T ≤ 65535 := by have e : f (2 + 1) = f 3 := rfl; omega
          have HTW := word4_any b off n c 2 f HF.out (by omega) (by omega) w1 (fun k hk => (HB1.out.cell (p := ⟨b, off + k, none⟩) hbb).trans (HC.out k hk))
          rw [hT'] at HTW
          have HTW' := Lib.hid HTW
          clear hT hT' p2 p3 HTW
          have hT16 : wrap64 (T : Int) = (T : Int) := by unfold wrap64; omega
          go_upto_if 35 with (first
            | (go_at_call 39; refine HTW'.out.mono ?_; rintro e w2 ⟨rfl, hb2⟩; have HB2 : Hid (Below w.heap.size w w2) := HB1.out.trans (hb2.mono HB1.out.size); clear hb2))
          clear HTW' HB1
          by_cases c4 : T < H
          · have c4' : (T : Int) < (H : Int) := by omega
            have hRe : R = 5 := HRE.out.trans (rd4_4 N0.out N1.out N2.out N3.out (by rw [← HT.out, ← HH.out]; exact c4))
            go_wp2
            go_ret
            exact ⟨by first | rfl | (rw [hRe]; rfl), HB2.out⟩
          · have N4 : Hid (¬ (tl4 f < hl4 f)) := by rw [← HT.out, ← HH.out]; exact c4
            have c4' : (H : Int) ≤ (T : Int) := by omega
            go_upto_if 39 with fail
            by_cases c5 : n < T
            · have c5' : (n : Int) < (T : Int) := by omega
              have hRe : R = 4 := HRE.out.trans (rd4_5 N0.out N1.out N2.out N3.out N4.out (by rw [← HT.out]; exact c5))
              go_wp2
              go_ret
              exact ⟨by first | rfl | (rw [hRe]; rfl), HB2.out⟩
            · have N5 : Hid (¬ (n < tl4 f)) := by rw [← HT.out]; exact c5
              have c5' : (T : Int) ≤ (n : Int) := by omega
              obtain ⟨G, hG⟩ : ∃ G, G = f 6 * 256 + f 7 := ⟨_, rfl⟩
              have p6 := HF.out 6
              have p7 := HF.out 7
              have hG0 : 0 ≤ G := by omega
              have hG1 : G ≤ 65535 := by omega
              have HGG := Lib.hid hG
              have HTW := word4_any b off n c 6 f HF.out (by omega) (by omega) w2 (fun k hk => (HB2.out.cell (p := ⟨b, off + k, none⟩) hbb).trans (HC.out k hk))
              rw [show f 6 * 256 + f (6 + 1) = G from hG.symm] at HTW
              have HTW' := Lib.hid HTW
              clear hG p6 p7 HTW
              have ha1 := and_top G hG0 hG1
              have ha2 := and_low G hG0 hG1
              by_cases c6 : 32768 ≤ G
              · rw [if_pos c6] at ha1
                go_upto_if 44 with (first
                  | (go_at_call 39; refine HTW'.out.mono ?_; rintro e w3 ⟨rfl, hb3⟩; have HB3 : Hid (Below w.heap.size w w3) := HB2.out.trans (hb3.mono HB2.out.size); clear hb3))
                have hRe : R = 5 := HRE.out.trans (rd4_6 N0.out N1.out N2.out N3.out N4.out N5.out (by rw [← HGG.out]; exact c6))
                go_wp2
                go_ret
                exact ⟨by first | rfl | (rw [hRe]; rfl), HB3.out⟩
              · have N6 : Hid (f 6 * 256 + f 7 < 32768) := by rw [← HGG.out]; exact Int.not_le.1 c6
                rw [if_neg c6] at ha1
                go_upto_if 44 with (first
                  | (go_at_call 39; refine HTW'.out.mono ?_; rintro e w3 ⟨rfl, hb3⟩; have HB3 : Hid (Below w.heap.size w w3) := HB2.out.trans (hb3.mono HB2.out.size); clear hb3))
                clear HB2 HTW' ha1
                obtain ⟨A20, hs20, hr20⟩ := slice_both b off n c 20 H (by omega) (by omega) hcap hc'
                have hs20' : ∀ W, (Instr.sliceAt 22 (.slice (some ⟨b, off, none⟩) n c) (some (.int .i64 20)) (some (.int .i64 (H : Int))) none).run Try.prog W = .ok (.slice A20 (H - 20) (c - 20)) W := hs20
                have HOP := Lib.hid (options_any A20 (H - 20) (c - 20) (fun k => f (20 + k)) (fun k => HF.out _) (by omega) (by omega) (by omega) w3 (hr20 _ _ _ ((HR.out.keep HB3.out).more HB3.out.size)))
                clear hs20 hr20
                obtain ⟨E, hE⟩ : ∃ E, E = optE (fun k => f (20 + k)) (H - 20) := ⟨_, rfl⟩
                rw [← hE] at HOP
                have HEE := Lib.hid hE
                clear hE
                go_upto_if 50 with (first
                  | (go_at_call 57; refine HOP.out.mono ?_; rintro e w4 ⟨rfl, rfl⟩))
                clear HOP
                by_cases c7 : E = 0
                · subst c7
                  have N7 : Hid (¬ (optE (fun k => f (20 + k)) (hl4 f - 20) ≠ 0)) := fun q => q (by rw [← HH.out]; exact HEE.out.symm)
                  by_cases c8 : 0 < G % 16384
                  · have c8' : (G % 16384 != 0) = true := by simp; omega
                    have hRe : R = 11 := HRE.out.trans (rd4_8 N0.out N1.out N2.out N3.out N4.out N5.out (Int.not_le.2 N6.out) N7.out (by rw [← HGG.out]; exact c8))
                    go_wp2
                    go_ret
                    exact ⟨by first | rfl | (rw [hRe]; rfl), HB3.out⟩
                  · have c8' : G % 16384 = 0 := by omega
                    have hRe : R = 0 := HRE.out.trans (rd4_9 N0.out N1.out N2.out N3.out N4.out N5.out (Int.not_le.2 N6.out) N7.out (by rw [← HGG.out]; exact c8))
                    go_wp2
                    go_ret
                    exact ⟨by first | rfl | (rw [hRe]; rfl), HB3.out⟩
                · have c7' : (E != 0) = true := by simpa using c7
                  have hRe : R = E := by
                    have q := rd4_7 N0.out N1.out N2.out N3.out N4.out N5.out (Int.not_le.2 N6.out) (show optE (fun k => f (20 + k)) (hl4 f - 20) ≠ 0 by rw [← HH.out, ← HEE.out]; exact c7)
                    rw [← HH.out, ← HEE.out] at q
                    exact HRE.out.trans q
                  go_wp2
                  go_ret
                  exact ⟨by first | rfl | (rw [hRe]; rfl), HB3.out⟩
        · have c3' : (C != 0) = true := by simpa using c3
          have hRe : R = 6 := HRE.out.trans (rd4_3 N0.out N1.out N2.out (by rw [← HH.out, ← HCC.out]; exact c3))
          go_wp2
          go_ret
          exact ⟨by first | rfl | (rw [hRe]; rfl), HB1.out⟩
  · have hv' : (f 0 / 16 != 4) = true := by simpa using hv
    go_upto_if 20 with (first
      | (go_at_call 38; refine HHL.out.mono ?_; rintro e w1 ⟨rfl, rfl⟩))
    have hRe : R = 5 := HRE.out.trans (rd4_1 N0.out (.inl hv))
    go_wp2
    go_ret
    exact ⟨by first | rfl | (rw [hRe]; rfl), Below.refl _ _⟩
end Go.Proofs.Ytlchegibfopglaa
/- Slices of the call's own beside other blocks; copying into a row; slices cut by a word. -/
namespace Go.Proofs.Ytlchegibfopglaa
set_option maxRecDepth 100000
open Go.RowKit
theorem slice_both16 (b off n c lo hi : Nat) (h1 : lo ≤ hi) (h2 : hi ≤ n) (h3 : n ≤ c) (_ : c ≤ 9223372036854775807) : ∃ A : Option Addr,
    (∀ W, (Instr.sliceAt 22 (.slice (some ⟨b, off, none⟩) n c) (some (.int .i64 (lo : Int))) (some (.int .u16 (hi : Int))) none).run Try.prog W = .ok (.slice A (hi - lo) (c - lo)) W) ∧
    (∀ (W : World) (B : Nat) (f : Nat → Int), Rd W B (some ⟨b, off, none⟩) n f → Rd W B A (hi - lo) (fun k => f (lo + k))) := by
  have i1 : (0 : Int) ≤ (lo : Int) := by omega
  have i2 : (lo : Int) ≤ (hi : Int) := by omega
  have i3 : (hi : Int) ≤ (c : Int) := by omega
  have i4 : (0 : Int) ≤ (hi : Int) := by omega
  by_cases h : c = lo
  · have e : hi = lo := by omega
    subst e
    subst h
    refine ⟨some ⟨b, off, none⟩, fun W => ?_, fun W B f hr => .inl (by omega)⟩
    go_simp
  · refine ⟨some ⟨b, off + lo, none⟩, fun W => ?_, fun W B f hr => ?_⟩
    · go_simp
    · rcases hr with h0 | ⟨b', off', e, hb, hc⟩
      · exact .inl (by omega)
      · injection e with e
        injection e with e1 e2
        subst e1
        subst e2
        exact .inr ⟨b, off + lo, rfl, hb, fun k hk => by rw [Nat.add_assoc]; exact hc _ (by omega)⟩
end Go.Proofs.Ytlchegibfopglaa
