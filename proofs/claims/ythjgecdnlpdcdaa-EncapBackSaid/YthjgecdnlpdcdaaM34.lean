import Derived.Test.YthjgecdnlpdcdaaM30
import Derived.Test.YthjgecdnlpdcdaaM28
import Derived.Test.YthjgecdnlpdcdaaM33
import Derived.Test.YthjgecdnlpdcdaaM16
import Derived.Test.YthjgecdnlpdcdaaM15
import Derived.Laws.CopyRow
/- The program's fault: why bytes are no packet. -/
namespace Go.Proofs.Ythjgecdnlpdcdaa
set_option maxRecDepth 100000
open Go.RowKit
theorem and_pow (n k : Nat) (h : n < 2 ^ (k + 1)) : n &&& 2 ^ k = if 2 ^ k ≤ n then 2 ^ k else 0 := by
  apply Nat.eq_of_testBit_eq
  intro i
  rw [Nat.testBit_and, Nat.testBit_two_pow]
  by_cases e : k = i
  · subst e
    have h2 : n.testBit k = decide (2 ^ k ≤ n) := by
      rw [Nat.testBit_eq_decide_div_mod_eq]
      have hp : 0 < 2 ^ k := Nat.two_pow_pos k
      rw [Nat.pow_succ] at h
      by_cases c : 2 ^ k ≤ n
      · have : n / 2 ^ k = 1 := by
          apply Nat.div_eq_of_lt_le <;> omega
        simp [c, this]
      · have : n / 2 ^ k = 0 := Nat.div_eq_of_lt (by omega)
        simp [c, this]
    rw [h2]
    by_cases c : 2 ^ k ≤ n
    · rw [if_pos c, Nat.testBit_two_pow]
      simp [c]
    · rw [if_neg c]
      simp [c]
  · split
    · rw [Nat.testBit_two_pow]
      simp [e]
    · simp [e]
theorem and_top (x : Int) (h : 0 ≤ x) (h' : x ≤ 65535) : bits .and .u16 x 32768 = if 32768 ≤ x then 32768 else 0 := by
  obtain ⟨n, rfl⟩ := Int.eq_ofNat_of_zero_le h
  have e := u16_and_nat n 32768 (by omega) (by omega)
  have q : n &&& 32768 = if 32768 ≤ n then 32768 else 0 := and_pow n 15 (by omega)
  rw [q] at e
  refine e.trans ?_
  by_cases c : 32768 ≤ n
  · rw [if_pos c, if_pos (by omega)]; rfl
  · rw [if_neg c, if_neg (by omega)]; rfl
theorem and_low (x : Int) (h : 0 ≤ x) (h' : x ≤ 65535) : bits .and .u16 x 16383 = x % 16384 := by
  obtain ⟨n, rfl⟩ := Int.eq_ofNat_of_zero_le h
  have e := u16_and_nat n 16383 (by omega) (by omega)
  have q : n &&& 16383 = n % 16384 := Nat.and_two_pow_sub_one_eq_mod n 14
  rw [q] at e
  exact e
set_option maxRecDepth 100000 in
set_option maxHeartbeats 2000000 in
theorem fault_any (A : Option Addr) (n c : Nat) (f : Nat → Int) (hf : Byt f) (hn : n ≤ 4611686018427387904) (hcap : n ≤ c) (hc' : c ≤ 9223372036854775807) (w : World) (hr : Rd w w.heap.size A n f) :
    Calls Try.prog 24 #[.slice A n c] w fun e w' => e = .returned (.int .i64 (rd4E f n)) ∧ Below w.heap.size w w' := by
  have HR := Lib.hid hr
  have HF := Lib.hid hf
  clear hr hf
  obtain ⟨R, hR⟩ : ∃ R, R = rd4E f n := ⟨_, rfl⟩
  rw [← hR]
  have HRE := Lib.hid hR
  clear hR
  by_cases c0 : n < 20
  · have hRe : R = 4 := HRE.out.trans (by unfold rd4E; rw [if_pos c0])
    have c0' : (n : Int) < 20 := by omega
    go_enter Try.func24, Try.ntmps24
    go_wp2
    go_ret
    exact ⟨by first | rfl | (rw [hRe]; rfl), Below.refl _ _⟩
  rcases HR.out with h0 | ⟨b, off, rfl, hbb, hcell⟩
  · omega
  have HC := Lib.hid hcell
  clear hcell
  have c0' : ¬ (n : Int) < 20 := by omega
  have n0 : 0 < n := by omega
  have n0' : (0 : Int) < (n : Int) := by omega
  have hx0 : w.cell? ⟨b, off, none⟩ = some (.int .u8 (f 0)) := HC.out 0 (by omega)
  obtain ⟨p0, q0⟩ := HF.out 0
  have HHL := Lib.hid (headLen_any b off n c f HF.out n0 w hx0)
  obtain ⟨H, hH⟩ : ∃ H, H = hl4 f := ⟨_, rfl⟩
  have hH' : f 0 % 16 * 4 = (H : Int) := by rw [hH]; unfold hl4; omega
  rw [hH'] at HHL
  have HH := Lib.hid hH
  clear hH
  have hH60 : H ≤ 60 := by omega
  have t1 : (f 0).tdiv 16 = f 0 / 16 := Int.tdiv_eq_ediv_of_nonneg p0
  have N0 : Hid (¬ (n < 20)) := c0
  go_enter Try.func24, Try.ntmps24
  go_upto_if 9 with fail
  by_cases hv : f 0 / 16 = 4
  · by_cases c1 : H < 20
    · have c1' : (H : Int) < 20 := by omega
      go_upto_if 20 with (first
        | (go_at_call 25; refine HHL.out.mono ?_; rintro e w1 ⟨rfl, rfl⟩))
      have hRe : R = 5 := HRE.out.trans (rd4_1 N0.out (.inr (by rw [← HH.out]; exact c1)))
      go_wp2
      go_ret
      exact ⟨by first | rfl | (rw [hRe]; rfl), Below.refl _ _⟩
    · have N1 : Hid (¬ (f 0 / 16 ≠ 4 ∨ hl4 f < 20)) := by
        rintro (q | q)
        · exact q hv
        · rw [← HH.out] at q; exact c1 q
      have c1' : ¬ (H : Int) < 20 := by omega
      have c1'' : (20 : Int) ≤ (H : Int) := by omega
      go_upto_if 20 with (first
        | (go_at_call 25; refine HHL.out.mono ?_; rintro e w1 ⟨rfl, rfl⟩))
      clear HHL hx0 t1 hv hH' p0 q0
      by_cases c2 : n < H
      · have c2' : (n : Int) < (H : Int) := by omega
        have hRe : R = 4 := HRE.out.trans (rd4_2 N0.out N1.out (by rw [← HH.out]; exact c2))
        go_wp2
        go_ret
        exact ⟨by first | rfl | (rw [hRe]; rfl), Below.refl _ _⟩
      · have N2 : Hid (¬ (n < hl4 f)) := by rw [← HH.out]; exact c2
        have c2' : (H : Int) ≤ (n : Int) := by omega
        have c2c : (H : Int) ≤ (c : Int) := by omega
        have HOF := Lib.hid (of_any (some ⟨b, off, none⟩) H c f HF.out (by omega) (by omega) w (HR.out.less (by omega)))
        obtain ⟨C, hC⟩ : ∃ C, C = ofv f H := ⟨_, rfl⟩
        rw [← hC] at HOF
        have HCC := Lib.hid hC
        clear hC
        go_upto_if 29 with (first
          | (go_at_call 31; refine HOF.out.mono ?_; rintro e w1 ⟨rfl, hb1⟩; have HB1 := Lib.hid hb1; clear hb1))
        by_cases c3 : C = 0
        · subst c3
          have N3 : Hid (¬ (ofv f (hl4 f) ≠ 0)) := fun q => q (by rw [← HH.out]; exact HCC.out.symm)
          clear HOF
          obtain ⟨T, hT⟩ : ∃ T, T = tl4 f := ⟨_, rfl⟩
          have p2 := HF.out 2
          have p3 := HF.out 3
          have hT' : f 2 * 256 + f (2 + 1) = (T : Int) := by rw [hT]; unfold tl4; show f 2 * 256 + f 3 = _; omega
          have HT := Lib.hid hT
          have hT65 : T ≤ 65535 := by have e : f (2 + 1) = f 3 := rfl; omega
          have HTW := word4_any b off n c 2 f HF.out (by omega) (by omega) w1 (fun k hk => (HB1.out.cell (p := ⟨b, off + k, none⟩) hbb).trans (HC.out k hk))
          rw [hT'] at HTW
          have HTW' := Lib.hid HTW
          clear hT hT' p2 p3 HTW
          have hT16 : wrap64 (T : Int) = (T : Int) := by unfold wrap64; omega
          go_upto_if 35 with (first
            | (go_at_call 26; refine HTW'.out.mono ?_; rintro e w2 ⟨rfl, hb2⟩; have HB2 : Hid (Below w.heap.size w w2) := HB1.out.trans (hb2.mono HB1.out.size); clear hb2))
          clear HTW' HB1
          by_cases c4 : T < H
          · have c4' : (T : Int) < (H : Int) := by omega
            have hRe : R = 5 := HRE.out.trans (rd4_4 N0.out N1.out N2.out N3.out (by rw [← HT.out, ← HH.out]; exact c4))
            go_wp2
            go_ret
            exact ⟨by first | rfl | (rw [hRe]; rfl), HB2.out⟩
          · have N4 : Hid (¬ (tl4 f < hl4 f)) := by rw [← HT.out, ← HH.out]; exact c4
            have c4' : (H : Int) ≤ (T : Int) := by omega
            go_upto_if 39 with fail
            by_cases c5 : n < T
            · have c5' : (n : Int) < (T : Int) := by omega
              have hRe : R = 4 := HRE.out.trans (rd4_5 N0.out N1.out N2.out N3.out N4.out (by rw [← HT.out]; exact c5))
              go_wp2
              go_ret
              exact ⟨by first | rfl | (rw [hRe]; rfl), HB2.out⟩
            · have N5 : Hid (¬ (n < tl4 f)) := by rw [← HT.out]; exact c5
              have c5' : (T : Int) ≤ (n : Int) := by omega
              obtain ⟨G, hG⟩ : ∃ G, G = f 6 * 256 + f 7 := ⟨_, rfl⟩
              have p6 := HF.out 6
              have p7 := HF.out 7
              have hG0 : 0 ≤ G := by omega
              have hG1 : G ≤ 65535 := by omega
              have HGG := Lib.hid hG
              have HTW := word4_any b off n c 6 f HF.out (by omega) (by omega) w2 (fun k hk => (HB2.out.cell (p := ⟨b, off + k, none⟩) hbb).trans (HC.out k hk))
              rw [show f 6 * 256 + f (6 + 1) = G from hG.symm] at HTW
              have HTW' := Lib.hid HTW
              clear hG p6 p7 HTW
              have ha1 := and_top G hG0 hG1
              have ha2 := and_low G hG0 hG1
              by_cases c6 : 32768 ≤ G
              · rw [if_pos c6] at ha1
                go_upto_if 44 with (first
                  | (go_at_call 26; refine HTW'.out.mono ?_; rintro e w3 ⟨rfl, hb3⟩; have HB3 : Hid (Below w.heap.size w w3) := HB2.out.trans (hb3.mono HB2.out.size); clear hb3))
                have hRe : R = 5 := HRE.out.trans (rd4_6 N0.out N1.out N2.out N3.out N4.out N5.out (by rw [← HGG.out]; exact c6))
                go_wp2
                go_ret
                exact ⟨by first | rfl | (rw [hRe]; rfl), HB3.out⟩
              · have N6 : Hid (f 6 * 256 + f 7 < 32768) := by rw [← HGG.out]; exact Int.not_le.1 c6
                rw [if_neg c6] at ha1
                go_upto_if 44 with (first
                  | (go_at_call 26; refine HTW'.out.mono ?_; rintro e w3 ⟨rfl, hb3⟩; have HB3 : Hid (Below w.heap.size w w3) := HB2.out.trans (hb3.mono HB2.out.size); clear hb3))
                clear HB2 HTW' ha1
                obtain ⟨A20, hs20, hr20⟩ := slice_both b off n c 20 H (by omega) (by omega) hcap hc'
                have hs20' : ∀ W, (Instr.sliceAt 26 (.slice (some ⟨b, off, none⟩) n c) (some (.int .i64 20)) (some (.int .i64 (H : Int))) none).run Try.prog W = .ok (.slice A20 (H - 20) (c - 20)) W := hs20
                have HOP := Lib.hid (options_any A20 (H - 20) (c - 20) (fun k => f (20 + k)) (fun k => HF.out _) (by omega) (by omega) (by omega) w3 (hr20 _ _ _ ((HR.out.keep HB3.out).more HB3.out.size)))
                clear hs20 hr20
                obtain ⟨E, hE⟩ : ∃ E, E = optE (fun k => f (20 + k)) (H - 20) := ⟨_, rfl⟩
                rw [← hE] at HOP
                have HEE := Lib.hid hE
                clear hE
                go_upto_if 50 with (first
                  | (go_at_call 28; refine HOP.out.mono ?_; rintro e w4 ⟨rfl, rfl⟩))
                clear HOP
                by_cases c7 : E = 0
                · subst c7
                  have N7 : Hid (¬ (optE (fun k => f (20 + k)) (hl4 f - 20) ≠ 0)) := fun q => q (by rw [← HH.out]; exact HEE.out.symm)
                  by_cases c8 : 0 < G % 16384
                  · have c8' : (G % 16384 != 0) = true := by simp; omega
                    have hRe : R = 11 := HRE.out.trans (rd4_8 N0.out N1.out N2.out N3.out N4.out N5.out (Int.not_le.2 N6.out) N7.out (by rw [← HGG.out]; exact c8))
                    go_wp2
                    go_ret
                    exact ⟨by first | rfl | (rw [hRe]; rfl), HB3.out⟩
                  · have c8' : G % 16384 = 0 := by omega
                    have hRe : R = 0 := HRE.out.trans (rd4_9 N0.out N1.out N2.out N3.out N4.out N5.out (Int.not_le.2 N6.out) N7.out (by rw [← HGG.out]; exact c8))
                    go_wp2
                    go_ret
                    exact ⟨by first | rfl | (rw [hRe]; rfl), HB3.out⟩
                · have c7' : (E != 0) = true := by simpa using c7
                  have hRe : R = E := by
                    have q := rd4_7 N0.out N1.out N2.out N3.out N4.out N5.out (Int.not_le.2 N6.out) (show optE (fun k => f (20 + k)) (hl4 f - 20) ≠ 0 by rw [← HH.out, ← HEE.out]; exact c7)
                    rw [← HH.out, ← HEE.out] at q
                    exact HRE.out.trans q
                  go_wp2
                  go_ret
                  exact ⟨by first | rfl | (rw [hRe]; rfl), HB3.out⟩
        · have c3' : (C != 0) = true := by simpa using c3
          have hRe : R = 6 := HRE.out.trans (rd4_3 N0.out N1.out N2.out (by rw [← HH.out, ← HCC.out]; exact c3))
          go_wp2
          go_ret
          exact ⟨by first | rfl | (rw [hRe]; rfl), HB1.out⟩
  · have hv' : (f 0 / 16 != 4) = true := by simpa using hv
    go_upto_if 20 with (first
      | (go_at_call 25; refine HHL.out.mono ?_; rintro e w1 ⟨rfl, rfl⟩))
    have hRe : R = 5 := HRE.out.trans (rd4_1 N0.out (.inl hv))
    go_wp2
    go_ret
    exact ⟨by first | rfl | (rw [hRe]; rfl), Below.refl _ _⟩
end Go.Proofs.Ythjgecdnlpdcdaa
/- Slices of the call's own beside other blocks; copying into a row; slices cut by a word. -/
namespace Go.Proofs.Ythjgecdnlpdcdaa
set_option maxRecDepth 100000
open Go.RowKit
theorem slice_both16 (b off n c lo hi : Nat) (h1 : lo ≤ hi) (h2 : hi ≤ n) (h3 : n ≤ c) (_ : c ≤ 9223372036854775807) : ∃ A : Option Addr,
    (∀ W, (Instr.sliceAt 26 (.slice (some ⟨b, off, none⟩) n c) (some (.int .i64 (lo : Int))) (some (.int .u16 (hi : Int))) none).run Try.prog W = .ok (.slice A (hi - lo) (c - lo)) W) ∧
    (∀ (W : World) (B : Nat) (f : Nat → Int), Rd W B (some ⟨b, off, none⟩) n f → Rd W B A (hi - lo) (fun k => f (lo + k))) := by
  have i1 : (0 : Int) ≤ (lo : Int) := by omega
  have i2 : (lo : Int) ≤ (hi : Int) := by omega
  have i3 : (hi : Int) ≤ (c : Int) := by omega
  have i4 : (0 : Int) ≤ (hi : Int) := by omega
  by_cases h : c = lo
  · have e : hi = lo := by omega
    subst e
    subst h
    refine ⟨some ⟨b, off, none⟩, fun W => ?_, fun W B f hr => .inl (by omega)⟩
    go_simp
  · refine ⟨some ⟨b, off + lo, none⟩, fun W => ?_, fun W B f hr => ?_⟩
    · go_simp
    · rcases hr with h0 | ⟨b', off', e, hb, hc⟩
      · exact .inl (by omega)
      · injection e with e
        injection e with e1 e2
        subst e1
        subst e2
        exact .inr ⟨b, off + lo, rfl, hb, fun k hk => by rw [Nat.add_assoc]; exact hc _ (by omega)⟩
end Go.Proofs.Ythjgecdnlpdcdaa
