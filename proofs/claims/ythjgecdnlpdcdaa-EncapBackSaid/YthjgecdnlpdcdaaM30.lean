import Derived.Test.YthjgecdnlpdcdaaM29
import Derived.Deep.LoopGhost
import Derived.Deep.CutRange
/- The program's Options. -/
namespace Go.Proofs.Ythjgecdnlpdcdaa
set_option maxRecDepth 100000
open Go.RowKit
/-- What the kinds so far tell. -/
def toldBy (ks : List Int) : Int := if ks.any route then 12 else 0
theorem told_snoc (ks : List Int) (x : Int) : toldBy (ks ++ [x]) = if route x then 12 else toldBy ks := by
  unfold toldBy
  rw [List.any_append]
  cases h : ks.any route <;> cases h2 : route x <;> simp [h2]
theorem optE_told {f : Nat → Int} {n a : Nat} {ks : List Int} (h1 : n ≤ 40) (h2 : n % 4 = 0) (h : (optK f n a).map (ks ++ ·) = optK f n 0) (he : n ≤ a ∨ f a = 0) : optE f n = toldBy ks := by
  rw [optK_end he] at h
  have e : optK f n 0 = some ks := by simpa using h.symm
  unfold optE toldBy
  rw [if_neg (by omega), e]
theorem optE_bad {f : Nat → Int} {n a : Nat} {ks : List Int} (h1 : n ≤ 40) (h2 : n % 4 = 0) (h : (optK f n a).map (ks ++ ·) = optK f n 0) (he : optK f n a = none) : optE f n = 5 := by
  rw [he] at h
  have e : optK f n 0 = none := by simpa using h.symm
  exact optE_none h1 h2 e
theorem rd_step {w : World} {B m cc b off a n : Nat} {f : Nat → Int} (h : Rd w B (some ⟨b, off, none⟩) m (fun k => f (a + k))) (k : Nat) (hk : k ≤ m) (hmc : m ≤ cc) (hm : m = n - a) :
    Rd w B (if cc = k then some ⟨b, off, none⟩ else some ⟨b, off + k, none⟩) (n - (a + k)) (fun j => f (a + k + j)) := by
  subst hm
  have q := h.cut hk hmc
  have e : (if cc = k then some (⟨b, off, none⟩ : Addr) else Option.map (fun (x : Addr) => x.add k) (some ⟨b, off, none⟩)) = if cc = k then some ⟨b, off, none⟩ else some ⟨b, off + k, none⟩ := by
    split
    · rfl
    · show some ((⟨b, off, none⟩ : Addr).add k) = _
      unfold Addr.add
      split <;> simp_all
  rw [e] at q
  rw [show n - (a + k) = n - a - k by omega]
  exact q.same fun j _ => by rw [Nat.add_assoc]
set_option maxHeartbeats 400000 in
theorem options_long (A : Option Addr) (n c : Nat) (f : Nat → Int) (hn : 40 < n) (hn' : n ≤ 9223372036854775807) (w : World) : Calls Try.prog 28 #[.slice A n c] w fun e w' => e = .returned (.int .i64 (optE f n)) ∧ w = w' := by
  have e : optE f n = 5 := by unfold optE; rw [if_pos (.inl hn)]
  rw [e]
  go_enter Try.func28, Try.ntmps28
  go_wp2
  go_step3
  go_wp2
  try rw [Exit.noGoto_ret]
  go_ret
  exact ⟨rfl, rfl⟩
set_option maxHeartbeats 400000 in
theorem options_odd (A : Option Addr) (n c : Nat) (f : Nat → Int) (hn : n ≤ 40) (hn' : n % 4 ≠ 0) (w : World) : Calls Try.prog 28 #[.slice A n c] w fun e w' => e = .returned (.int .i64 (optE f n)) ∧ w = w' := by
  have e : optE f n = 5 := by unfold optE; rw [if_pos (.inr hn')]
  obtain ⟨m, h4⟩ : ∃ m, ((n : Int)).tmod 4 = m := ⟨_, rfl⟩
  have h5 : (m != 0) = true := by
    rw [Int.tmod_eq_emod_of_nonneg (by omega)] at h4
    simp
    omega
  rw [e]
  go_enter Try.func28, Try.ntmps28
  go_wp2
  go_step3
  go_wp2
  try rw [Exit.noGoto_ret]
  go_ret
  exact ⟨rfl, rfl⟩
set_option maxRecDepth 100000 in
set_option maxHeartbeats 2000000 in
theorem options_walk (A : Option Addr) (n c : Nat) (f : Nat → Int) (hf : Byt f) (hn40 : n ≤ 40) (hn4 : n % 4 = 0) (hcap : n ≤ c) (hc' : c ≤ 9223372036854775807) (w : World) (hr : Rd w w.heap.size A n f) : Calls Try.prog 28 #[.slice A n c] w fun e w' => e = .returned (.int .i64 (optE f n)) ∧ w = w' := by
  have HF := Lib.hid hf
  have HR := Lib.hid hr
  clear hf hr
  have h4 : ((n : Int)).tmod 4 = 0 := by rw [Int.tmod_eq_emod_of_nonneg (by omega)]; omega
  obtain ⟨R, hR⟩ : ∃ R, R = optE f n := ⟨_, rfl⟩
  rw [← hR]
  have HRE := Lib.hid hR
  clear hR
  go_enter Try.func28, Try.ntmps28
  go_wp2
  go_step3
  go_wp2
  go_step3
  go_wp2
  clear h4
  go_loopw [0, 3] (fun s t wr => ∃ (a : Nat) (ks : List Int) (B : Option Addr), a ≤ n ∧ s = .slice B (n - a) (c - a) ∧ t = .int .i64 (toldBy ks) ∧ Rd w w.heap.size B (n - a) (fun k => f (a + k)) ∧ Hid ((optK f n a).map (ks ++ ·) = optK f n 0) ∧ wr = w) (fun s _ _ => match s with | .slice _ m _ => m | _ => 0)
  case atStart => exact ⟨0, [], A, by omega, rfl, rfl, HR.out.same fun k _ => by rw [Nat.zero_add], Lib.hid (by simp), rfl⟩
  case round =>
    obtain ⟨a, ks, B, ha, rfl, rfl, hB, HK, rfl⟩ := hrel
    by_cases hlt : a < n
    · rcases hB with h0 | ⟨b, off, rfl, hbb, hcell⟩
      · omega
      · have HB : Hid (Rd wr wr.heap.size (some ⟨b, off, none⟩) (n - a) (fun k => f (a + k))) := .inr ⟨b, off, rfl, hbb, hcell⟩
        have hx : wr.cell? ⟨b, off, none⟩ = some (.int .u8 (f a)) := hcell 0 (by omega)
        have HC := Lib.hid hcell
        clear hcell
        obtain ⟨p0, q0⟩ := HF.out a
        obtain ⟨m, hm⟩ : ∃ m, m = n - a := ⟨_, rfl⟩
        obtain ⟨cc, hcc⟩ : ∃ cc, cc = c - a := ⟨_, rfl⟩
        rw [← hm, ← hcc]
        rw [← hm] at HC HB
        have m0 : 0 < m := by omega
        have m0' : (0 : Int) < (m : Int) := by omega
        have hmc : m ≤ cc := by omega
        have m40 : m ≤ 40 := by omega
        have cc9 : cc ≤ 9223372036854775807 := by omega
        by_cases h0 : f a = 0
        · have hRt : R = toldBy ks := HRE.out.trans (optE_told hn40 hn4 HK.out (.inr h0))
          rw [h0] at hx
          clear HK h0 p0 q0 hm hcc
          go_wp2
          try rw [Exit.noGoto_ret]
          go_ret
          exact ⟨by rw [hRt]; rfl, rfl⟩
        · have h0' : (f a == 0) = false := by simpa using h0
          have HN0 := Lib.hid h0
          clear h0
          by_cases h1 : f a = 1
          · have HK1 : Hid ((optK f n (a + 1)).map ((ks ++ [1]) ++ ·) = optK f n 0) := by
              have q := kinds_step HK.out (by rw [h1]; exact optK_one hlt h1)
              rw [h1] at q
              exact q
            have hks : toldBy (ks ++ [1]) = toldBy ks := told_snoc ks 1
            have HB1 := Lib.hid (rd_step HB.out 1 (by omega) hmc hm)
            rw [h1] at hx h0' p0 q0
            clear HK h1
            go_wp2
            go_roundw
            case rel =>
              subst hm hcc
              exact ⟨a + 1, ks ++ [1], _, by omega, by rw [Nat.sub_sub, Nat.sub_sub], by rw [hks], HB1.out, HK1, trivial⟩
            case measure => simp; omega
          · have h1' : (f a == 1) = false := by simpa using h1
            have HN1 := Lib.hid h1
            clear h1
            obtain ⟨tk, htk⟩ : ∃ t, t = toldBy (ks ++ [f a]) := ⟨_, rfl⟩
            have HTK := Lib.hid htk
            rw [told_snoc] at htk
            obtain ⟨tz, htz⟩ : ∃ t, t = toldBy ks := ⟨_, rfl⟩
            rw [← htz] at htk
            have HTZ := Lib.hid htz
            clear htz
            have hm0 : (m : Int) = ((n - a : Nat) : Int) := by omega
            by_cases h2 : m < 2
            · have hR5 : R = 5 := HRE.out.trans (optE_bad hn40 hn4 HK.out (optK_bad hlt HN0.out HN1.out (.inl (by omega))))
              have h2' : (m : Int) < 2 := by omega
              clear HK htk
              by_cases r1 : f a = 131
              · rw [r1] at hx h0' h1' p0 q0
                clear r1
                go_wp2
                try rw [Exit.noGoto_ret]
                go_ret
                exact ⟨by rw [hR5]; rfl, rfl⟩
              · have r1' : (f a == 131) = false := by simpa using r1
                clear r1
                by_cases r2 : f a = 137
                · rw [r2] at hx h0' h1' p0 q0 r1'
                  clear r2
                  go_wp2
                  try rw [Exit.noGoto_ret]
                  go_ret
                  exact ⟨by rw [hR5]; rfl, rfl⟩
                · have r2' : (f a == 137) = false := by simpa using r2
                  clear r2
                  go_wp2
                  try rw [Exit.noGoto_ret]
                  go_ret
                  exact ⟨by rw [hR5]; rfl, rfl⟩
            · have h2' : ¬ (m : Int) < 2 := by omega
              have h2'' : (1 : Int) < (m : Int) := by omega
              have h2n : 1 < m := by omega
              have hy : wr.cell? ⟨b, off + 1, none⟩ = some (.int .u8 (f (a + 1))) := HC.out 1 (by omega)
              obtain ⟨p1, q1⟩ := HF.out (a + 1)
              by_cases h3 : f (a + 1) < 2
              · have hR5 : R = 5 := HRE.out.trans (optE_bad hn40 hn4 HK.out (optK_bad hlt HN0.out HN1.out (.inr h3)))
                clear HK htk
                by_cases r1 : f a = 131
                · rw [r1] at hx h0' h1' p0 q0
                  clear r1
                  go_wp2
                  try rw [Exit.noGoto_ret]
                  go_ret
                  exact ⟨by rw [hR5]; rfl, rfl⟩
                · have r1' : (f a == 131) = false := by simpa using r1
                  clear r1
                  by_cases r2 : f a = 137
                  · rw [r2] at hx h0' h1' p0 q0 r1'
                    clear r2
                    go_wp2
                    try rw [Exit.noGoto_ret]
                    go_ret
                    exact ⟨by rw [hR5]; rfl, rfl⟩
                  · have r2' : (f a == 137) = false := by simpa using r2
                    clear r2
                    go_wp2
                    try rw [Exit.noGoto_ret]
                    go_ret
                    exact ⟨by rw [hR5]; rfl, rfl⟩
              · have h3' : 2 ≤ f (a + 1) := by omega
                by_cases h5 : (m : Int) < f (a + 1)
                · have hR5 : R = 5 := HRE.out.trans (optE_bad hn40 hn4 HK.out (optK_over hlt HN0.out HN1.out (by omega) (by omega)))
                  clear HK htk
                  by_cases r1 : f a = 131
                  · rw [r1] at hx h0' h1' p0 q0
                    clear r1
                    go_wp2
                    try rw [Exit.noGoto_ret]
                    go_ret
                    exact ⟨by rw [hR5]; rfl, rfl⟩
                  · have r1' : (f a == 131) = false := by simpa using r1
                    clear r1
                    by_cases r2 : f a = 137
                    · rw [r2] at hx h0' h1' p0 q0 r1'
                      clear r2
                      go_wp2
                      try rw [Exit.noGoto_ret]
                      go_ret
                      exact ⟨by rw [hR5]; rfl, rfl⟩
                    · have r2' : (f a == 137) = false := by simpa using r2
                      clear r2
                      go_wp2
                      try rw [Exit.noGoto_ret]
                      go_ret
                      exact ⟨by rw [hR5]; rfl, rfl⟩
                · have h5' : f (a + 1) ≤ (m : Int) := by omega
                  have HK1 : Hid ((optK f n (a + (f (a + 1)).toNat)).map ((ks ++ [f a]) ++ ·) = optK f n 0) := kinds_step HK.out (optK_more hlt HN0.out HN1.out (by omega) (by omega))
                  have HB1 := Lib.hid (rd_step HB.out (f (a + 1)).toNat (by omega) hmc hm)
                  have hcv : f (a + 1) ≤ (cc : Int) := by omega
                  clear HK
                  by_cases r1 : f a = 131
                  · have htw : tk = 12 := by rw [htk, r1]; rfl
                    rw [r1] at hx h0' h1' p0 q0
                    clear htk r1
                    go_wp2
                    go_roundw
                    case rel =>
                      subst hm hcc
                      exact ⟨a + (f (a + 1)).toNat, ks ++ [f a], _, by omega, by rw [Nat.sub_sub, Nat.sub_sub], by rw [← HTK.out, htw], HB1.out, HK1, trivial⟩
                    case measure => simp; omega
                  · have r1' : (f a == 131) = false := by simpa using r1
                    by_cases r2 : f a = 137
                    · have htw : tk = 12 := by rw [htk, r2]; rfl
                      rw [r2] at hx h0' h1' p0 q0 r1'
                      clear htk r1 r2
                      go_wp2
                      go_roundw
                      case rel =>
                        subst hm hcc
                        exact ⟨a + (f (a + 1)).toNat, ks ++ [f a], _, by omega, by rw [Nat.sub_sub, Nat.sub_sub], by rw [← HTK.out, htw], HB1.out, HK1, trivial⟩
                      case measure => simp; omega
                    · have r2' : (f a == 137) = false := by simpa using r2
                      have htw : tk = tz := by
                        have : route (f a) = false := by simp [route, r1, r2]
                        rw [htk, this]
                        rfl
                      clear htk r1 r2
                      go_wp2
                      go_roundw
                      case rel =>
                        subst hm hcc
                        exact ⟨a + (f (a + 1)).toNat, ks ++ [f a], _, by omega, by rw [Nat.sub_sub, Nat.sub_sub], by rw [← HTK.out, htw, HTZ.out], HB1.out, HK1, trivial⟩
                      case measure => simp; omega
    · obtain rfl : n = a := by omega
      have hRt : R = toldBy ks := HRE.out.trans (optE_told hn40 hn4 HK.out (.inl (Nat.le_refl _)))
      rw [Nat.sub_self]
      clear HK
      go_wp2
      try rw [Exit.noGoto_ret]
      go_ret
      exact ⟨by rw [hRt]; rfl, rfl⟩
theorem options_any (A : Option Addr) (n c : Nat) (f : Nat → Int) (hf : Byt f) (hn : n ≤ 9223372036854775807) (hcap : n ≤ c) (hc' : c ≤ 9223372036854775807) (w : World) (hr : Rd w w.heap.size A n f) : Calls Try.prog 28 #[.slice A n c] w fun e w' => e = .returned (.int .i64 (optE f n)) ∧ w = w' := by
  by_cases h1 : 40 < n
  · exact options_long A n c f h1 hn w
  · by_cases h2 : n % 4 = 0
    · exact options_walk A n c f hf (by omega) h2 hcap hc' w hr
    · exact options_odd A n c f (by omega) h2 w
end Go.Proofs.Ythjgecdnlpdcdaa
