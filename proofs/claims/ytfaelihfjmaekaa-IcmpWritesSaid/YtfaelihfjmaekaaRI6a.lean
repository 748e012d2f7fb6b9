/- The document's answers for layer 4: isExtension, one. -/
import Derived.Test.YtfaelihfjmaekaaRows
import Derived.Test.YtfaelihfjmaekaaBlk
import Derived.Test.YtfaelihfjmaekaaInfo
import Derived.Test.YtfaelihfjmaekaaI6Pkt
import Derived.WalkLawsBesides
import Derived.BigQuiet
import Derived.IntWalk
import Derived.Deep.CutRange
namespace Go.Proofs.Ytfaelihfjmaekaa
open Go.RowKit
theorem risext_any (k : Int) (w : World) : Calls Try.prog 38 #[.int .u8 k] w fun e w' => e = .returned (.bool (ext6 k)) ∧ w = w' := by
  by_cases h0 : k = 0
  · subst h0
    go_enter Try.func38, Try.ntmps38
    go_wp2
    go_ret
    exact ⟨rfl, rfl⟩
  · by_cases h1 : k = 43
    · subst h1
      go_enter Try.func38, Try.ntmps38
      go_wp2
      go_ret
      exact ⟨rfl, rfl⟩
    · by_cases h2 : k = 44
      · subst h2
        go_enter Try.func38, Try.ntmps38
        go_wp2
        go_ret
        exact ⟨rfl, rfl⟩
      · by_cases h3 : k = 60
        · subst h3
          go_enter Try.func38, Try.ntmps38
          go_wp2
          go_ret
          exact ⟨rfl, rfl⟩
        · have e : ext6 k = false := by unfold ext6; simp [h0, h1, h2, h3]
          rw [e]
          have b0 : (k == 0) = false := by simpa using h0
          have b1 : (k == 43) = false := by simpa using h1
          have b2 : (k == 44) = false := by simpa using h2
          have b3 : (k == 60) = false := by simpa using h3
          clear e h0 h1 h2 h3
          go_enter Try.func38, Try.ntmps38
          go_wp2
          go_ret
          exact ⟨rfl, rfl⟩
def OneOut (r : Nat × Int) (w : World) (e : Ending) (w' : World) : Prop := e = .returned (.tuple #[.int .i64 (r.1 : Int), .int .i64 r.2]) ∧ Below w.heap.size w w'

set_option maxHeartbeats 2000000 in
theorem rone_44 (first : Bool) (A : Option Addr) (m c : Nat) (f : Nat → Int) (hf : Byt f) (hm : m ≤ 4611686018427387904) (w : World) (hr : Rd w w.heap.size A m f) :
    Calls Try.prog 39 #[.int .u8 44, .bool first, .slice A m c] w (OneOut (one6 44 first f m) w) := by
  obtain ⟨r, hre⟩ : ∃ r, r = one6 44 first f m := ⟨_, rfl⟩
  rw [← hre]
  have HRE := Lib.hid hre
  clear hre
  have HN : ¬ ((44 : Int) = 0 ∧ first = false) := fun h => by omega
  by_cases c8 : m < 8
  · have c8' : (m : Int) < 8 := by omega
    have hr : r = (0, 4) := by rw [HRE.out]; unfold one6; rw [if_neg HN, if_pos c8]
    have HR' := Lib.hid hr
    clear hr HRE
    go_enter Try.func39, Try.ntmps39
    go_wp2
    go_ret2
    exact ⟨by rw [HR'.out]; rfl, Below.refl _ _⟩
  · have c8' : ¬ (m : Int) < 8 := by omega
    rcases hr with h0 | ⟨b, off, rfl, hb, hc⟩
    · omega
    have x1 := hc 1 (by omega)
    have x2 := hc 2 (by omega)
    have x3 := hc 3 (by omega)
    obtain ⟨p1, q1⟩ := hf 1
    obtain ⟨p2, q2⟩ := hf 2
    obtain ⟨p3, q3⟩ := hf 3
    have i1 : (1 : Int) < (m : Int) := by omega
    have i2 : (2 : Int) < (m : Int) := by omega
    have i3 : (3 : Int) < (m : Int) := by omega
    clear hc hf
    have he8 : ((8 + 8 * (f 1).toNat : Nat) : Int) = 8 + 8 * f 1 := by omega
    have HLE : Hid (len6 (44 : Int) f = 8) := Lib.hid (by unfold len6; first | rw [if_pos rfl] | rw [if_neg HK44])
    by_cases cL : m < 8
    · have cL' : (m : Int) < 8 := by omega
      exact absurd cL c8
    · have cL' : ¬ (m : Int) < 8 := by omega
      have e8 : (f 2 * 256 + f 3).tdiv 8 = (f 2 * 256 + f 3) / 8 := Int.tdiv_eq_ediv_of_nonneg (by omega)
      have e2 : (f 2 * 256 + f 3).tmod 2 = (f 2 * 256 + f 3) % 2 := Int.tmod_eq_emod_of_nonneg (by omega)
      by_cases d8 : (f 2 * 256 + f 3) / 8 = 0
      · have d8' : ((f 2 * 256 + f 3) / 8 != 0) = false := by simpa using d8
        by_cases d2 : (f 2 * 256 + f 3) % 2 = 1
        · have d2' : ((f 2 * 256 + f 3) % 2 == 1) = true := by simpa using d2
          have hr : r = (0, 11) := by rw [HRE.out]; unfold one6; rw [if_neg HN, if_neg c8, HLE.out, if_neg cL, if_neg (by omega), if_pos ⟨rfl, .inr d2⟩]
          have HR' := Lib.hid hr
          clear hr HRE
          go_enter Try.func39, Try.ntmps39
          go_upto_region 12 with fail
          go_quiet (fail)
          go_wp2
          go_ret2
          exact ⟨by rw [HR'.out]; first | rfl | (show Ending.returned (.tuple #[.int .i64 (8 + 8 * f 1), .int .i64 0]) = .returned (.tuple #[.int .i64 ((8 + 8 * (f 1).toNat : Nat) : Int), .int .i64 0]); rw [he8]), below_drewN (Below.refl _ _) _⟩
        · have d2' : ((f 2 * 256 + f 3) % 2 == 1) = false := by simpa using d2
          have hr : r = (8, 0) := by rw [HRE.out]; unfold one6; rw [if_neg HN, if_neg c8, HLE.out, if_neg cL, if_neg (by omega), if_neg (fun h => h.2.elim (fun q => q d8) d2)]
          have HR' := Lib.hid hr
          clear hr HRE
          go_enter Try.func39, Try.ntmps39
          go_upto_region 12 with fail
          go_quiet (fail)
          go_wp2
          go_ret2
          exact ⟨by rw [HR'.out]; first | rfl | (show Ending.returned (.tuple #[.int .i64 (8 + 8 * f 1), .int .i64 0]) = .returned (.tuple #[.int .i64 ((8 + 8 * (f 1).toNat : Nat) : Int), .int .i64 0]); rw [he8]), below_drewN (Below.refl _ _) _⟩
      · have d8' : ((f 2 * 256 + f 3) / 8 != 0) = true := by simpa using d8
        have hr : r = (0, 11) := by rw [HRE.out]; unfold one6; rw [if_neg HN, if_neg c8, HLE.out, if_neg cL, if_neg (by omega), if_pos ⟨rfl, .inl d8⟩]
        have HR' := Lib.hid hr
        clear hr HRE
        go_enter Try.func39, Try.ntmps39
        go_upto_region 12 with fail
        go_quiet (fail)
        go_wp2
        go_ret2
        exact ⟨by rw [HR'.out]; first | rfl | (show Ending.returned (.tuple #[.int .i64 (8 + 8 * f 1), .int .i64 0]) = .returned (.tuple #[.int .i64 ((8 + 8 * (f 1).toNat : Nat) : Int), .int .i64 0]); rw [he8]), below_drewN (Below.refl _ _) _⟩
set_option maxHeartbeats 2000000 in
theorem rone_43 (first : Bool) (A : Option Addr) (m c : Nat) (f : Nat → Int) (hf : Byt f) (hm : m ≤ 4611686018427387904) (w : World) (hr : Rd w w.heap.size A m f) :
    Calls Try.prog 39 #[.int .u8 43, .bool first, .slice A m c] w (OneOut (one6 43 first f m) w) := by
  obtain ⟨r, hre⟩ : ∃ r, r = one6 43 first f m := ⟨_, rfl⟩
  rw [← hre]
  have HRE := Lib.hid hre
  clear hre
  have HN : ¬ ((43 : Int) = 0 ∧ first = false) := fun h => by omega
  have HK44 : ¬ (43 : Int) = 44 := by omega
  by_cases c8 : m < 8
  · have c8' : (m : Int) < 8 := by omega
    have hr : r = (0, 4) := by rw [HRE.out]; unfold one6; rw [if_neg HN, if_pos c8]
    have HR' := Lib.hid hr
    clear hr HRE
    go_enter Try.func39, Try.ntmps39
    go_wp2
    go_ret2
    exact ⟨by rw [HR'.out]; rfl, Below.refl _ _⟩
  · have c8' : ¬ (m : Int) < 8 := by omega
    rcases hr with h0 | ⟨b, off, rfl, hb, hc⟩
    · omega
    have x1 := hc 1 (by omega)
    have x2 := hc 2 (by omega)
    have x3 := hc 3 (by omega)
    obtain ⟨p1, q1⟩ := hf 1
    obtain ⟨p2, q2⟩ := hf 2
    obtain ⟨p3, q3⟩ := hf 3
    have i1 : (1 : Int) < (m : Int) := by omega
    have i2 : (2 : Int) < (m : Int) := by omega
    have i3 : (3 : Int) < (m : Int) := by omega
    clear hc hf
    have he8 : ((8 + 8 * (f 1).toNat : Nat) : Int) = 8 + 8 * f 1 := by omega
    have HLE : Hid (len6 (43 : Int) f = 8 + 8 * (f 1).toNat) := Lib.hid (by unfold len6; first | rw [if_pos rfl] | rw [if_neg HK44])
    by_cases cL : m < 8 + 8 * (f 1).toNat
    · have cL' : (m : Int) < 8 + 8 * f 1 := by omega
      have hr : r = (0, 4) := by rw [HRE.out]; unfold one6; rw [if_neg HN, if_neg c8, HLE.out, if_pos cL]
      have HR' := Lib.hid hr
      clear hr HRE
      go_enter Try.func39, Try.ntmps39
      go_wp2
      go_ret2
      exact ⟨by rw [HR'.out]; rfl, Below.refl _ _⟩
    · have cL' : ¬ (m : Int) < 8 + 8 * f 1 := by omega
      by_cases c3 : f 3 = 0
      · have c3' : (f 3 != 0) = false := by simpa using c3
        have hr : r = (8 + 8 * (f 1).toNat, 0) := by rw [HRE.out]; unfold one6; rw [if_neg HN, if_neg c8, HLE.out, if_neg cL, if_neg (fun h => h.2 c3), if_neg (by omega)]
        have HR' := Lib.hid hr
        clear hr HRE
        go_enter Try.func39, Try.ntmps39
        go_upto_region 12 with fail
        go_quiet (fail)
        go_wp2
        go_ret2
        exact ⟨by rw [HR'.out]; first | rfl | (show Ending.returned (.tuple #[.int .i64 (8 + 8 * f 1), .int .i64 0]) = .returned (.tuple #[.int .i64 ((8 + 8 * (f 1).toNat : Nat) : Int), .int .i64 0]); rw [he8]), below_drewN (Below.refl _ _) _⟩
      · have c3' : (f 3 != 0) = true := by simpa using c3
        have hr : r = (0, 12) := by rw [HRE.out]; unfold one6; rw [if_neg HN, if_neg c8, HLE.out, if_neg cL, if_pos ⟨rfl, c3⟩]
        have HR' := Lib.hid hr
        clear hr HRE
        go_enter Try.func39, Try.ntmps39
        go_wp2
        go_ret2
        exact ⟨by rw [HR'.out]; rfl, Below.refl _ _⟩
set_option maxHeartbeats 2000000 in
theorem rone_0 (first : Bool) (hfi : first = true) (A : Option Addr) (m c : Nat) (f : Nat → Int) (hf : Byt f) (hm : m ≤ 4611686018427387904) (w : World) (hr : Rd w w.heap.size A m f) :
    Calls Try.prog 39 #[.int .u8 0, .bool first, .slice A m c] w (OneOut (one6 0 first f m) w) := by
  obtain ⟨r, hre⟩ : ∃ r, r = one6 0 first f m := ⟨_, rfl⟩
  rw [← hre]
  subst hfi
  have HRE := Lib.hid hre
  clear hre
  have HN : ¬ ((0 : Int) = 0 ∧ true = false) := fun h => by cases h.2
  have HK44 : ¬ (0 : Int) = 44 := by omega
  have HK43 : ¬ (0 : Int) = 43 := by omega
  by_cases c8 : m < 8
  · have c8' : (m : Int) < 8 := by omega
    have hr : r = (0, 4) := by rw [HRE.out]; unfold one6; rw [if_neg HN, if_pos c8]
    have HR' := Lib.hid hr
    clear hr HRE
    go_enter Try.func39, Try.ntmps39
    go_wp2
    go_ret2
    exact ⟨by rw [HR'.out]; rfl, Below.refl _ _⟩
  · have c8' : ¬ (m : Int) < 8 := by omega
    rcases hr with h0 | ⟨b, off, rfl, hb, hc⟩
    · omega
    have x1 := hc 1 (by omega)
    have x2 := hc 2 (by omega)
    have x3 := hc 3 (by omega)
    obtain ⟨p1, q1⟩ := hf 1
    obtain ⟨p2, q2⟩ := hf 2
    obtain ⟨p3, q3⟩ := hf 3
    have i1 : (1 : Int) < (m : Int) := by omega
    have i2 : (2 : Int) < (m : Int) := by omega
    have i3 : (3 : Int) < (m : Int) := by omega
    clear hc hf
    have he8 : ((8 + 8 * (f 1).toNat : Nat) : Int) = 8 + 8 * f 1 := by omega
    have HLE : Hid (len6 (0 : Int) f = 8 + 8 * (f 1).toNat) := Lib.hid (by unfold len6; first | rw [if_pos rfl] | rw [if_neg HK44])
    by_cases cL : m < 8 + 8 * (f 1).toNat
    · have cL' : (m : Int) < 8 + 8 * f 1 := by omega
      have hr : r = (0, 4) := by rw [HRE.out]; unfold one6; rw [if_neg HN, if_neg c8, HLE.out, if_pos cL]
      have HR' := Lib.hid hr
      clear hr HRE
      go_enter Try.func39, Try.ntmps39
      go_wp2
      go_ret2
      exact ⟨by rw [HR'.out]; rfl, Below.refl _ _⟩
    · have cL' : ¬ (m : Int) < 8 + 8 * f 1 := by omega
      have hr : r = (8 + 8 * (f 1).toNat, 0) := by rw [HRE.out]; unfold one6; rw [if_neg HN, if_neg c8, HLE.out, if_neg cL, if_neg (fun h => HK43 h.1), if_neg (fun h => HK44 h.1)]
      have HR' := Lib.hid hr
      clear hr HRE
      go_enter Try.func39, Try.ntmps39
      go_upto_region 12 with fail
      go_quiet (fail)
      go_wp2
      go_ret2
      exact ⟨by rw [HR'.out]; first | rfl | (show Ending.returned (.tuple #[.int .i64 (8 + 8 * f 1), .int .i64 0]) = .returned (.tuple #[.int .i64 ((8 + 8 * (f 1).toNat : Nat) : Int), .int .i64 0]); rw [he8]), below_drewN (Below.refl _ _) _⟩
set_option maxHeartbeats 2000000 in
theorem rone_k (k : Int) (first : Bool) (n0 : k ≠ 0) (HK43 : ¬ k = 43) (HK44 : ¬ k = 44) (A : Option Addr) (m c : Nat) (f : Nat → Int) (hf : Byt f) (hm : m ≤ 4611686018427387904) (w : World) (hr : Rd w w.heap.size A m f) :
    Calls Try.prog 39 #[.int .u8 k, .bool first, .slice A m c] w (OneOut (one6 k first f m) w) := by
  obtain ⟨r, hre⟩ : ∃ r, r = one6 k first f m := ⟨_, rfl⟩
  rw [← hre]
  have HRE := Lib.hid hre
  clear hre
  have HN : ¬ (k = 0 ∧ first = false) := fun h => n0 h.1
  have b0 : (k == 0) = false := by simpa using n0
  have b1 : (k == 43) = false := by simpa using HK43
  have b2 : (k == 44) = false := by simpa using HK44
  have b3 : (k != 44) = true := by simpa using HK44
  by_cases c8 : m < 8
  · have c8' : (m : Int) < 8 := by omega
    have hr : r = (0, 4) := by rw [HRE.out]; unfold one6; rw [if_neg HN, if_pos c8]
    have HR' := Lib.hid hr
    clear hr HRE
    go_enter Try.func39, Try.ntmps39
    go_wp2
    go_ret2
    exact ⟨by rw [HR'.out]; rfl, Below.refl _ _⟩
  · have c8' : ¬ (m : Int) < 8 := by omega
    rcases hr with h0 | ⟨b, off, rfl, hb, hc⟩
    · omega
    have x1 := hc 1 (by omega)
    have x2 := hc 2 (by omega)
    have x3 := hc 3 (by omega)
    obtain ⟨p1, q1⟩ := hf 1
    obtain ⟨p2, q2⟩ := hf 2
    obtain ⟨p3, q3⟩ := hf 3
    have i1 : (1 : Int) < (m : Int) := by omega
    have i2 : (2 : Int) < (m : Int) := by omega
    have i3 : (3 : Int) < (m : Int) := by omega
    clear hc hf
    have he8 : ((8 + 8 * (f 1).toNat : Nat) : Int) = 8 + 8 * f 1 := by omega
    have HLE : Hid (len6 (k : Int) f = 8 + 8 * (f 1).toNat) := Lib.hid (by unfold len6; first | rw [if_pos rfl] | rw [if_neg HK44])
    by_cases cL : m < 8 + 8 * (f 1).toNat
    · have cL' : (m : Int) < 8 + 8 * f 1 := by omega
      have hr : r = (0, 4) := by rw [HRE.out]; unfold one6; rw [if_neg HN, if_neg c8, HLE.out, if_pos cL]
      have HR' := Lib.hid hr
      clear hr HRE
      go_enter Try.func39, Try.ntmps39
      go_wp2
      go_ret2
      exact ⟨by rw [HR'.out]; rfl, Below.refl _ _⟩
    · have cL' : ¬ (m : Int) < 8 + 8 * f 1 := by omega
      have hr : r = (8 + 8 * (f 1).toNat, 0) := by rw [HRE.out]; unfold one6; rw [if_neg HN, if_neg c8, HLE.out, if_neg cL, if_neg (fun h => HK43 h.1), if_neg (fun h => HK44 h.1)]
      have HR' := Lib.hid hr
      clear hr HRE
      go_enter Try.func39, Try.ntmps39
      go_upto_region 12 with fail
      go_quiet (fail)
      go_wp2
      go_ret2
      exact ⟨by rw [HR'.out]; first | rfl | (show Ending.returned (.tuple #[.int .i64 (8 + 8 * f 1), .int .i64 0]) = .returned (.tuple #[.int .i64 ((8 + 8 * (f 1).toNat : Nat) : Int), .int .i64 0]); rw [he8]), below_drewN (Below.refl _ _) _⟩
set_option maxHeartbeats 400000 in
theorem rone_bad (A : Option Addr) (m c : Nat) (f : Nat → Int) (w : World) : Calls Try.prog 39 #[.int .u8 0, .bool false, .slice A m c] w (OneOut (one6 0 false f m) w) := by
  have hr : one6 0 false f m = (0, 5) := by unfold one6; rw [if_pos ⟨rfl, rfl⟩]
  rw [hr]
  go_enter Try.func39, Try.ntmps39
  go_wp2
  go_ret2
  exact ⟨rfl, Below.refl _ _⟩
theorem rone_any (k : Int) (first : Bool) (A : Option Addr) (m c : Nat) (f : Nat → Int) (hf : Byt f) (hm : m ≤ 4611686018427387904) (w : World) (hr : Rd w w.heap.size A m f) :
    Calls Try.prog 39 #[.int .u8 k, .bool first, .slice A m c] w (OneOut (one6 k first f m) w) := by
  by_cases h4 : k = 44
  · subst h4
    exact rone_44 first A m c f hf hm w hr
  · by_cases h3 : k = 43
    · subst h3
      exact rone_43 first A m c f hf hm w hr
    · by_cases h0 : k = 0
      · subst h0
        cases first
        · exact rone_bad A m c f w
        · exact rone_0 true rfl A m c f hf hm w hr
      · exact rone_k k first h0 h3 h4 A m c f hf hm w hr
end Go.Proofs.Ytfaelihfjmaekaa
