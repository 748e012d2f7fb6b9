import Derived.Test.YtlchegibfopglaaRows
import Derived.Test.YtlchegibfopglaaK1
import Derived.Test.YtlchegibfopglaaK9
import Derived.WalkLawsBesides
import Derived.BigQuiet
import Derived.IntWalk
import Derived.Deep.CutRange
import Derived.Test.YtlchegibfopglaaK0
import Derived.MapKept
import Derived.Laws.EntriesVeiled
/- The document's answers for layer 4: isExtension, one. -/
namespace Go.Proofs.Ytlchegibfopglaa
set_option maxRecDepth 100000
open Go.RowKit
theorem risext_any (k : Int) (w : World) : Calls Try.prog 64 #[.int .u8 k] w fun e w' => e = .returned (.bool (ext6 k)) ∧ w = w' := by
  by_cases h0 : k = 0
  · subst h0
    go_enter Try.func64, Try.ntmps64
    go_wp2
    go_ret
    exact ⟨rfl, rfl⟩
  · by_cases h1 : k = 43
    · subst h1
      go_enter Try.func64, Try.ntmps64
      go_wp2
      go_ret
      exact ⟨rfl, rfl⟩
    · by_cases h2 : k = 44
      · subst h2
        go_enter Try.func64, Try.ntmps64
        go_wp2
        go_ret
        exact ⟨rfl, rfl⟩
      · by_cases h3 : k = 60
        · subst h3
          go_enter Try.func64, Try.ntmps64
          go_wp2
          go_ret
          exact ⟨rfl, rfl⟩
        · have e : ext6 k = false := by unfold ext6; simp [h0, h1, h2, h3]
          rw [e]
          have b0 : (k == 0) = false := by simpa using h0
          have b1 : (k == 43) = false := by simpa using h1
          have b2 : (k == 44) = false := by simpa using h2
          have b3 : (k == 60) = false := by simpa using h3
          clear e h0 h1 h2 h3
          go_enter Try.func64, Try.ntmps64
          go_wp2
          go_ret
          exact ⟨rfl, rfl⟩
def OneOut (r : Nat × Int) (w : World) (e : Ending) (w' : World) : Prop := e = .returned (.tuple #[.int .i64 (r.1 : Int), .int .i64 r.2]) ∧ Below w.heap.size w w'
set_option maxHeartbeats 2000000 in
theorem rone_44 (first : Bool) (A : Option Addr) (m c : Nat) (f : Nat → Int) (hf : Byt f) (hm : m ≤ 4611686018427387904) (w : World) (hr : Rd w w.heap.size A m f) :
    Calls Try.prog 65 #[.int .u8 44, .bool first, .slice A m c] w (OneOut (one6 44 first f m) w) := by
  obtain ⟨r, hre⟩ : ∃ r, r = one6 44 first f m := ⟨_, rfl⟩
  rw [← hre]
  have HRE := Lib.hid hre
  clear hre
  have HN : ¬ ((44 : Int) = 0 ∧ first = false) := fun h => by omega
  by_cases c8 : m < 8
  · have c8' : (m : Int) < 8 := by omega
    have hr : r = (0, 4) := by rw [HRE.out]; unfold one6; rw [if_neg HN, if_pos c8]
    have HR' := Lib.hid hr
    clear hr HRE
    go_enter Try.func65, Try.ntmps65
    go_wp2
    go_ret2
    exact ⟨by rw [HR'.out]; rfl, Below.refl _ _⟩
  · have c8' : ¬ (m : Int) < 8 := by omega
    rcases hr with h0 | ⟨b, off, rfl, hb, hc⟩
    · omega
    have x1 := hc 1 (by omega)
    have x2 := hc 2 (by omega)
    have x3 := hc 3 (by omega)
    obtain ⟨p1, q1⟩ := hf 1
    obtain ⟨p2, q2⟩ := hf 2
    obtain ⟨p3, q3⟩ := hf 3
    have i1 : (1 : Int) < (m : Int) := by omega
    have i2 : (2 : Int) < (m : Int) := by omega
    have i3 : (3 : Int) < (m : Int) := by omega
    clear hc hf
    have he8 : ((8 + 8 * (f 1).toNat : Nat) : Int) = 8 + 8 * f 1 := by omega
    have HLE : Hid (len6 (44 : Int) f = 8) := Lib.hid (by unfold len6; first | rw [if_pos rfl] | rw [if_neg HK44])
    by_cases cL : m < 8
    · have cL' : (m : Int) < 8 := by omega
      exact absurd cL c8
    · have cL' : ¬ (m : Int) < 8 := by omega
      have e8 : (f 2 * 256 + f 3).tdiv 8 = (f 2 * 256 + f 3) / 8 := Int.tdiv_eq_ediv_of_nonneg (by omega)
      have e2 : (f 2 * 256 + f 3).tmod 2 = (f 2 * 256 + f 3) % 2 := Int.tmod_eq_emod_of_nonneg (by omega)
      by_cases d8 : (f 2 * 256 + f 3) / 8 = 0
      · have d8' : ((f 2 * 256 + f 3) / 8 != 0) = false := by simpa using d8
        by_cases d2 : (f 2 * 256 + f 3) % 2 = 1
        · have d2' : ((f 2 * 256 + f 3) % 2 == 1) = true := by simpa using d2
          have hr : r = (0, 11) := by rw [HRE.out]; unfold one6; rw [if_neg HN, if_neg c8, HLE.out, if_neg cL, if_neg (by omega), if_pos ⟨rfl, .inr d2⟩]
          have HR' := Lib.hid hr
          clear hr HRE
          go_enter Try.func65, Try.ntmps65
          go_upto_region 12 with fail
          go_quiet (fail)
          go_wp2
          go_ret2
          exact ⟨by rw [HR'.out]; first | rfl | (show Ending.returned (.tuple #[.int .i64 (8 + 8 * f 1), .int .i64 0]) = .returned (.tuple #[.int .i64 ((8 + 8 * (f 1).toNat : Nat) : Int), .int .i64 0]); rw [he8]), below_drewN (Below.refl _ _) _⟩
        · have d2' : ((f 2 * 256 + f 3) % 2 == 1) = false := by simpa using d2
          have hr : r = (8, 0) := by rw [HRE.out]; unfold one6; rw [if_neg HN, if_neg c8, HLE.out, if_neg cL, if_neg (by omega), if_neg (fun h => h.2.elim (fun q => q d8) d2)]
          have HR' := Lib.hid hr
          clear hr HRE
          go_enter Try.func65, Try.ntmps65
          go_upto_region 12 with fail
          go_quiet (fail)
          go_wp2
          go_ret2
          exact ⟨by rw [HR'.out]; first | rfl | (show Ending.returned (.tuple #[.int .i64 (8 + 8 * f 1), .int .i64 0]) = .returned (.tuple #[.int .i64 ((8 + 8 * (f 1).toNat : Nat) : Int), .int .i64 0]); rw [he8]), below_drewN (Below.refl _ _) _⟩
      · have d8' : ((f 2 * 256 + f 3) / 8 != 0) = true := by simpa using d8
        have hr : r = (0, 11) := by rw [HRE.out]; unfold one6; rw [if_neg HN, if_neg c8, HLE.out, if_neg cL, if_neg (by omega), if_pos ⟨rfl, .inl d8⟩]
        have HR' := Lib.hid hr
        clear hr HRE
        go_enter Try.func65, Try.ntmps65
        go_upto_region 12 with fail
        go_quiet (fail)
        go_wp2
        go_ret2
        exact ⟨by rw [HR'.out]; first | rfl | (show Ending.returned (.tuple #[.int .i64 (8 + 8 * f 1), .int .i64 0]) = .returned (.tuple #[.int .i64 ((8 + 8 * (f 1).toNat : Nat) : Int), .int .i64 0]); rw [he8]), below_drewN (Below.refl _ _) _⟩
set_option maxHeartbeats 2000000 in
theorem rone_43 (first : Bool) (A : Option Addr) (m c : Nat) (f : Nat → Int) (hf : Byt f) (hm : m ≤ 4611686018427387904) (w : World) (hr : Rd w w.heap.size A m f) :
    Calls Try.prog 65 #[.int .u8 43, .bool first, .slice A m c] w (OneOut (one6 43 first f m) w) := by
  obtain ⟨r, hre⟩ : ∃ r, r = one6 43 first f m := ⟨_, rfl⟩
  rw [← hre]
  have HRE := Lib.hid hre
  clear hre
  have HN : ¬ ((43 : Int) = 0 ∧ first = false) := fun h => by omega
  have HK44 : ¬ (43 : Int) = 44 := by omega
  by_cases c8 : m < 8
  · have c8' : (m : Int) < 8 := by omega
    have hr : r = (0, 4) := by rw [HRE.out]; unfold one6; rw [if_neg HN, if_pos c8]
    have HR' := Lib.hid hr
    clear hr HRE
    go_enter Try.func65, Try.ntmps65
    go_wp2
    go_ret2
    exact ⟨by rw [HR'.out]; rfl, Below.refl _ _⟩
  · have c8' : ¬ (m : Int) < 8 := by omega
    rcases hr with h0 | ⟨b, off, rfl, hb, hc⟩
    · omega
    have x1 := hc 1 (by omega)
    have x2 := hc 2 (by omega)
    have x3 := hc 3 (by omega)
    obtain ⟨p1, q1⟩ := hf 1
    obtain ⟨p2, q2⟩ := hf 2
    obtain ⟨p3, q3⟩ := hf 3
    have i1 : (1 : Int) < (m : Int) := by omega
    have i2 : (2 : Int) < (m : Int) := by omega
    have i3 : (3 : Int) < (m : Int) := by omega
    clear hc hf
    have he8 : ((8 + 8 * (f 1).toNat : Nat) : Int) = 8 + 8 * f 1 := by omega
    have HLE : Hid (len6 (43 : Int) f = 8 + 8 * (f 1).toNat) := Lib.hid (by unfold len6; first | rw [if_pos rfl] | rw [if_neg HK44])
    by_cases cL : m < 8 + 8 * (f 1).toNat
    · have cL' : (m : Int) < 8 + 8 * f 1 := by omega
      have hr : r = (0, 4) := by rw [HRE.out]; unfold one6; rw [if_neg HN, if_neg c8, HLE.out, if_pos cL]
      have HR' := Lib.hid hr
      clear hr HRE
      go_enter Try.func65, Try.ntmps65
      go_wp2
      go_ret2
      exact ⟨by rw [HR'.out]; rfl, Below.refl _ _⟩
    · have cL' : ¬ (m : Int) < 8 + 8 * f 1 := by omega
      by_cases c3 : f 3 = 0
      · have c3' : (f 3 != 0) = false := by simpa using c3
        have hr : r = (8 + 8 * (f 1).toNat, 0) := by rw [HRE.out]; unfold one6; rw [if_neg HN, if_neg c8, HLE.out, if_neg cL, if_neg (fun h => h.2 c3), if_neg (by omega)]
        have HR' := Lib.hid hr
        clear hr HRE
        go_enter Try.func65, Try.ntmps65
        go_upto_region 12 with fail
        go_quiet (fail)
        go_wp2
        go_ret2
        exact ⟨by rw [HR'.out]; first | rfl | (show Ending.returned (.tuple #[.int .i64 (8 + 8 * f 1), .int .i64 0]) = .returned (.tuple #[.int .i64 ((8 + 8 * (f 1).toNat : Nat) : Int), .int .i64 0]); rw [he8]), below_drewN (Below.refl _ _) _⟩
      · have c3' : (f 3 != 0) = true := by simpa using c3
        have hr : r = (0, 12) := by rw [HRE.out]; unfold one6; rw [if_neg HN, if_neg c8, HLE.out, if_neg cL, if_pos ⟨rfl, c3⟩]
        have HR' := Lib.hid hr
        clear hr HRE
        go_enter Try.func65, Try.ntmps65
        go_wp2
        go_ret2
        exact ⟨by rw [HR'.out]; rfl, Below.refl _ _⟩
set_option maxHeartbeats 2000000 in
theorem rone_0 (first : Bool) (hfi : first = true) (A : Option Addr) (m c : Nat) (f : Nat → Int) (hf : Byt f) (hm : m ≤ 4611686018427387904) (w : World) (hr : Rd w w.heap.size A m f) :
    Calls Try.prog 65 #[.int .u8 0, .bool first, .slice A m c] w (OneOut (one6 0 first f m) w) := by
  obtain ⟨r, hre⟩ : ∃ r, r = one6 0 first f m := ⟨_, rfl⟩
  rw [← hre]
  subst hfi
  have HRE := Lib.hid hre
  clear hre
  have HN : ¬ ((0 : Int) = 0 ∧ true = false) := fun h => by cases h.2
  have HK44 : ¬ (0 : Int) = 44 := by omega
  have HK43 : ¬ (0 : Int) = 43 := by omega
  by_cases c8 : m < 8
  · have c8' : (m : Int) < 8 := by omega
    have hr : r = (0, 4) := by rw [HRE.out]; unfold one6; rw [if_neg HN, if_pos c8]
    have HR' := Lib.hid hr
    clear hr HRE
    go_enter Try.func65, Try.ntmps65
    go_wp2
    go_ret2
    exact ⟨by rw [HR'.out]; rfl, Below.refl _ _⟩
  · have c8' : ¬ (m : Int) < 8 := by omega
    rcases hr with h0 | ⟨b, off, rfl, hb, hc⟩
    · omega
    have x1 := hc 1 (by omega)
    have x2 := hc 2 (by omega)
    have x3 := hc 3 (by omega)
    obtain ⟨p1, q1⟩ := hf 1
    obtain ⟨p2, q2⟩ := hf 2
    obtain ⟨p3, q3⟩ := hf 3
    have i1 : (1 : Int) < (m : Int) := by omega
    have i2 : (2 : Int) < (m : Int) := by omega
    have i3 : (3 : Int) < (m : Int) := by omega
    clear hc hf
    have he8 : ((8 + 8 * (f 1).toNat : Nat) : Int) = 8 + 8 * f 1 := by omega
    have HLE : Hid (len6 (0 : Int) f = 8 + 8 * (f 1).toNat) := Lib.hid (by unfold len6; first | rw [if_pos rfl] | rw [if_neg HK44])
    by_cases cL : m < 8 + 8 * (f 1).toNat
    · have cL' : (m : Int) < 8 + 8 * f 1 := by omega
      have hr : r = (0, 4) := by rw [HRE.out]; unfold one6; rw [if_neg HN, if_neg c8, HLE.out, if_pos cL]
      have HR' := Lib.hid hr
      clear hr HRE
      go_enter Try.func65, Try.ntmps65
      go_wp2
      go_ret2
      exact ⟨by rw [HR'.out]; rfl, Below.refl _ _⟩
    · have cL' : ¬ (m : Int) < 8 + 8 * f 1 := by omega
      have hr : r = (8 + 8 * (f 1).toNat, 0) := by rw [HRE.out]; unfold one6; rw [if_neg HN, if_neg c8, HLE.out, if_neg cL, if_neg (fun h => HK43 h.1), if_neg (fun h => HK44 h.1)]
      have HR' := Lib.hid hr
      clear hr HRE
      go_enter Try.func65, Try.ntmps65
      go_upto_region 12 with fail
      go_quiet (fail)
      go_wp2
      go_ret2
      exact ⟨by rw [HR'.out]; first | rfl | (show Ending.returned (.tuple #[.int .i64 (8 + 8 * f 1), .int .i64 0]) = .returned (.tuple #[.int .i64 ((8 + 8 * (f 1).toNat : Nat) : Int), .int .i64 0]); rw [he8]), below_drewN (Below.refl _ _) _⟩
set_option maxHeartbeats 2000000 in
theorem rone_k (k : Int) (first : Bool) (n0 : k ≠ 0) (HK43 : ¬ k = 43) (HK44 : ¬ k = 44) (A : Option Addr) (m c : Nat) (f : Nat → Int) (hf : Byt f) (hm : m ≤ 4611686018427387904) (w : World) (hr : Rd w w.heap.size A m f) :
    Calls Try.prog 65 #[.int .u8 k, .bool first, .slice A m c] w (OneOut (one6 k first f m) w) := by
  obtain ⟨r, hre⟩ : ∃ r, r = one6 k first f m := ⟨_, rfl⟩
  rw [← hre]
  have HRE := Lib.hid hre
  clear hre
  have HN : ¬ (k = 0 ∧ first = false) := fun h => n0 h.1
  have b0 : (k == 0) = false := by simpa using n0
  have b1 : (k == 43) = false := by simpa using HK43
  have b2 : (k == 44) = false := by simpa using HK44
  have b3 : (k != 44) = true := by simpa using HK44
  by_cases c8 : m < 8
  · have c8' : (m : Int) < 8 := by omega
    have hr : r = (0, 4) := by rw [HRE.out]; unfold one6; rw [if_neg HN, if_pos c8]
    have HR' := Lib.hid hr
    clear hr HRE
    go_enter Try.func65, Try.ntmps65
    go_wp2
    go_ret2
    exact ⟨by rw [HR'.out]; rfl, Below.refl _ _⟩
  · have c8' : ¬ (m : Int) < 8 := by omega
    rcases hr with h0 | ⟨b, off, rfl, hb, hc⟩
    · omega
    have x1 := hc 1 (by omega)
    have x2 := hc 2 (by omega)
    have x3 := hc 3 (by omega)
    obtain ⟨p1, q1⟩ := hf 1
    obtain ⟨p2, q2⟩ := hf 2
    obtain ⟨p3, q3⟩ := hf 3
    have i1 : (1 : Int) < (m : Int) := by omega
    have i2 : (2 : Int) < (m : Int) := by omega
    have i3 : (3 : Int) < (m : Int) := by omega
    clear hc hf
    have he8 : ((8 + 8 * (f 1).toNat : Nat) : Int) = 8 + 8 * f 1 := by omega
    have HLE : Hid (len6 (k : Int) f = 8 + 8 * (f 1).toNat) := Lib.hid (by unfold len6; first | rw [if_pos rfl] | rw [if_neg HK44])
    by_cases cL : m < 8 + 8 * (f 1).toNat
    · have cL' : (m : Int) < 8 + 8 * f 1 := by omega
      have hr : r = (0, 4) := by rw [HRE.out]; unfold one6; rw [if_neg HN, if_neg c8, HLE.out, if_pos cL]
      have HR' := Lib.hid hr
      clear hr HRE
      go_enter Try.func65, Try.ntmps65
      go_wp2
      go_ret2
      exact ⟨by rw [HR'.out]; rfl, Below.refl _ _⟩
    · have cL' : ¬ (m : Int) < 8 + 8 * f 1 := by omega
      have hr : r = (8 + 8 * (f 1).toNat, 0) := by rw [HRE.out]; unfold one6; rw [if_neg HN, if_neg c8, HLE.out, if_neg cL, if_neg (fun h => HK43 h.1), if_neg (fun h => HK44 h.1)]
      have HR' := Lib.hid hr
      clear hr HRE
      go_enter Try.func65, Try.ntmps65
      go_upto_region 12 with fail
      go_quiet (fail)
      go_wp2
      go_ret2
      exact ⟨by rw [HR'.out]; first | rfl | (show Ending.returned (.tuple #[.int .i64 (8 + 8 * f 1), .int .i64 0]) = .returned (.tuple #[.int .i64 ((8 + 8 * (f 1).toNat : Nat) : Int), .int .i64 0]); rw [he8]), below_drewN (Below.refl _ _) _⟩
set_option maxHeartbeats 400000 in
theorem rone_bad (A : Option Addr) (m c : Nat) (f : Nat → Int) (w : World) : Calls Try.prog 65 #[.int .u8 0, .bool false, .slice A m c] w (OneOut (one6 0 false f m) w) := by
  have hr : one6 0 false f m = (0, 5) := by unfold one6; rw [if_pos ⟨rfl, rfl⟩]
  rw [hr]
  go_enter Try.func65, Try.ntmps65
  go_wp2
  go_ret2
  exact ⟨rfl, Below.refl _ _⟩
theorem rone_any (k : Int) (first : Bool) (A : Option Addr) (m c : Nat) (f : Nat → Int) (hf : Byt f) (hm : m ≤ 4611686018427387904) (w : World) (hr : Rd w w.heap.size A m f) :
    Calls Try.prog 65 #[.int .u8 k, .bool first, .slice A m c] w (OneOut (one6 k first f m) w) := by
  by_cases h4 : k = 44
  · subst h4
    exact rone_44 first A m c f hf hm w hr
  · by_cases h3 : k = 43
    · subst h3
      exact rone_43 first A m c f hf hm w hr
    · by_cases h0 : k = 0
      · subst h0
        cases first
        · exact rone_bad A m c f w
        · exact rone_0 true rfl A m c f hf hm w hr
      · exact rone_k k first h0 h3 h4 A m c f hf hm w hr
end Go.Proofs.Ytlchegibfopglaa
/- The document's answers for layer 4: Chain. -/
namespace Go.Proofs.Ytlchegibfopglaa
set_option maxRecDepth 100000
open Go.RowKit
theorem chn_succ {f : Nat → Int} {N k : Nat} {next : Int} {a : Nat} (h : ext6 next = true) : chn f N (k + 1) next a =
    (if (one6 next (decide (k = 7)) (fun j => f (a + j)) (N - a)).2 = 0 then chn f N k (f a) (a + (one6 next (decide (k = 7)) (fun j => f (a + j)) (N - a)).1) else (0, 0, (one6 next (decide (k = 7)) (fun j => f (a + j)) (N - a)).2)) := by
  have e : chn f N (k + 1) next a = (if ext6 next = true then
      (if (one6 next (decide (k = 7)) (fun j => f (a + j)) (N - a)).2 = 0 then chn f N k (f a) (a + (one6 next (decide (k = 7)) (fun j => f (a + j)) (N - a)).1) else (0, 0, (one6 next (decide (k = 7)) (fun j => f (a + j)) (N - a)).2))
      else (next, a, 0)) := rfl
  rw [e, if_pos h]
/-- What Chain tells. -/
def ChOut (R : Int × Nat × Int) (w : World) (e : Ending) (w' : World) : Prop := e = .returned (.tuple #[.int .u8 R.1, .int .i64 (R.2.1 : Int), .int .i64 R.2.2]) ∧ Below w.heap.size w w'
set_option maxRecDepth 100000 in
set_option maxHeartbeats 2000000 in
theorem rchain_any (next : Int) (hn0 : 0 ≤ next ∧ next ≤ 255) (A : Option Addr) (N c : Nat) (f : Nat → Int) (hf : Byt f) (hN : N ≤ 4611686018427387904) (hcap : N ≤ c) (hc9 : c ≤ 9223372036854775807) (w : World) (hr : Rd w w.heap.size A N f) :
    Calls Try.prog 44 #[.int .u8 next, .slice A N c] w (ChOut (chn f N 8 next 0) w) := by
  have HR := Lib.hid hr
  have HF := Lib.hid hf
  obtain ⟨R, hR⟩ : ∃ R, R = chn f N 8 next 0 := ⟨_, rfl⟩
  rw [← hR]
  have HRE := Lib.hid hR
  have HNX := Lib.hid hn0
  clear hr hf hR hn0
  go_enter Try.func44, Try.ntmps44
  go_wp2
  go_loopw [0, 7, 8] (fun x y z wr => ∃ (k a : Nat) (nx : Int), k ≤ 8 ∧ x = .int .u8 nx ∧ y = .int .i64 (a : Int) ∧ z = .int .i64 ((8 - k : Nat) : Int) ∧ a ≤ N ∧ Hid (0 ≤ nx ∧ nx ≤ 255) ∧ Hid (R = chn f N k nx a) ∧ Below w.heap.size w wr) (fun _ _ z _ => 8 - (intOf z).toNat)
  case atStart => exact ⟨8, 0, next, Nat.le_refl _, rfl, rfl, rfl, Nat.zero_le _, HNX, HRE, Below.refl _ _⟩
  case round =>
    obtain ⟨k, a, nx, hk, rfl, rfl, rfl, ha, HX, HK, hbl⟩ := hrel
    have HB := Lib.hid hbl
    clear hbl
    have HIX := Lib.hid (risext_any nx wr)
    cases hx : ext6 nx with
    | false =>
      have hRv : R = (nx, a, 0) := by
        rw [HK.out]
        cases k <;> (unfold chn; rw [if_neg (by rw [hx]; decide)])
      have HRV := Lib.hid hRv
      rw [hx] at HIX
      clear hRv hx HK HRE
      go_wp2_with (first
        | (go_at_call 64; refine HIX.out.mono ?_; rintro e w1 ⟨rfl, rfl⟩))
      refine bodyPost_ret (v := .tuple #[.int .u8 nx, .int .i64 (a : Int), .int .i64 0]) (by simp [results, Try.results44]) rfl ?_
      exact ⟨by rw [HRV.out], HB.out⟩
    | true =>
      rw [hx] at HIX
      cases k with
      | zero =>
        have hRv : R = (0, 0, 3) := by
          rw [HK.out]
          unfold chn
          rw [if_pos hx]
        have HRV := Lib.hid hRv
        clear hRv hx HK HRE
        go_wp2_with (first
          | (go_at_call 64; refine HIX.out.mono ?_; rintro e w1 ⟨rfl, rfl⟩))
        refine bodyPost_ret (v := .tuple #[.int .u8 0, .int .i64 0, .int .i64 3]) (by simp [results, Try.results44]) rfl ?_
        exact ⟨by rw [HRV.out]; rfl, HB.out⟩
      | succ k =>
        obtain ⟨z, hz⟩ : ∃ z : Nat, z = 8 - (k + 1) := ⟨_, rfl⟩
        rw [← hz]
        have z8 : ((z : Int) == 8) = false := by simp; omega
        obtain ⟨q, hq⟩ : ∃ q : Bool, q = decide (k = 7) := ⟨_, rfl⟩
        have z0 : ((z : Int) == 0) = q := by
          rw [hq]
          by_cases h7 : k = 7
          · have : z = 0 := by omega
            subst this
            simp [h7]
          · have : (z : Int) ≠ 0 := by omega
            simp [h7]
            omega
        obtain ⟨D, hD, hDr⟩ := slice_any A N c a ha hcap hc9
        have HDR := Lib.hid hDr
        obtain ⟨r, hr⟩ : ∃ r, r = one6 nx (decide (k = 7)) (fun j => f (a + j)) (N - a) := ⟨_, rfl⟩
        have HON := Lib.hid (rone_any nx q D (N - a) (c - a) (fun j => f (a + j)) (fun j => HF.out _) (by omega) wr (hDr wr wr.heap.size f ((HR.out.keep HB.out).more HB.out.size)))
        rw [hq, ← hr, ← hq] at HON
        have hRv : R = if r.2 = 0 then chn f N k (f a) (a + r.1) else (0, 0, r.2) := by
          rw [HK.out, hr]
          exact chn_succ hx
        have HRV := Lib.hid hRv
        have HOK : Hid (r.2 = 0 → 8 ≤ r.1 ∧ r.1 ≤ N - a) := fun h => by
          rw [hr] at h ⊢
          obtain ⟨b1, b2, _⟩ := one6_ok h
          exact ⟨b1, b2⟩
        obtain ⟨r1, r2⟩ := r
        have i0 : (0 : Int) ≤ (a : Int) := by omega
        have HZ := Lib.hid hz
        clear hRv hx HK HRE hr hDr hq hz
        by_cases he : r2 = 0
        · subst he
          obtain ⟨b1, b2⟩ := HOK.out rfl
          have b1' : 8 ≤ r1 := b1
          have b2' : r1 ≤ N - a := b2
          rcases HR.out with h0 | ⟨b, off, rfl, hbb, hcell⟩
          · omega
          have HC := Lib.hid hcell
          clear hcell b1 b2
          have i1 : (a : Int) < (N : Int) := by omega
          have i3 : ((a : Int)).toNat = a := by omega
          have i4 : IntKind.i64.wrap ((a : Int) + (r1 : Int)) = (a : Int) + (r1 : Int) := by rw [IntKind.wrap_i64]; omega
          have hz8 : z < 8 := by have := HZ.out; omega
          have i5 : IntKind.i64.wrap ((z : Int) + 1) = (z : Int) + 1 := by rw [IntKind.wrap_i64]; omega
          go_wp2_with (first
            | (go_at_call 64; refine HIX.out.mono ?_; rintro e w1 ⟨rfl, rfl⟩)
            | (go_at_call 65; refine HON.out.mono ?_; rintro e w2 ⟨rfl, hb2⟩; have HB2 : Hid (Below w.heap.size w w2) := HB.out.trans (hb2.mono HB.out.size); clear hb2; have hx2 := (HB2.out.cell (p := ⟨b, off + a, none⟩) hbb).trans (HC.out a (by omega))))
          go_roundw
          case rel => exact ⟨k, a + r1, f a, by omega, rfl, by simp, by have := HZ.out; congr 1; omega, by omega, Lib.hid (HF.out a), Lib.hid (by rw [HRV.out]; simp), HB2.out⟩
          case measure => have := HZ.out; simp [intOf]; omega
        · have he' : (r2 != 0) = true := by simpa using he
          go_wp2_with (first
            | (go_at_call 64; refine HIX.out.mono ?_; rintro e w1 ⟨rfl, rfl⟩)
            | (go_at_call 65; refine HON.out.mono ?_; rintro e w2 ⟨rfl, hb2⟩; have HB2 : Hid (Below w.heap.size w w2) := HB.out.trans (hb2.mono HB.out.size); clear hb2))
          refine bodyPost_ret (v := .tuple #[.int .u8 0, .int .i64 0, .int .i64 r2]) (by simp [results, Try.results44]) rfl ?_
          exact ⟨by rw [HRV.out, if_neg he]; rfl, HB2.out⟩
end Go.Proofs.Ytlchegibfopglaa
/- Maps whose keys are of one plain kind (numbers, strings, bools), whatever their elements: a block that is a map reads as the list of its keys and elements, in the order of their coming. Over any program. -/
namespace Go.Proofs.Ytlchegibfopglaa
open Go.RowKit Go.MapKept

/-- The element at a key. -/
def kfind (d : TypeDesc) (k : Value) : List (Value × Value) → Option Value
  | [] => none
  | p :: r => if Instr.sameNow d k p.1 = some true then some p.2 else kfind d k r
/-- The list with an element put. -/
def kput (d : TypeDesc) (k v : Value) : List (Value × Value) → List (Value × Value)
  | [] => [(k, v)]
  | p :: r => if Instr.sameNow d k p.1 = some true then (k, v) :: r else p :: kput d k v r
/-- Block b of w is a map of these keys and elements. -/
def KMap (w : World) (b : Nat) (d : TypeDesc) (L : List (Value × Value)) : Prop :=
  ∃ es clock, w.heap[b]? = some (.map es clock) ∧ es.toList.map (fun e => (e.key, e.val)) = L ∧ ∀ p ∈ L, IsKey d p.1
theorem KMap.below {w w' : World} {b B : Nat} {d : TypeDesc} {L : List (Value × Value)} (h : KMap w b d L) (hb : Below B w w') (hlt : b < B) : KMap w' b d L := by
  obtain ⟨es, clock, h1, h2⟩ := h
  exact ⟨es, clock, (hb.block b hlt).trans h1, h2⟩
theorem KMap.lt {w : World} {b : Nat} {d : TypeDesc} {L : List (Value × Value)} (h : KMap w b d L) : b < w.heap.size := by
  obtain ⟨es, clock, h1, _⟩ := h
  exact (Array.getElem?_eq_some_iff.1 h1).1
theorem KMap.kept {w w' : World} {b : Nat} {row : Option Nat} {d : TypeDesc} {L : List (Value × Value)} (h : KMap w b d L) (hg : w.grownBy w' row) (hne : some b ≠ row) : KMap w' b d L := by
  have hlt := h.lt
  obtain ⟨es, clock, h1, h2⟩ := h
  exact ⟨es, clock, (hg.block b hlt hne).trans h1, h2⟩
theorem KMap.drew {w : World} {b : Nat} {d : TypeDesc} {L : List (Value × Value)} (h : KMap w b d L) : KMap w.drew b d L := h
theorem kmap_new (w : World) (d : TypeDesc) : KMap (w.alloc (.map #[] 0)) w.heap.size d [] := ⟨#[], 0, heap_alloc_new w _, rfl, by simp⟩

theorem findNow_kfind {d : TypeDesc} {k : Value} (hk : IsKey d k) : ∀ (l : List MapEntry) (i : Nat), (∀ x ∈ l, IsKey d x.key) →
    (kfind d k (l.map fun e => (e.key, e.val)) = none ∧ Instr.findNow d k l i = some none) ∨
    ∃ j e, l[j]? = some e ∧ e.key = k ∧ kfind d k (l.map fun e => (e.key, e.val)) = some e.val ∧ Instr.findNow d k l i = some (some (i + j, e.val))
  | [], _, _ => .inl ⟨rfl, rfl⟩
  | e :: es, i, h => by
    obtain ⟨r, hr, hiff⟩ := sameNow_of_keys hk (h e (.head _))
    cases r with
    | true => exact .inr ⟨0, e, rfl, (hiff.1 rfl).symm, by simp [kfind, hr], by simp [Instr.findNow, hr]⟩
    | false =>
      rcases findNow_kfind hk es (i + 1) (fun x hx => h x (.tail _ hx)) with ⟨h1, h2⟩ | ⟨j, e', h1, h2, h3, h4⟩
      · exact .inl ⟨by simp [kfind, hr, h1], by simp [Instr.findNow, hr, h2]⟩
      · exact .inr ⟨j + 1, e', by simpa using h1, h2, by simp [kfind, hr, h3], by simp [Instr.findNow, hr, h4]; omega⟩

section
variable {P : Program}
/-- 'm[k]' (c = false), 'v, ok := m[k]' (c = true). -/
theorem KMap.look {w : World} {b : Nat} {d : TypeDesc} {L : List (Value × Value)} (h : KMap w b d L) {t kt et : TypeId} (ht : P.underlying t = some (.map kt et)) (hd : P.underlying kt = some d)
    {z : Value} (hz : (zeroValue et).run P w = .ok z w) {key : Value} (hk : IsKey d key) (c : Bool) :
    (Instr.lookup t (.map (some b)) key c).run P w = .ok (match kfind d key L with | some v => if c then .tuple #[v, .bool true] else v | none => if c then .tuple #[z, .bool false] else z) w := by
  obtain ⟨es, clock, hb, rfl, hL⟩ := h
  have hL' : ∀ x ∈ es.toList, IsKey d x.key := fun x hx => hL (x.key, x.val) (List.mem_map.2 ⟨x, hx, rfl⟩)
  rcases findNow_kfind hk es.toList 0 hL' with ⟨h1, h2⟩ | ⟨j, e, _, _, h3, h4⟩
  · rw [h1]
    simp [Instr.lookup, run_underlying ht, MapKept.run_getObj_map hb, run_checkKey hd hk, run_findKey hd h2, hz, Result.andThen]
  · rw [h3]
    simp [Instr.lookup, run_underlying ht, MapKept.run_getObj_map hb, run_checkKey hd hk, run_findKey hd h4, Result.andThen]
theorem kput_miss {d : TypeDesc} {k v : Value} : ∀ {L : List (Value × Value)}, kfind d k L = none → kput d k v L = L ++ [(k, v)]
  | [], _ => rfl
  | p :: r, h => by
    unfold kfind at h
    split at h
    · cases h
    · rename_i q
      unfold kput
      rw [if_neg q, kput_miss h]
      rfl
theorem kput_hit {d : TypeDesc} {k v : Value} (hk : IsKey d k) : ∀ {l : List MapEntry} {i j : Nat} {e : MapEntry}, (∀ x ∈ l, IsKey d x.key) → Instr.findNow d k l i = some (some (i + j, e.val)) → l[j]? = some e →
    (l.set j { e with key := k, val := v }).map (fun e => (e.key, e.val)) = kput d k v (l.map fun e => (e.key, e.val))
  | [], _, _, _, _, _, h => by cases h
  | x :: r, i, j, e, hx, h, hj => by
    obtain ⟨q, hr, hiff⟩ := sameNow_of_keys hk (hx x (.head _))
    cases q with
    | true =>
      simp [Instr.findNow, hr] at h
      obtain ⟨h0, _⟩ := h
      have : j = 0 := by omega
      subst this
      simp [kput, hr]
    | false =>
      simp [Instr.findNow, hr] at h
      have hj0 : j ≠ 0 := by
        rintro rfl
        rcases findNow_spec hk r (i + 1) (fun y hy => hx y (.tail _ hy)) with ⟨h1, _⟩ | ⟨j', e', h1, _⟩
        · rw [h1] at h; cases h
        · rw [h1] at h; simp at h; omega
      obtain ⟨j, rfl⟩ := Nat.exists_eq_succ_of_ne_zero hj0
      have e1 : i + (j + 1) = i + 1 + j := by omega
      simp only [Nat.succ_eq_add_one, e1] at h
      simp [kput, hr]
      have q := kput_hit (v := v) hk (fun y hy => hx y (.tail _ hy)) h (by simpa using hj)
      simpa using q
theorem kput_keys {d : TypeDesc} {k v : Value} (hk : IsKey d k) : ∀ {L : List (Value × Value)}, (∀ p ∈ L, IsKey d p.1) → ∀ p ∈ kput d k v L, IsKey d p.1
  | [], _, p, hp => by simp [kput] at hp; subst hp; exact hk
  | x :: r, hL, p, hp => by
    unfold kput at hp
    split at hp
    · rcases List.mem_cons.1 hp with rfl | hp
      · exact hk
      · exact hL p (.tail _ hp)
    · rcases List.mem_cons.1 hp with rfl | hp
      · exact hL p (.head _)
      · exact kput_keys hk (fun y hy => hL y (.tail _ hy)) p hp
/-- 'm[k] = v'. -/
theorem KMap.put {w : World} {b : Nat} {d : TypeDesc} {L : List (Value × Value)} (h : KMap w b d L) {t kt et : TypeId} (ht : P.underlying t = some (.map kt et)) (hd : P.underlying kt = some d)
    {key : Value} (hk : IsKey d key) (v : Value) : ∃ w', (Instr.mapUpdate t (.map (some b)) key v).run P w = .ok () w' ∧ KMap w' b d (kput d key v L) ∧ w.grownBy w' (some b) := by
  obtain ⟨es, clock, hb, rfl, hL⟩ := h
  have hL' : ∀ x ∈ es.toList, IsKey d x.key := fun x hx => hL (x.key, x.val) (List.mem_map.2 ⟨x, hx, rfl⟩)
  have grown : ∀ o : Obj, w.grownBy { w with heap := w.heap.setIfInBounds b o } (some b) := fun o => ⟨rfl, rfl, rfl, by simp, fun i _ hi => (heap_set hb).2 i (fun e => hi (by rw [e]))⟩
  rcases findNow_kfind hk es.toList 0 hL' with ⟨h1, h2⟩ | ⟨j, e, hj, he, h3, h4⟩
  · refine ⟨{ w with heap := w.heap.setIfInBounds b (.map (es.push ⟨key, v, clock⟩) (clock + 1)) }, ?_, ⟨_, _, (heap_set hb).1, ?_, kput_keys hk hL⟩, grown _⟩
    · simp [Instr.mapUpdate, run_underlying ht, MapKept.run_getObj_map hb, run_checkKey hd hk, run_findKey hd h2, MapKept.run_setObj_map _ hb, Result.andThen]
    · rw [kput_miss h1]
      simp
  · have hj' : es[j]? = some e := by simpa using hj
    refine ⟨{ w with heap := w.heap.setIfInBounds b (.map (es.modify j fun e => { e with key := key, val := v }) clock) }, ?_, ⟨_, _, (heap_set hb).1, ?_, kput_keys hk hL⟩, grown _⟩
    · simp [Instr.mapUpdate, run_underlying ht, MapKept.run_getObj_map hb, run_checkKey hd hk, run_findKey hd h4, hj', he, run_keyThatStays hk, MapKept.run_setObj_map _ hb, Result.andThen]
    · rw [Array.toList_modify, Go.ChangeMaps.modify_eq_set _ _ _ _ hj]
      exact kput_hit hk hL' h4 hj
/-- .. into a map that was made last: it is spelled out. -/
theorem run_put_last {w : World} {es : Array MapEntry} {clock : Nat} {d : TypeDesc} {t kt et : TypeId} (ht : P.underlying t = some (.map kt et)) (hd : P.underlying kt = some d) {key : Value} (hk : IsKey d key) (v : Value)
    (hL : ∀ x ∈ es.toList, IsKey d x.key) (hno : kfind d key (es.toList.map fun e => (e.key, e.val)) = none) (b : Nat) (hb' : b = w.heap.size) :
    (Instr.mapUpdate t (.map (some b)) key v).run P (w.alloc (.map es clock)) = .ok () (w.alloc (.map (es.push ⟨key, v, clock⟩) (clock + 1))) := by
  subst hb'
  have hb : (w.alloc (.map es clock)).heap[w.heap.size]? = some (.map es clock) := heap_alloc_new w _
  rcases findNow_kfind hk es.toList 0 hL with ⟨h1, h2⟩ | ⟨j, e, _, _, h3, h4⟩
  · simp [Instr.mapUpdate, run_underlying ht, MapKept.run_getObj_map hb, run_checkKey hd hk, run_findKey hd h2, MapKept.run_setObj_map _ hb, Result.andThen]
    have e : (w.heap.push (Obj.map es clock)).setIfInBounds w.heap.size (Obj.map (es.push { key := key, val := v, born := clock }) (clock + 1)) = w.heap.push (Obj.map (es.push { key := key, val := v, born := clock }) (clock + 1)) := by
      apply Array.ext'
      simp [Array.toList_setIfInBounds]
    show ({ w.alloc (.map es clock) with heap := (w.heap.push (Obj.map es clock)).setIfInBounds w.heap.size (Obj.map (es.push { key := key, val := v, born := clock }) (clock + 1)) } : World) = w.alloc _
    rw [e]
    rfl
  · rw [hno] at h3; cases h3
end
end Go.Proofs.Ytlchegibfopglaa
