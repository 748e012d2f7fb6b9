import Derived.Test.YthjgecdnlpdcdaaM17
/- The program's ip6.headers: how each kind of extension header is read (its closures), and the map of them. -/
namespace Go.Proofs.Ythjgecdnlpdcdaa
set_option maxRecDepth 100000
open Go.RowKit
/-- What the length says. -/
def opt6 (f : Nat → Int) (m : Nat) : Nat × Int := if m < 8 then (0, 4) else if m < 8 + 8 * (f 1).toNat then (0, 4) else (8 + 8 * (f 1).toNat, 0)
def HdOut (r : Nat × Int) (w : World) (e : Ending) (w' : World) : Prop := e = .returned (.tuple #[.int .i64 (r.1 : Int), .int .i64 r.2]) ∧ w = w'
set_option maxHeartbeats 1000000 in
theorem opt_any (place : Int) (A : Option Addr) (m c : Nat) (f : Nat → Int) (hf : Byt f) (hm : m ≤ 4611686018427387904) (w : World) (B : Nat) (hr : Rd w B A m f) :
    Calls Try.prog 41 #[.int .i64 place, .slice A m c] w (HdOut (opt6 f m) w) := by
  obtain ⟨r, hre⟩ : ∃ r, r = opt6 f m := ⟨_, rfl⟩
  rw [← hre]
  have HRE := Lib.hid hre
  clear hre
  by_cases c8 : m < 8
  · have c8' : (m : Int) < 8 := by omega
    have HR' := Lib.hid (show r = (0, 4) by rw [HRE.out]; unfold opt6; rw [if_pos c8])
    clear HRE
    go_enter Try.func41, Try.ntmps41
    go_wp2
    go_ret2
    exact ⟨by rw [HR'.out]; rfl, rfl⟩
  · have c8' : ¬ (m : Int) < 8 := by omega
    rcases hr with h0 | ⟨b, off, rfl, hb, hc⟩
    · omega
    have x1 := hc 1 (by omega)
    obtain ⟨p1, q1⟩ := hf 1
    have i1 : (1 : Int) < (m : Int) := by omega
    clear hc hf
    by_cases cL : m < 8 + 8 * (f 1).toNat
    · have cL' : (m : Int) < 8 * (1 + f 1) := by omega
      have HR' := Lib.hid (show r = (0, 4) by rw [HRE.out]; unfold opt6; rw [if_neg c8, if_pos cL])
      clear HRE
      go_enter Try.func41, Try.ntmps41
      go_wp2
      go_ret2
      exact ⟨by rw [HR'.out]; rfl, rfl⟩
    · have cL' : ¬ (m : Int) < 8 * (1 + f 1) := by omega
      have he8 : ((8 + 8 * (f 1).toNat : Nat) : Int) = 8 * (1 + f 1) := by omega
      have HE8 := Lib.hid he8
      have HR' := Lib.hid (show r = (8 + 8 * (f 1).toNat, 0) by rw [HRE.out]; unfold opt6; rw [if_neg c8, if_neg cL])
      clear HRE he8
      go_enter Try.func41, Try.ntmps41
      go_wp2
      go_ret2
      exact ⟨by rw [HR'.out]; show Ending.returned (.tuple #[.int .i64 (8 * (1 + f 1)), .int .i64 0]) = .returned (.tuple #[.int .i64 ((8 + 8 * (f 1).toNat : Nat) : Int), .int .i64 0]); rw [HE8.out], rfl⟩
/-- The closure of Options, as it lies in memory. -/
def optV : Value := .func (.func 41) #[] #[]
theorem one6_opt {k : Int} {first : Bool} {f : Nat → Int} {m : Nat} (h0 : ¬ (k = 0 ∧ first = false)) (h3 : k ≠ 43) (h4 : k ≠ 44) : one6 k first f m = opt6 f m := by
  unfold one6 opt6 len6
  rw [if_neg h0, if_neg h4]
  split
  · rfl
  · split
    · rfl
    · rw [if_neg (fun h => h3 h.1), if_neg (fun h => h4 h.1)]
set_option maxHeartbeats 1000000 in
theorem hop_any (place : Nat) (hp : place ≤ 8) (A : Option Addr) (m c : Nat) (f : Nat → Int) (hf : Byt f) (hm : m ≤ 4611686018427387904) (w : World) (B : Nat) (hr : Rd w B A m f) (a : Addr) (ha : w.cell? a = some (.func (.func 41) #[] #[])) :
    Calls Try.prog 42 #[.int .i64 (place : Int), .slice A m c, .pointer (some a)] w (HdOut (one6 0 (decide (place = 0)) f m) w) := by
  by_cases h0 : place = 0
  · have HO := Lib.hid (opt_any (place : Int) A m c f hf hm w B hr)
    subst h0
    rw [one6_opt (by simp) (by omega) (by omega)]
    obtain ⟨r, hre⟩ : ∃ r, r = opt6 f m := ⟨_, rfl⟩
    rw [← hre] at HO ⊢
    obtain ⟨r1, r2⟩ := r
    clear hre hr hf
    go_enter Try.func42, Try.ntmps42
    go_wp2_with (go_at_call 41; refine HO.out.mono ?_; rintro e w1 ⟨rfl, rfl⟩)
    go_ret2
    exact ⟨rfl, rfl⟩
  · have hp0 : (place : Int) > 0 := by omega
    have e : one6 0 (decide (place = 0)) f m = (0, 5) := by unfold one6; rw [if_pos ⟨rfl, by simp [h0]⟩]
    rw [e]
    clear e h0 hr hf
    go_enter Try.func42, Try.ntmps42
    go_wp2
    go_ret2
    exact ⟨rfl, rfl⟩
set_option maxHeartbeats 1000000 in
theorem rout_any (place : Nat) (q : Bool) (A : Option Addr) (m c : Nat) (f : Nat → Int) (hf : Byt f) (hm : m ≤ 4611686018427387904) (w : World) (B : Nat) (hr : Rd w B A m f) (a : Addr) (ha : w.cell? a = some (.func (.func 41) #[] #[])) :
    Calls Try.prog 43 #[.int .i64 (place : Int), .slice A m c, .pointer (some a)] w (HdOut (one6 43 q f m) w) := by
  have HO := Lib.hid (opt_any (place : Int) A m c f hf hm w B hr)
  obtain ⟨r, hre⟩ : ∃ r, r = one6 43 q f m := ⟨_, rfl⟩
  rw [← hre]
  have hN : ¬ ((43 : Int) = 0 ∧ q = false) := fun h => by omega
  have hL : len6 43 f = 8 + 8 * (f 1).toNat := by unfold len6; rw [if_neg (by omega)]
  unfold one6 at hre
  rw [if_neg hN, hL] at hre
  unfold opt6 at HO
  by_cases c8 : m < 8
  · rw [if_pos c8] at hre HO
    have HR' := Lib.hid hre
    clear hre hr hf hN hL
    go_enter Try.func43, Try.ntmps43
    go_wp2_with (go_at_call 41; refine HO.out.mono ?_; rintro e w1 ⟨rfl, rfl⟩)
    go_ret2
    exact ⟨by rw [HR'.out]; rfl, rfl⟩
  · rw [if_neg c8] at hre HO
    by_cases cL : m < 8 + 8 * (f 1).toNat
    · rw [if_pos cL] at hre HO
      have HR' := Lib.hid hre
      clear hre hr hf hN hL
      go_enter Try.func43, Try.ntmps43
      go_wp2_with (go_at_call 41; refine HO.out.mono ?_; rintro e w1 ⟨rfl, rfl⟩)
      go_ret2
      exact ⟨by rw [HR'.out]; rfl, rfl⟩
    · rw [if_neg cL] at hre HO
      rcases hr with h0 | ⟨b, off, rfl, hb, hc⟩
      · omega
      have x3 := hc 3 (by omega)
      obtain ⟨p3, q3⟩ := hf 3
      have i3 : (3 : Int) < (m : Int) := by omega
      obtain ⟨s, hs⟩ : ∃ s, s = 8 + 8 * (f 1).toNat := ⟨_, rfl⟩
      rw [← hs] at hre HO
      clear hs
      by_cases c3 : f 3 = 0
      · have c3' : ¬ f 3 > 0 := by omega
        rw [if_neg (fun h => h.2 c3), if_neg (fun h => by omega)] at hre
        have HR' := Lib.hid hre
        clear hre hc hf hN hL c3 cL
        go_enter Try.func43, Try.ntmps43
        go_wp2_with (go_at_call 41; refine HO.out.mono ?_; rintro e w1 ⟨rfl, rfl⟩)
        go_ret2
        exact ⟨by rw [HR'.out]; rfl, rfl⟩
      · have c3' : f 3 > 0 := by omega
        rw [if_pos ⟨rfl, c3⟩] at hre
        have HR' := Lib.hid hre
        clear hre hc hf hN hL c3 cL
        go_enter Try.func43, Try.ntmps43
        go_wp2_with (go_at_call 41; refine HO.out.mono ?_; rintro e w1 ⟨rfl, rfl⟩)
        go_ret2
        exact ⟨by rw [HR'.out]; rfl, rfl⟩
theorem and_249 (x : Int) (h0 : 0 ≤ x) (h1 : x ≤ 255) : (bits .and .u8 x 249 = 0) = (x / 8 = 0 ∧ x % 2 = 0) := by
  obtain ⟨n, rfl⟩ := Int.eq_ofNat_of_zero_le h0
  have e : (List.range 256).all (fun n => decide ((bits .and .u8 (n : Int) 249 = 0) ↔ ((n : Int) / 8 = 0 ∧ (n : Int) % 2 = 0))) = true := by kernel_rfl
  have e1 := List.all_eq_true.1 e n (by simp <;> omega)
  exact propext (of_decide_eq_true e1)
set_option maxHeartbeats 1000000 in
theorem frag_any (place : Nat) (q : Bool) (A : Option Addr) (m c : Nat) (f : Nat → Int) (hf : Byt f) (hm : m ≤ 4611686018427387904) (w : World) (B : Nat) (hr : Rd w B A m f) :
    Calls Try.prog 44 #[.int .i64 (place : Int), .slice A m c] w (HdOut (one6 44 q f m) w) := by
  obtain ⟨r, hre⟩ : ∃ r, r = one6 44 q f m := ⟨_, rfl⟩
  rw [← hre]
  have hN : ¬ ((44 : Int) = 0 ∧ q = false) := fun h => by omega
  have hL : len6 44 f = 8 := by unfold len6; rw [if_pos rfl]
  unfold one6 at hre
  rw [if_neg hN, hL] at hre
  by_cases c8 : m < 8
  · have c8' : (m : Int) < 8 := by omega
    rw [if_pos c8] at hre
    have HR' := Lib.hid hre
    clear hre hr hf hN hL
    go_enter Try.func44, Try.ntmps44
    go_wp2
    go_ret2
    exact ⟨by rw [HR'.out]; rfl, rfl⟩
  · have c8' : ¬ (m : Int) < 8 := by omega
    rw [if_neg c8, if_neg c8] at hre
    rw [if_neg (fun h => by omega)] at hre
    rcases hr with h0 | ⟨b, off, rfl, hb, hc⟩
    · omega
    have x2 := hc 2 (by omega)
    have x3 := hc 3 (by omega)
    obtain ⟨p2, q2⟩ := hf 2
    obtain ⟨p3, q3⟩ := hf 3
    have i2 : (2 : Int) < (m : Int) := by omega
    have i3 : (3 : Int) < (m : Int) := by omega
    have ha := and_249 (f 3) p3 q3
    clear hc hf hN hL c8
    by_cases c2 : f 2 = 0
    · have c2' : (f 2 != 0) = false := by simpa using c2
      by_cases d : bits .and .u8 (f 3) 249 = 0
      · have d' : (bits .and .u8 (f 3) 249 != 0) = false := by simpa using d
        rw [ha] at d
        have e : ¬ ((44 : Int) = 44 ∧ ((f 2 * 256 + f 3) / 8 ≠ 0 ∨ (f 2 * 256 + f 3) % 2 = 1)) := by omega
        rw [if_neg e] at hre
        have HR' := Lib.hid hre
        clear hre ha d e c2
        go_enter Try.func44, Try.ntmps44
        go_wp2
        go_ret2
        exact ⟨by rw [HR'.out]; rfl, rfl⟩
      · have d' : (bits .and .u8 (f 3) 249 != 0) = true := by simpa using d
        rw [ha] at d
        have e : ((44 : Int) = 44 ∧ ((f 2 * 256 + f 3) / 8 ≠ 0 ∨ (f 2 * 256 + f 3) % 2 = 1)) := by omega
        rw [if_pos e] at hre
        have HR' := Lib.hid hre
        clear hre ha d e c2
        go_enter Try.func44, Try.ntmps44
        go_wp2
        go_ret2
        exact ⟨by rw [HR'.out]; rfl, rfl⟩
    · have c2' : (f 2 != 0) = true := by simpa using c2
      have e : ((44 : Int) = 44 ∧ ((f 2 * 256 + f 3) / 8 ≠ 0 ∨ (f 2 * 256 + f 3) % 2 = 1)) := by omega
      rw [if_pos e] at hre
      have HR' := Lib.hid hre
      clear hre ha e c2
      go_enter Try.func44, Try.ntmps44
      go_wp2
      go_ret2
      exact ⟨by rw [HR'.out]; rfl, rfl⟩
end Go.Proofs.Ythjgecdnlpdcdaa
