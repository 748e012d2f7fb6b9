/- Layer 6: flows and reports in memory; which types are errors; addresses; the sums of a message. -/
import Derived.Test.YtfaelihfjmaekaaSaR
import Derived.Test.YtfaelihfjmaekaaOfC
import Derived.Test.YtfaelihfjmaekaaIcSpec
namespace Go.Proofs.Ytfaelihfjmaekaa
open Go.RowKit
/-- A flow, a report, in memory. -/
def tupc (v6 : Bool) (pr : Int) (s d : Nat → Int) (sp dp : Int) : Array Value := #[.bool v6, .int .u8 pr, .int .u8 (s 0), .int .u8 (s 1), .int .u8 (s 2), .int .u8 (s 3), .int .u8 (s 4), .int .u8 (s 5), .int .u8 (s 6), .int .u8 (s 7), .int .u8 (s 8), .int .u8 (s 9), .int .u8 (s 10), .int .u8 (s 11), .int .u8 (s 12), .int .u8 (s 13), .int .u8 (s 14), .int .u8 (s 15), .int .u8 (d 0), .int .u8 (d 1), .int .u8 (d 2), .int .u8 (d 3), .int .u8 (d 4), .int .u8 (d 5), .int .u8 (d 6), .int .u8 (d 7), .int .u8 (d 8), .int .u8 (d 9), .int .u8 (d 10), .int .u8 (d 11), .int .u8 (d 12), .int .u8 (d 13), .int .u8 (d 14), .int .u8 (d 15), .int .u16 sp, .int .u16 dp]
def tupz : Array Value := tupc false 0 (fun _ => 0) (fun _ => 0) 0 0
def repc (ty co : Int) (v6 : Bool) (pr : Int) (s d : Nat → Int) (sp dp : Int) : Array Value := #[.int .u8 ty, .int .u8 co, .bool v6, .int .u8 pr, .int .u8 (s 0), .int .u8 (s 1), .int .u8 (s 2), .int .u8 (s 3), .int .u8 (s 4), .int .u8 (s 5), .int .u8 (s 6), .int .u8 (s 7), .int .u8 (s 8), .int .u8 (s 9), .int .u8 (s 10), .int .u8 (s 11), .int .u8 (s 12), .int .u8 (s 13), .int .u8 (s 14), .int .u8 (s 15), .int .u8 (d 0), .int .u8 (d 1), .int .u8 (d 2), .int .u8 (d 3), .int .u8 (d 4), .int .u8 (d 5), .int .u8 (d 6), .int .u8 (d 7), .int .u8 (d 8), .int .u8 (d 9), .int .u8 (d 10), .int .u8 (d 11), .int .u8 (d 12), .int .u8 (d 13), .int .u8 (d 14), .int .u8 (d 15), .int .u16 sp, .int .u16 dp]
def repz : Array Value := repc 0 0 false 0 (fun _ => 0) (fun _ => 0) 0 0
theorem tup_one (v6 : Bool) (pr : Int) (s d : Nat → Int) (sp dp : Int) : (tupc v6 pr s d sp dp).all (·.oneCell') = true := by simp [tupc, Value.oneCell']
theorem tupz_one : tupz.all (·.oneCell') = true := tup_one ..
theorem rep_one (ty co : Int) (v6 : Bool) (pr : Int) (s d : Nat → Int) (sp dp : Int) : (repc ty co v6 pr s d sp dp).all (·.oneCell') = true := by simp [repc, Value.oneCell']
theorem repz_one : repz.all (·.oneCell') = true := rep_one ..
theorem tup_same {v6 : Bool} {pr : Int} {s d s' d' : Nat → Int} {sp dp : Int} (h : ∀ k, k < 16 → s k = s' k) (h' : ∀ k, k < 16 → d k = d' k) : tupc v6 pr s d sp dp = tupc v6 pr s' d' sp dp := by
  unfold tupc
  rw [h 0 (by omega), h 1 (by omega), h 2 (by omega), h 3 (by omega), h 4 (by omega), h 5 (by omega), h 6 (by omega), h 7 (by omega), h 8 (by omega), h 9 (by omega), h 10 (by omega), h 11 (by omega), h 12 (by omega), h 13 (by omega), h 14 (by omega), h 15 (by omega), h' 0 (by omega), h' 1 (by omega), h' 2 (by omega), h' 3 (by omega), h' 4 (by omega), h' 5 (by omega), h' 6 (by omega), h' 7 (by omega), h' 8 (by omega), h' 9 (by omega), h' 10 (by omega), h' 11 (by omega), h' 12 (by omega), h' 13 (by omega), h' 14 (by omega), h' 15 (by omega)]
theorem rep_same {ty co : Int} {v6 : Bool} {pr : Int} {s d s' d' : Nat → Int} {sp dp : Int} (h : ∀ k, k < 16 → s k = s' k) (h' : ∀ k, k < 16 → d k = d' k) : repc ty co v6 pr s d sp dp = repc ty co v6 pr s' d' sp dp := by
  unfold repc
  rw [h 0 (by omega), h 1 (by omega), h 2 (by omega), h 3 (by omega), h 4 (by omega), h 5 (by omega), h 6 (by omega), h 7 (by omega), h 8 (by omega), h 9 (by omega), h 10 (by omega), h 11 (by omega), h 12 (by omega), h 13 (by omega), h 14 (by omega), h 15 (by omega), h' 0 (by omega), h' 1 (by omega), h' 2 (by omega), h' 3 (by omega), h' 4 (by omega), h' 5 (by omega), h' 6 (by omega), h' 7 (by omega), h' 8 (by omega), h' 9 (by omega), h' 10 (by omega), h' 11 (by omega), h' 12 (by omega), h' 13 (by omega), h' 14 (by omega), h' 15 (by omega)]
theorem err6_any (k : Int) (h : 0 ≤ k ∧ k ≤ 255) (w : World) : Calls Try.prog 34 #[.int .u8 k] w fun e w' => e = .returned (.bool (errK true k)) ∧ w = w' := by
  have H : k = 1 ∨ k = 2 ∨ k = 3 ∨ k = 4 ∨ (k < 1 ∨ 4 < k) := by omega
  rcases H with rfl | rfl | rfl | rfl | h5
  iterate 4
    · clear h
      go_enter Try.func34, Try.ntmps34
      go_wp2
      go_ret
      exact ⟨rfl, rfl⟩
  · have e1 : (k == 1) = false := by simp; omega
    have e2 : (k == 2) = false := by simp; omega
    have e3 : (k == 3) = false := by simp; omega
    have e4 : (k == 4) = false := by simp; omega
    have er : errK true k = false := by unfold errK; simp; omega
    rw [er]
    clear h5 h er
    go_enter Try.func34, Try.ntmps34
    go_wp2
    go_ret
    exact ⟨rfl, rfl⟩
theorem err4_any (k : Int) (h : 0 ≤ k ∧ k ≤ 255) (w : World) : Calls Try.prog 35 #[.int .u8 k] w fun e w' => e = .returned (.bool (errK false k)) ∧ w = w' := by
  have H : k = 3 ∨ k = 4 ∨ k = 5 ∨ k = 11 ∨ k = 12 ∨ (k ≠ 3 ∧ k ≠ 4 ∧ k ≠ 5 ∧ k ≠ 11 ∧ k ≠ 12) := by omega
  rcases H with rfl | rfl | rfl | rfl | rfl | ⟨h1, h2, h3, h4, h5⟩
  iterate 5
    · clear h
      go_enter Try.func35, Try.ntmps35
      go_wp2
      go_ret
      exact ⟨rfl, rfl⟩
  · have e1 : (k == 3) = false := by simp; omega
    have e2 : (k == 4) = false := by simp; omega
    have e3 : (k == 5) = false := by simp; omega
    have e4 : (k == 11) = false := by simp; omega
    have e5 : (k == 12) = false := by simp; omega
    have er : errK false k = false := by unfold errK; simp; omega
    rw [er]
    clear h1 h2 h3 h4 h5 h er
    go_enter Try.func35, Try.ntmps35
    go_wp2
    go_ret
    exact ⟨rfl, rfl⟩
theorem errs6_any (w : World) : Calls Try.prog 23 #[.bool true] w fun e w' => e = .returned (.func (.func 34) #[] #[]) ∧ w = w' := by
  go_enter Try.func23, Try.ntmps23
  go_wp2
  go_ret
  exact ⟨rfl, rfl⟩
theorem errs4_any (w : World) : Calls Try.prog 23 #[.bool false] w fun e w' => e = .returned (.func (.func 35) #[] #[]) ∧ w = w' := by
  go_enter Try.func23, Try.ntmps23
  go_wp2
  go_ret
  exact ⟨rfl, rfl⟩
theorem isErr_any (v6 : Bool) (k : Int) (h : 0 ≤ k ∧ k ≤ 255) (w : World) : Calls Try.prog 11 #[.bool v6, .int .u8 k] w fun e w' => e = .returned (.bool (errK v6 k)) ∧ w = w' := by
  cases v6
  · have H1 := Lib.hid (errs4_any w)
    have H2 := Lib.hid (err4_any k h w)
    clear h
    go_enter Try.func11, Try.ntmps11
    go_wp2_with (first
      | (go_at_call 23; refine H1.out.mono ?_; rintro e w1 ⟨rfl, rfl⟩)
      | (go_at_call 35; refine H2.out.mono ?_; rintro e w2 ⟨rfl, rfl⟩))
    go_ret
    exact ⟨rfl, rfl⟩
  · have H1 := Lib.hid (errs6_any w)
    have H2 := Lib.hid (err6_any k h w)
    clear h
    go_enter Try.func11, Try.ntmps11
    go_wp2_with (first
      | (go_at_call 23; refine H1.out.mono ?_; rintro e w1 ⟨rfl, rfl⟩)
      | (go_at_call 34; refine H2.out.mono ?_; rintro e w2 ⟨rfl, rfl⟩))
    go_ret
    exact ⟨rfl, rfl⟩
theorem risErr_any (v6 : Bool) (k : Int) (h : 0 ≤ k ∧ k ≤ 255) (w : World) : Calls Try.prog 12 #[.bool v6, .int .u8 k] w fun e w' => e = .returned (.bool (errK v6 k)) ∧ w = w' := by
  cases v6
  · have H : k = 3 ∨ k = 4 ∨ k = 5 ∨ k = 11 ∨ k = 12 ∨ (k ≠ 3 ∧ k ≠ 4 ∧ k ≠ 5 ∧ k ≠ 11 ∧ k ≠ 12) := by omega
    rcases H with rfl | rfl | rfl | rfl | rfl | ⟨h1, h2, h3, h4, h5⟩
    iterate 5
      · clear h
        go_enter Try.func12, Try.ntmps12
        go_wp2
        go_ret
        exact ⟨rfl, rfl⟩
    · have e1 : (k == 3) = false := by simp; omega
      have e2 : (k == 4) = false := by simp; omega
      have e3 : (k == 5) = false := by simp; omega
      have e4 : (k == 11) = false := by simp; omega
      have e5 : (k == 12) = false := by simp; omega
      have er : errK false k = false := by unfold errK; simp; omega
      rw [er]
      clear h1 h2 h3 h4 h5 h er
      go_enter Try.func12, Try.ntmps12
      go_wp2
      go_ret
      exact ⟨rfl, rfl⟩
  · by_cases h1 : 1 ≤ k
    · by_cases h4 : k ≤ 4
      · have er : errK true k = true := by unfold errK; simp; omega
        rw [er]
        clear h er
        go_enter Try.func12, Try.ntmps12
        go_wp2
        go_ret
        exact ⟨rfl, rfl⟩
      · have er : errK true k = false := by unfold errK; simp; omega
        have h4' : 4 < k := by omega
        rw [er]
        clear h er h4
        go_enter Try.func12, Try.ntmps12
        go_wp2
        go_ret
        exact ⟨by simp; omega, rfl⟩
    · have er : errK true k = false := by unfold errK; simp; omega
      have h1' : k < 1 := by omega
      rw [er]
      clear h er h1
      go_enter Try.func12, Try.ntmps12
      go_wp2
      go_ret
      exact ⟨rfl, rfl⟩
end Go.Proofs.Ytfaelihfjmaekaa
