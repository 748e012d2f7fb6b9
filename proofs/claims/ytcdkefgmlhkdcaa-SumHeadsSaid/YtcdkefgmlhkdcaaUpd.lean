/- Update, and what it comes to. -/
import Derived.Test.YtcdkefgmlhkdcaaCuts
namespace Go.Proofs.Ytcdkefgmlhkdcaa
open Go.RowKit

def ws (f : Nat → Int) : Nat → Int
  | 0 => 0
  | n + 1 => ws f n + (if n % 2 = 1 then f n else f n * 256)
/-- The sum so far is the plain sum, but for turns of 65535. -/
theorem fld_ws (f : Nat → Int) : ∀ n, ∃ q : Int, (fld f (0, false) n).1 + 65535 * q = ws f n
  | 0 => ⟨0, rfl⟩
  | n + 1 => by
    obtain ⟨q, h⟩ := fld_ws f n
    have hfl := fld_odd f 0 n
    show ∃ q : Int, (stp (fld f (0, false) n) (f n)).1 + 65535 * q = ws f n + (if n % 2 = 1 then f n else f n * 256)
    unfold stp pl
    rw [hfl, ← h]
    by_cases hn : n % 2 = 1
    · simp only [hn, decide_true, if_true]
      split
      · exact ⟨q + 1, by omega⟩
      · exact ⟨q, by omega⟩
    · simp only [hn, decide_false, Bool.false_eq_true, if_false]
      split
      · exact ⟨q + 1, by omega⟩
      · exact ⟨q, by omega⟩
theorem ws_even (f : Nat → Int) (p : Nat) (v : Int) (hp : p % 2 = 0) : ∀ n, ws (upd f p v) n = ws f n + (if p < n then (v - f p) * 256 else 0)
  | 0 => by simp [ws]
  | n + 1 => by
    show ws (upd f p v) n + (if n % 2 = 1 then upd f p v n else upd f p v n * 256) = ws f n + (if n % 2 = 1 then f n else f n * 256) + _
    rw [ws_even f p v hp n]
    unfold upd
    by_cases e : n = p
    · subst e
      simp [hp]
      omega
    · have e' : (p < n + 1) = (p < n) := by rw [eq_iff_iff]; omega
      simp only [e, if_false, e']
      by_cases h : p < n
      · simp only [h, if_true]
        split <;> omega
      · simp only [h, if_false]
        split <;> omega
theorem ws_odd (f : Nat → Int) (p : Nat) (v : Int) (hp : p % 2 = 1) : ∀ n, ws (upd f p v) n = ws f n + (if p < n then v - f p else 0)
  | 0 => by simp [ws]
  | n + 1 => by
    show ws (upd f p v) n + (if n % 2 = 1 then upd f p v n else upd f p v n * 256) = ws f n + (if n % 2 = 1 then f n else f n * 256) + _
    rw [ws_odd f p v hp n]
    unfold upd
    by_cases e : n = p
    · subst e
      simp [hp]
      omega
    · have e' : (p < n + 1) = (p < n) := by rw [eq_iff_iff]; omega
      simp only [e, if_false, e']
      by_cases h : p < n
      · simp only [h, if_true]
        split <;> omega
      · simp only [h, if_false]
        split <;> omega
def upv (s fr to : Int) : Int := 65535 - pl (pl (65535 - s) (65535 - fr)) to
theorem upv_bd (s fr to : Int) (hs : 0 ≤ s ∧ s ≤ 65535) (hf : 0 ≤ fr ∧ fr ≤ 65535) (ht : 0 ≤ to ∧ to ≤ 65535) : 0 ≤ upv s fr to ∧ upv s fr to ≤ 65535 := by
  unfold upv pl
  repeat' split
  all_goals omega
/-- The checksum with one word another one is the updated one, but for 0 and 65535. -/
theorem ofv_upd {f : Nat → Int} (hf : Byt f) (n m : Nat) (hm : 2 * m + 1 < n) (hi lo : Int) (hh : 0 ≤ hi ∧ hi ≤ 255) (hl : 0 ≤ lo ∧ lo ≤ 255) :
    let x := ofv (upd (upd f (2 * m) hi) (2 * m + 1) lo) n
    let y := upv (ofv f n) (f (2 * m) * 256 + f (2 * m + 1)) (hi * 256 + lo)
    x = y ∨ (x = 0 ∧ y = 65535) ∨ (x = 65535 ∧ y = 0) := by
  intro x y
  obtain ⟨q1, h1⟩ := fld_ws f n
  obtain ⟨q2, h2⟩ := fld_ws (upd (upd f (2 * m) hi) (2 * m + 1) lo) n
  have b1 := fld_bd (p := (0, false)) hf ⟨by omega, by omega⟩ n
  have b2 := fld_bd (p := (0, false)) (upd_byt (upd_byt hf (2 * m) hh) (2 * m + 1) hl) ⟨by omega, by omega⟩ n
  rw [ws_odd _ _ _ (by omega), if_pos hm, ws_even _ _ _ (by omega), if_pos (by omega)] at h2
  have e : upd f (2 * m) hi (2 * m + 1) = f (2 * m + 1) := by unfold upd; rw [if_neg (by omega)]
  rw [e] at h2
  have c0 := hf (2 * m)
  have c1 := hf (2 * m + 1)
  show ofv (upd (upd f (2 * m) hi) (2 * m + 1) lo) n = upv (ofv f n) (f (2 * m) * 256 + f (2 * m + 1)) (hi * 256 + lo) ∨ _
  have hx : x = 65535 - (fld (upd (upd f (2 * m) hi) (2 * m + 1) lo) (0, false) n).1 := rfl
  have hy : y = 65535 - pl (pl (65535 - (65535 - (fld f (0, false) n).1)) (65535 - (f (2 * m) * 256 + f (2 * m + 1)))) (hi * 256 + lo) := rfl
  show x = y ∨ (x = 0 ∧ y = 65535) ∨ (x = 65535 ∧ y = 0)
  generalize (fld (upd (upd f (2 * m) hi) (2 * m + 1) lo) (0, false) n).1 = T' at *
  generalize (fld f (0, false) n).1 = T at *
  generalize f (2 * m) = fa at *
  generalize f (2 * m + 1) = fb at *
  unfold pl at hy
  clear_value x y
  subst hx
  clear e
  repeat' split at hy
  all_goals omega

set_option maxHeartbeats 400000 in
theorem update_any (s fr to : Int) (w : World) (hs : 0 ≤ s ∧ s ≤ 65535) (hf : 0 ≤ fr ∧ fr ≤ 65535) (ht : 0 ≤ to ∧ to ≤ 65535) :
    Calls Try.prog 16 #[.int .u16 s, .int .u16 fr, .int .u16 to] w fun e w' => e = .returned (.int .u16 (upv s fr to)) ∧ w = w' := by
  obtain ⟨h1, h2⟩ := hs
  obtain ⟨h3, h4⟩ := hf
  obtain ⟨h5, h6⟩ := ht
  have e1 := xor_max s h1 h2
  have e2 := xor_max fr h3 h4
  have hb : 0 ≤ pl (65535 - s) (65535 - fr) ∧ pl (65535 - s) (65535 - fr) ≤ 65535 := by unfold pl; split <;> omega
  have hb2 : 0 ≤ pl (pl (65535 - s) (65535 - fr)) to ∧ pl (pl (65535 - s) (65535 - fr)) to ≤ 65535 := by generalize pl (65535 - s) (65535 - fr) = u at *; unfold pl; split <;> omega
  have e3 := xor_max _ hb2.1 hb2.2
  unfold upv
  have HP1 := fun W => plus_any (65535 - s) (65535 - fr) W (by omega) (by omega) (by omega) (by omega)
  have HP2 := fun W => plus_any (pl (65535 - s) (65535 - fr)) to W hb.1 hb.2 h5 h6
  generalize pl (65535 - s) (65535 - fr) = u at *
  generalize pl u to = v at *
  obtain ⟨k1, k2⟩ := hb
  have P1 := Lib.hid HP1
  have P2 := Lib.hid HP2
  clear HP1 HP2
  go_enter Try.func16, Try.ntmps16
  go_wp2_with fail
  go_at_call 18
  refine (P1.out _).mono ?_
  rintro e w1 ⟨rfl, rfl⟩
  go_wp2_with fail
  go_at_call 18
  refine (P2.out _).mono ?_
  rintro e w1 ⟨rfl, rfl⟩
  go_wp2_with fail
  go_ret
  exact ⟨rfl, rfl⟩
set_option maxHeartbeats 400000 in
theorem rupdate_any (s fr to : Int) (w : World) (hs : 0 ≤ s ∧ s ≤ 65535) (hf : 0 ≤ fr ∧ fr ≤ 65535) (ht : 0 ≤ to ∧ to ≤ 65535) :
    Calls Try.prog 17 #[.int .u16 s, .int .u16 fr, .int .u16 to] w fun e w' => e = .returned (.int .u16 (upv s fr to)) ∧ w = w' := by
  obtain ⟨h1, h2⟩ := hs
  obtain ⟨h3, h4⟩ := hf
  obtain ⟨h5, h6⟩ := ht
  have hb : 0 ≤ pl (65535 - s) (65535 - fr) ∧ pl (65535 - s) (65535 - fr) ≤ 65535 := by unfold pl; split <;> omega
  have hb2 : 0 ≤ pl (pl (65535 - s) (65535 - fr)) to ∧ pl (pl (65535 - s) (65535 - fr)) to ≤ 65535 := by generalize pl (65535 - s) (65535 - fr) = u at *; unfold pl; split <;> omega
  unfold upv
  have HP1 := fun W => rplus_any (65535 - s) (65535 - fr) W (by omega) (by omega) (by omega) (by omega)
  have HP2 := fun W => rplus_any (pl (65535 - s) (65535 - fr)) to W hb.1 hb.2 h5 h6
  generalize pl (65535 - s) (65535 - fr) = u at *
  generalize pl u to = v at *
  obtain ⟨k1, k2⟩ := hb
  obtain ⟨k3, k4⟩ := hb2
  have P1 := Lib.hid HP1
  have P2 := Lib.hid HP2
  clear HP1 HP2
  go_enter Try.func17, Try.ntmps17
  go_wp2_with fail
  go_at_call 20
  refine (P1.out _).mono ?_
  rintro e w1 ⟨rfl, rfl⟩
  go_wp2_with fail
  go_at_call 20
  refine (P2.out _).mono ?_
  rintro e w1 ⟨rfl, rfl⟩
  go_wp2_with fail
  go_ret
  exact ⟨rfl, rfl⟩
end Go.Proofs.Ytcdkefgmlhkdcaa
