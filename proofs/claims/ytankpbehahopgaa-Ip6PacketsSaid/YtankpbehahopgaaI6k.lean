/- The law's known of layer 4: no header, one of options, one of a fragment that is not whole. -/
import Derived.Test.YtankpbehahopgaaI6c
namespace Go.Proofs.Ytankpbehahopgaa
open Go.RowKit
def opt60 : Nat → Int := fun k => if k = 0 then 17 else 0
def frg44 : Nat → Int := fun k => if k = 0 then 6 else if k = 3 then 1 else 0
theorem opt60_byt : Byt opt60 := fun k => by
  unfold opt60
  split <;> omega
theorem frg44_byt : Byt frg44 := fun k => by
  unfold frg44
  repeat' split
  all_goals omega
theorem chn_17 : chn (fun _ => 0) 0 8 17 0 = (17, 0, 0) := by decide
theorem chn_60 : chn opt60 8 8 60 0 = (17, 8, 0) := by decide
theorem chn_44 : chn frg44 8 8 44 0 = (0, 0, 11) := by decide
set_option maxRecDepth 100000 in
set_option maxHeartbeats 1000000 in
theorem known_any (w : World) : Calls Try.prog 6 #[] w fun e w' => e = .returned (.bool true) ∧ Below w.heap.size w w' := by
  have H1 := Lib.hid (chain_any 17 ⟨by omega, by omega⟩ none 0 0 (fun _ => 0) (fun _ => ⟨Int.le_refl 0, (by decide : (0 : Int) ≤ 255)⟩) (by omega) (by omega) (by omega) w (.inl rfl))
  rw [chn_17] at H1
  have H2 : Hid (∀ W : World, Calls Try.prog 12 #[.int .u8 60, .slice (some ⟨W.heap.size, 0, none⟩) 8 8] (W.alloc (.cells #[.int .u8 17, .int .u8 0, .int .u8 0, .int .u8 0, .int .u8 0, .int .u8 0, .int .u8 0, .int .u8 0] 5)) (ChOut (17, 8, 0) (W.alloc (.cells #[.int .u8 17, .int .u8 0, .int .u8 0, .int .u8 0, .int .u8 0, .int .u8 0, .int .u8 0, .int .u8 0] 5)))) := fun W => by
    have q := chain_any 60 ⟨by omega, by omega⟩ (some ⟨W.heap.size, 0, none⟩) 8 8 opt60 opt60_byt (by omega) (by omega) (by omega) (W.alloc (.cells #[.int .u8 17, .int .u8 0, .int .u8 0, .int .u8 0, .int .u8 0, .int .u8 0, .int .u8 0, .int .u8 0] 5)) (.inr ⟨_, 0, rfl, by simp, fun k hk => by
      rw [Nat.zero_add]
      match k, hk with
      | 0, _ => go_simp; rfl
      | 1, _ => go_simp; rfl
      | 2, _ => go_simp; rfl
      | 3, _ => go_simp; rfl
      | 4, _ => go_simp; rfl
      | 5, _ => go_simp; rfl
      | 6, _ => go_simp; rfl
      | 7, _ => go_simp; rfl⟩)
    rw [chn_60] at q
    exact q
  have H3 : Hid (∀ W : World, Calls Try.prog 12 #[.int .u8 44, .slice (some ⟨W.heap.size, 0, none⟩) 8 8] (W.alloc (.cells #[.int .u8 6, .int .u8 0, .int .u8 0, .int .u8 1, .int .u8 0, .int .u8 0, .int .u8 0, .int .u8 0] 5)) (ChOut (0, 0, 11) (W.alloc (.cells #[.int .u8 6, .int .u8 0, .int .u8 0, .int .u8 1, .int .u8 0, .int .u8 0, .int .u8 0, .int .u8 0] 5)))) := fun W => by
    have q := chain_any 44 ⟨by omega, by omega⟩ (some ⟨W.heap.size, 0, none⟩) 8 8 frg44 frg44_byt (by omega) (by omega) (by omega) (W.alloc (.cells #[.int .u8 6, .int .u8 0, .int .u8 0, .int .u8 1, .int .u8 0, .int .u8 0, .int .u8 0, .int .u8 0] 5)) (.inr ⟨_, 0, rfl, by simp, fun k hk => by
      rw [Nat.zero_add]
      match k, hk with
      | 0, _ => go_simp; rfl
      | 1, _ => go_simp; rfl
      | 2, _ => go_simp; rfl
      | 3, _ => go_simp; rfl
      | 4, _ => go_simp; rfl
      | 5, _ => go_simp; rfl
      | 6, _ => go_simp; rfl
      | 7, _ => go_simp; rfl⟩)
    rw [chn_44] at q
    exact q
  go_enter Try.func6, Try.ntmps6
  go_wp2_with fail
  go_at_call 12
  refine H1.out.mono ?_
  rintro e w1 ⟨rfl, hb1⟩
  have HB1 := Lib.hid hb1
  clear hb1 H1
  go_wp2_with fail
  go_at_call 12
  refine (H2.out _).mono ?_
  rintro e w2 ⟨rfl, hb2⟩
  have HB2 : Hid (Below w.heap.size w w2) := (HB1.out.alloc HB1.out.size _).trans (hb2.mono (HB1.out.alloc HB1.out.size _).size)
  clear hb2 HB1 H2
  go_wp2_with fail
  go_at_call 12
  refine (H3.out _).mono ?_
  rintro e w3 ⟨rfl, hb3⟩
  have HB3 : Hid (Below w.heap.size w w3) := (HB2.out.alloc HB2.out.size _).trans (hb3.mono (HB2.out.alloc HB2.out.size _).size)
  clear hb3 HB2 H3
  go_wp2_with fail
  go_ret
  exact ⟨rfl, HB3.out⟩
end Go.Proofs.Ytankpbehahopgaa
