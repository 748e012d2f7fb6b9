/- The document's answers for layer 5: Num, Lay. -/
import Derived.Test.YtmcapemlicjfjaaSd
namespace Go.Proofs.Ytmcapemlicjfjaa
open Go.RowKit
/-- A number of some bytes; what is left of one; its bytes. -/
def numk (f : Nat → Int) (a : Nat) : Nat → Int
  | 0 => 0
  | k + 1 => numk f a k * 256 + f (a + k)
def pw (x : Int) : Nat → Int
  | 0 => x
  | k + 1 => pw x k / 256
def layb (x : Int) (m k : Nat) : Int := pw x (m - 1 - k) % 256
theorem numk_2 (f : Nat → Int) (a : Nat) : numk f a 2 = w2 f a := by
  unfold w2
  show (0 * 256 + f (a + 0)) * 256 + f (a + 1) = _
  rw [Nat.add_zero]
  omega
theorem numk_4 (f : Nat → Int) (a : Nat) : numk f a 4 = w4 f a := by
  unfold w4
  show (((0 * 256 + f (a + 0)) * 256 + f (a + 1)) * 256 + f (a + 2)) * 256 + f (a + 3) = _
  rw [Nat.add_zero]
  omega
theorem numk_bd {f : Nat → Int} (hf : Byt f) (a k : Nat) (hk : k < 4) : 0 ≤ numk f a k ∧ numk f a k ≤ 16777215 := by
  have b0 := hf a
  have b1 := hf (a + 1)
  have b2 := hf (a + 2)
  obtain rfl | rfl | rfl | rfl : k = 0 ∨ k = 1 ∨ k = 2 ∨ k = 3 := by omega
  · exact ⟨Int.le_refl 0, (by decide : (0 : Int) ≤ 16777215)⟩
  · show 0 ≤ 0 * 256 + f (a + 0) ∧ 0 * 256 + f (a + 0) ≤ 16777215
    rw [Nat.add_zero]
    omega
  · rw [numk_2]
    unfold w2
    omega
  · show 0 ≤ numk f a 2 * 256 + f (a + 2) ∧ numk f a 2 * 256 + f (a + 2) ≤ 16777215
    rw [numk_2]
    unfold w2
    omega
theorem pw_bd {x : Int} (h0 : 0 ≤ x) (h1 : x ≤ 4294967295) : ∀ k, 0 ≤ pw x k ∧ pw x k ≤ 4294967295
  | 0 => ⟨h0, h1⟩
  | k + 1 => by
    have := pw_bd h0 h1 k
    show 0 ≤ pw x k / 256 ∧ pw x k / 256 ≤ 4294967295
    omega
set_option maxHeartbeats 1000000 in
theorem rnum_any (A : Option Addr) (n c a m : Nat) (f : Nat → Int) (hf : Byt f) (hm : m ≤ 4) (ham : a + m ≤ n) (hn : n ≤ 4611686018427387904) (w : World) (B : Nat) (hr : Rd w B A n f) :
    Calls Try.prog 13 #[.slice A n c, .int .i64 (a : Int), .int .i64 (m : Int)] w fun e w' => e = .returned (.int .u32 (numk f a m)) ∧ w = w' := by
  have HR := Lib.hid hr
  have HF := Lib.hid hf
  clear hr hf
  go_enter Try.func13, Try.ntmps13
  go_wp2
  go_loopw [7, 8] (fun x y wr => ∃ k : Nat, k ≤ m ∧ x = .int .u32 (numk f a k) ∧ y = .int .i64 (k : Int) ∧ w = wr) (fun _ y _ => m - (intOf y).toNat)
  case atStart => exact ⟨0, by omega, rfl, rfl, by first | rfl | trivial⟩
  case round =>
    obtain ⟨k, hk, rfl, rfl, rfl⟩ := hrel
    by_cases hlt : k < m
    · rcases HR.out with h0 | ⟨b, off, rfl, hbb, hcell⟩
      · omega
      have hx := hcell (a + k) (by omega)
      obtain ⟨q0, q1⟩ := numk_bd HF.out a k (by omega)
      obtain ⟨q3, q4⟩ := HF.out (a + k)
      have i0 : (k : Int) < (m : Int) := by omega
      have i1 : (0 : Int) ≤ (a : Int) + (k : Int) := by omega
      have i2 : (a : Int) + (k : Int) < (n : Int) := by omega
      have i3 : ((a : Int) + (k : Int)).toNat = a + k := by omega
      have i4 : IntKind.u32.wrap (numk f a k * 256) = numk f a k * 256 := by rw [IntKind.wrap_u32']; omega
      have i5 : IntKind.u32.wrap (f (a + k)) = f (a + k) := by rw [IntKind.wrap_u32']; omega
      have i6 : IntKind.u32.wrap (numk f a k * 256 + f (a + k)) = numk f a k * 256 + f (a + k) := by rw [IntKind.wrap_u32']; omega
      have i7 : IntKind.i64.wrap ((k : Int) + 1) = (k : Int) + 1 := by rw [IntKind.wrap_i64]; omega
      have i8 : IntKind.i64.wrap ((a : Int) + (k : Int)) = (a : Int) + (k : Int) := by rw [IntKind.wrap_i64]; omega
      clear q0 q1 q3 q4 hcell
      go_wp2
      go_roundw
      case rel => exact ⟨k + 1, by omega, rfl, by simp, by first | rfl | trivial⟩
      case measure => simp [intOf]; omega
    · obtain rfl : k = m := by omega
      go_wp2
      go_ret
      exact ⟨rfl, rfl⟩
theorem layb_step (n m j : Nat) (g : Nat → Int) (x : Int) (hj : j < m) (k : Nat) (hk : k < n + (j + 1)) : cat n g (layb x m) k = cat (n + j) (cat n g (layb x m)) (fun _ => pw x (m - 1 - j) % 256) k := by
  unfold cat
  by_cases c : k < n + j
  · rw [if_pos c]
  · rw [if_neg c, if_neg (by omega)]
    obtain rfl : k = n + j := by omega
    unfold layb
    rw [show n + j - n = j by omega]
set_option maxHeartbeats 2000000 in
theorem rlay_any (base : Nat) (A : Option Addr) (n c : Nat) (g : Nat → Int) (x : Int) (m : Nat) (hx : 0 ≤ x ∧ x ≤ 4294967295) (hm : m ≤ 8) (hn : n ≤ 140737488355000) (w : World) (ho : Own w base 5 A n c g) (hb : base ≤ w.heap.size) :
    Calls Try.prog 23 #[.slice A n c, .int .u32 x, .int .i64 (m : Int)] w fun e w' => ∃ A' c', e = .returned (.slice A' (n + m) c') ∧ Own w' base 5 A' (n + m) c' (cat n g (layb x m)) ∧ w.grownBy w' (Value.ownBlock (.slice A n c)) ∧ (∀ q, Value.ownBlock (.slice A' (n + m) c') = some q → w.heap.size ≤ q ∨ Value.ownBlock (.slice A n c) = some q) := by
  obtain ⟨i0, hi0, hz0, hz1, hz2⟩ := info_parts Try.info5
  have HI0 := Lib.hid hi0
  have HZ0 := Lib.hid hz0
  have HZ1 := Lib.hid hz1
  have HZ2 := Lib.hid hz2
  have HX := Lib.hid hx
  have HO0 : Hid (Own w base 5 A (n + 0) c (cat n g (layb x m))) := Lib.hid (ho.same fun k hk => by unfold cat; rw [if_pos (by omega)])
  have HB0 : Hid (w.grownBy w (Value.ownBlock (.slice A n c)) ∧ ∀ q, Value.ownBlock (.slice A (n + 0) c) = some q → w.heap.size ≤ q ∨ Value.ownBlock (.slice A n c) = some q) := Lib.hid ⟨World.grownBy.refl _ _, fun q hq => .inr (by simpa [Value.ownBlock] using hq)⟩
  clear hi0 hz0 hz1 hz2 hx ho
  go_enter Try.func23, Try.ntmps23
  have hw0 : IntKind.i64.wrap ((m : Int) - 1) = (m : Int) - 1 := by rw [IntKind.wrap_i64]; omega
  go_wp2
  clear hw0
  go_loopw [0, 7] (fun b y wr => ∃ (j : Nat) (Aj : Option Addr) (cj : Nat), j ≤ m ∧ b = .slice Aj (n + j) cj ∧ y = .int .i64 ((m : Int) - 1 - (j : Int)) ∧ Hid (Own wr base 5 Aj (n + j) cj (cat n g (layb x m))) ∧ Hid (w.grownBy wr (Value.ownBlock (.slice A n c)) ∧ ∀ q, Value.ownBlock (.slice Aj (n + j) cj) = some q → w.heap.size ≤ q ∨ Value.ownBlock (.slice A n c) = some q)) (fun _ y _ => (intOf y + 1).toNat)
  case atStart => exact ⟨0, A, c, by omega, rfl, by simp, HO0, HB0⟩
  case round =>
    clear HO0 HB0
    obtain ⟨j, Aj, cj, hj, rfl, rfl, HO, HB⟩ := hrel
    by_cases hlt : j < m
    · obtain ⟨y, hy⟩ : ∃ y : Nat, y = m - 1 - j := ⟨_, rfl⟩
      have hy' : (m : Int) - 1 - (j : Int) = (y : Int) := by omega
      have HST := Lib.hid (layb_step n m j g x hlt)
      rw [← hy] at HST
      rw [hy']
      have hy0 : (0 : Int) ≤ (y : Int) := by omega
      have hy8 : y ≤ 8 := by omega
      have HY := Lib.hid hy
      have HY' := Lib.hid hy'
      clear hy hy'
      go_wp2
      go_loopw [8, 9] (fun v i wr' => ∃ k : Nat, k ≤ y ∧ v = .int .u32 (pw x k) ∧ i = .int .i64 (k : Int) ∧ wr = wr') (fun _ i _ => y - (intOf i).toNat)
      case atStart => exact ⟨0, by omega, rfl, rfl, by first | rfl | trivial⟩
      case round =>
        obtain ⟨k, hk, rfl, rfl, rfl⟩ := hrel
        obtain ⟨p0, p1⟩ := pw_bd HX.out.1 HX.out.2 k
        by_cases hlk : k < y
        · have i0 : (k : Int) < (y : Int) := by omega
          have t1 : (pw x k).tdiv 256 = pw x (k + 1) := Int.tdiv_eq_ediv_of_nonneg p0
          have t2 : IntKind.u32.wrap (pw x (k + 1)) = pw x (k + 1) := by
            have := pw_bd HX.out.1 HX.out.2 (k + 1)
            rw [IntKind.wrap_u32']
            omega
          have i7 : IntKind.i64.wrap ((k : Int) + 1) = (k : Int) + 1 := by rw [IntKind.wrap_i64]; omega
          clear p0 p1
          go_wp2
          go_roundw
          case rel => exact ⟨k + 1, by omega, by first | rfl | trivial, by simp, by first | rfl | trivial⟩
          case measure => simp [intOf]; omega
        · obtain rfl : k = y := by omega
          have t1 : (pw x k).tmod 256 = pw x k % 256 := Int.tmod_eq_emod_of_nonneg p0
          have t2 : IntKind.u32.wrap (pw x k % 256) = pw x k % 256 := by rw [IntKind.wrap_u32']; omega
          have t3 : IntKind.u8.wrap (pw x k % 256) = pw x k % 256 := by rw [IntKind.wrap_u8']; omega
          have i7 : IntKind.i64.wrap ((k : Int) - 1) = (k : Int) - 1 := by rw [IntKind.wrap_i64]; omega
          have hsz : base ≤ wr.heap.size := Nat.le_trans hb HB.out.1.size
          generalize pw x k = v at *
          clear p0 p1 hlk
          go_wp2_with (first
            | (at_builtin
               refine wpList_append_rd rfl (.tmp 24) (.tmp 28) _ rfl base 5 i0 Try.underlying23 HI0.out HZ0.out HZ1.out HZ2.out rfl (HO.out.alloc (.cells #[.int .u8 (v % 256)] 5)) rfl (rd_new1 wr (wr.heap.size + 1) _ rfl (Nat.lt_succ_self _) (v % 256) 5) (by omega) (Nat.le_trans hsz (alloc_le wr _)) ?_
               intro A3 c3 w3 hown3 hg3 hq3
               have HB3 : Hid (w.grownBy w3 (Value.ownBlock (.slice A n c)) ∧ ∀ q, Value.ownBlock (.slice A3 (n + (j + 1)) c3) = some q → w.heap.size ≤ q ∨ Value.ownBlock (.slice A n c) = some q) := Lib.hid
                 ⟨(HB.out.1.andThen (World.grownBy_alloc wr (.cells #[.int .u8 (v % 256)] 5) (Value.ownBlock (.slice A n c))) (fun q hq => .inr hq)).andThen hg3 HB.out.2, fun q hq => by
                   rcases hq3 with e | e
                   · exact HB.out.2 q (e.symm.trans hq)
                   · refine .inl ?_
                     have e2 := e.symm.trans hq
                     injection e2 with e2
                     rw [← e2]
                     exact Nat.le_trans HB.out.1.size (alloc_le wr _)⟩
               have HO3 : Hid (Own w3 base 5 A3 (n + (j + 1)) c3 (cat n g (layb x m))) := hown3.same fun k hk => HST.out k hk
               clear hown3 hg3 hq3))
          go_roundw
          case rel => exact ⟨j + 1, A3, c3, by omega, by rfl, by have := HY'.out; go_num, HO3, HB3⟩
          case measure => simp [intOf]
    · obtain rfl : j = m := by omega
      have hm1 : (j : Int) - 1 - (j : Int) = -1 := by omega
      rw [hm1]
      go_wp2
      go_ret
      exact ⟨Aj, cj, rfl, HO.out, HB.out.1, HB.out.2⟩
/-- .. with the sum of the lengths written out. -/
theorem rlay_to (base : Nat) (A : Option Addr) (n c : Nat) (g : Nat → Int) (x : Int) (m k : Nat) (hk : k = n + m) (hx : 0 ≤ x ∧ x ≤ 4294967295) (hm : m ≤ 8) (hn : n ≤ 140737488355000) (w : World) (ho : Own w base 5 A n c g) (hb : base ≤ w.heap.size) :
    Calls Try.prog 23 #[.slice A n c, .int .u32 x, .int .i64 (m : Int)] w fun e w' => ∃ A' c', e = .returned (.slice A' k c') ∧ Own w' base 5 A' k c' (cat n g (layb x m)) ∧ w.grownBy w' (Value.ownBlock (.slice A n c)) ∧ (∀ q, Value.ownBlock (.slice A' k c') = some q → w.heap.size ≤ q ∨ Value.ownBlock (.slice A n c) = some q) := by
  subst hk
  exact rlay_any base A n c g x m hx hm hn w ho hb
theorem rlay2 (base : Nat) (A : Option Addr) (n c : Nat) (g : Nat → Int) (x : Int) (k : Nat) (hk : k = n + 2) (hx : 0 ≤ x ∧ x ≤ 4294967295) (hn : n ≤ 140737488355000) (w : World) (ho : Own w base 5 A n c g) (hb : base ≤ w.heap.size) :
    Calls Try.prog 23 #[.slice A n c, .int .u32 x, .int .i64 2] w fun e w' => ∃ A' c', e = .returned (.slice A' k c') ∧ Own w' base 5 A' k c' (cat n g (layb x 2)) ∧ w.grownBy w' (Value.ownBlock (.slice A n c)) ∧ (∀ q, Value.ownBlock (.slice A' k c') = some q → w.heap.size ≤ q ∨ Value.ownBlock (.slice A n c) = some q) :=
  rlay_to base A n c g x 2 k hk hx (by omega) hn w ho hb
theorem rlay4 (base : Nat) (A : Option Addr) (n c : Nat) (g : Nat → Int) (x : Int) (k : Nat) (hk : k = n + 4) (hx : 0 ≤ x ∧ x ≤ 4294967295) (hn : n ≤ 140737488355000) (w : World) (ho : Own w base 5 A n c g) (hb : base ≤ w.heap.size) :
    Calls Try.prog 23 #[.slice A n c, .int .u32 x, .int .i64 4] w fun e w' => ∃ A' c', e = .returned (.slice A' k c') ∧ Own w' base 5 A' k c' (cat n g (layb x 4)) ∧ w.grownBy w' (Value.ownBlock (.slice A n c)) ∧ (∀ q, Value.ownBlock (.slice A' k c') = some q → w.heap.size ≤ q ∨ Value.ownBlock (.slice A n c) = some q) :=
  rlay_to base A n c g x 4 k hk hx (by omega) hn w ho hb
/-- Kept where another block alone grows. -/
theorem Own.grown {w w' : World} {base : Nat} {e : TypeId} {A : Option Addr} {n c : Nat} {f : Nat → Int} {row : Option Nat} (h : Own w base e A n c f) (hg : w.grownBy w' row) (hne : ∀ q, Value.ownBlock (.slice A n c) = some q → row ≠ some q) : Own w' base e A n c f := by
  refine ⟨h.1, ?_⟩
  rcases h.2 with hh | ⟨g, cap, cur, hv, hb, hh, r⟩
  · exact .inl hh
  · have hlt : g < w.heap.size := lt_heap hh
    have hq : Value.ownBlock (.slice A n c) = some g := by
      injection hv with h1 _ _
      subst h1
      rfl
    exact .inr ⟨g, cap, cur, hv, hb, (hg.block g hlt (fun e => hne g hq e.symm)).trans hh, r⟩
end Go.Proofs.Ytmcapemlicjfjaa
