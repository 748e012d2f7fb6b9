import Derived.Test.YthjgecdnlpdcdaaM15
import Derived.Test.YthjgecdnlpdcdaaM14
import Derived.Laws.Cover3
import Derived.Laws.BitsAllLaws
import Derived.Laws.IdiomCopy
/- The program's small functions of layer 3: headLen, word, fits, and the closure that lays a number. -/
namespace Go.Proofs.Ythjgecdnlpdcdaa
set_option maxRecDepth 100000
open Go.RowKit
theorem and15 (x : Int) (h : 0 ≤ x) (h' : x ≤ 255) : bits .and .u8 x 15 = x % 16 := by
  obtain ⟨n, rfl⟩ := Int.eq_ofNat_of_zero_le h
  have e := u8_and_nat n 15 (by omega) (by omega)
  have q : n &&& 15 = n % 16 := Nat.and_two_pow_sub_one_eq_mod n 4
  rw [q] at e
  exact e
set_option maxHeartbeats 400000 in
theorem headLen_any (b off n c : Nat) (f : Nat → Int) (hf : Byt f) (hn : 0 < n) (w : World) (hc : w.cell? ⟨b, off, none⟩ = some (.int .u8 (f 0))) :
    Calls Try.prog 25 #[.slice (some ⟨b, off, none⟩) n c] w fun e w' => e = .returned (.int .i64 (f 0 % 16 * 4)) ∧ w = w' := by
  obtain ⟨p0, q0⟩ := hf 0
  have i0 : (0 : Int) < (n : Int) := by omega
  have ha := and15 (f 0) p0 q0
  have hm : 0 ≤ f 0 % 16 ∧ f 0 % 16 ≤ 15 := by omega
  obtain ⟨m0, m1⟩ := hm
  generalize f 0 % 16 = m at *
  go_enter Try.func25, Try.ntmps25
  go_wp2
  go_ret
  exact ⟨rfl, rfl⟩
set_option maxHeartbeats 400000 in
theorem word4_any (b off n c a : Nat) (f : Nat → Int) (hf : Byt f) (ha : a + 1 < n) (hn : n ≤ 4611686018427387904) (w : World) (hc : ∀ k, k < n → w.cell? ⟨b, off + k, none⟩ = some (.int .u8 (f k))) :
    Calls Try.prog 26 #[.slice (some ⟨b, off, none⟩) n c, .int .i64 (a : Int)] w fun e w' => e = .returned (.int .u16 (f a * 256 + f (a + 1))) ∧ Below w.heap.size w w' := by
  have h0 := hc a (by omega)
  have h1 := hc (a + 1) (by omega)
  obtain ⟨p0, q0⟩ := hf a
  obtain ⟨p1, q1⟩ := hf (a + 1)
  clear hc hf
  have i0 : (0 : Int) ≤ (a : Int) := by omega
  have i1 : (a : Int) < (n : Int) := by omega
  have i2 : (0 : Int) ≤ (a : Int) + 1 := by omega
  have i3 : (a : Int) + 1 < (n : Int) := by omega
  have i4 : ((a : Int)).toNat = a := by omega
  have i5 : ((a : Int) + 1).toNat = a + 1 := by omega
  have w1' : IntKind.u16.wrap (f a) = f a := by simp only [IntKind.wrap_u16]; omega
  have w2' : IntKind.u16.wrap (f (a + 1)) = f (a + 1) := by simp only [IntKind.wrap_u16]; omega
  have w3' : IntKind.u16.wrap (f a * 256) = f a * 256 := by simp only [IntKind.wrap_u16]; omega
  have w4' := or_hi (f a) (f (a + 1)) p0 q0 p1 q1
  go_enter Try.func26, Try.ntmps26
  go_wp2
  go_quiet (fail)
  go_wp2
  go_ret
  exact ⟨rfl, below_drewN (Below.refl _ _) _⟩
end Go.Proofs.Ythjgecdnlpdcdaa
/- The closure that lays a number into a header; copying into a slice of the call's own. -/
namespace Go.Proofs.Ythjgecdnlpdcdaa
set_option maxRecDepth 100000
open Go.RowKit
set_option maxHeartbeats 1000000 in
theorem lay_any (W : World) (p g n c at_ : Nat) (x : Int) (f : Nat → Int) (base : Nat) (t et : TypeId) (hp : W.heap[p]? = some (.cells #[.slice (some ⟨g, 0, none⟩) n c] t (0, 0))) (ho : Own W base et (some ⟨g, 0, none⟩) n c f) (hat : at_ + 1 < n) (hn : n ≤ 4611686018427387904) (hx : 0 ≤ x) (hx' : x ≤ 65535) (hpg : p ≠ g) :
    Calls Try.prog 30 #[.int .i64 (at_ : Int), .int .u16 x, .pointer (some ⟨p, 0, none⟩)] W fun e w' => e = .returned (.tuple #[]) ∧ w' = ((W.setCell ⟨g, at_, none⟩ (.int .u8 (x / 256))).setCell ⟨g, at_ + 1, none⟩ (.int .u8 (x % 256))).drew := by
  obtain ⟨g', hg', _, _, hcell, hfro⟩ := ho.lies (by omega)
  injection hg' with hg'
  injection hg' with hg'
  subst hg'
  have c0 : W.cell? ⟨p, 0, none⟩ = some (.slice (some ⟨g, 0, none⟩) n c) := blk_cell hp 0
  have c1 := hcell at_ (by omega)
  have c2 := hcell (at_ + 1) (by omega)
  have f1 := hfro at_
  have f2 := hfro (at_ + 1)
  have i0 : (0 : Int) ≤ (at_ : Int) := by omega
  have i1 : (at_ : Int) < (n : Int) := by omega
  have i2 : (0 : Int) ≤ (at_ : Int) + 1 := by omega
  have i3 : (at_ : Int) + 1 < (n : Int) := by omega
  have i4 : ((at_ : Int)).toNat = at_ := by omega
  have i5 : ((at_ : Int) + 1).toNat = at_ + 1 := by omega
  have i6 : IntKind.i64.wrap ((at_ : Int) + 1) = (at_ : Int) + 1 := by
    rw [IntKind.wrap_i64]
    omega
  have hq1 : IntKind.u8.wrap (x / 256) = x / 256 := by
    simp only [IntKind.wrap_u8]
    omega
  have hq2 : IntKind.u8.wrap x = x % 256 := by simp only [IntKind.wrap_u8]
  clear hcell hfro ho hp
  go_enter Try.func30, Try.ntmps30
  go_region_held3 (fun w' => w'.cell? ⟨p, 0, none⟩ = some (.slice (some ⟨g, 0, none⟩) n c)) (first | (with_reducible exact c0) | (go_simp)) (fail)
  all_goals exact bodyPost_end (v := .tuple #[]) (by simp [results, Try.results30]) rfl ⟨rfl, rfl⟩
end Go.Proofs.Ythjgecdnlpdcdaa
