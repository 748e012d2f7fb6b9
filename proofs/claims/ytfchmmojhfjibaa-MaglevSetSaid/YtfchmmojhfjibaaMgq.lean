/- Stage 19: lists that come in. -/
import Derived.Test.YtfchmmojhfjibaaMgn
import Derived.Test.YtfchmmojhfjibaaMgm
import Derived.Test.YtfchmmojhfjibaaFlat
namespace Go.Proofs.Ytfchmmojhfjibaa
set_option maxRecDepth 100000
open Go.RowKit Go.Shelf
def strOf : Value → ByteArray
  | .string S => S
  | _ => ⟨#[]⟩
def wtF (f : Nat → Value) (i : Nat) : Wt := ⟨strOf (f (i * 2)), intOf (f (i * 2 + 1))⟩
theorem wa_range (f : Nat → Value) (n i : Nat) (h : i < n) : wa ((List.range n).map (wtF f)) i = wtF f i := by
  unfold wa
  rw [List.getElem?_map, List.getElem?_range h]
  rfl
theorem lin_of {w : World} {A : Option Addr} {n c : Nat} {f : Nat → Value} (h1 : n ≤ c) (h2 : c ≤ 9223372036854775807) (hr : RdC w w.heap.size A (n * 2) f) (h3 : ∀ i, i < n → ∀ (j : Nat) (k : Leaf), [Leaf.str, Leaf.num .i64][j]? = some k → k.ok (f (i * 2 + j))) : ∃ l : List Wt, l.length = n ∧ Lin w A c l := by
  refine ⟨(List.range n).map (wtF f), by rw [List.length_map, List.length_range], ⟨by rw [List.length_map, List.length_range]; exact h1, h2, ?_⟩⟩
  rw [List.length_map, List.length_range]
  refine hr.same fun k hk => ?_
  have hi : k / 2 < n := by omega
  unfold wf
  rw [wa_range f n _ hi]
  obtain ⟨S, e1, _⟩ := h3 (k / 2) hi 0 .str rfl
  obtain ⟨x, e2, _⟩ := h3 (k / 2) hi 1 (.num .i64) rfl
  rw [Nat.add_zero] at e1
  unfold wtF
  rw [e1, e2]
  by_cases q : k % 2 = 0
  · rw [if_pos q, show k = k / 2 * 2 by omega, e1]
    rfl
  · rw [if_neg q, show k = k / 2 * 2 + 1 by omega, e2]
    rfl
theorem ints_of {w : World} {A : Option Addr} {n : Nat} {f : Nat → Value} (hr : RdC w w.heap.size A (n * 1) f) (h3 : ∀ i, i < n → ∀ (j : Nat) (k : Leaf), [Leaf.num .i64][j]? = some k → k.ok (f (i * 1 + j))) : RdC w w.heap.size A n (iV fun i => intOf (f i)) := by
  rw [Nat.mul_one] at hr
  refine hr.same fun k hk => ?_
  obtain ⟨x, e, _⟩ := h3 k hk 0 (.num .i64) rfl
  rw [Nat.add_zero, Nat.mul_one] at e
  unfold iV
  dsimp only
  rw [e]
  rfl
theorem mtabs_any (HP : MgP) {A : Option Addr} {n c : Nat} {f : Nat → Value} (h1 : n ≤ c) (h2 : c ≤ 9223372036854775807) (m : Int) {B : Option Addr} {p d : Nat} {g : Nat → Value} (hpd : p ≤ d) (hd : d ≤ 9223372036854775807) (k : Int) (w : World) (hr : RdC w w.heap.size A (n * 2) f) (h3 : ∀ i, i < n → ∀ (j : Nat) (k : Leaf), [Leaf.str, Leaf.num .i64][j]? = some k → k.ok (f (i * 2 + j)))
    (hq : RdC w w.heap.size B (p * 1) g) (h4 : ∀ i, i < p → ∀ (j : Nat) (k : Leaf), [Leaf.num .i64][j]? = some k → k.ok (g (i * 1 + j))) : Calls Try.prog 3 #[.slice A n c, .int .i64 m, .slice B p d, .int .i64 k] w (ret (.bool true) w) := by
  obtain ⟨l, hl, h⟩ := lin_of h1 h2 hr h3
  have ht := ints_of hq h4
  rw [← hl]
  rcases Nat.lt_or_ge 700 p with q | q
  · exact mtabs_long HP l A c m B p d k w h (.inr q)
  cases hg : grW l m with
  | true => exact mtabs_long HP l A c m B p d k w h (.inl hg)
  | false =>
    cases hm : mayW l m with
    | true => exact mtabs_yes HP l A c m B p d _ k w h hg q hpd hd ht hm
    | false => exact mtabs_no HP l A c m B p d _ k w h hg q hpd hd ht hm
theorem gr_len {l : List Wt} {m : Int} (hg : grW l m = false) : l.length ≤ 30 := by
  rcases Nat.lt_or_ge 30 l.length with q | q
  · have := grW_iff.2 (show bigW l m from .inr (.inl q))
    rw [hg] at this
    cases this
  · exact q
theorem mshares_any (HP : MgP) {A : Option Addr} {n c : Nat} {f : Nat → Value} (h1 : n ≤ c) (h2 : c ≤ 9223372036854775807) (m : Int) (w : World) (hr : RdC w w.heap.size A (n * 2) f) (h3 : ∀ i, i < n → ∀ (j : Nat) (k : Leaf), [Leaf.str, Leaf.num .i64][j]? = some k → k.ok (f (i * 2 + j))) : Calls Try.prog 4 #[.slice A n c, .int .i64 m] w (ret (.bool true) w) := by
  obtain ⟨l, hl, h⟩ := lin_of h1 h2 hr h3
  rw [← hl]
  cases hg : grW l m with
  | true => exact mshares_out HP l A c m w h hg
  | false =>
    cases hm : mayW l m with
    | true => exact mshares_yes HP l A c m w h hg (gr_len hg) hm
    | false => exact mshares_no HP l A c m w h hg (gr_len hg) hm
theorem mset_any (HP : MgP) {A : Option Addr} {n c : Nat} {f : Nat → Value} (h1 : n ≤ c) (h2 : c ≤ 9223372036854775807) (m y : Int) (hy0 : 0 ≤ y) (hy9 : y ≤ 255) (w : World) (hr : RdC w w.heap.size A (n * 2) f) (h3 : ∀ i, i < n → ∀ (j : Nat) (k : Leaf), [Leaf.str, Leaf.num .i64][j]? = some k → k.ok (f (i * 2 + j))) : Calls Try.prog 5 #[.slice A n c, .int .i64 m, .int .u8 y] w (ret (.bool true) w) := by
  obtain ⟨l, hl, h⟩ := lin_of h1 h2 hr h3
  rw [← hl]
  cases hg : grW l m with
  | true => exact mset_out HP l A c m y w h hg
  | false =>
    rcases Nat.eq_zero_or_pos l.length with h0 | h0
    · exact mset_nil HP l A c m y w h hg h0
    obtain ⟨Y, rfl⟩ := Int.eq_ofNat_of_zero_le hy0
    rcases Nat.lt_or_ge 127 Y with q | q
    · exact mset_rev HP l A c m Y q (by omega) w h hg (gr_len hg) h0
    · exact mset_rot HP l A c m Y q (by omega) w h hg (gr_len hg) h0
end Go.Proofs.Ytfchmmojhfjibaa
