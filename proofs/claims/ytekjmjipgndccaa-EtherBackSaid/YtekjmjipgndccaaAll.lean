/- The program's Read and Write and the document's, at any slice of bytes. -/
import Derived.Test.YtekjmjipgndccaaTexts
namespace Go.Proofs.Ytekjmjipgndccaa
open Go.RowKit
/-- A call that reads a frame of n bytes f tells the head X Y K, a payload of its own of m bytes g, and x. -/
def ReadTells (fn : FuncId) (n : Nat) (f X Y : Nat → Int) (K : Int) (m : Nat) (g : Nat → Int) (x : Int) : Prop :=
  ∀ (A : Option Addr) (c : Nat) (w : World), n ≤ c → c ≤ 9223372036854775807 → Rd w w.heap.size A n f → Calls Try.prog fn #[.slice A n c] w fun e w' =>
    ∃ Q cq, e = .returned (.tuple #[.agg #[.int .u8 (X 0), .int .u8 (X 1), .int .u8 (X 2), .int .u8 (X 3), .int .u8 (X 4), .int .u8 (X 5), .int .u8 (Y 0), .int .u8 (Y 1), .int .u8 (Y 2), .int .u8 (Y 3), .int .u8 (Y 4), .int .u8 (Y 5), .int .u16 K], .slice Q m cq, .int .i64 x]) ∧ Own w' w.heap.size 5 Q m cq g ∧ Below w.heap.size w w'
/-- A call that writes a frame with the head X Y K and n bytes f tells m bytes g of its own, and x. -/
def WriteTells (fn : FuncId) (X Y : Nat → Int) (K : Int) (n : Nat) (f : Nat → Int) (m : Nat) (g : Nat → Int) (x : Int) : Prop :=
  ∀ (A : Option Addr) (c : Nat) (w : World), n ≤ c → c ≤ 9223372036854775807 → Rd w w.heap.size A n f → Calls Try.prog fn #[.agg #[.int .u8 (X 0), .int .u8 (X 1), .int .u8 (X 2), .int .u8 (X 3), .int .u8 (X 4), .int .u8 (X 5), .int .u8 (Y 0), .int .u8 (Y 1), .int .u8 (Y 2), .int .u8 (Y 3), .int .u8 (Y 4), .int .u8 (Y 5), .int .u16 K], .slice A n c] w fun e w' =>
    ∃ Q cq, e = .returned (.tuple #[.slice Q m cq, .int .i64 x]) ∧ Own w' w.heap.size 5 Q m cq g ∧ Below w.heap.size w w'
theorem zero_byt : Byt fun _ => 0 := fun _ => ⟨Int.le_refl 0, (by decide : (0 : Int) ≤ 255)⟩
theorem read_both (n : Nat) (f : Nat → Int) (hf : Byt f) (hn : n ≤ 4000) : ∃ (X Y : Nat → Int) (K : Int) (m : Nat) (g : Nat → Int) (x : Int),
    Byt X ∧ Byt Y ∧ (0 ≤ K ∧ K ≤ 65535) ∧ Byt g ∧ m ≤ 1586 ∧ ((x = 0 ∧ 14 ≤ n ∧ n ≤ 1600) ∨ ((x = 3 ∨ x = 4) ∧ (n < 14 ∨ 1600 < n))) ∧ (x = 0 → 14 + m = n ∧ (X = f ∧ Y = fun k => f (6 + k)) ∧ K = f 12 * 256 + f 13 ∧ g = fun k => f (14 + k)) ∧
    ReadTells 7 n f X Y K m g x ∧ ReadTells 8 n f X Y K m g x := by
  by_cases h1 : 1600 < n
  · refine ⟨fun _ => 0, fun _ => 0, 0, 0, fun _ => 0, 3, zero_byt, zero_byt, by omega, zero_byt, by omega, .inr ⟨.inl rfl, .inr h1⟩, fun h => absurd h (by omega), fun A c w _ _ _ => ?_, fun A c w _ _ _ => ?_⟩
    · exact (read_long A n c h1 (by omega) w).mono fun e w' ⟨he, hb⟩ => ⟨none, 0, he, Own.nil_ _ _ _ _, hb⟩
    · exact (rread_long A n c h1 (by omega) w).mono fun e w' ⟨he, hb⟩ => ⟨none, 0, he, Own.nil_ _ _ _ _, hb⟩
  · by_cases h2 : n < 14
    · refine ⟨fun _ => 0, fun _ => 0, 0, 0, fun _ => 0, 4, zero_byt, zero_byt, by omega, zero_byt, by omega, .inr ⟨.inr rfl, .inl h2⟩, fun h => absurd h (by omega), fun A c w _ _ _ => ?_, fun A c w _ _ _ => ?_⟩
      · exact (read_short A n c h2 w).mono fun e w' ⟨he, hb⟩ => ⟨none, 0, he, Own.nil_ _ _ _ _, hb⟩
      · exact (rread_short A n c h2 w).mono fun e w' ⟨he, hb⟩ => ⟨none, 0, he, Own.nil_ _ _ _ _, hb⟩
    · have h12 := hf 12
      have h13 := hf 13
      refine ⟨f, fun k => f (6 + k), f 12 * 256 + f 13, n - 14, fun k => f (14 + k), 0, hf, fun k => hf _, by omega, fun k => hf _, by omega, .inl ⟨rfl, by omega, by omega⟩, fun _ => ⟨by omega, ⟨rfl, rfl⟩, rfl, rfl⟩, fun A c w hc hc' hr => ?_, fun A c w hc hc' hr => ?_⟩
      · rcases hr with h | ⟨b, off, rfl, hb, hcell⟩
        · omega
        · exact (read_good b off n c f hf (by omega) (by omega) hc (by omega) w hb hcell).mono fun e w' h => h
      · rcases hr with h | ⟨b, off, rfl, hb, hcell⟩
        · omega
        · exact (rread_good b off n c f hf (by omega) (by omega) hc (by omega) w hb hcell).mono fun e w' h => h
theorem write_both (X Y : Nat → Int) (hX : Byt X) (hY : Byt Y) (K : Int) (hK : 0 ≤ K) (hK' : K ≤ 65535) (n : Nat) (f : Nat → Int) (hf : Byt f) (hn : n ≤ 4000) : ∃ (m : Nat) (x : Int),
    ((x = 0 ∧ n ≤ 1646 ∧ m = 14 + n) ∨ (x = 3 ∧ 1646 < n ∧ m = 0)) ∧ WriteTells 9 X Y K n f m (frm X Y K f) x ∧ WriteTells 10 X Y K n f m (frm X Y K f) x := by
  by_cases h1 : 1646 < n
  · refine ⟨0, 3, .inr ⟨rfl, h1, rfl⟩, fun A c w _ _ _ => ?_, fun A c w _ _ _ => ?_⟩
    · exact (write_long _ A n c h1 (by omega) w).mono fun e w' ⟨he, hb⟩ => ⟨none, 0, he, Own.nil_ _ _ _ _, hb⟩
    · exact (rwrite_long _ A n c h1 (by omega) w).mono fun e w' ⟨he, hb⟩ => ⟨none, 0, he, Own.nil_ _ _ _ _, hb⟩
  · refine ⟨14 + n, 0, .inl ⟨rfl, by omega, rfl⟩, fun A c w _ _ hr => ?_, fun A c w _ _ hr => ?_⟩
    · exact (write_good X Y K hK hK' A n c f (by omega) w hr).mono fun e w' h => h
    · exact (rwrite_good X Y hX hY K hK hK' A n c f hf (by omega) w hr).mono fun e w' ⟨he, ho, hb⟩ => ⟨_, _, he, ho, hb⟩
theorem frm_byt {X Y : Nat → Int} {K : Int} {f : Nat → Int} (hX : Byt X) (hY : Byt Y) (hK : 0 ≤ K) (hK' : K ≤ 65535) (hf : Byt f) : Byt (frm X Y K f) := fun k => by
  unfold frm
  split
  · exact hX _
  · split
    · exact hY _
    · split
      · omega
      · split
        · omega
        · exact hf _
/-- g, its first i one more. -/
def inc (g : Nat → Int) (i k : Nat) : Int := if k < i then (g k + 1) % 256 else g k
theorem inc_start (g : Nat → Int) (k : Nat) : inc g 0 k = g k := by unfold inc; rw [if_neg (by omega)]
theorem inc_at (g : Nat → Int) (i : Nat) : inc g i i = g i := by unfold inc; rw [if_neg (by omega)]
theorem inc_step (g : Nat → Int) (i k : Nat) : inc g (i + 1) k = upd (inc g i) i ((g i + 1) % 256) k := by
  unfold upd
  by_cases h : k = i
  · subst h
    unfold inc
    rw [if_pos (by omega), if_pos rfl]
  · rw [if_neg h]
    unfold inc
    by_cases h2 : k < i
    · rw [if_pos h2, if_pos (by omega)]
    · rw [if_neg h2, if_neg (by omega)]
theorem still_below {P : Program} {fn : FuncId} {args : Array Value} {w : World} {v : Ending} (h : Calls P fn args w fun e w' => e = v ∧ w = w') : Calls P fn args w fun e w' => e = v ∧ Below w.heap.size w w' :=
  h.mono fun _ _ ⟨a, b⟩ => ⟨a, by subst b; exact Below.refl _ _⟩
end Go.Proofs.Ytekjmjipgndccaa
