/- The document's answers for layer 2: Text. -/
import Derived.Test.YtekjmjipgndccaaREther
import Derived.WalkLawsBesides
import Derived.IntWalk
namespace Go.Proofs.Ytekjmjipgndccaa
open Go.RowKit
def arr6 (d : Nat → Int) : Array Value := #[.int .u8 (d 0), .int .u8 (d 1), .int .u8 (d 2), .int .u8 (d 3), .int .u8 (d 4), .int .u8 (d 5)]
theorem arr6_get (d : Nat → Int) (k : Nat) (hk : k < 6) : (arr6 d)[k]? = some (.int .u8 (d k)) := by
  match k, hk with
  | 0, _ => rfl
  | 1, _ => rfl
  | 2, _ => rfl
  | 3, _ => rfl
  | 4, _ => rfl
  | 5, _ => rfl
  | k + 6, h => exact absurd h (by omega)
/-- A digit of the base 16, as a text. -/
def hx (x : Int) : ByteArray := (⟨#[48, 49, 50, 51, 52, 53, 54, 55, 56, 57, 97, 98, 99, 100, 101, 102]⟩ : ByteArray).extract x.toNat (x + 1).toNat
/-- The text of the first k bytes. -/
def rtx (d : Nat → Int) : Nat → ByteArray
  | 0 => ⟨#[]⟩
  | k + 1 => (if k = 0 then rtx d k else rtx d k ++ ⟨#[58]⟩) ++ hx (d k / 16) ++ hx (d k % 16)
theorem hx_size (x : Int) : (hx x).size ≤ 16 := by
  have h : (hx x).size = min (x + 1).toNat 16 - x.toNat := by unfold hx; simp [ByteArray.size_extract]; rfl
  omega
theorem rtx_size (d : Nat → Int) : ∀ k, (rtx d k).size ≤ 100 * k
  | 0 => Nat.le_refl _
  | k + 1 => by
    have ih := rtx_size d k
    have a := hx_size (d k / 16)
    have b := hx_size (d k % 16)
    show ((if k = 0 then rtx d k else rtx d k ++ ⟨#[58]⟩) ++ hx (d k / 16) ++ hx (d k % 16)).size ≤ _
    rw [ByteArray.size_append, ByteArray.size_append]
    split
    · omega
    · have c : (rtx d k ++ ⟨#[58]⟩).size = (rtx d k).size + 1 := by rw [ByteArray.size_append]; rfl
      omega
set_option maxHeartbeats 400000 in
theorem rtext_any (d : Nat → Int) (hd : Byt d) (w : World) : Calls Try.prog 16 #[.agg (arr6 d)] w fun e w' => e = .returned (.string (rtx d 6)) ∧ Below w.heap.size w w' := by
  have HD := Lib.hid hd
  clear hd
  obtain ⟨R, hR⟩ : ∃ R, R = rtx d 6 := ⟨_, rfl⟩
  rw [← hR]
  have HR := Lib.hid hR
  clear hR
  go_enter Try.func16, Try.ntmps16
  go_wp2
  go_loopw [4, 5] (fun s i wr => ∃ (k : Nat) (S : ByteArray), k ≤ 6 ∧ i = .int .i64 k ∧ s = .string S ∧ Hid (S = rtx d k) ∧ wr.heap[w.heap.size]? = some (.cells (arr6 d) 22 (0, 0)) ∧ Below w.heap.size w wr) (fun _ i _ => 6 - (intOf i).toNat)
  case atStart => exact ⟨0, _, by omega, rfl, rfl, rfl, heap_alloc_new w _, below_alloc w _⟩
  case round =>
    obtain ⟨k, S, hk, rfl, rfl, HS, hz, hbl⟩ := hrel
    have HZ := Lib.hid hz
    clear hz
    have hS : S.size ≤ 100 * k := by rw [HS.out]; exact rtx_size d k
    by_cases hlt : k < 6
    · have hx := (blk_cell HZ.out k).trans (arr6_get d k hlt)
      obtain ⟨b1, b2⟩ := HD.out k
      have HN : Hid (rtx d (k + 1) = (if k = 0 then rtx d k else rtx d k ++ ⟨#[58]⟩) ++ Go.Proofs.Ytekjmjipgndccaa.hx (d k / 16) ++ Go.Proofs.Ytekjmjipgndccaa.hx (d k % 16)) := rfl
      rw [← HS.out] at HN
      generalize d k = x at *
      have b3 : 0 ≤ x / 16 := by omega
      have b4 : x / 16 + 1 ≤ 16 := by omega
      have b5 : 0 ≤ x % 16 := by omega
      have b6 : x % 16 + 1 ≤ 16 := by omega
      by_cases h0 : k = 0
      · subst h0
        go_wp2
        go_quiet (fail)
        go_wp2
        go_roundw
        case rel => exact ⟨1, _, by omega, rfl, rfl, HN.out.symm, HZ.out, ⟨hbl.os, hbl.tape, hbl.output, hbl.size, hbl.block⟩⟩
        case measure => simp [intOf]
      · have h1 : 1 ≤ k := by omega
        rw [if_neg h0] at HN
        clear h0
        go_wp2
        go_quiet (fail)
        go_wp2
        go_roundw
        case rel => exact ⟨k + 1, _, by omega, by go_num, rfl, HN.out.symm, HZ.out, ⟨hbl.os, hbl.tape, hbl.output, hbl.size, hbl.block⟩⟩
        case measure => simp [intOf]; omega
    · obtain rfl : k = 6 := by omega
      have HE : Hid (R = S) := HR.out.trans HS.out.symm
      go_wp2
      go_ret
      exact ⟨by rw [HE.out]; rfl, hbl⟩
end Go.Proofs.Ytekjmjipgndccaa
