/- The small functions that the program's ether.Parse calls: a byte off a text's head, and the digit that it is. -/
import Derived.Test.YtekjmjipgndccaaRParse
import Derived.Lib.Bytealg
import Derived.BigCall
import Derived.OneCell
namespace Go.Proofs.Ytekjmjipgndccaa
open Go.RowKit
/-- A digit of the base 16; -1: it is none. -/
def dgv (c : Int) : Int := if dig c ≤ 15 then dig c else -1
theorem idx_sixteen (c : Int) (h0 : 0 ≤ c) (h1 : c ≤ 255) : Lib.indexByte [48, 49, 50, 51, 52, 53, 54, 55, 56, 57, 97, 98, 99, 100, 101, 102] c.toNat.toUInt8 = dgv c := by
  have h : ∀ n : Nat, n < 256 → Lib.indexByte [48, 49, 50, 51, 52, 53, 54, 55, 56, 57, 97, 98, 99, 100, 101, 102] n.toUInt8 = dgv n := by
    have e : (List.range 256).all (fun n => Lib.indexByte [48, 49, 50, 51, 52, 53, 54, 55, 56, 57, 97, 98, 99, 100, 101, 102] n.toUInt8 == dgv n) = true := by kernel_rfl
    intro n hn
    have := List.all_eq_true.1 e n (by simpa using hn)
    simpa using this
  obtain ⟨n, rfl⟩ := Int.eq_ofNat_of_zero_le h0
  exact h n (by omega)
theorem index21 (s : ByteArray) (c : Int) (w : World) : Calls Try.prog 21 #[.string s, .int .u8 c] w fun e w' => e = .returned (.int .i64 (Lib.indexByte s.data.toList c.toNat.toUInt8)) ∧ w' = w := by
  go_enter Try.func21, Try.ntmps21
  go_wp2
  rw [run_callFunc_extern Try.func22 (by kernel_rfl) (by kernel_rfl) (by kernel_rfl) (e := Extern.BytealgIndexByte.indexByte) (by kernel_rfl), Lib.run_indexByteString]
  simp only [Result.andThen]
  rw [Oper.upon_value]
  go_wp2
  go_ret
  exact ⟨rfl, rfl⟩
theorem index19 (s : ByteArray) (c : Int) (w : World) : Calls Try.prog 19 #[.string s, .int .u8 c] w fun e w' => e = .returned (.int .i64 (Lib.indexByte s.data.toList c.toNat.toUInt8)) ∧ w' = w := by
  have H := Lib.hid (index21 s c w)
  go_enter Try.func19, Try.ntmps19
  go_wp2_with (go_at_call 21; refine H.out.mono ?_; rintro e w2 ⟨rfl, rfl⟩)
  go_ret
  exact ⟨rfl, rfl⟩
/-- What is left of a text behind its first j bytes. -/
def Rest (s : ByteArray) (j : Nat) (S : ByteArray) : Prop := S.size + j = s.size ∧ ∀ i, chr S i = chr s (j + i)
theorem rest_here (s : ByteArray) : Rest s 0 s := ⟨rfl, fun i => by rw [Nat.zero_add]⟩
theorem rest_next {s S : ByteArray} {j : Nat} (h : Rest s j S) (hj : j < s.size) : Rest s (j + 1) (S.extract 1 S.size) := by
  obtain ⟨h1, h2⟩ := h
  refine ⟨by rw [ByteArray.size_extract]; omega, fun i => ?_⟩
  have e := h2 (1 + i)
  rw [Nat.add_assoc, ← e]
  unfold chr
  have q : ((S.extract 1 S.size).data.toList.getD i 0) = (S.data.toList.getD (1 + i) 0) := by
    have z : S.data.size = S.size := rfl
    rw [List.getD_eq_getElem?_getD, List.getD_eq_getElem?_getD, Array.getElem?_toList, Array.getElem?_toList, ByteArray.data_extract, Array.getElem?_extract]
    split
    · rfl
    · rw [Array.getElem?_eq_none (by omega)]
  rw [q]
theorem rest_size {s S : ByteArray} {j : Nat} (h : Rest s j S) : S.size + j = s.size := h.1
theorem rest_chr {s S : ByteArray} {j : Nat} (h : Rest s j S) : chr S 0 = chr s j := h.2 0
set_option maxHeartbeats 400000 in
theorem cut_any (b : Nat) (S : ByteArray) (h0 : 0 < S.size) (h1 : S.size ≤ 100) (w : World) (hb : w.heap[b]? = some (.cells #[.string S] 9 (0, 0))) :
    Calls Try.prog 17 #[.pointer (some ⟨b, 0, none⟩)] w fun e w' => e = .returned (.int .u8 (chr S 0)) ∧ w' = w.setCell ⟨b, 0, none⟩ (.string (S.extract 1 S.size)) := by
  have hc := blk_cell hb 0
  have hf := blk_free hb 0
  have hg := chr_get S 0 h0
  simp at hc
  clear hb
  go_enter Try.func17, Try.ntmps17
  go_wp2
  go_ret
  exact ⟨rfl, rfl⟩
set_option maxHeartbeats 400000 in
theorem digit_any (b4 b : Nat) (S : ByteArray) (h0 : 0 < S.size) (h1 : S.size ≤ 100) (w : World) (hb : w.heap[b]? = some (.cells #[.string S] 9 (0, 0))) (hb4 : w.heap[b4]? = some (.cells #[.func (.func 17) #[] #[.pointer (some ⟨b, 0, none⟩)]] 42 (0, 0))) :
    Calls Try.prog 18 #[.pointer (some ⟨b4, 0, none⟩)] w fun e w' => e = .returned (.int .i64 (dgv (chr S 0))) ∧ w' = w.setCell ⟨b, 0, none⟩ (.string (S.extract 1 S.size)) := by
  have hc4 := blk_cell hb4 0
  simp at hc4
  have H := Lib.hid (cut_any b S h0 h1 w hb)
  have HI : Hid (∀ W, Calls Try.prog 19 #[.string ⟨#[48, 49, 50, 51, 52, 53, 54, 55, 56, 57, 97, 98, 99, 100, 101, 102]⟩, .int .u8 (chr S 0)] W fun e w' => e = .returned (.int .i64 (dgv (chr S 0))) ∧ w' = W) := fun W => by
    have e := index19 ⟨#[48, 49, 50, 51, 52, 53, 54, 55, 56, 57, 97, 98, 99, 100, 101, 102]⟩ (chr S 0) W
    rw [idx_sixteen _ (chr_bd S 0).1 (chr_bd S 0).2] at e
    exact e
  clear hb hb4
  go_enter Try.func18, Try.ntmps18
  go_wp2_with fail
  go_at_call 17
  refine H.out.mono ?_
  rintro e w2 ⟨rfl, rfl⟩
  go_wp2_with fail
  go_at_call 19
  refine (HI.out _).mono ?_
  rintro e w3 ⟨rfl, rfl⟩
  go_wp2
  go_ret
  exact ⟨rfl, rfl⟩
end Go.Proofs.Ytekjmjipgndccaa
