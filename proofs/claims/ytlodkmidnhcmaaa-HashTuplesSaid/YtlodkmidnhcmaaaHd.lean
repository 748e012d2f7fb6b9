/- Stage 12: what the laws ask of the program's functions; the page's examples; HashOne. -/
import Derived.Test.YtlodkmidnhcmaaaHc
import Derived.Lib.SlBytesConst
namespace Go.Proofs.Ytlodkmidnhcmaaa
set_option maxRecDepth 100000
open Go.RowKit Go.Shelf
/-- What the program's hashes of bytes and numbers answer. -/
structure HashP : Prop where
  fnv : ∀ (A : Option Addr) (m c : Nat) (f : Nat → Int), Byt f → m ≤ 4611686018427387904 → m ≤ c → c ≤ 9223372036854775807 → ∀ w : World, Rd w w.heap.size A m f → Calls Try.prog 7 #[.slice A m c] w (ret (.int .u64 ((fnvN (nb f) m : Nat) : Int)) w)
  mix : ∀ n : Nat, n < 18446744073709551616 → ∀ w : World, Calls Try.prog 9 #[.int .u64 (n : Int)] w (ret (.int .u64 ((mixN n : Nat) : Int)) w)
  seeded : ∀ s : Nat, s < 18446744073709551616 → ∀ (A : Option Addr) (m c : Nat) (f : Nat → Int), Byt f → m ≤ 4611686018427387904 → m ≤ c → c ≤ 9223372036854775807 → ∀ w : World, Rd w w.heap.size A m f → Calls Try.prog 11 #[.int .u64 (s : Int), .slice A m c] w (ret (.int .u64 ((seedN s (nb f) m : Nat) : Int)) w)
  name : ∀ s : Nat, s < 18446744073709551616 → ∀ (n : Nat) (f : Nat → Int), Byt f → n ≤ 4611686018427387904 → ∀ w : World, Calls Try.prog 13 #[.int .u64 (s : Int), .string (strOfNums (nums n f))] w (ret (.int .u64 ((seedN s (nb f) n : Nat) : Int)) w)
theorem byt_const {x : Int} (h0 : 0 ≤ x) (h1 : x ≤ 255) : Byt fun _ => x := fun _ => ⟨h0, h1⟩
theorem fnv_a : fnvN (nb fun _ => 97) 1 = 12638187200555641996 := by decide
theorem mix_0 : mixN 0 = 0 := by decide
theorem rd_one (W : World) (e : TypeId) (x : Int) (fr : Nat × Nat) : Rd (W.alloc (.cells #[.int .u8 x] e fr)) (W.alloc (.cells #[.int .u8 x] e fr)).heap.size (some ⟨W.heap.size, 0, none⟩) 1 (fun _ => x) := .inr ⟨W.heap.size, 0, rfl, by simp, fun k hk => by
  obtain rfl : k = 0 := by omega
  exact cell_of_row _ W.heap.size 0 _ e fr (heap_alloc_new W _)⟩
theorem known_any (H : HashP) (w : World) : Calls Try.prog 6 #[] w (ret (.bool true) w) := by
  have H1 : Hid (∀ W, Calls Try.prog 7 #[.slice none 0 0] W (ret (.int .u64 14695981039346656037) W)) := Lib.hid fun W => H.fnv none 0 0 (fun _ => 0) (byt_const (by decide) (by decide)) (by decide) (by decide) (by decide) W (.inl rfl)
  have H2 : Hid (∀ W : World, Calls Try.prog 7 #[.slice (some ⟨W.heap.size, 0, none⟩) 1 1] (W.alloc (.cells #[.int .u8 97] 5 (1, 2))) (ret (.int .u64 12638187200555641996) (W.alloc (.cells #[.int .u8 97] 5 (1, 2))))) := Lib.hid fun W => by
    have h := H.fnv (some ⟨W.heap.size, 0, none⟩) 1 1 (fun _ => 97) (byt_const (by decide) (by decide)) (by decide) (by decide) (by decide) (W.alloc (.cells #[.int .u8 97] 5 (1, 2))) (rd_one W _ 97 _)
    rw [fnv_a] at h
    exact h
  have H3 : Hid (∀ W, Calls Try.prog 9 #[.int .u64 0] W (ret (.int .u64 0) W)) := Lib.hid fun W => by
    have h := H.mix 0 (by decide) W
    rw [mix_0] at h
    exact h
  have hcv : ∀ W : World, (convert 23 23 (.slice (some ⟨W.heap.size, 0, none⟩) 1 1)).run Try.prog (W.alloc (.cells #[.int .u8 97] 5)) = .ok (.slice (some ⟨W.heap.size, 0, none⟩) 1 1) (W.alloc (.cells #[.int .u8 97] 5 (1, 2))) := fun W => Go.Lib.run_convert_bytes_const W 23 5 #[.int .u8 97] 1 1 Try.underlying23 Try.underlying5
  clear H
  go_enter Try.func6, Try.ntmps6
  go_wp2_with (first
    | (go_at_call 7
       refine (H1.out _).mono ?_
       rintro e v1 ⟨rfl, hb1⟩
       have HB1 := Lib.hid hb1
       clear hb1 H1)
    | (go_at_call 7
       refine (H2.out _).mono ?_
       rintro e v2 ⟨rfl, hb2⟩
       have HB2 := Lib.hid ((HB1.out.alloc HB1.out.size _).trans (hb2.mono (HB1.out.alloc HB1.out.size (.cells #[.int .u8 97] 5 (1, 2))).size))
       clear hb2 HB1 H2)
    | (go_at_call 9
       refine (H3.out _).mono ?_
       rintro e v3 ⟨rfl, hb3⟩
       have HB3 := Lib.hid (HB2.out.trans (hb3.mono HB2.out.size))
       clear hb3 HB2 H3))
  go_ret
  exact ⟨rfl, HB3.out⟩
theorem one_any (H : HashP) (n m : Nat) (hn : n < 18446744073709551616) (hm : m < 18446744073709551616) (w : World) : Calls Try.prog 5 #[.int .u64 (n : Int), .int .u64 (m : Int)] w (ret (.bool true) w) := by
  have HK := Lib.hid (known_any H)
  have h1 := fun W => H.mix n hn W
  have l1 := mix_lt n
  have h2 := fun W => H.mix m hm W
  have hb := fun W => back_any (mixN n) l1 W
  rw [back_mix hn] at hb
  have he : ((mixN n : Int) == (mixN m : Int)) = ((n : Int) == (m : Int)) := by
    have h9 := mix_one hn hm
    rw [Bool.eq_iff_iff, beq_iff_eq, beq_iff_eq] at h9 ⊢
    omega
  obtain ⟨a, ha⟩ : ∃ a, a = mixN n := ⟨_, rfl⟩
  obtain ⟨b, hbb⟩ : ∃ b, b = mixN m := ⟨_, rfl⟩
  rw [← ha] at h1 hb he
  rw [← hbb] at h2 he
  have H1 := Lib.hid h1
  have H2 := Lib.hid h2
  have HB := Lib.hid hb
  have HE : Hid (((a : Int) == (b : Int)) = ((n : Int) == (m : Int))) := Lib.hid he
  clear h1 h2 hb ha hbb H l1 he
  have he2 : ((a : Int) = (b : Int)) ↔ ((n : Int) = (m : Int)) := by
    have h9 := HE.out
    rw [Bool.eq_iff_iff, beq_iff_eq, beq_iff_eq] at h9
    exact h9
  by_cases hnm : (n : Int) = (m : Int)
  · have hab : (a : Int) = (b : Int) := he2.2 hnm
    obtain rfl : n = m := by omega
    obtain rfl : a = b := by omega
    clear HE he2 hnm hab
    go_enter Try.func5, Try.ntmps5
    go_wp2_with (first
      | (go_at_call 9
         refine (H1.out _).mono ?_
         rintro e v1 ⟨rfl, hb1⟩
         first
           | (have HB3 := Lib.hid (HB2.out.trans (hb1.mono HB2.out.size)); clear HB2)
           | (have HB4 := Lib.hid (HB3.out.trans (hb1.mono HB3.out.size)); clear HB3)
           | have HB1 := Lib.hid hb1
         clear hb1)
      | (go_at_call 19
         refine (HB.out _).mono ?_
         rintro e v2 ⟨rfl, hb2⟩
         have HB2 := Lib.hid (HB1.out.trans (hb2.mono HB1.out.size))
         clear hb2 HB1)
      | (go_at_call 6
         refine (HK.out _).mono ?_
         rintro e v3 ⟨rfl, hb3⟩
         have HB5 := Lib.hid (HB4.out.trans (hb3.mono HB4.out.size))
         clear hb3 HB4))
    go_ret
    exact ⟨rfl, HB5.out⟩
  · have hab : ¬ (a : Int) = (b : Int) := fun h => hnm (he2.1 h)
    have b1 : ((n : Int) == (m : Int)) = false := by simpa using hnm
    have b2 : ((a : Int) == (b : Int)) = false := by simpa using hab
    clear HE he2 hnm hab
    go_enter Try.func5, Try.ntmps5
    go_wp2_with (first
      | (go_at_call 9
         refine (H1.out _).mono ?_
         rintro e v1 ⟨rfl, hb1⟩
         first
           | (have HB3 := Lib.hid (HB2.out.trans (hb1.mono HB2.out.size)); clear HB2 H1)
           | have HB1 := Lib.hid hb1
         clear hb1)
      | (go_at_call 9
         refine (H2.out _).mono ?_
         rintro e v4 ⟨rfl, hb1⟩
         have HB4 := Lib.hid (HB3.out.trans (hb1.mono HB3.out.size))
         clear hb1 HB3)
      | (go_at_call 19
         refine (HB.out _).mono ?_
         rintro e v2 ⟨rfl, hb2⟩
         have HB2 := Lib.hid (HB1.out.trans (hb2.mono HB1.out.size))
         clear hb2 HB1)
      | (go_at_call 6
         refine (HK.out _).mono ?_
         rintro e v3 ⟨rfl, hb3⟩
         have HB5 := Lib.hid (HB4.out.trans (hb3.mono HB4.out.size))
         clear hb3 HB4))
    go_ret
    exact ⟨rfl, HB5.out⟩
end Go.Proofs.Ytlodkmidnhcmaaa
