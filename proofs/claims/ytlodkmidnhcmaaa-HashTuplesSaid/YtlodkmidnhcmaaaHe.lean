/- Stage 12: HashBytes. -/
import Derived.Test.YtlodkmidnhcmaaaHd
namespace Go.Proofs.Ytlodkmidnhcmaaa
set_option maxRecDepth 100000
open Go.RowKit Go.Shelf
theorem hbytes_long (H : HashP) (sd : Int) (A : Option Addr) (n c : Nat) (w : World) (hn : 1000 < n) : Calls Try.prog 3 #[.int .u64 sd, .slice A n c] w (ret (.bool true) w) := by
  have HK := Lib.hid (known_any H)
  have h1 : (1000 : Int) < (n : Int) := by omega
  clear H
  go_enter Try.func3, Try.ntmps3
  go_wp2_with (first
    | (go_at_call 6
       refine (HK.out _).mono ?_
       rintro e v1 ⟨rfl, hb1⟩
       have HB1 := Lib.hid hb1
       clear hb1 HK))
  go_ret
  exact ⟨rfl, HB1.out⟩
set_option maxHeartbeats 1000000 in
theorem hbytes_any (H : HashP) (s : Nat) (hs : s < 18446744073709551616) (A : Option Addr) (n c : Nat) (f : Nat → Int) (hf : Byt f) (hn : n ≤ 1000) (_hcap : n ≤ c) (_hc9 : c ≤ 9223372036854775807) (w : World) (hr : Rd w w.heap.size A n f) : Calls Try.prog 3 #[.int .u64 (s : Int), .slice A n c] w (ret (.bool true) w) := by
  have HP := Lib.hid H
  have HK := Lib.hid (known_any H)
  obtain ⟨i0, hi0, hz0, hz1, hz2⟩ := info_parts Try.info5
  have h1 : ¬ (1000 : Int) < (n : Int) := by omega
  have HF := Lib.hid hf
  have HR := Lib.hid hr
  have HI0 := Lib.hid hi0
  have HZ0 := Lib.hid hz0
  have HZ1 := Lib.hid hz1
  have HZ2 := Lib.hid hz2
  have L1 := fnv_lt (nb f) n
  clear hi0 hz0 hz1 hz2 H hf hr
  go_enter Try.func3, Try.ntmps3
  go_wp2_with (at_builtin; refine wpList_append_rd rfl (.tmp 10) (.tmp 11) _ rfl w.heap.size 5 i0 Try.underlying23 HI0.out HZ0.out HZ1.out HZ2.out (n := 0) (f := f) rfl (Own.fresh _ _ _ rfl (Nat.le_refl _) 5 f) rfl (HR.out.keep (below_alloc w _)) (by omega) (alloc_le w _) ?_; intro A1 c1 w1 hown1 hg1 _)
  have hb1 : Below w.heap.size w w1 := (below_alloc w _).grown hg1 (alloc_le w _) (by intro k hk; simp [Value.ownBlock] at hk; omega)
  have HR1 : Hid (Rd w1 w1.heap.size A n f) := Lib.hid ((HR.out.keep hb1).more hb1.size)
  have hc1 := hown1.cap
  have hc2 := hown1.cap_le
  rw [Nat.zero_add] at hc1
  have HI1 : Hid (Rd w1 w1.heap.size A1 n f) := Lib.hid (by
    have e := hown1.rd.same (g := f) (by intro k _; simp [cat])
    rw [Nat.zero_add] at e
    exact e)
  have hv1 : ∀ W : Stay w1, (convert 23 9 (.slice A1 n c1)).run Try.prog W.w = .ok (.string (strOfNums (nums n f))) W.w := fun W => run_convert_rd (Stay.rd HI1.out W) 23 5 9 c1 Try.underlying23 Try.underlying5 Try.underlying9
  have hv : ∀ W : Stay w1, (convert 23 9 (.slice A n c)).run Try.prog W.w = .ok (.string (strOfNums (nums n f))) W.w := fun W => run_convert_rd (Stay.rd HR1.out W) 23 5 9 c Try.underlying23 Try.underlying5 Try.underlying9
  have hc3 : c1 ≤ 9223372036854775807 := by omega
  have HM : Hid (n ≤ 4611686018427387904) := Lib.hid (by omega)
  have C1 : Hid (∀ W : Stay w1, Calls Try.prog 7 #[.slice A1 n c1] W.w (ret (.int .u64 ((fnvN (nb f) n : Nat) : Int)) W.w)) := Lib.hid fun W => HP.out.fnv A1 n c1 f HF.out HM.out hc1 hc3 W.w (Stay.rd HI1.out W)
  have C2 : Hid (∀ W : Stay w1, Calls Try.prog 8 #[.slice A n c] W.w (ret (.int .u64 ((fnvN (nb f) n : Nat) : Int)) W.w)) := Lib.hid fun W => rfnv_any A n c f HF.out HM.out W.w (Stay.rd HR1.out W)
  have C3 : Hid (∀ W : Stay w1, Calls Try.prog 9 #[.int .u64 (s : Int)] W.w (ret (.int .u64 ((mixN s : Nat) : Int)) W.w)) := Lib.hid fun W => HP.out.mix s hs W.w
  have C4 : Hid (∀ W : Stay w1, Calls Try.prog 10 #[.int .u64 (s : Int)] W.w (ret (.int .u64 ((mixN s : Nat) : Int)) W.w)) := Lib.hid fun W => rmix_any s hs W.w
  have C5 : Hid (∀ W : Stay w1, Calls Try.prog 11 #[.int .u64 (s : Int), .slice A1 n c1] W.w (ret (.int .u64 ((seedN s (nb f) n : Nat) : Int)) W.w)) := Lib.hid fun W => HP.out.seeded s hs A1 n c1 f HF.out HM.out hc1 hc3 W.w (Stay.rd HI1.out W)
  have C6 : Hid (∀ W : Stay w1, Calls Try.prog 12 #[.int .u64 (s : Int), .slice A n c] W.w (ret (.int .u64 ((seedN s (nb f) n : Nat) : Int)) W.w)) := Lib.hid fun W => rseeded_any s hs A n c f HF.out HM.out W.w (Stay.rd HR1.out W)
  have C7 : Hid (∀ W : Stay w1, Calls Try.prog 13 #[.int .u64 (s : Int), .string (strOfNums (nums n f))] W.w (ret (.int .u64 ((seedN s (nb f) n : Nat) : Int)) W.w)) := Lib.hid fun W => HP.out.name s hs n f HF.out HM.out W.w
  have C8 : Hid (∀ W : Stay w1, Calls Try.prog 14 #[.int .u64 (s : Int), .string (strOfNums (nums n f))] W.w (ret (.int .u64 ((seedN s (nb f) n : Nat) : Int)) W.w)) := Lib.hid fun W => rname_any s hs n f HF.out HM.out W.w
  have HB1 := Lib.hid hb1
  obtain ⟨a, ha⟩ : ∃ a, a = fnvN (nb f) n := ⟨_, rfl⟩
  obtain ⟨b, hb⟩ : ∃ b, b = mixN s := ⟨_, rfl⟩
  obtain ⟨d, hd⟩ : ∃ d, d = seedN s (nb f) n := ⟨_, rfl⟩
  obtain ⟨S, hS⟩ : ∃ S, S = strOfNums (nums n f) := ⟨_, rfl⟩
  rw [← ha] at C1 C2
  rw [← hb] at C3 C4
  rw [← hd] at C5 C6 C7 C8
  rw [← hS] at C7 C8 hv hv1
  clear hown1 hg1 hb1 ha hb hd hS HI1 HR1 HR HP L1
  refine wp_region_stay (by kernel_rfl) (by kernel_rfl) ?_
  repeat (go_big_quiet_step (first
    | (go_at_call 7; exact Calls.stay _ (C1.out _))
    | (go_at_call 8; exact Calls.stay _ (C2.out _))
    | (go_at_call 9; exact Calls.stay _ (C3.out _))
    | (go_at_call 10; exact Calls.stay _ (C4.out _))
    | (go_at_call 11; exact Calls.stay _ (C5.out _))
    | (go_at_call 12; exact Calls.stay _ (C6.out _))
    | (go_at_call 13; exact Calls.stay _ (C7.out _))
    | (go_at_call 14; exact Calls.stay _ (C8.out _))
    | (go_at_call 6; exact Calls.stay _ (HK.out _))))
  refine wpQuiet_nil ?_
  intro w' hw'
  obtain ⟨W, rfl⟩ := hw'
  have hb2 := W.below
  go_wp2_with fail
  go_ret
  exact ⟨rfl, below_then HB1.out hb2⟩
end Go.Proofs.Ytlodkmidnhcmaaa
