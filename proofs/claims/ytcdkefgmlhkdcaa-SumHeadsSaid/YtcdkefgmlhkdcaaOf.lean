/- Contracts of Of and of the page's examples. -/
import Derived.Test.YtcdkefgmlhkdcaaBytes
import Derived.Test.YtcdkefgmlhkdcaaAddE
import Derived.Test.YtcdkefgmlhkdcaaAddO
import Derived.Test.YtcdkefgmlhkdcaaAddN
import Derived.Test.YtcdkefgmlhkdcaaRAdd
namespace Go.Proofs.Ytcdkefgmlhkdcaa
open Go.RowKit

theorem Try.info5 : (Try.prog.info? 5).map (fun i => (i.zero, i.size, i.bytes)) = some (some (.int .u8 0), 1, 1) := by kernel_rfl

theorem add_any (s : Int) (o : Bool) (A : Option Addr) (n c : Nat) (f : Nat → Int) (hf : Byt f) (hn : n ≤ 4611686018427387900) (hcap : n ≤ c) (w : World) (ha : 0 ≤ s) (ha' : s ≤ 65535) (hr : Rd w w.heap.size A n f) :
    Calls Try.prog 10 #[.agg #[.int .u16 s, .bool o], .slice A n c] w fun e w' => e = .returned (.agg #[.int .u16 (fld f (s, o) n).1, .bool (fld f (s, o) n).2]) ∧ Below w.heap.size w w' := by
  rcases hr with rfl | ⟨b, off, rfl, hb, hc⟩
  · exact add_zero s o A c w
  · rcases Nat.eq_zero_or_pos n with rfl | h0
    · exact add_zero s o _ c w
    · cases o
      · exact add_even s b off n c f hf h0 (by omega) w ha ha' hb hc
      · rcases Nat.lt_or_ge 1 n with h1 | h1
        · obtain ⟨m, rfl⟩ : ∃ m, n = m + 1 := ⟨n - 1, by omega⟩
          exact add_odd s b off m c f hf (by omega) hcap (by omega) w ha ha' hb hc
        · obtain rfl : n = 1 := by omega
          exact add_one s (f 0) b off c hcap w ha ha' (hf 0).1 (hf 0).2 hb (hc 0 (by omega))
theorem radd_any (s : Int) (o : Bool) (A : Option Addr) (n c : Nat) (f : Nat → Int) (hf : Byt f) (hn : n ≤ 4611686018427387900) (w : World) (ha : 0 ≤ s) (ha' : s ≤ 65535) (hr : Rd w w.heap.size A n f) :
    Calls Try.prog 11 #[.agg #[.int .u16 s, .bool o], .slice A n c] w fun e w' => e = .returned (.agg #[.int .u16 (fld f (s, o) n).1, .bool (fld f (s, o) n).2]) ∧ Below w.heap.size w w' := by
  rcases hr with rfl | ⟨b, off, rfl, hb, hc⟩
  · exact radd_zero s o A c w
  · exact radd_some s o b off n c f hf (by omega) w ha ha' hb hc

/-- The checksum of n bytes. -/
def ofv (f : Nat → Int) (n : Nat) : Int := 65535 - (fld f (0, false) n).1
theorem ofv_bd {f : Nat → Int} (hf : Byt f) (n : Nat) : 0 ≤ ofv f n ∧ ofv f n ≤ 65535 := by
  have := fld_bd (p := (0, false)) hf ⟨by omega, by omega⟩ n
  unfold ofv; omega

set_option maxHeartbeats 400000 in
theorem of_any (A : Option Addr) (n c : Nat) (f : Nat → Int) (hf : Byt f) (hn : n ≤ 4611686018427387900) (hcap : n ≤ c) (w : World) (hr : Rd w w.heap.size A n f) :
    Calls Try.prog 8 #[.slice A n c] w fun e w' => e = .returned (.int .u16 (ofv f n)) ∧ Below w.heap.size w w' := by
  obtain ⟨hq, hq'⟩ := fld_bd (p := (0, false)) hf ⟨by omega, by omega⟩ n
  have HF := Lib.hid hf
  clear hf
  have HR := Lib.hid hr
  clear hr
  unfold ofv
  have HA := Lib.hid (add_any 0 false A n c f HF.out hn hcap w (by omega) (by omega) HR.out)
  generalize fld f (0, false) n = q at *
  go_enter Try.func8, Try.ntmps8
  go_wp2_with (first
    | (go_at_call 10; refine HA.out.mono ?_; rintro e w1 ⟨rfl, hb1⟩)
    | (go_at_call 12; refine (end_any q.1 q.2 _ hq hq').mono ?_; rintro e w2 ⟨rfl, hb2⟩))
  go_ret
  exact ⟨rfl, hb1.trans (hb2.mono hb1.size)⟩
set_option maxHeartbeats 400000 in
theorem rof_any (A : Option Addr) (n c : Nat) (f : Nat → Int) (hf : Byt f) (hn : n ≤ 4611686018427387900) (w : World) (hr : Rd w w.heap.size A n f) :
    Calls Try.prog 9 #[.slice A n c] w fun e w' => e = .returned (.int .u16 (ofv f n)) ∧ Below w.heap.size w w' := by
  obtain ⟨hq, hq'⟩ := fld_bd (p := (0, false)) hf ⟨by omega, by omega⟩ n
  have HF := Lib.hid hf
  clear hf
  have HR := Lib.hid hr
  clear hr
  unfold ofv
  have HA := Lib.hid (radd_any 0 false A n c f HF.out hn w (by omega) (by omega) HR.out)
  generalize fld f (0, false) n = q at *
  go_enter Try.func9, Try.ntmps9
  go_wp2_with (first
    | (go_at_call 11; refine HA.out.mono ?_; rintro e w1 ⟨rfl, hb1⟩)
    | (go_at_call 13; refine (rend_any q.1 q.2 _ hq hq').mono ?_; rintro e w2 ⟨rfl, hb2⟩))
  go_ret
  exact ⟨rfl, hb1.trans (hb2.mono hb1.size)⟩

/-- The page's example. -/
def ex (k : Nat) : Int := match k with
  | 1 => 1 | 2 => 242 | 3 => 3 | 4 => 244 | 5 => 245 | 6 => 246 | 7 => 247 | _ => 0
theorem ex_byt : Byt ex := by
  intro k
  unfold ex
  split <;> omega
theorem ex_of : ofv ex 8 = 8717 := by decide
theorem ex_nil : ofv ex 0 = 65535 := by decide
theorem ex_rd (w : World) : Rd (w.alloc (Obj.cells #[.int .u8 0, .int .u8 1, .int .u8 242, .int .u8 3, .int .u8 244, .int .u8 245, .int .u8 246, .int .u8 247] 5)) (w.heap.size + 1) (some ⟨w.heap.size, 0, none⟩) 8 ex := by
  refine .inr ⟨_, _, rfl, by omega, fun k hk => ?_⟩
  match k, hk with
  | 0, _ => go_simp; rfl
  | 1, _ => go_simp; rfl
  | 2, _ => go_simp; rfl
  | 3, _ => go_simp; rfl
  | 4, _ => go_simp; rfl
  | 5, _ => go_simp; rfl
  | 6, _ => go_simp; rfl
  | 7, _ => go_simp; rfl
set_option maxHeartbeats 400000 in
theorem known_any (w : World) : Calls Try.prog 7 #[] w fun e w' => e = .returned (.bool true) ∧ Below w.heap.size w w' := by
  go_enter Try.func7, Try.ntmps7
  go_wp2_with fail
  go_at_call 8
  refine (of_any none 0 0 ex ex_byt (by omega) (by omega) _ (.inl rfl)).mono ?_
  rw [ex_nil]
  rintro e w1 ⟨rfl, hb1⟩
  go_wp2_with fail
  go_at_call 8
  refine (of_any _ 8 8 ex ex_byt (by omega) (by omega) _ ((ex_rd w1).more (by simp))).mono ?_
  rw [ex_of]
  rintro e w2 ⟨rfl, hb2⟩
  go_wp2_with fail
  go_at_call 12
  refine (end_any 1 false _ (by omega) (by omega)).mono ?_
  rintro e w3 ⟨rfl, hb3⟩
  go_wp2_with fail
  go_ret
  refine ⟨rfl, ((hb1.alloc hb1.size _).trans (hb2.mono ?_)).trans (hb3.mono ?_)⟩
  · have := hb1.size; simp; omega
  · have := hb1.size; have := hb2.size; simp at this; omega
end Go.Proofs.Ytcdkefgmlhkdcaa
