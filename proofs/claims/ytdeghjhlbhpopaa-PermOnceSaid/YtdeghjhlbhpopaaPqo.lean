/- Stage 18: any string, as bytes; the laws over any string; how a permutation is opened. -/
import Derived.Test.YtdeghjhlbhpopaaPqm
import Derived.Test.YtdeghjhlbhpopaaStf
import Derived.Test.YtdeghjhlbhpopaaFlat
import Derived.Test.YtdeghjhlbhpopaaFacts
import Derived.ChangeMaps5
namespace Go.Proofs.Ytdeghjhlbhpopaa
set_option maxRecDepth 100000
open Go.RowKit Go.Shelf
set_option maxHeartbeats 1000000 in
theorem qtells_long {g : Nat} (HP : PeP g) (S : ByteArray) (hS : 200 < S.size) (m : Int) (p : Pe) (i s : Int) (w : World) : Calls Try.prog 3 #[.string S, .int .i64 m, .agg #[.int .i64 p.o, .int .i64 p.k, .int .i64 p.m], .int .i64 i, .int .i64 s] w (ret (.bool true) w) := by
  have HK := Lib.hid fun W => qknown_any HP W
  have HB0 : Hid (Below w.heap.size w (w.alloc (.cells #[.int .i64 p.o, .int .i64 p.k, .int .i64 p.m] 23))) := Lib.hid (below_alloc w _)
  have l1 : (200 : Int) < (S.size : Int) := by omega
  clear HP
  go_enter Try.func3, Try.ntmps3
  go_upto_region 1 with fail
  change Code.wp _ _ _ _ (w.alloc (.cells #[.int .i64 p.o, .int .i64 p.k, .int .i64 p.m] 23))
  generalize w.alloc (.cells #[.int .i64 p.o, .int .i64 p.k, .int .i64 p.m] 23) = u0 at *
  go_wp2_with (first
    | (go_at_call 5
       refine (HK.out _).mono ?_
       rintro e u1 ⟨rfl, hb⟩
       have HB1 := Lib.hid (HB0.out.trans (hb.mono HB0.out.size))
       clear hb))
  go_ret
  exact ⟨rfl, HB1.out⟩
theorem qtells_str {g : Nat} (HP : PeP g) (S : ByteArray) (m : Int) (p : Pe) (i s : Int) (hi0 : -9223372036854775808 ≤ i) (hi9 : i ≤ 9223372036854775807) (w : World) : Calls Try.prog 3 #[.string S, .int .i64 m, .agg #[.int .i64 p.o, .int .i64 p.k, .int .i64 p.m], .int .i64 i, .int .i64 s] w (ret (.bool true) w) := by
  by_cases h : 200 < S.size
  · exact qtells_long HP S h m p i s w
  · have q := qtells_any HP S.size (strF S) (strF_byt S) (by omega) m p i s hi0 hi9 w
    rw [strF_eq] at q
    exact q
theorem qonce_str {g : Nat} (HP : PeP g) (S : ByteArray) (m i : Int) (w : World) : Calls Try.prog 4 #[.string S, .int .i64 m, .int .i64 i] w (ret (.bool true) w) := by
  by_cases h : 200 < S.size
  · exact qonce_out HP S m i (.inl h) w
  · have q := qonce_any HP S.size (strF S) (strF_byt S) (by omega) m i w
    rw [strF_eq] at q
    exact q
section
open Go.ChangeShapes Go.WideShapes Go.ChangeAt
theorem open_perm {H : Type} {enc : TypeId × Value → H} {W : World} {r : Reach} {b0 : Nat} {v : Value} {d : DataW H} {p : List MemPlace} (hv : Value.okWide Try.prog W r b0 23 v) (h : DataW.Trod enc Try.prog W 0 (fun _ => true) true 23 v d p) :
    ∃ (a b c : Int), v = .agg #[.int .i64 a, .int .i64 b, .int .i64 c] := by
  obtain ⟨cs, rfl, hsz, hc⟩ := open_flat (n := 9) (ks := [.num .i64, .num .i64, .num .i64]) Try.underlying23 (by kernel_rfl) hv h
  obtain ⟨_, h0, x0, rfl, k0⟩ := hc 0 _ rfl
  obtain ⟨_, h1, x1, rfl, k1⟩ := hc 1 _ rfl
  obtain ⟨_, h2, x2, rfl, k2⟩ := hc 2 _ rfl
  refine ⟨x0, x1, x2, ?_⟩
  congr 1
  refine Array.ext (by rw [hsz]; rfl) fun j hj _ => ?_
  rw [hsz] at hj
  have hj : j < 3 := hj
  rcases (show j = 0 ∨ j = 1 ∨ j = 2 by omega) with rfl | rfl | rfl
  · rw [Array.getElem?_eq_getElem (by omega)] at h0
    injection h0
  · rw [Array.getElem?_eq_getElem (by omega)] at h1
    injection h1
  · rw [Array.getElem?_eq_getElem (by omega)] at h2
    injection h2
end
end Go.Proofs.Ytdeghjhlbhpopaa
