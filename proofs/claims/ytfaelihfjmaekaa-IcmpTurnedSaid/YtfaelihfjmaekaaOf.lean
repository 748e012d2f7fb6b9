/- Contracts of Of and of the page's examples. -/
import Derived.Test.YtfaelihfjmaekaaBytes
import Derived.Test.YtfaelihfjmaekaaAddE
import Derived.Test.YtfaelihfjmaekaaAddO
import Derived.Test.YtfaelihfjmaekaaAddN
import Derived.Test.YtfaelihfjmaekaaRAdd
import Derived.Test.YtfaelihfjmaekaaInfo
namespace Go.Proofs.Ytfaelihfjmaekaa
open Go.RowKit

theorem add_any (s : Int) (o : Bool) (A : Option Addr) (n c : Nat) (f : Nat → Int) (hf : Byt f) (hn : n ≤ 4611686018427387900) (hcap : n ≤ c) (w : World) (ha : 0 ≤ s) (ha' : s ≤ 65535) (hr : Rd w w.heap.size A n f) :
    Calls Try.prog 30 #[.agg #[.int .u16 s, .bool o], .slice A n c] w fun e w' => e = .returned (.agg #[.int .u16 (fld f (s, o) n).1, .bool (fld f (s, o) n).2]) ∧ Below w.heap.size w w' := by
  rcases hr with rfl | ⟨b, off, rfl, hb, hc⟩
  · exact add_zero s o A c w
  · rcases Nat.eq_zero_or_pos n with rfl | h0
    · exact add_zero s o _ c w
    · cases o
      · exact add_even s b off n c f hf h0 (by omega) w ha ha' hb hc
      · rcases Nat.lt_or_ge 1 n with h1 | h1
        · obtain ⟨m, rfl⟩ : ∃ m, n = m + 1 := ⟨n - 1, by omega⟩
          exact add_odd s b off m c f hf (by omega) hcap (by omega) w ha ha' hb hc
        · obtain rfl : n = 1 := by omega
          exact add_one s (f 0) b off c hcap w ha ha' (hf 0).1 (hf 0).2 hb (hc 0 (by omega))
theorem radd_any (s : Int) (o : Bool) (A : Option Addr) (n c : Nat) (f : Nat → Int) (hf : Byt f) (hn : n ≤ 4611686018427387900) (w : World) (ha : 0 ≤ s) (ha' : s ≤ 65535) (hr : Rd w w.heap.size A n f) :
    Calls Try.prog 44 #[.agg #[.int .u16 s, .bool o], .slice A n c] w fun e w' => e = .returned (.agg #[.int .u16 (fld f (s, o) n).1, .bool (fld f (s, o) n).2]) ∧ Below w.heap.size w w' := by
  rcases hr with rfl | ⟨b, off, rfl, hb, hc⟩
  · exact radd_zero s o A c w
  · exact radd_some s o b off n c f hf (by omega) w ha ha' hb hc

/-- The checksum of n bytes. -/
def ofv (f : Nat → Int) (n : Nat) : Int := 65535 - (fld f (0, false) n).1
theorem ofv_bd {f : Nat → Int} (hf : Byt f) (n : Nat) : 0 ≤ ofv f n ∧ ofv f n ≤ 65535 := by
  have := fld_bd (p := (0, false)) hf ⟨by omega, by omega⟩ n
  unfold ofv; omega

end Go.Proofs.Ytfaelihfjmaekaa
