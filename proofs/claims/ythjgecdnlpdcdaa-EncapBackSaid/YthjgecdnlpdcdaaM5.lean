import Derived.Test.YthjgecdnlpdcdaaRows
import Derived.KernelRfl
import Derived.Test.YthjgecdnlpdcdaaM0
import Derived.Test.YthjgecdnlpdcdaaM2
import Derived.Test.YthjgecdnlpdcdaaM3
import Derived.Test.YthjgecdnlpdcdaaM4
import Derived.Test.YthjgecdnlpdcdaaM1
/- A byte's type in this program: it is 0 at first, one cell, one byte. -/
namespace Go.Proofs.Ythjgecdnlpdcdaa
set_option maxRecDepth 100000
theorem Try.info5 : (Try.prog.info? 5).map (fun i => (i.zero, i.size, i.bytes)) = some (some (.int .u8 0), 1, 1) := by kernel_rfl
end Go.Proofs.Ythjgecdnlpdcdaa
/- Contracts of Of and of the page's examples. -/
namespace Go.Proofs.Ythjgecdnlpdcdaa
set_option maxRecDepth 100000
open Go.RowKit
theorem add_any (s : Int) (o : Bool) (A : Option Addr) (n c : Nat) (f : Nat → Int) (hf : Byt f) (hn : n ≤ 4611686018427387900) (hcap : n ≤ c) (w : World) (ha : 0 ≤ s) (ha' : s ≤ 65535) (hr : Rd w w.heap.size A n f) :
    Calls Try.prog 34 #[.agg #[.int .u16 s, .bool o], .slice A n c] w fun e w' => e = .returned (.agg #[.int .u16 (fld f (s, o) n).1, .bool (fld f (s, o) n).2]) ∧ Below w.heap.size w w' := by
  rcases hr with rfl | ⟨b, off, rfl, hb, hc⟩
  · exact add_zero s o A c w
  · rcases Nat.eq_zero_or_pos n with rfl | h0
    · exact add_zero s o _ c w
    · cases o
      · exact add_even s b off n c f hf h0 (by omega) w ha ha' hb hc
      · rcases Nat.lt_or_ge 1 n with h1 | h1
        · obtain ⟨m, rfl⟩ : ∃ m, n = m + 1 := ⟨n - 1, by omega⟩
          exact add_odd s b off m c f hf (by omega) hcap (by omega) w ha ha' hb hc
        · obtain rfl : n = 1 := by omega
          exact add_one s (f 0) b off c hcap w ha ha' (hf 0).1 (hf 0).2 hb (hc 0 (by omega))
/-- The checksum of n bytes. -/
def ofv (f : Nat → Int) (n : Nat) : Int := 65535 - (fld f (0, false) n).1
theorem ofv_bd {f : Nat → Int} (hf : Byt f) (n : Nat) : 0 ≤ ofv f n ∧ ofv f n ≤ 65535 := by
  have := fld_bd (p := (0, false)) hf ⟨by omega, by omega⟩ n
  unfold ofv; omega
end Go.Proofs.Ythjgecdnlpdcdaa
/- Sums of bytes, cut, padded, with their checksum behind (pure). -/
namespace Go.Proofs.Ythjgecdnlpdcdaa
open Go.RowKit
theorem fld_same {f g : Nat → Int} (p : Int × Bool) : ∀ n, (∀ k, k < n → g k = f k) → fld g p n = fld f p n
  | 0, _ => rfl
  | n + 1, h => by
    show stp (fld g p n) (g n) = stp (fld f p n) (f n)
    rw [fld_same p n (fun k hk => h k (by omega)), h n (by omega)]
theorem cat_byt {f g : Nat → Int} (n : Nat) (hf : Byt f) (hg : Byt g) : Byt (cat n f g) := fun k => by
  unfold cat
  split
  · exact hf k
  · exact hg (k - n)
end Go.Proofs.Ythjgecdnlpdcdaa
