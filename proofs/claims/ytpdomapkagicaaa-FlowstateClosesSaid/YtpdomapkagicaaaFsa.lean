/- Stage 15: states of flows in pure words; what is asked of the program. -/
import Derived.Test.YtpdomapkagicaaaQg
namespace Go.Proofs.Ytpdomapkagicaaa
set_option maxRecDepth 100000
open Go.RowKit Go.Shelf
/-- Is a flag set? -/
def hasF (f b : Nat) : Bool := f / b % 2 == 1
def mayFl (f : Nat) : Bool := !(hasF f 2 && hasF f 1) && !(hasF f 2 && hasF f 4) && (hasF f 2 || hasF f 1 || hasF f 4 || hasF f 16)
/-- The state of a flow that begins. -/
def fsF (p f : Nat) : Nat × Bool := if p = 17 then (1, true) else if p ≠ 6 then (0, false) else if mayFl f = false then (0, false) else if hasF f 4 then (0, false) else if hasF f 1 then (4, true) else if hasF f 2 then (2, true) else (3, true)
/-- What a packet does, and the state behind. -/
def fsN (s f : Nat) : Nat × Nat × Int :=
  if s = 1 then (1, 1, 0) else if s < 1 ∨ 4 < s then (0, 0, 2) else if mayFl f = false then (0, 0, 2)
  else if (s == 4 && hasF f 2 && !hasF f 16) = true then (3, 2, 0) else if hasF f 4 then (2, s, 0) else if hasF f 1 then (1, 4, 0) else if (s == 2 && hasF f 16 && !hasF f 2) = true then (1, 3, 0) else (1, s, 0)
def fsM (s : Nat) : Bool := decide (1 ≤ s) && decide (s ≤ 4)
def fsT1 (x : Nat) : Bool := decide (1 ≤ x) && decide (x ≤ 1048576)
def fsT (a b c d : Nat) : Bool := fsT1 a && (fsT1 b && (fsT1 c && fsT1 d))
def fsK (a b c d s : Nat) : Nat := if s = 1 then a else if s = 2 then b else if s = 3 then c else if s = 4 then d else 0
/-- What the laws ask of the program. -/
structure FsP : Prop where
  may : ∀ (s : Nat) (w : World), s < 256 → Calls Try.prog 9 #[.int .u8 (s : Int)] w (ret (.bool (fsM s)) w)
  mayT : ∀ (a b c d : Nat) (w : World), a < 4294967296 → b < 4294967296 → c < 4294967296 → d < 4294967296 → Calls Try.prog 10 #[.agg #[.int .u32 (a : Int), .int .u32 (b : Int), .int .u32 (c : Int), .int .u32 (d : Int)]] w (ret (.bool (fsT a b c d)) w)
  first : ∀ (p f : Nat) (w : World), p < 256 → f < 256 → Calls Try.prog 5 #[.int .u8 (p : Int), .int .u8 (f : Int)] w (ret (.tuple #[.int .u8 ((fsF p f).1 : Int), .bool (fsF p f).2]) w)
  next : ∀ (s f : Nat) (w : World), s < 256 → f < 256 → Calls Try.prog 7 #[.int .u8 (s : Int), .int .u8 (f : Int)] w (ret (.tuple #[.int .u8 ((fsN s f).1 : Int), .int .u8 ((fsN s f).2.1 : Int), .int .i64 (fsN s f).2.2]) w)
  ticks : ∀ (a b c d s : Nat) (w : World), a < 4294967296 → b < 4294967296 → c < 4294967296 → d < 4294967296 → s < 256 → Calls Try.prog 12 #[.agg #[.int .u32 (a : Int), .int .u32 (b : Int), .int .u32 (c : Int), .int .u32 (d : Int)], .int .u8 (s : Int)] w (ret (.int .u32 (fsK a b c d s : Int)) w)
end Go.Proofs.Ytpdomapkagicaaa
