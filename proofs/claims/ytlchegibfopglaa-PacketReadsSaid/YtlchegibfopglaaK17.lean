import Derived.Test.YtlchegibfopglaaK1
import Derived.Test.YtlchegibfopglaaK16
import Derived.Test.YtlchegibfopglaaRows
import Derived.Deep.RegionHeld3
import Derived.StillTailTactics
import Derived.WalkLawsBesides
import Derived.IntWalk
import Derived.Laws.CopyOwn
import Derived.Laws.Tables
import Derived.Test.YtlchegibfopglaaK8
import Derived.Test.YtlchegibfopglaaK9
/- The document's answers for layer 3: two, address. -/
namespace Go.Proofs.Ytlchegibfopglaa
set_option maxRecDepth 100000
open Go.RowKit
set_option maxHeartbeats 400000 in
theorem rtwo_any (b off n c a : Nat) (f : Nat → Int) (hf : Byt f) (ha : a + 1 < n) (hn : n ≤ 4611686018427387904) (w : World) (hc : ∀ k, k < n → w.cell? ⟨b, off + k, none⟩ = some (.int .u8 (f k))) :
    Calls Try.prog 47 #[.slice (some ⟨b, off, none⟩) n c, .int .i64 (a : Int)] w fun e w' => e = .returned (.int .i64 (f a * 256 + f (a + 1))) ∧ Below w.heap.size w w' := by
  have h0 := hc a (by omega)
  have h1 := hc (a + 1) (by omega)
  obtain ⟨p0, q0⟩ := hf a
  obtain ⟨p1, q1⟩ := hf (a + 1)
  clear hc hf
  have i0 : (0 : Int) ≤ (a : Int) := by omega
  have i1 : (a : Int) < (n : Int) := by omega
  have i2 : (0 : Int) ≤ (a : Int) + 1 := by omega
  have i3 : (a : Int) + 1 < (n : Int) := by omega
  have i4 : ((a : Int)).toNat = a := by omega
  have i5 : ((a : Int) + 1).toNat = a + 1 := by omega
  go_enter Try.func47, Try.ntmps47
  go_wp2
  go_quiet (fail)
  go_wp2
  go_ret
  exact ⟨rfl, below_drewN (Below.refl _ _) _⟩
/-- The four4 bytes of an address. -/
def adr (f : Nat → Int) (k : Nat) : Int := if k < 4 then f k else 0
set_option maxHeartbeats 400000 in
theorem raddress_any (b off n c : Nat) (f : Nat → Int) (hn : 4 ≤ n) (w : World) (hb : b < w.heap.size) (hc : ∀ k, k < n → w.cell? ⟨b, off + k, none⟩ = some (.int .u8 (f k))) :
    Calls Try.prog 49 #[.slice (some ⟨b, off, none⟩) n c] w fun e w' => e = .returned (.agg (arr16 (adr f))) ∧ Below w.heap.size w w' := by
  have i0 : (0 : Int) < (n : Int) := by omega
  have i0' : 0 < n := by omega
  have i1 : (1 : Int) < (n : Int) := by omega
  have i2 : (2 : Int) < (n : Int) := by omega
  have i3 : (3 : Int) < (n : Int) := by omega
  go_enter Try.func49, Try.ntmps49
  go_wp2
  generalize hw1 : w.alloc (.cells #[.int .u8 0, .int .u8 0, .int .u8 0, .int .u8 0, .int .u8 0, .int .u8 0, .int .u8 0, .int .u8 0, .int .u8 0, .int .u8 0, .int .u8 0, .int .u8 0, .int .u8 0, .int .u8 0, .int .u8 0, .int .u8 0] 23) = w1
  have HB : Hid (Below w.heap.size w w1) := by rw [← hw1]; exact below_alloc w _
  have HZ : Hid (w1.heap[w.heap.size]? = some (.cells (arr16 fun _ => 0) 23 (0, 0))) := by rw [← hw1]; exact heap_alloc_new w _
  clear hw1
  have h0 : w1.cell? ⟨b, off, none⟩ = some (.int .u8 (f 0)) := (HB.out.cell (p := ⟨b, off, none⟩) hb).trans (hc 0 (by omega))
  have h1 := (HB.out.cell (p := ⟨b, off + 1, none⟩) hb).trans (hc 1 (by omega))
  have h2 := (HB.out.cell (p := ⟨b, off + 2, none⟩) hb).trans (hc 2 (by omega))
  have h3 := (HB.out.cell (p := ⟨b, off + 3, none⟩) hb).trans (hc 3 (by omega))
  clear hc
  go_still_tail 13, (by kernel_rfl)
  clear h0 h1 h2 h3
  change wpList _ _ _ _ _ w1.drew
  refine wpList_store_row rfl 23 (.tmp 2) (.tmp 15) rfl w.heap.size (arr16 (adr f)) rfl rfl 23 (arr16 fun _ => 0) HZ.out (by kernel_rfl) rfl (arr16_one _) ?_
  go_wp2
  have hz := setRow_heap w1.drew w.heap.size _ (arr16 (adr f)) _ _ HZ.out
  refine bodyPost_ret (v := .agg (arr16 (adr f))) (results_cell_row Try.results49 _ _ w.heap.size 23 (arr16 (adr f)) (0, 0) _ rfl hz Try.underlying23 rfl (by kernel_rfl)) rfl ⟨rfl, ?_⟩
  exact below_setRow HB.out.drew (Nat.le_refl _) _
end Go.Proofs.Ytlchegibfopglaa
/- Layer 7's words: what a frame is as a packet. Nothing of the program. -/
namespace Go.Proofs.Ytlchegibfopglaa
open Go.RowKit
/-- Flags that may be. -/
def mayF (x : Int) : Bool := !(decide (x / 2 % 2 = 1) && decide (x % 2 = 1)) && !(decide (x / 2 % 2 = 1) && decide (x / 4 % 2 = 1)) && (decide (x / 2 % 2 = 1) || decide (x % 2 = 1) || decide (x / 4 % 2 = 1) || decide (x / 16 % 2 = 1))
/-- The IP packet: what is wrong with it, its protocol, its ends, how long it is, where what is behind its headers begins. -/
def otE (v6 : Bool) (g : Nat → Int) (m : Nat) : Int := if v6 = true then rd6E g m else rd4E g m
def otP (v6 : Bool) (g : Nat → Int) : Int := if v6 = true then (chn6 g).1 else g 9
def otS (v6 : Bool) (g : Nat → Int) : Nat → Int := if v6 = true then fst16 g 8 16 else adr fun k => g (12 + k)
def otD (v6 : Bool) (g : Nat → Int) : Nat → Int := if v6 = true then fst16 g 24 16 else adr fun k => g (16 + k)
def otI (v6 : Bool) (g : Nat → Int) : Nat := if v6 = true then 40 + ln6 g else tl4 g
def otA (v6 : Bool) (g : Nat → Int) : Nat := if v6 = true then 40 + (chn6 g).2.1 else hl4 g
def otR (v6 : Bool) (g : Nat → Int) : Nat := otI v6 g - otA v6 g
def otF (v6 : Bool) (g : Nat → Int) : Nat → Int := fun k => g (otA v6 g + k)
/-- Is its protocol an ICMP's? -/
def icP (v6 : Bool) (P : Int) : Bool := if v6 = true then decide (P = 58) else decide (P = 1)
/-- What is wrong behind its headers. -/
def prE (v6 : Bool) (P : Int) (s d r : Nat → Int) (n : Nat) : Int :=
  if P = 6 then (if tcpE (psq v6 s d 6 n) r n ≠ 0 then tcpE (psq v6 s d 6 n) r n else if mayF (r 13) = false then 5 else 0)
  else if P = 17 then udpE v6 (psq v6 s d 17 n) r n
  else if icP v6 P = true then (if icE v6 (mS v6 s d n) r n ≠ 0 then icE v6 (mS v6 s d n) r n else if eqs (winD v6 (fun k => r (8 + k))) d 0 16 = false then 5 else 0)
  else 10
/-- What Read tells: an error, the flow, the flags, whether it is a report. -/
def pkG (f : Nat → Int) : Nat → Int := fun k => f (14 + k)
def pkV (f : Nat → Int) : Bool := decide (w2 f 12 = 34525)
def pkE (f : Nat → Int) (n : Nat) : Int :=
  if 1600 < n then 3 else if n < 14 then 4 else if ¬ (w2 f 12 = 2048 ∨ w2 f 12 = 34525) then 10
  else if otE (pkV f) (pkG f) (n - 14) ≠ 0 then otE (pkV f) (pkG f) (n - 14)
  else prE (pkV f) (otP (pkV f) (pkG f)) (otS (pkV f) (pkG f)) (otD (pkV f) (pkG f)) (otF (pkV f) (pkG f)) (otR (pkV f) (pkG f))
def pkT (v6 : Bool) (P : Int) (s d r : Nat → Int) (n : Nat) : Array Value :=
  if P = 6 ∨ P = 17 then tupc v6 P s d (w2 r 0) (w2 r 2) else wT v6 (fun k => r (8 + k)) (n - 8)
def pkL (P : Int) (r : Nat → Int) : Int := if P = 6 then r 13 else 0
def pkR (P : Int) : Bool := decide (P ≠ 6 ∧ P ≠ 17)
/-- What is known of an IP packet that was read. -/
theorem ot_ok {v6 : Bool} {g : Nat → Int} (hg : Byt g) {m : Nat} (h : otE v6 g m = 0) : 20 ≤ otA v6 g ∧ otA v6 g ≤ otI v6 g ∧ otI v6 g ≤ m ∧ otA v6 g + otR v6 g = otI v6 g := by
  cases v6
  · obtain ⟨a1, a2, a3, a4, _⟩ := rd4_ok hg (show rd4E g m = 0 from h)
    refine ⟨a1, a3, a4, ?_⟩
    show hl4 g + (tl4 g - hl4 g) = tl4 g
    omega
  · obtain ⟨a1, a2, a3, p, k, a4, a5⟩ := rd6_ok (show rd6E g m = 0 from h)
    have e : (chn6 g).2.1 = k := by rw [a4]
    refine ⟨?_, ?_, ?_, ?_⟩
    · show 20 ≤ 40 + _; omega
    · show 40 + (chn6 g).2.1 ≤ 40 + ln6 g; rw [e]; omega
    · show 40 + ln6 g ≤ m; exact a3
    · show 40 + (chn6 g).2.1 + (40 + ln6 g - (40 + (chn6 g).2.1)) = 40 + ln6 g
      rw [e]
      omega
end Go.Proofs.Ytlchegibfopglaa
