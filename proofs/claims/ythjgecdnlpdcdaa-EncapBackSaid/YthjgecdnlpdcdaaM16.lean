import Derived.Test.YthjgecdnlpdcdaaM15
import Derived.Test.YthjgecdnlpdcdaaM8
import Derived.Test.YthjgecdnlpdcdaaM5
import Derived.Test.YthjgecdnlpdcdaaM9
import Derived.Deep.RegionHeld3
import Derived.Test.YthjgecdnlpdcdaaM1
/- Layer 5, for later layers: the sums behind a pseudo header (Pseudo of both, the document's Right); what reads a header's words. -/
namespace Go.Proofs.Ythjgecdnlpdcdaa
set_option maxRecDepth 100000
open Go.RowKit
theorem pseudo_any (v6 : Bool) (f g : Nat → Int) (hf : Byt f) (hg : Byt g) (pr : Int) (h1 : 0 ≤ pr) (h2 : pr ≤ 255) (n : Nat) (hn : n ≤ 9223372036854775807) (w : World) :
    Calls Try.prog 35 #[.bool v6, .agg (arr16 f), .agg (arr16 g), .int .u8 pr, .int .i64 (n : Int)] w fun e w' => e = .returned (.agg #[.int .u16 (psq v6 f g pr n), .bool false]) ∧ Below w.heap.size w w' := by
  have e := psum_mk v6 f g pr n
  cases v6
  · have h := pseudo4 f g hf hg pr (n : Int) h1 h2 (by omega) (by omega) w
    rw [e] at h
    dsimp only at h
    exact h
  · have h := pseudo6 f g hf hg pr (n : Int) h1 h2 (by omega) (by omega) w
    rw [e] at h
    dsimp only at h
    exact h
/-- Two addresses that were boxed. -/
structure Box2 (w W : World) (s d : Nat → Int) : Prop where
  b0 : W.heap[w.heap.size]? = some (.cells (arr16 s) 22 (0, 0))
  b1 : W.heap[w.heap.size + 1]? = some (.cells (arr16 d) 22 (0, 0))
  below : Below w.heap.size w W
theorem Box2.start (w : World) (s d : Nat → Int) : Box2 w ((w.alloc (.cells (arr16 s) 22)).alloc (.cells (arr16 d) 22)) s d := by
  have e1 : (w.alloc (.cells (arr16 s) 22)).heap.size = w.heap.size + 1 := by simp
  refine ⟨blk_old (heap_alloc_new w _) _, ?_, below_alloc2 w _ _⟩
  rw [← e1]
  exact heap_alloc_new _ _
theorem Box2.step {w W W' : World} {s d : Nat → Int} (h : Box2 w W s d) (hb : Below W.heap.size W W') : Box2 w W' s d :=
  ⟨(hb.block _ (lt_heap h.b0)).trans h.b0, (hb.block _ (lt_heap h.b1)).trans h.b1, h.below.trans (hb.mono h.below.size)⟩
/-- What reads a header's words, as it lies in memory. -/
def wdV (p : Nat) : Value := .func (.func 37) #[] #[.pointer (some ⟨p, 0, none⟩)]
set_option maxHeartbeats 1000000 in
theorem word_any (p b off n c at_ : Nat) (f : Nat → Int) (hf : Byt f) (hat : at_ + 1 < n) (hn : n ≤ 4611686018427387904) (w : World) (hp : w.cell? ⟨p, 0, none⟩ = some (.slice (some ⟨b, off, none⟩) n c)) (hc : ∀ k, k < n → w.cell? ⟨b, off + k, none⟩ = some (.int .u8 (f k))) :
    Calls Try.prog 37 #[.int .i64 (at_ : Int), .pointer (some ⟨p, 0, none⟩)] w fun e w' => e = .returned (.int .u16 (w2 f at_)) ∧ Below w.heap.size w w' := by
  have x0 := hc at_ (by omega)
  have x1 := hc (at_ + 1) (by omega)
  have p0 := hf at_
  have p1 := hf (at_ + 1)
  unfold w2
  have z0 : IntKind.u16.wrap (f at_) = f at_ := by rw [IntKind.wrap_u16]; omega
  have z1 : IntKind.u16.wrap (f (at_ + 1)) = f (at_ + 1) := by rw [IntKind.wrap_u16]; omega
  have z2 : IntKind.u16.wrap (f at_ * 256) = f at_ * 256 := by rw [IntKind.wrap_u16]; omega
  have z3 : bits .or .u16 (f at_ * 256) (f (at_ + 1)) = f at_ * 256 + f (at_ + 1) := or_u16 _ _ 256 8 rfl (by omega) (by omega) (by omega) (by omega)
  have i0 : (0 : Int) ≤ (at_ : Int) := by omega
  have i1 : (at_ : Int) < (n : Int) := by omega
  have i2 : (0 : Int) ≤ (at_ : Int) + 1 := by omega
  have i3 : (at_ : Int) + 1 < (n : Int) := by omega
  have i4 : ((at_ : Int)).toNat = at_ := by omega
  have i5 : ((at_ : Int) + 1).toNat = at_ + 1 := by omega
  have i6 : IntKind.i64.wrap ((at_ : Int) + 1) = (at_ : Int) + 1 := by rw [IntKind.wrap_i64]; omega
  clear hc hf
  go_enter Try.func37, Try.ntmps37
  go_wp2
  go_quiet (fail)
  go_wp2
  go_ret
  exact ⟨rfl, below_drewN (Below.refl _ _) _⟩
/-- What reader tells: a closure over the slice, that lies in a new block. -/
theorem reader_any (v : Value) (A : Option Addr) (n c : Nat) (hv : v = .slice A n c) (w : World) :
    Calls Try.prog 27 #[v] w fun e w' => e = .returned (wdV w.heap.size) ∧ w' = w.alloc (.cells #[.slice A n c] 26) := by
  subst hv
  have hmf : ∀ (fn : Fn) (first cap : Array Value) (w : World), (Instr.makeFunc fn first cap).run Try.prog w = .ok (.func fn first cap) w := fun _ _ _ _ => rfl
  go_enter Try.func27, Try.ntmps27
  go_wp2
  go_ret
  exact ⟨rfl, rfl⟩
end Go.Proofs.Ythjgecdnlpdcdaa
/- Contracts of Of, the program's and the document's. -/
namespace Go.Proofs.Ythjgecdnlpdcdaa
set_option maxRecDepth 100000
open Go.RowKit
set_option maxHeartbeats 400000 in
theorem of_any (A : Option Addr) (n c : Nat) (f : Nat → Int) (hf : Byt f) (hn : n ≤ 4611686018427387900) (hcap : n ≤ c) (w : World) (hr : Rd w w.heap.size A n f) :
    Calls Try.prog 31 #[.slice A n c] w fun e w' => e = .returned (.int .u16 (ofv f n)) ∧ Below w.heap.size w w' := by
  obtain ⟨hq, hq'⟩ := fld_bd (p := (0, false)) hf ⟨by omega, by omega⟩ n
  have HF := Lib.hid hf
  clear hf
  have HR := Lib.hid hr
  clear hr
  unfold ofv
  have HA := Lib.hid (add_any 0 false A n c f HF.out hn hcap w (by omega) (by omega) HR.out)
  generalize fld f (0, false) n = q at *
  go_enter Try.func31, Try.ntmps31
  go_wp2_with (first
    | (go_at_call 34; refine HA.out.mono ?_; rintro e w1 ⟨rfl, hb1⟩)
    | (go_at_call 33; refine (end_any q.1 q.2 _ hq hq').mono ?_; rintro e w2 ⟨rfl, hb2⟩))
  go_ret
  exact ⟨rfl, hb1.trans (hb2.mono hb1.size)⟩
end Go.Proofs.Ythjgecdnlpdcdaa
/- Flows in memory: their fields, built, loaded, compared. -/
namespace Go.Proofs.Ythjgecdnlpdcdaa
set_option maxRecDepth 100000
open Go.RowKit
/-- An array that lies in a block. -/
theorem blk_range {W : World} {g o : Nat} {cs : Array Value} {t : TypeId} {f : Nat → Int} (h : W.heap[g]? = some (.cells cs t (0, 0))) (hf : ∀ k, k < 16 → cs[o + k]? = some (.int .u8 (f k))) : W.rangeAt g o (arr16 f).toList := fun j v hv => by
  have hj : j < 16 := by
    rcases Nat.lt_or_ge j 16 with q | q
    · exact q
    · rw [List.getElem?_eq_none (by simpa [arr16] using q)] at hv; cases hv
  rw [blk_cell h (o + j), hf j hj, ← hv]
  simpa using (arr16_get f j hj).symm
end Go.Proofs.Ythjgecdnlpdcdaa
