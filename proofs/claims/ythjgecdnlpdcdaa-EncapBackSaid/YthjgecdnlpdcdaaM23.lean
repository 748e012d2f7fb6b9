import Derived.Test.YthjgecdnlpdcdaaM22
/- Layer 5: headers in memory, what reading and writing tell. -/
namespace Go.Proofs.Ythjgecdnlpdcdaa
set_option maxRecDepth 100000
open Go.RowKit
def udpc (sp dp : Int) (ns : Bool) : Array Value := #[.int .u16 sp, .int .u16 dp, .bool ns]
def udpz : Array Value := udpc 0 0 false
theorem udp_one (sp dp : Int) (ns : Bool) : (udpc sp dp ns).all (·.oneCell') = true := by simp [udpc, Value.oneCell']
theorem udpz_one : udpz.all (·.oneCell') = true := udp_one ..
/-- Two addresses that were boxed, and a third block. -/
structure Box3 (w W : World) (s d : Nat → Int) (cs : Array Value) (t : TypeId) : Prop where
  b0 : W.heap[w.heap.size]? = some (.cells (arr16 s) 22 (0, 0))
  b1 : W.heap[w.heap.size + 1]? = some (.cells (arr16 d) 22 (0, 0))
  b2 : W.heap[w.heap.size + 1 + 1]? = some (.cells cs t (0, 0))
  below : Below w.heap.size w W
theorem Box3.start (w : World) (s d : Nat → Int) (cs : Array Value) (t : TypeId) : Box3 w (((w.alloc (.cells (arr16 s) 22)).alloc (.cells (arr16 d) 22)).alloc (.cells cs t)) s d cs t := by
  have h := Box2.start w s d
  have e2 : ((w.alloc (Obj.cells (arr16 s) 22)).alloc (Obj.cells (arr16 d) 22)).heap.size = w.heap.size + 1 + 1 := by simp
  refine ⟨blk_old h.b0 _, blk_old h.b1 _, ?_, h.below.alloc h.below.size _⟩
  rw [← e2]
  exact heap_alloc_new _ _
theorem Box3.step {w W W' : World} {s d : Nat → Int} {cs : Array Value} {t : TypeId} (h : Box3 w W s d cs t) (hb : Below W.heap.size W W') : Box3 w W' s d cs t :=
  ⟨(hb.block _ (lt_heap h.b0)).trans h.b0, (hb.block _ (lt_heap h.b1)).trans h.b1, (hb.block _ (lt_heap h.b2)).trans h.b2, h.below.trans (hb.mono h.below.size)⟩
/-- .. where what lies below a later block's end is as it was. -/
theorem Box3.keep {w W W' : World} {s d : Nat → Int} {cs : Array Value} {t : TypeId} (h : Box3 w W s d cs t) (hb : Below (w.heap.size + 1 + 1 + 1) W W') : Box3 w W' s d cs t :=
  ⟨(hb.block _ (by omega)).trans h.b0, (hb.block _ (by omega)).trans h.b1, (hb.block _ (by omega)).trans h.b2, h.below.trans (hb.mono (by omega))⟩
theorem Box3.size {w W : World} {s d : Nat → Int} {cs : Array Value} {t : TypeId} (h : Box3 w W s d cs t) : w.heap.size + 1 + 1 + 1 ≤ W.heap.size := lt_heap h.b2
def ReadUO (et : Nat) (f : Nat → Int) (n : Nat) (w : World) (e : Ending) (w' : World) : Prop :=
  ∃ P cp, e = .returned (.tuple #[.agg (udpc (w2 f 0) (w2 f 2) (decide (w2 f 6 = 0))), .slice P (n - 8) cp, .int .i64 0]) ∧ Own w' w.heap.size et P (n - 8) cp (fun k => f (8 + k)) ∧ Below w.heap.size w w'
def ReadU (et : Nat) (E : Int) (f : Nat → Int) (n : Nat) (w : World) (e : Ending) (w' : World) : Prop :=
  (E ≠ 0 ∧ e = .returned (.tuple #[.agg udpz, .slice none 0 0, .int .i64 E]) ∧ Below w.heap.size w w') ∨ (E = 0 ∧ ReadUO et f n w e w')
theorem udpE_0 {v6 : Bool} {S : Int} {f : Nat → Int} {n : Nat} (h : n < 8) : udpE v6 S f n = 4 := by unfold udpE; rw [if_pos h]
theorem udpE_1 {v6 : Bool} {S : Int} {f : Nat → Int} {n : Nat} (n0 : ¬ n < 8) (h : w2 f 4 ≠ (n : Int)) : udpE v6 S f n = 5 := by unfold udpE; rw [if_neg n0, if_pos h]
theorem udpE_2 {S : Int} {f : Nat → Int} {n : Nat} (n0 : ¬ n < 8) (n1 : w2 f 4 = (n : Int)) (h : w2 f 6 = 0) : udpE true S f n = 6 := by unfold udpE; rw [if_neg n0, if_neg (fun q => q n1), if_pos h, if_pos rfl]
theorem udpE_3 {S : Int} {f : Nat → Int} {n : Nat} (n0 : ¬ n < 8) (n1 : w2 f 4 = (n : Int)) (h : w2 f 6 = 0) : udpE false S f n = 0 := by unfold udpE; rw [if_neg n0, if_neg (fun q => q n1), if_pos h, if_neg (by decide)]
theorem udpE_4 {v6 : Bool} {S : Int} {f : Nat → Int} {n : Nat} (n0 : ¬ n < 8) (n1 : w2 f 4 = (n : Int)) (h : ¬ w2 f 6 = 0) (hr : rgt S f n ≠ 0) : udpE v6 S f n = 6 := by unfold udpE; rw [if_neg n0, if_neg (fun q => q n1), if_neg h, if_pos hr]
theorem udpE_5 {v6 : Bool} {S : Int} {f : Nat → Int} {n : Nat} (n0 : ¬ n < 8) (n1 : w2 f 4 = (n : Int)) (h : ¬ w2 f 6 = 0) (hr : rgt S f n = 0) : udpE v6 S f n = 0 := by unfold udpE; rw [if_neg n0, if_neg (fun q => q n1), if_neg h, if_neg (fun q => q hr)]
/-- What writing tells. -/
def WriteS (base et : Nat) (g : Nat → Int) (m : Nat) (x : Int) (w : World) (e : Ending) (w' : World) : Prop :=
  ∃ U cu, e = .returned (.tuple #[.slice U m cu, .int .i64 x]) ∧ Own w' base et U m cu g ∧ Below base w w'
end Go.Proofs.Ythjgecdnlpdcdaa
