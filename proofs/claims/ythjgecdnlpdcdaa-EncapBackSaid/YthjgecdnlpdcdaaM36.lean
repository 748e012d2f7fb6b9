import Derived.Test.YthjgecdnlpdcdaaM15
import Derived.Test.YthjgecdnlpdcdaaM17
import Derived.Test.YthjgecdnlpdcdaaM14
import Derived.Laws.BytesArg
import Derived.Deep.MidRow
import Derived.Test.YthjgecdnlpdcdaaM13
import Derived.Laws.CopyOwn
import Derived.Laws.Tables
/- An IPv6 header's cells; the document's Same. -/
namespace Go.Proofs.Ythjgecdnlpdcdaa
set_option maxRecDepth 100000
open Go.RowKit
/-- A header's cells. -/
def ip6c (cls lab next proto hops : Int) (s d : Nat → Int) (o : Value) : Array Value := #[.int .u8 cls, .int .u32 lab, .int .u8 next, .int .u8 proto, .int .u8 hops, .int .u8 (s 0), .int .u8 (s 1), .int .u8 (s 2), .int .u8 (s 3), .int .u8 (s 4), .int .u8 (s 5), .int .u8 (s 6), .int .u8 (s 7), .int .u8 (s 8), .int .u8 (s 9), .int .u8 (s 10), .int .u8 (s 11), .int .u8 (s 12), .int .u8 (s 13), .int .u8 (s 14), .int .u8 (s 15), .int .u8 (d 0), .int .u8 (d 1), .int .u8 (d 2), .int .u8 (d 3), .int .u8 (d 4), .int .u8 (d 5), .int .u8 (d 6), .int .u8 (d 7), .int .u8 (d 8), .int .u8 (d 9), .int .u8 (d 10), .int .u8 (d 11), .int .u8 (d 12), .int .u8 (d 13), .int .u8 (d 14), .int .u8 (d 15), o]
theorem ip6_src {cls lab next proto hops : Int} {s d : Nat → Int} {o : Value} (k : Nat) (hk : k < 16) : (ip6c cls lab next proto hops s d o)[5 + k]? = some (.int .u8 (s k)) := by
  match k, hk with
  | 0, _ => rfl
  | 1, _ => rfl
  | 2, _ => rfl
  | 3, _ => rfl
  | 4, _ => rfl
  | 5, _ => rfl
  | 6, _ => rfl
  | 7, _ => rfl
  | 8, _ => rfl
  | 9, _ => rfl
  | 10, _ => rfl
  | 11, _ => rfl
  | 12, _ => rfl
  | 13, _ => rfl
  | 14, _ => rfl
  | 15, _ => rfl
  | k + 16, h => exact absurd h (by omega)
theorem ip6_dst {cls lab next proto hops : Int} {s d : Nat → Int} {o : Value} (k : Nat) (hk : k < 16) : (ip6c cls lab next proto hops s d o)[21 + k]? = some (.int .u8 (d k)) := by
  match k, hk with
  | 0, _ => rfl
  | 1, _ => rfl
  | 2, _ => rfl
  | 3, _ => rfl
  | 4, _ => rfl
  | 5, _ => rfl
  | 6, _ => rfl
  | 7, _ => rfl
  | 8, _ => rfl
  | 9, _ => rfl
  | 10, _ => rfl
  | 11, _ => rfl
  | 12, _ => rfl
  | 13, _ => rfl
  | 14, _ => rfl
  | 15, _ => rfl
  | k + 16, h => exact absurd h (by omega)
end Go.Proofs.Ythjgecdnlpdcdaa
/- Layer 4: a header's block, its address laid in; slices of the call's own beside it; slices cut by numbers. -/
namespace Go.Proofs.Ythjgecdnlpdcdaa
set_option maxRecDepth 100000
open Go.RowKit
def ip6z : Array Value := ip6c 0 0 0 0 0 (fun _ => 0) (fun _ => 0) (.slice none 0 0)
theorem ip6_one (cls lab next proto hops : Int) (s d : Nat → Int) (O : Option Addr) (on co : Nat) : (ip6c cls lab next proto hops s d (.slice O on co)).all (·.oneCell') = true := by simp [ip6c, Value.oneCell']
theorem ip6z_one : ip6z.all (·.oneCell') = true := ip6_one ..
def newF (w : World) : Fact := fun v W => ∃ q, v = .pointer (some ⟨q, 0, none⟩) ∧ W.heap[q]? = some (.cells ip6z 57 (0, 0)) ∧ w.heap.size ≤ q
theorem stb_new (w : World) : Stb (newF w) := fun _ _ _ ⟨q, h, hq, hl⟩ hb => ⟨q, h, (hb.block _ (lt_heap hq)).trans hq, hl⟩
/-- Read's own memory: the result that is told, the header so far, its chain. -/
structure RdS (w W : World) (q : Nat) (cs : Array Value) (O : Option Addr) (n co : Nat) (fo : Nat → Int) : Prop where
  res : W.heap[w.heap.size]? = some (.cells ip6z 57 (0, 0))
  hd : W.heap[q]? = some (.cells cs 57 (0, 0))
  own : Own W w.heap.size 5 O n co fo
  below : Below w.heap.size w W
  lt : w.heap.size < q
theorem RdS.step {w W W' : World} {q : Nat} {cs : Array Value} {O : Option Addr} {n co : Nat} {fo : Nat → Int} (h : RdS w W q cs O n co fo) (hb : Below W.heap.size W W') : RdS w W' q cs O n co fo :=
  ⟨(hb.block _ (lt_heap h.res)).trans h.res, (hb.block _ (lt_heap h.hd)).trans h.hd, h.own.below hb, h.below.trans (hb.mono h.below.size), h.lt⟩
end Go.Proofs.Ythjgecdnlpdcdaa
/- The document's answers for layer 4: Read. -/
namespace Go.Proofs.Ythjgecdnlpdcdaa
set_option maxRecDepth 100000
open Go.RowKit
/-- What Read tells of a packet that is one. -/
def Read6 (et : Nat) (f : Nat → Int) (w : World) (e : Ending) (w' : World) : Prop :=
  ∃ p m O co P cp, chn6 f = (p, m, 0) ∧ e = .returned (.tuple #[.agg (ip6c (cls6 f) (lab6 f) (f 6) p (f 7) (fun k => f (8 + k)) (fun k => f (24 + k)) (.slice O m co)), .slice P (ln6 f - m) cp, .int .i64 0]) ∧
    Own w' w.heap.size et O m co (fun k => f (40 + k)) ∧ Own w' w.heap.size et P (ln6 f - m) cp (fun k => f (40 + (m + k))) ∧
    (∀ g, Value.ownBlock (.slice O m co) = some g → Value.ownBlock (.slice P (ln6 f - m) cp) ≠ some g) ∧ Below w.heap.size w w'
def Read6P (et : Nat) (E : Int) (f : Nat → Int) (w : World) (e : Ending) (w' : World) : Prop :=
  (E ≠ 0 ∧ e = .returned (.tuple #[.agg ip6z, .slice none 0 0, .int .i64 E]) ∧ Below w.heap.size w w') ∨ (E = 0 ∧ Read6 et f w e w')
theorem rd6_0 {f : Nat → Int} {n : Nat} (h : n < 40) : rd6E f n = 4 := by unfold rd6E; rw [if_pos h]
theorem rd6_1 {f : Nat → Int} {n : Nat} (n0 : ¬ n < 40) (h : f 0 / 16 ≠ 6) : rd6E f n = 5 := by unfold rd6E; rw [if_neg n0, if_pos h]
theorem rd6_2 {f : Nat → Int} {n : Nat} (n0 : ¬ n < 40) (n1 : ¬ f 0 / 16 ≠ 6) (h : n - 40 < ln6 f) : rd6E f n = 4 := by unfold rd6E; rw [if_neg n0, if_neg n1, if_pos h]
theorem rd6_3 {f : Nat → Int} {n : Nat} (n0 : ¬ n < 40) (n1 : ¬ f 0 / 16 ≠ 6) (n2 : ¬ n - 40 < ln6 f) : rd6E f n = (chn6 f).2.2 := by unfold rd6E; rw [if_neg n0, if_neg n1, if_neg n2]
end Go.Proofs.Ythjgecdnlpdcdaa
