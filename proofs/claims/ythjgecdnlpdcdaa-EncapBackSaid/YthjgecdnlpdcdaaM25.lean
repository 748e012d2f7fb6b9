import Derived.Test.YthjgecdnlpdcdaaM15
import Derived.Test.YthjgecdnlpdcdaaM23
/- Layer 5: what is written: the bytes, step by step; the writer's own memory. -/
namespace Go.Proofs.Ythjgecdnlpdcdaa
set_option maxRecDepth 100000
open Go.RowKit
theorem four_bd {x y z u : Int} (hx : 0 ≤ x ∧ x ≤ 65535) (hy : 0 ≤ y ∧ y ≤ 65535) (hz : 0 ≤ z ∧ z ≤ 65535) (hu : 0 ≤ u ∧ u ≤ 65535) (k : Nat) : 0 ≤ four x y z u k ∧ four x y z u k ≤ 65535 := by
  unfold four
  repeat' split
  all_goals assumption
def udpB (sp dp L su : Int) (f : Nat → Int) : Nat → Int := cat 8 (udpH sp dp L su) f
def udpX (v6 ns : Bool) (n : Nat) : Int := if (v6 && ns) = true then 2 else if 1660 < 8 + n then 3 else 0
/-- The sum of a datagram that is written. -/
def udpS (ns : Bool) (S : Int) (g : Nat → Int) (m : Nat) : Int := if ns = true then 0 else if rgt S g m = 0 then 65535 else rgt S g m
def WrR (base et : Nat) (E : Int) (m : Nat) (g : Nat → Int) (w : World) (e : Ending) (w' : World) : Prop :=
  (E ≠ 0 ∧ WriteS base et (fun _ => 0) 0 E w e w') ∨ (E = 0 ∧ WriteS base et g m 0 w e w')
theorem cat_lt {n : Nat} {f g : Nat → Int} {k : Nat} (h : k < n) : cat n f g k = f k := by unfold cat; rw [if_pos h]
theorem cat_ge {n : Nat} {f g : Nat → Int} {k : Nat} (h : n ≤ k) : cat n f g k = g (k - n) := by unfold cat; rw [if_neg (by omega)]
theorem lay2_cat (n p : Nat) (hp : p + 1 < n) (h g : Nat → Int) (x : Int) : lay2 (cat n h g) p x = cat n (lay2 h p x) g := by
  funext k
  unfold lay2 upd cat
  by_cases c : k < n
  · rw [if_pos c]
    by_cases c1 : k = p + 1
    · rw [if_pos c1, if_pos c]
      exact (if_pos c1).symm
    · rw [if_neg c1, if_pos c]
      exact (if_neg c1).symm
  · rw [if_neg c, if_neg (by omega), if_neg (by omega), if_neg c]
theorem udpB_sum (sp dp L su : Int) (f : Nat → Int) : udpB sp dp L su f = lay2 (udpB sp dp L 0 f) 6 su := by
  unfold udpB
  rw [lay2_cat 8 6 (by omega), ← udpH_sum]
theorem udp_laid {sp dp L : Int} {n : Nat} (f : Nat → Int) (k : Nat) (hk : k < 8 + n) :
    udpB sp dp L 0 f k = over 8 n f (layw (fun _ => 0) 0 (four sp dp L 0) 4) k := by
  unfold udpB
  by_cases c : k < 8
  · rw [cat_lt c]
    have e1 : over 8 n f (layw (fun _ => 0) 0 (four sp dp L 0) 4) k = layw (fun _ => 0) 0 (four sp dp L 0) 4 k := by
      unfold over
      rw [if_neg (by omega)]
    rw [e1]
    obtain rfl | rfl | rfl | rfl | rfl | rfl | rfl | rfl : k = 0 ∨ k = 1 ∨ k = 2 ∨ k = 3 ∨ k = 4 ∨ k = 5 ∨ k = 6 ∨ k = 7 := by omega
    all_goals simp [udpH, layw, lay2, upd, four]
  · rw [cat_ge (by omega)]
    unfold over
    rw [if_pos (by omega)]
/-- The writer's own memory: three boxes, the bytes so far, the variable of the closure. -/
structure WrT (w W : World) (s d : Nat → Int) (cs : Array Value) (t : TypeId) (g p n : Nat) (f : Nat → Int) : Prop where
  box : Box3 w W s d cs t
  own : Own W (w.heap.size + 1 + 1 + 1) 5 (some ⟨g, 0, none⟩) n n f
  ptr : W.cell? ⟨p, 0, none⟩ = some (.slice (some ⟨g, 0, none⟩) n n)
  lo : w.heap.size + 1 + 1 + 1 ≤ g
  lt : g < p
theorem WrT.step {w W W' : World} {s d : Nat → Int} {cs : Array Value} {t : TypeId} {g p n : Nat} {f : Nat → Int} (h : WrT w W s d cs t g p n f) (hb : Below W.heap.size W W') : WrT w W' s d cs t g p n f :=
  ⟨h.box.step hb, h.own.below hb, (hb.cell (p := ⟨p, 0, none⟩) (World.block_lt_of_cell? _ _ h.ptr)).trans h.ptr, h.lo, h.lt⟩
theorem WrT.alloc {w W : World} {s d : Nat → Int} {cs : Array Value} {t : TypeId} {g p n : Nat} {f : Nat → Int} (h : WrT w W s d cs t g p n f) (o : Obj) : WrT w (W.alloc o) s d cs t g p n f := h.step (below_alloc _ _)
theorem WrT.drew {w W : World} {s d : Nat → Int} {cs : Array Value} {t : TypeId} {g p n : Nat} {f : Nat → Int} (h : WrT w W s d cs t g p n f) : WrT w W.drew s d cs t g p n f := h.step (Below.refl _ _).drew
/-- .. behind words that were laid. -/
theorem WrT.laid {w W W' : World} {s d : Nat → Int} {cs : Array Value} {t : TypeId} {g p n : Nat} {f f' : Nat → Int} (h : WrT w W s d cs t g p n f) (ho : Own W' (w.heap.size + 1 + 1 + 1) 5 (some ⟨g, 0, none⟩) n n f') (hg : W.grownBy W' (some g)) : WrT w W' s d cs t g p n f' :=
  ⟨h.box.keep ((Below.refl _ _).grown hg h.box.size (fun k hk => by injection hk with hk; subst hk; exact h.lo)), ho, hg.cell h.ptr (fun e => absurd (by injection e) (Nat.ne_of_gt h.lt)), h.lo, h.lt⟩
theorem WrT.cells {w W : World} {s d : Nat → Int} {cs : Array Value} {t : TypeId} {g p n : Nat} {f f' : Nat → Int} (h : WrT w W s d cs t g p n f) (o : Nat) (vs : List Value) (ho : Own (W.setCells g o vs) (w.heap.size + 1 + 1 + 1) 5 (some ⟨g, 0, none⟩) n n f') : WrT w (W.setCells g o vs) s d cs t g p n f' :=
  ⟨h.box.keep (below_setCells h.lo vs o W (Below.refl _ _)), ho, (World.cell?_of_block (a := ⟨p, 0, none⟩) (other_setCells (Nat.ne_of_gt h.lt) vs o W)).trans h.ptr, h.lo, h.lt⟩
theorem WrT.start {w W : World} {s d : Nat → Int} {cs : Array Value} {t : TypeId} (h : Box3 w W s d cs t) (n : Nat) (hn : n ≤ 140737488355328) (tt : TypeId) :
    WrT w ((W.alloc (.cells (madeCells (Value.int .u8 0).cells n) 5)).alloc (.cells #[.slice (some ⟨W.heap.size, 0, none⟩) n n] tt)) s d cs t W.heap.size (W.heap.size + 1) n (fun _ => 0) := by
  have e1 : (W.alloc (Obj.cells (madeCells (Value.int .u8 0).cells n) 5)).heap.size = W.heap.size + 1 := by simp
  refine ⟨(h.step (below_alloc _ _)).step (below_alloc _ _), (made_own2 W (w.heap.size + 1 + 1 + 1) 5 n n (Nat.le_refl _) hn h.size _ rfl).alloc _, ?_, h.size, Nat.lt_succ_self _⟩
  rw [← e1]
  exact blk_cell (heap_alloc_new _ _) 0
end Go.Proofs.Ythjgecdnlpdcdaa
/- The program's seg.WriteTCP. -/
namespace Go.Proofs.Ythjgecdnlpdcdaa
set_option maxRecDepth 100000
open Go.RowKit
theorem lt_own {w : World} {base g n c : Nat} {e : TypeId} {f : Nat → Int} (h : Own w base e (some ⟨g, 0, none⟩) n c f) (hn : 0 < n) : g < w.heap.size := by
  obtain ⟨g', hg', _, hl, _⟩ := h.lies hn
  injection hg' with hg'
  injection hg' with hg'
  subst hg'
  exact hl
end Go.Proofs.Ythjgecdnlpdcdaa
