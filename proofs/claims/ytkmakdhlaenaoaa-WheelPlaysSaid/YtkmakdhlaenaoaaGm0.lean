import Derived.WalkKit
import Derived.WalkSpells
import Derived.Maps.AppendAt
import Derived.Laws.BytesArg
import Derived.Deep.Quiet
import Derived.Deep.Draws
import Derived.BigQuiet
import Derived.Lib.Hide
import Derived.ProofKit
import Derived.Lib.SmallJoins
import Derived.Carry
import Derived.Laws.BitsLemmas
import Derived.Lib.BitFns
import Derived.Lib.ItoaNum
/- Plain words for slices of bytes, over any program: a slice that reads as a function of its place; one of the call's own, onto which is appended; regions whose calls make memory but turn none of the old. -/
namespace Go.Proofs.Ytkmakdhlaenaoaa
open Go.RowKit
theorem alloc_le (w : World) (o : Obj) : w.heap.size ≤ (w.alloc o).heap.size := by simp
theorem alloc_le2 (w : World) (o o' : Obj) : w.heap.size ≤ ((w.alloc o).alloc o').heap.size := by simp; omega
theorem below_alloc (w : World) (o : Obj) : Below w.heap.size w (w.alloc o) := (Below.refl _ _).alloc (Nat.le_refl _) o
theorem below_alloc2 (w : World) (o o' : Obj) : Below w.heap.size w ((w.alloc o).alloc o') := (below_alloc w o).alloc (alloc_le w o) o'
theorem below_then {w w1 w2 : World} (h : Below w.heap.size w w1) (h' : Below w1.heap.size w1 w2) : Below w.heap.size w w2 := h.trans (h'.mono h.size)
/-- A slice of bytes that reads as f, below block B; of nothing the address is not asked. -/
def Rd (w : World) (B : Nat) (A : Option Addr) (n : Nat) (f : Nat → Int) : Prop :=
  n = 0 ∨ ∃ b off, A = some ⟨b, off, none⟩ ∧ b < B ∧ ∀ k, k < n → w.cell? ⟨b, off + k, none⟩ = some (.int .u8 (f k))
theorem Rd.keep {w w' : World} {B n : Nat} {A : Option Addr} {f : Nat → Int} (h : Rd w B A n f) (hb : Below B w w') : Rd w' B A n f := by
  rcases h with h | ⟨b, off, e, hlt, hc⟩
  · exact .inl h
  · exact .inr ⟨b, off, e, hlt, fun k hk => (hb.cell (p := ⟨b, off + k, none⟩) hlt).trans (hc k hk)⟩
theorem Rd.more {w : World} {B B' n : Nat} {A : Option Addr} {f : Nat → Int} (h : Rd w B A n f) (hB : B ≤ B') : Rd w B' A n f := by
  rcases h with h | ⟨b, off, e, hlt, hc⟩
  · exact .inl h
  · exact .inr ⟨b, off, e, by omega, hc⟩
theorem Rd.drewN {w : World} {B n : Nat} {A : Option Addr} {f : Nat → Int} (h : Rd w B A n f) (k : Nat) : Rd (w.drewN k) B A n f := h
theorem Rd.drew {w : World} {B n : Nat} {A : Option Addr} {f : Nat → Int} (h : Rd w B A n f) : Rd w.drew B A n f := h
theorem Rd.same {w : World} {B n : Nat} {A : Option Addr} {f g : Nat → Int} (h : Rd w B A n f) (hg : ∀ k, k < n → g k = f k) : Rd w B A n g := by
  rcases h with h | ⟨b, off, e, hlt, hc⟩
  · exact .inl h
  · exact .inr ⟨b, off, e, hlt, fun k hk => by rw [hg k hk]; exact hc k hk⟩
theorem Rd.less {w : World} {B n m : Nat} {A : Option Addr} {f : Nat → Int} (h : Rd w B A n f) (hm : m ≤ n) : Rd w B A m f := by
  rcases h with h | ⟨b, off, e, hlt, hc⟩
  · exact .inl (by omega)
  · exact .inr ⟨b, off, e, hlt, fun k hk => hc k (by omega)⟩
/-- 's[k:]', as the walk spells it. -/
theorem Rd.cut {w : World} {B n c k : Nat} {A : Option Addr} {f : Nat → Int} (h : Rd w B A n f) (hk : k ≤ n) (hc : n ≤ c) : Rd w B (if c = k then A else Option.map (fun x => x.add k) A) (n - k) (fun j => f (k + j)) := by
  rcases h with h | ⟨b, off, rfl, hlt, hcell⟩
  · exact .inl (by omega)
  · by_cases e : c = k
    · exact .inl (by omega)
    · rw [if_neg e]
      refine .inr ⟨b, off + k, ?_, hlt, fun j hj => by rw [Nat.add_assoc]; exact hcell _ (by omega)⟩
      show some ((⟨b, off, none⟩ : Addr).add k) = _
      unfold Addr.add
      split <;> simp_all
/-- Each of f is a byte. -/
def Byt (f : Nat → Int) : Prop := ∀ k, 0 ≤ f k ∧ f k ≤ 255
/-- The first n of f. -/
def nums (n : Nat) (f : Nat → Int) : List Int := (List.range n).map f
theorem nums_len (n : Nat) (f : Nat → Int) : (nums n f).length = n := by simp [nums]
theorem nums_get {n : Nat} {f : Nat → Int} {k : Nat} (h : k < n) : (nums n f).getD k 0 = f k := by
  simp [nums, List.getD, List.getElem?_map, List.getElem?_range h]
theorem nums_congr {n : Nat} {f g : Nat → Int} (h : ∀ k, k < n → g k = f k) : nums n g = nums n f := by
  unfold nums
  exact List.map_congr_left fun k hk => h k (by simpa using hk)
theorem nums_inj {n : Nat} {f g : Nat → Int} (h : nums n g = nums n f) : ∀ k, k < n → g k = f k := by
  intro k hk
  rw [← nums_get (f := g) hk, h, nums_get hk]

section
variable {P : Program}
theorem run_convert_rd {w : World} {B n : Nat} {A : Option Addr} {f : Nat → Int} (h : Rd w B A n f) (src e dst : TypeId) (c : Nat) (hs : P.underlying src = some (.slice e)) (he : P.underlying e = some (.int .u8)) (hd : P.underlying dst = some .string) :
    (convert src dst (.slice A n c)).run P w = .ok (.string (strOfNums (nums n f))) w := by
  rcases h with rfl | ⟨b, off, rfl, hlt, hc⟩
  · cases A with
    | none => exact run_convert_bytes_nil w src e hs he 0 c dst hd
    | some a =>
      have hl : (loadCells a 0).run P w = .ok (([] : List Int).map (Value.int .u8)).toArray w := run_loadCells_list (P := P) w a [] (by simp)
      rw [run_convert_bytes_string w src dst e _ 0 c hs he hd, run_bytesToString w _ 0 c [] hl]
      rfl
  · exact run_convert_bytes_arg w src e hs he b off n c (nums n f) (nums_len n f) (fun i hi => by rw [nums_get hi]; exact hc i hi) dst hd
/-- A slice of the call's own, from block base on, of byte type e. -/
def Own (w : World) (base : Nat) (e : TypeId) (A : Option Addr) (n c : Nat) (f : Nat → Int) : Prop :=
  w.ownsRow base e 1 (.slice A n c) n ((nums n f).map (Value.int .u8))
theorem Own.nil_ (w : World) (base : Nat) (e : TypeId) (f : Nat → Int) : Own w base e none 0 0 f := ⟨by simp [nums], .inl ⟨rfl, rfl⟩⟩
theorem Own.cap {w : World} {base : Nat} {e : TypeId} {A : Option Addr} {n c : Nat} {f : Nat → Int} (h : Own w base e A n c f) : n ≤ c := by
  rcases h.2 with ⟨hv, rfl⟩ | ⟨g, cap, cur, hv, _, _, hc, _⟩
  · omega
  · injection hv with _ _ h3
    omega
theorem Own.lies {w : World} {base : Nat} {e : TypeId} {A : Option Addr} {n c : Nat} {f : Nat → Int} (h : Own w base e A n c f) (hn : 0 < n) :
    ∃ g, A = some ⟨g, 0, none⟩ ∧ base ≤ g ∧ g < w.heap.size ∧ (∀ k, k < n → w.cell? ⟨g, k, none⟩ = some (.int .u8 (f k))) ∧ ∀ k, w.frozen? ⟨g, k, none⟩ = false := by
  have hh := h
  rcases h.2 with ⟨_, h0⟩ | ⟨g, cap, cur, hv, hb, hg, hnc, _⟩
  · omega
  · injection hv with h1 _ h3
    subst h1
    have hlt : g < w.heap.size := by
      rcases Nat.lt_or_ge g w.heap.size with hlt | hge
      · exact hlt
      · rw [Array.getElem?_eq_none hge] at hg; cases hg
    refine ⟨g, rfl, hb, hlt, fun k hk => ?_, fun k => World.ownsRow.frozenAt hh k⟩
    rw [World.ownsRow.cellAt hh k (by omega)]
    simp [nums, List.getElem?_map, List.getElem?_range hk]
theorem Own.rd {w : World} {base : Nat} {e : TypeId} {A : Option Addr} {n c : Nat} {f : Nat → Int} (h : Own w base e A n c f) : Rd w w.heap.size A n f := by
  rcases Nat.eq_zero_or_pos n with h0 | h0
  · exact .inl h0
  · obtain ⟨g, rfl, _, hlt, hc, _⟩ := h.lies h0
    exact .inr ⟨g, 0, rfl, hlt, fun k hk => by rw [Nat.zero_add]; exact hc k hk⟩
theorem Own.fresh (w : World) (base g : Nat) (hg : g = w.heap.size) (hb : base ≤ w.heap.size) (e : TypeId) (f : Nat → Int) : Own (w.alloc (.cells #[] e)) base e (some ⟨g, 0, none⟩) 0 0 f := by
  subst hg
  exact
  ⟨by simp [nums], .inr ⟨w.heap.size, 0, #[], rfl, hb, heap_alloc_new w _, Nat.le_refl _, by unfold maxLen; omega, by simp, by simp [nums]⟩⟩
theorem Own.same {w : World} {base : Nat} {e : TypeId} {A : Option Addr} {n c : Nat} {f g : Nat → Int} (h : Own w base e A n c f) (hg : ∀ k, k < n → g k = f k) : Own w base e A n c g := by
  unfold Own at h ⊢
  rw [nums_congr hg]
  exact h
theorem Own.alloc {w : World} {base : Nat} {e : TypeId} {A : Option Addr} {n c : Nat} {f : Nat → Int} (h : Own w base e A n c f) (o : Obj) : Own (w.alloc o) base e A n c f := World.ownsRow.alloc h o
/-- Kept where all below the heap's end is kept. -/
theorem Own.below {w w' : World} {base : Nat} {e : TypeId} {A : Option Addr} {n c : Nat} {f : Nat → Int} (h : Own w base e A n c f) (hb : Below w.heap.size w w') : Own w' base e A n c f := by
  refine ⟨h.1, ?_⟩
  rcases h.2 with hh | ⟨g, cap, cur, hv, hg, hh, r⟩
  · exact .inl hh
  · have hlt : g < w.heap.size := by
      rcases Nat.lt_or_ge g w.heap.size with hlt | hge
      · exact hlt
      · rw [Array.getElem?_eq_none hge] at hh; cases hh
    exact .inr ⟨g, cap, cur, hv, hg, (hb.block g hlt).trans hh, r⟩
theorem Own.far {w : World} {base : Nat} {e : TypeId} {A : Option Addr} {n c : Nat} {f : Nat → Int} (h : Own w base e A n c f) {p : Addr} (hp : p.block < base) (u : Value) : Own (w.setCell p u) base e A n c f := ownsRow_setCell_below h hp u
theorem Own.le {w : World} {base base' : Nat} {e : TypeId} {A : Option Addr} {n c : Nat} {f : Nat → Int} (h : Own w base e A n c f) (hb : base' ≤ base) : Own w base' e A n c f := by
  refine ⟨h.1, ?_⟩
  rcases h.2 with hh | ⟨g, cap, cur, hv, hg, r⟩
  · exact .inl hh
  · exact .inr ⟨g, cap, cur, hv, Nat.le_trans hb hg, r⟩
/-- Where an append on it may have written. -/
theorem Own.at_ {w : World} {base : Nat} {e : TypeId} {A : Option Addr} {n c : Nat} {f : Nat → Int} (h : Own w base e A n c f) : ∀ k, Value.ownBlock (.slice A n c) = some k → base ≤ k := fun k hk => (World.ownsRow.lt h k hk).1
/-- f, but v at p. -/
def upd (f : Nat → Int) (p : Nat) (v : Int) (k : Nat) : Int := if k = p then v else f k
theorem upd_byt {f : Nat → Int} (hf : Byt f) (p : Nat) {v : Int} (hv : 0 ≤ v ∧ v ≤ 255) : Byt (upd f p v) := fun k => by
  unfold upd
  split
  · exact hv
  · exact hf k
theorem nums_upd (n p : Nat) (f : Nat → Int) (v : Int) : nums n (upd f p v) = (nums n f).set p v := by
  refine List.ext_getElem? fun k => ?_
  rw [List.getElem?_set]
  unfold nums upd
  simp only [List.getElem?_map, List.length_map, List.length_range]
  by_cases hk : k < n
  · rw [List.getElem?_range hk]
    by_cases e : p = k
    · subst e; simp [hk]
    · have e' : k ≠ p := fun h => e h.symm
      simp [e, e']
  · have e : (List.range n)[k]? = none := by simp; omega
    rw [e]
    simp
    intro h1
    omega
/-- A store into it. -/
theorem Own.set_ {w : World} {base : Nat} {e : TypeId} {g n c : Nat} {f : Nat → Int} (h : Own w base e (some ⟨g, 0, none⟩) n c f) (p : Nat) (v : Int) :
    Own (w.setCell ⟨g, p, none⟩ (.int .u8 v)) base e (some ⟨g, 0, none⟩) n c (upd f p v) := by
  have e := (World.ownsRow.stored h p (.int .u8 v)).1
  unfold Own
  rw [nums_upd, List.map_set]
  exact e
/-- A new block of one or two bytes. -/
theorem rd_new1 (w : World) (B g : Nat) (hg : g = w.heap.size) (hB : g < B) (x : Int) (e : TypeId) : Rd (w.alloc (.cells #[.int .u8 x] e)) B (some ⟨g, 0, none⟩) 1 (fun _ => x) := by
  subst hg
  refine .inr ⟨_, _, rfl, hB, fun k hk => ?_⟩
  obtain rfl : k = 0 := by omega
  go_simp
theorem rd_new2 (w : World) (B g : Nat) (hg : g = w.heap.size) (hB : g < B) (x y : Int) (e : TypeId) : Rd (w.alloc (.cells #[.int .u8 x, .int .u8 y] e)) B (some ⟨g, 0, none⟩) 2 (fun k => if k = 0 then x else y) := by
  subst hg
  refine .inr ⟨_, _, rfl, hB, fun k hk => ?_⟩
  match k, hk with
  | 0, _ => go_simp
  | 1, _ => go_simp
/-- f, n of it, and behind them g. -/
def cat (n : Nat) (f g : Nat → Int) (k : Nat) : Int := if k < n then f k else g (k - n)
theorem nums_cat (n m : Nat) (f g : Nat → Int) : nums (n + m) (cat n f g) = nums n f ++ nums m g := by
  unfold nums
  rw [List.range_add, List.map_append, List.map_map]
  congr 1
  · exact List.map_congr_left fun k hk => by simp at hk; simp [cat, hk]
  · exact List.map_congr_left fun k _ => by simp [cat]; intro h; omega
theorem run_append_rd {w : World} (base : Nat) (t ty e : TypeId) (i : TypeInfo) (ht : P.underlying t = some (.slice e)) (hi : P.info? e = some i) (hz : i.zero = some (.int .u8 0)) (hsize : i.size = 1) (hby : i.bytes = 1)
    {A : Option Addr} {n c : Nat} {f : Nat → Int} (hown : Own w base e A n c f) {B m c' : Nat} {A' : Option Addr} {g : Nat → Int} (hr : Rd w B A' m g)
    (hlen : n + m ≤ 140737488355328) (hbase : base ≤ w.heap.size) :
    ∃ A2 c2 w', (Builtin.append_ #[t, t] ty #[.slice A n c, .slice A' m c']).run P w = .ok (.slice A2 (n + m) c2) w' ∧ Own w' base e A2 (n + m) c2 (cat n f g) ∧ w.grownBy w' (Value.ownBlock (.slice A n c)) ∧
      (Value.ownBlock (.slice A2 (n + m) c2) = Value.ownBlock (.slice A n c) ∨ Value.ownBlock (.slice A2 (n + m) c2) = some w.heap.size) := by
  have zero : m = 0 → A' = none → (Builtin.append_ #[t, t] ty #[.slice A n c, .slice A' m c']).run P w = .ok (.slice A n c) w := by
    rintro rfl rfl
    rcases hown.2 with ⟨hv, rfl⟩ | ⟨g', cap, cur, hv, _, _, hnc, _⟩
    · rw [hv]
      simp [Builtin.append_, run_underlying ht, sizeOf, typeInfo, hi, Builtin.lenOf, Builtin.firstCells]
    · rw [hv]
      simp [Builtin.append_, run_underlying ht, sizeOf, typeInfo, hi, Builtin.lenOf, Builtin.firstCells, hnc, storeCells]
  have some_ : ∀ ad : Addr, A' = some ad → (∀ j u, ((nums m g).map (Value.int .u8))[j]? = some u → w.cell? (ad.add j) = some u) → _ := fun ad had hcells =>
    run_append_own_at (P := P) w base t ty e i (.int .u8 0) 1 1 ht hi hz hsize hby rfl (by omega) (.slice A n c) n _ hown ad m c' ((nums m g).map (Value.int .u8)) (by simp [nums_len]) hcells
      (by intro u hu; simp at hu; obtain ⟨x, _, rfl⟩ := hu; rfl) (by unfold maxLen; omega) (by omega) hbase
  have close : ∀ ad : Addr, A' = some ad → (∀ j u, ((nums m g).map (Value.int .u8))[j]? = some u → w.cell? (ad.add j) = some u) →
      ∃ A2 c2 w', (Builtin.append_ #[t, t] ty #[.slice A n c, .slice A' m c']).run P w = .ok (.slice A2 (n + m) c2) w' ∧ Own w' base e A2 (n + m) c2 (cat n f g) ∧ w.grownBy w' (Value.ownBlock (.slice A n c)) ∧
      (Value.ownBlock (.slice A2 (n + m) c2) = Value.ownBlock (.slice A n c) ∨ Value.ownBlock (.slice A2 (n + m) c2) = some w.heap.size) := by
    intro ad had hcells
    obtain ⟨v', w', hrun, h2, h3, _, h5⟩ := some_ ad had hcells
    subst had
    rw [← List.map_append, ← nums_cat] at h2
    have hv : ∃ A2 c2, v' = .slice A2 (n + m) c2 := by
      rcases h2.2 with ⟨hv, hz⟩ | ⟨g', cap, cur, hv, _⟩
      · exact ⟨none, 0, by rw [hv, hz]⟩
      · exact ⟨_, _, hv⟩
    obtain ⟨A2, c2, rfl⟩ := hv
    exact ⟨A2, c2, w', hrun, h2, h3, h5⟩
  rcases hr with rfl | ⟨b, off, rfl, hlt, hc⟩
  · cases hA : A' with
    | none =>
      have hrun := zero rfl hA
      rw [hA] at hrun
      refine ⟨A, c, w, hrun, ?_, World.grownBy.refl w _, .inl rfl⟩
      have e : nums (n + 0) (cat n f g) = nums n f := by rw [nums_cat]; simp [nums]
      unfold Own
      rw [e]
      exact hown
    | some ad =>
      have := close ad hA (by simp [nums])
      rw [hA] at this
      exact this
  · refine close _ rfl fun j u hu => ?_
    have hj : j < m := by
      rcases Nat.lt_or_ge j m with h | h
      · exact h
      · rw [List.getElem?_eq_none (by simpa [nums_len] using h)] at hu; cases hu
    have hplain : (⟨b, off, none⟩ : Addr).add j = ⟨b, off + j, none⟩ := by unfold Addr.add; split <;> simp_all
    rw [hplain, hc j hj]
    simpa [nums, List.getElem?_map, List.getElem?_range hj] using hu
/-- 'out = append(out, b..)' in a plain region. -/
theorem wpList_append_rd {w : World} {ops : Array Oper} {rest : List Oper} {o : Oper} {a : Act} {Q : Exit → Act → World → Prop} (hgd : Region.wanted o (yielded ops a.tmps) = true) (s x : Operand) (t : TypeId)
    (ho : o.op = .call { callee := .builtin .append, args := #[s, x], argTypes := #[t, t] })
    (base : Nat) (e : TypeId) (i : TypeInfo) (ht : P.underlying t = some (.slice e)) (hi : P.info? e = some i) (hz : i.zero = some (.int .u8 0)) (hsize : i.size = 1) (hby : i.bytes = 1)
    {A : Option Addr} {n c : Nat} {f : Nat → Int} (hs : a.eval s = .slice A n c) (hown : Own w base e A n c f) {B m c' : Nat} {A' : Option Addr} {g : Nat → Int} (hx : a.eval x = .slice A' m c') (hr : Rd w B A' m g)
    (hlen : n + m ≤ 140737488355328) (hbase : base ≤ w.heap.size)
    (h : ∀ A2 c2 w', Own w' base e A2 (n + m) c2 (cat n f g) → w.grownBy w' (Value.ownBlock (.slice A n c)) →
      (Value.ownBlock (.slice A2 (n + m) c2) = Value.ownBlock (.slice A n c) ∨ Value.ownBlock (.slice A2 (n + m) c2) = some w.heap.size) → wpList P ops Q rest (a.put o.dst (.slice A2 (n + m) c2)) w') :
    wpList P ops Q (o :: rest) a w := by
  refine BigFrame.wpList_want hgd fun K hK => ?_
  obtain ⟨A2, c2, w', hrun, h2, h3, h4⟩ := run_append_rd (P := P) base t o.type e i ht hi hz hsize hby hown hr hlen hbase (c' := c')
  unfold Oper.wp execOp
  simp only [ho, resolve, invoke, builtin, Sem.run_bind, Sem.run_pure, Result.andThen_ok, List.map_toArray, List.map_cons, List.map_nil, hs, hx, hrun]
  exact hK _ _ (h A2 c2 w' h2 h3 h4)
theorem step_append_rd {w : World} {ops : Array Oper} {o : Oper} {a : Act} {K : Act → World → Prop} {Q : Exit → Act → World → Prop} {E : Prop} (hgd : Region.wanted o (yielded ops a.tmps) = true) (s x : Operand) (t : TypeId)
    (ho : o.op = .call { callee := .builtin .append, args := #[s, x], argTypes := #[t, t] })
    (base : Nat) (e : TypeId) (i : TypeInfo) (ht : P.underlying t = some (.slice e)) (hi : P.info? e = some i) (hz : i.zero = some (.int .u8 0)) (hsize : i.size = 1) (hby : i.bytes = 1)
    {A : Option Addr} {n c : Nat} {f : Nat → Int} (hs : a.eval s = .slice A n c) (hown : Own w base e A n c f) {B m c' : Nat} {A' : Option Addr} {g : Nat → Int} (hx : a.eval x = .slice A' m c') (hr : Rd w B A' m g)
    (hlen : n + m ≤ 140737488355328) (hbase : base ≤ w.heap.size)
    (h : ∀ A2 c2 w', Own w' base e A2 (n + m) c2 (cat n f g) → w.grownBy w' (Value.ownBlock (.slice A n c)) → K (a.put o.dst (.slice A2 (n + m) c2)) w') :
    if Region.wanted o (yielded ops a.tmps) = true then Oper.wp P o a w K Q else E := by
  rw [if_pos hgd]
  obtain ⟨A2, c2, w', hrun, h2, h3, _⟩ := run_append_rd (P := P) base t o.type e i ht hi hz hsize hby hown hr hlen hbase (c' := c')
  unfold Oper.wp execOp
  simp only [ho, resolve, invoke, builtin, Sem.run_bind, Sem.run_pure, Result.andThen_ok, List.map_toArray, List.map_cons, List.map_nil, hs, hx, hrun]
  exact h A2 c2 w' h2 h3

/-! ### Regions that draw their order, whose calls make memory but turn none of the old -/
/-- A world that is wc below wc's end. -/
structure Stay (wc : World) where
  w : World
  below : Below wc.heap.size wc w
def Stay.here (wc : World) : Stay wc := ⟨wc, Below.refl _ _⟩
instance (wc : World) : Nonempty (Stay wc) := ⟨Stay.here wc⟩
theorem Stay.cell {wc : World} {p : Addr} {v : Value} (h : wc.cell? p = some v) (W : Stay wc) : W.w.cell? p = some v :=
  (W.below.cell (World.block_lt_of_cell? wc p h)).trans h
theorem Stay.rd {wc : World} {A : Option Addr} {n : Nat} {f : Nat → Int} (h : Rd wc wc.heap.size A n f) (W : Stay wc) : Rd W.w W.w.heap.size A n f :=
  (h.keep W.below).more W.below.size
theorem Calls.stay {wc : World} {fn : FuncId} {args : Array Value} (W : Stay wc) {v : Value} (h : Calls P fn args W.w fun e w' => e = .returned v ∧ Below W.w.heap.size W.w w') :
    Calls P fn args W.w fun e w'' => e = .returned v ∧ ∃ W' : Stay wc, w'' = W'.w :=
  h.mono fun _ w' ⟨he, hb⟩ => ⟨he, ⟨w', W.below.trans (hb.mono W.below.size)⟩, rfl⟩
theorem wp_region_stay {id : Nat} {Q : Exit → Act → World → Prop} {a : Act} {w : World} {l : List Oper} (hm : P.follows .mixedOrders = true) (hB : Region.lexB .any l.toArray = true)
    (h : wpQuiet P l.toArray (fun w' => ∃ W : Stay w, w' = W.w) (fun a' => ∀ w', (∃ W : Stay w, w' = W.w) → Q .normal a' w') l a) : (Code.region id l.toArray true).wp P Q a w :=
  wp_region_quiet (C := fun w' => ∃ W : Stay w, w' = W.w) hm hB ⟨⟨w.drew, (Below.refl _ _).drew⟩, rfl⟩ (by simpa using h)
end
end Go.Proofs.Ytkmakdhlaenaoaa
/- What every law's proof ends with, over any program: the call answered true and turned nothing that was there: so the arguments read as they did. And how a slice of bytes that came in is opened. -/
namespace Go.Proofs.Ytkmakdhlaenaoaa
open Go.ChangeShapes Go.WideShapes Go.ChangeAt Go.RowKit

section
variable {H : Type} {enc : TypeId × Value → H} {P : Program}
theorem trodAll_kept (hl : laidOutB P = true) {W W' : World} (hb : Below W.heap.size W W') (sp : Nat → Bool) :
    ∀ (ts : List TypeId) (vs : List Value) (ds : List (DataW H)) (ps : List MemPlace), (∀ t ∈ ts, P.readableRec t = true ∧ t < P.types.size) →
      DataW.TrodAll enc P W 0 (fun _ => true) true ts vs ds ps → (∀ x ∈ ps, x.block < W.heap.size) → (∀ x ∈ ps, sp x.block = true) → DataW.TrodAll enc P W' 0 sp true ts vs ds ps
  | [], _, _, _, _, h, _, _ => by
    obtain ⟨rfl, rfl, rfl⟩ := trodAll_nil h
    exact trodAll_mk0
  | t :: ts, _, _, _, hr, h, hlt, hsp => by
    obtain ⟨v, vs1, d, ds1, a, b, rfl, rfl, rfl, h1, h2⟩ := trodAll_cons h
    have h3 := WideElems.Trod_stays (sp' := sp) hl (hr t (by simp)).1 (hr t (by simp)).2 h1 (fun x hx => hb.same (hlt x (by simp [hx]))) (fun x hx => hsp x (by simp [hx]))
    exact trodAll_cons_mk h3 (trodAll_kept hl hb sp ts vs1 ds1 b (fun t ht => hr t (by simp [ht])) h2 (fun x hx => hlt x (by simp [hx])) (fun x hx => hsp x (by simp [hx])))
/-- The row's last step: true, the arguments as they were, of memory that was there nothing turned. -/
theorem law_post {f : Func} {s : ChangeSpec} {apart fresh handsOn again : Bool} {W W' : World} {args : Array Value} {tb : TypeId} {ds : List (DataW H)} {before : List MemPlace}
    (hW : DataW.Whole enc P f.params.toList s.vars apart W args.toList ds [] before) (hb : Below W.heap.size W W') (hl : laidOutB P = true) (hvars : s.vars = [])
    (hr : f.params.toList.all (fun t => P.readableRec t && decide (t < P.types.size)) = true) (hres : f.resultTypes = #[tb]) (htb : P.underlying tb = some .bool)
    (hs : s.fn H (ds ++ []) = { results := [.lit (.bool true)], args := ds }) :
    s.post enc P f apart fresh handsOn again W args (.bool true) W' := by
  have hr' : ∀ t ∈ f.params.toList, P.readableRec t = true ∧ t < P.types.size := fun t ht => by
    have := List.all_eq_true.1 hr t ht
    simpa using this
  have hlt : ∀ p ∈ before, p.block < W.heap.size := fun p hp => hW.lt p hp
  have hold : ∀ p ∈ before, (fun b => decide (b < W.heap.size)) p.block = true := fun p hp => by simpa using hlt p hp
  obtain ⟨p, q, hA, hV, hpq, hz, hn⟩ := id hW
  rw [hvars] at hV
  obtain ⟨_, rfl⟩ := trodVars_none hV
  rw [List.append_nil] at hpq
  subst hpq
  have hargs : ∀ sp : Nat → Bool, (∀ x ∈ before, sp x.block = true) → DataW.TrodAll enc P W' 0 sp true f.params.toList args.toList ds before := fun sp hsp => trodAll_kept hl hb sp _ _ _ _ hr' hA hlt hsp
  have hvs : ∀ sp : Nat → Bool, DataW.TrodVars enc P W' sp s.vars ([] : List (DataW H)) [] := fun sp => by rw [hvars]; exact rfl
  have hrs : ∀ (b : Nat) (sp : Nat → Bool) (hd : Bool), DataW.TrodAll enc P W' b sp hd f.resultTypes.toList ((Value.bool true).resultList f.resultTypes.size) [.lit (.bool true)] [] := fun b sp hd => by
    rw [hres]
    exact trodAll_cons_mk (shut_bool htb true) trodAll_mk0
  refine ⟨ds, [], before, [], before, [], hW, ?_, ?_, ?_, World.keptBut_mono (fun x hx => ⟨hx, Or.inr (Or.inl hx)⟩) (hb.frame (· ∈ before)), fun _ => ⟨?_, [.lit (.bool true)] ++ ds, [], before, ?_, fun x hx _ => hx⟩⟩
  · rw [hs]; exact hrs _ _ _
  · rw [hs]; exact hargs _ hold
  · rw [hs]; exact hvs _
  · exact ok_one hres rfl (okWide_bool_mk htb true)
  · refine ⟨before, [], trodAll_append (hargs _ (fun _ _ => rfl)) (hrs _ _ _), hvs _, by simp, ?_, hn⟩
    intro b off hp
    rw [hb.frozen (p := ⟨b, off, none⟩) (hlt _ hp)]
    exact hz b off hp
/-- A slice of bytes that came in. -/
theorem open_rd {W : World} {r : Reach} {b0 : Nat} {t e : TypeId} {v : Value} {d : DataW H} {p : List MemPlace} (ht : P.underlying t = some (.slice e)) (he : P.underlying e = some (.int .u8)) (hc : P.cellsOf e = 1)
    (hv : Value.okWide P W r b0 t v) (h : DataW.Trod enc P W 0 (fun _ => true) true t v d p) :
    ∃ A n c f, v = .slice A n c ∧ n ≤ c ∧ c ≤ maxLen ∧ Byt f ∧ Rd W W.heap.size A n f := by
  obtain ⟨a0, len, cap, rfl⟩ := okWide_slice ht hv
  obtain ⟨fuel, hf⟩ := h
  rcases open_ints ht he hc hf with ⟨hcs, _⟩ | ⟨a, len', cap', zs, hcs, _, hl, hm, hz, _, hcell, hwz⟩
  · simp [Value.cells] at hcs
    obtain ⟨rfl, rfl, rfl⟩ := hcs
    exact ⟨none, 0, 0, fun _ => 0, rfl, Nat.le_refl _, Nat.zero_le _, fun _ => ⟨Int.le_refl 0, (by decide : (0 : Int) ≤ 255)⟩, .inl rfl⟩
  · simp [Value.cells] at hcs
    obtain ⟨rfl, rfl, rfl⟩ := hcs
    simp only [if_true] at hz
    refine ⟨some a, len, cap, fun k => zs.getD k 0, rfl, hl, hm, fun k => ?_, ?_⟩
    · by_cases hk : k < zs.length
      · have hm := hwz (zs.getD k 0) (by simp [List.getD, hk])
        simpa [Lit.wf, IntKind.min, IntKind.max, IntKind.signed, IntKind.bits] using hm
      · have e0 : zs.getD k 0 = 0 := by simp [List.getD, hk]
        show 0 ≤ zs.getD k 0 ∧ zs.getD k 0 ≤ 255
        omega
    · rcases Nat.eq_zero_or_pos len with h0 | h0
      · exact .inl h0
      · obtain ⟨b, off, spot⟩ := a
        have hspot : spot = none := by simpa [Addr.add] using World.cell?_spot (hcell 0 (by omega))
        subst hspot
        have hlt := World.block_lt_of_cell? W _ (hcell 0 (by omega))
        exact .inr ⟨b, off, rfl, by simpa [Addr.add] using hlt, fun k hk => by rw [← add_plain]; exact hcell k (by omega)⟩
/-- An array of bytes that came in. -/
theorem open_bytes_arr {W : World} {r : Reach} {b0 n : Nat} {t e : TypeId} {v : Value} {d : DataW H} {p : List MemPlace} (ht : P.underlying t = some (.array n e)) (he : P.underlying e = some (.int .u8)) (hc : P.cellsOf e = 1) (hC : P.cellsOf t = n)
    (hv : Value.okWide P W r b0 t v) (h : DataW.Trod enc P W 0 (fun _ => true) true t v d p) : ∃ f, Byt f ∧ v = .agg ((nums n f).map (Value.int .u8)).toArray := by
  have hv' : ∃ cs, v = .agg cs ∧ cs.size = P.cellsOf t := by
    simp only [Value.okWide, ht] at hv
    obtain ⟨cs, h1, h2, _⟩ := hv
    exact ⟨cs, h1, h2⟩
  obtain ⟨cs, rfl, hsz⟩ := hv'
  rw [hC] at hsz
  obtain ⟨fuel, hf⟩ := h
  obtain ⟨xs, m, _, _, _, hl, hg⟩ := DataW.trod_array ht hf
  have each : ∀ k, k < n → ∃ x, cs[k]? = some (.int .u8 x) ∧ 0 ≤ x ∧ x ≤ 255 := by
    intro k hk
    have e1 := hg k hk
    rw [hc, Nat.mul_one] at e1
    have hx : xs[k]? = some (xs[k]'(by omega)) := List.getElem?_eq_getElem (by omega)
    rw [hx] at e1
    obtain ⟨x, e2, _, e3⟩ := DataW.trod_int he e1
    have hlen : k < cs.toList.length := by simpa [hsz] using hk
    have e4 : ((Value.agg cs).cells.toList.drop k).take 1 = [cs.toList[k]] := by
      simp only [Value.cells]
      rw [List.drop_eq_getElem_cons hlen]
      rfl
    rw [e4] at e2
    have e5 : cs.toList[k] = .int .u8 x := by simpa using e2
    refine ⟨x, ?_, by simpa [Lit.wf, IntKind.min, IntKind.max, IntKind.signed, IntKind.bits] using e3⟩
    rw [← Array.getElem?_toList, List.getElem?_eq_getElem hlen, e5]
  refine ⟨fun k => match cs[k]? with | some (.int .u8 x) => x | _ => 0, fun k => ?_, ?_⟩
  · show 0 ≤ (match cs[k]? with | some (.int .u8 x) => x | _ => (0 : Int)) ∧ (match cs[k]? with | some (.int .u8 x) => x | _ => (0 : Int)) ≤ 255
    by_cases hk : k < n
    · obtain ⟨x, e1, e2⟩ := each k hk
      rw [e1]
      exact e2
    · have e1 : cs[k]? = none := by simp [hsz]; omega
      rw [e1]
      exact ⟨Int.le_refl 0, (by decide : (0 : Int) ≤ 255)⟩
  · congr 1
    refine Array.ext_getElem? fun k => ?_
    by_cases hk : k < n
    · obtain ⟨x, e1, _⟩ := each k hk
      rw [e1]
      simp [nums, List.getElem?_map, List.getElem?_range hk, e1]
    · have e1 : cs[k]? = none := by simp [hsz]; omega
      rw [e1]
      symm
      exact Array.getElem?_eq_none (by rw [List.size_toArray, List.length_map, nums_len]; omega)
end
end Go.Proofs.Ytkmakdhlaenaoaa
/- Stage 11's pure words, numbers: in which level and slot a tick lies, seen from now; what a tick more does to that. -/
namespace Go.Proofs.Ytkmakdhlaenaoaa
/-- The level of a tick. -/
def lev (now at_ : Nat) : Nat := min ((Lib.bitLen ((at_ ^^^ now) / 256) + 7) / 8) 3
/-- The slot of a level in which a tick is. -/
def slt (l at_ : Nat) : Nat := l * 256 + at_ / 256 ^ l % 256
def plc (now at_ : Nat) : Nat := slt (lev now at_) at_
theorem lev_le (now at_ : Nat) : lev now at_ ≤ 3 := Nat.min_le_right ..
theorem slt_lt {l : Nat} (h : l ≤ 3) (at_ : Nat) : slt l at_ < 1024 := by
  unfold slt
  have := Nat.mod_lt (at_ / 256 ^ l) (show 0 < 256 by omega)
  omega
theorem slt_level {l l' a b : Nat} (h : slt l a = slt l' b) : l = l' ∧ a / 256 ^ l % 256 = b / 256 ^ l' % 256 := by
  unfold slt at h
  have := Nat.mod_lt (a / 256 ^ l) (show 0 < 256 by omega)
  have := Nat.mod_lt (b / 256 ^ l') (show 0 < 256 by omega)
  omega
theorem xor_cut (a b k : Nat) : (a ^^^ b) / 256 ^ k = (a / 256 ^ k) ^^^ (b / 256 ^ k) := by
  have e : 256 ^ k = 2 ^ (8 * k) := by rw [Nat.pow_mul]
  rw [e, ← Nat.shiftRight_eq_div_pow, ← Nat.shiftRight_eq_div_pow, ← Nat.shiftRight_eq_div_pow, Nat.shiftRight_xor_distrib]
theorem xor_zero_eq {a b : Nat} (h : a ^^^ b = 0) : a = b := by
  have h2 : (a ^^^ b) ^^^ b = 0 ^^^ b := by rw [h]
  rw [Nat.xor_assoc, Nat.xor_self, Nat.xor_zero, Nat.zero_xor] at h2
  exact h2
theorem bitLen_zero {x : Nat} (hx : x < 2 ^ 64) (h : Lib.bitLen x = 0) : x = 0 := by
  rcases Nat.eq_zero_or_pos x with e | e
  · exact e
  · have := (Lib.bitLenAux_bounds 64 x hx (by omega)).1
    unfold Lib.bitLen at h
    omega
theorem bitLen_ge {x n : Nat} (hx : x < 2 ^ 64) (h : n < Lib.bitLen x) : 2 ^ n ≤ x := by
  have hx0 : x ≠ 0 := by
    rintro rfl
    unfold Lib.bitLen at h
    rw [Lib.bitLenAux_zero] at h
    omega
  have := (Lib.bitLenAux_bounds 64 x hx hx0).2.1
  unfold Lib.bitLen at h
  exact Nat.le_trans (Nat.pow_le_pow_right (by omega) (by omega)) this
theorem xor_lt64 {now at_ : Nat} (hn : now < 2 ^ 64) (ha : at_ < 2 ^ 64) : (at_ ^^^ now) / 256 < 2 ^ 64 :=
  Nat.lt_of_le_of_lt (Nat.div_le_self _ _) (Nat.xor_lt_two_pow ha hn)
theorem lev_zero {now at_ : Nat} (hn : now < 2 ^ 64) (ha : at_ < 2 ^ 64) (h : lev now at_ = 0) : at_ / 256 = now / 256 := by
  unfold lev at h
  have hb : Lib.bitLen ((at_ ^^^ now) / 256) = 0 := by omega
  have h0 := bitLen_zero (xor_lt64 hn ha) hb
  have := xor_cut at_ now 1
  rw [Nat.pow_one, h0] at this
  exact xor_zero_eq this.symm
theorem lev_pos {now at_ : Nat} (hn : now < 2 ^ 64) (ha : at_ < 2 ^ 64) (h : 0 < lev now at_) : at_ / 256 ^ lev now at_ ≠ now / 256 ^ lev now at_ := by
  intro e
  have hx := xor_cut at_ now (lev now at_)
  rw [e, Nat.xor_self] at hx
  generalize hl : lev now at_ = l at *
  unfold lev at hl
  have hb : 8 * (l - 1) < Lib.bitLen ((at_ ^^^ now) / 256) := by omega
  have hg := bitLen_ge (xor_lt64 hn ha) hb
  have h1 : 256 ^ l = 2 ^ (8 * (l - 1)) * 256 := by
    rw [Nat.pow_mul]
    have : l = (l - 1) + 1 := by omega
    rw [this, Nat.pow_succ]
    rfl
  have h2 := (Nat.le_div_iff_mul_le (by omega)).1 hg
  rw [← h1] at h2
  have h3 := Nat.div_pos h2 (Nat.pow_pos (by omega))
  omega
/-- Where a tick that is to come lies. -/
def Std (now at_ q : Nat) : Prop := ∃ l, l ≤ 3 ∧ q = slt l at_ ∧ now / 256 ^ l < at_ / 256 ^ l ∧ (l = 0 → at_ < now + 256)
/-- Where it lies while n is being laid anew: levels above M are. -/
def Lse (M n at_ q : Nat) : Prop := ∃ l, l ≤ 3 ∧ q = slt l at_ ∧ (n - 1) / 256 ^ l < at_ / 256 ^ l ∧ (M < l → n / 256 ^ l < at_ / 256 ^ l) ∧ (l = 0 → at_ < n + 256)
theorem pow_pos256 (l : Nat) : 0 < 256 ^ l := Nat.pow_pos (by omega)
theorem std_lt {now at_ q : Nat} (h : Std now at_ q) : now < at_ := by
  obtain ⟨l, _, _, h, _⟩ := h
  rcases Nat.lt_or_ge now at_ with q | q
  · exact q
  · have := Nat.div_le_div_right (c := 256 ^ l) q
    omega
theorem std_lay {now at_ : Nat} (hn : now < 2 ^ 64) (ha : at_ < 2 ^ 64) (h : now < at_) : Std now at_ (plc now at_) := by
  refine ⟨lev now at_, lev_le .., rfl, ?_, fun e => ?_⟩
  · have h1 := Nat.div_le_div_right (c := 256 ^ lev now at_) (Nat.le_of_lt h)
    rcases Nat.eq_zero_or_pos (lev now at_) with e | e
    · rw [e]
      simpa using h
    · have := lev_pos hn ha e
      omega
  · have := lev_zero hn ha e
    omega
theorem lse_lay {M n at_ : Nat} (hn0 : 0 < n) (hn : n < 2 ^ 64) (ha : at_ < 2 ^ 64) (h : n ≤ at_) : Lse M n at_ (plc n at_) := by
  have hd : (n - 1) / 256 ^ lev n at_ ≤ n / 256 ^ lev n at_ := Nat.div_le_div_right (by omega)
  have h1 := Nat.div_le_div_right (c := 256 ^ lev n at_) h
  refine ⟨lev n at_, lev_le .., rfl, ?_, fun e => ?_, fun e => ?_⟩
  · rcases Nat.eq_zero_or_pos (lev n at_) with e | e
    · rw [e]
      simp
      omega
    · have := lev_pos hn ha e
      omega
  · have := lev_pos hn ha (by omega)
    omega
  · have := lev_zero hn ha e
    omega
theorem div_succ_le (a d : Nat) (hd : 0 < d) : (a + 1) / d ≤ a / d + 1 := by
  have := Nat.add_div_right a hd
  have h2 : (a + 1) / d ≤ (a + d) / d := Nat.div_le_div_right (by omega)
  omega
theorem lse_of_std {now at_ q : Nat} (h : Std now at_ q) : Lse 3 (now + 1) at_ q := by
  obtain ⟨l, hl, e, h1, h2⟩ := h
  exact ⟨l, hl, e, h1, fun hh => absurd hh (by omega), fun e => by have := h2 e; omega⟩
/-- No slot of the level begins. -/
theorem div_same {n d : Nat} (hd : 0 < d) (h : n % d ≠ 0) : n / d = (n - 1) / d := by
  have hn : 0 < n := by
    rcases Nat.eq_zero_or_pos n with e | e
    · subst e
      simp at h
    · exact e
  have h1 := Nat.div_add_mod n d
  have hm := Nat.mod_lt n hd
  have h2 : n - 1 = d * (n / d) + (n % d - 1) := by
    generalize d * (n / d) = m at *
    generalize n % d = r at *
    omega
  have h3 : (n % d - 1) / d = 0 := Nat.div_eq_of_lt (by omega)
  rw [h2, Nat.mul_add_div hd, h3, Nat.add_zero]
theorem lse_skip {M n at_ q : Nat} (hM : 0 < M) (hm : n % 256 ^ M ≠ 0) (h : Lse M n at_ q) : Lse (M - 1) n at_ q := by
  obtain ⟨l, hl, e, h1, h2, h3⟩ := h
  refine ⟨l, hl, e, h1, fun hh => ?_, h3⟩
  rcases Nat.lt_or_ge M l with q | q
  · exact h2 q
  · have : l = M := by omega
    subst this
    rw [div_same (pow_pos256 l) hm]
    exact h1
theorem lse_skips {M n at_ q : Nat} (hm : n % 256 ≠ 0) (h : Lse M n at_ q) : Lse 0 n at_ q := by
  obtain ⟨l, hl, e, h1, h2, h3⟩ := h
  refine ⟨l, hl, e, h1, fun hh => ?_, h3⟩
  rw [div_same (pow_pos256 l) fun hz => hm ?_]
  · exact h1
  · have hd : 256 ∣ 256 ^ l := ⟨256 ^ (l - 1), by
      have : l = (l - 1) + 1 := by omega
      rw [this, Nat.pow_succ, Nat.mul_comm]
      rfl⟩
    exact Nat.mod_eq_zero_of_dvd (Nat.dvd_trans hd (Nat.dvd_of_mod_eq_zero hz))
/-- What is not in the slot that begins stays. -/
theorem lse_stays {M n at_ q : Nat} (hM : 0 < M) (h : Lse M n at_ q) (hq : q ≠ slt M n) : Lse (M - 1) n at_ q := by
  obtain ⟨l, hl, e, h1, h2, h3⟩ := h
  refine ⟨l, hl, e, h1, fun hh => ?_, h3⟩
  rcases Nat.lt_or_ge M l with q' | q'
  · exact h2 q'
  · have : l = M := by omega
    subst this
    have hne : at_ / 256 ^ l ≠ n / 256 ^ l := fun he => hq (by rw [e]; unfold slt; rw [he])
    have := div_succ_le (n - 1) (256 ^ l) (pow_pos256 l)
    rcases Nat.eq_zero_or_pos n with en | en
    · subst en
      simp at hne h1 ⊢
      omega
    · rw [show n - 1 + 1 = n by omega] at this
      omega
theorem lse_le {M n at_ q : Nat} (h : Lse M n at_ q) (hn : 0 < n) : n ≤ at_ := by
  obtain ⟨l, _, _, h, _⟩ := h
  rcases Nat.lt_or_ge (n - 1) at_ with q | q
  · omega
  · have := Nat.div_le_div_right (c := 256 ^ l) q
    omega
/-- What is in the slot of now is due now, and nothing else is. -/
theorem lse_due {n at_ q : Nat} (hn : 0 < n) (h : Lse 0 n at_ q) : q = slt 0 n ↔ at_ = n := by
  have hle := lse_le h hn
  obtain ⟨l, hl, e, h1, h2, h3⟩ := h
  constructor
  · intro eq
    rw [eq] at e
    obtain ⟨e1, e2⟩ := slt_level e
    subst e1
    have := h3 rfl
    simp only [Nat.pow_zero, Nat.div_one] at e2
    omega
  · rintro rfl
    rcases Nat.eq_zero_or_pos l with q | q
    · rw [e, q]
    · exact absurd (h2 q) (Nat.lt_irrefl _)
theorem std_of_lse {n at_ q : Nat} (hn : 0 < n) (h : Lse 0 n at_ q) (hne : at_ ≠ n) : Std n at_ q := by
  have hle := lse_le h hn
  obtain ⟨l, hl, e, h1, h2, h3⟩ := h
  refine ⟨l, hl, e, ?_, h3⟩
  rcases Nat.eq_zero_or_pos l with q | q
  · rw [q]
    simp
    omega
  · exact h2 q
end Go.Proofs.Ytkmakdhlaenaoaa
/- Stage 9's pure words: an arena as the document defines it (of each cell the serial of who has it; what was freed and is free, the last one last; how many were taken), what take, free and live do to it, and what always holds. -/
namespace Go.Proofs.Ytkmakdhlaenaoaa
structure Ar where
  has : List Nat
  freed : List Nat
  serial : Nat

namespace Ar
def new (n : Nat) : Ar := ⟨List.replicate n 0, [], 0⟩
/-- The cell that is taken next. -/
def which (s : Ar) : Option Nat := match s.freed.getLast? with
  | some i => some i
  | none => s.has.findIdx? (· == 0)
def at_ (s : Ar) (i : Nat) : Nat := (s.has[i]?).getD 0
def live (s : Ar) (i : Int) (k : Nat) : Bool := decide (0 ≤ i) && decide (k ≠ 0) && (s.at_ i.toNat == k)
def taken (s : Ar) (i : Nat) : Ar := ⟨s.has.set i (s.serial + 1), s.freed.dropLast, s.serial + 1⟩
def gone (s : Ar) (i : Nat) : Ar := ⟨s.has.set i 0, s.freed ++ [i], s.serial⟩
/-- How many are taken. -/
def count (s : Ar) : Nat := s.has.countP (fun x => x != 0)
structure Ok (s : Ar) : Prop where
  low : ∀ i, i ∈ s.freed → s.has[i]? = some 0
  nodup : s.freed.Nodup
  le : ∀ i, s.at_ i ≤ s.serial
  one : ∀ i j, s.at_ i ≠ 0 → s.at_ i = s.at_ j → i = j
theorem at_set {s : Ar} {i v : Nat} (hi : i < s.has.length) (j : Nat) : ((s.has.set i v)[j]?).getD 0 = if j = i then v else s.at_ j := by
  unfold at_
  rw [List.getElem?_set]
  by_cases h : i = j
  · subst h; simp [hi]
  · have h' : ¬ j = i := fun e => h e.symm
    simp [h, h']
theorem at_out {s : Ar} {i : Nat} (h : s.has.length ≤ i) : s.at_ i = 0 := by
  unfold at_
  rw [List.getElem?_eq_none h]; rfl
theorem ok_new (n : Nat) : (new n).Ok := by
  have h : ∀ i, (new n).at_ i = 0 := by
    intro i
    unfold at_ new
    rw [List.getElem?_replicate]
    split <;> rfl
  exact ⟨fun i hi => by simp [new] at hi, by simp [new], fun i => by rw [h]; omega, fun i j hi => absurd (h i) hi⟩
/-- The next cell is one that is free. -/
theorem which_free {s : Ar} (hs : s.Ok) {i : Nat} (h : s.which = some i) : s.has[i]? = some 0 := by
  unfold which at h
  split at h
  · rename_i k hk
    cases h
    exact hs.low _ (List.mem_of_getLast? hk)
  · obtain ⟨hlt, h0, _⟩ := List.findIdx?_eq_some_iff_getElem.mp h
    rw [List.getElem?_eq_getElem hlt]
    simpa using h0
theorem which_lt {s : Ar} (hs : s.Ok) {i : Nat} (h : s.which = some i) : i < s.has.length := by
  have := which_free hs h
  exact (List.getElem?_eq_some_iff.mp this).1
theorem which_at {s : Ar} (hs : s.Ok) {i : Nat} (h : s.which = some i) : s.at_ i = 0 := by
  unfold at_; rw [which_free hs h]; rfl
/-- None is free: each cell is taken. -/
theorem count_full {s : Ar} (h : s.which = none) : s.count = s.has.length := by
  unfold which at h
  split at h
  · cases h
  · rw [List.findIdx?_eq_none_iff] at h
    unfold count
    rw [List.countP_eq_length]
    intro x hx
    have := h x hx
    simpa using this
theorem at_taken {s : Ar} (hs : s.Ok) {i : Nat} (h : s.which = some i) (j : Nat) : (s.taken i).at_ j = if j = i then s.serial + 1 else s.at_ j :=
  at_set (which_lt hs h) j
theorem at_gone {s : Ar} {i : Nat} (h : s.at_ i ≠ 0) (j : Nat) : (s.gone i).at_ j = if j = i then 0 else s.at_ j := by
  have hi : i < s.has.length := Nat.lt_of_not_le fun hle => h (at_out hle)
  exact at_set hi j
theorem ok_taken {s : Ar} (hs : s.Ok) {i : Nat} (h : s.which = some i) : (s.taken i).Ok := by
  have hat := at_taken hs h
  have hlt := which_lt hs h
  refine ⟨?_, ?_, ?_, ?_⟩
  · intro j hj
    have hj' : j ∈ s.freed := (List.dropLast_sublist _).subset hj
    have hne : i ≠ j := by
      rintro rfl
      unfold which at h
      split at h
      · rename_i k hk
        cases h
        obtain ⟨ys, hys⟩ := List.getLast?_eq_some_iff.mp hk
        have hn := hs.nodup
        have hj2 : i ∈ s.freed.dropLast := hj
        rw [hys] at hn hj2
        rw [List.dropLast_concat] at hj2
        rw [List.nodup_append] at hn
        exact hn.2.2 i hj2 i (by simp) rfl
      · rename_i hk
        rw [List.getLast?_eq_none_iff] at hk
        rw [hk] at hj'
        cases hj'
    show (s.has.set i (s.serial + 1))[j]? = some 0
    rw [List.getElem?_set_ne hne]
    exact hs.low j hj'
  · exact hs.nodup.sublist (List.dropLast_sublist _)
  · intro j
    rw [hat]
    show _ ≤ s.serial + 1
    split
    · omega
    · have := hs.le j; omega
  · intro a b ha hab
    rw [hat, hat] at hab
    rw [hat] at ha
    have la := hs.le a
    have lb := hs.le b
    split at hab <;> split at hab
    · omega
    · omega
    · omega
    · rename_i h1 h2
      rw [if_neg h1] at ha
      exact hs.one a b ha hab
theorem ok_gone {s : Ar} (hs : s.Ok) {i : Nat} (h : s.at_ i ≠ 0) : (s.gone i).Ok := by
  have hat := at_gone h
  have hlt : i < s.has.length := Nat.lt_of_not_le fun hle => h (at_out hle)
  refine ⟨?_, ?_, ?_, ?_⟩
  · intro j hj
    show (s.has.set i 0)[j]? = some 0
    rw [List.getElem?_set]
    by_cases e : i = j
    · subst e; simp [hlt]
    · rw [if_neg e]
      rcases List.mem_append.mp hj with hj | hj
      · exact hs.low j hj
      · simp at hj; exact absurd hj.symm e
  · show (s.freed ++ [i]).Nodup
    rw [List.nodup_append]
    refine ⟨hs.nodup, by simp, ?_⟩
    intro a ha b hb e
    simp at hb
    subst hb; subst e
    apply h
    unfold at_
    rw [hs.low _ ha]; rfl
  · intro j
    rw [hat]
    show _ ≤ s.serial
    split
    · omega
    · exact hs.le j
  · intro a b ha hab
    rw [hat, hat] at hab
    rw [hat] at ha
    split at hab <;> split at hab
    · omega
    · rename_i h1 _; rw [if_pos h1] at ha; omega
    · rename_i h1 _; rw [if_neg h1] at ha; omega
    · rename_i h1 h2
      rw [if_neg h1] at ha
      exact hs.one a b ha hab
theorem count_set {l : List Nat} {i v : Nat} (hi : i < l.length) : (l.set i v).countP (fun x => x != 0) + (if l[i] != 0 then 1 else 0) = l.countP (fun x => x != 0) + (if v != 0 then 1 else 0) := by
  induction l generalizing i with
  | nil => simp at hi
  | cons a t ih =>
    cases i with
    | zero => simp only [List.set_cons_zero, List.countP_cons, List.getElem_cons_zero]; omega
    | succ j =>
      have := ih (i := j) (by simpa using hi)
      simp only [List.set_cons_succ, List.countP_cons, List.getElem_cons_succ]
      omega
theorem count_taken {s : Ar} (hs : s.Ok) {i : Nat} (h : s.which = some i) : (s.taken i).count = s.count + 1 := by
  have hlt := which_lt hs h
  have h0 : s.has[i] = 0 := by
    have := which_free hs h
    rw [List.getElem?_eq_getElem hlt] at this
    exact Option.some.inj this
  have := count_set (v := s.serial + 1) hlt
  rw [h0] at this
  simpa [count, taken] using this
theorem count_gone {s : Ar} {i : Nat} (h : s.at_ i ≠ 0) : (s.gone i).count + 1 = s.count := by
  have hlt : i < s.has.length := Nat.lt_of_not_le fun hle => h (at_out hle)
  have h0 : s.has[i] ≠ 0 := by
    have h' := h
    unfold at_ at h'
    rw [List.getElem?_eq_getElem hlt] at h'
    exact h'
  have := count_set (v := 0) hlt
  simpa [count, gone, h0] using this
theorem live_iff {s : Ar} {i : Int} {k : Nat} : s.live i k = true ↔ 0 ≤ i ∧ k ≠ 0 ∧ s.at_ i.toNat = k := by
  unfold live; simp [and_assoc]
/-- A handle that is taken was never live: its serial is above all. -/
theorem not_live {s : Ar} (hs : s.Ok) {i : Int} {k : Nat} (h : s.serial < k) : s.live i k = false := by
  have := hs.le i.toNat
  cases e : s.live i k with
  | false => rfl
  | true => obtain ⟨_, _, h3⟩ := live_iff.mp e; omega
theorem live_taken {s : Ar} (hs : s.Ok) {i : Nat} (h : s.which = some i) (j : Int) (k : Nat) (hk : k ≤ s.serial) : (s.taken i).live j k = s.live j k := by
  have h0 := which_at hs h
  unfold live
  rw [at_taken hs h]
  split
  · rename_i e
    rw [e, h0]
    by_cases hk0 : k = 0
    · simp [hk0]
    · have h1 : (s.serial + 1 == k) = false := by simp; omega
      have h2 : (0 == k) = false := by simp; omega
      rw [h1, h2]
  · rfl
theorem live_new {s : Ar} (hs : s.Ok) {i : Nat} (h : s.which = some i) : (s.taken i).live (i : Int) (s.serial + 1) = true := by
  rw [live_iff]
  refine ⟨by omega, by omega, ?_⟩
  rw [at_taken hs h]; simp
theorem live_gone {s : Ar} (hs : s.Ok) {i : Nat} (h : s.at_ i ≠ 0) (j : Int) (k : Nat) : (s.gone i).live j k = (s.live j k && (k != s.at_ i)) := by
  unfold live
  rw [at_gone h]
  by_cases e : j.toNat = i
  · rw [if_pos e, e]
    by_cases h1 : s.at_ i = k
    · subst h1; simp; intro _ e; omega
    · have h3 : (s.at_ i == k) = false := by simp [h1]
      rw [h3]
      by_cases hk0 : k = 0
      · simp [hk0]
      · have : (0 == k) = false := by simp; omega
        rw [this]; simp
  · rw [if_neg e]
    by_cases h1 : s.at_ j.toNat = k
    · subst h1
      by_cases h2 : s.at_ j.toNat = 0
      · simp [h2]
      · have : s.at_ j.toNat ≠ s.at_ i := fun e' => e (hs.one _ _ h2 e')
        have h4 : (s.at_ j.toNat != s.at_ i) = true := by simp [this]
        rw [h4]; simp
    · simp [h1]
end Ar
end Go.Proofs.Ytkmakdhlaenaoaa
