/- Plain words for slices of bytes, over any program: a slice that reads as a function of its place; one of the call's own, onto which is appended; regions whose calls make memory but turn none of the old. -/
import Derived.WalkKit
import Derived.WalkSpells
import Derived.Maps.AppendAt
import Derived.Laws.BytesArg
import Derived.Deep.Quiet
import Derived.Deep.Draws
import Derived.BigQuiet
import Derived.Lib.Hide
namespace Go.Proofs.Ytdeghjhlbhpopaa
open Go.RowKit

theorem alloc_le (w : World) (o : Obj) : w.heap.size ≤ (w.alloc o).heap.size := by simp
theorem alloc_le2 (w : World) (o o' : Obj) : w.heap.size ≤ ((w.alloc o).alloc o').heap.size := by simp; omega
theorem below_alloc (w : World) (o : Obj) : Below w.heap.size w (w.alloc o) := (Below.refl _ _).alloc (Nat.le_refl _) o
theorem below_alloc2 (w : World) (o o' : Obj) : Below w.heap.size w ((w.alloc o).alloc o') := (below_alloc w o).alloc (alloc_le w o) o'
theorem below_then {w w1 w2 : World} (h : Below w.heap.size w w1) (h' : Below w1.heap.size w1 w2) : Below w.heap.size w w2 := h.trans (h'.mono h.size)
/-- A slice of bytes that reads as f, below block B; of nothing the address is not asked. -/
def Rd (w : World) (B : Nat) (A : Option Addr) (n : Nat) (f : Nat → Int) : Prop :=
  n = 0 ∨ ∃ b off, A = some ⟨b, off, none⟩ ∧ b < B ∧ ∀ k, k < n → w.cell? ⟨b, off + k, none⟩ = some (.int .u8 (f k))
theorem Rd.keep {w w' : World} {B n : Nat} {A : Option Addr} {f : Nat → Int} (h : Rd w B A n f) (hb : Below B w w') : Rd w' B A n f := by
  rcases h with h | ⟨b, off, e, hlt, hc⟩
  · exact .inl h
  · exact .inr ⟨b, off, e, hlt, fun k hk => (hb.cell (p := ⟨b, off + k, none⟩) hlt).trans (hc k hk)⟩
theorem Rd.more {w : World} {B B' n : Nat} {A : Option Addr} {f : Nat → Int} (h : Rd w B A n f) (hB : B ≤ B') : Rd w B' A n f := by
  rcases h with h | ⟨b, off, e, hlt, hc⟩
  · exact .inl h
  · exact .inr ⟨b, off, e, by omega, hc⟩
theorem Rd.drewN {w : World} {B n : Nat} {A : Option Addr} {f : Nat → Int} (h : Rd w B A n f) (k : Nat) : Rd (w.drewN k) B A n f := h
theorem Rd.drew {w : World} {B n : Nat} {A : Option Addr} {f : Nat → Int} (h : Rd w B A n f) : Rd w.drew B A n f := h
theorem Rd.same {w : World} {B n : Nat} {A : Option Addr} {f g : Nat → Int} (h : Rd w B A n f) (hg : ∀ k, k < n → g k = f k) : Rd w B A n g := by
  rcases h with h | ⟨b, off, e, hlt, hc⟩
  · exact .inl h
  · exact .inr ⟨b, off, e, hlt, fun k hk => by rw [hg k hk]; exact hc k hk⟩

theorem Rd.less {w : World} {B n m : Nat} {A : Option Addr} {f : Nat → Int} (h : Rd w B A n f) (hm : m ≤ n) : Rd w B A m f := by
  rcases h with h | ⟨b, off, e, hlt, hc⟩
  · exact .inl (by omega)
  · exact .inr ⟨b, off, e, hlt, fun k hk => hc k (by omega)⟩

/-- 's[k:]', as the walk spells it. -/
theorem Rd.cut {w : World} {B n c k : Nat} {A : Option Addr} {f : Nat → Int} (h : Rd w B A n f) (hk : k ≤ n) (hc : n ≤ c) : Rd w B (if c = k then A else Option.map (fun x => x.add k) A) (n - k) (fun j => f (k + j)) := by
  rcases h with h | ⟨b, off, rfl, hlt, hcell⟩
  · exact .inl (by omega)
  · by_cases e : c = k
    · exact .inl (by omega)
    · rw [if_neg e]
      refine .inr ⟨b, off + k, ?_, hlt, fun j hj => by rw [Nat.add_assoc]; exact hcell _ (by omega)⟩
      show some ((⟨b, off, none⟩ : Addr).add k) = _
      unfold Addr.add
      split <;> simp_all

/-- Each of f is a byte. -/
def Byt (f : Nat → Int) : Prop := ∀ k, 0 ≤ f k ∧ f k ≤ 255
/-- The first n of f. -/
def nums (n : Nat) (f : Nat → Int) : List Int := (List.range n).map f
theorem nums_len (n : Nat) (f : Nat → Int) : (nums n f).length = n := by simp [nums]
theorem nums_get {n : Nat} {f : Nat → Int} {k : Nat} (h : k < n) : (nums n f).getD k 0 = f k := by
  simp [nums, List.getD, List.getElem?_map, List.getElem?_range h]
theorem nums_congr {n : Nat} {f g : Nat → Int} (h : ∀ k, k < n → g k = f k) : nums n g = nums n f := by
  unfold nums
  exact List.map_congr_left fun k hk => h k (by simpa using hk)
theorem nums_inj {n : Nat} {f g : Nat → Int} (h : nums n g = nums n f) : ∀ k, k < n → g k = f k := by
  intro k hk
  rw [← nums_get (f := g) hk, h, nums_get hk]

section
variable {P : Program}
theorem run_convert_rd {w : World} {B n : Nat} {A : Option Addr} {f : Nat → Int} (h : Rd w B A n f) (src e dst : TypeId) (c : Nat) (hs : P.underlying src = some (.slice e)) (he : P.underlying e = some (.int .u8)) (hd : P.underlying dst = some .string) :
    (convert src dst (.slice A n c)).run P w = .ok (.string (strOfNums (nums n f))) w := by
  rcases h with rfl | ⟨b, off, rfl, hlt, hc⟩
  · cases A with
    | none => exact run_convert_bytes_nil w src e hs he 0 c dst hd
    | some a =>
      have hl : (loadCells a 0).run P w = .ok (([] : List Int).map (Value.int .u8)).toArray w := run_loadCells_list (P := P) w a [] (by simp)
      rw [run_convert_bytes_string w src dst e _ 0 c hs he hd, run_bytesToString w _ 0 c [] hl]
      rfl
  · exact run_convert_bytes_arg w src e hs he b off n c (nums n f) (nums_len n f) (fun i hi => by rw [nums_get hi]; exact hc i hi) dst hd

/-- A slice of the call's own, from block base on, of byte type e. -/
def Own (w : World) (base : Nat) (e : TypeId) (A : Option Addr) (n c : Nat) (f : Nat → Int) : Prop :=
  w.ownsRow base e 1 (.slice A n c) n ((nums n f).map (Value.int .u8))
theorem Own.nil_ (w : World) (base : Nat) (e : TypeId) (f : Nat → Int) : Own w base e none 0 0 f := ⟨by simp [nums], .inl ⟨rfl, rfl⟩⟩
theorem Own.cap {w : World} {base : Nat} {e : TypeId} {A : Option Addr} {n c : Nat} {f : Nat → Int} (h : Own w base e A n c f) : n ≤ c := by
  rcases h.2 with ⟨hv, rfl⟩ | ⟨g, cap, cur, hv, _, _, hc, _⟩
  · omega
  · injection hv with _ _ h3
    omega
theorem Own.lies {w : World} {base : Nat} {e : TypeId} {A : Option Addr} {n c : Nat} {f : Nat → Int} (h : Own w base e A n c f) (hn : 0 < n) :
    ∃ g, A = some ⟨g, 0, none⟩ ∧ base ≤ g ∧ g < w.heap.size ∧ (∀ k, k < n → w.cell? ⟨g, k, none⟩ = some (.int .u8 (f k))) ∧ ∀ k, w.frozen? ⟨g, k, none⟩ = false := by
  have hh := h
  rcases h.2 with ⟨_, h0⟩ | ⟨g, cap, cur, hv, hb, hg, hnc, _⟩
  · omega
  · injection hv with h1 _ h3
    subst h1
    have hlt : g < w.heap.size := by
      rcases Nat.lt_or_ge g w.heap.size with hlt | hge
      · exact hlt
      · rw [Array.getElem?_eq_none hge] at hg; cases hg
    refine ⟨g, rfl, hb, hlt, fun k hk => ?_, fun k => World.ownsRow.frozenAt hh k⟩
    rw [World.ownsRow.cellAt hh k (by omega)]
    simp [nums, List.getElem?_map, List.getElem?_range hk]
theorem Own.rd {w : World} {base : Nat} {e : TypeId} {A : Option Addr} {n c : Nat} {f : Nat → Int} (h : Own w base e A n c f) : Rd w w.heap.size A n f := by
  rcases Nat.eq_zero_or_pos n with h0 | h0
  · exact .inl h0
  · obtain ⟨g, rfl, _, hlt, hc, _⟩ := h.lies h0
    exact .inr ⟨g, 0, rfl, hlt, fun k hk => by rw [Nat.zero_add]; exact hc k hk⟩
theorem Own.fresh (w : World) (base g : Nat) (hg : g = w.heap.size) (hb : base ≤ w.heap.size) (e : TypeId) (f : Nat → Int) : Own (w.alloc (.cells #[] e)) base e (some ⟨g, 0, none⟩) 0 0 f := by
  subst hg
  exact
  ⟨by simp [nums], .inr ⟨w.heap.size, 0, #[], rfl, hb, heap_alloc_new w _, Nat.le_refl _, by unfold maxLen; omega, by simp, by simp [nums]⟩⟩

theorem Own.same {w : World} {base : Nat} {e : TypeId} {A : Option Addr} {n c : Nat} {f g : Nat → Int} (h : Own w base e A n c f) (hg : ∀ k, k < n → g k = f k) : Own w base e A n c g := by
  unfold Own at h ⊢
  rw [nums_congr hg]
  exact h
theorem Own.alloc {w : World} {base : Nat} {e : TypeId} {A : Option Addr} {n c : Nat} {f : Nat → Int} (h : Own w base e A n c f) (o : Obj) : Own (w.alloc o) base e A n c f := World.ownsRow.alloc h o
/-- Kept where all below the heap's end is kept. -/
theorem Own.below {w w' : World} {base : Nat} {e : TypeId} {A : Option Addr} {n c : Nat} {f : Nat → Int} (h : Own w base e A n c f) (hb : Below w.heap.size w w') : Own w' base e A n c f := by
  refine ⟨h.1, ?_⟩
  rcases h.2 with hh | ⟨g, cap, cur, hv, hg, hh, r⟩
  · exact .inl hh
  · have hlt : g < w.heap.size := by
      rcases Nat.lt_or_ge g w.heap.size with hlt | hge
      · exact hlt
      · rw [Array.getElem?_eq_none hge] at hh; cases hh
    exact .inr ⟨g, cap, cur, hv, hg, (hb.block g hlt).trans hh, r⟩
theorem Own.far {w : World} {base : Nat} {e : TypeId} {A : Option Addr} {n c : Nat} {f : Nat → Int} (h : Own w base e A n c f) {p : Addr} (hp : p.block < base) (u : Value) : Own (w.setCell p u) base e A n c f := ownsRow_setCell_below h hp u
theorem Own.le {w : World} {base base' : Nat} {e : TypeId} {A : Option Addr} {n c : Nat} {f : Nat → Int} (h : Own w base e A n c f) (hb : base' ≤ base) : Own w base' e A n c f := by
  refine ⟨h.1, ?_⟩
  rcases h.2 with hh | ⟨g, cap, cur, hv, hg, r⟩
  · exact .inl hh
  · exact .inr ⟨g, cap, cur, hv, Nat.le_trans hb hg, r⟩
/-- Where an append on it may have written. -/
theorem Own.at_ {w : World} {base : Nat} {e : TypeId} {A : Option Addr} {n c : Nat} {f : Nat → Int} (h : Own w base e A n c f) : ∀ k, Value.ownBlock (.slice A n c) = some k → base ≤ k := fun k hk => (World.ownsRow.lt h k hk).1
/-- f, but v at p. -/
def upd (f : Nat → Int) (p : Nat) (v : Int) (k : Nat) : Int := if k = p then v else f k
theorem upd_byt {f : Nat → Int} (hf : Byt f) (p : Nat) {v : Int} (hv : 0 ≤ v ∧ v ≤ 255) : Byt (upd f p v) := fun k => by
  unfold upd
  split
  · exact hv
  · exact hf k
theorem nums_upd (n p : Nat) (f : Nat → Int) (v : Int) : nums n (upd f p v) = (nums n f).set p v := by
  refine List.ext_getElem? fun k => ?_
  rw [List.getElem?_set]
  unfold nums upd
  simp only [List.getElem?_map, List.length_map, List.length_range]
  by_cases hk : k < n
  · rw [List.getElem?_range hk]
    by_cases e : p = k
    · subst e; simp [hk]
    · have e' : k ≠ p := fun h => e h.symm
      simp [e, e']
  · have e : (List.range n)[k]? = none := by simp; omega
    rw [e]
    simp
    intro h1
    omega
/-- A store into it. -/
theorem Own.set_ {w : World} {base : Nat} {e : TypeId} {g n c : Nat} {f : Nat → Int} (h : Own w base e (some ⟨g, 0, none⟩) n c f) (p : Nat) (v : Int) :
    Own (w.setCell ⟨g, p, none⟩ (.int .u8 v)) base e (some ⟨g, 0, none⟩) n c (upd f p v) := by
  have e := (World.ownsRow.stored h p (.int .u8 v)).1
  unfold Own
  rw [nums_upd, List.map_set]
  exact e
/-- A new block of one or two bytes. -/
theorem rd_new1 (w : World) (B g : Nat) (hg : g = w.heap.size) (hB : g < B) (x : Int) (e : TypeId) : Rd (w.alloc (.cells #[.int .u8 x] e)) B (some ⟨g, 0, none⟩) 1 (fun _ => x) := by
  subst hg
  refine .inr ⟨_, _, rfl, hB, fun k hk => ?_⟩
  obtain rfl : k = 0 := by omega
  go_simp
theorem rd_new2 (w : World) (B g : Nat) (hg : g = w.heap.size) (hB : g < B) (x y : Int) (e : TypeId) : Rd (w.alloc (.cells #[.int .u8 x, .int .u8 y] e)) B (some ⟨g, 0, none⟩) 2 (fun k => if k = 0 then x else y) := by
  subst hg
  refine .inr ⟨_, _, rfl, hB, fun k hk => ?_⟩
  match k, hk with
  | 0, _ => go_simp
  | 1, _ => go_simp

/-- f, n of it, and behind them g. -/
def cat (n : Nat) (f g : Nat → Int) (k : Nat) : Int := if k < n then f k else g (k - n)
theorem nums_cat (n m : Nat) (f g : Nat → Int) : nums (n + m) (cat n f g) = nums n f ++ nums m g := by
  unfold nums
  rw [List.range_add, List.map_append, List.map_map]
  congr 1
  · exact List.map_congr_left fun k hk => by simp at hk; simp [cat, hk]
  · exact List.map_congr_left fun k _ => by simp [cat]; intro h; omega

theorem run_append_rd {w : World} (base : Nat) (t ty e : TypeId) (i : TypeInfo) (ht : P.underlying t = some (.slice e)) (hi : P.info? e = some i) (hz : i.zero = some (.int .u8 0)) (hsize : i.size = 1) (hby : i.bytes = 1)
    {A : Option Addr} {n c : Nat} {f : Nat → Int} (hown : Own w base e A n c f) {B m c' : Nat} {A' : Option Addr} {g : Nat → Int} (hr : Rd w B A' m g)
    (hlen : n + m ≤ 140737488355328) (hbase : base ≤ w.heap.size) :
    ∃ A2 c2 w', (Builtin.append_ #[t, t] ty #[.slice A n c, .slice A' m c']).run P w = .ok (.slice A2 (n + m) c2) w' ∧ Own w' base e A2 (n + m) c2 (cat n f g) ∧ w.grownBy w' (Value.ownBlock (.slice A n c)) ∧
      (Value.ownBlock (.slice A2 (n + m) c2) = Value.ownBlock (.slice A n c) ∨ Value.ownBlock (.slice A2 (n + m) c2) = some w.heap.size) := by
  have zero : m = 0 → A' = none → (Builtin.append_ #[t, t] ty #[.slice A n c, .slice A' m c']).run P w = .ok (.slice A n c) w := by
    rintro rfl rfl
    rcases hown.2 with ⟨hv, rfl⟩ | ⟨g', cap, cur, hv, _, _, hnc, _⟩
    · rw [hv]
      simp [Builtin.append_, run_underlying ht, sizeOf, typeInfo, hi, Builtin.lenOf, Builtin.firstCells]
    · rw [hv]
      simp [Builtin.append_, run_underlying ht, sizeOf, typeInfo, hi, Builtin.lenOf, Builtin.firstCells, hnc, storeCells]
  have some_ : ∀ ad : Addr, A' = some ad → (∀ j u, ((nums m g).map (Value.int .u8))[j]? = some u → w.cell? (ad.add j) = some u) → _ := fun ad had hcells =>
    run_append_own_at (P := P) w base t ty e i (.int .u8 0) 1 1 ht hi hz hsize hby rfl (by omega) (.slice A n c) n _ hown ad m c' ((nums m g).map (Value.int .u8)) (by simp [nums_len]) hcells
      (by intro u hu; simp at hu; obtain ⟨x, _, rfl⟩ := hu; rfl) (by unfold maxLen; omega) (by omega) hbase
  have close : ∀ ad : Addr, A' = some ad → (∀ j u, ((nums m g).map (Value.int .u8))[j]? = some u → w.cell? (ad.add j) = some u) →
      ∃ A2 c2 w', (Builtin.append_ #[t, t] ty #[.slice A n c, .slice A' m c']).run P w = .ok (.slice A2 (n + m) c2) w' ∧ Own w' base e A2 (n + m) c2 (cat n f g) ∧ w.grownBy w' (Value.ownBlock (.slice A n c)) ∧
      (Value.ownBlock (.slice A2 (n + m) c2) = Value.ownBlock (.slice A n c) ∨ Value.ownBlock (.slice A2 (n + m) c2) = some w.heap.size) := by
    intro ad had hcells
    obtain ⟨v', w', hrun, h2, h3, _, h5⟩ := some_ ad had hcells
    subst had
    rw [← List.map_append, ← nums_cat] at h2
    have hv : ∃ A2 c2, v' = .slice A2 (n + m) c2 := by
      rcases h2.2 with ⟨hv, hz⟩ | ⟨g', cap, cur, hv, _⟩
      · exact ⟨none, 0, by rw [hv, hz]⟩
      · exact ⟨_, _, hv⟩
    obtain ⟨A2, c2, rfl⟩ := hv
    exact ⟨A2, c2, w', hrun, h2, h3, h5⟩
  rcases hr with rfl | ⟨b, off, rfl, hlt, hc⟩
  · cases hA : A' with
    | none =>
      have hrun := zero rfl hA
      rw [hA] at hrun
      refine ⟨A, c, w, hrun, ?_, World.grownBy.refl w _, .inl rfl⟩
      have e : nums (n + 0) (cat n f g) = nums n f := by rw [nums_cat]; simp [nums]
      unfold Own
      rw [e]
      exact hown
    | some ad =>
      have := close ad hA (by simp [nums])
      rw [hA] at this
      exact this
  · refine close _ rfl fun j u hu => ?_
    have hj : j < m := by
      rcases Nat.lt_or_ge j m with h | h
      · exact h
      · rw [List.getElem?_eq_none (by simpa [nums_len] using h)] at hu; cases hu
    have hplain : (⟨b, off, none⟩ : Addr).add j = ⟨b, off + j, none⟩ := by unfold Addr.add; split <;> simp_all
    rw [hplain, hc j hj]
    simpa [nums, List.getElem?_map, List.getElem?_range hj] using hu

/-- 'out = append(out, b..)' in a plain region. -/
theorem wpList_append_rd {w : World} {ops : Array Oper} {rest : List Oper} {o : Oper} {a : Act} {Q : Exit → Act → World → Prop} (hgd : Region.wanted o (yielded ops a.tmps) = true) (s x : Operand) (t : TypeId)
    (ho : o.op = .call { callee := .builtin .append, args := #[s, x], argTypes := #[t, t] })
    (base : Nat) (e : TypeId) (i : TypeInfo) (ht : P.underlying t = some (.slice e)) (hi : P.info? e = some i) (hz : i.zero = some (.int .u8 0)) (hsize : i.size = 1) (hby : i.bytes = 1)
    {A : Option Addr} {n c : Nat} {f : Nat → Int} (hs : a.eval s = .slice A n c) (hown : Own w base e A n c f) {B m c' : Nat} {A' : Option Addr} {g : Nat → Int} (hx : a.eval x = .slice A' m c') (hr : Rd w B A' m g)
    (hlen : n + m ≤ 140737488355328) (hbase : base ≤ w.heap.size)
    (h : ∀ A2 c2 w', Own w' base e A2 (n + m) c2 (cat n f g) → w.grownBy w' (Value.ownBlock (.slice A n c)) →
      (Value.ownBlock (.slice A2 (n + m) c2) = Value.ownBlock (.slice A n c) ∨ Value.ownBlock (.slice A2 (n + m) c2) = some w.heap.size) → wpList P ops Q rest (a.put o.dst (.slice A2 (n + m) c2)) w') :
    wpList P ops Q (o :: rest) a w := by
  refine BigFrame.wpList_want hgd fun K hK => ?_
  obtain ⟨A2, c2, w', hrun, h2, h3, h4⟩ := run_append_rd (P := P) base t o.type e i ht hi hz hsize hby hown hr hlen hbase (c' := c')
  unfold Oper.wp execOp
  simp only [ho, resolve, invoke, builtin, Sem.run_bind, Sem.run_pure, Result.andThen_ok, List.map_toArray, List.map_cons, List.map_nil, hs, hx, hrun]
  exact hK _ _ (h A2 c2 w' h2 h3 h4)

theorem step_append_rd {w : World} {ops : Array Oper} {o : Oper} {a : Act} {K : Act → World → Prop} {Q : Exit → Act → World → Prop} {E : Prop} (hgd : Region.wanted o (yielded ops a.tmps) = true) (s x : Operand) (t : TypeId)
    (ho : o.op = .call { callee := .builtin .append, args := #[s, x], argTypes := #[t, t] })
    (base : Nat) (e : TypeId) (i : TypeInfo) (ht : P.underlying t = some (.slice e)) (hi : P.info? e = some i) (hz : i.zero = some (.int .u8 0)) (hsize : i.size = 1) (hby : i.bytes = 1)
    {A : Option Addr} {n c : Nat} {f : Nat → Int} (hs : a.eval s = .slice A n c) (hown : Own w base e A n c f) {B m c' : Nat} {A' : Option Addr} {g : Nat → Int} (hx : a.eval x = .slice A' m c') (hr : Rd w B A' m g)
    (hlen : n + m ≤ 140737488355328) (hbase : base ≤ w.heap.size)
    (h : ∀ A2 c2 w', Own w' base e A2 (n + m) c2 (cat n f g) → w.grownBy w' (Value.ownBlock (.slice A n c)) → K (a.put o.dst (.slice A2 (n + m) c2)) w') :
    if Region.wanted o (yielded ops a.tmps) = true then Oper.wp P o a w K Q else E := by
  rw [if_pos hgd]
  obtain ⟨A2, c2, w', hrun, h2, h3, _⟩ := run_append_rd (P := P) base t o.type e i ht hi hz hsize hby hown hr hlen hbase (c' := c')
  unfold Oper.wp execOp
  simp only [ho, resolve, invoke, builtin, Sem.run_bind, Sem.run_pure, Result.andThen_ok, List.map_toArray, List.map_cons, List.map_nil, hs, hx, hrun]
  exact h A2 c2 w' h2 h3

/-! ### Regions that draw their order, whose calls make memory but turn none of the old -/
/-- A world that is wc below wc's end. -/
structure Stay (wc : World) where
  w : World
  below : Below wc.heap.size wc w
def Stay.here (wc : World) : Stay wc := ⟨wc, Below.refl _ _⟩
instance (wc : World) : Nonempty (Stay wc) := ⟨Stay.here wc⟩
theorem Stay.cell {wc : World} {p : Addr} {v : Value} (h : wc.cell? p = some v) (W : Stay wc) : W.w.cell? p = some v :=
  (W.below.cell (World.block_lt_of_cell? wc p h)).trans h
theorem Stay.rd {wc : World} {A : Option Addr} {n : Nat} {f : Nat → Int} (h : Rd wc wc.heap.size A n f) (W : Stay wc) : Rd W.w W.w.heap.size A n f :=
  (h.keep W.below).more W.below.size
theorem Calls.stay {wc : World} {fn : FuncId} {args : Array Value} (W : Stay wc) {v : Value} (h : Calls P fn args W.w fun e w' => e = .returned v ∧ Below W.w.heap.size W.w w') :
    Calls P fn args W.w fun e w'' => e = .returned v ∧ ∃ W' : Stay wc, w'' = W'.w :=
  h.mono fun _ w' ⟨he, hb⟩ => ⟨he, ⟨w', W.below.trans (hb.mono W.below.size)⟩, rfl⟩
theorem wp_region_stay {id : Nat} {Q : Exit → Act → World → Prop} {a : Act} {w : World} {l : List Oper} (hm : P.follows .mixedOrders = true) (hB : Region.lexB .any l.toArray = true)
    (h : wpQuiet P l.toArray (fun w' => ∃ W : Stay w, w' = W.w) (fun a' => ∀ w', (∃ W : Stay w, w' = W.w) → Q .normal a' w') l a) : (Code.region id l.toArray true).wp P Q a w :=
  wp_region_quiet (C := fun w' => ∃ W : Stay w, w' = W.w) hm hB ⟨⟨w.drew, (Below.refl _ _).drew⟩, rfl⟩ (by simpa using h)
end
end Go.Proofs.Ytdeghjhlbhpopaa
