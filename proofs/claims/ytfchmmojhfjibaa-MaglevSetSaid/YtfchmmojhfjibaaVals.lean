/- Plain words for slices of any elements of some cells each, over any program: the cells as a function of their place; one of the call's own, onto which is appended, into which is stored; make. (Bytes has them for bytes, by numbers.) -/
import Derived.Test.YtfchmmojhfjibaaBytes
import Derived.Laws.OwnMore
import Derived.Laws.MakeOwn
namespace Go.Proofs.Ytfchmmojhfjibaa
open Go.RowKit
/-- The first m of f. -/
def vals (m : Nat) (f : Nat → Value) : List Value := (List.range m).map f
theorem vals_len (m : Nat) (f : Nat → Value) : (vals m f).length = m := by simp [vals]
theorem vals_get {m : Nat} {f : Nat → Value} {k : Nat} (h : k < m) : (vals m f)[k]? = some (f k) := by
  simp [vals, List.getElem?_map, List.getElem?_range h]
theorem vals_congr {m : Nat} {f g : Nat → Value} (h : ∀ k, k < m → g k = f k) : vals m g = vals m f := by
  unfold vals
  exact List.map_congr_left fun k hk => h k (by simpa using hk)
theorem vals_eq {m : Nat} {f : Nat → Value} {l : List Value} (hl : l.length = m) (h : ∀ k, k < m → l[k]? = some (f k)) : l = vals m f := by
  refine List.ext_getElem? fun k => ?_
  rcases Nat.lt_or_ge k m with q | q
  · rw [h k q, vals_get q]
  · rw [List.getElem?_eq_none (by omega), List.getElem?_eq_none (by rw [vals_len]; exact q)]
/-- f, but v at p. -/
def updV (f : Nat → Value) (p : Nat) (v : Value) (k : Nat) : Value := if k = p then v else f k
theorem vals_upd (m p : Nat) (f : Nat → Value) (v : Value) : vals m (updV f p v) = (vals m f).set p v := by
  symm
  refine vals_eq (by simp [vals_len]) fun k hk => ?_
  rw [List.getElem?_set]
  unfold updV
  by_cases e : p = k
  · subst e
    rw [if_pos rfl, if_pos (by rw [vals_len]; exact hk), if_pos rfl]
  · rw [if_neg e, vals_get hk, if_neg (fun q => e q.symm)]
/-- f, m of it, and behind them g. -/
def catV (m : Nat) (f g : Nat → Value) (k : Nat) : Value := if k < m then f k else g (k - m)
theorem vals_cat (n m : Nat) (f g : Nat → Value) : vals (n + m) (catV n f g) = vals n f ++ vals m g := by
  symm
  refine vals_eq (by simp [vals_len]) fun k hk => ?_
  unfold catV
  rw [List.getElem?_append]
  rcases Nat.lt_or_ge k n with q | q
  · rw [if_pos (by rw [vals_len]; exact q), if_pos q, vals_get q]
  · rw [if_neg (by rw [vals_len]; omega), if_neg (by omega), vals_len, vals_get (by omega)]
/-- Cells that read as f, below block B; of nothing the address is not asked. -/
def RdC (w : World) (B : Nat) (A : Option Addr) (m : Nat) (f : Nat → Value) : Prop :=
  m = 0 ∨ ∃ b off, A = some ⟨b, off, none⟩ ∧ b < B ∧ ∀ k, k < m → w.cell? ⟨b, off + k, none⟩ = some (f k)
theorem RdC.keep {w w' : World} {B m : Nat} {A : Option Addr} {f : Nat → Value} (h : RdC w B A m f) (hb : Below B w w') : RdC w' B A m f := by
  rcases h with h | ⟨b, off, e, hlt, hc⟩
  · exact .inl h
  · exact .inr ⟨b, off, e, hlt, fun k hk => (hb.cell (p := ⟨b, off + k, none⟩) hlt).trans (hc k hk)⟩
theorem RdC.more {w : World} {B B' m : Nat} {A : Option Addr} {f : Nat → Value} (h : RdC w B A m f) (hB : B ≤ B') : RdC w B' A m f := by
  rcases h with h | ⟨b, off, e, hlt, hc⟩
  · exact .inl h
  · exact .inr ⟨b, off, e, by omega, hc⟩
theorem RdC.same {w : World} {B m : Nat} {A : Option Addr} {f g : Nat → Value} (h : RdC w B A m f) (hg : ∀ k, k < m → g k = f k) : RdC w B A m g := by
  rcases h with h | ⟨b, off, e, hlt, hc⟩
  · exact .inl h
  · exact .inr ⟨b, off, e, hlt, fun k hk => by rw [hg k hk]; exact hc k hk⟩
theorem RdC.less {w : World} {B m m' : Nat} {A : Option Addr} {f : Nat → Value} (h : RdC w B A m f) (hm : m' ≤ m) : RdC w B A m' f := by
  rcases h with h | ⟨b, off, e, hlt, hc⟩
  · exact .inl (by omega)
  · exact .inr ⟨b, off, e, hlt, fun k hk => hc k (by omega)⟩
/-- Elements of 'size' cells each, in a row of the call's own, from block base on. -/
def OwnC (w : World) (base : Nat) (e : TypeId) (size : Nat) (A : Option Addr) (n c : Nat) (f : Nat → Value) : Prop :=
  w.ownsRow base e size (.slice A n c) n (vals (n * size) f)
theorem OwnC.nil_ (w : World) (base : Nat) (e : TypeId) (size : Nat) (f : Nat → Value) : OwnC w base e size none 0 0 f := ⟨by simp [vals], .inl ⟨rfl, rfl⟩⟩
theorem OwnC.cap {w : World} {base size : Nat} {e : TypeId} {A : Option Addr} {n c : Nat} {f : Nat → Value} (h : OwnC w base e size A n c f) : n ≤ c := by
  rcases h.2 with ⟨hv, rfl⟩ | ⟨g, cap, cur, hv, _, _, hc, _⟩
  · omega
  · injection hv with _ _ h3
    omega
theorem OwnC.cap_le {w : World} {base size : Nat} {e : TypeId} {A : Option Addr} {n c : Nat} {f : Nat → Value} (h : OwnC w base e size A n c f) : c ≤ maxLen := by
  rcases h.2 with ⟨hv, rfl⟩ | ⟨g, cap, cur, hv, _, _, _, hc, _⟩
  · injection hv with _ _ h3
    subst h3
    exact Nat.zero_le _
  · injection hv with _ _ h3
    subst h3
    exact hc
theorem OwnC.lies {w : World} {base size : Nat} {e : TypeId} {A : Option Addr} {n c : Nat} {f : Nat → Value} (h : OwnC w base e size A n c f) (hn : 0 < n) :
    ∃ g, A = some ⟨g, 0, none⟩ ∧ base ≤ g ∧ g < w.heap.size ∧ (∀ k, k < n * size → w.cell? ⟨g, k, none⟩ = some (f k)) ∧ ∀ k, w.frozen? ⟨g, k, none⟩ = false := by
  have hh := h
  rcases h.2 with ⟨_, h0⟩ | ⟨g, cap, cur, hv, hb, hg, hnc, _⟩
  · omega
  · injection hv with h1 _ h3
    subst h1
    have hlt : g < w.heap.size := by
      rcases Nat.lt_or_ge g w.heap.size with hlt | hge
      · exact hlt
      · rw [Array.getElem?_eq_none hge] at hg; cases hg
    refine ⟨g, rfl, hb, hlt, fun k hk => ?_, fun k => World.ownsRow.frozenAt hh k⟩
    rw [World.ownsRow.cellAt hh k hk, vals_get hk]
theorem OwnC.rd {w : World} {base size : Nat} {e : TypeId} {A : Option Addr} {n c : Nat} {f : Nat → Value} (h : OwnC w base e size A n c f) : RdC w w.heap.size A (n * size) f := by
  rcases Nat.eq_zero_or_pos n with h0 | h0
  · exact .inl (by rw [h0, Nat.zero_mul])
  · obtain ⟨g, rfl, _, hlt, hc, _⟩ := h.lies h0
    exact .inr ⟨g, 0, rfl, hlt, fun k hk => by rw [Nat.zero_add]; exact hc k hk⟩
theorem OwnC.fresh (w : World) (base g : Nat) (hg : g = w.heap.size) (hb : base ≤ w.heap.size) (e : TypeId) (size : Nat) (f : Nat → Value) : OwnC (w.alloc (.cells #[] e)) base e size (some ⟨g, 0, none⟩) 0 0 f := by
  subst hg
  exact ⟨by simp [vals], .inr ⟨w.heap.size, 0, #[], rfl, hb, heap_alloc_new w _, Nat.le_refl _, by unfold maxLen; omega, by simp, by simp [vals]⟩⟩
theorem OwnC.same {w : World} {base size : Nat} {e : TypeId} {A : Option Addr} {n c : Nat} {f g : Nat → Value} (h : OwnC w base e size A n c f) (hg : ∀ k, k < n * size → g k = f k) : OwnC w base e size A n c g := by
  unfold OwnC at h ⊢
  rw [vals_congr hg]
  exact h
theorem OwnC.alloc {w : World} {base size : Nat} {e : TypeId} {A : Option Addr} {n c : Nat} {f : Nat → Value} (h : OwnC w base e size A n c f) (o : Obj) : OwnC (w.alloc o) base e size A n c f := World.ownsRow.alloc h o
theorem OwnC.drew {w : World} {base size : Nat} {e : TypeId} {A : Option Addr} {n c : Nat} {f : Nat → Value} (h : OwnC w base e size A n c f) : OwnC w.drew base e size A n c f := h
theorem OwnC.below {w w' : World} {base size : Nat} {e : TypeId} {A : Option Addr} {n c : Nat} {f : Nat → Value} (h : OwnC w base e size A n c f) (hb : Below w.heap.size w w') : OwnC w' base e size A n c f := by
  refine ⟨h.1, ?_⟩
  rcases h.2 with hh | ⟨g, cap, cur, hv, hg, hh, r⟩
  · exact .inl hh
  · have hlt : g < w.heap.size := by
      rcases Nat.lt_or_ge g w.heap.size with hlt | hge
      · exact hlt
      · rw [Array.getElem?_eq_none hge] at hh; cases hh
    exact .inr ⟨g, cap, cur, hv, hg, (hb.block g hlt).trans hh, r⟩
theorem OwnC.far {w : World} {base size : Nat} {e : TypeId} {A : Option Addr} {n c : Nat} {f : Nat → Value} (h : OwnC w base e size A n c f) {p : Addr} (hp : p.block < base) (u : Value) : OwnC (w.setCell p u) base e size A n c f := ownsRow_setCell_below h hp u
/-- Another block is turned: one of another type, or another one by its number. -/
theorem OwnC.beside {w w' : World} {base size : Nat} {e : TypeId} {A : Option Addr} {n c : Nat} {f : Nat → Value} (h : OwnC w base e size A n c f) (q : Nat) (hne : ∀ g, A = some ⟨g, 0, none⟩ → g ≠ q) (hw : ∀ k, k ≠ q → w'.heap[k]? = w.heap[k]?) : OwnC w' base e size A n c f := by
  refine ⟨h.1, ?_⟩
  rcases h.2 with hh | ⟨g, cap, cur, hv, hg, hh, r⟩
  · exact .inl hh
  · injection hv with h1 h2 h3
    exact .inr ⟨g, cap, cur, by rw [h1, h3], hg, (hw g (hne g h1)).trans hh, r⟩
theorem OwnC.le {w : World} {base base' size : Nat} {e : TypeId} {A : Option Addr} {n c : Nat} {f : Nat → Value} (h : OwnC w base e size A n c f) (hb : base' ≤ base) : OwnC w base' e size A n c f := by
  refine ⟨h.1, ?_⟩
  rcases h.2 with hh | ⟨g, cap, cur, hv, hg, r⟩
  · exact .inl hh
  · exact .inr ⟨g, cap, cur, hv, Nat.le_trans hb hg, r⟩
theorem OwnC.at_ {w : World} {base size : Nat} {e : TypeId} {A : Option Addr} {n c : Nat} {f : Nat → Value} (h : OwnC w base e size A n c f) : ∀ k, Value.ownBlock (.slice A n c) = some k → base ≤ k := fun k hk => (World.ownsRow.lt h k hk).1
/-- A store into it. -/
theorem OwnC.set_ {w : World} {base size : Nat} {e : TypeId} {g n c : Nat} {f : Nat → Value} (h : OwnC w base e size (some ⟨g, 0, none⟩) n c f) (p : Nat) (v : Value) : OwnC (w.setCell ⟨g, p, none⟩ v) base e size (some ⟨g, 0, none⟩) n c (updV f p v) := by
  have e := (World.ownsRow.stored h p v).1
  unfold OwnC
  rw [vals_upd]
  exact e
section
variable {P : Program}
/-- 'append(own, s...)'. -/
theorem run_append_vals {w : World} (base : Nat) (t ty e : TypeId) (i : TypeInfo) (z : Value) (size : Nat) (ht : P.underlying t = some (.slice e)) (hi : P.info? e = some i) (hz : i.zero = some z) (hsize : i.size = size) (hzs : z.cells.size = size) (hsz : 0 < size)
    {A : Option Addr} {n c : Nat} {f : Nat → Value} (hown : OwnC w base e size A n c f) {B m c' : Nat} {A' : Option Addr} {g : Nat → Value} (hr : RdC w B A' (m * size) g) (h1 : ∀ k, k < m * size → (g k).oneCell' = true)
    (hlen : n + m ≤ maxLen) (hby : (n + m) * i.bytes ≤ 140737488355328) (hbase : base ≤ w.heap.size) :
    ∃ A2 c2 w', (Builtin.append_ #[t, t] ty #[.slice A n c, .slice A' m c']).run P w = .ok (.slice A2 (n + m) c2) w' ∧ OwnC w' base e size A2 (n + m) c2 (catV (n * size) f g) ∧ w.grownBy w' (Value.ownBlock (.slice A n c)) ∧
      (Value.ownBlock (.slice A2 (n + m) c2) = Value.ownBlock (.slice A n c) ∨ Value.ownBlock (.slice A2 (n + m) c2) = some w.heap.size) := by
  have hm0 : m * size = 0 → m = 0 := fun h => by
    rcases Nat.mul_eq_zero.1 h with q | q
    · exact q
    · omega
  have close : ∀ ad : Addr, A' = some ad → (∀ j u, (vals (m * size) g)[j]? = some u → w.cell? (ad.add j) = some u) →
      ∃ A2 c2 w', (Builtin.append_ #[t, t] ty #[.slice A n c, .slice A' m c']).run P w = .ok (.slice A2 (n + m) c2) w' ∧ OwnC w' base e size A2 (n + m) c2 (catV (n * size) f g) ∧ w.grownBy w' (Value.ownBlock (.slice A n c)) ∧
      (Value.ownBlock (.slice A2 (n + m) c2) = Value.ownBlock (.slice A n c) ∨ Value.ownBlock (.slice A2 (n + m) c2) = some w.heap.size) := by
    intro ad had hcells
    obtain ⟨v', w', hrun, h2, h3, _, h5⟩ := run_append_own_at (P := P) w base t ty e i z size i.bytes ht hi hz hsize rfl hzs hsz (.slice A n c) n _ hown ad m c' (vals (m * size) g) (vals_len ..) hcells
      (by intro u hu; unfold vals at hu; simp at hu; obtain ⟨x, hx, rfl⟩ := hu; exact h1 x hx) hlen hby hbase
    subst had
    rw [← vals_cat, ← Nat.add_mul] at h2
    have hv : ∃ A2 c2, v' = .slice A2 (n + m) c2 := by
      rcases h2.2 with ⟨hv, hz⟩ | ⟨g', cap, cur, hv, _⟩
      · exact ⟨none, 0, by rw [hv, hz]⟩
      · exact ⟨_, _, hv⟩
    obtain ⟨A2, c2, rfl⟩ := hv
    exact ⟨A2, c2, w', hrun, h2, h3, h5⟩
  rcases hr with h0 | ⟨b, off, rfl, hlt, hc⟩
  · obtain rfl := hm0 h0
    cases hA : A' with
    | none =>
      refine ⟨A, c, w, ?_, ?_, World.grownBy.refl w _, .inl rfl⟩
      · rcases hown.2 with ⟨hv, rfl⟩ | ⟨g', cap, cur, hv, _, _, hnc, _⟩
        · rw [hv]
          simp [Builtin.append_, run_underlying ht, sizeOf, typeInfo, hi, Builtin.lenOf, Builtin.firstCells]
        · injection hv with e1 _ e3
          subst e1
          subst e3
          simp [Builtin.append_, run_underlying ht, sizeOf, typeInfo, hi, Builtin.lenOf, Builtin.firstCells, hnc, storeCells]
      · exact OwnC.same hown fun k hk => by unfold catV; rw [if_pos (by simpa using hk)]
    | some ad =>
      have := close ad hA (by simp [vals])
      rw [hA] at this
      exact this
  · refine close _ rfl fun j u hu => ?_
    have hj : j < m * size := by
      rcases Nat.lt_or_ge j (m * size) with h | h
      · exact h
      · rw [List.getElem?_eq_none (by rw [vals_len]; exact h)] at hu; cases hu
    have hplain : (⟨b, off, none⟩ : Addr).add j = ⟨b, off + j, none⟩ := by unfold Addr.add; split <;> simp_all
    rw [vals_get hj] at hu
    rw [hplain, hc j hj, hu]
/-- .. in a plain region, behind a guard or not. -/
theorem wpList_append_vals {w : World} {ops : Array Oper} {rest : List Oper} {o : Oper} {a : Act} {Q : Exit → Act → World → Prop} (hgd : Region.wanted o (yielded ops a.tmps) = true) (s x : Operand) (t : TypeId)
    (ho : o.op = .call { callee := .builtin .append, args := #[s, x], argTypes := #[t, t] })
    (base : Nat) (e : TypeId) (i : TypeInfo) (z : Value) (size : Nat) (ht : P.underlying t = some (.slice e)) (hi : P.info? e = some i) (hz : i.zero = some z) (hsize : i.size = size) (hzs : z.cells.size = size) (hsz : 0 < size)
    {A : Option Addr} {n c : Nat} {f : Nat → Value} (hs : a.eval s = .slice A n c) (hown : OwnC w base e size A n c f) {B m c' : Nat} {A' : Option Addr} {g : Nat → Value} (hx : a.eval x = .slice A' m c') (hr : RdC w B A' (m * size) g) (h1 : ∀ k, k < m * size → (g k).oneCell' = true)
    (hlen : n + m ≤ maxLen) (hby : (n + m) * i.bytes ≤ 140737488355328) (hbase : base ≤ w.heap.size)
    (h : ∀ A2 c2 w', OwnC w' base e size A2 (n + m) c2 (catV (n * size) f g) → w.grownBy w' (Value.ownBlock (.slice A n c)) →
      (Value.ownBlock (.slice A2 (n + m) c2) = Value.ownBlock (.slice A n c) ∨ Value.ownBlock (.slice A2 (n + m) c2) = some w.heap.size) → wpList P ops Q rest (a.put o.dst (.slice A2 (n + m) c2)) w') :
    wpList P ops Q (o :: rest) a w := by
  refine BigFrame.wpList_want hgd fun K hK => ?_
  obtain ⟨A2, c2, w', hrun, h2, h3, h4⟩ := run_append_vals (P := P) base t o.type e i z size ht hi hz hsize hzs hsz hown hr h1 hlen hby hbase (c' := c')
  unfold Oper.wp execOp
  simp only [ho, resolve, invoke, builtin, Sem.run_bind, Sem.run_pure, Result.andThen_ok, List.map_toArray, List.map_cons, List.map_nil, hs, hx, hrun]
  exact hK _ _ (h A2 c2 w' h2 h3 h4)
/-- 'make([]T, n)' of elements of one cell. -/
theorem run_make_vals (w : World) (base : Nat) (t e : TypeId) (i : TypeInfo) (z : Value) (ht : P.underlying t = some (.slice e)) (hi : P.info? e = some i) (hz : i.zero = some z) (hsize : i.size = 1) (hzc : z.cells = #[z]) (n : Nat) (hn : i.bytes * n ≤ 281474976710656) (hm : n ≤ maxLen) (hb : base ≤ w.heap.size) :
    ∃ w', (Instr.makeSlice t (.int .i64 (n : Int)) (.int .i64 (n : Int))).run P w = .ok (.slice (some ⟨w.heap.size, 0, none⟩) n n) w' ∧ OwnC w' base e 1 (some ⟨w.heap.size, 0, none⟩) n n (fun _ => z) ∧ w.grownBy w' none := by
  obtain ⟨w', h1, h2, h3⟩ := run_make_full (P := P) w base t e i z 1 ht hi hz hsize .i64 .i64 n hn hm hb
  refine ⟨w', h1, ?_, h3⟩
  unfold OwnC
  have e1 : (madeCells z.cells (n * 1)).toList = vals (n * 1) (fun _ => z) := by
    refine vals_eq (by simp [size_madeCells]) fun k hk => ?_
    rw [hzc]
    have hk' : k < n := by omega
    simp [madeCells]
    exact ⟨k, List.getElem?_range hk', by rw [Nat.mod_one]; rfl⟩
  rw [← e1]
  exact h2
end
end Go.Proofs.Ytfchmmojhfjibaa
