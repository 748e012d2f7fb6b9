import Derived.WalkKit
import Derived.WalkSpells
import Derived.Maps.AppendAt
import Derived.Laws.BytesArg
import Derived.Deep.Quiet
import Derived.Deep.Draws
import Derived.BigQuiet
import Derived.Lib.Hide
import Derived.ProofKit
import Derived.Lib.SmallJoins
import Derived.Carry
import Derived.Laws.BitsLemmas
import Derived.Lib.BitFns
import Derived.Lib.ItoaNum
/- Plain words for slices of bytes, over any program: a slice that reads as a function of its place; one of the call's own, onto which is appended; regions whose calls make memory but turn none of the old. -/
namespace Go.Proofs.YtimcdnbfdkpffaaGreat
open Go.RowKit
theorem alloc_le (w : World) (o : Obj) : w.heap.size ≤ (w.alloc o).heap.size := by simp
theorem below_alloc (w : World) (o : Obj) : Below w.heap.size w (w.alloc o) := (Below.refl _ _).alloc (Nat.le_refl _) o
theorem below_alloc2 (w : World) (o o' : Obj) : Below w.heap.size w ((w.alloc o).alloc o') := (below_alloc w o).alloc (alloc_le w o) o'
/-- A slice of bytes that reads as f, below block B; of nothing the address is not asked. -/
def Rd (w : World) (B : Nat) (A : Option Addr) (n : Nat) (f : Nat → Int) : Prop :=
  n = 0 ∨ ∃ b off, A = some ⟨b, off, none⟩ ∧ b < B ∧ ∀ k, k < n → w.cell? ⟨b, off + k, none⟩ = some (.int .u8 (f k))
theorem Rd.keep {w w' : World} {B n : Nat} {A : Option Addr} {f : Nat → Int} (h : Rd w B A n f) (hb : Below B w w') : Rd w' B A n f := by
  rcases h with h | ⟨b, off, e, hlt, hc⟩
  · exact .inl h
  · exact .inr ⟨b, off, e, hlt, fun k hk => (hb.cell (p := ⟨b, off + k, none⟩) hlt).trans (hc k hk)⟩
theorem Rd.more {w : World} {B B' n : Nat} {A : Option Addr} {f : Nat → Int} (h : Rd w B A n f) (hB : B ≤ B') : Rd w B' A n f := by
  rcases h with h | ⟨b, off, e, hlt, hc⟩
  · exact .inl h
  · exact .inr ⟨b, off, e, by omega, hc⟩
/-- Each of f is a byte. -/
def Byt (f : Nat → Int) : Prop := ∀ k, 0 ≤ f k ∧ f k ≤ 255
/-- The first n of f. -/
def nums (n : Nat) (f : Nat → Int) : List Int := (List.range n).map f
theorem nums_len (n : Nat) (f : Nat → Int) : (nums n f).length = n := by simp [nums]
theorem nums_congr {n : Nat} {f g : Nat → Int} (h : ∀ k, k < n → g k = f k) : nums n g = nums n f := by
  unfold nums
  exact List.map_congr_left fun k hk => h k (by simpa using hk)
section
variable {P : Program}
/-- A slice of the call's own, from block base on, of byte type e. -/
def Own (w : World) (base : Nat) (e : TypeId) (A : Option Addr) (n c : Nat) (f : Nat → Int) : Prop :=
  w.ownsRow base e 1 (.slice A n c) n ((nums n f).map (Value.int .u8))
theorem Own.lies {w : World} {base : Nat} {e : TypeId} {A : Option Addr} {n c : Nat} {f : Nat → Int} (h : Own w base e A n c f) (hn : 0 < n) :
    ∃ g, A = some ⟨g, 0, none⟩ ∧ base ≤ g ∧ g < w.heap.size ∧ (∀ k, k < n → w.cell? ⟨g, k, none⟩ = some (.int .u8 (f k))) ∧ ∀ k, w.frozen? ⟨g, k, none⟩ = false := by
  have hh := h
  rcases h.2 with ⟨_, h0⟩ | ⟨g, cap, cur, hv, hb, hg, hnc, _⟩
  · omega
  · injection hv with h1 _ h3
    subst h1
    have hlt : g < w.heap.size := by
      rcases Nat.lt_or_ge g w.heap.size with hlt | hge
      · exact hlt
      · rw [Array.getElem?_eq_none hge] at hg; cases hg
    refine ⟨g, rfl, hb, hlt, fun k hk => ?_, fun k => World.ownsRow.frozenAt hh k⟩
    rw [World.ownsRow.cellAt hh k (by omega)]
    simp [nums, List.getElem?_map, List.getElem?_range hk]
theorem Own.rd {w : World} {base : Nat} {e : TypeId} {A : Option Addr} {n c : Nat} {f : Nat → Int} (h : Own w base e A n c f) : Rd w w.heap.size A n f := by
  rcases Nat.eq_zero_or_pos n with h0 | h0
  · exact .inl h0
  · obtain ⟨g, rfl, _, hlt, hc, _⟩ := h.lies h0
    exact .inr ⟨g, 0, rfl, hlt, fun k hk => by rw [Nat.zero_add]; exact hc k hk⟩
theorem Own.fresh (w : World) (base g : Nat) (hg : g = w.heap.size) (hb : base ≤ w.heap.size) (e : TypeId) (f : Nat → Int) : Own (w.alloc (.cells #[] e)) base e (some ⟨g, 0, none⟩) 0 0 f := by
  subst hg
  exact
  ⟨by simp [nums], .inr ⟨w.heap.size, 0, #[], rfl, hb, heap_alloc_new w _, Nat.le_refl _, by unfold maxLen; omega, by simp, by simp [nums]⟩⟩
theorem Own.same {w : World} {base : Nat} {e : TypeId} {A : Option Addr} {n c : Nat} {f g : Nat → Int} (h : Own w base e A n c f) (hg : ∀ k, k < n → g k = f k) : Own w base e A n c g := by
  unfold Own at h ⊢
  rw [nums_congr hg]
  exact h
theorem Own.alloc {w : World} {base : Nat} {e : TypeId} {A : Option Addr} {n c : Nat} {f : Nat → Int} (h : Own w base e A n c f) (o : Obj) : Own (w.alloc o) base e A n c f := World.ownsRow.alloc h o
/-- Kept where all below the heap's end is kept. -/
theorem Own.below {w w' : World} {base : Nat} {e : TypeId} {A : Option Addr} {n c : Nat} {f : Nat → Int} (h : Own w base e A n c f) (hb : Below w.heap.size w w') : Own w' base e A n c f := by
  refine ⟨h.1, ?_⟩
  rcases h.2 with hh | ⟨g, cap, cur, hv, hg, hh, r⟩
  · exact .inl hh
  · have hlt : g < w.heap.size := by
      rcases Nat.lt_or_ge g w.heap.size with hlt | hge
      · exact hlt
      · rw [Array.getElem?_eq_none hge] at hh; cases hh
    exact .inr ⟨g, cap, cur, hv, hg, (hb.block g hlt).trans hh, r⟩
theorem Own.le {w : World} {base base' : Nat} {e : TypeId} {A : Option Addr} {n c : Nat} {f : Nat → Int} (h : Own w base e A n c f) (hb : base' ≤ base) : Own w base' e A n c f := by
  refine ⟨h.1, ?_⟩
  rcases h.2 with hh | ⟨g, cap, cur, hv, hg, r⟩
  · exact .inl hh
  · exact .inr ⟨g, cap, cur, hv, Nat.le_trans hb hg, r⟩
/-- Where an append on it may have written. -/
theorem Own.at_ {w : World} {base : Nat} {e : TypeId} {A : Option Addr} {n c : Nat} {f : Nat → Int} (h : Own w base e A n c f) : ∀ k, Value.ownBlock (.slice A n c) = some k → base ≤ k := fun k hk => (World.ownsRow.lt h k hk).1
/-- f, but v at p. -/
def upd (f : Nat → Int) (p : Nat) (v : Int) (k : Nat) : Int := if k = p then v else f k
/-- A new block of one or two bytes. -/
theorem rd_new1 (w : World) (B g : Nat) (hg : g = w.heap.size) (hB : g < B) (x : Int) (e : TypeId) : Rd (w.alloc (.cells #[.int .u8 x] e)) B (some ⟨g, 0, none⟩) 1 (fun _ => x) := by
  subst hg
  refine .inr ⟨_, _, rfl, hB, fun k hk => ?_⟩
  obtain rfl : k = 0 := by omega
  go_simp
theorem rd_new2 (w : World) (B g : Nat) (hg : g = w.heap.size) (hB : g < B) (x y : Int) (e : TypeId) : Rd (w.alloc (.cells #[.int .u8 x, .int .u8 y] e)) B (some ⟨g, 0, none⟩) 2 (fun k => if k = 0 then x else y) := by
  subst hg
  refine .inr ⟨_, _, rfl, hB, fun k hk => ?_⟩
  match k, hk with
  | 0, _ => go_simp
  | 1, _ => go_simp
/-- f, n of it, and behind them g. -/
def cat (n : Nat) (f g : Nat → Int) (k : Nat) : Int := if k < n then f k else g (k - n)
theorem nums_cat (n m : Nat) (f g : Nat → Int) : nums (n + m) (cat n f g) = nums n f ++ nums m g := by
  unfold nums
  rw [List.range_add, List.map_append, List.map_map]
  congr 1
  · exact List.map_congr_left fun k hk => by simp at hk; simp [cat, hk]
  · exact List.map_congr_left fun k _ => by simp [cat]; intro h; omega
theorem run_append_rd {w : World} (base : Nat) (t ty e : TypeId) (i : TypeInfo) (ht : P.underlying t = some (.slice e)) (hi : P.info? e = some i) (hz : i.zero = some (.int .u8 0)) (hsize : i.size = 1) (hby : i.bytes = 1)
    {A : Option Addr} {n c : Nat} {f : Nat → Int} (hown : Own w base e A n c f) {B m c' : Nat} {A' : Option Addr} {g : Nat → Int} (hr : Rd w B A' m g)
    (hlen : n + m ≤ 140737488355328) (hbase : base ≤ w.heap.size) :
    ∃ A2 c2 w', (Builtin.append_ #[t, t] ty #[.slice A n c, .slice A' m c']).run P w = .ok (.slice A2 (n + m) c2) w' ∧ Own w' base e A2 (n + m) c2 (cat n f g) ∧ w.grownBy w' (Value.ownBlock (.slice A n c)) ∧
      (Value.ownBlock (.slice A2 (n + m) c2) = Value.ownBlock (.slice A n c) ∨ Value.ownBlock (.slice A2 (n + m) c2) = some w.heap.size) := by
  have zero : m = 0 → A' = none → (Builtin.append_ #[t, t] ty #[.slice A n c, .slice A' m c']).run P w = .ok (.slice A n c) w := by
    rintro rfl rfl
    rcases hown.2 with ⟨hv, rfl⟩ | ⟨g', cap, cur, hv, _, _, hnc, _⟩
    · rw [hv]
      simp [Builtin.append_, run_underlying ht, sizeOf, typeInfo, hi, Builtin.lenOf, Builtin.firstCells]
    · rw [hv]
      simp [Builtin.append_, run_underlying ht, sizeOf, typeInfo, hi, Builtin.lenOf, Builtin.firstCells, hnc, storeCells]
  have some_ : ∀ ad : Addr, A' = some ad → (∀ j u, ((nums m g).map (Value.int .u8))[j]? = some u → w.cell? (ad.add j) = some u) → _ := fun ad had hcells =>
    run_append_own_at (P := P) w base t ty e i (.int .u8 0) 1 1 ht hi hz hsize hby rfl (by omega) (.slice A n c) n _ hown ad m c' ((nums m g).map (Value.int .u8)) (by simp [nums_len]) hcells
      (by intro u hu; simp at hu; obtain ⟨x, _, rfl⟩ := hu; rfl) (by unfold maxLen; omega) (by omega) hbase
  have close : ∀ ad : Addr, A' = some ad → (∀ j u, ((nums m g).map (Value.int .u8))[j]? = some u → w.cell? (ad.add j) = some u) →
      ∃ A2 c2 w', (Builtin.append_ #[t, t] ty #[.slice A n c, .slice A' m c']).run P w = .ok (.slice A2 (n + m) c2) w' ∧ Own w' base e A2 (n + m) c2 (cat n f g) ∧ w.grownBy w' (Value.ownBlock (.slice A n c)) ∧
      (Value.ownBlock (.slice A2 (n + m) c2) = Value.ownBlock (.slice A n c) ∨ Value.ownBlock (.slice A2 (n + m) c2) = some w.heap.size) := by
    intro ad had hcells
    obtain ⟨v', w', hrun, h2, h3, _, h5⟩ := some_ ad had hcells
    subst had
    rw [← List.map_append, ← nums_cat] at h2
    have hv : ∃ A2 c2, v' = .slice A2 (n + m) c2 := by
      rcases h2.2 with ⟨hv, hz⟩ | ⟨g', cap, cur, hv, _⟩
      · exact ⟨none, 0, by rw [hv, hz]⟩
      · exact ⟨_, _, hv⟩
    obtain ⟨A2, c2, rfl⟩ := hv
    exact ⟨A2, c2, w', hrun, h2, h3, h5⟩
  rcases hr with rfl | ⟨b, off, rfl, hlt, hc⟩
  · cases hA : A' with
    | none =>
      have hrun := zero rfl hA
      rw [hA] at hrun
      refine ⟨A, c, w, hrun, ?_, World.grownBy.refl w _, .inl rfl⟩
      have e : nums (n + 0) (cat n f g) = nums n f := by rw [nums_cat]; simp [nums]
      unfold Own
      rw [e]
      exact hown
    | some ad =>
      have := close ad hA (by simp [nums])
      rw [hA] at this
      exact this
  · refine close _ rfl fun j u hu => ?_
    have hj : j < m := by
      rcases Nat.lt_or_ge j m with h | h
      · exact h
      · rw [List.getElem?_eq_none (by simpa [nums_len] using h)] at hu; cases hu
    have hplain : (⟨b, off, none⟩ : Addr).add j = ⟨b, off + j, none⟩ := by unfold Addr.add; split <;> simp_all
    rw [hplain, hc j hj]
    simpa [nums, List.getElem?_map, List.getElem?_range hj] using hu
/-- 'out = append(out, b..)' in a plain region. -/
theorem wpList_append_rd {w : World} {ops : Array Oper} {rest : List Oper} {o : Oper} {a : Act} {Q : Exit → Act → World → Prop} (hgd : Region.wanted o (yielded ops a.tmps) = true) (s x : Operand) (t : TypeId)
    (ho : o.op = .call { callee := .builtin .append, args := #[s, x], argTypes := #[t, t] })
    (base : Nat) (e : TypeId) (i : TypeInfo) (ht : P.underlying t = some (.slice e)) (hi : P.info? e = some i) (hz : i.zero = some (.int .u8 0)) (hsize : i.size = 1) (hby : i.bytes = 1)
    {A : Option Addr} {n c : Nat} {f : Nat → Int} (hs : a.eval s = .slice A n c) (hown : Own w base e A n c f) {B m c' : Nat} {A' : Option Addr} {g : Nat → Int} (hx : a.eval x = .slice A' m c') (hr : Rd w B A' m g)
    (hlen : n + m ≤ 140737488355328) (hbase : base ≤ w.heap.size)
    (h : ∀ A2 c2 w', Own w' base e A2 (n + m) c2 (cat n f g) → w.grownBy w' (Value.ownBlock (.slice A n c)) →
      (Value.ownBlock (.slice A2 (n + m) c2) = Value.ownBlock (.slice A n c) ∨ Value.ownBlock (.slice A2 (n + m) c2) = some w.heap.size) → wpList P ops Q rest (a.put o.dst (.slice A2 (n + m) c2)) w') :
    wpList P ops Q (o :: rest) a w := by
  refine BigFrame.wpList_want hgd fun K hK => ?_
  obtain ⟨A2, c2, w', hrun, h2, h3, h4⟩ := run_append_rd (P := P) base t o.type e i ht hi hz hsize hby hown hr hlen hbase (c' := c')
  unfold Oper.wp execOp
  simp only [ho, resolve, invoke, builtin, Sem.run_bind, Sem.run_pure, Result.andThen_ok, List.map_toArray, List.map_cons, List.map_nil, hs, hx, hrun]
  exact hK _ _ (h A2 c2 w' h2 h3 h4)
/-! ### Regions that draw their order, whose calls make memory but turn none of the old -/
/-- A world that is wc below wc's end. -/
structure Stay (wc : World) where
  w : World
  below : Below wc.heap.size wc w
def Stay.here (wc : World) : Stay wc := ⟨wc, Below.refl _ _⟩
instance (wc : World) : Nonempty (Stay wc) := ⟨Stay.here wc⟩
theorem Stay.cell {wc : World} {p : Addr} {v : Value} (h : wc.cell? p = some v) (W : Stay wc) : W.w.cell? p = some v :=
  (W.below.cell (World.block_lt_of_cell? wc p h)).trans h
theorem Calls.stay {wc : World} {fn : FuncId} {args : Array Value} (W : Stay wc) {v : Value} (h : Calls P fn args W.w fun e w' => e = .returned v ∧ Below W.w.heap.size W.w w') :
    Calls P fn args W.w fun e w'' => e = .returned v ∧ ∃ W' : Stay wc, w'' = W'.w :=
  h.mono fun _ w' ⟨he, hb⟩ => ⟨he, ⟨w', W.below.trans (hb.mono W.below.size)⟩, rfl⟩
theorem wp_region_stay {id : Nat} {Q : Exit → Act → World → Prop} {a : Act} {w : World} {l : List Oper} (hm : P.follows .mixedOrders = true) (hB : Region.lexB .any l.toArray = true)
    (h : wpQuiet P l.toArray (fun w' => ∃ W : Stay w, w' = W.w) (fun a' => ∀ w', (∃ W : Stay w, w' = W.w) → Q .normal a' w') l a) : (Code.region id l.toArray true).wp P Q a w :=
  wp_region_quiet (C := fun w' => ∃ W : Stay w, w' = W.w) hm hB ⟨⟨w.drew, (Below.refl _ _).drew⟩, rfl⟩ (by simpa using h)
end
end Go.Proofs.YtimcdnbfdkpffaaGreat
/- What every law's proof ends with, over any program: the call answered true and turned nothing that was there: so the arguments read as they did. And how a slice of bytes that came in is opened. -/
namespace Go.Proofs.YtimcdnbfdkpffaaGreat
open Go.ChangeShapes Go.WideShapes Go.ChangeAt Go.RowKit
section
variable {H : Type} {enc : TypeId × Value → H} {P : Program}
theorem trodAll_kept (hl : laidOutB P = true) {W W' : World} (hb : Below W.heap.size W W') (sp : Nat → Bool) :
    ∀ (ts : List TypeId) (vs : List Value) (ds : List (DataW H)) (ps : List MemPlace), (∀ t ∈ ts, P.readableRec t = true ∧ t < P.types.size) →
      DataW.TrodAll enc P W 0 (fun _ => true) true ts vs ds ps → (∀ x ∈ ps, x.block < W.heap.size) → (∀ x ∈ ps, sp x.block = true) → DataW.TrodAll enc P W' 0 sp true ts vs ds ps
  | [], _, _, _, _, h, _, _ => by
    obtain ⟨rfl, rfl, rfl⟩ := trodAll_nil h
    exact trodAll_mk0
  | t :: ts, _, _, _, hr, h, hlt, hsp => by
    obtain ⟨v, vs1, d, ds1, a, b, rfl, rfl, rfl, h1, h2⟩ := trodAll_cons h
    have h3 := WideElems.Trod_stays (sp' := sp) hl (hr t (by simp)).1 (hr t (by simp)).2 h1 (fun x hx => hb.same (hlt x (by simp [hx]))) (fun x hx => hsp x (by simp [hx]))
    exact trodAll_cons_mk h3 (trodAll_kept hl hb sp ts vs1 ds1 b (fun t ht => hr t (by simp [ht])) h2 (fun x hx => hlt x (by simp [hx])) (fun x hx => hsp x (by simp [hx])))
/-- The row's last step: true, the arguments as they were, of memory that was there nothing turned. -/
theorem law_post {f : Func} {s : ChangeSpec} {apart fresh handsOn again : Bool} {W W' : World} {args : Array Value} {tb : TypeId} {ds : List (DataW H)} {before : List MemPlace}
    (hW : DataW.Whole enc P f.params.toList s.vars apart W args.toList ds [] before) (hb : Below W.heap.size W W') (hl : laidOutB P = true) (hvars : s.vars = [])
    (hr : f.params.toList.all (fun t => P.readableRec t && decide (t < P.types.size)) = true) (hres : f.resultTypes = #[tb]) (htb : P.underlying tb = some .bool)
    (hs : s.fn H (ds ++ []) = { results := [.lit (.bool true)], args := ds }) :
    s.post enc P f apart fresh handsOn again W args (.bool true) W' := by
  have hr' : ∀ t ∈ f.params.toList, P.readableRec t = true ∧ t < P.types.size := fun t ht => by
    have := List.all_eq_true.1 hr t ht
    simpa using this
  have hlt : ∀ p ∈ before, p.block < W.heap.size := fun p hp => hW.lt p hp
  have hold : ∀ p ∈ before, (fun b => decide (b < W.heap.size)) p.block = true := fun p hp => by simpa using hlt p hp
  obtain ⟨p, q, hA, hV, hpq, hz, hn⟩ := id hW
  rw [hvars] at hV
  obtain ⟨_, rfl⟩ := trodVars_none hV
  rw [List.append_nil] at hpq
  subst hpq
  have hargs : ∀ sp : Nat → Bool, (∀ x ∈ before, sp x.block = true) → DataW.TrodAll enc P W' 0 sp true f.params.toList args.toList ds before := fun sp hsp => trodAll_kept hl hb sp _ _ _ _ hr' hA hlt hsp
  have hvs : ∀ sp : Nat → Bool, DataW.TrodVars enc P W' sp s.vars ([] : List (DataW H)) [] := fun sp => by rw [hvars]; exact rfl
  have hrs : ∀ (b : Nat) (sp : Nat → Bool) (hd : Bool), DataW.TrodAll enc P W' b sp hd f.resultTypes.toList ((Value.bool true).resultList f.resultTypes.size) [.lit (.bool true)] [] := fun b sp hd => by
    rw [hres]
    exact trodAll_cons_mk (shut_bool htb true) trodAll_mk0
  refine ⟨ds, [], before, [], before, [], hW, ?_, ?_, ?_, World.keptBut_mono (fun x hx => ⟨hx, Or.inr (Or.inl hx)⟩) (hb.frame (· ∈ before)), fun _ => ⟨?_, [.lit (.bool true)] ++ ds, [], before, ?_, fun x hx _ => hx⟩⟩
  · rw [hs]; exact hrs _ _ _
  · rw [hs]; exact hargs _ hold
  · rw [hs]; exact hvs _
  · exact ok_one hres rfl (okWide_bool_mk htb true)
  · refine ⟨before, [], trodAll_append (hargs _ (fun _ _ => rfl)) (hrs _ _ _), hvs _, by simp, ?_, hn⟩
    intro b off hp
    rw [hb.frozen (p := ⟨b, off, none⟩) (hlt _ hp)]
    exact hz b off hp
/-- A slice of bytes that came in. -/
theorem open_rd {W : World} {r : Reach} {b0 : Nat} {t e : TypeId} {v : Value} {d : DataW H} {p : List MemPlace} (ht : P.underlying t = some (.slice e)) (he : P.underlying e = some (.int .u8)) (hc : P.cellsOf e = 1)
    (hv : Value.okWide P W r b0 t v) (h : DataW.Trod enc P W 0 (fun _ => true) true t v d p) :
    ∃ A n c f, v = .slice A n c ∧ n ≤ c ∧ c ≤ maxLen ∧ Byt f ∧ Rd W W.heap.size A n f := by
  obtain ⟨a0, len, cap, rfl⟩ := okWide_slice ht hv
  obtain ⟨fuel, hf⟩ := h
  rcases open_ints ht he hc hf with ⟨hcs, _⟩ | ⟨a, len', cap', zs, hcs, _, hl, hm, hz, _, hcell, hwz⟩
  · simp [Value.cells] at hcs
    obtain ⟨rfl, rfl, rfl⟩ := hcs
    exact ⟨none, 0, 0, fun _ => 0, rfl, Nat.le_refl _, Nat.zero_le _, fun _ => ⟨Int.le_refl 0, (by decide : (0 : Int) ≤ 255)⟩, .inl rfl⟩
  · simp [Value.cells] at hcs
    obtain ⟨rfl, rfl, rfl⟩ := hcs
    simp only [if_true] at hz
    refine ⟨some a, len, cap, fun k => zs.getD k 0, rfl, hl, hm, fun k => ?_, ?_⟩
    · by_cases hk : k < zs.length
      · have hm := hwz (zs.getD k 0) (by simp [List.getD, hk])
        simpa [Lit.wf, IntKind.min, IntKind.max, IntKind.signed, IntKind.bits] using hm
      · have e0 : zs.getD k 0 = 0 := by simp [List.getD, hk]
        show 0 ≤ zs.getD k 0 ∧ zs.getD k 0 ≤ 255
        omega
    · rcases Nat.eq_zero_or_pos len with h0 | h0
      · exact .inl h0
      · obtain ⟨b, off, spot⟩ := a
        have hspot : spot = none := by simpa [Addr.add] using World.cell?_spot (hcell 0 (by omega))
        subst hspot
        have hlt := World.block_lt_of_cell? W _ (hcell 0 (by omega))
        exact .inr ⟨b, off, rfl, by simpa [Addr.add] using hlt, fun k hk => by rw [← add_plain]; exact hcell k (by omega)⟩
end
end Go.Proofs.YtimcdnbfdkpffaaGreat
/- Stage 11's pure words, numbers: in which level and slot a tick lies, seen from now; what a tick more does to that. -/
namespace Go.Proofs.YtimcdnbfdkpffaaGreat
/-- The level of a tick. -/
def lev (now at_ : Nat) : Nat := min ((Lib.bitLen ((at_ ^^^ now) / 256) + 7) / 8) 3
/-- The slot of a level in which a tick is. -/
def slt (l at_ : Nat) : Nat := l * 256 + at_ / 256 ^ l % 256
def plc (now at_ : Nat) : Nat := slt (lev now at_) at_
theorem lev_le (now at_ : Nat) : lev now at_ ≤ 3 := Nat.min_le_right ..
theorem slt_lt {l : Nat} (h : l ≤ 3) (at_ : Nat) : slt l at_ < 1024 := by
  unfold slt
  have := Nat.mod_lt (at_ / 256 ^ l) (show 0 < 256 by omega)
  omega
theorem slt_level {l l' a b : Nat} (h : slt l a = slt l' b) : l = l' ∧ a / 256 ^ l % 256 = b / 256 ^ l' % 256 := by
  unfold slt at h
  have := Nat.mod_lt (a / 256 ^ l) (show 0 < 256 by omega)
  have := Nat.mod_lt (b / 256 ^ l') (show 0 < 256 by omega)
  omega
theorem xor_cut (a b k : Nat) : (a ^^^ b) / 256 ^ k = (a / 256 ^ k) ^^^ (b / 256 ^ k) := by
  have e : 256 ^ k = 2 ^ (8 * k) := by rw [Nat.pow_mul]
  rw [e, ← Nat.shiftRight_eq_div_pow, ← Nat.shiftRight_eq_div_pow, ← Nat.shiftRight_eq_div_pow, Nat.shiftRight_xor_distrib]
theorem xor_zero_eq {a b : Nat} (h : a ^^^ b = 0) : a = b := by
  have h2 : (a ^^^ b) ^^^ b = 0 ^^^ b := by rw [h]
  rw [Nat.xor_assoc, Nat.xor_self, Nat.xor_zero, Nat.zero_xor] at h2
  exact h2
theorem bitLen_zero {x : Nat} (hx : x < 2 ^ 64) (h : Lib.bitLen x = 0) : x = 0 := by
  rcases Nat.eq_zero_or_pos x with e | e
  · exact e
  · have := (Lib.bitLenAux_bounds 64 x hx (by omega)).1
    unfold Lib.bitLen at h
    omega
theorem bitLen_ge {x n : Nat} (hx : x < 2 ^ 64) (h : n < Lib.bitLen x) : 2 ^ n ≤ x := by
  have hx0 : x ≠ 0 := by
    rintro rfl
    unfold Lib.bitLen at h
    rw [Lib.bitLenAux_zero] at h
    omega
  have := (Lib.bitLenAux_bounds 64 x hx hx0).2.1
  unfold Lib.bitLen at h
  exact Nat.le_trans (Nat.pow_le_pow_right (by omega) (by omega)) this
theorem xor_lt64 {now at_ : Nat} (hn : now < 2 ^ 64) (ha : at_ < 2 ^ 64) : (at_ ^^^ now) / 256 < 2 ^ 64 :=
  Nat.lt_of_le_of_lt (Nat.div_le_self _ _) (Nat.xor_lt_two_pow ha hn)
theorem lev_zero {now at_ : Nat} (hn : now < 2 ^ 64) (ha : at_ < 2 ^ 64) (h : lev now at_ = 0) : at_ / 256 = now / 256 := by
  unfold lev at h
  have hb : Lib.bitLen ((at_ ^^^ now) / 256) = 0 := by omega
  have h0 := bitLen_zero (xor_lt64 hn ha) hb
  have := xor_cut at_ now 1
  rw [Nat.pow_one, h0] at this
  exact xor_zero_eq this.symm
theorem lev_pos {now at_ : Nat} (hn : now < 2 ^ 64) (ha : at_ < 2 ^ 64) (h : 0 < lev now at_) : at_ / 256 ^ lev now at_ ≠ now / 256 ^ lev now at_ := by
  intro e
  have hx := xor_cut at_ now (lev now at_)
  rw [e, Nat.xor_self] at hx
  generalize hl : lev now at_ = l at *
  unfold lev at hl
  have hb : 8 * (l - 1) < Lib.bitLen ((at_ ^^^ now) / 256) := by omega
  have hg := bitLen_ge (xor_lt64 hn ha) hb
  have h1 : 256 ^ l = 2 ^ (8 * (l - 1)) * 256 := by
    rw [Nat.pow_mul]
    have : l = (l - 1) + 1 := by omega
    rw [this, Nat.pow_succ]
    rfl
  have h2 := (Nat.le_div_iff_mul_le (by omega)).1 hg
  rw [← h1] at h2
  have h3 := Nat.div_pos h2 (Nat.pow_pos (by omega))
  omega
/-- Where a tick that is to come lies. -/
def Std (now at_ q : Nat) : Prop := ∃ l, l ≤ 3 ∧ q = slt l at_ ∧ now / 256 ^ l < at_ / 256 ^ l ∧ (l = 0 → at_ < now + 256)
/-- Where it lies while n is being laid anew: levels above M are. -/
def Lse (M n at_ q : Nat) : Prop := ∃ l, l ≤ 3 ∧ q = slt l at_ ∧ (n - 1) / 256 ^ l < at_ / 256 ^ l ∧ (M < l → n / 256 ^ l < at_ / 256 ^ l) ∧ (l = 0 → at_ < n + 256)
theorem pow_pos256 (l : Nat) : 0 < 256 ^ l := Nat.pow_pos (by omega)
theorem std_lay {now at_ : Nat} (hn : now < 2 ^ 64) (ha : at_ < 2 ^ 64) (h : now < at_) : Std now at_ (plc now at_) := by
  refine ⟨lev now at_, lev_le .., rfl, ?_, fun e => ?_⟩
  · have h1 := Nat.div_le_div_right (c := 256 ^ lev now at_) (Nat.le_of_lt h)
    rcases Nat.eq_zero_or_pos (lev now at_) with e | e
    · rw [e]
      simpa using h
    · have := lev_pos hn ha e
      omega
  · have := lev_zero hn ha e
    omega
theorem lse_lay {M n at_ : Nat} (hn0 : 0 < n) (hn : n < 2 ^ 64) (ha : at_ < 2 ^ 64) (h : n ≤ at_) : Lse M n at_ (plc n at_) := by
  have hd : (n - 1) / 256 ^ lev n at_ ≤ n / 256 ^ lev n at_ := Nat.div_le_div_right (by omega)
  have h1 := Nat.div_le_div_right (c := 256 ^ lev n at_) h
  refine ⟨lev n at_, lev_le .., rfl, ?_, fun e => ?_, fun e => ?_⟩
  · rcases Nat.eq_zero_or_pos (lev n at_) with e | e
    · rw [e]
      simp
      omega
    · have := lev_pos hn ha e
      omega
  · have := lev_pos hn ha (by omega)
    omega
  · have := lev_zero hn ha e
    omega
theorem div_succ_le (a d : Nat) (hd : 0 < d) : (a + 1) / d ≤ a / d + 1 := by
  have := Nat.add_div_right a hd
  have h2 : (a + 1) / d ≤ (a + d) / d := Nat.div_le_div_right (by omega)
  omega
theorem lse_of_std {now at_ q : Nat} (h : Std now at_ q) : Lse 3 (now + 1) at_ q := by
  obtain ⟨l, hl, e, h1, h2⟩ := h
  exact ⟨l, hl, e, h1, fun hh => absurd hh (by omega), fun e => by have := h2 e; omega⟩
/-- No slot of the level begins. -/
theorem div_same {n d : Nat} (hd : 0 < d) (h : n % d ≠ 0) : n / d = (n - 1) / d := by
  have hn : 0 < n := by
    rcases Nat.eq_zero_or_pos n with e | e
    · subst e
      simp at h
    · exact e
  have h1 := Nat.div_add_mod n d
  have hm := Nat.mod_lt n hd
  have h2 : n - 1 = d * (n / d) + (n % d - 1) := by
    generalize d * (n / d) = m at *
    generalize n % d = r at *
    omega
  have h3 : (n % d - 1) / d = 0 := Nat.div_eq_of_lt (by omega)
  rw [h2, Nat.mul_add_div hd, h3, Nat.add_zero]
theorem lse_skip {M n at_ q : Nat} (hM : 0 < M) (hm : n % 256 ^ M ≠ 0) (h : Lse M n at_ q) : Lse (M - 1) n at_ q := by
  obtain ⟨l, hl, e, h1, h2, h3⟩ := h
  refine ⟨l, hl, e, h1, fun hh => ?_, h3⟩
  rcases Nat.lt_or_ge M l with q | q
  · exact h2 q
  · have : l = M := by omega
    subst this
    rw [div_same (pow_pos256 l) hm]
    exact h1
theorem lse_skips {M n at_ q : Nat} (hm : n % 256 ≠ 0) (h : Lse M n at_ q) : Lse 0 n at_ q := by
  obtain ⟨l, hl, e, h1, h2, h3⟩ := h
  refine ⟨l, hl, e, h1, fun hh => ?_, h3⟩
  rw [div_same (pow_pos256 l) fun hz => hm ?_]
  · exact h1
  · have hd : 256 ∣ 256 ^ l := ⟨256 ^ (l - 1), by
      have : l = (l - 1) + 1 := by omega
      rw [this, Nat.pow_succ, Nat.mul_comm]
      rfl⟩
    exact Nat.mod_eq_zero_of_dvd (Nat.dvd_trans hd (Nat.dvd_of_mod_eq_zero hz))
/-- What is not in the slot that begins stays. -/
theorem lse_stays {M n at_ q : Nat} (hM : 0 < M) (h : Lse M n at_ q) (hq : q ≠ slt M n) : Lse (M - 1) n at_ q := by
  obtain ⟨l, hl, e, h1, h2, h3⟩ := h
  refine ⟨l, hl, e, h1, fun hh => ?_, h3⟩
  rcases Nat.lt_or_ge M l with q' | q'
  · exact h2 q'
  · have : l = M := by omega
    subst this
    have hne : at_ / 256 ^ l ≠ n / 256 ^ l := fun he => hq (by rw [e]; unfold slt; rw [he])
    have := div_succ_le (n - 1) (256 ^ l) (pow_pos256 l)
    rcases Nat.eq_zero_or_pos n with en | en
    · subst en
      simp at hne h1 ⊢
      omega
    · rw [show n - 1 + 1 = n by omega] at this
      omega
theorem lse_le {M n at_ q : Nat} (h : Lse M n at_ q) (hn : 0 < n) : n ≤ at_ := by
  obtain ⟨l, _, _, h, _⟩ := h
  rcases Nat.lt_or_ge (n - 1) at_ with q | q
  · omega
  · have := Nat.div_le_div_right (c := 256 ^ l) q
    omega
/-- What is in the slot of now is due now, and nothing else is. -/
theorem lse_due {n at_ q : Nat} (hn : 0 < n) (h : Lse 0 n at_ q) : q = slt 0 n ↔ at_ = n := by
  have hle := lse_le h hn
  obtain ⟨l, hl, e, h1, h2, h3⟩ := h
  constructor
  · intro eq
    rw [eq] at e
    obtain ⟨e1, e2⟩ := slt_level e
    subst e1
    have := h3 rfl
    simp only [Nat.pow_zero, Nat.div_one] at e2
    omega
  · rintro rfl
    rcases Nat.eq_zero_or_pos l with q | q
    · rw [e, q]
    · exact absurd (h2 q) (Nat.lt_irrefl _)
theorem std_of_lse {n at_ q : Nat} (hn : 0 < n) (h : Lse 0 n at_ q) (hne : at_ ≠ n) : Std n at_ q := by
  have hle := lse_le h hn
  obtain ⟨l, hl, e, h1, h2, h3⟩ := h
  refine ⟨l, hl, e, ?_, h3⟩
  rcases Nat.eq_zero_or_pos l with q | q
  · rw [q]
    simp
    omega
  · exact h2 q
end Go.Proofs.YtimcdnbfdkpffaaGreat
/- Stage 9's pure words: an arena as the document defines it (of each cell the serial of who has it; what was freed and is free, the last one last; how many were taken), what take, free and live do to it, and what always holds. -/
namespace Go.Proofs.YtimcdnbfdkpffaaGreat
structure Ar where
  has : List Nat
  freed : List Nat
  serial : Nat
namespace Ar
def new (n : Nat) : Ar := ⟨List.replicate n 0, [], 0⟩
/-- The cell that is taken next. -/
def which (s : Ar) : Option Nat := match s.freed.getLast? with
  | some i => some i
  | none => s.has.findIdx? (· == 0)
def at_ (s : Ar) (i : Nat) : Nat := (s.has[i]?).getD 0
def live (s : Ar) (i : Int) (k : Nat) : Bool := decide (0 ≤ i) && decide (k ≠ 0) && (s.at_ i.toNat == k)
def taken (s : Ar) (i : Nat) : Ar := ⟨s.has.set i (s.serial + 1), s.freed.dropLast, s.serial + 1⟩
def gone (s : Ar) (i : Nat) : Ar := ⟨s.has.set i 0, s.freed ++ [i], s.serial⟩
/-- How many are taken. -/
def count (s : Ar) : Nat := s.has.countP (fun x => x != 0)
structure Ok (s : Ar) : Prop where
  low : ∀ i, i ∈ s.freed → s.has[i]? = some 0
  nodup : s.freed.Nodup
  le : ∀ i, s.at_ i ≤ s.serial
  one : ∀ i j, s.at_ i ≠ 0 → s.at_ i = s.at_ j → i = j
theorem at_set {s : Ar} {i v : Nat} (hi : i < s.has.length) (j : Nat) : ((s.has.set i v)[j]?).getD 0 = if j = i then v else s.at_ j := by
  unfold at_
  rw [List.getElem?_set]
  by_cases h : i = j
  · subst h; simp [hi]
  · have h' : ¬ j = i := fun e => h e.symm
    simp [h, h']
theorem at_out {s : Ar} {i : Nat} (h : s.has.length ≤ i) : s.at_ i = 0 := by
  unfold at_
  rw [List.getElem?_eq_none h]; rfl
theorem ok_new (n : Nat) : (new n).Ok := by
  have h : ∀ i, (new n).at_ i = 0 := by
    intro i
    unfold at_ new
    rw [List.getElem?_replicate]
    split <;> rfl
  exact ⟨fun i hi => by simp [new] at hi, by simp [new], fun i => by rw [h]; omega, fun i j hi => absurd (h i) hi⟩
/-- The next cell is one that is free. -/
theorem which_free {s : Ar} (hs : s.Ok) {i : Nat} (h : s.which = some i) : s.has[i]? = some 0 := by
  unfold which at h
  split at h
  · rename_i k hk
    cases h
    exact hs.low _ (List.mem_of_getLast? hk)
  · obtain ⟨hlt, h0, _⟩ := List.findIdx?_eq_some_iff_getElem.mp h
    rw [List.getElem?_eq_getElem hlt]
    simpa using h0
theorem which_lt {s : Ar} (hs : s.Ok) {i : Nat} (h : s.which = some i) : i < s.has.length := by
  have := which_free hs h
  exact (List.getElem?_eq_some_iff.mp this).1
theorem which_at {s : Ar} (hs : s.Ok) {i : Nat} (h : s.which = some i) : s.at_ i = 0 := by
  unfold at_; rw [which_free hs h]; rfl
/-- None is free: each cell is taken. -/
theorem count_full {s : Ar} (h : s.which = none) : s.count = s.has.length := by
  unfold which at h
  split at h
  · cases h
  · rw [List.findIdx?_eq_none_iff] at h
    unfold count
    rw [List.countP_eq_length]
    intro x hx
    have := h x hx
    simpa using this
theorem at_taken {s : Ar} (hs : s.Ok) {i : Nat} (h : s.which = some i) (j : Nat) : (s.taken i).at_ j = if j = i then s.serial + 1 else s.at_ j :=
  at_set (which_lt hs h) j
theorem at_gone {s : Ar} {i : Nat} (h : s.at_ i ≠ 0) (j : Nat) : (s.gone i).at_ j = if j = i then 0 else s.at_ j := by
  have hi : i < s.has.length := Nat.lt_of_not_le fun hle => h (at_out hle)
  exact at_set hi j
theorem ok_taken {s : Ar} (hs : s.Ok) {i : Nat} (h : s.which = some i) : (s.taken i).Ok := by
  have hat := at_taken hs h
  have hlt := which_lt hs h
  refine ⟨?_, ?_, ?_, ?_⟩
  · intro j hj
    have hj' : j ∈ s.freed := (List.dropLast_sublist _).subset hj
    have hne : i ≠ j := by
      rintro rfl
      unfold which at h
      split at h
      · rename_i k hk
        cases h
        obtain ⟨ys, hys⟩ := List.getLast?_eq_some_iff.mp hk
        have hn := hs.nodup
        have hj2 : i ∈ s.freed.dropLast := hj
        rw [hys] at hn hj2
        rw [List.dropLast_concat] at hj2
        rw [List.nodup_append] at hn
        exact hn.2.2 i hj2 i (by simp) rfl
      · rename_i hk
        rw [List.getLast?_eq_none_iff] at hk
        rw [hk] at hj'
        cases hj'
    show (s.has.set i (s.serial + 1))[j]? = some 0
    rw [List.getElem?_set_ne hne]
    exact hs.low j hj'
  · exact hs.nodup.sublist (List.dropLast_sublist _)
  · intro j
    rw [hat]
    show _ ≤ s.serial + 1
    split
    · omega
    · have := hs.le j; omega
  · intro a b ha hab
    rw [hat, hat] at hab
    rw [hat] at ha
    have la := hs.le a
    have lb := hs.le b
    split at hab <;> split at hab
    · omega
    · omega
    · omega
    · rename_i h1 h2
      rw [if_neg h1] at ha
      exact hs.one a b ha hab
theorem ok_gone {s : Ar} (hs : s.Ok) {i : Nat} (h : s.at_ i ≠ 0) : (s.gone i).Ok := by
  have hat := at_gone h
  have hlt : i < s.has.length := Nat.lt_of_not_le fun hle => h (at_out hle)
  refine ⟨?_, ?_, ?_, ?_⟩
  · intro j hj
    show (s.has.set i 0)[j]? = some 0
    rw [List.getElem?_set]
    by_cases e : i = j
    · subst e; simp [hlt]
    · rw [if_neg e]
      rcases List.mem_append.mp hj with hj | hj
      · exact hs.low j hj
      · simp at hj; exact absurd hj.symm e
  · show (s.freed ++ [i]).Nodup
    rw [List.nodup_append]
    refine ⟨hs.nodup, by simp, ?_⟩
    intro a ha b hb e
    simp at hb
    subst hb; subst e
    apply h
    unfold at_
    rw [hs.low _ ha]; rfl
  · intro j
    rw [hat]
    show _ ≤ s.serial
    split
    · omega
    · exact hs.le j
  · intro a b ha hab
    rw [hat, hat] at hab
    rw [hat] at ha
    split at hab <;> split at hab
    · omega
    · rename_i h1 _; rw [if_pos h1] at ha; omega
    · rename_i h1 _; rw [if_neg h1] at ha; omega
    · rename_i h1 h2
      rw [if_neg h1] at ha
      exact hs.one a b ha hab
theorem count_set {l : List Nat} {i v : Nat} (hi : i < l.length) : (l.set i v).countP (fun x => x != 0) + (if l[i] != 0 then 1 else 0) = l.countP (fun x => x != 0) + (if v != 0 then 1 else 0) := by
  induction l generalizing i with
  | nil => simp at hi
  | cons a t ih =>
    cases i with
    | zero => simp only [List.set_cons_zero, List.countP_cons, List.getElem_cons_zero]; omega
    | succ j =>
      have := ih (i := j) (by simpa using hi)
      simp only [List.set_cons_succ, List.countP_cons, List.getElem_cons_succ]
      omega
theorem count_taken {s : Ar} (hs : s.Ok) {i : Nat} (h : s.which = some i) : (s.taken i).count = s.count + 1 := by
  have hlt := which_lt hs h
  have h0 : s.has[i] = 0 := by
    have := which_free hs h
    rw [List.getElem?_eq_getElem hlt] at this
    exact Option.some.inj this
  have := count_set (v := s.serial + 1) hlt
  rw [h0] at this
  simpa [count, taken] using this
theorem count_gone {s : Ar} {i : Nat} (h : s.at_ i ≠ 0) : (s.gone i).count + 1 = s.count := by
  have hlt : i < s.has.length := Nat.lt_of_not_le fun hle => h (at_out hle)
  have h0 : s.has[i] ≠ 0 := by
    have h' := h
    unfold at_ at h'
    rw [List.getElem?_eq_getElem hlt] at h'
    exact h'
  have := count_set (v := 0) hlt
  simpa [count, gone, h0] using this
theorem live_iff {s : Ar} {i : Int} {k : Nat} : s.live i k = true ↔ 0 ≤ i ∧ k ≠ 0 ∧ s.at_ i.toNat = k := by
  unfold live; simp [and_assoc]
/-- A handle that is taken was never live: its serial is above all. -/
theorem not_live {s : Ar} (hs : s.Ok) {i : Int} {k : Nat} (h : s.serial < k) : s.live i k = false := by
  have := hs.le i.toNat
  cases e : s.live i k with
  | false => rfl
  | true => obtain ⟨_, _, h3⟩ := live_iff.mp e; omega
theorem live_new {s : Ar} (hs : s.Ok) {i : Nat} (h : s.which = some i) : (s.taken i).live (i : Int) (s.serial + 1) = true := by
  rw [live_iff]
  refine ⟨by omega, by omega, ?_⟩
  rw [at_taken hs h]; simp
end Ar
end Go.Proofs.YtimcdnbfdkpffaaGreat
/- Stage 11's pure words: a wheel as the document defines it (its arena, its timers in the order of their arming, now, how many armings there were), what its calls do, and what always holds. -/
namespace Go.Proofs.YtimcdnbfdkpffaaGreat
/-- A timer: its handle, when it is due, what for. -/
structure Tm where
  i : Nat
  k : Nat
  at_ : Nat
  what : Nat
structure Wh where
  a : Ar
  l : List Tm
  now : Nat
  tn : Nat
def Tm.is_ (t : Tm) (i : Int) (k : Nat) : Bool := decide ((t.i : Int) = i) && (t.k == k)
theorem Tm.is_iff {t : Tm} {i : Int} {k : Nat} : t.is_ i k = true ↔ (t.i : Int) = i ∧ t.k = k := by
  unfold Tm.is_
  simp
/-- Cells that are freed one behind the other. -/
def goneL (a : Ar) (L : List Nat) : Ar := L.foldl Ar.gone a
theorem goneL_facts : ∀ (L : List Nat) (a : Ar), a.Ok → L.Nodup → (∀ i, i ∈ L → a.at_ i ≠ 0) → (goneL a L).Ok ∧ (∀ j, (goneL a L).at_ j = if j ∈ L then 0 else a.at_ j) ∧ (goneL a L).count + L.length = a.count ∧ (goneL a L).serial = a.serial ∧ (goneL a L).has.length = a.has.length
  | [], a, h, _, _ => ⟨h, fun j => by simp [goneL], rfl, rfl, rfl⟩
  | i :: t, a, h, hn, hl => by
    obtain ⟨hi, ht⟩ := List.nodup_cons.1 hn
    have h0 := hl i (List.mem_cons_self ..)
    have hat := Ar.at_gone h0
    have hl2 : ∀ j, j ∈ t → (a.gone i).at_ j ≠ 0 := fun j hj => by
      rw [hat, if_neg (fun e => hi (by rw [← e]; exact hj))]
      exact hl j (List.mem_cons_of_mem _ hj)
    obtain ⟨h1, h2, h3, h4, h5⟩ := goneL_facts t (a.gone i) (Ar.ok_gone h h0) ht hl2
    have e : goneL a (i :: t) = goneL (a.gone i) t := rfl
    have hc := Ar.count_gone h0
    rw [e]
    refine ⟨h1, fun j => ?_, ?_, h4, h5.trans List.length_set⟩
    · rw [h2, hat]
      by_cases q : j = i
      · subst q
        simp
      · by_cases q2 : j ∈ t
        · simp [q2]
        · simp [q, q2]
    · rw [List.length_cons]
      omega
namespace Wh
def new (n : Nat) : Wh := ⟨Ar.new n, [], 0, 0⟩
def lastT : Nat := 18446744073709551615
/-- May no timer be armed at a tick? -/
def over (s : Wh) (at_ : Nat) : Bool := decide (s.now = lastT) || (decide (s.now < at_) && decide (4294967296 ≤ at_ - s.now))
/-- At which tick it is due then. -/
def nxt (s : Wh) (at_ : Nat) : Nat := if at_ ≤ s.now then s.now + 1 else at_
def drop (l : List Tm) (i : Int) (k : Nat) : List Tm := l.filter fun t => !t.is_ i k
def find (s : Wh) (i : Int) (k : Nat) : Option Tm := s.l.find? fun t => t.is_ i k
def armE (s : Wh) (at_ : Nat) : Int := if s.over at_ = true then 15 else match s.a.which with
  | none => 9
  | some _ => 0
def armH (s : Wh) (at_ : Nat) : Array Value := if s.over at_ = true then #[.int .i64 0, .int .u64 0] else match s.a.which with
  | none => #[.int .i64 0, .int .u64 0]
  | some i => #[.int .i64 (i : Int), .int .u64 ((s.a.serial : Int) + 1)]
def arm (s : Wh) (at_ what : Nat) : Wh := if s.over at_ = true then s else match s.a.which with
  | none => s
  | some i => ⟨s.a.taken i, s.l ++ [⟨i, s.a.serial + 1, s.nxt at_, what⟩], s.now, s.tn + 1⟩
def againE (s : Wh) (i : Int) (k at_ : Nat) : Int := if s.a.live i k = true then (if s.over at_ = true then 15 else 0) else 14
def again (s : Wh) (i : Int) (k at_ : Nat) : Wh := match s.find i k with
  | none => s
  | some t => if s.over at_ = true then s else ⟨s.a, drop s.l i k ++ [⟨t.i, t.k, s.nxt at_, t.what⟩], s.now, s.tn + 1⟩
def cancelE (s : Wh) (i : Int) (k : Nat) : Int := if s.a.live i k = true then 0 else 14
def cancel (s : Wh) (i : Int) (k : Nat) : Wh := if s.a.live i k = true then ⟨s.a.gone i.toNat, drop s.l i k, s.now, s.tn⟩ else s
def due (s : Wh) (i : Int) (k : Nat) : Array Value := match s.find i k with
  | none => #[.int .u64 0, .bool false]
  | some t => #[.int .u64 (t.at_ : Int), .bool true]
/-- What is due at the next tick. -/
def fires (s : Wh) : List Tm := s.l.filter fun t => decide (t.at_ = s.now + 1)
def stay (s : Wh) : List Tm := s.l.filter fun t => !decide (t.at_ = s.now + 1)
def ticked (s : Wh) : Wh := ⟨goneL s.a (s.fires.map Tm.i), s.stay, s.now + 1, s.tn⟩
def tick (s : Wh) : Wh := if s.now = lastT then s else s.ticked
def tickE (s : Wh) : Int := if s.now = lastT then 15 else 0
def told (s : Wh) : List Tm := if s.now = lastT then [] else s.fires
def skipE (s : Wh) (to : Nat) : Int := if s.l.length = 0 then (if to < s.now then 2 else 0) else 13
def skip (s : Wh) (to : Nat) : Wh := if s.skipE to = 0 then ⟨s.a, s.l, to, s.tn⟩ else s
structure Ok (s : Wh) : Prop where
  a : s.a.Ok
  ent : ∀ t, t ∈ s.l → s.a.at_ t.i = t.k ∧ t.k ≠ 0
  all : ∀ i, s.a.at_ i ≠ 0 → ∃ t, t ∈ s.l ∧ t.i = i
  nd : (s.l.map Tm.i).Nodup
  cnt : s.l.length = s.a.count
  fut : ∀ t, t ∈ s.l → s.now < t.at_ ∧ t.at_ < 18446744073709551616
  now : s.now < 18446744073709551616
theorem ok_new (n : Nat) : (new n).Ok := by
  have h0 : ∀ i, (Ar.new n).at_ i = 0 := by
    intro i
    unfold Ar.at_ Ar.new
    rw [List.getElem?_replicate]
    split <;> rfl
  refine ⟨Ar.ok_new n, (fun t h => nomatch h), fun i h => absurd (h0 i) h, List.nodup_nil, ?_, (fun t h => nomatch h), by show 0 < 18446744073709551616; omega⟩
  show 0 = (Ar.new n).count
  unfold Ar.count Ar.new
  simp [List.countP_replicate]
theorem one_of {l : List Tm} (hn : (l.map Tm.i).Nodup) {t u : Tm} (ht : t ∈ l) (hu : u ∈ l) (e : t.i = u.i) : t = u := by
  induction l with
  | nil => cases ht
  | cons x r ih =>
    rw [List.map_cons, List.nodup_cons] at hn
    rcases List.mem_cons.1 ht with q1 | q1
    · rcases List.mem_cons.1 hu with q2 | q2
      · rw [q1, q2]
      · exact absurd (List.mem_map.2 ⟨u, q2, by rw [← e, q1]⟩) hn.1
    · rcases List.mem_cons.1 hu with q2 | q2
      · exact absurd (List.mem_map.2 ⟨t, q1, by rw [e, q2]⟩) hn.1
      · exact ih hn.2 q1 q2
/-- A handle that is live is a timer's. -/
theorem live_ent {s : Wh} (h : s.Ok) {i : Int} {k : Nat} (hl : s.a.live i k = true) : ∃ t, t ∈ s.l ∧ (t.i : Int) = i ∧ t.k = k ∧ s.find i k = some t := by
  obtain ⟨h0, h1, h2⟩ := Ar.live_iff.1 hl
  obtain ⟨t, ht, e⟩ := h.all i.toNat (by rw [h2]; exact h1)
  have e1 : (t.i : Int) = i := by omega
  have e2 : t.k = k := by rw [← (h.ent t ht).1, e, h2]
  refine ⟨t, ht, e1, e2, ?_⟩
  unfold find
  cases hf : s.l.find? (fun t => t.is_ i k) with
  | none =>
    rw [List.find?_eq_none] at hf
    exact absurd (Tm.is_iff.2 ⟨e1, e2⟩) (by simpa using hf t ht)
  | some u =>
    have hu := List.mem_of_find?_eq_some hf
    have hp := List.find?_some hf
    have := Tm.is_iff.1 hp
    rw [one_of h.nd hu ht (by omega)]
theorem not_live {s : Wh} (h : s.Ok) {i : Int} {k : Nat} (hl : s.a.live i k = false) : s.find i k = none ∧ ∀ t, t ∈ s.l → t.is_ i k = false := by
  have key : ∀ t, t ∈ s.l → t.is_ i k = false := fun t ht => by
    cases e : t.is_ i k with
    | false => rfl
    | true =>
      obtain ⟨h1, h2⟩ := Tm.is_iff.1 e
      obtain ⟨h3, h4⟩ := h.ent t ht
      have : s.a.live i k = true := Ar.live_iff.2 ⟨by omega, by rw [← h2]; exact h4, by rw [show i.toNat = t.i by omega, h3, h2]⟩
      rw [hl] at this
      cases this
  refine ⟨?_, key⟩
  unfold find
  rw [List.find?_eq_none]
  intro t ht
  rw [key t ht]
  decide
theorem find_live {s : Wh} (h : s.Ok) {i : Int} {k : Nat} {t : Tm} (hf : s.find i k = some t) : s.a.live i k = true := by
  cases e : s.a.live i k with
  | true => rfl
  | false =>
    rw [(not_live h e).1] at hf
    cases hf
/-- Which ones stay when one is dropped. -/
theorem drop_is {s : Wh} (h : s.Ok) {i : Int} {k : Nat} {t : Tm} (ht : t ∈ s.l) (hi : (t.i : Int) = i) (hk : t.k = k) : ∀ u, u ∈ s.l → (u.is_ i k = true ↔ u.i = t.i) := fun u hu => by
  rw [Tm.is_iff]
  constructor
  · rintro ⟨h1, _⟩
    omega
  · intro e
    have := one_of h.nd hu ht e
    subst this
    exact ⟨hi, hk⟩
theorem mem_drop {l : List Tm} {i : Int} {k : Nat} {u : Tm} : u ∈ drop l i k ↔ u ∈ l ∧ u.is_ i k = false := by
  unfold drop
  rw [List.mem_filter]
  simp
theorem drop_len : ∀ (l : List Tm) (i : Int) (k : Nat) (t : Tm), t ∈ l → (∀ u, u ∈ l → (u.is_ i k = true ↔ u.i = t.i)) → (l.map Tm.i).Nodup → (drop l i k).length + 1 = l.length
  | [], _, _, _, h, _, _ => nomatch h
  | x :: r, i, k, t, ht, hu, hn => by
    rw [List.map_cons, List.nodup_cons] at hn
    by_cases e : x.is_ i k = true
    · have hx := (hu x (List.mem_cons_self ..)).1 e
      have : drop r i k = r := by
        unfold drop
        rw [List.filter_eq_self]
        intro u hr
        cases q : u.is_ i k with
        | false => rfl
        | true =>
          have := (hu u (List.mem_cons_of_mem _ hr)).1 q
          exact absurd (List.mem_map.2 ⟨u, hr, by omega⟩) hn.1
      have e2 : drop (x :: r) i k = drop r i k := by
        unfold drop
        rw [List.filter_cons_of_neg (by simp [e])]
      rw [e2, this, List.length_cons]
    · have hne : t ≠ x := fun q => e (by rw [← q]; exact (hu t ht).2 rfl)
      have ht' : t ∈ r := (List.mem_cons.1 ht).resolve_left hne
      have ih := drop_len r i k t ht' (fun u hr => hu u (List.mem_cons_of_mem _ hr)) hn.2
      have e2 : drop (x :: r) i k = x :: drop r i k := by
        unfold drop
        rw [List.filter_cons_of_pos (by simp [e])]
      rw [e2, List.length_cons, List.length_cons]
      omega
theorem nd_filter {l : List Tm} (hn : (l.map Tm.i).Nodup) (p : Tm → Bool) : ((l.filter p).map Tm.i).Nodup := hn.sublist (List.filter_sublist.map _)
theorem nxt_gt (s : Wh) (at_ : Nat) : s.now < s.nxt at_ := by
  unfold nxt
  split <;> omega
theorem nxt_lt {s : Wh} (h : s.now < 18446744073709551616) {at_ : Nat} (ho : s.over at_ = false) (ha : at_ < 18446744073709551616) : s.nxt at_ < 18446744073709551616 := by
  unfold over lastT at ho
  simp at ho
  unfold nxt
  split <;> omega
theorem ok_arm {s : Wh} (h : s.Ok) {at_ : Nat} (ha : at_ < 18446744073709551616) (what : Nat) : (s.arm at_ what).Ok := by
  unfold arm
  cases ho : s.over at_ with
  | true => simpa using h
  | false =>
    rw [if_neg (by simp)]
    cases hw : s.a.which with
    | none => exact h
    | some i =>
      have h0 := Ar.which_at h.a hw
      have hat := Ar.at_taken h.a hw
      have hne : ∀ t, t ∈ s.l → t.i ≠ i := fun t ht e => by
        obtain ⟨h1, h2⟩ := h.ent t ht
        rw [e, h0] at h1
        omega
      refine ⟨Ar.ok_taken h.a hw, fun t ht => ?_, fun j hj => ?_, ?_, ?_, fun t ht => ?_, h.now⟩
      · show (s.a.taken i).at_ t.i = t.k ∧ _
        rw [hat]
        rcases List.mem_append.1 ht with q | q
        · rw [if_neg (hne t q)]
          exact h.ent t q
        · obtain rfl := List.mem_singleton.1 q
          exact ⟨if_pos rfl, by show s.a.serial + 1 ≠ 0; omega⟩
      · have hj : (s.a.taken i).at_ j ≠ 0 := hj
        rw [hat] at hj
        by_cases e : j = i
        · exact ⟨_, List.mem_append_right _ (List.mem_singleton.2 rfl), e.symm⟩
        · rw [if_neg e] at hj
          obtain ⟨t, ht, e2⟩ := h.all j hj
          exact ⟨t, List.mem_append_left _ ht, e2⟩
      · show ((s.l ++ [_]).map Tm.i).Nodup
        rw [List.map_append, List.nodup_append]
        refine ⟨h.nd, by simp, fun a ha b hb e => ?_⟩
        obtain ⟨t, ht, e2⟩ := List.mem_map.1 ha
        simp at hb
        exact hne t ht (by omega)
      · show (s.l ++ [_]).length = (s.a.taken i).count
        rw [Ar.count_taken h.a hw, List.length_append, h.cnt]
        rfl
      · rcases List.mem_append.1 ht with q | q
        · exact h.fut t q
        · obtain rfl := List.mem_singleton.1 q
          exact ⟨nxt_gt s at_, nxt_lt h.now ho ha⟩
theorem ok_again {s : Wh} (h : s.Ok) (i : Int) (k : Nat) {at_ : Nat} (ha : at_ < 18446744073709551616) : (s.again i k at_).Ok := by
  unfold again
  cases hf : s.find i k with
  | none => exact h
  | some t =>
    cases ho : s.over at_ with
    | true => simpa using h
    | false =>
      dsimp only
      rw [if_neg (by simp)]
      have hl := find_live h hf
      obtain ⟨t', ht, hi, hk, hf'⟩ := live_ent h hl
      rw [hf] at hf'
      injection hf' with hf'
      subst hf'
      have hd := drop_is h ht hi hk
      have hlen := drop_len s.l i k t ht hd h.nd
      refine ⟨h.a, fun u hu => ?_, fun j hj => ?_, ?_, ?_, fun u hu => ?_, h.now⟩
      · rcases List.mem_append.1 hu with q | q
        · exact h.ent u (mem_drop.1 q).1
        · obtain rfl := List.mem_singleton.1 q
          exact h.ent t ht
      · obtain ⟨u, hu, e⟩ := h.all j hj
        by_cases q : u.is_ i k = true
        · exact ⟨_, List.mem_append_right _ (List.mem_singleton.2 rfl), by have := (hd u hu).1 q; show t.i = j; omega⟩
        · exact ⟨u, List.mem_append_left _ (mem_drop.2 ⟨hu, by simpa using q⟩), e⟩
      · show ((drop s.l i k ++ [_]).map Tm.i).Nodup
        rw [List.map_append, List.nodup_append]
        refine ⟨nd_filter h.nd _, by simp, fun a ha b hb e => ?_⟩
        obtain ⟨u, hu, e2⟩ := List.mem_map.1 ha
        simp at hb
        obtain ⟨hu1, hu2⟩ := mem_drop.1 hu
        rw [(hd u hu1).2 (by omega)] at hu2
        cases hu2
      · show (drop s.l i k ++ [_]).length = s.a.count
        rw [List.length_append, ← h.cnt]
        exact hlen
      · rcases List.mem_append.1 hu with q | q
        · exact h.fut u (mem_drop.1 q).1
        · obtain rfl := List.mem_singleton.1 q
          exact ⟨nxt_gt s at_, nxt_lt h.now ho ha⟩
theorem ok_cancel {s : Wh} (h : s.Ok) (i : Int) (k : Nat) : (s.cancel i k).Ok := by
  unfold cancel
  cases hl : s.a.live i k with
  | false => simpa using h
  | true =>
    rw [if_pos rfl]
    obtain ⟨t, ht, hi, hk, hf⟩ := live_ent h hl
    have hd := drop_is h ht hi hk
    have hlen := drop_len s.l i k t ht hd h.nd
    have e1 : i.toNat = t.i := by omega
    rw [e1]
    have h0 : s.a.at_ t.i ≠ 0 := by
      rw [(h.ent t ht).1]
      exact (h.ent t ht).2
    have hat := Ar.at_gone h0
    have hc := Ar.count_gone h0
    refine ⟨Ar.ok_gone h.a h0, fun u hu => ?_, fun j hj => ?_, nd_filter h.nd _, ?_, fun u hu => h.fut u (mem_drop.1 hu).1, h.now⟩
    · obtain ⟨hu1, hu2⟩ := mem_drop.1 hu
      show (s.a.gone t.i).at_ u.i = u.k ∧ _
      rw [hat, if_neg (fun e => by rw [(hd u hu1).2 e] at hu2; cases hu2)]
      exact h.ent u hu1
    · have hj : (s.a.gone t.i).at_ j ≠ 0 := hj
      rw [hat] at hj
      by_cases e : j = t.i
      · rw [if_pos e] at hj
        exact absurd rfl hj
      · rw [if_neg e] at hj
        obtain ⟨u, hu, e2⟩ := h.all j hj
        refine ⟨u, mem_drop.2 ⟨hu, ?_⟩, e2⟩
        cases q : u.is_ i k with
        | false => rfl
        | true => exact absurd ((hd u hu).1 q) (by omega)
    · show (drop s.l i k).length = (s.a.gone t.i).count
      have := h.cnt
      omega
theorem fires_facts {s : Wh} (h : s.Ok) : (s.fires.map Tm.i).Nodup ∧ (∀ i, i ∈ s.fires.map Tm.i → s.a.at_ i ≠ 0) ∧ s.fires.length + s.stay.length = s.l.length := by
  refine ⟨nd_filter h.nd _, fun i hi => ?_, ?_⟩
  · obtain ⟨t, ht, rfl⟩ := List.mem_map.1 hi
    obtain ⟨h1, h2⟩ := h.ent t (List.mem_filter.1 ht).1
    rw [h1]
    exact h2
  · unfold fires stay
    rw [← List.countP_eq_length_filter, ← List.countP_eq_length_filter, List.length_eq_countP_add_countP (fun t : Tm => decide (t.at_ = s.now + 1))]
    congr 2
    funext t
    by_cases e : t.at_ = s.now + 1 <;> simp [e]
theorem mem_fires {s : Wh} {t : Tm} : t ∈ s.fires ↔ t ∈ s.l ∧ t.at_ = s.now + 1 := by
  unfold fires
  rw [List.mem_filter]
  simp
theorem mem_stay {s : Wh} {t : Tm} : t ∈ s.stay ↔ t ∈ s.l ∧ t.at_ ≠ s.now + 1 := by
  unfold stay
  rw [List.mem_filter]
  simp
theorem ok_ticked {s : Wh} (h : s.Ok) (hn : s.now < 18446744073709551615) : s.ticked.Ok := by
  obtain ⟨f1, f2, f3⟩ := fires_facts h
  obtain ⟨g1, g2, g3, g4, g5⟩ := goneL_facts _ s.a h.a f1 f2
  have hout : ∀ t, t ∈ s.stay → ¬ t.i ∈ s.fires.map Tm.i := fun t ht hm => by
    obtain ⟨u, hu, e⟩ := List.mem_map.1 hm
    obtain ⟨h1, h2⟩ := mem_fires.1 hu
    obtain ⟨h3, h4⟩ := mem_stay.1 ht
    rw [one_of h.nd h1 h3 e] at h2
    exact h4 h2
  refine ⟨g1, fun t ht => ?_, fun j hj => ?_, nd_filter h.nd _, ?_, fun t ht => ?_, by show s.now + 1 < _; omega⟩
  · have ht : t ∈ s.stay := ht
    show (goneL s.a _).at_ t.i = t.k ∧ _
    rw [g2, if_neg (hout t ht)]
    exact h.ent t (mem_stay.1 ht).1
  · have hj : (goneL s.a (s.fires.map Tm.i)).at_ j ≠ 0 := hj
    rw [g2] at hj
    split at hj
    · exact absurd rfl hj
    · rename_i hm
      obtain ⟨t, ht, e⟩ := h.all j hj
      refine ⟨t, mem_stay.2 ⟨ht, fun e2 => hm ?_⟩, e⟩
      exact List.mem_map.2 ⟨t, mem_fires.2 ⟨ht, e2⟩, e⟩
  · show s.stay.length = (goneL s.a _).count
    rw [List.length_map] at g3
    have := h.cnt
    omega
  · obtain ⟨h1, h2⟩ := mem_stay.1 ht
    have := h.fut t h1
    show s.now + 1 < t.at_ ∧ _
    omega
theorem ok_tick {s : Wh} (h : s.Ok) : s.tick.Ok := by
  unfold tick
  split
  · exact h
  · rename_i e
    have := h.now
    unfold lastT at e
    exact ok_ticked h (by omega)
/-- What may be asked of a wheel. -/
structure Fit (s : Wh) (m : Nat) : Prop where
  ok : s.Ok
  n : s.a.has.length ≤ 65536
  ser : s.a.serial ≤ m
  tn : s.tn ≤ m
  m : m ≤ 4611686018427387904
theorem Fit.more {s : Wh} {m m' : Nat} (h : s.Fit m) (hm : m ≤ m') (h9 : m' ≤ 4611686018427387904) : s.Fit m' := ⟨h.ok, h.n, Nat.le_trans h.ser hm, Nat.le_trans h.tn hm, h9⟩
theorem fit_arm {s : Wh} {m : Nat} (h : s.Fit m) (hm : m < 4611686018427387904) {at_ : Nat} (ha : at_ < 18446744073709551616) (what : Nat) : (s.arm at_ what).Fit (m + 1) := by
  have h1 := h.ser
  have h2 := h.tn
  refine ⟨ok_arm h.ok ha what, ?_, ?_, ?_, hm⟩ <;> unfold arm <;> split
  · exact h.n
  · split
    · exact h.n
    · show (s.a.taken _).has.length ≤ _
      unfold Ar.taken
      rw [List.length_set]
      exact h.n
  · omega
  · split
    · omega
    · show s.a.serial + 1 ≤ _
      omega
  · omega
  · split
    · omega
    · show s.tn + 1 ≤ _
      omega
theorem fit_again {s : Wh} {m : Nat} (h : s.Fit m) (hm : m < 4611686018427387904) (i : Int) (k : Nat) {at_ : Nat} (ha : at_ < 18446744073709551616) : (s.again i k at_).Fit (m + 1) := by
  have h1 := h.ser
  have h2 := h.tn
  have key : (s.again i k at_).a = s.a ∧ (s.again i k at_).tn ≤ s.tn + 1 := by
    unfold again
    split
    · exact ⟨rfl, by omega⟩
    · split
      · exact ⟨rfl, by omega⟩
      · exact ⟨rfl, Nat.le_refl _⟩
  exact ⟨ok_again h.ok i k ha, by rw [key.1]; exact h.n, by rw [key.1]; omega, by have := key.2; omega, hm⟩
theorem fit_cancel {s : Wh} {m : Nat} (h : s.Fit m) (i : Int) (k : Nat) : (s.cancel i k).Fit m := by
  have key : (s.cancel i k).a.has.length = s.a.has.length ∧ (s.cancel i k).a.serial = s.a.serial ∧ (s.cancel i k).tn = s.tn := by
    unfold cancel
    split
    · exact ⟨List.length_set, rfl, rfl⟩
    · exact ⟨rfl, rfl, rfl⟩
  exact ⟨ok_cancel h.ok i k, by rw [key.1]; exact h.n, by rw [key.2.1]; exact h.ser, by rw [key.2.2]; exact h.tn, h.m⟩
theorem fit_tick {s : Wh} {m : Nat} (h : s.Fit m) : s.tick.Fit m := by
  obtain ⟨f1, f2, f3⟩ := fires_facts h.ok
  obtain ⟨g1, g2, g3, g4, g5⟩ := goneL_facts _ s.a h.ok.a f1 f2
  have key : s.tick.a.has.length = s.a.has.length ∧ s.tick.a.serial = s.a.serial ∧ s.tick.tn = s.tn := by
    unfold tick
    split
    · exact ⟨rfl, rfl, rfl⟩
    · exact ⟨g5, g4, rfl⟩
  exact ⟨ok_tick h.ok, by rw [key.1]; exact h.n, by rw [key.2.1]; exact h.ser, by rw [key.2.2]; exact h.tn, h.m⟩
theorem fit_new {n : Nat} (h : n ≤ 65536) : (new n).Fit 0 := by
  refine ⟨ok_new n, ?_, Nat.le_refl _, Nat.le_refl _, by omega⟩
  show (List.replicate n 0).length ≤ _
  rw [List.length_replicate]
  exact h
end Wh
end Go.Proofs.YtimcdnbfdkpffaaGreat
