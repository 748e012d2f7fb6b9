/- Layer 4: a header's block, its address laid in; slices of the call's own beside it; slices cut by numbers. -/
import Derived.Test.YtankpbehahopgaaRI6x
import Derived.Test.YtankpbehahopgaaGrow
import Derived.Deep.MidRow
namespace Go.Proofs.Ytankpbehahopgaa
open Go.RowKit
def ip6z : Array Value := ip6c 0 0 0 0 0 (fun _ => 0) (fun _ => 0) (.slice none 0 0)
theorem ip6_one (cls lab next proto hops : Int) (s d : Nat → Int) (O : Option Addr) (on co : Nat) : (ip6c cls lab next proto hops s d (.slice O on co)).all (·.oneCell') = true := by simp [ip6c, Value.oneCell']
theorem ip6z_one : ip6z.all (·.oneCell') = true := ip6_one ..
theorem results_row2 {P : Program} {fn : Func} {p a b : Tmp} {ty : TypeId} (h : fn.results = #[.cell p ty, .tmp a, .tmp b]) (tmps : Array Value) (w : World) (g : Nat) (t : TypeId) (cs : Array Value) (fr : Nat × Nat) (d : TypeDesc)
    (hp : tmps.getD p undef = .pointer (some ⟨g, 0, none⟩)) (hg : w.heap[g]? = some (.cells cs t fr))
    (hu : P.underlying ty = some d) (hd : (match d with | .struct _ | .array _ _ => true | _ => false) = true) (hi : (P.info? ty).map (·.size) = some cs.size) :
    (results fn tmps).run P w = .ok (.tuple #[.agg cs, tmps.getD a undef, tmps.getD b undef]) w := by
  have hp' : tmps[p]?.getD undef = .pointer (some ⟨g, 0, none⟩) := by simpa using hp
  simp [results, h, hp', asAddr, run_loadVar_row w g t ty cs fr d hg hu hd hi]
/-- Kept where another block, of another type, alone is turned. -/
theorem Own.other {w w' : World} {base : Nat} {e : TypeId} {A : Option Addr} {n c : Nat} {f : Nat → Int} (h : Own w base e A n c f) {q : Nat} {cs : Array Value} {t : TypeId} {fr : Nat × Nat} (hq : w.heap[q]? = some (.cells cs t fr)) (hte : t ≠ e) (hw : ∀ k, k ≠ q → w'.heap[k]? = w.heap[k]?) : Own w' base e A n c f := by
  refine ⟨h.1, ?_⟩
  rcases h.2 with hh | ⟨g, cap, cur, hv, hg, hh, r⟩
  · exact .inl hh
  · have hne : g ≠ q := fun e1 => by
      subst e1
      rw [hq] at hh
      injection hh with hh
      injection hh with _ hh
      exact hte hh
    exact .inr ⟨g, cap, cur, hv, hg, (hw g hne).trans hh, r⟩
theorem Own.apart {w w2 : World} {base : Nat} {e : TypeId} {A A' : Option Addr} {n c n' c' : Nat} {f f' : Nat → Int} (h : Own w base e A n c f) (h' : Own w2 w.heap.size e A' n' c' f') : ∀ g, Value.ownBlock (.slice A n c) = some g → Value.ownBlock (.slice A' n' c') ≠ some g := fun g hg hg' => by
  have h1 := World.ownsRow.lt h g hg
  have h2 := h'.at_ g hg'
  omega
/-- Values laid into a block's cells, one behind the other. -/
def laid (cs : Array Value) (o : Nat) : List Value → Array Value
  | [] => cs
  | v :: r => laid (cs.setIfInBounds o v) (o + 1) r
theorem blk_setCells {g : Nat} {t : TypeId} : ∀ (vs : List Value) (o : Nat) (w : World) (cs : Array Value), w.heap[g]? = some (.cells cs t (0, 0)) → (w.setCells g o vs).heap[g]? = some (.cells (laid cs o vs) t (0, 0))
  | [], _, _, _, h => h
  | v :: r, o, _, _, h => blk_setCells r (o + 1) _ _ (blk_set h o v)
theorem below_setCells {b B : Nat} {a : World} (hb : B ≤ b) : ∀ (vs : List Value) (o : Nat) (w : World), Below B a w → Below B a (w.setCells b o vs)
  | [], _, _, h => h
  | v :: r, o, _, h => below_setCells hb r (o + 1) _ (h.setCell (by exact hb) v)
theorem other_setCells {b k : Nat} (hk : k ≠ b) : ∀ (vs : List Value) (o : Nat) (w : World), (w.setCells b o vs).heap[k]? = w.heap[k]?
  | [], _, _ => rfl
  | v :: r, o, w => (other_setCells hk r (o + 1) _).trans (Below.heap_setCell w ⟨b, o, none⟩ v k hk)
theorem blk_there {w : World} {g : Nat} {cs : Array Value} {t : TypeId} (h : w.heap[g]? = some (.cells cs t (0, 0))) {o k : Nat} (hk : o + k ≤ cs.size) : w.there g o k := fun j hj => by
  refine ⟨?_, blk_free h _⟩
  rw [blk_cell h (o + j), Array.getElem?_eq_getElem (by omega)]
  rfl
theorem laid_src (cls lab next proto hops : Int) (s s' d : Nat → Int) (o : Value) : laid (ip6c cls lab next proto hops s d o) 5 (arr16 s').toList = ip6c cls lab next proto hops s' d o := by
  unfold ip6c arr16
  simp only [laid, List.setIfInBounds_toArray, List.set_cons_succ, List.set_cons_zero, Nat.reduceAdd]
theorem laid_dst (cls lab next proto hops : Int) (s d d' : Nat → Int) (o : Value) : laid (ip6c cls lab next proto hops s d o) 21 (arr16 d').toList = ip6c cls lab next proto hops s d' o := by
  unfold ip6c arr16
  simp only [laid, List.setIfInBounds_toArray, List.set_cons_succ, List.set_cons_zero, Nat.reduceAdd]
/-- A new slice without bytes; bytes of the call's own; a new header. -/
def mkF (w : World) : Fact := fun v W => ∃ z, v = .slice (some ⟨z, 0, none⟩) 0 0 ∧ Own W w.heap.size 5 (some ⟨z, 0, none⟩) 0 0 (fun _ => 0)
def ownF (w : World) (n : Nat) (f : Nat → Int) : Fact := fun v W => ∃ O co, v = .slice O n co ∧ Own W w.heap.size 5 O n co f
def newF (w : World) : Fact := fun v W => ∃ q, v = .pointer (some ⟨q, 0, none⟩) ∧ W.heap[q]? = some (.cells ip6z 26 (0, 0)) ∧ w.heap.size ≤ q
theorem stb_mk (w : World) : Stb (mkF w) := fun _ _ _ ⟨z, h, ho⟩ hb => ⟨z, h, ho.below hb⟩
theorem stb_own (w : World) (n : Nat) (f : Nat → Int) : Stb (ownF w n f) := fun _ _ _ ⟨O, co, h, ho⟩ hb => ⟨O, co, h, ho.below hb⟩
theorem stb_new (w : World) : Stb (newF w) := fun _ _ _ ⟨q, h, hq, hl⟩ hb => ⟨q, h, (hb.block _ (lt_heap hq)).trans hq, hl⟩
/-- Read's own memory: the result that is told, the header so far, its chain. -/
structure RdS (w W : World) (q : Nat) (cs : Array Value) (O : Option Addr) (n co : Nat) (fo : Nat → Int) : Prop where
  res : W.heap[w.heap.size]? = some (.cells ip6z 26 (0, 0))
  hd : W.heap[q]? = some (.cells cs 26 (0, 0))
  own : Own W w.heap.size 5 O n co fo
  below : Below w.heap.size w W
  lt : w.heap.size < q
theorem RdS.step {w W W' : World} {q : Nat} {cs : Array Value} {O : Option Addr} {n co : Nat} {fo : Nat → Int} (h : RdS w W q cs O n co fo) (hb : Below W.heap.size W W') : RdS w W' q cs O n co fo :=
  ⟨(hb.block _ (lt_heap h.res)).trans h.res, (hb.block _ (lt_heap h.hd)).trans h.hd, h.own.below hb, h.below.trans (hb.mono h.below.size), h.lt⟩
theorem slice_both (b off n c lo hi : Nat) (h1 : lo ≤ hi) (h2 : hi ≤ n) (h3 : n ≤ c) (_ : c ≤ 9223372036854775807) : ∃ A : Option Addr,
    (∀ W, (Instr.sliceAt 24 (.slice (some ⟨b, off, none⟩) n c) (some (.int .i64 (lo : Int))) (some (.int .i64 (hi : Int))) none).run Try.prog W = .ok (.slice A (hi - lo) (c - lo)) W) ∧
    (∀ (W : World) (B : Nat) (f : Nat → Int), Rd W B (some ⟨b, off, none⟩) n f → Rd W B A (hi - lo) (fun k => f (lo + k))) := by
  have i1 : (0 : Int) ≤ (lo : Int) := by omega
  have i2 : (lo : Int) ≤ (hi : Int) := by omega
  have i3 : (hi : Int) ≤ (c : Int) := by omega
  have i4 : (0 : Int) ≤ (hi : Int) := by omega
  by_cases h : c = lo
  · have e : hi = lo := by omega
    subst e
    subst h
    refine ⟨some ⟨b, off, none⟩, fun W => ?_, fun W B f hr => .inl (by omega)⟩
    go_simp
  · refine ⟨some ⟨b, off + lo, none⟩, fun W => ?_, fun W B f hr => ?_⟩
    · go_simp
    · rcases hr with h0 | ⟨b', off', e, hb, hc⟩
      · exact .inl (by omega)
      · injection e with e
        injection e with e1 e2
        subst e1
        subst e2
        exact .inr ⟨b, off + lo, rfl, hb, fun k hk => by rw [Nat.add_assoc]; exact hc _ (by omega)⟩
theorem slice_to (A : Option Addr) (n c hi : Nat) (h2 : hi ≤ n) (h3 : n ≤ c) (h4 : c ≤ 9223372036854775807) : ∃ D : Option Addr,
    (∀ W, (Instr.sliceAt 24 (.slice A n c) none (some (.int .i64 (hi : Int))) none).run Try.prog W = .ok (.slice D hi c) W) ∧ (∀ (W : World) (B : Nat) (f : Nat → Int), Rd W B A n f → Rd W B D hi f) := by
  have i1 : (0 : Int) ≤ (hi : Int) := by omega
  have i2 : (hi : Int) ≤ (c : Int) := by omega
  have i3 : (hi : Int) ≤ (n : Int) := by omega
  have hid : ∀ A : Option Addr, Option.map (fun x => Addr.add x 0) A = A := fun A => by
    rcases A with _ | ⟨b, o, i⟩
    · rfl
    · cases i <;> simp [Addr.add]
  refine ⟨if c = 0 then A else Option.map (fun x => x.add 0) A, fun W => ?_, fun W B f hr => ?_⟩
  · go_simp
  · rw [hid, ite_self]
    exact hr.less h2
end Go.Proofs.Ytankpbehahopgaa
