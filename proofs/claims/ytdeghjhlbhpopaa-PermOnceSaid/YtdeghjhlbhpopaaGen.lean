/- What walks of any layer want: rows of results, slices of the call's own beside other blocks, slices cut, copies into them, whole structs loaded. -/
import Derived.Test.YtdeghjhlbhpopaaGrow
import Derived.Test.YtdeghjhlbhpopaaBlk
import Derived.Test.YtdeghjhlbhpopaaInfo
import Derived.Test.YtdeghjhlbhpopaaArrEq
import Derived.Test.YtdeghjhlbhpopaaBitk
import Derived.Deep.RegionHeld3
import Derived.Deep.MidRow
import Derived.Deep.CutRange
import Derived.StillTailTactics
import Derived.WalkLawsBesides
import Derived.IntWalk
import Derived.BigQuiet
import Derived.Laws.CopyOwn
import Derived.Laws.Tables
import Derived.Laws.IdiomCopy
import Derived.Laws.BytesArg
namespace Go.Proofs.Ytdeghjhlbhpopaa
set_option maxRecDepth 100000
open Go.RowKit
theorem results_row2 {P : Program} {fn : Func} {p a b : Tmp} {ty : TypeId} (h : fn.results = #[.cell p ty, .tmp a, .tmp b]) (tmps : Array Value) (w : World) (g : Nat) (t : TypeId) (cs : Array Value) (fr : Nat × Nat) (d : TypeDesc)
    (hp : tmps.getD p undef = .pointer (some ⟨g, 0, none⟩)) (hg : w.heap[g]? = some (.cells cs t fr))
    (hu : P.underlying ty = some d) (hd : (match d with | .struct _ | .array _ _ => true | _ => false) = true) (hi : (P.info? ty).map (·.size) = some cs.size) :
    (results fn tmps).run P w = .ok (.tuple #[.agg cs, tmps.getD a undef, tmps.getD b undef]) w := by
  have hp' : tmps[p]?.getD undef = .pointer (some ⟨g, 0, none⟩) := by simpa using hp
  simp [results, h, hp', asAddr, run_loadVar_row w g t ty cs fr d hg hu hd hi]
/-- Kept where another block, of another type, alone is turned. -/
theorem Own.other {w w' : World} {base : Nat} {e : TypeId} {A : Option Addr} {n c : Nat} {f : Nat → Int} (h : Own w base e A n c f) {q : Nat} {cs : Array Value} {t : TypeId} {fr : Nat × Nat} (hq : w.heap[q]? = some (.cells cs t fr)) (hte : t ≠ e) (hw : ∀ k, k ≠ q → w'.heap[k]? = w.heap[k]?) : Own w' base e A n c f := by
  refine ⟨h.1, ?_⟩
  rcases h.2 with hh | ⟨g, cap, cur, hv, hg, hh, r⟩
  · exact .inl hh
  · have hne : g ≠ q := fun e1 => by
      subst e1
      rw [hq] at hh
      injection hh with hh
      injection hh with _ hh
      exact hte hh
    exact .inr ⟨g, cap, cur, hv, hg, (hw g hne).trans hh, r⟩
theorem Own.apart {w w2 : World} {base : Nat} {e : TypeId} {A A' : Option Addr} {n c n' c' : Nat} {f f' : Nat → Int} (h : Own w base e A n c f) (h' : Own w2 w.heap.size e A' n' c' f') : ∀ g, Value.ownBlock (.slice A n c) = some g → Value.ownBlock (.slice A' n' c') ≠ some g := fun g hg hg' => by
  have h1 := World.ownsRow.lt h g hg
  have h2 := h'.at_ g hg'
  omega
/-- Values laid into a block's cells, one behind the other. -/
def laid (cs : Array Value) (o : Nat) : List Value → Array Value
  | [] => cs
  | v :: r => laid (cs.setIfInBounds o v) (o + 1) r
theorem blk_setCells {g : Nat} {t : TypeId} : ∀ (vs : List Value) (o : Nat) (w : World) (cs : Array Value), w.heap[g]? = some (.cells cs t (0, 0)) → (w.setCells g o vs).heap[g]? = some (.cells (laid cs o vs) t (0, 0))
  | [], _, _, _, h => h
  | v :: r, o, _, _, h => blk_setCells r (o + 1) _ _ (blk_set h o v)
theorem below_setCells {b B : Nat} {a : World} (hb : B ≤ b) : ∀ (vs : List Value) (o : Nat) (w : World), Below B a w → Below B a (w.setCells b o vs)
  | [], _, _, h => h
  | v :: r, o, _, h => below_setCells hb r (o + 1) _ (h.setCell (by exact hb) v)
theorem other_setCells {b k : Nat} (hk : k ≠ b) : ∀ (vs : List Value) (o : Nat) (w : World), (w.setCells b o vs).heap[k]? = w.heap[k]?
  | [], _, _ => rfl
  | v :: r, o, w => (other_setCells hk r (o + 1) _).trans (Below.heap_setCell w ⟨b, o, none⟩ v k hk)
theorem blk_there {w : World} {g : Nat} {cs : Array Value} {t : TypeId} (h : w.heap[g]? = some (.cells cs t (0, 0))) {o k : Nat} (hk : o + k ≤ cs.size) : w.there g o k := fun j hj => by
  refine ⟨?_, blk_free h _⟩
  rw [blk_cell h (o + j), Array.getElem?_eq_getElem (by omega)]
  rfl
/-- A new slice without bytes; bytes of the call's own; a new header. -/
def mkF (w : World) : Fact := fun v W => ∃ z, v = .slice (some ⟨z, 0, none⟩) 0 0 ∧ Own W w.heap.size 5 (some ⟨z, 0, none⟩) 0 0 (fun _ => 0)
def ownF (w : World) (n : Nat) (f : Nat → Int) : Fact := fun v W => ∃ O co, v = .slice O n co ∧ Own W w.heap.size 5 O n co f
theorem stb_mk (w : World) : Stb (mkF w) := fun _ _ _ ⟨z, h, ho⟩ hb => ⟨z, h, ho.below hb⟩
theorem stb_own (w : World) (n : Nat) (f : Nat → Int) : Stb (ownF w n f) := fun _ _ _ ⟨O, co, h, ho⟩ hb => ⟨O, co, h, ho.below hb⟩
theorem slice_both (b off n c lo hi : Nat) (h1 : lo ≤ hi) (h2 : hi ≤ n) (h3 : n ≤ c) (_ : c ≤ 9223372036854775807) : ∃ A : Option Addr,
    (∀ W, (Instr.sliceAt 45 (.slice (some ⟨b, off, none⟩) n c) (some (.int .i64 (lo : Int))) (some (.int .i64 (hi : Int))) none).run Try.prog W = .ok (.slice A (hi - lo) (c - lo)) W) ∧
    (∀ (W : World) (B : Nat) (f : Nat → Int), Rd W B (some ⟨b, off, none⟩) n f → Rd W B A (hi - lo) (fun k => f (lo + k))) := by
  have i1 : (0 : Int) ≤ (lo : Int) := by omega
  have i2 : (lo : Int) ≤ (hi : Int) := by omega
  have i3 : (hi : Int) ≤ (c : Int) := by omega
  have i4 : (0 : Int) ≤ (hi : Int) := by omega
  by_cases h : c = lo
  · have e : hi = lo := by omega
    subst e
    subst h
    refine ⟨some ⟨b, off, none⟩, fun W => ?_, fun W B f hr => .inl (by omega)⟩
    go_simp
  · refine ⟨some ⟨b, off + lo, none⟩, fun W => ?_, fun W B f hr => ?_⟩
    · go_simp
    · rcases hr with h0 | ⟨b', off', e, hb, hc⟩
      · exact .inl (by omega)
      · injection e with e
        injection e with e1 e2
        subst e1
        subst e2
        exact .inr ⟨b, off + lo, rfl, hb, fun k hk => by rw [Nat.add_assoc]; exact hc _ (by omega)⟩
theorem slice_to (A : Option Addr) (n c hi : Nat) (h2 : hi ≤ n) (h3 : n ≤ c) (_h4 : c ≤ 9223372036854775807) : ∃ D : Option Addr,
    (∀ W, (Instr.sliceAt 45 (.slice A n c) none (some (.int .i64 (hi : Int))) none).run Try.prog W = .ok (.slice D hi c) W) ∧ (∀ (W : World) (B : Nat) (f : Nat → Int), Rd W B A n f → Rd W B D hi f) := by
  have i1 : (0 : Int) ≤ (hi : Int) := by omega
  have i2 : (hi : Int) ≤ (c : Int) := by omega
  have i3 : (hi : Int) ≤ (n : Int) := by omega
  have hid : ∀ A : Option Addr, Option.map (fun x => Addr.add x 0) A = A := fun A => by
    rcases A with _ | ⟨b, o, i⟩
    · rfl
    · cases i <;> simp [Addr.add]
  refine ⟨if c = 0 then A else Option.map (fun x => x.add 0) A, fun W => ?_, fun W B f hr => ?_⟩
  · go_simp
  · rw [hid, ite_self]
    exact hr.less h2
theorem slice_any (A : Option Addr) (n c lo : Nat) (h2 : lo ≤ n) (h3 : n ≤ c) (_h4 : c ≤ 9223372036854775807) : ∃ D : Option Addr,
    (∀ W, (Instr.sliceAt 45 (.slice A n c) (some (.int .i64 (lo : Int))) none none).run Try.prog W = .ok (.slice D (n - lo) (c - lo)) W) ∧ (∀ (W : World) (B : Nat) (f : Nat → Int), Rd W B A n f → Rd W B D (n - lo) (fun k => f (lo + k))) := by
  have i1 : (0 : Int) ≤ (lo : Int) := by omega
  have i2 : (lo : Int) ≤ (n : Int) := by omega
  have i3 : (n : Int) ≤ (c : Int) := by omega
  have i4 : (0 : Int) ≤ (n : Int) := by omega
  have i5 : (lo : Int) ≤ (c : Int) := by omega
  refine ⟨if c = lo then A else Option.map (fun x => x.add lo) A, fun W => ?_, fun W B f hr => hr.cut h2 h3⟩
  go_simp
theorem slice_from (b off n c lo : Nat) (h2 : lo ≤ n) (h3 : n ≤ c) (_ : c ≤ 9223372036854775807) : ∃ D : Option Addr,
    (∀ W, (Instr.sliceAt 45 (.slice (some ⟨b, off, none⟩) n c) (some (.int .i64 (lo : Int))) none none).run Try.prog W = .ok (.slice D (n - lo) (c - lo)) W) ∧ (0 < n - lo → D = some ⟨b, off + lo, none⟩) := by
  have i1 : (0 : Int) ≤ (lo : Int) := by omega
  have i2 : (lo : Int) ≤ (n : Int) := by omega
  have i3 : (n : Int) ≤ (c : Int) := by omega
  have i4 : (0 : Int) ≤ (n : Int) := by omega
  have i5 : (lo : Int) ≤ (c : Int) := by omega
  by_cases h : c = lo
  · have e : n = lo := by omega
    subst e
    subst h
    refine ⟨some ⟨b, off, none⟩, fun W => ?_, fun hq => by omega⟩
    go_simp
  · refine ⟨some ⟨b, off + lo, none⟩, fun W => ?_, fun _ => rfl⟩
    go_simp
theorem made_own2 (w : World) (base : Nat) (e : TypeId) (n c : Nat) (hn : n ≤ c) (hc : c ≤ 140737488355328) (hb : base ≤ w.heap.size) (g : Nat) (hg : g = w.heap.size) : Own (w.alloc (.cells (madeCells (Value.int .u8 0).cells c) e)) base e (some ⟨g, 0, none⟩) n c (fun _ => 0) := by
  subst hg
  refine ⟨by simp [nums_len], .inr ⟨w.heap.size, c, _, rfl, hb, heap_alloc_new w _, hn, by unfold maxLen; omega, by simp [size_madeCells], ?_⟩⟩
  refine List.ext_getElem? fun k => ?_
  by_cases hk : k < n
  · have hkc : k < c := by omega
    simp [hk, nums, madeCells, Value.cells, hkc]
    rw [Nat.mod_one]
    rfl
  · rw [List.getElem?_eq_none (by simp [size_madeCells]; omega), List.getElem?_eq_none (by simp [nums_len]; omega)]
theorem slice_at (b off n c lo hi : Nat) (h1 : lo ≤ hi) (h2 : hi ≤ n) (h3 : n ≤ c) (_ : c ≤ 9223372036854775807) (h : lo < c) (W : World) :
    (Instr.sliceAt 45 (.slice (some ⟨b, off, none⟩) n c) (some (.int .i64 (lo : Int))) (some (.int .i64 (hi : Int))) none).run Try.prog W = .ok (.slice (some ⟨b, off + lo, none⟩) (hi - lo) (c - lo)) W := by
  have i1 : (0 : Int) ≤ (lo : Int) := by omega
  have i2 : (lo : Int) ≤ (hi : Int) := by omega
  have i3 : (hi : Int) ≤ (c : Int) := by omega
  have i4 : (0 : Int) ≤ (hi : Int) := by omega
  have h' : ¬ c = lo := by omega
  go_simp
theorem own_new {w : World} {base : Nat} {e : TypeId} {cs : Array Value} (n : Nat) (f : Nat → Int) (hb : base ≤ w.heap.size) (hn : n ≤ 140737488355328) (hl : cs.toList = (nums n f).map (Value.int .u8)) (g : Nat) (hg : g = w.heap.size) : Own (w.alloc (.cells cs e)) base e (some ⟨g, 0, none⟩) n n f := by
  subst hg
  have hs : cs.size = n := by
    have q := congrArg List.length hl
    simpa [nums_len] using q
  exact ⟨by simp [nums_len], .inr ⟨w.heap.size, n, _, rfl, hb, heap_alloc_new w _, Nat.le_refl _, by unfold maxLen; omega, by simp [hs], by rw [hl, List.take_of_length_le (by simp [nums_len])]⟩⟩
def four (x y z u : Int) (k : Nat) : Int := if k = 0 then x else if k = 1 then y else if k = 2 then z else u
theorem rd_new4 (w : World) (B g : Nat) (hg : g = w.heap.size) (hB : g < B) (x y z u : Int) (e : TypeId) : Rd (w.alloc (.cells #[.int .u8 x, .int .u8 y, .int .u8 z, .int .u8 u] e)) B (some ⟨g, 0, none⟩) 4 (four x y z u) := by
  subst hg
  refine blk_rd (heap_alloc_new w _) hB fun k hk => ?_
  match k, hk with
  | 0, _ => rfl
  | 1, _ => rfl
  | 2, _ => rfl
  | 3, _ => rfl
/-- m numbers of h, laid over f from place o on. -/
def over (o m : Nat) (h f : Nat → Int) (k : Nat) : Int := if o ≤ k ∧ k < o + m then h (k - o) else f k
theorem over_byt {o m : Nat} {h f : Nat → Int} (hh : Byt h) (hf : Byt f) : Byt (over o m h f) := fun k => by
  unfold over
  split
  · exact hh _
  · exact hf _
theorem own_cells {base g n c : Nat} {e : TypeId} {h : Nat → Int} : ∀ (m o : Nat) (w : World) (f : Nat → Int) (i : Nat), Own w base e (some ⟨g, 0, none⟩) n c f →
    Own (w.setCells g (o + i) ((nums m fun k => h (i + k)).map (Value.int .u8))) base e (some ⟨g, 0, none⟩) n c (over (o + i) m (fun k => h (i + k)) f)
  | 0, o, w, f, i, H => by
    have e1 : over (o + i) 0 (fun k => h (i + k)) f = f := by
      funext k
      unfold over
      rw [if_neg (by omega)]
    rw [e1]
    exact H
  | m + 1, o, w, f, i, H => by
    have e1 : (nums (m + 1) fun k => h (i + k)) = h i :: nums m fun k => h (i + 1 + k) := by
      unfold nums
      rw [List.range_succ_eq_map, List.map_cons, List.map_map]
      congr 1
      exact List.map_congr_left fun k _ => by
        show h (i + (k + 1)) = h (i + 1 + k)
        congr 1
        omega
    rw [e1]
    have q := own_cells (h := h) m o (w.setCell ⟨g, o + i, none⟩ (.int .u8 (h i))) _ (i + 1) (H.set_ (o + i) (h i))
    refine Own.same q fun k hk => ?_
    unfold over upd
    by_cases a : o + i ≤ k ∧ k < o + i + (m + 1)
    · rw [if_pos a]
      by_cases b : k = o + i
      · subst b
        rw [if_neg (by omega), if_pos rfl]
        exact congrArg h (by omega)
      · rw [if_pos (by omega)]
        exact congrArg h (by omega)
    · rw [if_neg a, if_neg (by omega), if_neg (by omega)]
theorem size_setCells {b : Nat} : ∀ (vs : List Value) (o : Nat) (w : World), (w.setCells b o vs).heap.size = w.heap.size
  | [], _, _ => rfl
  | v :: r, o, w => (size_setCells r (o + 1) _).trans (by simp)
/-- 'copy(b[o:..], s)' into a slice of the call's own. -/
theorem run_copy_own {P : Program} {w : World} (base t ty e : TypeId) (ht : P.underlying t = some (.slice e)) (hs : (P.info? e).map (·.size) = some 1) {g n c : Nat} {f : Nat → Int} (hown : Own w base e (some ⟨g, 0, none⟩) n c f)
    {o dl dc : Nat} {D : Option Addr} (hD : 0 < dl → D = some ⟨g, o, none⟩) (hfit : o + dl ≤ n) {B m c' : Nat} {A : Option Addr} {h : Nat → Int} (hr : Rd w B A m h) :
    ∃ k, k = min m dl ∧ (Builtin.copy_ #[t, t] ty #[.slice D dl dc, .slice A m c']).run P w = .ok (goInt k) (w.setCells g o ((nums k h).map (Value.int .u8))) ∧ Own (w.setCells g o ((nums k h).map (Value.int .u8))) base e (some ⟨g, 0, none⟩) n c (over o k h f) := by
  refine ⟨min m dl, rfl, ?_, ?_⟩
  · by_cases h0 : min m dl = 0
    · rw [h0]
      have := run_copy_none (P := P) w t t ty e D A dl dc m c' ht hs h0
      rw [this]
      rfl
    · have hD' := hD (by omega)
      subst hD'
      rcases hr with hm | ⟨b, off, rfl, hlt, hc⟩
      · omega
      · obtain ⟨g', hg', _, _, hcell, hfro⟩ := hown.lies (by omega)
        injection hg' with hg'
        injection hg' with hg'
        subst hg'
        have := run_copy_cells (P := P) w t t ty e g o dl dc ⟨b, off, none⟩ m c' ((nums (min m dl) h).map (Value.int .u8)) ht hs (by simp [nums_len]) (fun j v hv => by
            have hj : j < min m dl := by
              rcases Nat.lt_or_ge j (min m dl) with q | q
              · exact q
              · rw [List.getElem?_eq_none (by simpa [nums_len] using q)] at hv; cases hv
            have hplain : (⟨b, off, none⟩ : Addr).add j = ⟨b, off + j, none⟩ := by unfold Addr.add; split <;> simp_all
            rw [hplain, hc j (by omega)]
            simpa [nums, List.getElem?_map, List.getElem?_range hj] using hv) (fun j hj => by
            have hj' : j < min m dl := by simpa [nums_len] using hj
            rw [hcell (o + j) (by omega)]
            rfl) (fun j _ => hfro (o + j)) (fun v hv => by
            simp at hv
            obtain ⟨x, _, rfl⟩ := hv
            rfl)
        rw [this]
        simp [nums_len]
  · have q := own_cells (h := h) (min m dl) o w f 0 hown
    have e1 : (fun k => h (0 + k)) = h := by funext k; rw [Nat.zero_add]
    rw [Nat.add_zero, e1] at q
    exact q
theorem step_copy_rd {P : Program} {w : World} {ops : Array Oper} {op : Oper} {a : Act} {K : Act → World → Prop} {Q : Exit → Act → World → Prop} {E : Prop} (hgd : Region.wanted op (yielded ops a.tmps) = true) (d s : Operand) (t : TypeId)
    (hop : op.op = .call { callee := .builtin .copy, args := #[d, s], argTypes := #[t, t] })
    (base : Nat) (e : TypeId) (ht : P.underlying t = some (.slice e)) (hs : (P.info? e).map (·.size) = some 1) {g n c : Nat} {f : Nat → Int} (hown : Own w base e (some ⟨g, 0, none⟩) n c f)
    {D : Option Addr} {dl dc : Nat} (hd : a.eval d = .slice D dl dc) (o : Nat) (hD : 0 < dl → D = some ⟨g, o, none⟩) (hfit : o + dl ≤ n) {B m c' : Nat} {A : Option Addr} {h : Nat → Int} (hx : a.eval s = .slice A m c') (hr : Rd w B A m h)
    (k : Nat) (hk : k = min m dl) (H : Own (w.setCells g o ((nums k h).map (Value.int .u8))) base e (some ⟨g, 0, none⟩) n c (over o k h f) → K (a.put op.dst (goInt k)) (w.setCells g o ((nums k h).map (Value.int .u8)))) :
    if Region.wanted op (yielded ops a.tmps) = true then Oper.wp P op a w K Q else E := by
  rw [if_pos hgd]
  obtain ⟨k', hk', hrun, h2⟩ := run_copy_own (P := P) base t op.type e ht hs hown (dc := dc) hD hfit hr (c' := c')
  obtain rfl : k = k' := hk.trans hk'.symm
  unfold Oper.wp execOp
  simp only [hop, resolve, invoke, builtin, Sem.run_bind, Sem.run_pure, Result.andThen_ok, List.map_toArray, List.map_cons, List.map_nil, hd, hx, hrun]
  exact H h2
/-- A whole struct, loaded behind a guard or not. -/
theorem wpList_load_roww {P : Program} {ops : Array Oper} {rest : List Oper} {op : Oper} {a : Act} {w : World} {Q : Exit → Act → World → Prop} (hw : Region.wanted op (yielded ops a.tmps) = true) (ty : TypeId) (x : Operand) (ho : op.op = .load ty x)
    (g : Nat) (hx : a.eval x = .pointer (some ⟨g, 0, none⟩)) (t : TypeId) (cs : Array Value) (fr : Nat × Nat) (d : TypeDesc) (hg : w.heap[g]? = some (.cells cs t fr)) (hu : P.underlying ty = some d)
    (hd : (match d with | .struct _ | .array _ _ => true | _ => false) = true) (hi : (P.info? ty).map (·.size) = some cs.size) (h : wpList P ops Q rest (a.put op.dst (.agg cs)) w) : wpList P ops Q (op :: rest) a w := by
  refine BigFrame.wpList_want hw fun K hK => ?_
  unfold Oper.wp execOp
  simp only [ho, hx, Instr.loadAt, Instr.sureAddr, Sem.run_bind, Sem.run_pure, Result.andThen_ok, run_loadVar_row w g t ty cs fr d hg hu hd hi]
  exact hK _ _ h
theorem zer_byt : Byt (fun _ => 0) := fun _ => ⟨Int.le_refl 0, (by decide : (0 : Int) ≤ 255)⟩
/-- Bytes of the call's own, whichever. -/
def Kp (W : World) (B : Nat) (A : Option Addr) (n c : Nat) : Prop := ∃ f, Byt f ∧ Own W B 5 A n c f
theorem Kp.below {W W' : World} {B : Nat} {A : Option Addr} {n c : Nat} (h : Kp W B A n c) (hb : Below W.heap.size W W') : Kp W' B A n c := by
  obtain ⟨f, hf, ho⟩ := h
  exact ⟨f, hf, ho.below hb⟩
theorem Kp.set {W : World} {B : Nat} {A : Option Addr} {n c : Nat} (h : Kp W B A n c) (g i : Nat) (v : Int) (hv : 0 ≤ v ∧ v ≤ 255) : Kp (W.setCell ⟨g, i, none⟩ (.int .u8 v)) B A n c := by
  obtain ⟨f, hf, ho⟩ := h
  have ho' := ho
  rcases ho.2 with hh | ⟨g', cap, cur, hv', hg, hh, r⟩
  · exact ⟨f, hf, ho.1, .inl hh⟩
  · by_cases e : g' = g
    · subst e
      injection hv' with h1 h2 h3
      subst h1
      exact ⟨_, upd_byt hf i hv, ho'.set_ i v⟩
    · exact ⟨f, hf, ho.1, .inr ⟨g', cap, cur, hv', hg, (Below.heap_setCell W ⟨g, i, none⟩ _ g' e).trans hh, r⟩⟩
theorem Own.ne {W : World} {B g n c q : Nat} {f : Nat → Int} {cs : Array Value} {t : TypeId} {fr : Nat × Nat} (h : Own W B 5 (some ⟨g, 0, none⟩) n c f) (hq : W.heap[q]? = some (.cells cs t fr)) (hte : t ≠ 5) : q ≠ g := by
  rintro rfl
  rcases h.2 with ⟨hh, _⟩ | ⟨g', cap, cur, hv, _, hh, _⟩
  · cases hh
  · injection hv with h1 _ _
    injection h1 with h1
    injection h1 with h1
    subst h1
    rw [hq] at hh
    injection hh with hh
    injection hh with _ hh
    exact hte hh
end Go.Proofs.Ytdeghjhlbhpopaa
