import Derived.Test.YtkmakdhlaenaoaaGm12
import Derived.Test.YtkmakdhlaenaoaaGm13
import Derived.Sort.QuietThIn
import Derived.RangeFuncCalls
import Derived.Test.YtkmakdhlaenaoaaGm0
import Derived.Test.YtkmakdhlaenaoaaGm9
import Derived.Laws.StructEq
import Derived.Test.YtkmakdhlaenaoaaGm14
/- Stage 9: the document's All. -/
namespace Go.Proofs.Ytkmakdhlaenaoaa
set_option maxRecDepth 100000
open Go.RowKit
/-- Handles as cells. -/
def tcell (l : List (Nat × Nat)) (j : Nat) : Value := if j % 2 = 0 then .int .i64 ((l.getD (j / 2) (0, 0)).1 : Int) else .int .u64 ((l.getD (j / 2) (0, 0)).2 : Int)
theorem tcell_snoc (l : List (Nat × Nat)) (x : Nat × Nat) (g : Nat → Value) (h0 : g 0 = .int .i64 (x.1 : Int)) (h1 : g 1 = .int .u64 (x.2 : Int)) (j : Nat) (hj : j < (l.length + 1) * 2) : tcell (l ++ [x]) j = catV (l.length * 2) (tcell l) g j := by
  unfold catV
  by_cases c : j < l.length * 2
  · rw [if_pos c]
    unfold tcell
    have : j / 2 < l.length := by omega
    have e : (l ++ [x]).getD (j / 2) (0, 0) = l.getD (j / 2) (0, 0) := by
      rw [List.getD_eq_getElem?_getD, List.getD_eq_getElem?_getD, List.getElem?_append_left this]
    rw [e]
  · rw [if_neg c]
    have e : (l ++ [x]).getD (j / 2) (0, 0) = x := by
      rw [List.getD_eq_getElem?_getD, List.getElem?_append_right (by omega), show j / 2 - l.length = 0 by omega]
      rfl
    unfold tcell
    rw [e]
    rcases (show j - l.length * 2 = 0 ∨ j - l.length * 2 = 1 by omega) with q | q
    · rw [q, h0, if_pos (by omega)]
    · rw [q, h1, if_neg (by omega)]
theorem tcell_one (l : List (Nat × Nat)) (j : Nat) : (tcell l j).oneCell' = true := by unfold tcell; split <;> rfl
theorem Try.infoH : (Try.prog.info? 46).map (fun i => (i.zero, i.size, i.bytes)) = some (some (.agg #[.int .i64 0, .int .u64 0]), 2, 16) := by kernel_rfl
theorem Ar.told_len (s : Ar) (n : Nat) : (s.told n).length ≤ n := by
  unfold Ar.told
  rw [List.length_map]
  exact Nat.le_trans (List.length_filter_le _ _) (by rw [List.length_range]; exact Nat.le_refl _)
end Go.Proofs.Ytkmakdhlaenaoaa
/- A region that draws its order, by what holds whatever has come up so far, with guards that are known. Over any program. -/
namespace Go.Proofs.Ytkmakdhlaenaoaa
open Go.RowKit
section
variable {P : Program} {ops : Array Oper} {Q : Exit → Act → World → Prop}
theorem wpAny_invG (I : Array Bool → Act → World → Prop) (hI : ∀ l a w, I l a w → l.size = ops.size) (hord : ∀ (i : Nat) (o : Oper), ops[i]? = some o → ∀ e, e ∈ o.after → Region.binds .any e = true → e.on < i)
    (hstep : ∀ l a w i o, I l a w → ops[i]? = some o → l.getD i true = false → (∀ e, e ∈ o.after → Region.binds .any e = true → l.getD e.on false = true) → Region.wanted o (yielded ops a.tmps) = true ∧ o.wp P a w (fun a' w' => I (l.setIfInBounds i true) a' w') Q)
    (hend : ∀ l a w, I l a w → (∀ i, i < ops.size → l.getD i false = true) → Q .normal a w) :
    ∀ fuel l a w, I l a w → unl l ≤ fuel → wpAny P .any ops Q fuel l a w
  | 0, l, a, w, h, hf => by
    have hr : Region.ready .any ops l = [] := by
      cases hc : Region.ready .any ops l with
      | nil => rfl
      | cons i r =>
        have hm : i ∈ Region.ready .any ops l := by rw [hc]; exact .head _
        exact absurd (Nat.le_zero.1 hf) (unl_none (rdy_spec hm).2.1)
    exact ⟨hr, hend l a w h (all_come hord (hI l a w h) hr)⟩
  | fuel + 1, l, a, w, h, hf => by
    refine ⟨fun hr => hend l a w h (all_come hord (hI l a w h) hr), fun i hi => ?_⟩
    obtain ⟨h1, h2, h3⟩ := rdy_spec hi
    have ho : ops[i]? = some ops[i] := Array.getElem?_eq_getElem h1
    obtain ⟨hw, hs⟩ := hstep l a w i _ h ho h2 (h3 _ ho)
    unfold wpOp
    rw [ho]
    show if Region.wanted ops[i] (yielded ops a.tmps) = true then _ else _
    rw [if_pos hw]
    refine .inl (Oper.wp_mono (fun a' w' h' => ?_) hs)
    exact wpAny_invG I hI hord hstep hend fuel _ a' w' h' (by have := unl_set h2; omega)
def ordG (ops : Array Oper) : Bool := (List.range ops.size).all fun i => match ops[i]? with | some o => o.after.all (fun e => !Region.binds .any e || decide (e.on < i)) | none => true
theorem ordG_spec (h : ordG ops = true) : ∀ (i : Nat) (o : Oper), ops[i]? = some o → ∀ e, e ∈ o.after → Region.binds .any e = true → e.on < i := fun i o ho e he hbe => by
  have hi : i < ops.size := (Array.getElem?_eq_some_iff.1 ho).1
  unfold ordG at h
  have r := List.all_eq_true.1 h i (List.mem_range.2 hi)
  rw [ho] at r
  have r2 := Array.all_eq_true'.1 r e he
  rw [hbe] at r2
  exact of_decide_eq_true (by simpa using r2)
theorem wp_region_invG {id : Nat} {a : Act} {w : World} (I : Act → Array Bool → Act → World → Prop) (hm : P.follows .mixedOrders = true) (hI : ∀ l a' w, I a l a' w → l.size = ops.size)
    (hB : ordG ops = true) (h0 : I a (Array.replicate ops.size false) a w.drew)
    (hstep : ∀ l a' w i o, I a l a' w → ops[i]? = some o → l.getD i true = false → (∀ e, e ∈ o.after → Region.binds .any e = true → l.getD e.on false = true) → Region.wanted o (yielded ops a'.tmps) = true ∧ o.wp P a' w (fun a'' w' => I a (l.setIfInBounds i true) a'' w') Q)
    (hend : ∀ l a' w, I a l a' w → (∀ i, i < ops.size → l.getD i false = true) → Q .normal a' w) : (Code.region id ops true).wp P Q a w :=
  wp_region_any hm (wpAny_invG (I a) hI (ordG_spec hB) hstep hend ops.size _ _ _ h0 (by
    unfold unl
    have := List.countP_le_length (p := fun b => !b) (l := (Array.replicate ops.size false).toList)
    simpa using this))
theorem yld {j s : Nat} {b : Bool} {oj : Oper} {t : Array Value} (h : ops[j]? = some oj) (hd : oj.dst = some s) (ht : t[s]?.getD undef = .bool b) : yielded ops t j = some b := by
  unfold yielded
  rw [h]
  simp only [Option.bind_some, hd]
  cases hc : t[s]? with
  | none => rw [hc] at ht; cases ht
  | some v => rw [hc] at ht; cases (show v = .bool b from ht); rfl
theorem wanted_of {o : Oper} {j s : Nat} {b : Bool} {oj : Oper} {t : Array Value} (hg : o.guard = some (j, b)) (h : ops[j]? = some oj) (hd : oj.dst = some s) (ht : t[s]?.getD undef = .bool b) : Region.wanted o (yielded ops t) = true := by
  unfold Region.wanted
  rw [hg]
  simp [yld h hd ht]
end
end Go.Proofs.Ytkmakdhlaenaoaa
/- Regions that draw their order within a round of a loop over a function: one quiet walk serves, as outside; over any program. -/
namespace Go.Proofs.Ytkmakdhlaenaoaa
set_option maxRecDepth 100000
open Go.RowKit
section
variable {F : Fence} {n : Nat} {P : Program} {ops : Array Oper} {Q : Exit → Act → World → Prop}
theorem oper_inRound {o : Oper} {a : Act} {w : World} {K : Act → World → Prop} (l : Nat) (_hro : F.round = none) (hd : ∀ c, o.op ≠ .defer c) (h : o.wpIn F n P a w K Q) : o.wpIn (F.inRound l) n P a w K Q := by
  unfold Oper.wpIn at h ⊢
  rw [Oper.semAt_eq _ _ _ hd] at h ⊢
  refine ⟨h.1, ?_⟩
  have h := h.2
  generalize (execOp a.eval o).run P w = r at *
  cases r with
  | ok x w' => cases x <;> exact h
  | halt x w' => cases x <;> exact h
theorem wpOpIn_inRound {i : Nat} {a : Act} {w : World} {K : Act → World → Prop} (l : Nat) (hro : F.round = none) (hd : ∀ (i : Nat) (o : Oper), ops[i]? = some o → ∀ c, o.op ≠ .defer c) (h : wpOpIn F n P ops Q i K a w) : wpOpIn (F.inRound l) n P ops Q i K a w := by
  unfold wpOpIn at *
  split
  · rename_i ho
    simpa only [ho] using h
  · rename_i o ho
    simp only [ho] at h
    split
    · rename_i hw
      simp only [hw, if_true] at h
      exact oper_inRound l hro (hd i o ho) h
    · rename_i hw
      simp only [hw] at h
      exact h
theorem wpAnyIn_inRound {md : Region.Mode} (l : Nat) (hro : F.round = none) (hd : ∀ (i : Nat) (o : Oper), ops[i]? = some o → ∀ c, o.op ≠ .defer c) : ∀ (fuel : Nat) (listed : Array Bool) (a : Act) (w : World), wpAnyIn F n P md ops Q fuel listed a w → wpAnyIn (F.inRound l) n P md ops Q fuel listed a w
  | 0, _, _, _, h => h
  | fuel + 1, _listed, _a, _w, h => ⟨h.1, fun i hi => wpOpIn_mono (fun a w h => wpAnyIn_inRound l hro hd fuel _ a w h) (wpOpIn_inRound l hro hd (h.2 i hi))⟩
end
section
variable {n : Nat} {P : Program} {ops : Array Oper} {C : World → Prop}
theorem quietIn_of_quiet {o : Oper} {a : Act} {K : Act → Prop} (h : o.quiet P a C K) : o.quietIn Fence.wide n P a C K := by
  obtain ⟨v, hv, hk⟩ := h
  refine ⟨v, fun w hw => ?_, hk⟩
  have h := hv w hw
  unfold Oper.quietAt at h
  unfold Oper.quietAtIn
  generalize (execOp a.eval o).run P w = r at *
  cases r with
  | ok x w' =>
    cases x with
    | enter f args => exact ⟨h.1, fun e => (nomatch e), callsIn_wide.2 h.2⟩
    | _ => exact h
  | halt x w' => exact h
theorem quietIn_mono {o : Oper} {a : Act} {K K' : Act → Prop} (h : o.quiet P a C K) (hk : ∀ a, K a → K' a) : o.quiet P a C K' := by
  obtain ⟨v, hv, h⟩ := h
  exact ⟨v, hv, hk _ h⟩
theorem wpQuietIn_of {Q : Act → Prop} : ∀ (l : List Oper) (a : Act), wpQuiet P ops C Q l a → wpQuietIn Fence.wide n P ops C Q l a
  | [], _, h => h
  | o :: rest, a, h => by
    refine ⟨fun _ _ _ _ => trivial, ?_⟩
    unfold wpQuiet at h
    by_cases hw : Region.wanted o (yielded ops a.tmps) = true
    · rw [if_pos hw] at h ⊢
      exact quietIn_of_quiet (quietIn_mono h fun a h => wpQuietIn_of rest a h)
    · rw [if_neg hw] at h ⊢
      exact wpQuietIn_of rest _ h
def noDeferB (ops : Array Oper) : Bool := (List.range ops.size).all fun i => match ops[i]? with | some o => (match o.op with | .defer _ => false | _ => true) | none => true
theorem noDeferB_spec (h : noDeferB ops = true) : ∀ (i : Nat) (o : Oper), ops[i]? = some o → ∀ c, o.op ≠ .defer c := fun i o ho c hc => by
  unfold noDeferB at h
  rw [List.all_eq_true] at h
  have hi : i < ops.size := by
    rcases Nat.lt_or_ge i ops.size with q | q
    · exact q
    · rw [Array.getElem?_eq_none q] at ho; cases ho
  have e := h i (List.mem_range.2 hi)
  simp only [ho, hc] at e
  cases e
/-- A region that draws its order, in a round, by one quiet walk. -/
theorem wpIn_region_stay {l0 id : Nat} {Q : Exit → Act → World → Prop} {a : Act} {w : World} {l : List Oper} (hm : P.follows .mixedOrders = true) (hB : Region.lexB .any l.toArray = true) (hD : noDeferB l.toArray = true)
    (h : wpQuiet P l.toArray (fun w' => ∃ W : Stay w, w' = W.w) (fun a' => ∀ w', (∃ W : Stay w, w' = W.w) → Q .normal a' w') l a) : (Code.region id l.toArray true).wpIn (Fence.wide.inRound l0) n P Q a w := by
  simp only [Region.lexB, Bool.and_eq_true] at hB
  refine wpIn_region_any hm (wpAnyIn_inRound l0 rfl (noDeferB_spec hD) _ _ _ _ (wpAnyIn_of_quiet (F := Fence.wide) (C := fun w' => ∃ W : Stay w, w' = W.w) (Q := fun a' => ∀ w', (∃ W : Stay w, w' = W.w) → Q .normal a' w') rfl (fun _ w' hw' h => h w' hw') _ _ _ _ ⟨⟨w.drew, (Below.refl _ _).drew⟩, rfl⟩ ?_))
  have := wpAnyQIn_lex (F := Fence.wide) (n := n) (P := P) (C := fun w' => ∃ W : Stay w, w' = W.w) (md := .any) hB.1 l 0 (Array.replicate l.toArray.size false) a (by simp) (by simpa using hB.2) (wpQuietIn_of l a h)
  simpa using this
end
end Go.Proofs.Ytkmakdhlaenaoaa
/- Handles compared; structs loaded in a quiet region; a promise on kept blocks for a loop over a function. -/
namespace Go.Proofs.Ytkmakdhlaenaoaa
set_option maxRecDepth 100000
open Go.RowKit Go.Shelf
theorem eqH (a b c d : Int) (W : World) : (Op.equalIn 10000 46 (.agg #[.int .i64 a, .int .u64 b]) (.agg #[.int .i64 c, .int .u64 d])).run Try.prog W = .ok (a == c && b == d) W := by
  have hf : Try.prog.underlying 46 = some (.struct (Try.prog.fieldsOf 46)) := by kernel_rfl
  rw [run_equalIn_struct W 9999 46 _ _ hf (by kernel_rfl)]
  have hl : (Try.prog.fieldsOf 46).toList = [{ name := "I", type := 3, offset := 0, embedded := false, tag := "", pkgPath := "", byteOffset := 0 }, { name := "Serial", type := 22, offset := 1, embedded := false, tag := "", pkgPath := "", byteOffset := 8 }] := by kernel_rfl
  rw [hl]
  have e1 := run_equalIn_int (P := Try.prog) W 9998 3 .i64 .i64 a c Try.underlying3
  have e2 := run_equalIn_int (P := Try.prog) W 9998 22 .u64 .u64 b d Try.underlying22
  have p0 : ∀ (a b : Int), (part 3 #[.int .i64 a, .int .u64 b] 0).run Try.prog W = .ok (.int .i64 a) W := fun a b => by kernel_rfl
  have p1 : ∀ (a b : Int), (part 22 #[.int .i64 a, .int .u64 b] 1).run Try.prog W = .ok (.int .u64 b) W := fun a b => by kernel_rfl
  cases hv : (a == c) <;> cases hp : (b == d) <;> rw [hv] at e1 <;> rw [hp] at e2 <;> simp [Op.eqFields, Sem.run_bind, p0, p1, e1, e2, Result.andThen_ok, Sem.run_ite, Sem.run_pure]
theorem neqH (a b c d : Int) (W : World) : (binOp .neq 46 (.agg #[.int .i64 a, .int .u64 b]) (.agg #[.int .i64 c, .int .u64 d])).run Try.prog W = .ok (.bool (!(a == c && b == d))) W := by
  have h : (Op.equalIn Op.maxDepth 46 (.agg #[.int .i64 a, .int .u64 b]) (.agg #[.int .i64 c, .int .u64 d])).run Try.prog W = _ := eqH a b c d W
  unfold binOp
  simp [Op.equal, h, Result.andThen_ok]
theorem eqlH (a b c d : Int) (W : World) : (binOp .eql 46 (.agg #[.int .i64 a, .int .u64 b]) (.agg #[.int .i64 c, .int .u64 d])).run Try.prog W = .ok (.bool (a == c && b == d)) W := by
  have h : (Op.equalIn Op.maxDepth 46 (.agg #[.int .i64 a, .int .u64 b]) (.agg #[.int .i64 c, .int .u64 d])).run Try.prog W = _ := eqH a b c d W
  unfold binOp
  simp [Op.equal, h, Result.andThen_ok]
end Go.Proofs.Ytkmakdhlaenaoaa
/- Stage 9: same, over whatever arena. -/
namespace Go.Proofs.Ytkmakdhlaenaoaa
set_option maxRecDepth 100000
set_option pp.maxSteps 100000
open Go.RowKit Go.Shelf
attribute [local go_sem] Oper.semAt_some
/-- The live handle at an index, as it is told; whether there is one. -/
def Ar.is_ (s : Ar) (i : Int) : Bool := decide (0 ≤ i) && decide (s.at_ i.toNat ≠ 0)
def Ar.hat (s : Ar) (i : Int) : Array Value := if s.is_ i = true then #[.int .i64 i, .int .u64 (s.at_ i.toNat : Int)] else #[.int .i64 0, .int .u64 0]
theorem tcell_at {l : List (Nat × Nat)} {k : Nat} {x : Nat × Nat} (h : l[k]? = some x) {j : Nat} (hj : j < 2) : some (tcell l (k * 2 + j)) = (#[.int .i64 (x.1 : Int), .int .u64 (x.2 : Int)] : Array Value).toList[j]? := by
  unfold tcell
  have e : l.getD ((k * 2 + j) / 2) (0, 0) = x := by
    rw [show (k * 2 + j) / 2 = k by omega, List.getD_eq_getElem?_getD, h]
    rfl
  rw [e]
  rcases (show j = 0 ∨ j = 1 by omega) with rfl | rfl
  · rw [if_pos (by omega)]; rfl
  · rw [if_neg (by omega)]; rfl
end Go.Proofs.Ytkmakdhlaenaoaa
/- Stage 9: the landed arena in memory; Size, Len, At. -/
namespace Go.Proofs.Ytkmakdhlaenaoaa
set_option maxRecDepth 100000
open Go.RowKit
/-- The free cells, linked: from fd on those of a list. -/
def Lk (bf : Nat → Int) : Int → List Nat → Prop
  | fd, [] => fd = -1
  | fd, i :: t => fd = (i : Int) ∧ Lk bf (bf i) t
theorem Lk.same {bf bf' : Nat → Int} : ∀ {l : List Nat} {fd : Int}, Lk bf fd l → (∀ i, i ∈ l → bf' i = bf i) → Lk bf' fd l
  | [], _, h, _ => h
  | i :: t, _, h, hs => ⟨h.1, by
      rw [hs i (List.mem_cons_self ..)]
      exact Lk.same h.2 fun j hj => hs j (List.mem_cons_of_mem _ hj)⟩
/-- The landed arena's fields stand for s. -/
structure PRep (s : Ar) (fd : Int) (fs : Nat) (bf : Nat → Int) : Prop where
  link : Lk bf fd s.freed.reverse
  fresh : ∀ i, fs ≤ i → i < s.has.length → s.at_ i = 0 ∧ ¬ i ∈ s.freed
  used : ∀ i, i < fs → s.at_ i ≠ 0 ∨ i ∈ s.freed
  le : fs ≤ s.has.length
def pcell (ha : Nat → Nat) (bf : Nat → Int) (j : Nat) : Value := if j % 2 = 0 then .int .u64 (ha (j / 2) : Int) else .int .i64 (bf (j / 2))
theorem pcell_one (ha : Nat → Nat) (bf : Nat → Int) (j : Nat) : (pcell ha bf j).oneCell' = true := by unfold pcell; split <;> rfl
theorem pcell_0 (ha : Nat → Nat) (bf : Nat → Int) (j : Nat) : pcell ha bf (j * 2) = .int .u64 (ha j : Int) := by
  unfold pcell
  rw [if_pos (by omega), show j * 2 / 2 = j by omega]
theorem pcell_1 (ha : Nat → Nat) (bf : Nat → Int) (j : Nat) : pcell ha bf (j * 2 + 1) = .int .i64 (bf j) := by
  unfold pcell
  rw [if_neg (by omega), show (j * 2 + 1) / 2 = j by omega]
/-- The landed arena at a block, as fields. -/
structure PX (w : World) (p g n c : Nat) (fd : Int) (fs lv S : Nat) (ha : Nat → Nat) (bf : Nat → Int) (F : Nat → Prop) : Prop where
  blk : w.heap[p]? = some (.cells #[.slice (some ⟨g, 0, none⟩) n c, .int .i64 fd, .int .i64 (fs : Int), .int .i64 (lv : Int), .int .u64 (S : Int)] 94 (0, 0))
  row : OwnC w 0 113 2 (some ⟨g, 0, none⟩) n c (pcell ha bf)
  mp : F p
  mg : F g
  old : ∀ k, F k → k < w.heap.size
  pos : 0 < n
theorem PX.ne {w : World} {p g n c : Nat} {fd : Int} {fs lv S : Nat} {ha : Nat → Nat} {bf : Nat → Int} {F : Nat → Prop} (h : PX w p g n c fd fs lv S ha bf F) : p ≠ g := OwnC.ne h.row h.blk (by decide)
theorem PX.keep {w w' : World} {p g n c : Nat} {fd : Int} {fs lv S : Nat} {ha : Nat → Nat} {bf : Nat → Int} {F R : Nat → Prop} (h : PX w p g n c fd fs lv S ha bf F) (hk : Kept R w w') (hd : ∀ k, F k → ¬ R k) : PX w' p g n c fd fs lv S ha bf F :=
  ⟨(hk.block p (h.old p h.mp) (hd p h.mp)).trans h.blk, h.row.block (hk.block g (h.old g h.mg) (hd g h.mg)), h.mp, h.mg, fun k hF => Nat.lt_of_lt_of_le (h.old k hF) hk.size, h.pos⟩
theorem PX.step {w w' : World} {p g n c : Nat} {fd : Int} {fs lv S : Nat} {ha : Nat → Nat} {bf : Nat → Int} {F : Nat → Prop} (h : PX w p g n c fd fs lv S ha bf F) (hb : Below w.heap.size w w') : PX w' p g n c fd fs lv S ha bf F :=
  h.keep (Kept.of_below hb fun _ => False) fun _ _ q => q
theorem PX.cap {w : World} {p g n c : Nat} {fd : Int} {fs lv S : Nat} {ha : Nat → Nat} {bf : Nat → Int} {F : Nat → Prop} (h : PX w p g n c fd fs lv S ha bf F) : n ≤ c := h.row.cap
theorem PX.cap9 {w : World} {p g n c : Nat} {fd : Int} {fs lv S : Nat} {ha : Nat → Nat} {bf : Nat → Int} {F : Nat → Prop} (h : PX w p g n c fd fs lv S ha bf F) : c ≤ 9223372036854775807 := by
  have := h.row.cap_le
  unfold maxLen at this
  omega
theorem PX.c0 {w : World} {p g n c : Nat} {fd : Int} {fs lv S : Nat} {ha : Nat → Nat} {bf : Nat → Int} {F : Nat → Prop} (h : PX w p g n c fd fs lv S ha bf F) {j : Nat} (hj : j < n) : w.cell? ⟨g, j * 2, none⟩ = some (.int .u64 (ha j : Int)) := by
  obtain ⟨g', e, _, _, hc, _⟩ := h.row.lies h.pos
  injection e with e
  injection e with e
  subst e
  rw [← pcell_0 ha bf j]
  exact hc _ (by omega)
theorem PX.c1 {w : World} {p g n c : Nat} {fd : Int} {fs lv S : Nat} {ha : Nat → Nat} {bf : Nat → Int} {F : Nat → Prop} (h : PX w p g n c fd fs lv S ha bf F) {j : Nat} (hj : j < n) : w.cell? ⟨g, j * 2 + 1, none⟩ = some (.int .i64 (bf j)) := by
  obtain ⟨g', e, _, _, hc, _⟩ := h.row.lies h.pos
  injection e with e
  injection e with e
  subst e
  rw [← pcell_1 ha bf j]
  exact hc _ (by omega)
theorem PX.fz {w : World} {p g n c : Nat} {fd : Int} {fs lv S : Nat} {ha : Nat → Nat} {bf : Nat → Int} {F : Nat → Prop} (h : PX w p g n c fd fs lv S ha bf F) (k : Nat) : w.frozen? ⟨g, k, none⟩ = false := by
  obtain ⟨g', e, _, _, _, hf⟩ := h.row.lies h.pos
  injection e with e
  injection e with e
  subst e
  exact hf k
/-- .. as what it stands for. -/
def PA (w : World) (p : Nat) (s : Ar) (F : Nat → Prop) : Prop := ∃ g c fd fs bf, PX w p g s.has.length c fd fs s.count s.serial s.at_ bf F ∧ PRep s fd fs bf
theorem psize_c (w : World) (p : Nat) (A : Option Addr) (n c : Nat) (h : w.cell? ⟨p, 0, none⟩ = some (.slice A n c)) : Calls Try.prog 44 #[.pointer (some ⟨p, 0, none⟩)] w (ret (.int .i64 (n : Int)) w) := by
  go_enter Try.func44, Try.ntmps44
  go_wp2_with fail
  go_ret
  exact ⟨rfl, Below.refl _ _⟩
theorem psize_0 (w : World) : Calls Try.prog 44 #[.pointer none] w (ret (.int .i64 0) w) := by
  go_enter Try.func44, Try.ntmps44
  go_wp2_with fail
  go_ret
  exact ⟨rfl, Below.refl _ _⟩
theorem plen_c (w : World) (p : Nat) (v : Int) (h : w.cell? ⟨p, 3, none⟩ = some (.int .i64 v)) : Calls Try.prog 31 #[.pointer (some ⟨p, 0, none⟩)] w (ret (.int .i64 v) w) := by
  go_enter Try.func31, Try.ntmps31
  go_wp2_with fail
  go_ret
  exact ⟨rfl, Below.refl _ _⟩
theorem plen_0 (w : World) : Calls Try.prog 31 #[.pointer none] w (ret (.int .i64 0) w) := by
  go_enter Try.func31, Try.ntmps31
  go_wp2_with fail
  go_ret
  exact ⟨rfl, Below.refl _ _⟩
end Go.Proofs.Ytkmakdhlaenaoaa
