import Derived.Test.YtkmakdhlaenaoaaGm7
import Derived.Test.YtkmakdhlaenaoaaGm8
import Derived.RangeFuncNested
import Derived.RangeFuncBound
import Derived.RangeFuncCalls
import Derived.RangeFuncLeaves
import Derived.Shelf.Abstract
import Derived.Shelf.RegionOpen
import Derived.WalkKit
import Derived.OwnWalkIn
import Derived.TacticsInMore
import Derived.LoopNIn
import Derived.LoopIn
import Derived.Laws.StructEq
import Derived.Test.YtkmakdhlaenaoaaGm1
/- What is kept of a heap but for some blocks; cells that lie in some blocks: words for objects with a footprint, over any program. -/
namespace Go.Proofs.Ytkmakdhlaenaoaa
set_option maxRecDepth 100000
open Go.RowKit
/-- All old blocks are kept, but those of R. -/
structure Kept (R : Nat → Prop) (w w' : World) : Prop where
  os : w'.os = w.os
  tape : w'.tape = w.tape
  output : w'.output = w.output
  size : w.heap.size ≤ w'.heap.size
  block : ∀ k, k < w.heap.size → ¬ R k → w'.heap[k]? = w.heap[k]?
theorem Kept.refl (R : Nat → Prop) (w : World) : Kept R w w := ⟨rfl, rfl, rfl, Nat.le_refl _, fun _ _ _ => rfl⟩
theorem Kept.of_below {w w' : World} (h : Below w.heap.size w w') (R : Nat → Prop) : Kept R w w' := ⟨h.os, h.tape, h.output, h.size, fun k hk _ => h.block k hk⟩
theorem Kept.below {R : Nat → Prop} {w w' : World} (h : Kept R w w') {B : Nat} (hB : B ≤ w.heap.size) (hR : ∀ k, R k → B ≤ k) : Below B w w' :=
  ⟨h.os, h.tape, h.output, h.size, fun k hk => h.block k (Nat.lt_of_lt_of_le hk hB) fun hr => Nat.not_lt.2 (hR k hr) hk⟩
theorem Kept.mono {R R' : Nat → Prop} {w w' : World} (h : Kept R w w') (hR : ∀ k, k < w.heap.size → R k → R' k) : Kept R' w w' := ⟨h.os, h.tape, h.output, h.size, fun k hk hn => h.block k hk fun hr => hn (hR k hk hr)⟩
theorem Kept.trans {R R' : Nat → Prop} {a b c : World} (h : Kept R a b) (k : Kept R' b c) (hR : ∀ j, j < a.heap.size → R' j → R j) : Kept R a c :=
  ⟨k.os.trans h.os, k.tape.trans h.tape, k.output.trans h.output, Nat.le_trans h.size k.size, fun i hi hn => (k.block i (Nat.lt_of_lt_of_le hi h.size) fun hr => hn (hR i hi hr)).trans (h.block i hi hn)⟩
theorem Kept.step {R : Nat → Prop} {a b c : World} (h : Kept R a b) (k : Below b.heap.size b c) : Kept R a c := h.trans (Kept.of_below k (fun _ => False)) fun _ _ q => q.elim
theorem kept_cell_block {w w' : World} {p : Addr} (h : w'.heap[p.block]? = w.heap[p.block]?) : w'.cell? p = w.cell? p := by
  simp only [World.cell?, h]
theorem Kept.cell {R : Nat → Prop} {w w' : World} (h : Kept R w w') {p : Addr} (hp : p.block < w.heap.size) (hn : ¬ R p.block) : w'.cell? p = w.cell? p := kept_cell_block (h.block _ hp hn)
/-- A store into a block of R. -/
theorem Kept.setCell {R : Nat → Prop} {w w' : World} (h : Kept R w w') {p : Addr} (hp : R p.block ∨ w.heap.size ≤ p.block) (v : Value) : Kept R w (w'.setCell p v) := by
  have b : Below 0 w' (w'.setCell p v) := (Below.refl 0 w').setCell (Nat.zero_le _) v
  refine ⟨b.os.trans h.os, b.tape.trans h.tape, b.output.trans h.output, Nat.le_trans h.size b.size, fun k hk hn => ?_⟩
  have hne : k ≠ p.block := fun e => by
    subst e
    rcases hp with q | q
    · exact hn q
    · omega
  exact (Below.heap_setCell w' p v k hne).trans (h.block k hk hn)
theorem Kept.alloc {R : Nat → Prop} {w w' : World} (h : Kept R w w') (o : Obj) : Kept R w (w'.alloc o) := h.step (below_alloc w' o)
theorem Kept.drew {R : Nat → Prop} {w w' : World} (h : Kept R w w') : Kept R w w'.drew :=
  let b : Below 0 w' w'.drew := (Below.refl 0 w').drew
  ⟨b.os.trans h.os, b.tape.trans h.tape, b.output.trans h.output, h.size, h.block⟩
theorem Kept.setRow {R : Nat → Prop} {w w' : World} (h : Kept R w w') {g : Nat} (hg : R g ∨ w.heap.size ≤ g) (new : Array Value) : Kept R w (w'.setRow g new) := by
  have b : Below 0 w' (w'.setRow g new) := below_setRow (Below.refl 0 w') (Nat.zero_le _) new
  refine ⟨b.os.trans h.os, b.tape.trans h.tape, b.output.trans h.output, Nat.le_trans h.size b.size, fun k hk hn => ?_⟩
  have hne : k ≠ g := fun e => by
    subst e
    rcases hg with q | q
    · exact hn q
    · omega
  exact (setRow_other w' g k new hne).trans (h.block k hk hn)
/-- Cells that read as f, in a block of G; of nothing the address is not asked. -/
def RdG (w : World) (G : Nat → Prop) (A : Option Addr) (m : Nat) (f : Nat → Value) : Prop :=
  m = 0 ∨ ∃ b off, A = some ⟨b, off, none⟩ ∧ G b ∧ b < w.heap.size ∧ ∀ k, k < m → w.cell? ⟨b, off + k, none⟩ = some (f k)
theorem RdG.keep {R G : Nat → Prop} {w w' : World} {A : Option Addr} {m : Nat} {f : Nat → Value} (h : RdG w G A m f) (hk : Kept R w w') (hd : ∀ k, G k → ¬ R k) : RdG w' G A m f := by
  rcases h with h | ⟨b, off, e, h1, h2, h3⟩
  · exact .inl h
  · exact .inr ⟨b, off, e, h1, Nat.lt_of_lt_of_le h2 hk.size, fun k q => (hk.cell (p := ⟨b, off + k, none⟩) h2 (hd b h1)).trans (h3 k q)⟩
theorem RdG.mono {G G' : Nat → Prop} {w : World} {A : Option Addr} {m : Nat} {f : Nat → Value} (h : RdG w G A m f) (hG : ∀ k, G k → G' k) : RdG w G' A m f := by
  rcases h with h | ⟨b, off, e, h1, h2, h3⟩
  · exact .inl h
  · exact .inr ⟨b, off, e, hG b h1, h2, h3⟩
theorem RdG.same {G : Nat → Prop} {w : World} {A : Option Addr} {m : Nat} {f g : Nat → Value} (h : RdG w G A m f) (hg : ∀ k, k < m → g k = f k) : RdG w G A m g := by
  rcases h with h | ⟨b, off, e, h1, h2, h3⟩
  · exact .inl h
  · exact .inr ⟨b, off, e, h1, h2, fun k hk => by rw [hg k hk]; exact h3 k hk⟩
theorem RdG.less {G : Nat → Prop} {w : World} {A : Option Addr} {m m' : Nat} {f : Nat → Value} (h : RdG w G A m f) (hm : m' ≤ m) : RdG w G A m' f := by
  rcases h with h | ⟨b, off, e, h1, h2, h3⟩
  · exact .inl (by omega)
  · exact .inr ⟨b, off, e, h1, h2, fun k hk => h3 k (by omega)⟩
theorem RdG.rdc {G : Nat → Prop} {w : World} {A : Option Addr} {m : Nat} {f : Nat → Value} (h : RdG w G A m f) : RdC w w.heap.size A m f := by
  rcases h with h | ⟨b, off, e, _, h2, h3⟩
  · exact .inl h
  · exact .inr ⟨b, off, e, h2, h3⟩
theorem OwnC.rdg {w : World} {base : Nat} {e : TypeId} {A : Option Addr} {n c : Nat} {f : Nat → Value} (h : OwnC w base e 1 A n c f) {G : Nat → Prop} (hG : ∀ k, base ≤ k → k < w.heap.size → G k) : RdG w G A n f := by
  rcases Nat.eq_zero_or_pos n with h0 | h0
  · exact .inl h0
  · obtain ⟨g, rfl, hb, hlt, hc, _⟩ := h.lies h0
    exact .inr ⟨g, 0, rfl, hG g hb hlt, hlt, fun k hk => by rw [Nat.zero_add]; exact hc k (by omega)⟩
/-- A struct in a cell and a value, as results. -/
theorem results_rowa {P : Program} {fn : Func} {p a : Tmp} {ty : TypeId} (h : fn.results = #[.cell p ty, .tmp a]) (tmps : Array Value) (w : World) (g : Nat) (t : TypeId) (cs : Array Value) (fr : Nat × Nat) (d : TypeDesc)
    (hp : tmps.getD p undef = .pointer (some ⟨g, 0, none⟩)) (hg : w.heap[g]? = some (.cells cs t fr))
    (hu : P.underlying ty = some d) (hd : (match d with | .struct _ | .array _ _ => true | _ => false) = true) (hi : (P.info? ty).map (·.size) = some cs.size) :
    (results fn tmps).run P w = .ok (.tuple #[.agg cs, tmps.getD a undef]) w := by
  have hp' : tmps[p]?.getD undef = .pointer (some ⟨g, 0, none⟩) := by simpa using hp
  simp [results, h, hp', asAddr, run_loadVar_row w g t ty cs fr d hg hu hd hi]
end Go.Proofs.Ytkmakdhlaenaoaa
/- General words of stage 9: what is kept, over functions that are ranged over; structs loaded in a quiet region; rows and their blocks; over any program. -/
namespace Go.Proofs.Ytkmakdhlaenaoaa
set_option maxRecDepth 100000
open Go.RowKit Go.Shelf
theorem Kept.grownBy {R : Nat → Prop} {w w' : World} {row : Option Nat} (hg : w.grownBy w' row) (hR : ∀ k, row = some k → R k) : Kept R w w' :=
  ⟨hg.os, hg.tape, hg.output, hg.size, fun k hk hn => hg.block k hk fun e => hn (hR k e.symm)⟩
theorem keptK_t {R : Nat → Prop} {A B C : World} (h : Kept R A B) (k : Kept R B C) : Kept R A C := h.trans k fun _ _ r => r
theorem keptK_b {R : Nat → Prop} {w : World} (hn : ∀ k, w.heap.size ≤ k → R k) (W : World) (l : Nat) (o o' : Obj) (hl : w.heap.size ≤ l) (_ : W.heap[l]? = some o) (_ : o.isCells = false) (_ : o.isWalk = false) : Kept R W (W.putObj l o') :=
  Kept.grownBy (grownBy_putObj' W l o') fun k e => by
    injection e with e
    subst e
    exact hn _ hl
theorem qh_mid {P : Program} {ops : Array Oper} {C : World → Prop} {Q : Act → Prop} {a : Act} {o : Oper} {rest : List Oper} (hw : Region.wanted o (yielded ops a.tmps) = true) (ty : TypeId) (x : Operand) (ho : o.op = .load ty x)
    (g i : Nat) (hx : a.eval x = .pointer (some ⟨g, i, none⟩)) (cs : Array Value) (d : TypeDesc) (hg : ∀ w, C w → w.rangeAt g i cs.toList)
    (hu : P.underlying ty = some d) (hd : d.isRow = true) (hi : (P.info? ty).map (·.size) = some cs.toList.length)
    (h : wpQuiet P ops C Q rest (a.put o.dst (.agg cs))) : wpQuiet P ops C Q (o :: rest) a := by
  refine BigFrame.wpQuiet_want hw fun K hK => ⟨.agg cs, fun w hC => ?_, hK _ h⟩
  unfold Oper.quietAt execOp
  simp only [ho, hx, Instr.loadAt, Instr.sureAddr, Sem.run_bind, Sem.run_pure, Result.andThen_ok, run_loadVar_mid w g i ty cs.toList d (hg w hC) hu hd hi]
  exact ⟨rfl, rfl⟩
theorem qh_row {P : Program} {ops : Array Oper} {C : World → Prop} {Q : Act → Prop} {a : Act} {o : Oper} {rest : List Oper} (hw : Region.wanted o (yielded ops a.tmps) = true) (ty : TypeId) (x : Operand) (ho : o.op = .load ty x)
    (g : Nat) (hx : a.eval x = .pointer (some ⟨g, 0, none⟩)) (t : TypeId) (cs : Array Value) (fr : Nat × Nat) (d : TypeDesc) (hg : ∀ w, C w → w.heap[g]? = some (.cells cs t fr))
    (hu : P.underlying ty = some d) (hd : (match d with | .struct _ | .array _ _ => true | _ => false) = true) (hi : (P.info? ty).map (·.size) = some cs.size)
    (h : wpQuiet P ops C Q rest (a.put o.dst (.agg cs))) : wpQuiet P ops C Q (o :: rest) a := by
  refine BigFrame.wpQuiet_want hw fun K hK => ⟨.agg cs, fun w hC => ?_, hK _ h⟩
  unfold Oper.quietAt execOp
  simp only [ho, hx, Instr.loadAt, Instr.sureAddr, Sem.run_bind, Sem.run_pure, Result.andThen_ok, run_loadVar_row w g t ty cs fr d (hg w hC) hu hd hi]
  exact ⟨rfl, rfl⟩
theorem stay_hp {w : World} {g : Nat} {o : Obj} (h : w.heap[g]? = some o) : ∀ x, (∃ W : Stay w, x = W.w) → x.heap[g]? = some o := by
  rintro x ⟨W, rfl⟩
  exact (W.below.block _ (lt_heap h)).trans h
theorem stay_rng {w : World} {g i : Nat} {l : List Value} (hg : g < w.heap.size) (h : w.rangeAt g i l) : ∀ x, (∃ W : Stay w, x = W.w) → x.rangeAt g i l := by
  rintro x ⟨W, rfl⟩
  exact fun j v hv => (W.below.cell (p := ⟨g, i + j, none⟩) hg).trans (h j v hv)
theorem ownFrom_kept {β : Type} {B : Nat} {w₀ : World} {R : Nat → Prop} (hB : w₀.heap.size ≤ B) : OwnFrom B (fun (_ : β) W => Kept R w₀ W) := fun _ X Y row hs hg hr =>
  ⟨hg.os.trans hs.os, hg.tape.trans hs.tape, hg.output.trans hs.output, Nat.le_trans hs.size hg.size, fun k hk hn => (hg.block k (Nat.lt_of_lt_of_le hk hs.size) fun e => by
    have := (hr k e.symm).1
    omega).trans (hs.block k hk hn)⟩
theorem results_flag {fn : Func} {p : Tmp} (h : fn.results = #[.cell p 4]) (tmps : Array Value) (w : World) (g : Nat) (b : Bool) (hp : tmps.getD p undef = .pointer (some ⟨g, 0, none⟩)) (hc : w.cell? ⟨g, 0, none⟩ = some (.bool b)) : (results fn tmps).run Try.prog w = .ok (.bool b) w := by
  have hp' : tmps[p]?.getD undef = .pointer (some ⟨g, 0, none⟩) := by simpa using hp
  have hu := Try.underlying4
  simp only [results, h]
  go_simp
def ret (v : Value) (W : World) (e : Ending) (w' : World) : Prop := e = .returned v ∧ Below W.heap.size W w'
theorem rdc_pos {w : World} {B m : Nat} {A : Option Addr} {f : Nat → Value} (h : RdC w B A m f) (hm : 0 < m) : ∃ b off, A = some ⟨b, off, none⟩ ∧ b < B ∧ ∀ k, k < m → w.cell? ⟨b, off + k, none⟩ = some (f k) := by
  rcases h with h | h
  · exact absurd h (by omega)
  · exact h
theorem OwnC.block {w w' : World} {base size : Nat} {e : TypeId} {g n c : Nat} {f : Nat → Value} (h : OwnC w base e size (some ⟨g, 0, none⟩) n c f) (hw : w'.heap[g]? = w.heap[g]?) : OwnC w' base e size (some ⟨g, 0, none⟩) n c f := by
  refine ⟨h.1, ?_⟩
  rcases h.2 with hh | ⟨g', cap, cur, hv, hg, hh, r⟩
  · exact .inl hh
  · have hv' := hv
    injection hv' with h1 h2 h3
    injection h1 with h1
    injection h1 with h1
    subst h1
    exact .inr ⟨g, cap, cur, hv, hg, hw.trans hh, r⟩
theorem grown_below {w w' : World} (h : Below w.heap.size w w') : w.grownBy w' none := ⟨h.os, h.tape, h.output, h.size, fun k hk _ => h.block k hk⟩
theorem Kept.setCells {R : Nat → Prop} {w w' : World} (h : Kept R w w') {g : Nat} (hg : R g ∨ w.heap.size ≤ g) : ∀ (vs : List Value) (o : Nat), Kept R w (w'.setCells g o vs) := fun vs => by
  induction vs generalizing w' with
  | nil => exact fun _ => h
  | cons v r ih => exact fun o => ih (h.setCell (p := ⟨g, o, none⟩) hg v) (o + 1)
theorem getD_no {l : Array Bool} {i : Nat} (h : l.getD i true = false) : l.getD i false = false := by
  rw [Array.getD_eq_getD_getElem?] at h ⊢
  cases e : l[i]? with
  | none => rfl
  | some b => rw [e] at h; exact h
theorem rng2 {W : World} {g : Nat} {cs : Array Value} {t : TypeId} {a b : Value} (h : W.heap[g]? = some (.cells cs t (0, 0))) (o : Nat) (h0 : cs[o]? = some a) (h1 : cs[o + 1]? = some b) : W.rangeAt g o [a, b] := fun j v hv => by
  rw [blk_cell h (o + j)]
  match j, hv with
  | 0, hv => rw [← hv]; exact h0
  | 1, hv => rw [← hv]; exact h1
theorem OwnC.blockAny {w w' : World} {base size : Nat} {e : TypeId} {A : Option Addr} {n c : Nat} {f : Nat → Value} (h : OwnC w base e size A n c f) (hw : ∀ g, 0 < n → A = some ⟨g, 0, none⟩ → w'.heap[g]? = w.heap[g]?) (h0 : n = 0 → A = none) : OwnC w' base e size A n c f := by
  rcases Nat.eq_zero_or_pos n with q | q
  · refine ⟨h.1, ?_⟩
    rcases h.2 with hh | ⟨g', cap, cur, hv, r⟩
    · exact .inl hh
    · exfalso
      rw [h0 q] at hv
      cases hv
  · obtain ⟨g, e, _⟩ := h.lies q
    subst e
    exact h.block (hw g q rfl)
theorem ownBlock_some {A : Option Addr} {n c k : Nat} (h : Value.ownBlock (.slice A n c) = some k) : ∃ a, A = some a ∧ a.block = k := by
  cases A with
  | none => cases h
  | some a => exact ⟨a, rfl, by simpa [Value.ownBlock] using h⟩
end Go.Proofs.Ytkmakdhlaenaoaa
/- Stage 9: told, over whatever iterator tells a list. -/
namespace Go.Proofs.Ytkmakdhlaenaoaa
open Go.RowKit Go.Shelf
attribute [local go_sem] Oper.semAt_some
/-- A handle, as an iterator hands it on. -/
def hEnc (x : Nat × Nat) : Array Value := #[.agg #[.int .i64 (x.1 : Int), .int .u64 (x.2 : Int)]]
/-- A function that tells the handles of l, one by one, as far as it is asked, as long as its blocks are kept. -/
def Its (g : Nat) (lb : Array Value) (l : List (Nat × Nat)) (Fi : Nat → Prop) (w : World) : Prop := ∀ R : Nat → Prop, (∀ k, Fi k → ¬ R k) → SeqStopsK Fence.wide 12 Try.prog g lb hEnc (Kept R) (fun xs => xs = l) (fun pre => pre <+: l) l.length w
/-- What All tells: such a function, over its own blocks and old ones. -/
def AllO (g : Nat) (l : List (Nat × Nat)) (B : Nat) (W : World) (e : Ending) (w' : World) : Prop := ∃ lb Fi, e = .returned (.func (.func g) #[] lb) ∧ Below W.heap.size W w' ∧ (∀ k, Fi k → k < w'.heap.size ∧ (k < B ∨ W.heap.size ≤ k)) ∧ Its g lb l Fi w'
end Go.Proofs.Ytkmakdhlaenaoaa
/- Stage 9's pure words: what is live in an arena, by cells: each taken cell's handle, from the first cell on; they are as many as are taken; what is told is live, and all that is live is told. -/
namespace Go.Proofs.Ytkmakdhlaenaoaa
namespace Ar
/-- The handles of the taken cells among the first n. -/
def told (s : Ar) (n : Nat) : List (Nat × Nat) := ((List.range n).filter (fun i => s.at_ i != 0)).map (fun i => (i, s.at_ i))
theorem told_zero (s : Ar) : s.told 0 = [] := rfl
theorem told_succ (s : Ar) (n : Nat) : s.told (n + 1) = if s.at_ n != 0 then s.told n ++ [(n, s.at_ n)] else s.told n := by
  unfold told
  rw [List.range_succ, List.filter_append, List.map_append]
  by_cases h : s.at_ n = 0
  · simp [h]
  · simp [h]
theorem told_length (s : Ar) : (s.told s.has.length).length = s.count := by
  unfold told count
  rw [List.length_map, ← List.countP_eq_length_filter]
  have h : s.has = (List.range s.has.length).map s.at_ := by
    apply List.ext_getElem
    · simp
    · intro i h1 h2
      simp [at_, List.getElem?_eq_getElem h1]
  have h2 : s.has.countP (fun x => x != 0) = ((List.range s.has.length).map s.at_).countP (fun x => x != 0) := congrArg _ h
  rw [h2, List.countP_map]
  rfl
theorem told_live {s : Ar} {n : Nat} {x : Nat × Nat} (h : x ∈ s.told n) : x.1 < n ∧ x.2 = s.at_ x.1 ∧ s.live (x.1 : Int) x.2 = true := by
  unfold told at h
  obtain ⟨i, hi, rfl⟩ := List.mem_map.mp h
  rw [List.mem_filter, List.mem_range] at hi
  have h2 : s.at_ i ≠ 0 := by simpa using hi.2
  refine ⟨hi.1, rfl, live_iff.mpr ⟨by simp, h2, by simp⟩⟩
theorem live_told {s : Ar} {i k : Nat} (h : s.live (i : Int) k = true) : (i, k) ∈ s.told s.has.length := by
  obtain ⟨_, h0, hk⟩ := live_iff.mp h
  rw [Int.toNat_natCast] at hk
  have hi : i < s.has.length := Nat.lt_of_not_le fun hle => h0 (by rw [← hk]; exact at_out hle)
  unfold told
  refine List.mem_map.mpr ⟨i, ?_, by rw [hk]⟩
  rw [List.mem_filter, List.mem_range]
  exact ⟨hi, by rw [hk]; simp [h0]⟩
/-- A full arena: each cell's handle is told. -/
theorem told_full {s : Ar} (h : s.which = none) : (s.told s.has.length).length = s.has.length := by
  rw [told_length, count_full h]
end Ar
end Go.Proofs.Ytkmakdhlaenaoaa
/- Stage 9: the document's arena in memory; New, which, Live. -/
namespace Go.Proofs.Ytkmakdhlaenaoaa
set_option maxRecDepth 100000
open Go.RowKit
/-- The blocks of G, but q. -/
def GQ (G : Nat → Prop) (q : Nat) : Nat → Prop := fun k => G k ∧ k ≠ q
/-- The document's arena at a block, as fields. -/
structure RX (w : World) (q : Nat) (A : Option Addr) (n c : Nat) (B : Option Addr) (m d S : Nat) (ha fr : Nat → Nat) (G : Nat → Prop) : Prop where
  blk : w.heap[q]? = some (.cells #[.slice A n c, .slice B m d, .int .u64 (S : Int)] 105 (0, 0))
  mem : G q
  old : ∀ k, G k → k < w.heap.size
  has : RdG w (GQ G q) A n (fun k => .int .u64 (ha k : Int))
  free : RdG w (GQ G q) B m (fun k => .int .i64 (fr k : Int))
  c1 : n ≤ c
  c2 : c ≤ 9223372036854775807
  d1 : m ≤ d
  d2 : d ≤ 9223372036854775807
theorem RX.keep {w w' : World} {q : Nat} {A : Option Addr} {n c : Nat} {B : Option Addr} {m d S : Nat} {ha fr : Nat → Nat} {G R : Nat → Prop} (h : RX w q A n c B m d S ha fr G) (hk : Kept R w w') (hd : ∀ k, G k → ¬ R k) : RX w' q A n c B m d S ha fr G :=
  ⟨(hk.block q (h.old q h.mem) (hd q h.mem)).trans h.blk, h.mem, fun k g => Nat.lt_of_lt_of_le (h.old k g) hk.size, h.has.keep hk (fun k g => hd k g.1), h.free.keep hk (fun k g => hd k g.1), h.c1, h.c2, h.d1, h.d2⟩
theorem RX.step {w w' : World} {q : Nat} {A : Option Addr} {n c : Nat} {B : Option Addr} {m d S : Nat} {ha fr : Nat → Nat} {G : Nat → Prop} (h : RX w q A n c B m d S ha fr G) (hb : Below w.heap.size w w') : RX w' q A n c B m d S ha fr G :=
  h.keep (Kept.of_below hb fun _ => False) fun _ _ q => q
/-- .. as what it stands for. -/
def RA (w : World) (q : Nat) (s : Ar) (G : Nat → Prop) : Prop := ∃ A c B d, RX w q A s.has.length c B s.freed.length d s.serial s.at_ (fun k => s.freed.getD k 0) G
theorem RA.keep {w w' : World} {q : Nat} {s : Ar} {G R : Nat → Prop} (h : RA w q s G) (hk : Kept R w w') (hd : ∀ k, G k → ¬ R k) : RA w' q s G := by
  obtain ⟨A, c, B, d, h⟩ := h
  exact ⟨A, c, B, d, h.keep hk hd⟩
theorem RA.old {w : World} {q : Nat} {s : Ar} {G : Nat → Prop} (h : RA w q s G) : ∀ k, G k → k < w.heap.size := by
  obtain ⟨A, c, B, d, h⟩ := h
  exact h.old
theorem Try.infoU : (Try.prog.info? 22).map (fun i => (i.zero, i.size, i.bytes)) = some (some (.int .u64 0), 1, 8) := by kernel_rfl
theorem Try.infoI : (Try.prog.info? 3).map (fun i => (i.zero, i.size, i.bytes)) = some (some (.int .i64 0), 1, 8) := by kernel_rfl
theorem rnew_any (n : Nat) (hn : n ≤ 65536) (w : World) : Calls Try.prog 23 #[.int .i64 (n : Int)] w fun e w' => ∃ q G, e = .returned (.pointer (some ⟨q, 0, none⟩)) ∧ RA w' q (Ar.new n) G ∧ (∀ k, G k → w.heap.size ≤ k) ∧ Below w.heap.size w w' := by
  obtain ⟨i0, hi0, hz0, hz1, hz2⟩ := info_parts Try.infoU
  have hmk : ∀ W : World, ∃ w', (Instr.makeSlice 103 (.int .i64 (n : Int)) (.int .i64 (n : Int))).run Try.prog W = .ok (.slice (some ⟨W.heap.size, 0, none⟩) n n) w' ∧ OwnC w' W.heap.size 22 1 (some ⟨W.heap.size, 0, none⟩) n n (fun _ => .int .u64 0) ∧ W.grownBy w' none := fun W =>
    run_make_vals (P := Try.prog) W W.heap.size 103 22 i0 (.int .u64 0) Try.underlying103 hi0 hz0 hz1 rfl n (by rw [hz2]; omega) (by unfold maxLen; omega) (Nat.le_refl _)
  obtain ⟨u1, hm, ho, hg⟩ := hmk w
  have HO := Lib.hid ho
  have HB : Hid (Below w.heap.size w u1) := Lib.hid ((Below.refl _ _).grown hg (Nat.le_refl _) fun _ h => nomatch h)
  clear ho hg hmk hi0 hz0 hz1 hz2
  have hbd : ∀ (A : Option Addr) (w : World), (Instr.build 105 #[(0, .slice A n n)]).run Try.prog w = .ok (.agg #[.slice A n n, .slice none 0 0, .int .u64 0]) w := fun A w => by kernel_rfl
  go_enter Try.func23, Try.ntmps23
  go_wp2
  go_ret
  have hl : (Ar.new n).has.length = n := List.length_replicate
  have ha : ∀ k, (Ar.new n).at_ k = 0 := fun k => by
    unfold Ar.at_ Ar.new
    rw [List.getElem?_replicate]
    split <;> rfl
  refine ⟨u1.heap.size, fun k => w.heap.size ≤ k ∧ k < u1.heap.size + 1, rfl, ⟨some ⟨w.heap.size, 0, none⟩, n, none, 0, ?_⟩, fun k h => h.1, HB.out.alloc HB.out.size _⟩
  rw [hl]
  refine ⟨heap_alloc_new u1 _, ⟨HB.out.size, Nat.lt_succ_self _⟩, fun k h => by simpa using h.2, ?_, .inl rfl, Nat.le_refl _, by omega, Nat.le_refl _, by omega⟩
  exact (((HO.out.rdg (G := fun k => w.heap.size ≤ k ∧ k < u1.heap.size) fun k h1 h2 => ⟨h1, h2⟩).keep (Kept.of_below (below_alloc u1 _) fun _ => False) fun _ _ q => q).mono fun k h => ⟨⟨h.1, by omega⟩, by omega⟩).same fun k _ => by rw [ha]; rfl
end Go.Proofs.Ytkmakdhlaenaoaa
