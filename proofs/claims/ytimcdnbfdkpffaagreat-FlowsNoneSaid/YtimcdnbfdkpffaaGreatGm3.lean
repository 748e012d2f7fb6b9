import Derived.StillTailTactics
import Derived.Test.YtimcdnbfdkpffaaGreatGm1
import Derived.Test.YtimcdnbfdkpffaaGreatGm2
import Derived.RangeFuncNested
import Derived.RangeFuncBound
import Derived.RangeFuncCalls
import Derived.RangeFuncLeaves
import Derived.Shelf.Abstract
import Derived.Shelf.RegionOpen
import Derived.Test.YtimcdnbfdkpffaaGreatGm0
/- Stage 13: the document's table in memory; May, from, many, Entries, Marks, Get. -/
namespace Go.Proofs.YtimcdnbfdkpffaaGreat
set_option maxRecDepth 100000
open Go.RowKit Go.Shelf
section
variable {w w' : World} {q : Nat} {AF AM AE : Option Addr} {cF cM cE : Nat} {s : Tb} {G : Nat → Prop}
end
def mayI (p : Int) : Bool := decide (p = 8) || decide (p = 16) || decide (p = 32) || decide (p = 64) || decide (p = 128) || decide (p = 256) || decide (p = 512) || decide (p = 1024) || decide (p = 2048) || decide (p = 4096) || decide (p = 8192) || decide (p = 16384) || decide (p = 32768) || decide (p = 65536) || decide (p = 131072) || decide (p = 262144)
theorem mayI_pos {p : Int} (h : mayI p = true) : ∃ n : Nat, p = (n : Int) ∧ 8 ≤ n ∧ n ≤ 262144 := by
  unfold mayI at h
  simp only [Bool.or_eq_true, decide_eq_true_eq] at h
  exact ⟨p.toNat, by omega, by omega, by omega⟩
def powJ : Nat → Nat
  | 0 => 8
  | j + 1 => 2 * powJ j
theorem powJ_all {j : Nat} (hj : j ≤ 15) : 8 ≤ powJ j ∧ powJ j ≤ 262144 ∧ (powJ j = 262144 ↔ j = 15) ∧ mayI (powJ j : Int) = true := by
  match j, hj with
  | 0, _ => decide
  | 1, _ => decide
  | 2, _ => decide
  | 3, _ => decide
  | 4, _ => decide
  | 5, _ => decide
  | 6, _ => decide
  | 7, _ => decide
  | 8, _ => decide
  | 9, _ => decide
  | 10, _ => decide
  | 11, _ => decide
  | 12, _ => decide
  | 13, _ => decide
  | 14, _ => decide
  | 15, _ => decide
  | j + 16, h => exact absurd h (by omega)
theorem mayI_pow {p : Int} (h : mayI p = true) : ∃ j, j ≤ 15 ∧ p = (powJ j : Int) := by
  unfold mayI at h
  simp only [Bool.or_eq_true, decide_eq_true_eq] at h
  rcases h with (((((((((((((((h | h) | h) | h) | h) | h) | h) | h) | h) | h) | h) | h) | h) | h) | h) | h)
  · exact ⟨0, by omega, h⟩
  · exact ⟨1, by omega, h⟩
  · exact ⟨2, by omega, h⟩
  · exact ⟨3, by omega, h⟩
  · exact ⟨4, by omega, h⟩
  · exact ⟨5, by omega, h⟩
  · exact ⟨6, by omega, h⟩
  · exact ⟨7, by omega, h⟩
  · exact ⟨8, by omega, h⟩
  · exact ⟨9, by omega, h⟩
  · exact ⟨10, by omega, h⟩
  · exact ⟨11, by omega, h⟩
  · exact ⟨12, by omega, h⟩
  · exact ⟨13, by omega, h⟩
  · exact ⟨14, by omega, h⟩
  · exact ⟨15, by omega, h⟩
theorem powJ_mono : ∀ {i j : Nat}, i ≤ j → powJ i ≤ powJ j
  | i, 0, h => by
    obtain rfl : i = 0 := by omega
    exact Nat.le_refl _
  | i, j + 1, h => by
    rcases (show i ≤ j ∨ i = j + 1 by omega) with q | rfl
    · have := powJ_mono q
      show powJ i ≤ 2 * powJ j
      omega
    · exact Nat.le_refl _
section
variable {w w' : World} {q : Nat} {AF AM AE : Option Addr} {cF cM cE : Nat} {s : Tb} {G : Nat → Prop}
end
end Go.Proofs.YtimcdnbfdkpffaaGreat
/- Objects with a footprint, whatever they stand for: one, or two side by side, beside blocks that are looked after; over any program. -/
namespace Go.Proofs.YtimcdnbfdkpffaaGreat
set_option maxRecDepth 100000
open Go.RowKit Go.Shelf
/-- What an object's words must know: it stays as long as its blocks do, and its blocks are there. -/
structure FootG {σ : Type} (PA : World → Nat → σ → (Nat → Prop) → Prop) : Prop where
  keep : ∀ {w w' : World} {p : Nat} {s : σ} {F R : Nat → Prop}, PA w p s F → Kept R w w' → (∀ k, F k → ¬ R k) → PA w' p s F
  old : ∀ {w : World} {p : Nat} {s : σ} {F : Nat → Prop}, PA w p s F → ∀ k, F k → k < w.heap.size
/-- A footprint that has grown by new blocks alone; nothing old was turned but it. -/
structure ExtG (F F' : Nat → Prop) (w w' : World) : Prop where
  sub : ∀ k, F' k → F k ∨ w.heap.size ≤ k ∧ k < w'.heap.size
  kept : Kept F w w'
theorem ExtG.of_below {F : Nat → Prop} {w w' : World} (h : Below w.heap.size w w') : ExtG F F w w' := ⟨fun _ h => .inl h, Kept.of_below h _⟩
theorem ExtG.refl (F : Nat → Prop) (w : World) : ExtG F F w w := .of_below (Below.refl _ _)
theorem ExtG.trans {F F' F'' : Nat → Prop} {a b c : World} (h : ExtG F F' a b) (k : ExtG F' F'' b c) : ExtG F F'' a c := by
  refine ⟨fun j hj => ?_, h.kept.trans k.kept fun j hj hF => ?_⟩
  · have h1 := h.kept.size
    have h2 := k.kept.size
    rcases k.sub j hj with q | q
    · rcases h.sub j q with r | r
      · exact .inl r
      · exact .inr ⟨r.1, by omega⟩
    · exact .inr ⟨by omega, q.2⟩
  · rcases h.sub j hF with r | r
    · exact r
    · omega
section
variable {σ τ : Type} {PA : World → Nat → σ → (Nat → Prop) → Prop} {QA : World → Nat → τ → (Nat → Prop) → Prop} {w W : World} {X : Nat → Prop} {p q : Nat} {s : σ} {t : τ}
/-- At p stands s, in blocks of the call's own (from w on), none of X. -/
def StG (PA : World → Nat → σ → (Nat → Prop) → Prop) (w : World) (X : Nat → Prop) (W : World) (p : Nat) (s : σ) : Prop :=
  ∃ F, PA W p s F ∧ (∀ k, F k → w.heap.size ≤ k ∧ ¬ X k) ∧ (∀ k, X k → k < W.heap.size) ∧ Below w.heap.size w W
theorem StG.below (h : StG PA w X W p s) : Below w.heap.size w W := by
  obtain ⟨_, _, _, _, h⟩ := h
  exact h
theorem StG.xold (h : StG PA w X W p s) : ∀ k, X k → k < W.heap.size := by
  obtain ⟨_, _, _, h, _⟩ := h
  exact h
theorem StG.start (h : ∃ F, PA W p s F ∧ ∀ k, F k → w.heap.size ≤ k) (hb : Below w.heap.size w W) : StG PA w (fun _ => False) W p s := by
  obtain ⟨F, hF, h1⟩ := h
  exact ⟨F, hF, fun k f => ⟨h1 k f, fun e => e⟩, fun _ e => e.elim, hb⟩
theorem StG.ext {F F' : Nat → Prop} {w' : World} {s' : σ} (h : ∀ k, F k → w.heap.size ≤ k ∧ ¬ X k) (hX : ∀ k, X k → k < W.heap.size) (hb : Below w.heap.size w W) (hp : PA w' p s' F') (he : ExtG F F' W w') : StG PA w X w' p s' ∧ ∀ k, X k → w'.heap[k]? = W.heap[k]? := by
  refine ⟨⟨F', hp, fun k hk => ?_, fun k hk => Nat.lt_of_lt_of_le (hX k hk) he.kept.size, hb.trans (he.kept.below hb.size fun k hk => (h k hk).1)⟩, fun k hk => he.kept.block k (hX k hk) fun hf => (h k hf).2 hk⟩
  rcases he.sub k hk with q | ⟨q, _⟩
  · exact h k q
  · exact ⟨Nat.le_trans hb.size q, fun hx => absurd (hX k hx) (by omega)⟩
/-- A call on it. -/
theorem StG.call {P : Program} {fn : FuncId} {args : Array Value} {K : Ending → Prop} {s' : σ} (h : StG PA w X W p s) (hc : ∀ F, PA W p s F → Calls P fn args W fun e w' => K e ∧ ∃ F', PA w' p s' F' ∧ ExtG F F' W w') :
    Calls P fn args W fun e w' => K e ∧ StG PA w X w' p s' ∧ ∀ k, X k → w'.heap[k]? = W.heap[k]? := by
  obtain ⟨F, hF, h1, h2, h3⟩ := h
  refine (hc F hF).mono ?_
  rintro e w' ⟨he, F', hp, hx⟩
  exact ⟨he, StG.ext h1 h2 h3 hp hx⟩
theorem StG.step (h : StG PA w X W p s) (HC : FootG PA) {w' : World} (hb : Below W.heap.size W w') : StG PA w X w' p s := by
  obtain ⟨F, hF, h1, h3, h4⟩ := h
  exact ⟨F, HC.keep hF (Kept.of_below hb fun _ => False) (fun _ _ q => q), h1, fun k hk => Nat.lt_of_lt_of_le (h3 k hk) hb.size, h4.trans (hb.mono h4.size)⟩
/-- What turns blocks of X alone. -/
theorem StG.turn (h : StG PA w X W p s) (HC : FootG PA) {w' : World} {R : Nat → Prop} (hk : Kept R W w') (hR : ∀ k, R k → X k ∧ w.heap.size ≤ k) : StG PA w X w' p s := by
  obtain ⟨F, hF, h1, h3, h4⟩ := h
  exact ⟨F, HC.keep hF hk (fun k f r => (h1 k f).2 (hR k r).1), h1, fun k hk' => Nat.lt_of_lt_of_le (h3 k hk') hk.size, h4.trans (hk.below h4.size fun k r => (hR k r).2)⟩
/-- More blocks are looked after: old ones that are none of its own. -/
theorem StG.box (h : StG PA w X W p s) (HC : FootG PA) (o : Obj) : StG PA w (fun k => X k ∨ k = W.heap.size) (W.alloc o) p s := by
  obtain ⟨F, hF, h1, h2, h3⟩ := h
  have hz : (W.alloc o).heap.size = W.heap.size + 1 := by simp
  refine ⟨F, HC.keep hF (Kept.of_below (below_alloc W o) fun _ => False) (fun _ _ q => q), fun k hk => ⟨(h1 k hk).1, ?_⟩, fun k hk => ?_, h3.alloc h3.size o⟩
  · rintro (q | q)
    · exact (h1 k hk).2 q
    · have := HC.old hF k hk
      omega
  · rcases hk with q | q
    · have := h2 k q
      omega
    · omega
theorem StG.less (h : StG PA w X W p s) {Y : Nat → Prop} (hY : ∀ k, Y k → X k) : StG PA w Y W p s := by
  obtain ⟨F, hF, h1, h2, h3⟩ := h
  exact ⟨F, hF, fun k hk => ⟨(h1 k hk).1, fun y => (h1 k hk).2 (hY k y)⟩, fun k hk => h2 k (hY k hk), h3⟩
end
end Go.Proofs.YtimcdnbfdkpffaaGreat
/- Stage 13: what is asked of the program's table (also by the layers above). -/
namespace Go.Proofs.YtimcdnbfdkpffaaGreat
set_option maxRecDepth 100000
open Go.RowKit Go.Shelf
/-- A function that is handed in and asked about numbers: what it answers, what it turns (R), what is known as it is asked (J of the numbers asked so far, of T), whatever is laid from b0 on. -/
structure AsksG (fid : FuncId) (cap : Array Value) (ans : Nat → Bool) (R : Nat → Prop) (b0 : Nat) (T : List Nat) (J : List Nat → World → Prop) : Prop where
  eg : ∀ args w, (callFunc fid args).run Tryz.prog w = .ok (.enter fid args) w
  stay : ∀ l W W', J l W → Kept (fun k => b0 ≤ k) W W' → J l W'
  call : ∀ l (x : Nat) W, J l W → x < 4294967296 → l ++ [x] <+: T → b0 ≤ W.heap.size → Calls Tryz.prog fid (#[.int .u32 (x : Int)] ++ cap) W fun e W' => e = .returned (.bool (ans x)) ∧ J (l ++ [x]) W' ∧ Kept R W W'
/-- The numbers that are asked, up to the first one of which it is said. -/
def askL (ans : Nat → Bool) : List Nat → List Nat
  | [] => []
  | x :: r => if ans x then [x] else x :: askL ans r
namespace Tb
def fn (s : Tb) (h : Nat) (ans : Nat → Bool) : Option Nat := (s.way h).find? (fun k => ans (s.ew k))
def fnV (s : Tb) (h : Nat) (ans : Nat → Bool) : Array Value := match s.fn h ans with
  | none => #[.int .i64 0, .bool false]
  | some k => #[.int .i64 (k : Int), .bool true]
def fnL (s : Tb) (h : Nat) (ans : Nat → Bool) : List Nat := askL ans ((s.way h).map s.ew)
theorem fnV_find (s : Tb) (h x : Nat) : s.fnV h (fun y => y == x) = s.fdV h x := rfl
end Tb
/-- What the laws ask of the program's table: PT w p s F: at p stands what is s, in the blocks of F; g tells what All tells. -/
structure TabP (PT : World → Nat → Tb → (Nat → Prop) → Prop) (g : Nat) : Prop where
  foot : FootG PT
  new_no : ∀ (n : Int) (w : World), mayI n = false → Calls Tryz.prog 64 #[.int .i64 n] w (ret (.tuple #[.pointer none, .int .i64 2]) w)
  new : ∀ (n : Nat) (w : World), mayI (n : Int) = true → Calls Tryz.prog 64 #[.int .i64 (n : Int)] w fun e w' => ∃ p F, e = .returned (.tuple #[.pointer (some ⟨p, 0, none⟩), .int .i64 0]) ∧ PT w' p (Tb.new n) F ∧ (∀ k, F k → w.heap.size ≤ k) ∧ Below w.heap.size w w'
  put : ∀ {w : World} {p : Nat} {s : Tb} {F : Nat → Prop}, PT w p s F → s.Ok → ∀ h x : Nat, h < 18446744073709551616 → x < 4294967296 → Calls Tryz.prog 101 #[.pointer (some ⟨p, 0, none⟩), .agg #[.int .u64 (h : Int), .int .u32 (x : Int)]] w fun e w' => e = .returned (.tuple #[.int .i64 (s.ptI h : Int), .int .i64 (s.ptE h)]) ∧ ∃ F', PT w' p (s.pt h x) F' ∧ ExtG F F' w w'
  drop : ∀ {w : World} {p : Nat} {s : Tb} {F : Nat → Prop}, PT w p s F → s.Ok → ∀ q : Int, Calls Tryz.prog 102 #[.pointer (some ⟨p, 0, none⟩), .int .i64 q] w fun e w' => e = .returned (.int .i64 (s.drE q)) ∧ ∃ F', PT w' p (s.dr q) F' ∧ ExtG F F' w w'
  find : ∀ {w : World} {p : Nat} {s : Tb} {F R : Nat → Prop}, PT w p s F → s.Ok → ∀ h : Nat, h < 18446744073709551616 → ∀ (fid : FuncId) (cap : Array Value) (ans : Nat → Bool) (J : List Nat → World → Prop), AsksG fid cap ans R w.heap.size ((s.way h).map s.ew) J → (∀ k, R k → k < w.heap.size ∧ ¬ F k) → J [] w →
    Calls Tryz.prog 166 #[.pointer (some ⟨p, 0, none⟩), .int .u64 (h : Int), .func (.func fid) #[] cap] w fun e w' => e = .returned (.tuple (s.fnV h ans)) ∧ J (s.fnL h ans) w' ∧ Kept R w w'
  get : ∀ {w : World} {p : Nat} {s : Tb} {F : Nat → Prop}, PT w p s F → s.Ok → ∀ q : Int, Calls Tryz.prog 100 #[.pointer (some ⟨p, 0, none⟩), .int .i64 q] w (ret (.tuple #[.agg (s.gtV q), .bool (s.isF q)]) w)
  places : ∀ {w : World} {p : Nat} {s : Tb} {F : Nat → Prop}, PT w p s F → s.Ok → Calls Tryz.prog 103 #[.pointer (some ⟨p, 0, none⟩)] w (ret (.int .i64 (s.n : Int)) w)
  entries : ∀ {w : World} {p : Nat} {s : Tb} {F : Nat → Prop}, PT w p s F → s.Ok → Calls Tryz.prog 175 #[.pointer (some ⟨p, 0, none⟩)] w (ret (.int .i64 (s.entries : Int)) w)
  marks : ∀ {w : World} {p : Nat} {s : Tb} {F : Nat → Prop}, PT w p s F → s.Ok → Calls Tryz.prog 176 #[.pointer (some ⟨p, 0, none⟩)] w (ret (.int .i64 (s.marks : Int)) w)
  copy : ∀ {w : World} {p : Nat} {s : Tb} {F : Nat → Prop}, PT w p s F → s.Ok → Calls Tryz.prog 85 #[.pointer (some ⟨p, 0, none⟩)] w fun e w' => ∃ b F', e = .returned (.pointer (some ⟨b, 0, none⟩)) ∧ PT w' b s F' ∧ (∀ k, F' k → w.heap.size ≤ k) ∧ Below w.heap.size w w'
end Go.Proofs.YtimcdnbfdkpffaaGreat
/- A range over a function whose body is told what comes: the list that is told is known, and each round is at its place in it; what a loop's variable is laid in; over any program. -/
namespace Go.Proofs.YtimcdnbfdkpffaaGreat
open Go.RowKit
/-- An iterator that tells T, one by one, as far as it is asked: a round that goes on keeps what Kp says; one that doesn't may do whatever. -/
def SeqP {α : Type} (F : Fence) (n : Nat) (P : Program) (g : Nat) (lb : Array Value) (encs : α → Array Value) (Kp : World → World → Prop) (T : List α) (w : World) : Prop :=
  ∀ (l : Nat) (J Jx : List α → World → Prop) (W : World), Below w.heap.size w W → AbidesFrom W.heap.size J → AbidesFrom W.heap.size Jx →
    (∀ pre x W1, J pre W1 → pre ++ [x] <+: T → YieldAt F (n - 1) P l (encs x) W1 fun e W' =>
      (e = .returned (.bool true) ∧ J (pre ++ [x]) W' ∧ Kp W1 W') ∨ (e = .returned (.bool false) ∧ Jx (pre ++ [x]) W')) →
    J [] W →
    CallsIn F n P g (#[.func (.yield l) #[] #[]] ++ lb) W fun e W' => (∃ v, e = .returned v) ∧ (J T W' ∨ ∃ pre, pre <+: T ∧ Jx pre W')
theorem wpIn_rangeFunc_P {F : Fence} {n : Nat} {P : Program} {α : Type} {g : Operand} {ps : Array Tmp} {assign body : Code} {Q : Exit → Act → World → Prop} {a : Act} {w : World}
    (hro : F.round = none) (h1 : 1 ≤ n) {gf : Nat} {lb : Array Value} (hg : a.eval g = .func (.func gf) #[] lb) (hFg : F.fn gf) (eg : ∀ args w, (callFunc gf args).run P w = .ok (.enter gf args) w)
    {encs : α → Array Value} {Kp : World → World → Prop} {T : List α} {w0 : World} (hseq : SeqP F (n - 1) P gf lb encs Kp T w0) (hb0 : Below w0.heap.size w0 w) (hps : ∀ x, (encs x).size = ps.size)
    (hKt : ∀ {A B C : World}, Kp A B → Kp B C → Kp A C) (hKb : ∀ (W : World) (l : Nat) (o o' : Obj), w.heap.size ≤ l → W.heap[l]? = some o → o.isCells = false → o.isWalk = false → Kp W (W.putObj l o'))
    (I : List α → World → Prop) (Ix : Code → List α → World → Prop) (hI : OwnFrom w.heap.size I) (hIx : ∀ c, OwnFrom w.heap.size (Ix c)) (h0 : I [] w)
    (Ax : List α → α → Act → World → Prop) (hAx : ∀ pre x a', OwnFrom w.heap.size (fun (_ : Unit) W => Ax pre x a' W))
    (hassign : ∀ (l : Nat) (pre : List α) (x : α) (W : World), I pre W → pre ++ [x] <+: T →
      assign.wpIn (F.inRound l) (n - 1 - 1) P (Exit.then (fun a' W' => KeepsFrom w.heap.size W W' ∧ Kp W W' ∧ Ax pre x a' W') (fun _ _ _ => False)) { tmps := (ps.zip (encs x)).foldl (fun t (p, v) => t.setIfInBounds p v) a.tmps, defers := [] } W)
    (hbody : ∀ (l : Nat) (pre : List α) (x : α) (a' : Act) (W : World), pre ++ [x] <+: T → Ax pre x a' W → body.wpIn (F.inRound l) (n - 1 - 1) P (ownPostG w.heap.size Kp I Ix (pre ++ [x]) W) a' W)
    (hdone : ∀ (D : Nat) (W : World), w.heap.size ≤ D → I T W → W.heap[D]? = some (.deferred (some [])) → Q .normal { a with defers := { target := .collected D, args := #[] } :: a.defers } W)
    (hstop : ∀ (D : Nat) (c : Code) (pre : List α) (W : World), w.heap.size ≤ D → pre <+: T → Ix c pre W → W.heap[D]? = some (.deferred (some [])) → c.wpIn F n P Q { a with defers := { target := .collected D, args := #[] } :: a.defers } W) :
    (Code.rangeFunc g ps assign body).wpIn F n P Q a w := by
  refine wpIn_rangeFunc ?_
  intro fn hfn
  rw [hro]
  obtain ⟨rec, hrec⟩ : ∃ rec : LoopState → Option Code → Loop, rec = fun st pe => { state := st, pending := pe, fn, tmps := a.tmps, params := ps, assign, body, defers := w.heap.size } := ⟨_, rfl⟩
  obtain ⟨d, hd⟩ : ∃ d, d = w.heap.size := ⟨_, rfl⟩
  obtain ⟨r, hr⟩ : ∃ r, r = w.heap.size + 1 := ⟨_, rfl⟩
  have hdr : d ≠ r := by omega
  -- what the law itself keeps by it
  obtain ⟨BK, hBK⟩ : ∃ BK : LoopState → Option Code → World → Prop, BK = fun st pe W => W.heap[r]? = some (.loop (rec st pe)) ∧ W.heap[d]? = some (.deferred (some [])) := ⟨_, rfl⟩
  have bkG : ∀ {st : LoopState} {pe : Option Code} {A B : World}, KeepsFrom w.heap.size A B → BK st pe A → BK st pe B := fun hk h => by
    rw [hBK] at h ⊢
    exact ⟨hk.same _ _ (by omega) h.1 rfl, hk.same _ _ (by omega) h.2 rfl⟩
  have bkA : ∀ {st : LoopState} {pe : Option Code} {A B : World} {row : Option Nat}, A.grownBy B row → (∀ k, row = some k → ∃ o : Obj, A.heap[k]? = some o ∧ o.isWalk = true) → BK st pe A → BK st pe B := fun hg hw h => by
    rw [hBK] at h ⊢
    exact ⟨(grownBy_keeps hg hw h.1 rfl).trans h.1, (grownBy_keeps hg hw h.2 rfl).trans h.2⟩
  have bkP : ∀ {st : LoopState} {pe : Option Code} {st' : LoopState} {pe' : Option Code} {A : World}, BK st pe A → BK st' pe' (A.putObj r (.loop (rec st' pe'))) := fun h => by
    rw [hBK] at h ⊢
    exact ⟨World.putObj_heap_same (Array.getElem?_eq_some_iff.1 h.1).1, (World.putObj_heap_other hdr).trans h.2⟩
  have bkR : ∀ {st : LoopState} {pe : Option Code} {A : World}, BK st pe A → A.heap[r]? = some (.loop (rec st pe)) := fun h => by
    rw [hBK] at h
    exact h.1
  have bkD : ∀ {st : LoopState} {pe : Option Code} {A : World}, BK st pe A → A.heap[d]? = some (.deferred (some [])) := fun h => by
    rw [hBK] at h
    exact h.2
  obtain ⟨W1, hW1⟩ : ∃ W1, (w.alloc (.deferred (some []))).alloc (.loop (rec .ready none)) = W1 := ⟨_, rfl⟩
  have hB1 : BK .ready none W1 := by
    rw [hBK, ← hW1, hr, hd]
    refine ⟨?_, (Below.heap_alloc _ _ _ (by simp)).trans (World.alloc_heap_new w _)⟩
    have := World.alloc_heap_new (w.alloc (.deferred (some []))) (.loop (rec .ready none))
    rwa [World.size_alloc] at this
  have hI1 : I [] W1 := by
    rw [← hW1]
    exact hI.alloc _ (hI.alloc _ h0)
  have hb1 : Below w0.heap.size w0 W1 := by
    rw [← hW1]
    exact hb0.trans ((((Below.refl _ w).alloc (Nat.le_refl _) _).alloc (by simp) _).mono hb0.size)
  have hs1 : w.heap.size ≤ W1.heap.size := by
    rw [← hW1]
    simp
    omega
  refine ⟨w.heap.size + 1, [{ target := .collected w.heap.size, args := #[] }], W1, { target := .fn (.func gf) lb, args := #[.func (.yield (w.heap.size + 1)) #[] #[]] }, W1, gf,
    #[.func (.yield (w.heap.size + 1)) #[] #[]] ++ lb, W1, ?_, ?_, ?_, ?_, fun _ => h1, ?_⟩
  · rw [← hW1, hrec]
    exact run_enterLoop_outer _ _ _ _ _
  · simp only [resolve, hg]
    simp [go_sem]
  · intro f' hf'
    simp [Target.leads] at hf'
    subst hf'
    exact hFg
  · simp [invoke, go_sem, eg]
  rw [← hr]
  refine (hseq r (fun pre W => I pre W ∧ BK .ready none W) (fun pre W => ∃ c, Ix c pre W ∧ BK .done (some c) W) W1 hb1 ?_ ?_ ?_ ⟨hI1, hB1⟩).mono ?_
  · rintro s A B row ⟨hs, hk⟩ hg' hw
    have hw' : ∀ k, row = some k → ∃ o : Obj, A.heap[k]? = some o ∧ o.isWalk = true := fun k e => (hw k e).2
    exact ⟨hI s A B row hs hg' fun k e => by obtain ⟨h, o, ho, hw⟩ := hw k e; exact ⟨Nat.le_trans hs1 h, o, ho, Obj.not_cells_of_walk hw⟩, bkA hg' hw' hk⟩
  · rintro s A B row ⟨c, hs, hk⟩ hg' hw
    have hw' : ∀ k, row = some k → ∃ o : Obj, A.heap[k]? = some o ∧ o.isWalk = true := fun k e => (hw k e).2
    exact ⟨c, hIx c s A B row hs hg' fun k e => by obtain ⟨h, o, ho, hw⟩ := hw k e; exact ⟨Nat.le_trans hs1 h, o, ho, Obj.not_cells_of_walk hw⟩, bkA hg' hw' hk⟩
  · rintro pre x W ⟨hi, hk⟩ hx
    have hy := run_yield (P := P) (args := encs x) (bkR hk) (by rw [hrec]; exact hps x)
    rw [hrec] at hy
    refine ⟨fn, _, assign, body, hy, roundIn_of_wpIn hfn (wpIn_mono (hassign r pre x W hi hx) ?_)⟩
    clear hy
    rintro e a' Wa he
    cases e with
    | normal =>
      obtain ⟨hkf, hkp, hax⟩ := he
      have hka := bkG hkf hk
      have hbr := run_beginRound (P := P) (bkR hka) (by rw [hrec])
      refine ⟨_, hbr, ?_⟩
      have ebusy : ({ rec .ready none with state := .busy } : Loop) = rec .busy none := by rw [hrec]
      rw [ebusy]
      have hkb := bkP (st' := .busy) (pe' := none) hka
      have hkp2 : Kp W (Wa.putObj r (.loop (rec .busy none))) := hKt hkp (hKb _ _ _ _ (by omega) (bkR hka) rfl rfl)
      refine wpIn_mono (hbody r pre x a' _ hx ((hAx pre x a').putObj (s := ()) _ hax (by omega) (bkR hka) rfl)) ?_
      have fin : ∀ (jump : Option Code) (W3 : World), KeepsFrom w.heap.size (Wa.putObj r (.loop (rec .busy none))) W3 →
          (Instr.endRound r jump).run P W3 = .ok (.bool jump.isNone) (W3.putObj r (.loop (rec (if jump.isNone then .ready else .done) jump))) ∧ BK .busy none W3 ∧ BK (if jump.isNone then .ready else .done) jump (W3.putObj r (.loop (rec (if jump.isNone then .ready else .done) jump))) := fun jump W3 h3 => by
        have hk3 := bkG h3 hkb
        have h := run_endRound (P := P) jump (r := rec .busy none) (bkR hk3)
        refine ⟨?_, hk3, bkP hk3⟩
        rw [hrec] at h ⊢
        exact h
      rintro e a3 W3 hp
      cases e with
      | normal =>
        obtain ⟨h3, hp3, hi3⟩ := hp
        obtain ⟨he, hk3, hk4⟩ := fin none W3 h3
        exact ⟨_, _, he, .inl ⟨rfl, ⟨hI.putObj _ hi3 (by omega) (bkR hk3) rfl, hk4⟩, hKt (hKt hkp2 hp3) (hKb _ _ _ _ (by omega) (bkR hk3) rfl rfl)⟩⟩
      | ret =>
        obtain ⟨h3, hi3⟩ := hp
        obtain ⟨he, hk3, hk4⟩ := fin (some .ret) W3 h3
        exact ⟨_, _, he, .inr ⟨rfl, .ret, (hIx _).putObj _ hi3 (by omega) (bkR hk3) rfl, hk4⟩⟩
      | exit id =>
        obtain ⟨h3, hi3⟩ := hp
        obtain ⟨he, hk3, hk4⟩ := fin (some (.exit id)) W3 h3
        exact ⟨_, _, he, .inr ⟨rfl, .exit id, (hIx _).putObj _ hi3 (by omega) (bkR hk3) rfl, hk4⟩⟩
      | goto t =>
        obtain ⟨h3, hi3⟩ := hp
        obtain ⟨he, hk3, hk4⟩ := fin (some (.goto t)) W3 h3
        exact ⟨_, _, he, .inr ⟨rfl, .goto t, (hIx _).putObj _ hi3 (by omega) (bkR hk3) rfl, hk4⟩⟩
      | panic ch => exact hp.elim
      | outgrown => exact hp.elim
    | ret => exact he.elim
    | exit id => exact he.elim
    | goto t => exact he.elim
    | panic ch => exact he.elim
    | outgrown => exact he.elim
  · rintro e W2 ⟨⟨v, rfl⟩, h⟩
    subst hd
    rcases h with ⟨hi, hk⟩ | ⟨pre, hpre, c, hi, hk⟩
    · have h := run_endLoop (P := P) (bkR hk) (by rw [hrec]; simp)
      have q := hdone w.heap.size _ (Nat.le_refl _) (hI.putObj (Obj.loop { rec .ready none with state := .exhausted }) hi (by omega) (bkR hk) rfl) ((World.putObj_heap_other hdr).trans (bkD hk))
      exact ⟨none, _, by rw [hrec] at h ⊢; exact h, q⟩
    · have h := run_endLoop (P := P) (bkR hk) (by rw [hrec]; simp)
      have q := hstop w.heap.size c pre _ (Nat.le_refl _) hpre ((hIx c).putObj (Obj.loop { rec .done (some c) with state := .exhausted }) hi (by omega) (bkR hk) rfl) ((World.putObj_heap_other hdr).trans (bkD hk))
      exact ⟨some c, _, by rw [hrec] at h ⊢; exact h, q⟩
theorem lt_heap' {w : World} {k : Nat} {o : Obj} (h : w.heap[k]? = some o) : k < w.heap.size := (Array.getElem?_eq_some_iff.1 h).1
/-- Cells lie as they lay, but for those of R. -/
def KeptC (R : Nat → Prop) (w w' : World) : Prop := w.heap.size ≤ w'.heap.size ∧ ∀ k cs t fr, w.heap[k]? = some (.cells cs t fr) → ¬ R k → w'.heap[k]? = some (.cells cs t fr)
theorem KeptC.refl (R : Nat → Prop) (w : World) : KeptC R w w := ⟨Nat.le_refl _, fun _ _ _ _ h _ => h⟩
theorem KeptC.of_kept {R : Nat → Prop} {w w' : World} (h : Kept R w w') : KeptC R w w' := ⟨h.size, fun k _ _ _ hk hR => (h.block k (lt_heap hk) hR).trans hk⟩
theorem KeptC.of_below {w w' : World} (h : Below w.heap.size w w') (R : Nat → Prop) : KeptC R w w' := .of_kept (Kept.of_below h R)
theorem keptC_t {R : Nat → Prop} {A B C : World} (h : KeptC R A B) (k : KeptC R B C) : KeptC R A C := ⟨Nat.le_trans h.1 k.1, fun j cs t fr hj hR => k.2 j cs t fr (h.2 j cs t fr hj hR) hR⟩
theorem keptC_b {R : Nat → Prop} {n : Nat} (W : World) (l : Nat) (o o' : Obj) (_ : n ≤ l) (hl : W.heap[l]? = some o) (ho : o.isCells = false) (_ : o.isWalk = false) : KeptC R W (W.putObj l o') :=
  ⟨by simp [World.putObj], fun k cs t fr hk _ => (World.putObj_heap_other (fun e => by
    subst e
    rw [hl] at hk
    injection hk with hk
    subst hk
    cases ho)).trans hk⟩
theorem cells_of_cell {w : World} {a : Addr} {v : Value} (h : w.cell? a = some v) : ∃ cs t fr, w.heap[a.block]? = some (.cells cs t fr) := by
  unfold World.cell? at h
  split at h
  · exact ⟨_, _, _, by assumption⟩
  · cases h
theorem KeptC.same {R : Nat → Prop} {w w' : World} (h : KeptC R w w') {a : Addr} {v : Value} (ha : w.cell? a = some v) (hR : ¬ R a.block) : w'.heap[a.block]? = w.heap[a.block]? := by
  obtain ⟨cs, t, fr, hk⟩ := cells_of_cell ha
  rw [hk]
  exact h.2 _ cs t fr hk hR
theorem KeptC.cell {R : Nat → Prop} {w w' : World} (h : KeptC R w w') {a : Addr} {v : Value} (ha : w.cell? a = some v) (hR : ¬ R a.block) : w'.cell? a = some v := (kept_cell_block (h.same ha hR)).trans ha
theorem keepsFrom_of_kept {R : Nat → Prop} {B : Nat} {W W' : World} (h : Kept R W W') (hR : ∀ k, R k → k < B) : KeepsFrom B W W' :=
  ⟨h.size, fun k _ hB hk _ => (h.block k (lt_heap' hk) fun q => by have := hR k q; omega).trans hk⟩
end Go.Proofs.YtimcdnbfdkpffaaGreat
/- Stage 14: what is asked of the program's growing table. -/
namespace Go.Proofs.YtimcdnbfdkpffaaGreat
set_option maxRecDepth 100000
open Go.RowKit Go.Shelf
namespace Gr
/-- What Find tells: of the table of now, then of the next one. -/
def gn (s : Gr) (h : Nat) (ans : Nat → Bool) : Option Nat := match s.now.fn h ans with
  | some k => some (s.now.ew k)
  | none => if s.mv then (s.next.fn h ans).map s.next.ew else none
def gnV (s : Gr) (h : Nat) (ans : Nat → Bool) : Array Value := match s.gn h ans with
  | none => #[.int .u32 0, .bool false]
  | some x => #[.int .u32 (x : Int), .bool true]
end Gr
def growI (n : Int) : Bool := decide (16 ≤ n) && mayI n
/-- What the laws ask of the program's growing table: PG w p s F: at p stands what is s, in the blocks of F; g tells what All tells. -/
structure GroP (PG : World → Nat → Gr → (Nat → Prop) → Prop) (g : Nat) : Prop where
  foot : FootG PG
  new_no : ∀ (n : Int) (w : World), growI n = false → Calls Tryz.prog 29 #[.int .i64 n] w (ret (.tuple #[.pointer none, .int .i64 2]) w)
  new : ∀ (n : Nat) (w : World), growI (n : Int) = true → Calls Tryz.prog 29 #[.int .i64 (n : Int)] w fun e w' => ∃ p F, e = .returned (.tuple #[.pointer (some ⟨p, 0, none⟩), .int .i64 0]) ∧ PG w' p (Gr.new n) F ∧ (∀ k, F k → w.heap.size ≤ k) ∧ Below w.heap.size w w'
  put : ∀ {w : World} {p : Nat} {s : Gr} {F : Nat → Prop}, PG w p s F → s.Ok → ∀ h x : Nat, h < 18446744073709551616 → x < 4294967296 → Calls Tryz.prog 98 #[.pointer (some ⟨p, 0, none⟩), .agg #[.int .u64 (h : Int), .int .u32 (x : Int)]] w fun e w' => e = .returned (.int .i64 (s.ptE h)) ∧ ∃ F', PG w' p (s.pt h x) F' ∧ ExtG F F' w w'
  drop : ∀ {w : World} {p : Nat} {s : Gr} {F : Nat → Prop}, PG w p s F → s.Ok → ∀ h x : Nat, h < 18446744073709551616 → x < 4294967296 → Calls Tryz.prog 92 #[.pointer (some ⟨p, 0, none⟩), .agg #[.int .u64 (h : Int), .int .u32 (x : Int)]] w fun e w' => e = .returned (.int .i64 (s.drE h x)) ∧ ∃ F', PG w' p (s.dr h x) F' ∧ ExtG F F' w w'
  step : ∀ {w : World} {p : Nat} {s : Gr} {F : Nat → Prop}, PG w p s F → s.Ok → Calls Tryz.prog 56 #[.pointer (some ⟨p, 0, none⟩)] w fun e w' => e = .returned (.bool s.st.mv) ∧ ∃ F', PG w' p s.st F' ∧ ExtG F F' w w'
  find : ∀ {w : World} {p : Nat} {s : Gr} {F : Nat → Prop}, PG w p s F → s.Ok → ∀ h : Nat, h < 18446744073709551616 → ∀ (fid : FuncId) (cap : Array Value) (ans : Nat → Bool) (J : World → Prop), (∀ T, AsksG fid cap ans (fun _ => False) w.heap.size T (fun _ => J)) → J w →
    Calls Tryz.prog 87 #[.pointer (some ⟨p, 0, none⟩), .int .u64 (h : Int), .func (.func fid) #[] cap] w fun e w' => e = .returned (.tuple (s.gnV h ans)) ∧ J w' ∧ Kept (fun _ => False) w w'
  left : ∀ {w : World} {p : Nat} {s : Gr} {F : Nat → Prop}, PG w p s F → s.Ok → Calls Tryz.prog 57 #[.pointer (some ⟨p, 0, none⟩)] w (ret (.int .i64 (s.left : Int)) w)
  copy : ∀ {w : World} {p : Nat} {s : Gr} {F : Nat → Prop}, PG w p s F → s.Ok → Calls Tryz.prog 41 #[.pointer (some ⟨p, 0, none⟩)] w fun e w' => ∃ b F', e = .returned (.pointer (some ⟨b, 0, none⟩)) ∧ PG w' b s F' ∧ (∀ k, F' k → w.heap.size ≤ k) ∧ Below w.heap.size w w'
end Go.Proofs.YtimcdnbfdkpffaaGreat
