/- A range over a function whose body is told what comes: the list that is told is known, and each round is at its place in it; what a loop's variable is laid in; over any program. -/
import Derived.RangeFuncNested
import Derived.RangeFuncBound
import Derived.RangeFuncLeaves
import Derived.Test.YtdeghjhlbhpopaaLaw
import Derived.Test.YtdeghjhlbhpopaaFoot
import Derived.Test.YtdeghjhlbhpopaaQg
namespace Go.Proofs.Ytdeghjhlbhpopaa
open Go.RowKit
/-- An iterator that tells T, one by one, as far as it is asked: a round that goes on keeps what Kp says; one that doesn't may do whatever. -/
def SeqP {α : Type} (F : Fence) (n : Nat) (P : Program) (g : Nat) (lb : Array Value) (encs : α → Array Value) (Kp : World → World → Prop) (T : List α) (w : World) : Prop :=
  ∀ (l : Nat) (J Jx : List α → World → Prop) (W : World), Below w.heap.size w W → AbidesFrom W.heap.size J → AbidesFrom W.heap.size Jx →
    (∀ pre x W1, J pre W1 → pre ++ [x] <+: T → YieldAt F (n - 1) P l (encs x) W1 fun e W' =>
      (e = .returned (.bool true) ∧ J (pre ++ [x]) W' ∧ Kp W1 W') ∨ (e = .returned (.bool false) ∧ Jx (pre ++ [x]) W')) →
    J [] W →
    CallsIn F n P g (#[.func (.yield l) #[] #[]] ++ lb) W fun e W' => (∃ v, e = .returned v) ∧ (J T W' ∨ ∃ pre, pre <+: T ∧ Jx pre W')
theorem wpIn_rangeFunc_P {F : Fence} {n : Nat} {P : Program} {α : Type} {g : Operand} {ps : Array Tmp} {assign body : Code} {Q : Exit → Act → World → Prop} {a : Act} {w : World}
    (hro : F.round = none) (h1 : 1 ≤ n) {gf : Nat} {lb : Array Value} (hg : a.eval g = .func (.func gf) #[] lb) (hFg : F.fn gf) (eg : ∀ args w, (callFunc gf args).run P w = .ok (.enter gf args) w)
    {encs : α → Array Value} {Kp : World → World → Prop} {T : List α} {w0 : World} (hseq : SeqP F (n - 1) P gf lb encs Kp T w0) (hb0 : Below w0.heap.size w0 w) (hps : ∀ x, (encs x).size = ps.size)
    (hKt : ∀ {A B C : World}, Kp A B → Kp B C → Kp A C) (hKb : ∀ (W : World) (l : Nat) (o o' : Obj), w.heap.size ≤ l → W.heap[l]? = some o → o.isCells = false → o.isWalk = false → Kp W (W.putObj l o'))
    (I : List α → World → Prop) (Ix : Code → List α → World → Prop) (hI : OwnFrom w.heap.size I) (hIx : ∀ c, OwnFrom w.heap.size (Ix c)) (h0 : I [] w)
    (Ax : List α → α → Act → World → Prop) (hAx : ∀ pre x a', OwnFrom w.heap.size (fun (_ : Unit) W => Ax pre x a' W))
    (hassign : ∀ (l : Nat) (pre : List α) (x : α) (W : World), I pre W → pre ++ [x] <+: T →
      assign.wpIn (F.inRound l) (n - 1 - 1) P (Exit.then (fun a' W' => KeepsFrom w.heap.size W W' ∧ Kp W W' ∧ Ax pre x a' W') (fun _ _ _ => False)) { tmps := (ps.zip (encs x)).foldl (fun t (p, v) => t.setIfInBounds p v) a.tmps, defers := [] } W)
    (hbody : ∀ (l : Nat) (pre : List α) (x : α) (a' : Act) (W : World), pre ++ [x] <+: T → Ax pre x a' W → body.wpIn (F.inRound l) (n - 1 - 1) P (ownPostG w.heap.size Kp I Ix (pre ++ [x]) W) a' W)
    (hdone : ∀ (D : Nat) (W : World), w.heap.size ≤ D → I T W → W.heap[D]? = some (.deferred (some [])) → Q .normal { a with defers := { target := .collected D, args := #[] } :: a.defers } W)
    (hstop : ∀ (D : Nat) (c : Code) (pre : List α) (W : World), w.heap.size ≤ D → pre <+: T → Ix c pre W → W.heap[D]? = some (.deferred (some [])) → c.wpIn F n P Q { a with defers := { target := .collected D, args := #[] } :: a.defers } W) :
    (Code.rangeFunc g ps assign body).wpIn F n P Q a w := by
  refine wpIn_rangeFunc ?_
  intro fn hfn
  rw [hro]
  obtain ⟨rec, hrec⟩ : ∃ rec : LoopState → Option Code → Loop, rec = fun st pe => { state := st, pending := pe, fn, tmps := a.tmps, params := ps, assign, body, defers := w.heap.size } := ⟨_, rfl⟩
  obtain ⟨d, hd⟩ : ∃ d, d = w.heap.size := ⟨_, rfl⟩
  obtain ⟨r, hr⟩ : ∃ r, r = w.heap.size + 1 := ⟨_, rfl⟩
  have hdr : d ≠ r := by omega
  -- what the law itself keeps by it
  obtain ⟨BK, hBK⟩ : ∃ BK : LoopState → Option Code → World → Prop, BK = fun st pe W => W.heap[r]? = some (.loop (rec st pe)) ∧ W.heap[d]? = some (.deferred (some [])) := ⟨_, rfl⟩
  have bkG : ∀ {st : LoopState} {pe : Option Code} {A B : World}, KeepsFrom w.heap.size A B → BK st pe A → BK st pe B := fun hk h => by
    rw [hBK] at h ⊢
    exact ⟨hk.same _ _ (by omega) h.1 rfl, hk.same _ _ (by omega) h.2 rfl⟩
  have bkA : ∀ {st : LoopState} {pe : Option Code} {A B : World} {row : Option Nat}, A.grownBy B row → (∀ k, row = some k → ∃ o : Obj, A.heap[k]? = some o ∧ o.isWalk = true) → BK st pe A → BK st pe B := fun hg hw h => by
    rw [hBK] at h ⊢
    exact ⟨(grownBy_keeps hg hw h.1 rfl).trans h.1, (grownBy_keeps hg hw h.2 rfl).trans h.2⟩
  have bkP : ∀ {st : LoopState} {pe : Option Code} {st' : LoopState} {pe' : Option Code} {A : World}, BK st pe A → BK st' pe' (A.putObj r (.loop (rec st' pe'))) := fun h => by
    rw [hBK] at h ⊢
    exact ⟨World.putObj_heap_same (Array.getElem?_eq_some_iff.1 h.1).1, (World.putObj_heap_other hdr).trans h.2⟩
  have bkR : ∀ {st : LoopState} {pe : Option Code} {A : World}, BK st pe A → A.heap[r]? = some (.loop (rec st pe)) := fun h => by
    rw [hBK] at h
    exact h.1
  have bkD : ∀ {st : LoopState} {pe : Option Code} {A : World}, BK st pe A → A.heap[d]? = some (.deferred (some [])) := fun h => by
    rw [hBK] at h
    exact h.2
  obtain ⟨W1, hW1⟩ : ∃ W1, (w.alloc (.deferred (some []))).alloc (.loop (rec .ready none)) = W1 := ⟨_, rfl⟩
  have hB1 : BK .ready none W1 := by
    rw [hBK, ← hW1, hr, hd]
    refine ⟨?_, (Below.heap_alloc _ _ _ (by simp)).trans (World.alloc_heap_new w _)⟩
    have := World.alloc_heap_new (w.alloc (.deferred (some []))) (.loop (rec .ready none))
    rwa [World.size_alloc] at this
  have hI1 : I [] W1 := by
    rw [← hW1]
    exact hI.alloc _ (hI.alloc _ h0)
  have hb1 : Below w0.heap.size w0 W1 := by
    rw [← hW1]
    exact hb0.trans ((((Below.refl _ w).alloc (Nat.le_refl _) _).alloc (by simp) _).mono hb0.size)
  have hs1 : w.heap.size ≤ W1.heap.size := by
    rw [← hW1]
    simp
    omega
  refine ⟨w.heap.size + 1, [{ target := .collected w.heap.size, args := #[] }], W1, { target := .fn (.func gf) lb, args := #[.func (.yield (w.heap.size + 1)) #[] #[]] }, W1, gf,
    #[.func (.yield (w.heap.size + 1)) #[] #[]] ++ lb, W1, ?_, ?_, ?_, ?_, fun _ => h1, ?_⟩
  · rw [← hW1, hrec]
    exact run_enterLoop_outer _ _ _ _ _
  · simp only [resolve, hg]
    simp [go_sem]
  · intro f' hf'
    simp [Target.leads] at hf'
    subst hf'
    exact hFg
  · simp [invoke, go_sem, eg]
  rw [← hr]
  refine (hseq r (fun pre W => I pre W ∧ BK .ready none W) (fun pre W => ∃ c, Ix c pre W ∧ BK .done (some c) W) W1 hb1 ?_ ?_ ?_ ⟨hI1, hB1⟩).mono ?_
  · rintro s A B row ⟨hs, hk⟩ hg' hw
    have hw' : ∀ k, row = some k → ∃ o : Obj, A.heap[k]? = some o ∧ o.isWalk = true := fun k e => (hw k e).2
    exact ⟨hI s A B row hs hg' fun k e => by obtain ⟨h, o, ho, hw⟩ := hw k e; exact ⟨Nat.le_trans hs1 h, o, ho, Obj.not_cells_of_walk hw⟩, bkA hg' hw' hk⟩
  · rintro s A B row ⟨c, hs, hk⟩ hg' hw
    have hw' : ∀ k, row = some k → ∃ o : Obj, A.heap[k]? = some o ∧ o.isWalk = true := fun k e => (hw k e).2
    exact ⟨c, hIx c s A B row hs hg' fun k e => by obtain ⟨h, o, ho, hw⟩ := hw k e; exact ⟨Nat.le_trans hs1 h, o, ho, Obj.not_cells_of_walk hw⟩, bkA hg' hw' hk⟩
  · rintro pre x W ⟨hi, hk⟩ hx
    have hy := run_yield (P := P) (args := encs x) (bkR hk) (by rw [hrec]; exact hps x)
    rw [hrec] at hy
    refine ⟨fn, _, assign, body, hy, roundIn_of_wpIn hfn (wpIn_mono (hassign r pre x W hi hx) ?_)⟩
    clear hy
    rintro e a' Wa he
    cases e with
    | normal =>
      obtain ⟨hkf, hkp, hax⟩ := he
      have hka := bkG hkf hk
      have hbr := run_beginRound (P := P) (bkR hka) (by rw [hrec])
      refine ⟨_, hbr, ?_⟩
      have ebusy : ({ rec .ready none with state := .busy } : Loop) = rec .busy none := by rw [hrec]
      rw [ebusy]
      have hkb := bkP (st' := .busy) (pe' := none) hka
      have hkp2 : Kp W (Wa.putObj r (.loop (rec .busy none))) := hKt hkp (hKb _ _ _ _ (by omega) (bkR hka) rfl rfl)
      refine wpIn_mono (hbody r pre x a' _ hx ((hAx pre x a').putObj (s := ()) _ hax (by omega) (bkR hka) rfl)) ?_
      have fin : ∀ (jump : Option Code) (W3 : World), KeepsFrom w.heap.size (Wa.putObj r (.loop (rec .busy none))) W3 →
          (Instr.endRound r jump).run P W3 = .ok (.bool jump.isNone) (W3.putObj r (.loop (rec (if jump.isNone then .ready else .done) jump))) ∧ BK .busy none W3 ∧ BK (if jump.isNone then .ready else .done) jump (W3.putObj r (.loop (rec (if jump.isNone then .ready else .done) jump))) := fun jump W3 h3 => by
        have hk3 := bkG h3 hkb
        have h := run_endRound (P := P) jump (r := rec .busy none) (bkR hk3)
        refine ⟨?_, hk3, bkP hk3⟩
        rw [hrec] at h ⊢
        exact h
      rintro e a3 W3 hp
      cases e with
      | normal =>
        obtain ⟨h3, hp3, hi3⟩ := hp
        obtain ⟨he, hk3, hk4⟩ := fin none W3 h3
        exact ⟨_, _, he, .inl ⟨rfl, ⟨hI.putObj _ hi3 (by omega) (bkR hk3) rfl, hk4⟩, hKt (hKt hkp2 hp3) (hKb _ _ _ _ (by omega) (bkR hk3) rfl rfl)⟩⟩
      | ret =>
        obtain ⟨h3, hi3⟩ := hp
        obtain ⟨he, hk3, hk4⟩ := fin (some .ret) W3 h3
        exact ⟨_, _, he, .inr ⟨rfl, .ret, (hIx _).putObj _ hi3 (by omega) (bkR hk3) rfl, hk4⟩⟩
      | exit id =>
        obtain ⟨h3, hi3⟩ := hp
        obtain ⟨he, hk3, hk4⟩ := fin (some (.exit id)) W3 h3
        exact ⟨_, _, he, .inr ⟨rfl, .exit id, (hIx _).putObj _ hi3 (by omega) (bkR hk3) rfl, hk4⟩⟩
      | goto t =>
        obtain ⟨h3, hi3⟩ := hp
        obtain ⟨he, hk3, hk4⟩ := fin (some (.goto t)) W3 h3
        exact ⟨_, _, he, .inr ⟨rfl, .goto t, (hIx _).putObj _ hi3 (by omega) (bkR hk3) rfl, hk4⟩⟩
      | panic ch => exact hp.elim
      | outgrown => exact hp.elim
    | ret => exact he.elim
    | exit id => exact he.elim
    | goto t => exact he.elim
    | panic ch => exact he.elim
    | outgrown => exact he.elim
  · rintro e W2 ⟨⟨v, rfl⟩, h⟩
    subst hd
    rcases h with ⟨hi, hk⟩ | ⟨pre, hpre, c, hi, hk⟩
    · have h := run_endLoop (P := P) (bkR hk) (by rw [hrec]; simp)
      have q := hdone w.heap.size _ (Nat.le_refl _) (hI.putObj (Obj.loop { rec .ready none with state := .exhausted }) hi (by omega) (bkR hk) rfl) ((World.putObj_heap_other hdr).trans (bkD hk))
      exact ⟨none, _, by rw [hrec] at h ⊢; exact h, q⟩
    · have h := run_endLoop (P := P) (bkR hk) (by rw [hrec]; simp)
      have q := hstop w.heap.size c pre _ (Nat.le_refl _) hpre ((hIx c).putObj (Obj.loop { rec .done (some c) with state := .exhausted }) hi (by omega) (bkR hk) rfl) ((World.putObj_heap_other hdr).trans (bkD hk))
      exact ⟨some c, _, by rw [hrec] at h ⊢; exact h, q⟩
theorem lt_heap' {w : World} {k : Nat} {o : Obj} (h : w.heap[k]? = some o) : k < w.heap.size := (Array.getElem?_eq_some_iff.1 h).1
/-- Cells lie as they lay, but for those of R. -/
def KeptC (R : Nat → Prop) (w w' : World) : Prop := w.heap.size ≤ w'.heap.size ∧ ∀ k cs t fr, w.heap[k]? = some (.cells cs t fr) → ¬ R k → w'.heap[k]? = some (.cells cs t fr)
theorem KeptC.refl (R : Nat → Prop) (w : World) : KeptC R w w := ⟨Nat.le_refl _, fun _ _ _ _ h _ => h⟩
theorem KeptC.of_kept {R : Nat → Prop} {w w' : World} (h : Kept R w w') : KeptC R w w' := ⟨h.size, fun k _ _ _ hk hR => (h.block k (lt_heap hk) hR).trans hk⟩
theorem KeptC.of_below {w w' : World} (h : Below w.heap.size w w') (R : Nat → Prop) : KeptC R w w' := .of_kept (Kept.of_below h R)
theorem keptC_t {R : Nat → Prop} {A B C : World} (h : KeptC R A B) (k : KeptC R B C) : KeptC R A C := ⟨Nat.le_trans h.1 k.1, fun j cs t fr hj hR => k.2 j cs t fr (h.2 j cs t fr hj hR) hR⟩
theorem keptC_b {R : Nat → Prop} {n : Nat} (W : World) (l : Nat) (o o' : Obj) (_ : n ≤ l) (hl : W.heap[l]? = some o) (ho : o.isCells = false) (_ : o.isWalk = false) : KeptC R W (W.putObj l o') :=
  ⟨by simp [World.putObj], fun k cs t fr hk _ => (World.putObj_heap_other (fun e => by
    subst e
    rw [hl] at hk
    injection hk with hk
    subst hk
    cases ho)).trans hk⟩
theorem cells_of_cell {w : World} {a : Addr} {v : Value} (h : w.cell? a = some v) : ∃ cs t fr, w.heap[a.block]? = some (.cells cs t fr) := by
  unfold World.cell? at h
  split at h
  · exact ⟨_, _, _, by assumption⟩
  · cases h
theorem KeptC.same {R : Nat → Prop} {w w' : World} (h : KeptC R w w') {a : Addr} {v : Value} (ha : w.cell? a = some v) (hR : ¬ R a.block) : w'.heap[a.block]? = w.heap[a.block]? := by
  obtain ⟨cs, t, fr, hk⟩ := cells_of_cell ha
  rw [hk]
  exact h.2 _ cs t fr hk hR
theorem KeptC.cell {R : Nat → Prop} {w w' : World} (h : KeptC R w w') {a : Addr} {v : Value} (ha : w.cell? a = some v) (hR : ¬ R a.block) : w'.cell? a = some v := (kept_cell_block (h.same ha hR)).trans ha
theorem keepsFrom_of_kept {R : Nat → Prop} {B : Nat} {W W' : World} (h : Kept R W W') (hR : ∀ k, R k → k < B) : KeepsFrom B W W' :=
  ⟨h.size, fun k _ hB hk _ => (h.block k (lt_heap' hk) fun q => by have := hR k q; omega).trans hk⟩
end Go.Proofs.Ytdeghjhlbhpopaa
