/- A range over a function whose iterator stores into old blocks of its own: the contract names what holds at each yield, what a round must leave behind, and the blocks X that are looked after; the caller's own words speak of X's blocks alone. -/
import Derived.RangeFuncNested
import Derived.RangeFuncBound
import Derived.RangeFuncLeaves
import Derived.Test.YthlnhkkjpjbmeaaLaw
namespace Go.Proofs.Ythlnhkkjpjbmeaa
open Go.RowKit
/-- One set of blocks beside another. -/
def Or2 (X K : Nat → Prop) : Nat → Prop := fun k => X k ∨ K k
theorem or2_assoc (X K L : Nat → Prop) : Or2 (Or2 X K) L = Or2 X (Or2 K L) := funext fun _ => propext or_assoc
/-- Speaks of blocks of X alone. -/
def OnX {β : Type} (J : (Nat → Prop) → β → World → Prop) : Prop := ∀ X s W W', J X s W → W.heap.size ≤ W'.heap.size → (∀ k, X k → W'.heap[k]? = W.heap[k]?) → J X s W'
/-- What a round that is left hands back: the caller's blocks are others, perhaps; the iterator's K are kept. -/
def Back {α γ : Type} (A : γ → (Nat → Prop) → List α → World → Prop) (J : (Nat → Prop) → List α → World → Prop) (b : γ) (K : Nat → Prop) (xs : List α) (W1 W' : World) : Prop :=
  ∃ X', J X' xs W' ∧ A b (Or2 X' K) xs W' ∧ ∀ k, K k → ¬ X' k ∧ W'.heap[k]? = W1.heap[k]?
/-- What an iterator promises: from Z0 on it hands on one by one, Y standing at each, A behind each round; Zd when all have come, Zs when a round has said no more. X: what the caller looks after; K: what the iterator does. -/
def SeqU {α γ : Type} (F : Fence) (n : Nat) (P : Program) (g : Nat) (lb : Array Value) (encs : α → Array Value) (Z0 : (Nat → Prop) → World → Prop) (Y : γ → (Nat → Prop) → List α → α → World → Prop) (A : γ → (Nat → Prop) → List α → World → Prop) (Zd Zs : (Nat → Prop) → List α → World → Prop) : Prop :=
  ∀ (l : Nat) (I Ix : (Nat → Prop) → List α → World → Prop) (X : Nat → Prop) (W : World), OnX I → OnX Ix → Z0 X W → I X [] W →
    (∀ b X K pre x W1, I X pre W1 → Y b (Or2 X K) pre x W1 → (∀ k, K k → ¬ X k) → YieldAt F (n - 1) P l (encs x) W1 fun e W' =>
      (e = .returned (.bool true) ∧ Back A I b K (pre ++ [x]) W1 W') ∨ (e = .returned (.bool false) ∧ Back A Ix b K (pre ++ [x]) W1 W')) →
    CallsIn F n P g (#[.func (.yield l) #[] #[]] ++ lb) W fun e W' => (∃ v, e = .returned v) ∧ ((∃ X' xs, I X' xs W' ∧ Zd X' xs W') ∨ (∃ X' pre, Ix X' pre W' ∧ Zs X' pre W'))
/-- How the body of a round may be left. -/
def ownPostU {α γ : Type} (A : γ → (Nat → Prop) → List α → World → Prop) (I : (Nat → Prop) → List α → World → Prop) (Ix : Code → (Nat → Prop) → List α → World → Prop) (b : γ) (K : Nat → Prop) (xs : List α) (W : World) : Exit → Act → World → Prop
  | .normal, _, W' => Back A I b K xs W W'
  | .ret, _, W' => Back A (Ix .ret) b K xs W W'
  | .exit id, _, W' => Back A (Ix (.exit id)) b K xs W W'
  | .goto t, _, W' => Back A (Ix (.goto t)) b K xs W W'
  | .panic _, _, _ => False
  | .outgrown, _, _ => False
theorem OnX.put {β : Type} {J : (Nat → Prop) → β → World → Prop} (h : OnX J) {X : Nat → Prop} {s : β} {W : World} {l : Nat} {o : Obj} (hl : ¬ X l) (hs : J X s W) : J X s (W.putObj l o) :=
  h X s W _ hs (by simp [World.putObj]) fun k hk => World.putObj_heap_other fun e => hl (e ▸ hk)
theorem wpIn_rangeFunc_U {F : Fence} {n : Nat} {P : Program} {α γ : Type} {g : Operand} {ps : Array Tmp} {assign body : Code} {Q : Exit → Act → World → Prop} {a : Act} {w : World}
    (hro : F.round = none) (h1 : 1 ≤ n) {gf : Nat} {lb : Array Value} (hg : a.eval g = .func (.func gf) #[] lb) (hFg : F.fn gf) (eg : ∀ args w, (callFunc gf args).run P w = .ok (.enter gf args) w)
    {encs : α → Array Value} {Z0 : (Nat → Prop) → World → Prop} {Y : γ → (Nat → Prop) → List α → α → World → Prop} {A : γ → (Nat → Prop) → List α → World → Prop} {Zd Zs : (Nat → Prop) → List α → World → Prop} (hseq : SeqU F (n - 1) P gf lb encs Z0 Y A Zd Zs) (hps : ∀ x, (encs x).size = ps.size)
    (X H : Nat → Prop) (hX : ∀ k, X k → k < w.heap.size) (hH : H = fun k => k = w.heap.size ∨ k = w.heap.size + 1)
    (hY : ∀ b X pre x W l o, w.heap.size ≤ l → X l → Y b X pre x W → Y b X pre x (W.putObj l o)) (hA : ∀ b X pre W l o, w.heap.size ≤ l → X l → A b X pre W → A b X pre (W.putObj l o)) (hZd : ∀ X pre W l o, w.heap.size ≤ l → X l → Zd X pre W → Zd X pre (W.putObj l o)) (hZs : ∀ X pre W l o, w.heap.size ≤ l → X l → Zs X pre W → Zs X pre (W.putObj l o))
    (hZ0 : ∀ o, Z0 (Or2 X H) ((w.alloc (.deferred (some []))).alloc o))
    (I : (Nat → Prop) → List α → World → Prop) (Ix : Code → (Nat → Prop) → List α → World → Prop) (hI : OnX I) (hIx : ∀ c, OnX (Ix c)) (h0 : I X [] w) (a₁ : α → Act)
    (hassign : ∀ (l : Nat) (x : α) (W : World) (K : Act → World → Prop), K (a₁ x) W →
      assign.wpIn (F.inRound l) (n - 1 - 1) P (Exit.then K (fun _ _ _ => False)) { tmps := (ps.zip (encs x)).foldl (fun t (p, v) => t.setIfInBounds p v) a.tmps, defers := [] } W)
    (hbody : ∀ (l : Nat) (b : γ) (X K : Nat → Prop) (pre : List α) (x : α) (W : World), I X pre W → Y b (Or2 X K) pre x W → (∀ k, K k → ¬ X k) → body.wpIn (F.inRound l) (n - 1 - 1) P (ownPostU A I Ix b K (pre ++ [x]) W) (a₁ x) W)
    (hdone : ∀ (X : Nat → Prop) (xs : List α) (W : World), I X xs W → Zd (Or2 X H) xs W → (∀ k, H k → ¬ X k) → W.heap[w.heap.size]? = some (.deferred (some [])) → Q .normal { a with defers := { target := .collected w.heap.size, args := #[] } :: a.defers } W)
    (hstop : ∀ (c : Code) (X : Nat → Prop) (pre : List α) (W : World), Ix c X pre W → Zs (Or2 X H) pre W → (∀ k, H k → ¬ X k) → W.heap[w.heap.size]? = some (.deferred (some [])) → c.wpIn F n P Q { a with defers := { target := .collected w.heap.size, args := #[] } :: a.defers } W) :
    (Code.rangeFunc g ps assign body).wpIn F n P Q a w := by
  refine wpIn_rangeFunc ?_
  intro fn hfn
  rw [hro]
  obtain ⟨rec, hrec⟩ : ∃ rec : LoopState → Option Code → Loop, rec = fun st pe => { state := st, pending := pe, fn, tmps := a.tmps, params := ps, assign, body, defers := w.heap.size } := ⟨_, rfl⟩
  have hH0 : H w.heap.size := by rw [hH]; exact .inl rfl
  have hH1 : H (w.heap.size + 1) := by rw [hH]; exact .inr rfl
  have hXH : ∀ k, H k → ¬ X k := fun k hk hx => by
    have := hX k hx
    rw [hH] at hk
    rcases hk with rfl | rfl <;> omega
  obtain ⟨W1, hW1⟩ : ∃ W1, (w.alloc (.deferred (some []))).alloc (.loop (rec .ready none)) = W1 := ⟨_, rfl⟩
  have hL1 : W1.heap[w.heap.size + 1]? = some (.loop (rec .ready none)) := by
    rw [← hW1]
    have := World.alloc_heap_new (w.alloc (.deferred (some []))) (.loop (rec .ready none))
    rwa [World.size_alloc] at this
  have hK1 : W1.heap[w.heap.size]? = some (.deferred (some [])) := by
    rw [← hW1]
    exact (Below.heap_alloc _ _ _ (by simp)).trans (World.alloc_heap_new w _)
  have hI1 : I X [] W1 := by
    refine hI X _ w _ h0 ?_ fun k hk => ?_
    · rw [← hW1]
      simp only [World.size_alloc]
      omega
    · rw [← hW1]
      exact (Below.heap_alloc _ _ _ (by have := hX k hk; simp; omega)).trans (Below.heap_alloc _ _ _ (hX k hk))
  have hz1 : Z0 (Or2 X H) W1 := by
    rw [← hW1]
    exact hZ0 _
  refine ⟨w.heap.size + 1, [{ target := .collected w.heap.size, args := #[] }], W1, { target := .fn (.func gf) lb, args := #[.func (.yield (w.heap.size + 1)) #[] #[]] }, W1, gf,
    #[.func (.yield (w.heap.size + 1)) #[] #[]] ++ lb, W1, ?_, ?_, ?_, ?_, fun _ => h1, ?_⟩
  · rw [← hW1, hrec]
    exact run_enterLoop_outer _ _ _ _ _
  · simp only [resolve, hg]
    simp [go_sem]
  · intro f' hf'
    simp [Target.leads] at hf'
    subst hf'
    exact hFg
  · simp [invoke, go_sem, eg]
  · obtain ⟨LI, hLI⟩ : ∃ LI : (Nat → Prop) → List α → World → Prop, LI = fun Y pre W => ∃ X, Y = Or2 X H ∧ (∀ k, H k → ¬ X k) ∧ I X pre W ∧ W.heap[w.heap.size + 1]? = some (.loop (rec .ready none)) ∧ W.heap[w.heap.size]? = some (.deferred (some [])) := ⟨_, rfl⟩
    obtain ⟨LX, hLX⟩ : ∃ LX : (Nat → Prop) → List α → World → Prop, LX = fun Y pre W => ∃ X c, Y = Or2 X H ∧ (∀ k, H k → ¬ X k) ∧ Ix c X pre W ∧ W.heap[w.heap.size + 1]? = some (.loop (rec .done (some c))) ∧ W.heap[w.heap.size]? = some (.deferred (some [])) := ⟨_, rfl⟩
    have hIl : OnX LI := fun Y s W W' h hs hk => by
      subst hLI
      obtain ⟨X, rfl, hd, h1, h2, h3⟩ := h
      exact ⟨X, rfl, hd, hI X s W W' h1 hs fun k q => hk k (.inl q), (hk _ (.inr hH1)).trans h2, (hk _ (.inr hH0)).trans h3⟩
    have hIxl : OnX LX := fun Y s W W' h hs hk => by
      subst hLX
      obtain ⟨X, c, rfl, hd, h1, h2, h3⟩ := h
      exact ⟨X, c, rfl, hd, hIx c X s W W' h1 hs fun k q => hk k (.inl q), (hk _ (.inr hH1)).trans h2, (hk _ (.inr hH0)).trans h3⟩
    have h00 : LI (Or2 X H) [] W1 := by
      subst hLI
      exact ⟨X, rfl, hXH, hI1, hL1, hK1⟩
    refine (hseq (w.heap.size + 1) LI LX (Or2 X H) W1 hIl hIxl hz1 h00 ?_).mono ?_
    · rintro b XH K pre x W hli hy hK
      subst hLI
      obtain ⟨X, rfl, hd, hi, hl, hk⟩ := hli
      have hlt : w.heap.size + 1 < W.heap.size := (Array.getElem?_eq_some_iff.1 hl).1
      have hyr := run_yield (P := P) (args := encs x) hl (by rw [hrec]; exact hps x)
      rw [hrec] at hyr
      refine ⟨fn, _, assign, body, hyr, roundIn_of_wpIn hfn (hassign _ x W _ ?_)⟩
      refine ⟨_, run_beginRound hl (by rw [hrec]), ?_⟩
      have hl2 : (W.putObj (w.heap.size + 1) (.loop { rec .ready none with state := .busy })).heap[w.heap.size + 1]? = some (.loop { rec .ready none with state := .busy }) := World.putObj_heap_same hlt
      have hk2 : (W.putObj (w.heap.size + 1) (.loop { rec .ready none with state := .busy })).heap[w.heap.size]? = some (.deferred (some [])) := (World.putObj_heap_other (by omega)).trans hk
      have hHK : ∀ k, Or2 H K k → ¬ X k := fun k hk hx => by
        rcases hk with q | q
        · exact hd k q hx
        · exact hK k q (.inl hx)
      have hy2 := hY _ _ _ _ _ (w.heap.size + 1) (.loop { rec .ready none with state := .busy }) (by omega) (.inl (.inr hH1)) hy
      rw [or2_assoc] at hy2
      refine wpIn_mono (hbody _ b X (Or2 H K) pre x _ (hI.put (hd _ hH1) hi) hy2 hHK) ?_
      have fin : ∀ (jump : Option Code) (W3 : World) (X' : Nat → Prop), (∀ k, Or2 H K k → ¬ X' k ∧ W3.heap[k]? = (W.putObj (w.heap.size + 1) (.loop { rec .ready none with state := .busy })).heap[k]?) →
          (Instr.endRound (w.heap.size + 1) jump).run P W3 = .ok (.bool jump.isNone) (W3.putObj (w.heap.size + 1) (.loop (rec (if jump.isNone then .ready else .done) jump))) ∧
          (W3.putObj (w.heap.size + 1) (.loop (rec (if jump.isNone then .ready else .done) jump))).heap[w.heap.size + 1]? = some (.loop (rec (if jump.isNone then .ready else .done) jump)) ∧
          (W3.putObj (w.heap.size + 1) (.loop (rec (if jump.isNone then .ready else .done) jump))).heap[w.heap.size]? = some (.deferred (some [])) ∧ (∀ k, H k → ¬ X' k) ∧
          (∀ k, K k → ¬ Or2 X' H k ∧ (W3.putObj (w.heap.size + 1) (.loop (rec (if jump.isNone then .ready else .done) jump))).heap[k]? = W.heap[k]?) := fun jump W3 X' hk3 => by
        have hl3 := (hk3 _ (.inl hH1)).2.trans hl2
        have hd3 := (hk3 _ (.inl hH0)).2.trans hk2
        have := run_endRound (P := P) jump hl3
        rw [hrec] at this ⊢
        refine ⟨this, World.putObj_heap_same (Array.getElem?_eq_some_iff.1 hl3).1, (World.putObj_heap_other (by omega)).trans hd3, fun k hk => (hk3 k (.inl hk)).1, fun k hk => ?_⟩
        have hne : k ≠ w.heap.size + 1 := fun e => hK k hk (by subst e; exact .inr hH1)
        refine ⟨fun hx => ?_, (World.putObj_heap_other hne).trans ((hk3 k (.inr hk)).2.trans (World.putObj_heap_other hne))⟩
        rcases hx with hx | hx
        · exact (hk3 k (.inr hk)).1 hx
        · exact hK k hk (.inr hx)
      have back : ∀ (jump : Option Code) (J : (Nat → Prop) → List α → World → Prop) (W3 : World), OnX J → Back A J b (Or2 H K) (pre ++ [x]) (W.putObj (w.heap.size + 1) (.loop { rec .ready none with state := .busy })) W3 →
          ∃ W4, (Instr.endRound (w.heap.size + 1) jump).run P W3 = .ok (.bool jump.isNone) W4 ∧ ∃ X', (∀ k, H k → ¬ X' k) ∧ J X' (pre ++ [x]) W4 ∧ W4.heap[w.heap.size + 1]? = some (.loop (rec (if jump.isNone then .ready else .done) jump)) ∧ W4.heap[w.heap.size]? = some (.deferred (some [])) ∧
            A b (Or2 (Or2 X' H) K) (pre ++ [x]) W4 ∧ ∀ k, K k → ¬ Or2 X' H k ∧ W4.heap[k]? = W.heap[k]? := fun jump J W3 hJ hb => by
        obtain ⟨X', hj, ha, hkk⟩ := hb
        obtain ⟨f1, f2, f3, f4, f5⟩ := fin jump W3 X' hkk
        refine ⟨_, f1, X', f4, hJ.put (f4 _ hH1) hj, f2, f3, ?_, f5⟩
        rw [or2_assoc]
        exact hA _ _ _ _ _ _ (by omega) (.inr (.inl hH1)) ha
      rintro e a3 W3 hp
      cases e with
      | normal =>
        obtain ⟨W4, hr, X', f1, f2, f3, f4, f5, f6⟩ := back none I W3 hI hp
        exact ⟨_, _, hr, .inl ⟨rfl, Or2 X' H, ⟨X', rfl, f1, f2, f3, f4⟩, f5, f6⟩⟩
      | ret =>
        obtain ⟨W4, hr, X', f1, f2, f3, f4, f5, f6⟩ := back (some .ret) (Ix .ret) W3 (hIx _) hp
        exact ⟨_, _, hr, .inr ⟨rfl, Or2 X' H, (by rw [hLX]; exact ⟨X', .ret, rfl, f1, f2, f3, f4⟩), f5, f6⟩⟩
      | exit id =>
        obtain ⟨W4, hr, X', f1, f2, f3, f4, f5, f6⟩ := back (some (.exit id)) (Ix (.exit id)) W3 (hIx _) hp
        exact ⟨_, _, hr, .inr ⟨rfl, Or2 X' H, (by rw [hLX]; exact ⟨X', .exit id, rfl, f1, f2, f3, f4⟩), f5, f6⟩⟩
      | goto t =>
        obtain ⟨W4, hr, X', f1, f2, f3, f4, f5, f6⟩ := back (some (.goto t)) (Ix (.goto t)) W3 (hIx _) hp
        exact ⟨_, _, hr, .inr ⟨rfl, Or2 X' H, (by rw [hLX]; exact ⟨X', .goto t, rfl, f1, f2, f3, f4⟩), f5, f6⟩⟩
      | panic ch => exact hp.elim
      | outgrown => exact hp.elim
    · rintro e W2 ⟨⟨v, rfl⟩, h⟩
      subst hLI hLX
      rcases h with ⟨XH, xs, ⟨X, rfl, hd, hi, hl, hk⟩, hz⟩ | ⟨XH, pre, ⟨X, c, rfl, hd, hi, hl, hk⟩, hz⟩
      · exact ⟨none, _, by have := run_endLoop (P := P) hl (by rw [hrec]; simp); rw [hrec] at this; exact this, hdone X xs _ (hI.put (hd _ hH1) hi) (hZd _ _ _ _ _ (by omega) (.inr hH1) hz) hd ((World.putObj_heap_other (by omega)).trans hk)⟩
      · exact ⟨some c, _, by have := run_endLoop (P := P) hl (by rw [hrec]; simp); rw [hrec] at this; exact this, hstop c X pre _ ((hIx c).put (hd _ hH1) hi) (hZs _ _ _ _ _ (by omega) (.inr hH1) hz) hd ((World.putObj_heap_other (by omega)).trans hk)⟩
end Go.Proofs.Ythlnhkkjpjbmeaa
