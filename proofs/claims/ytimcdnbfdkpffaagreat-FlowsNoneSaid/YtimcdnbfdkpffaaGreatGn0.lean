import Derived.BigQuiet
import Derived.ChangeMaps5
import Derived.Test.YtimcdnbfdkpffaaGreatGm0
import Derived.Test.YtimcdnbfdkpffaaGreatGm1
import Derived.Test.YtimcdnbfdkpffaaGreatGm2
import Derived.Test.YtimcdnbfdkpffaaGreatGm3
import Derived.Test.YtimcdnbfdkpffaaGreatGm4
import Derived.Test.YtimcdnbfdkpffaaGreatGm5
import Derived.Test.YtimcdnbfdkpffaaGreatGm6
import Derived.Test.YtimcdnbfdkpffaaGreatGm7
import Derived.Test.YtimcdnbfdkpffaaGreatGm8
import Derived.Test.YtimcdnbfdkpffaaGreatGm9
import Derived.Test.YtimcdnbfdkpffaaGreatGm10
import Derived.Test.YtimcdnbfdkpffaaGreatGm11
import Derived.Test.YtimcdnbfdkpffaaGreatGm12
import Derived.Test.YtimcdnbfdkpffaaGreatGm13
import Derived.Test.YtimcdnbfdkpffaaGreatGm14
import Derived.Test.YtimcdnbfdkpffaaGreatGm15
import Derived.Test.YtimcdnbfdkpffaaGreatGm16
import Derived.Test.YtimcdnbfdkpffaaGreatGm17
import Derived.Test.YtimcdnbfdkpffaaGreatGm18
import Derived.Test.YtimcdnbfdkpffaaGreatGm19
import Derived.Test.YtimcdnbfdkpffaaGreatGm20
import Derived.Test.YtimcdnbfdkpffaaGreatGm21
import Derived.Test.YtimcdnbfdkpffaaGreatGm22
import Derived.Test.YtimcdnbfdkpffaaGreatGm23
import Derived.Test.YtimcdnbfdkpffaaGreatGm24
import Derived.Test.YtimcdnbfdkpffaaGreatGm25
import Derived.Test.YtimcdnbfdkpffaaGreatGm26
import Derived.Test.YtimcdnbfdkpffaaGreatGm27
import Derived.Test.YtimcdnbfdkpffaaGreatGm28
import Derived.Test.YtimcdnbfdkpffaaGreatGm29
import Derived.Test.YtimcdnbfdkpffaaGreatGm30
import Derived.Test.YtimcdnbfdkpffaaGreatGm31
import Derived.Test.YtimcdnbfdkpffaaGreatGm32
import Derived.Test.YtimcdnbfdkpffaaGreatGm33
import Derived.Test.YtimcdnbfdkpffaaGreatGm34
import Derived.Test.YtimcdnbfdkpffaaGreatGm35
import Derived.Test.YtimcdnbfdkpffaaGreatGm36
import Derived.Test.YtimcdnbfdkpffaaGreatGm37
import Derived.Test.YtimcdnbfdkpffaaGreatGm38
import Derived.Test.YtimcdnbfdkpffaaGreatGm39
import Derived.Test.YtimcdnbfdkpffaaGreatGm40
import Derived.Test.YtimcdnbfdkpffaaGreatGm41
import Derived.Test.YtimcdnbfdkpffaaGreatGm43
namespace Go.Proofs.YtimcdnbfdkpffaaGreat
open Go.RowKit
/-- Whatever turns one block that is no cells, below B, keeps what lies from B on. -/
theorem keepsFrom_put {B : Nat} (W : World) (l : Nat) (o' : Obj) (h : l < B) : KeepsFrom B W (W.putObj l o') := ⟨by simp [World.putObj], fun k o hB hk _ => (World.putObj_heap_other (by omega)).trans hk⟩
theorem kf_up {B B' : Nat} {W W' : World} (h : KeepsFrom B W W') (hB : B ≤ B') : KeepsFrom B' W W' := ⟨h.size, fun k o hk hw ho => h.same k o (Nat.le_trans hB hk) hw ho⟩
/-- An iterator that tells T, one by one, as far as it is asked: a round that goes on keeps what Kp says; each one keeps the records behind the call. -/
def SeqQ {α : Type} (F : Fence) (n : Nat) (P : Program) (g : Nat) (lb : Array Value) (encs : α → Array Value) (Kp : World → World → Prop) (T : List α) (w : World) : Prop :=
  ∀ (l : Nat) (J Jx : List α → World → Prop) (W : World), Below w.heap.size w W → OwnFrom W.heap.size J → OwnFrom W.heap.size Jx →
    (∀ pre x W1, J pre W1 → pre ++ [x] <+: T → YieldAt F (n - 1) P l (encs x) W1 fun e W' =>
      (e = .returned (.bool true) ∧ J (pre ++ [x]) W' ∧ Kp W1 W' ∧ KeepsFrom W.heap.size W1 W') ∨ (e = .returned (.bool false) ∧ Jx (pre ++ [x]) W' ∧ KeepsFrom W.heap.size W1 W')) →
    J [] W →
    CallsIn F n P g (#[.func (.yield l) #[] #[]] ++ lb) W fun e W' => (∃ v, e = .returned v) ∧ (J T W' ∨ ∃ pre, pre <+: T ∧ Jx pre W')
theorem wpIn_rangeFunc_Q {F : Fence} {n : Nat} {P : Program} {α : Type} {g : Operand} {ps : Array Tmp} {assign body : Code} {Q : Exit → Act → World → Prop} {a : Act} {w : World}
    (hro : F.round = none) (h1 : 1 ≤ n) {gf : Nat} {lb : Array Value} (hg : a.eval g = .func (.func gf) #[] lb) (hFg : F.fn gf) (eg : ∀ args w, (callFunc gf args).run P w = .ok (.enter gf args) w)
    {encs : α → Array Value} {Kp : World → World → Prop} {T : List α} {w0 : World} (hseq : SeqQ F (n - 1) P gf lb encs Kp T w0) (hb0 : Below w0.heap.size w0 w) (hps : ∀ x, (encs x).size = ps.size)
    (hKt : ∀ {A B C : World}, Kp A B → Kp B C → Kp A C) (hKb : ∀ (W : World) (l : Nat) (o o' : Obj), w.heap.size ≤ l → W.heap[l]? = some o → o.isCells = false → o.isWalk = false → Kp W (W.putObj l o'))
    (I : List α → World → Prop) (Ix : Code → List α → World → Prop) (hI : OwnFrom w.heap.size I) (hIx : ∀ c, OwnFrom w.heap.size (Ix c)) (h0 : I [] w)
    (Ax : List α → α → Act → World → Prop) (hAx : ∀ pre x a', OwnFrom w.heap.size (fun (_ : Unit) W => Ax pre x a' W))
    (hassign : ∀ (l : Nat) (pre : List α) (x : α) (W : World), I pre W → pre ++ [x] <+: T →
      assign.wpIn (F.inRound l) (n - 1 - 1) P (Exit.then (fun a' W' => KeepsFrom w.heap.size W W' ∧ Kp W W' ∧ Ax pre x a' W') (fun _ _ _ => False)) { tmps := (ps.zip (encs x)).foldl (fun t (p, v) => t.setIfInBounds p v) a.tmps, defers := [] } W)
    (hbody : ∀ (l : Nat) (pre : List α) (x : α) (a' : Act) (W : World), pre ++ [x] <+: T → Ax pre x a' W → body.wpIn (F.inRound l) (n - 1 - 1) P (ownPostG w.heap.size Kp I Ix (pre ++ [x]) W) a' W)
    (hdone : ∀ (D : Nat) (W : World), w.heap.size ≤ D → I T W → W.heap[D]? = some (.deferred (some [])) → Q .normal { a with defers := { target := .collected D, args := #[] } :: a.defers } W)
    (hstop : ∀ (D : Nat) (c : Code) (pre : List α) (W : World), w.heap.size ≤ D → pre <+: T → Ix c pre W → W.heap[D]? = some (.deferred (some [])) → c.wpIn F n P Q { a with defers := { target := .collected D, args := #[] } :: a.defers } W) :
    (Code.rangeFunc g ps assign body).wpIn F n P Q a w := by
  refine wpIn_rangeFunc ?_
  intro fn hfn
  rw [hro]
  obtain ⟨rec, hrec⟩ : ∃ rec : LoopState → Option Code → Loop, rec = fun st pe => { state := st, pending := pe, fn, tmps := a.tmps, params := ps, assign, body, defers := w.heap.size } := ⟨_, rfl⟩
  obtain ⟨d, hd⟩ : ∃ d, d = w.heap.size := ⟨_, rfl⟩
  obtain ⟨r, hr⟩ : ∃ r, r = w.heap.size + 1 := ⟨_, rfl⟩
  have hdr : d ≠ r := by omega
  -- what the law itself keeps by it
  obtain ⟨BK, hBK⟩ : ∃ BK : LoopState → Option Code → World → Prop, BK = fun st pe W => W.heap[r]? = some (.loop (rec st pe)) ∧ W.heap[d]? = some (.deferred (some [])) := ⟨_, rfl⟩
  have bkG : ∀ {st : LoopState} {pe : Option Code} {A B : World}, KeepsFrom w.heap.size A B → BK st pe A → BK st pe B := fun hk h => by
    rw [hBK] at h ⊢
    exact ⟨hk.same _ _ (by omega) h.1 rfl, hk.same _ _ (by omega) h.2 rfl⟩
  have bkO : ∀ {st : LoopState} {pe : Option Code} {A B : World} {row : Option Nat}, A.grownBy B row → (∀ k, row = some k → w.heap.size + 2 ≤ k) → BK st pe A → BK st pe B := fun hg hw h => by
    rw [hBK] at h ⊢
    exact ⟨(hg.block _ (Array.getElem?_eq_some_iff.1 h.1).1 (fun e => by have := hw _ e.symm; omega)).trans h.1, (hg.block _ (Array.getElem?_eq_some_iff.1 h.2).1 (fun e => by have := hw _ e.symm; omega)).trans h.2⟩
  have bkP : ∀ {st : LoopState} {pe : Option Code} {st' : LoopState} {pe' : Option Code} {A : World}, BK st pe A → BK st' pe' (A.putObj r (.loop (rec st' pe'))) := fun h => by
    rw [hBK] at h ⊢
    exact ⟨World.putObj_heap_same (Array.getElem?_eq_some_iff.1 h.1).1, (World.putObj_heap_other hdr).trans h.2⟩
  have bkR : ∀ {st : LoopState} {pe : Option Code} {A : World}, BK st pe A → A.heap[r]? = some (.loop (rec st pe)) := fun h => by
    rw [hBK] at h
    exact h.1
  have bkD : ∀ {st : LoopState} {pe : Option Code} {A : World}, BK st pe A → A.heap[d]? = some (.deferred (some [])) := fun h => by
    rw [hBK] at h
    exact h.2
  obtain ⟨W1, hW1⟩ : ∃ W1, (w.alloc (.deferred (some []))).alloc (.loop (rec .ready none)) = W1 := ⟨_, rfl⟩
  have hB1 : BK .ready none W1 := by
    rw [hBK, ← hW1, hr, hd]
    refine ⟨?_, (Below.heap_alloc _ _ _ (by simp)).trans (World.alloc_heap_new w _)⟩
    have := World.alloc_heap_new (w.alloc (.deferred (some []))) (.loop (rec .ready none))
    rwa [World.size_alloc] at this
  have hI1 : I [] W1 := by
    rw [← hW1]
    exact hI.alloc _ (hI.alloc _ h0)
  have hb1 : Below w0.heap.size w0 W1 := by
    rw [← hW1]
    exact hb0.trans ((((Below.refl _ w).alloc (Nat.le_refl _) _).alloc (by simp) _).mono hb0.size)
  have hs1 : w.heap.size + 2 = W1.heap.size := by
    rw [← hW1]
    simp
  refine ⟨w.heap.size + 1, [{ target := .collected w.heap.size, args := #[] }], W1, { target := .fn (.func gf) lb, args := #[.func (.yield (w.heap.size + 1)) #[] #[]] }, W1, gf,
    #[.func (.yield (w.heap.size + 1)) #[] #[]] ++ lb, W1, ?_, ?_, ?_, ?_, fun _ => h1, ?_⟩
  · rw [← hW1, hrec]
    exact run_enterLoop_outer _ _ _ _ _
  · simp only [resolve, hg]
    simp [go_sem]
  · intro f' hf'
    simp [Target.leads] at hf'
    subst hf'
    exact hFg
  · simp [invoke, go_sem, eg]
  rw [← hr]
  refine (hseq r (fun pre W => I pre W ∧ BK .ready none W) (fun pre W => ∃ c, Ix c pre W ∧ BK .done (some c) W) W1 hb1 ?_ ?_ ?_ ⟨hI1, hB1⟩).mono ?_
  · rintro s A B row ⟨hs, hk⟩ hg' hw
    exact ⟨hI s A B row hs hg' fun k e => ⟨by have := (hw k e).1; omega, (hw k e).2⟩, bkO hg' (fun k e => by have := (hw k e).1; omega) hk⟩
  · rintro s A B row ⟨c, hs, hk⟩ hg' hw
    exact ⟨c, hIx c s A B row hs hg' fun k e => ⟨by have := (hw k e).1; omega, (hw k e).2⟩, bkO hg' (fun k e => by have := (hw k e).1; omega) hk⟩
  · rintro pre x W ⟨hi, hk⟩ hx
    have hy := run_yield (P := P) (args := encs x) (bkR hk) (by rw [hrec]; exact hps x)
    rw [hrec] at hy
    refine ⟨fn, _, assign, body, hy, roundIn_of_wpIn hfn (wpIn_mono (hassign r pre x W hi hx) ?_)⟩
    clear hy
    rintro e a' Wa he
    cases e with
    | normal =>
      obtain ⟨hkf, hkp, hax⟩ := he
      have hka := bkG hkf hk
      have hbr := run_beginRound (P := P) (bkR hka) (by rw [hrec])
      refine ⟨_, hbr, ?_⟩
      have ebusy : ({ rec .ready none with state := .busy } : Loop) = rec .busy none := by rw [hrec]
      rw [ebusy]
      have hkb := bkP (st' := .busy) (pe' := none) hka
      have kpt : ∀ (X : World) (o' : Obj), KeepsFrom W1.heap.size X (X.putObj r o') := fun X o' => keepsFrom_put X r o' (by omega)
      have kfb : KeepsFrom W1.heap.size W (Wa.putObj r (.loop (rec .busy none))) := (kf_up hkf (by omega)).trans (kpt _ _)
      have hkp2 : Kp W (Wa.putObj r (.loop (rec .busy none))) := hKt hkp (hKb _ _ _ _ (by omega) (bkR hka) rfl rfl)
      refine wpIn_mono (hbody r pre x a' _ hx ((hAx pre x a').putObj (s := ()) _ hax (by omega) (bkR hka) rfl)) ?_
      have fin : ∀ (jump : Option Code) (W3 : World), KeepsFrom w.heap.size (Wa.putObj r (.loop (rec .busy none))) W3 →
          (Instr.endRound r jump).run P W3 = .ok (.bool jump.isNone) (W3.putObj r (.loop (rec (if jump.isNone then .ready else .done) jump))) ∧ BK .busy none W3 ∧ BK (if jump.isNone then .ready else .done) jump (W3.putObj r (.loop (rec (if jump.isNone then .ready else .done) jump))) := fun jump W3 h3 => by
        have hk3 := bkG h3 hkb
        have h := run_endRound (P := P) jump (r := rec .busy none) (bkR hk3)
        refine ⟨?_, hk3, bkP hk3⟩
        rw [hrec] at h ⊢
        exact h
      rintro e a3 W3 hp
      cases e with
      | normal =>
        obtain ⟨h3, hp3, hi3⟩ := hp
        obtain ⟨he, hk3, hk4⟩ := fin none W3 h3
        exact ⟨_, _, he, .inl ⟨rfl, ⟨hI.putObj _ hi3 (by omega) (bkR hk3) rfl, hk4⟩, hKt (hKt hkp2 hp3) (hKb _ _ _ _ (by omega) (bkR hk3) rfl rfl), (kfb.trans (kf_up h3 (by omega))).trans (kpt _ _)⟩⟩
      | ret =>
        obtain ⟨h3, hi3⟩ := hp
        obtain ⟨he, hk3, hk4⟩ := fin (some .ret) W3 h3
        exact ⟨_, _, he, .inr ⟨rfl, ⟨.ret, (hIx _).putObj _ hi3 (by omega) (bkR hk3) rfl, hk4⟩, (kfb.trans (kf_up h3 (by omega))).trans (kpt _ _)⟩⟩
      | exit id =>
        obtain ⟨h3, hi3⟩ := hp
        obtain ⟨he, hk3, hk4⟩ := fin (some (.exit id)) W3 h3
        exact ⟨_, _, he, .inr ⟨rfl, ⟨.exit id, (hIx _).putObj _ hi3 (by omega) (bkR hk3) rfl, hk4⟩, (kfb.trans (kf_up h3 (by omega))).trans (kpt _ _)⟩⟩
      | goto t =>
        obtain ⟨h3, hi3⟩ := hp
        obtain ⟨he, hk3, hk4⟩ := fin (some (.goto t)) W3 h3
        exact ⟨_, _, he, .inr ⟨rfl, ⟨.goto t, (hIx _).putObj _ hi3 (by omega) (bkR hk3) rfl, hk4⟩, (kfb.trans (kf_up h3 (by omega))).trans (kpt _ _)⟩⟩
      | panic ch => exact hp.elim
      | outgrown => exact hp.elim
    | ret => exact he.elim
    | exit id => exact he.elim
    | goto t => exact he.elim
    | panic ch => exact he.elim
    | outgrown => exact he.elim
  · rintro e W2 ⟨⟨v, rfl⟩, h⟩
    subst hd
    rcases h with ⟨hi, hk⟩ | ⟨pre, hpre, c, hi, hk⟩
    · have h := run_endLoop (P := P) (bkR hk) (by rw [hrec]; simp)
      have q := hdone w.heap.size _ (Nat.le_refl _) (hI.putObj (Obj.loop { rec .ready none with state := .exhausted }) hi (by omega) (bkR hk) rfl) ((World.putObj_heap_other hdr).trans (bkD hk))
      exact ⟨none, _, by rw [hrec] at h ⊢; exact h, q⟩
    · have h := run_endLoop (P := P) (bkR hk) (by rw [hrec]; simp)
      have q := hstop w.heap.size c pre _ (Nat.le_refl _) hpre ((hIx c).putObj (Obj.loop { rec .done (some c) with state := .exhausted }) hi (by omega) (bkR hk) rfl) ((World.putObj_heap_other hdr).trans (bkD hk))
      exact ⟨some c, _, by rw [hrec] at h ⊢; exact h, q⟩
end Go.Proofs.YtimcdnbfdkpffaaGreat
namespace Go.Proofs.YtimcdnbfdkpffaaGreat
set_option maxRecDepth 100000
open Go.RowKit Go.Shelf
namespace Gr
end Gr
/-- A function that tells l, one by one, as far as it is asked, as long as its cells are kept; what a round turns is older than it. -/
def ItC {α : Type} (enc : α → Array Value) (g : Nat) (lb : Array Value) (l : List α) (Fi : Nat → Prop) (w : World) : Prop := ∀ R : Nat → Prop, (∀ k, Fi k → ¬ R k) → (∀ k, R k → k < w.heap.size) → SeqQ Fence.wide 12 Tryz.prog g lb enc (KeptC R) l w
end Go.Proofs.YtimcdnbfdkpffaaGreat
namespace Go.Proofs.YtimcdnbfdkpffaaGreat
open Go.ChangeShapes Go.WideShapes Go.ChangeAt Go.RowKit
section
variable {H : Type} {enc : TypeId × Value → H} {P : Program}
/-- The cells of an array of bytes. -/
theorem trod_bytes {W : World} {b n m : Nat} {t e : TypeId} {sp : Nat → Bool} {hd : Bool} {cs : List Value} {y : DataW H × List MemPlace} (ht : P.underlying t = some (.array n e)) (he : P.underlying e = some (.int .u8)) (hc : P.cellsOf e = 1) (hC : P.cellsOf t = n)
    (h : DataW.trod enc P W b sp hd m t cs = some y) : ∃ f, Byt f ∧ cs = (nums n f).map (Value.int .u8) := by
  obtain ⟨xs, m', _, _, hlen, hl, hg⟩ := DataW.trod_array ht h
  rw [hC] at hlen
  have each : ∀ k, k < n → ∃ x, cs[k]? = some (.int .u8 x) ∧ 0 ≤ x ∧ x ≤ 255 := by
    intro k hk
    have e1 := hg k hk
    rw [hc, Nat.mul_one] at e1
    have hx : xs[k]? = some (xs[k]'(by omega)) := List.getElem?_eq_getElem (by omega)
    rw [hx] at e1
    obtain ⟨x, e2, _, e3⟩ := DataW.trod_int he e1
    have hk' : k < cs.length := by omega
    have e4 : (cs.drop k).take 1 = [cs[k]] := by
      rw [List.drop_eq_getElem_cons hk']
      rfl
    rw [e4] at e2
    have e5 : cs[k] = .int .u8 x := by simpa using e2
    refine ⟨x, ?_, by simpa [Lit.wf, IntKind.min, IntKind.max, IntKind.signed, IntKind.bits] using e3⟩
    rw [List.getElem?_eq_getElem hk', e5]
  refine ⟨fun k => match cs[k]? with | some (.int .u8 x) => x | _ => 0, fun k => ?_, ?_⟩
  · show 0 ≤ (match cs[k]? with | some (.int .u8 x) => x | _ => (0 : Int)) ∧ (match cs[k]? with | some (.int .u8 x) => x | _ => (0 : Int)) ≤ 255
    by_cases hk : k < n
    · obtain ⟨x, e1, e2⟩ := each k hk
      rw [e1]
      exact e2
    · have e1 : cs[k]? = none := List.getElem?_eq_none (by omega)
      rw [e1]
      exact ⟨Int.le_refl 0, (by decide : (0 : Int) ≤ 255)⟩
  · refine List.ext_getElem? fun k => ?_
    by_cases hk : k < n
    · obtain ⟨x, e1, _⟩ := each k hk
      rw [e1]
      simp [nums, List.getElem?_map, List.getElem?_range hk, e1]
    · rw [List.getElem?_eq_none (by omega), List.getElem?_eq_none (by rw [List.length_map, nums_len]; omega)]
/-- The cell of a number. -/
theorem trod_num {W : World} {b m : Nat} {t : TypeId} {k : IntKind} {sp : Nat → Bool} {hd : Bool} {cs : List Value} {y : DataW H × List MemPlace} (ht : P.underlying t = some (.int k))
    (h : DataW.trod enc P W b sp hd m t cs = some y) : ∃ x, cs = [.int k x] ∧ (Lit.int k x).wf = true := by
  obtain ⟨x, e2, _, e3⟩ := DataW.trod_int ht h
  exact ⟨x, e2, e3⟩
/-- A struct's cells, field by field. -/
theorem open_fields {W : World} {r : Reach} {b0 : Nat} {t : TypeId} {fs : Array Field} {v : Value} {d : DataW H} {p : List MemPlace} (ht : P.underlying t = some (.struct fs)) (hv : Value.okWide P W r b0 t v) (h : DataW.Trod enc P W 0 (fun _ => true) true t v d p) :
    ∃ cs : Array Value, v = .agg cs ∧ cs.size = P.cellsOf t ∧ ∀ (i : Nat) (f : Field), fs[i]? = some f → ∃ m y, DataW.trod enc P W 0 (fun _ => true) true m f.type ((cs.toList.drop f.offset).take (P.cellsOf f.type)) = some y := by
  obtain ⟨cs, rfl, hsz⟩ := okWide_struct ht hv
  obtain ⟨fuel, hf⟩ := h
  obtain ⟨xs, n, _, _, _, hl, hg⟩ := DataW.trod_struct ht hf
  refine ⟨cs, rfl, hsz, fun i f hi => ?_⟩
  have e := hg i f hi
  have hlt : i < fs.size := by
    rcases Nat.lt_or_ge i fs.size with hlt | hge
    · exact hlt
    · rw [Array.getElem?_eq_none hge] at hi; cases hi
  rw [List.getElem?_eq_getElem (show i < xs.length by omega)] at e
  exact ⟨n, _, e⟩
/-- The cell of a Bool. -/
theorem trod_flag {W : World} {b m : Nat} {t : TypeId} {sp : Nat → Bool} {hd : Bool} {cs : List Value} {y : DataW H × List MemPlace} (ht : P.underlying t = some .bool)
    (h : DataW.trod enc P W b sp hd m t cs = some y) : ∃ x, cs = [.bool x] := by
  obtain ⟨x, e, _⟩ := DataW.trod_bool ht h
  exact ⟨x, e⟩
end
end Go.Proofs.YtimcdnbfdkpffaaGreat
namespace Go.Proofs.YtimcdnbfdkpffaaGreat
set_option maxRecDepth 100000
open Go.ChangeShapes Go.WideShapes Go.ChangeAt Go.RowKit
theorem tup_same {v6 : Bool} {pr : Int} {s d s' d' : Nat → Int} {sp dp : Int} (h : ∀ k, k < 16 → s k = s' k) (h' : ∀ k, k < 16 → d k = d' k) : tupc v6 pr s d sp dp = tupc v6 pr s' d' sp dp := by
  unfold tupc
  rw [h 0 (by omega), h 1 (by omega), h 2 (by omega), h 3 (by omega), h 4 (by omega), h 5 (by omega), h 6 (by omega), h 7 (by omega), h 8 (by omega), h 9 (by omega), h 10 (by omega), h 11 (by omega), h 12 (by omega), h 13 (by omega), h 14 (by omega), h 15 (by omega), h' 0 (by omega), h' 1 (by omega), h' 2 (by omega), h' 3 (by omega), h' 4 (by omega), h' 5 (by omega), h' 6 (by omega), h' 7 (by omega), h' 8 (by omega), h' 9 (by omega), h' 10 (by omega), h' 11 (by omega), h' 12 (by omega), h' 13 (by omega), h' 14 (by omega), h' 15 (by omega)]
theorem onum_u8 {x : Int} (h : (Lit.int .u8 x).wf = true) : 0 ≤ x ∧ x ≤ 255 := by
  simpa [Lit.wf, IntKind.min, IntKind.max, IntKind.signed, IntKind.bits] using h
theorem onum_u16 {x : Int} (h : (Lit.int .u16 x).wf = true) : 0 ≤ x ∧ x ≤ 65535 := by
  simpa [Lit.wf, IntKind.min, IntKind.max, IntKind.signed, IntKind.bits] using h
theorem open_tup {H : Type} {enc : TypeId × Value → H} {W : World} {r : Reach} {b0 : Nat} {v : Value} {d : DataW H} {p : List MemPlace} (hv : Value.okWide Tryz.prog W r b0 38 v) (h : DataW.Trod enc Tryz.prog W 0 (fun _ => true) true 38 v d p) :
    ∃ (v6 : Bool) (pr : Int) (s : Nat → Int) (d : Nat → Int) (sp : Int) (dp : Int), (0 ≤ pr ∧ pr ≤ 255) ∧ Byt s ∧ Byt d ∧ (0 ≤ sp ∧ sp ≤ 65535) ∧ (0 ≤ dp ∧ dp ≤ 65535) ∧ v = .agg (tupc v6 pr s d sp dp) := by
  obtain ⟨cs, rfl, hsz, hg⟩ := open_fields Tryz.underlying38 hv h
  have hall : Tryz.prog.cellsOf 38 = 36 := by kernel_rfl
  rw [hall] at hsz
  have k_bool : Tryz.prog.cellsOf 4 = 1 := by kernel_rfl
  have k_u8 : Tryz.prog.cellsOf 5 = 1 := by kernel_rfl
  have k_a16 : Tryz.prog.cellsOf 35 = 16 := by kernel_rfl
  have k_u16 : Tryz.prog.cellsOf 36 = 1 := by kernel_rfl
  obtain ⟨m0, y0, g0⟩ := hg 0 _ rfl
  have g0' : DataW.trod enc Tryz.prog W 0 (fun _ => true) true m0 4 ((cs.toList.drop 0).take (Tryz.prog.cellsOf 4)) = some y0 := g0
  rw [k_bool] at g0'
  obtain ⟨m1, y1, g1⟩ := hg 1 _ rfl
  have g1' : DataW.trod enc Tryz.prog W 0 (fun _ => true) true m1 5 ((cs.toList.drop 1).take (Tryz.prog.cellsOf 5)) = some y1 := g1
  rw [k_u8] at g1'
  obtain ⟨m2, y2, g2⟩ := hg 2 _ rfl
  have g2' : DataW.trod enc Tryz.prog W 0 (fun _ => true) true m2 35 ((cs.toList.drop 2).take (Tryz.prog.cellsOf 35)) = some y2 := g2
  rw [k_a16] at g2'
  obtain ⟨m3, y3, g3⟩ := hg 3 _ rfl
  have g3' : DataW.trod enc Tryz.prog W 0 (fun _ => true) true m3 35 ((cs.toList.drop 18).take (Tryz.prog.cellsOf 35)) = some y3 := g3
  rw [k_a16] at g3'
  obtain ⟨m4, y4, g4⟩ := hg 4 _ rfl
  have g4' : DataW.trod enc Tryz.prog W 0 (fun _ => true) true m4 36 ((cs.toList.drop 34).take (Tryz.prog.cellsOf 36)) = some y4 := g4
  rw [k_u16] at g4'
  obtain ⟨m5, y5, g5⟩ := hg 5 _ rfl
  have g5' : DataW.trod enc Tryz.prog W 0 (fun _ => true) true m5 36 ((cs.toList.drop 35).take (Tryz.prog.cellsOf 36)) = some y5 := g5
  rw [k_u16] at g5'
  obtain ⟨v6, e0⟩ := trod_flag Tryz.underlying4 g0'
  obtain ⟨pr, e1, w1⟩ := trod_num Tryz.underlying5 g1'
  obtain ⟨s, hB2, e2⟩ := trod_bytes Tryz.underlying35 Tryz.underlying5 k_u8 k_a16 g2'
  obtain ⟨d, hB3, e3⟩ := trod_bytes Tryz.underlying35 Tryz.underlying5 k_u8 k_a16 g3'
  obtain ⟨sp, e4, w4⟩ := trod_num Tryz.underlying36 g4'
  obtain ⟨dp, e5, w5⟩ := trod_num Tryz.underlying36 g5'
  refine ⟨v6, pr, s, d, sp, dp, onum_u8 w1, hB2, hB3, onum_u16 w4, onum_u16 w5, ?_⟩
  congr 1
  have len : cs.toList.length = 36 := by simpa using hsz
  have splt : ∀ a b, cs.toList.drop a = (cs.toList.drop a).take b ++ cs.toList.drop (a + b) := fun a b => by
    rw [← List.drop_drop]
    exact (List.take_append_drop b _).symm
  have last : cs.toList.drop 35 = (cs.toList.drop 35).take 1 := (List.take_of_length_le (by rw [List.length_drop]; omega)).symm
  have hsplit : cs.toList = (cs.toList.drop 0).take 1 ++ ((cs.toList.drop 1).take 1 ++ ((cs.toList.drop 2).take 16 ++ ((cs.toList.drop 18).take 16 ++ ((cs.toList.drop 34).take 1 ++ ((cs.toList.drop 35).take 1))))) :=
    (List.drop_zero (l := cs.toList)).symm.trans ((splt 0 1).trans (congrArg _ ((splt 1 1).trans (congrArg _ ((splt 2 16).trans (congrArg _ ((splt 18 16).trans (congrArg _ ((splt 34 1).trans (congrArg _ (last)))))))))))
  have eq : cs.toList = (tupc v6 pr s d sp dp).toList := by
    rw [hsplit, e0, e1, e2, e3, e4, e5]
    rfl
  exact Array.ext' eq
end Go.Proofs.YtimcdnbfdkpffaaGreat
namespace Go.Proofs.YtimcdnbfdkpffaaGreat
set_option maxRecDepth 100000
open Go.ChangeShapes Go.WideShapes Go.ChangeAt Go.RowKit
namespace Tp
/-- Cut to its sixteen bytes. -/
def cut16 (f : Nat → Int) (k : Nat) : Int := if k < 16 then f k else 0
theorem cut_byt {f : Nat → Int} (h : Byt f) : Byt (cut16 f) := fun k => by
  unfold cut16
  split
  · exact h k
  · exact ⟨by decide, by decide⟩
theorem of_tup {v6 : Bool} {pr : Int} {s d : Nat → Int} {sp dp : Int} (h1 : 0 ≤ pr ∧ pr ≤ 255) (h2 : Byt s) (h3 : Byt d) (h4 : 0 ≤ sp ∧ sp ≤ 65535) (h5 : 0 ≤ dp ∧ dp ≤ 65535) : ∃ t : Tp, t.Ok ∧ t.c = tupc v6 pr s d sp dp := by
  refine ⟨⟨v6, pr, cut16 s, cut16 d, sp, dp⟩, ⟨h1, cut_byt h2, cut_byt h3, h4, h5, fun k hk => if_neg (Nat.not_lt.2 hk), fun k hk => if_neg (Nat.not_lt.2 hk)⟩, ?_⟩
  exact tup_same (fun k hk => if_pos hk) fun k hk => if_pos hk
end Tp
theorem open_tp {H : Type} {enc : TypeId × Value → H} {W : World} {r : Reach} {b0 : Nat} {v : Value} {d : DataW H} {p : List MemPlace} (hv : Value.okWide Tryz.prog W r b0 38 v) (h : DataW.Trod enc Tryz.prog W 0 (fun _ => true) true 38 v d p) :
    ∃ t : Tp, t.Ok ∧ v = .agg t.c := by
  obtain ⟨v6, pr, s, d, sp, dp, h1, h2, h3, h4, h5, rfl⟩ := open_tup hv h
  obtain ⟨t, ht, e⟩ := Tp.of_tup (v6 := v6) h1 h2 h3 h4 h5
  exact ⟨t, ht, by rw [e]⟩
end Go.Proofs.YtimcdnbfdkpffaaGreat
namespace Go.Proofs.YtimcdnbfdkpffaaGreat
set_option maxRecDepth 100000
open Go.RowKit Go.Shelf
/-- Flows that are not there, or were not made. -/
def UnF (pa : Option Addr) (w : World) : Prop := pa = none ∨ ∃ p, pa = some ⟨p, 0, none⟩ ∧ w.cell? ⟨p, 0, none⟩ = some (.pointer none)
theorem UnF.step {pa : Option Addr} {w W : World} (h : UnF pa w) (hb : Below w.heap.size w W) : UnF pa W := by
  rcases h with rfl | ⟨p, rfl, h⟩
  · exact .inl rfl
  · obtain ⟨cs, t, fr, hq⟩ := cells_of_cell h
    exact .inr ⟨p, rfl, (kept_cell_block (hb.block p (lt_heap' hq))).trans h⟩
theorem fmade_un {pa : Option Addr} {w : World} (h : UnF pa w) : Calls Tryz.prog 39 #[.pointer pa] w (ret (.bool false) w) := by
  rcases h with rfl | ⟨p, rfl, h⟩
  · go_enter Tryz.func39, Tryz.ntmps39
    go_wp2_with fail
    go_ret
    exact ⟨rfl, Below.refl _ _⟩
  · go_enter Tryz.func39, Tryz.ntmps39
    go_wp2_with fail
    go_ret
    exact ⟨rfl, Below.refl _ _⟩
end Go.Proofs.YtimcdnbfdkpffaaGreat
namespace Go.Proofs.YtimcdnbfdkpffaaGreat
theorem wf_i64 {x : Int} (h : (Lit.int .i64 x).wf = true) : -9223372036854775808 ≤ x ∧ x ≤ 9223372036854775807 := by
  simpa [Lit.wf, IntKind.min, IntKind.max, IntKind.signed, IntKind.bits] using h
end Go.Proofs.YtimcdnbfdkpffaaGreat
