/- Stage 18: what is asked of the program; an append within a fence; a function that tells a list. -/
import Derived.RangeFuncNested
import Derived.RangeFuncBound
import Derived.RangeFuncCalls
import Derived.RangeFuncLeaves
import Derived.WalkKit
import Derived.OwnWalkIn
import Derived.TacticsInMore
import Derived.LoopNIn
import Derived.LoopIn
import Derived.Test.YtdeghjhlbhpopaaPqb
import Derived.Test.YtdeghjhlbhpopaaUp
import Derived.Test.YtdeghjhlbhpopaaVals
namespace Go.Proofs.Ytdeghjhlbhpopaa
set_option maxRecDepth 100000
open Go.RowKit Go.Shelf
theorem wpListIn_append_vals {F : Fence} {nn : Nat} {P : Program} {w : World} {ops : Array Oper} {rest : List Oper} {o : Oper} {a : Act} {Q : Exit → Act → World → Prop} (hgd : o.guard = none) (s x : Operand) (t : TypeId)
    (ho : o.op = .call { callee := .builtin .append, args := #[s, x], argTypes := #[t, t] })
    (base : Nat) (e : TypeId) (i : TypeInfo) (z : Value) (size : Nat) (ht : P.underlying t = some (.slice e)) (hi : P.info? e = some i) (hz : i.zero = some z) (hsize : i.size = size) (hzs : z.cells.size = size) (hsz : 0 < size)
    {A : Option Addr} {n c : Nat} {f : Nat → Value} (hs : a.eval s = .slice A n c) (hown : OwnC w base e size A n c f) {B m c' : Nat} {A' : Option Addr} {g : Nat → Value} (hx : a.eval x = .slice A' m c') (hr : RdC w B A' (m * size) g) (h1 : ∀ k, k < m * size → (g k).oneCell' = true)
    (hlen : n + m ≤ maxLen) (hby : (n + m) * i.bytes ≤ 140737488355328) (hbase : base ≤ w.heap.size)
    (h : ∀ A2 c2 w', OwnC w' base e size A2 (n + m) c2 (catV (n * size) f g) → w.grownBy w' (Value.ownBlock (.slice A n c)) →
      (Value.ownBlock (.slice A2 (n + m) c2) = Value.ownBlock (.slice A n c) ∨ Value.ownBlock (.slice A2 (n + m) c2) = some w.heap.size) → wpListIn F nn P ops Q rest (a.put o.dst (.slice A2 (n + m) c2)) w') :
    wpListIn F nn P ops Q (o :: rest) a w := by
  refine wpListIn_plain hgd fun K hK => ?_
  obtain ⟨A2, c2, w', hrun, h2, h3, h4⟩ := run_append_vals (P := P) base t o.type e i z size ht hi hz hsize hzs hsz hown hr h1 hlen hby hbase (c' := c')
  unfold Oper.wpIn
  refine ⟨?_, ?_⟩
  · simp [Oper.about, ho, resolve, Target.leads, Sem.run_pure]
  · rw [Oper.semAt_plain F _ _ (by rw [ho]; intro c hc'; cases hc')]
    simp [execOp, ho, resolve, invoke, builtin, hs, hx, hrun, Result.andThen]
    exact hK _ _ (h A2 c2 w' h2 h3 h4)
/-- A slot, as it is handed on. -/
def slEnc (x : Nat) : Array Value := #[.int .i64 (x : Int)]
/-- A function that tells l, one by one, as far as it is asked, as long as its blocks are kept. -/
def ItQ {α : Type} (enc : α → Array Value) (g : Nat) (lb : Array Value) (l : List α) (Fi : Nat → Prop) (w : World) : Prop := ∀ R : Nat → Prop, (∀ k, Fi k → ¬ R k) → SeqStopsK Fence.wide 12 Try.prog g lb enc (Kept R) (fun xs => xs = l) (fun pre => pre <+: l) l.length w
namespace Pe
noncomputable def list (p : Pe) : List Nat := if p.may = true then slL p.o.toNat p.k.toNat p.m.toNat else []
noncomputable def atV (p : Pe) (i : Int) : Int := if p.may = true ∧ 0 ≤ i then (slN p.o.toNat p.k.toNat p.m.toNat i.toNat : Int) else -1
/-- At x stands the slot s. -/
def WhAt (p : Pe) (s : Int) (x : Nat) : Prop := p.may = true ∧ (x : Int) < p.m ∧ (slN p.o.toNat p.k.toNat p.m.toNat x : Int) = s
noncomputable def whV (p : Pe) (s : Int) : Int := open Classical in if h : ∃ x, p.WhAt s x then ((Classical.choose h : Nat) : Int) else -1
theorem Ok.list_ {p : Pe} {o k m : Nat} (h : p.Ok o k m) : p.list = slL o k m := by
  unfold list
  rw [if_pos h.may_, h.eo, h.ek, h.em]
  rfl
theorem Ok.at_ {p : Pe} {o k m : Nat} (h : p.Ok o k m) (i : Nat) : p.atV (i : Int) = (slN o k m i : Int) := by
  unfold atV
  rw [if_pos ⟨h.may_, by omega⟩, h.eo, h.ek, h.em]
  rfl
theorem Ok.wh {p : Pe} {o k m : Nat} (h : p.Ok o k m) {x : Nat} (hx : x < m) : p.whV (slN o k m x : Int) = (x : Int) := by
  have hz := szP_le h.sz
  have ha : p.WhAt (slN o k m x : Int) x := ⟨h.may_, by rw [h.em]; omega, by rw [h.eo, h.ek, h.em]; rfl⟩
  have hex : ∃ y, p.WhAt (slN o k m x : Int) y := ⟨x, ha⟩
  unfold whV
  rw [dif_pos hex]
  obtain ⟨_, h2, h3⟩ := Classical.choose_spec hex
  rw [h.em] at h2
  rw [h.eo, h.ek, h.em] at h3
  have h3 : slN o k m (Classical.choose hex) = slN o k m x := by
    have : ((slN o k m (Classical.choose hex) : Nat) : Int) = ((slN o k m x : Nat) : Int) := h3
    omega
  rw [slN_inj (by omega) hz.2.2 h.pk h.lk (by omega) hx h3]
theorem wh_no {p : Pe} {s : Int} (h : ∀ x, ¬ p.WhAt s x) : p.whV s = -1 := by
  unfold whV
  rw [dif_neg fun ⟨x, hx⟩ => h x hx]
end Pe
/-- What the laws ask of the program. -/
structure PeP (g : Nat) : Prop where
  eg : ∀ args w, (callFunc g args).run Try.prog w = .ok (.enter g args) w
  of : ∀ (n : Nat) (f : Nat → Int), Byt f → n ≤ 4611686018427387904 → ∀ (m : Int) (w : World), Calls Try.prog 6 #[.string (strOfNums (nums n f)), .int .i64 m] w (ret (.tuple #[.agg (peV n f m), .int .i64 (peE m)]) w)
  may : ∀ (p : Pe) (w : World), Calls Try.prog 8 #[.agg p.cells] w (ret (.bool p.may) w)
  at_ : ∀ (p : Pe) (i : Int) (w : World), Calls Try.prog 12 #[.agg p.cells, .int .i64 i] w (ret (.int .i64 (p.atV i)) w)
  wh : ∀ (p : Pe) (s : Int) (w : World), Calls Try.prog 13 #[.agg p.cells, .int .i64 s] w (ret (.int .i64 (p.whV s)) w)
  slots : ∀ (p : Pe) (w : World), Calls Try.prog 19 #[.agg p.cells] w fun e w' => ∃ lb Fi, e = .returned (.func (.func g) #[] lb) ∧ Below w.heap.size w w' ∧ (∀ k, Fi k → k < w'.heap.size ∧ w.heap.size ≤ k) ∧ ItQ slEnc g lb p.list Fi w'
end Go.Proofs.Ytdeghjhlbhpopaa
