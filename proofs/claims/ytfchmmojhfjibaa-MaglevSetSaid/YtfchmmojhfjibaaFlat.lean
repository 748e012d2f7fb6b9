/- How arguments that are structs (in structs) of numbers and flags, and slices of them, are opened: leaf by leaf, over any program. -/
import Derived.Test.YtfchmmojhfjibaaLaw
import Derived.Test.YtfchmmojhfjibaaVals
import Derived.ChangeArms
import Derived.DataReads
import Derived.Deep.Slices
namespace Go.Proofs.Ytfchmmojhfjibaa
open Go.ChangeShapes Go.WideShapes Go.ChangeAt Go.RowKit
/-- A leaf of a struct: a number, a flag, a string. -/
inductive Leaf where
  | num (k : IntKind)
  | flag
  | str
def Leaf.ok : Leaf → Value → Prop
  | .num k, v => ∃ x, v = .int k x ∧ (Lit.int k x).wf = true
  | .flag, v => ∃ b, v = .bool b
  | .str, v => ∃ S, v = .string S ∧ S.size ≤ maxLen
/-- The leaves of fields that lie one behind the other. -/
def flatFs (P : Program) (F : TypeId → Option (List Leaf)) : List Field → Nat → Option (List Leaf)
  | [], _ => some []
  | f :: r, o => match F f.type with
    | none => none
    | some a => if f.offset = o ∧ P.cellsOf f.type = a.length then (match flatFs P F r (o + a.length) with | none => none | some b => some (a ++ b)) else none
def flatK (P : Program) : Nat → TypeId → Option (List Leaf)
  | 0, _ => none
  | n + 1, t => match P.underlying t with
    | some (.int k) => some [.num k]
    | some .bool => some [.flag]
    | some .string => some [.str]
    | some (.struct fs) => (match flatFs P (flatK P n) fs.toList 0 with | none => none | some l => if P.cellsOf t = l.length then some l else none)
    | _ => none
section
variable {H : Type} {enc : TypeId × Value → H} {P : Program}
theorem flat_fields {cs : List Value} (F : TypeId → Option (List Leaf)) (T : TypeId → List Value → Prop) (hF : ∀ t a l, F t = some a → T t l → l.length = a.length ∧ ∀ (j : Nat) (k : Leaf), a[j]? = some k → ∃ v, l[j]? = some v ∧ k.ok v) :
    ∀ (fs : List Field) (o : Nat) (ks : List Leaf), flatFs P F fs o = some ks → (∀ f, f ∈ fs → T f.type ((cs.drop f.offset).take (P.cellsOf f.type))) → ∀ (j : Nat) (k : Leaf), ks[j]? = some k → ∃ v, (cs.drop o)[j]? = some v ∧ k.ok v
  | [], o, ks, h, _, j, k, hj => by
    simp [flatFs] at h
    subst h
    simp at hj
  | f :: r, o, ks, h, hT, j, k, hj => by
    unfold flatFs at h
    cases ha : F f.type with
    | none => rw [ha] at h; cases h
    | some a =>
      rw [ha] at h
      simp only at h
      by_cases hc : f.offset = o ∧ P.cellsOf f.type = a.length
      · rw [if_pos hc] at h
        cases hb : flatFs P F r (o + a.length) with
        | none => rw [hb] at h; cases h
        | some b =>
          rw [hb] at h
          simp only [Option.some.injEq] at h
          subst h
          obtain ⟨h1, h2⟩ := hc
          have q := hF _ _ _ ha (hT f (.head _))
          rw [h1, h2] at q
          rcases Nat.lt_or_ge j a.length with hlt | hge
          · rw [List.getElem?_append_left hlt] at hj
            obtain ⟨v, e1, e2⟩ := q.2 j k hj
            rw [List.getElem?_take, if_pos hlt] at e1
            exact ⟨v, e1, e2⟩
          · rw [List.getElem?_append_right hge] at hj
            obtain ⟨v, e1, e2⟩ := flat_fields F T hF r (o + a.length) b hb (fun g hg => hT g (.tail _ hg)) (j - a.length) k hj
            refine ⟨v, ?_, e2⟩
            rw [List.getElem?_drop] at e1 ⊢
            rw [← e1]
            congr 1
            omega
      · rw [if_neg hc] at h
        cases h
theorem trod_flat {W : World} {b : Nat} {sp : Nat → Bool} {hd : Bool} : ∀ (n : Nat) (t : TypeId) (ks : List Leaf) (cs : List Value) (m : Nat) (y : DataW H × List MemPlace), flatK P n t = some ks → DataW.trod enc P W b sp hd m t cs = some y →
    cs.length = ks.length ∧ ∀ (j : Nat) (k : Leaf), ks[j]? = some k → ∃ v, cs[j]? = some v ∧ k.ok v
  | 0, _, _, _, _, _, h, _ => by cases h
  | n + 1, t, ks, cs, m, y, h, ht => by
    unfold flatK at h
    split at h
    · rename_i k hu
      simp only [Option.some.injEq] at h
      subst h
      obtain ⟨x, rfl, _, hw⟩ := DataW.trod_int hu ht
      refine ⟨rfl, fun j k' hj => ?_⟩
      obtain rfl : j = 0 := by
        rcases j with _ | j
        · rfl
        · simp at hj
      simp at hj
      subst hj
      exact ⟨_, rfl, x, rfl, hw⟩
    · rename_i hu
      simp only [Option.some.injEq] at h
      subst h
      obtain ⟨x, rfl, _⟩ := DataW.trod_bool hu ht
      refine ⟨rfl, fun j k' hj => ?_⟩
      obtain rfl : j = 0 := by
        rcases j with _ | j
        · rfl
        · simp at hj
      simp at hj
      subst hj
      exact ⟨_, rfl, x, rfl⟩
    · rename_i hu
      simp only [Option.some.injEq] at h
      subst h
      obtain ⟨x, rfl, _, hx⟩ := DataW.trod_string hu ht
      refine ⟨rfl, fun j k' hj => ?_⟩
      obtain rfl : j = 0 := by
        rcases j with _ | j
        · rfl
        · simp at hj
      simp at hj
      subst hj
      exact ⟨_, rfl, x, rfl, hx⟩
    · rename_i fs hu
      cases hl : flatFs P (flatK P n) fs.toList 0 with
      | none => rw [hl] at h; cases h
      | some l =>
        rw [hl] at h
        simp only at h
        by_cases hc : P.cellsOf t = l.length
        · rw [if_pos hc] at h
          simp only [Option.some.injEq] at h
          subst h
          obtain ⟨xs, m', _, _, hlen, hxs, hg⟩ := DataW.trod_struct hu ht
          refine ⟨hlen.trans hc, fun j k hj => ?_⟩
          have q := flat_fields (P := P) (cs := cs) (flatK P n) (fun t l => ∃ y, DataW.trod enc P W b sp hd m' t l = some y) (fun t a l ha hy => by obtain ⟨y, hy⟩ := hy; exact trod_flat n t a l m' y ha hy) fs.toList 0 l hl
            (fun f hf => by
              obtain ⟨i, hi, he⟩ := List.getElem_of_mem hf
              have hi' : i < fs.size := by simpa using hi
              have e := hg i f (by rw [← Array.getElem?_toList, List.getElem?_eq_getElem hi, he])
              rw [List.getElem?_eq_getElem (by omega)] at e
              exact ⟨_, e⟩) j k hj
          rw [List.drop_zero] at q
          exact q
        · rw [if_neg hc] at h
          cases h
    · cases h
/-- A slice of such that came in. -/
theorem open_flats {W : World} {r : Reach} {b0 n : Nat} {t e : TypeId} {v : Value} {d : DataW H} {p : List MemPlace} {ks : List Leaf} (ht : P.underlying t = some (.slice e)) (hk : flatK P n e = some ks) (hc : P.cellsOf e = ks.length)
    (hv : Value.okWide P W r b0 t v) (h : DataW.Trod enc P W 0 (fun _ => true) true t v d p) :
    ∃ A len cap f, v = .slice A len cap ∧ len ≤ cap ∧ cap ≤ maxLen ∧ RdC W W.heap.size A (len * ks.length) f ∧ ∀ i, i < len → ∀ (j : Nat) (k : Leaf), ks[j]? = some k → k.ok (f (i * ks.length + j)) := by
  obtain ⟨a0, len, cap, rfl⟩ := okWide_slice ht hv
  obtain ⟨fuel, hf⟩ := h
  rcases Deep.open_slice ht hf with ⟨hcs, _⟩ | ⟨a, len', cap', m, n', D, Pl, hcs, _, hl, hm, hmm, _, hx⟩
  · simp [Value.cells] at hcs
    obtain ⟨rfl, rfl, rfl⟩ := hcs
    exact ⟨none, 0, 0, fun _ => undef, rfl, Nat.le_refl _, Nat.zero_le _, .inl (by simp), fun i hi => absurd hi (by omega)⟩
  · simp [Value.cells] at hcs
    obtain ⟨rfl, rfl, rfl⟩ := hcs
    simp only [if_true] at hmm
    subst hmm
    rw [hc] at hx
    obtain ⟨L, hL⟩ : ∃ L, L = ks.length := ⟨_, rfl⟩
    rw [← hL] at hx ⊢
    have cell : ∀ i, i < len → ∀ j, j < L → ∃ x, W.cell? (a.add (i * L + j)) = some x ∧ ∀ k, ks[j]? = some k → k.ok x := fun i hi j hj => by
      obtain ⟨cs', h1, h2⟩ := hx i (by omega)
      obtain ⟨_, h3, h4⟩ := World.cells?_some h1
      obtain ⟨_, h5⟩ := trod_flat n e ks cs' _ _ hk h2
      have hk' : ks[j]? = some (ks[j]'(by omega)) := List.getElem?_eq_getElem (by omega)
      obtain ⟨x, h6, h7⟩ := h5 j _ hk'
      refine ⟨x, ?_, fun k hkk => ?_⟩
      · have h8 := h4 j hj
        rw [h6] at h8
        rw [Deep.add_add] at h8
        exact h8
      · rw [hk'] at hkk
        simp only [Option.some.injEq] at hkk
        rw [← hkk]
        exact h7
    refine ⟨some a, len, _, fun k => (W.cell? (a.add k)).getD undef, rfl, hl, hm, ?_, fun i hi j k hj => ?_⟩
    · rcases Nat.eq_zero_or_pos (len * L) with h0 | h0
      · exact .inl h0
      · have hL0 : 0 < L := by
          rcases Nat.eq_zero_or_pos L with q | q
          · rw [q, Nat.mul_zero] at h0; omega
          · exact q
        have each : ∀ k, k < len * L → ∃ x, W.cell? (a.add k) = some x := fun k hk => by
          obtain ⟨x, hx', _⟩ := cell (k / L) (Nat.div_lt_of_lt_mul (by rw [Nat.mul_comm]; exact hk)) (k % L) (Nat.mod_lt _ hL0)
          rw [show k / L * L + k % L = k by rw [Nat.mul_comm]; exact Nat.div_add_mod k L] at hx'
          exact ⟨x, hx'⟩
        obtain ⟨b, off, spot⟩ := a
        obtain ⟨x0, e0⟩ := each 0 h0
        have hspot : spot = none := by simpa [Addr.add] using World.cell?_spot e0
        subst hspot
        have hlt := World.block_lt_of_cell? W _ e0
        refine .inr ⟨b, off, rfl, by simpa [Addr.add] using hlt, fun k hk => ?_⟩
        obtain ⟨x, e1⟩ := each k hk
        rw [← add_plain, e1]
        dsimp only
        rw [e1]
        rfl
    · have hjL : j < L := by
        rw [hL]
        exact (List.getElem?_eq_some_iff.1 hj).1
      obtain ⟨x, e1, e2⟩ := cell i hi j hjL
      show k.ok ((W.cell? (a.add (i * L + j))).getD undef)
      rw [e1]
      exact e2 k hj
end
end Go.Proofs.Ytfchmmojhfjibaa
