import Derived.Test.YtkmakdhlaenaoaaGm1
import Derived.Test.YtkmakdhlaenaoaaGm8
import Derived.ChangeArms
import Derived.DataReads
import Derived.Deep.Slices
import Derived.Test.YtkmakdhlaenaoaaRows
import Derived.Test.YtkmakdhlaenaoaaGm2
/- How arguments that are structs (in structs) of numbers and flags, and slices of them, are opened: leaf by leaf, over any program. -/
namespace Go.Proofs.Ytkmakdhlaenaoaa
open Go.ChangeShapes Go.WideShapes Go.ChangeAt Go.RowKit
/-- A leaf of a struct: a number, a flag. -/
inductive Leaf where
  | num (k : IntKind)
  | flag
def Leaf.ok : Leaf → Value → Prop
  | .num k, v => ∃ x, v = .int k x ∧ (Lit.int k x).wf = true
  | .flag, v => ∃ b, v = .bool b
/-- The leaves of fields that lie one behind the other. -/
def flatFs (P : Program) (F : TypeId → Option (List Leaf)) : List Field → Nat → Option (List Leaf)
  | [], _ => some []
  | f :: r, o => match F f.type with
    | none => none
    | some a => if f.offset = o ∧ P.cellsOf f.type = a.length then (match flatFs P F r (o + a.length) with | none => none | some b => some (a ++ b)) else none
def flatK (P : Program) : Nat → TypeId → Option (List Leaf)
  | 0, _ => none
  | n + 1, t => match P.underlying t with
    | some (.int k) => some [.num k]
    | some .bool => some [.flag]
    | some (.struct fs) => (match flatFs P (flatK P n) fs.toList 0 with | none => none | some l => if P.cellsOf t = l.length then some l else none)
    | _ => none
section
variable {H : Type} {enc : TypeId × Value → H} {P : Program}
theorem flat_fields {cs : List Value} (F : TypeId → Option (List Leaf)) (T : TypeId → List Value → Prop) (hF : ∀ t a l, F t = some a → T t l → l.length = a.length ∧ ∀ (j : Nat) (k : Leaf), a[j]? = some k → ∃ v, l[j]? = some v ∧ k.ok v) :
    ∀ (fs : List Field) (o : Nat) (ks : List Leaf), flatFs P F fs o = some ks → (∀ f, f ∈ fs → T f.type ((cs.drop f.offset).take (P.cellsOf f.type))) → ∀ (j : Nat) (k : Leaf), ks[j]? = some k → ∃ v, (cs.drop o)[j]? = some v ∧ k.ok v
  | [], o, ks, h, _, j, k, hj => by
    simp [flatFs] at h
    subst h
    simp at hj
  | f :: r, o, ks, h, hT, j, k, hj => by
    unfold flatFs at h
    cases ha : F f.type with
    | none => rw [ha] at h; cases h
    | some a =>
      rw [ha] at h
      simp only at h
      by_cases hc : f.offset = o ∧ P.cellsOf f.type = a.length
      · rw [if_pos hc] at h
        cases hb : flatFs P F r (o + a.length) with
        | none => rw [hb] at h; cases h
        | some b =>
          rw [hb] at h
          simp only [Option.some.injEq] at h
          subst h
          obtain ⟨h1, h2⟩ := hc
          have q := hF _ _ _ ha (hT f (.head _))
          rw [h1, h2] at q
          rcases Nat.lt_or_ge j a.length with hlt | hge
          · rw [List.getElem?_append_left hlt] at hj
            obtain ⟨v, e1, e2⟩ := q.2 j k hj
            rw [List.getElem?_take, if_pos hlt] at e1
            exact ⟨v, e1, e2⟩
          · rw [List.getElem?_append_right hge] at hj
            obtain ⟨v, e1, e2⟩ := flat_fields F T hF r (o + a.length) b hb (fun g hg => hT g (.tail _ hg)) (j - a.length) k hj
            refine ⟨v, ?_, e2⟩
            rw [List.getElem?_drop] at e1 ⊢
            rw [← e1]
            congr 1
            omega
      · rw [if_neg hc] at h
        cases h
theorem trod_flat {W : World} {b : Nat} {sp : Nat → Bool} {hd : Bool} : ∀ (n : Nat) (t : TypeId) (ks : List Leaf) (cs : List Value) (m : Nat) (y : DataW H × List MemPlace), flatK P n t = some ks → DataW.trod enc P W b sp hd m t cs = some y →
    cs.length = ks.length ∧ ∀ (j : Nat) (k : Leaf), ks[j]? = some k → ∃ v, cs[j]? = some v ∧ k.ok v
  | 0, _, _, _, _, _, h, _ => by cases h
  | n + 1, t, ks, cs, m, y, h, ht => by
    unfold flatK at h
    split at h
    · rename_i k hu
      simp only [Option.some.injEq] at h
      subst h
      obtain ⟨x, rfl, _, hw⟩ := DataW.trod_int hu ht
      refine ⟨rfl, fun j k' hj => ?_⟩
      obtain rfl : j = 0 := by
        rcases j with _ | j
        · rfl
        · simp at hj
      simp at hj
      subst hj
      exact ⟨_, rfl, x, rfl, hw⟩
    · rename_i hu
      simp only [Option.some.injEq] at h
      subst h
      obtain ⟨x, rfl, _⟩ := DataW.trod_bool hu ht
      refine ⟨rfl, fun j k' hj => ?_⟩
      obtain rfl : j = 0 := by
        rcases j with _ | j
        · rfl
        · simp at hj
      simp at hj
      subst hj
      exact ⟨_, rfl, x, rfl⟩
    · rename_i fs hu
      cases hl : flatFs P (flatK P n) fs.toList 0 with
      | none => rw [hl] at h; cases h
      | some l =>
        rw [hl] at h
        simp only at h
        by_cases hc : P.cellsOf t = l.length
        · rw [if_pos hc] at h
          simp only [Option.some.injEq] at h
          subst h
          obtain ⟨xs, m', _, _, hlen, hxs, hg⟩ := DataW.trod_struct hu ht
          refine ⟨hlen.trans hc, fun j k hj => ?_⟩
          have q := flat_fields (P := P) (cs := cs) (flatK P n) (fun t l => ∃ y, DataW.trod enc P W b sp hd m' t l = some y) (fun t a l ha hy => by obtain ⟨y, hy⟩ := hy; exact trod_flat n t a l m' y ha hy) fs.toList 0 l hl
            (fun f hf => by
              obtain ⟨i, hi, he⟩ := List.getElem_of_mem hf
              have hi' : i < fs.size := by simpa using hi
              have e := hg i f (by rw [← Array.getElem?_toList, List.getElem?_eq_getElem hi, he])
              rw [List.getElem?_eq_getElem (by omega)] at e
              exact ⟨_, e⟩) j k hj
          rw [List.drop_zero] at q
          exact q
        · rw [if_neg hc] at h
          cases h
    · cases h
/-- A struct that came in. -/
theorem open_flat {W : World} {r : Reach} {b0 n : Nat} {t : TypeId} {v : Value} {d : DataW H} {p : List MemPlace} {fs : Array Field} {ks : List Leaf} (ht : P.underlying t = some (.struct fs)) (hk : flatK P n t = some ks)
    (hv : Value.okWide P W r b0 t v) (h : DataW.Trod enc P W 0 (fun _ => true) true t v d p) : ∃ cs, v = .agg cs ∧ cs.size = ks.length ∧ ∀ (j : Nat) (k : Leaf), ks[j]? = some k → ∃ x, cs[j]? = some x ∧ k.ok x := by
  have hv' : ∃ cs, v = .agg cs := by
    simp only [Value.okWide, ht] at hv
    obtain ⟨cs, h1, _⟩ := hv
    exact ⟨cs, h1⟩
  obtain ⟨cs, rfl⟩ := hv'
  obtain ⟨fuel, hf⟩ := h
  obtain ⟨h1, h2⟩ := trod_flat n t ks _ _ _ hk hf
  simp only [Value.cells] at h1 h2
  exact ⟨cs, rfl, by simpa using h1, fun j k hj => by simpa using h2 j k hj⟩
/-- A slice of such that came in. -/
theorem open_flats {W : World} {r : Reach} {b0 n : Nat} {t e : TypeId} {v : Value} {d : DataW H} {p : List MemPlace} {ks : List Leaf} (ht : P.underlying t = some (.slice e)) (hk : flatK P n e = some ks) (hc : P.cellsOf e = ks.length)
    (hv : Value.okWide P W r b0 t v) (h : DataW.Trod enc P W 0 (fun _ => true) true t v d p) :
    ∃ A len cap f, v = .slice A len cap ∧ len ≤ cap ∧ cap ≤ maxLen ∧ RdC W W.heap.size A (len * ks.length) f ∧ ∀ i, i < len → ∀ (j : Nat) (k : Leaf), ks[j]? = some k → k.ok (f (i * ks.length + j)) := by
  obtain ⟨a0, len, cap, rfl⟩ := okWide_slice ht hv
  obtain ⟨fuel, hf⟩ := h
  rcases Deep.open_slice ht hf with ⟨hcs, _⟩ | ⟨a, len', cap', m, n', D, Pl, hcs, _, hl, hm, hmm, _, hx⟩
  · simp [Value.cells] at hcs
    obtain ⟨rfl, rfl, rfl⟩ := hcs
    exact ⟨none, 0, 0, fun _ => undef, rfl, Nat.le_refl _, Nat.zero_le _, .inl (by simp), fun i hi => absurd hi (by omega)⟩
  · simp [Value.cells] at hcs
    obtain ⟨rfl, rfl, rfl⟩ := hcs
    simp only [if_true] at hmm
    subst hmm
    rw [hc] at hx
    obtain ⟨L, hL⟩ : ∃ L, L = ks.length := ⟨_, rfl⟩
    rw [← hL] at hx ⊢
    have cell : ∀ i, i < len → ∀ j, j < L → ∃ x, W.cell? (a.add (i * L + j)) = some x ∧ ∀ k, ks[j]? = some k → k.ok x := fun i hi j hj => by
      obtain ⟨cs', h1, h2⟩ := hx i (by omega)
      obtain ⟨_, h3, h4⟩ := World.cells?_some h1
      obtain ⟨_, h5⟩ := trod_flat n e ks cs' _ _ hk h2
      have hk' : ks[j]? = some (ks[j]'(by omega)) := List.getElem?_eq_getElem (by omega)
      obtain ⟨x, h6, h7⟩ := h5 j _ hk'
      refine ⟨x, ?_, fun k hkk => ?_⟩
      · have h8 := h4 j hj
        rw [h6] at h8
        rw [Deep.add_add] at h8
        exact h8
      · rw [hk'] at hkk
        simp only [Option.some.injEq] at hkk
        rw [← hkk]
        exact h7
    refine ⟨some a, len, _, fun k => (W.cell? (a.add k)).getD undef, rfl, hl, hm, ?_, fun i hi j k hj => ?_⟩
    · rcases Nat.eq_zero_or_pos (len * L) with h0 | h0
      · exact .inl h0
      · have hL0 : 0 < L := by
          rcases Nat.eq_zero_or_pos L with q | q
          · rw [q, Nat.mul_zero] at h0; omega
          · exact q
        have each : ∀ k, k < len * L → ∃ x, W.cell? (a.add k) = some x := fun k hk => by
          obtain ⟨x, hx', _⟩ := cell (k / L) (Nat.div_lt_of_lt_mul (by rw [Nat.mul_comm]; exact hk)) (k % L) (Nat.mod_lt _ hL0)
          rw [show k / L * L + k % L = k by rw [Nat.mul_comm]; exact Nat.div_add_mod k L] at hx'
          exact ⟨x, hx'⟩
        obtain ⟨b, off, spot⟩ := a
        obtain ⟨x0, e0⟩ := each 0 h0
        have hspot : spot = none := by simpa [Addr.add] using World.cell?_spot e0
        subst hspot
        have hlt := World.block_lt_of_cell? W _ e0
        refine .inr ⟨b, off, rfl, by simpa [Addr.add] using hlt, fun k hk => ?_⟩
        obtain ⟨x, e1⟩ := each k hk
        rw [← add_plain, e1]
        dsimp only
        rw [e1]
        rfl
    · have hjL : j < L := by
        rw [hL]
        exact (List.getElem?_eq_some_iff.1 hj).1
      obtain ⟨x, e1, e2⟩ := cell i hi j hjL
      show k.ok ((W.cell? (a.add (i * L + j))).getD undef)
      rw [e1]
      exact e2 k hj
end
end Go.Proofs.Ytkmakdhlaenaoaa
/- Closed facts of this program, and the bounds that a number's kind gives. -/
namespace Go.Proofs.Ytkmakdhlaenaoaa
theorem Try.own : ownKnob Try.prog.godebug = none := by kernel_rfl
theorem Try.laidOut : laidOutB Try.prog = true := by kernel_rfl
theorem wf_u8 {x : Int} (h : (Lit.int .u8 x).wf = true) : 0 ≤ x ∧ x ≤ 255 := by
  simpa [Lit.wf, IntKind.min, IntKind.max, IntKind.signed, IntKind.bits] using h
theorem wf_u16 {x : Int} (h : (Lit.int .u16 x).wf = true) : 0 ≤ x ∧ x ≤ 65535 := by
  simpa [Lit.wf, IntKind.min, IntKind.max, IntKind.signed, IntKind.bits] using h
theorem wf_u32 {x : Int} (h : (Lit.int .u32 x).wf = true) : 0 ≤ x ∧ x ≤ 4294967295 := by
  simpa [Lit.wf, IntKind.min, IntKind.max, IntKind.signed, IntKind.bits] using h
theorem wf_u64 {x : Int} (h : (Lit.int .u64 x).wf = true) : 0 ≤ x ∧ x ≤ 18446744073709551615 := by
  simpa [Lit.wf, IntKind.min, IntKind.max, IntKind.signed, IntKind.bits] using h
theorem wf_i64 {x : Int} (h : (Lit.int .i64 x).wf = true) : -9223372036854775808 ≤ x ∧ x ≤ 9223372036854775807 := by
  simpa [Lit.wf, IntKind.min, IntKind.max, IntKind.signed, IntKind.bits] using h
end Go.Proofs.Ytkmakdhlaenaoaa
/- How a handle is opened, where it came in. -/
namespace Go.Proofs.Ytkmakdhlaenaoaa
open Go.ChangeShapes Go.WideShapes Go.ChangeAt Go.RowKit
set_option maxRecDepth 100000 in
theorem open_hnd {H : Type} {enc : TypeId × Value → H} {W : World} {r : Reach} {b0 : Nat} {v : Value} {d : DataW H} {p : List MemPlace} (hv : Value.okWide Try.prog W r b0 46 v) (h : DataW.Trod enc Try.prog W 0 (fun _ => true) true 46 v d p) :
    ∃ (i : Int) (k : Nat), (-9223372036854775808 ≤ i ∧ i ≤ 9223372036854775807) ∧ k ≤ 18446744073709551615 ∧ v = .agg #[.int .i64 i, .int .u64 (k : Int)] := by
  obtain ⟨cs, rfl, hsz, hc⟩ := open_flat (n := 9) (ks := [.num .i64, .num .u64]) Try.underlying46 (by kernel_rfl) hv h
  obtain ⟨_, h0, i, rfl, hi⟩ := hc 0 _ rfl
  obtain ⟨_, h1, k, rfl, hk⟩ := hc 1 _ rfl
  have hk' := wf_u64 hk
  obtain ⟨k, rfl⟩ := Int.eq_ofNat_of_zero_le hk'.1
  refine ⟨i, k, wf_i64 hi, by omega, ?_⟩
  congr 1
  refine Array.ext (by rw [hsz]; rfl) fun j hj _ => ?_
  rw [hsz] at hj
  have hj : j < 2 := hj
  rcases (show j = 0 ∨ j = 1 by omega) with rfl | rfl
  · rw [Array.getElem?_eq_getElem (by omega)] at h0
    injection h0
  · rw [Array.getElem?_eq_getElem (by omega)] at h1
    injection h1
end Go.Proofs.Ytkmakdhlaenaoaa
/- Stage 11: WheelDue's pure words: timers armed one by one, then ticks. -/
namespace Go.Proofs.Ytkmakdhlaenaoaa
section
variable (fr : Nat) (f : Nat → Nat)
/-- Behind j armings. -/
def dS : Nat → Wh
  | 0 => ⟨Ar.new 20, [], fr, 0⟩
  | j + 1 => (dS j).arm (fr + f j % 3000 + 1) j
/-- The timer of arming k. -/
def dE (k : Nat) : Tm := ⟨((dS fr f k).a.which).getD 0, (dS fr f k).a.serial + 1, fr + f k % 3000 + 1, k⟩
/-- Behind all armings and so many ticks. -/
def tS (n : Nat) : Nat → Wh
  | 0 => dS fr f n
  | m + 1 => (tS n m).tick
/-- Those that are due so many ticks ahead. -/
def dq (n m : Nat) : List Nat := (List.range n).filter fun k => decide (f k % 3000 = m)
/-- How many are not yet told. -/
def dc (n m : Nat) : Nat := ((List.range n).filter fun k => decide (m ≤ f k % 3000)).length
end
theorem dS_facts {fr : Nat} (hfr : fr ≤ 18446744073709547616) (f : Nat → Nat) : ∀ j, j ≤ 20 → (dS fr f j).Fit j ∧ (dS fr f j).now = fr ∧ (dS fr f j).a.has.length = 20 ∧ (dS fr f j).l = (List.range j).map (dE fr f)
  | 0, _ => by
    have h := (Wh.fit_new (n := 20) (by omega)).ok
    refine ⟨⟨⟨h.a, h.ent, h.all, h.nd, h.cnt, (fun t ht => nomatch ht), by show fr < _; omega⟩, by show (List.replicate 20 0).length ≤ _; rw [List.length_replicate]; omega, Nat.le_refl _, Nat.le_refl _, by omega⟩, rfl, List.length_replicate, rfl⟩
  | j + 1, hj => by
    obtain ⟨h1, h2, h3, h4⟩ := dS_facts hfr f j (by omega)
    have hm := Nat.mod_lt (f j) (show 0 < 3000 by omega)
    have ho : (dS fr f j).over (fr + f j % 3000 + 1) = false := by
      unfold Wh.over Wh.lastT
      rw [h2]
      simp
      omega
    have hw : ∃ i, (dS fr f j).a.which = some i := by
      cases hw : (dS fr f j).a.which with
      | some i => exact ⟨i, rfl⟩
      | none =>
        have := Ar.count_full hw
        rw [← h1.ok.cnt, h4, List.length_map, List.length_range, h3] at this
        omega
    obtain ⟨i, hw⟩ := hw
    have e : dS fr f (j + 1) = ⟨(dS fr f j).a.taken i, (dS fr f j).l ++ [⟨i, (dS fr f j).a.serial + 1, (dS fr f j).nxt (fr + f j % 3000 + 1), j⟩], (dS fr f j).now, (dS fr f j).tn + 1⟩ := by
      show (dS fr f j).arm _ _ = _
      unfold Wh.arm
      rw [ho, if_neg (by simp), hw]
    have en : (dS fr f j).nxt (fr + f j % 3000 + 1) = fr + f j % 3000 + 1 := by
      unfold Wh.nxt
      rw [h2, if_neg (by omega)]
    refine ⟨Wh.fit_arm h1 (by omega) (by omega) j, by rw [e]; exact h2, by rw [e]; exact List.length_set.trans h3, ?_⟩
    rw [e, List.range_succ, List.map_append, ← h4, en]
    show _ ++ _ = _ ++ [dE fr f j]
    unfold dE
    rw [hw]
    rfl
theorem dS_arm {fr : Nat} (hfr : fr ≤ 18446744073709547616) (f : Nat → Nat) {j : Nat} (hj : j < 20) : (dS fr f j).armE (fr + f j % 3000 + 1) = 0 := by
  obtain ⟨h1, h2, h3, h4⟩ := dS_facts hfr f j (by omega)
  have hm := Nat.mod_lt (f j) (show 0 < 3000 by omega)
  have ho : (dS fr f j).over (fr + f j % 3000 + 1) = false := by
    unfold Wh.over Wh.lastT
    rw [h2]
    simp
    omega
  unfold Wh.armE
  rw [ho, if_neg (by simp)]
  cases hw : (dS fr f j).a.which with
  | some i => rfl
  | none =>
    have := Ar.count_full hw
    rw [← h1.ok.cnt, h4, List.length_map, List.length_range, h3] at this
    omega
theorem tS_facts {fr : Nat} (hfr : fr ≤ 18446744073709547616) (f : Nat → Nat) {n : Nat} (hn : n ≤ 20) : ∀ m, m ≤ 3000 → (tS fr f n m).Fit n ∧ (tS fr f n m).now = fr + m ∧ (tS fr f n m).l = ((List.range n).filter fun k => decide (m ≤ f k % 3000)).map (dE fr f)
  | 0, _ => by
    obtain ⟨h1, h2, h3, h4⟩ := dS_facts hfr f n hn
    refine ⟨h1, h2, ?_⟩
    show (dS fr f n).l = _
    rw [h4]
    congr 1
    exact (List.filter_eq_self.2 fun k _ => by simp).symm
  | m + 1, hm => by
    obtain ⟨h1, h2, h3⟩ := tS_facts hfr f hn m (by omega)
    have hl : ¬ (tS fr f n m).now = Wh.lastT := by
      rw [h2]
      unfold Wh.lastT
      omega
    have e : tS fr f n (m + 1) = (tS fr f n m).ticked := if_neg hl
    refine ⟨Wh.fit_tick h1, by rw [e]; show (tS fr f n m).now + 1 = _; omega, ?_⟩
    rw [e]
    show (tS fr f n m).stay = _
    unfold Wh.stay
    rw [h3, h2, List.filter_map, List.filter_filter]
    congr 1
    refine List.filter_congr fun k _ => ?_
    show ((!decide (fr + f k % 3000 + 1 = fr + m + 1)) && decide (m ≤ f k % 3000)) = decide (m + 1 ≤ f k % 3000)
    by_cases q1 : f k % 3000 = m
    · simp [q1]
    · by_cases q2 : m ≤ f k % 3000
      · have q3 : m + 1 ≤ f k % 3000 := by omega
        have q4 : ¬ fr + f k % 3000 + 1 = fr + m + 1 := by omega
        simp only [q2, q3, q4, decide_true, decide_false, Bool.not_false, Bool.and_true]
      · have q3 : ¬ m + 1 ≤ f k % 3000 := by omega
        simp only [q2, q3, decide_false, Bool.and_false]
theorem tS_told {fr : Nat} (hfr : fr ≤ 18446744073709547616) (f : Nat → Nat) {n : Nat} (hn : n ≤ 20) {m : Nat} (hm : m < 3000) : (tS fr f n m).told = (dq f n m).map (dE fr f) ∧ (tS fr f n m).tickE = 0 := by
  obtain ⟨h1, h2, h3⟩ := tS_facts hfr f hn m (by omega)
  have hl : ¬ (tS fr f n m).now = Wh.lastT := by
    rw [h2]
    unfold Wh.lastT
    omega
  refine ⟨?_, if_neg hl⟩
  have e : (tS fr f n m).told = (tS fr f n m).fires := if_neg hl
  rw [e]
  unfold Wh.fires dq
  rw [h3, h2, List.filter_map, List.filter_filter]
  congr 1
  refine List.filter_congr fun k _ => ?_
  show (decide (fr + f k % 3000 + 1 = fr + m + 1) && decide (m ≤ f k % 3000)) = decide (f k % 3000 = m)
  by_cases q1 : f k % 3000 = m
  · simp [q1]
  · have q4 : ¬ fr + f k % 3000 + 1 = fr + m + 1 := by omega
    simp only [q1, q4, decide_false, Bool.false_and]
theorem tS_len {fr : Nat} (hfr : fr ≤ 18446744073709547616) (f : Nat → Nat) {n : Nat} (hn : n ≤ 20) {m : Nat} (hm : m ≤ 3000) : (tS fr f n m).l.length = dc f n m := by
  rw [(tS_facts hfr f hn m hm).2.2, List.length_map]
  rfl
theorem dq_succ (f : Nat → Nat) (i m : Nat) : dq f (i + 1) m = if f i % 3000 = m then dq f i m ++ [i] else dq f i m := by
  unfold dq
  rw [List.range_succ, List.filter_append]
  by_cases h : f i % 3000 = m
  · simp [h]
  · simp [h]
theorem dq_pre (f : Nat → Nat) (m i : Nat) : ∀ n, i ≤ n → dq f i m <+: dq f n m
  | 0, h => by
    rw [show i = 0 by omega]
    exact List.prefix_rfl
  | n + 1, h => by
    rcases Nat.lt_or_ge n i with q | q
    · rw [show i = n + 1 by omega]
      exact List.prefix_rfl
    · refine (dq_pre f m i n q).trans ?_
      rw [dq_succ]
      split
      · exact List.prefix_append _ _
      · exact List.prefix_rfl
theorem dq_get (f : Nat → Nat) {m i n : Nat} (hi : i < n) (h : f i % 3000 = m) : (dq f n m)[(dq f i m).length]? = some i := by
  obtain ⟨t, ht⟩ := dq_pre f m (i + 1) n hi
  rw [← ht, dq_succ, if_pos h, List.append_assoc, List.getElem?_append_right (Nat.le_refl _), Nat.sub_self]
  rfl
theorem dq_le (f : Nat → Nat) (n m : Nat) : (dq f n m).length ≤ n := by
  have := List.length_filter_le (fun k => decide (f k % 3000 = m)) (List.range n)
  rw [List.length_range] at this
  exact this
theorem dc_split (f : Nat → Nat) (n m : Nat) : dc f n m = (dq f n m).length + dc f n (m + 1) := by
  unfold dc dq
  induction n with
  | zero => rfl
  | succ n ih =>
    rw [List.range_succ, List.filter_append, List.filter_append, List.filter_append, List.length_append, List.length_append, List.length_append, ih]
    by_cases h1 : f n % 3000 = m
    · have e1 : decide (f n % 3000 = m) = true := decide_eq_true h1
      have e2 : decide (m ≤ f n % 3000) = true := decide_eq_true (by omega)
      have e3 : decide (m + 1 ≤ f n % 3000) = false := decide_eq_false (by omega)
      simp only [List.filter_cons, List.filter_nil, e1, e2, e3, if_true, List.length_cons, List.length_nil]
      simp only [Bool.false_eq_true, if_false, List.length_nil]
      omega
    · by_cases h2 : m ≤ f n % 3000
      · have h3 : m + 1 ≤ f n % 3000 := by omega
        simp [h1, h2, h3]
        omega
      · have h3 : ¬ m + 1 ≤ f n % 3000 := by omega
        simp [h1, h2, h3]
theorem dc_last (f : Nat → Nat) (n : Nat) : dc f n 3000 = 0 := by
  unfold dc
  rw [List.length_eq_zero_iff, List.filter_eq_nil_iff]
  intro k _
  have := Nat.mod_lt (f k) (show 0 < 3000 by omega)
  simp
  omega
theorem dc_first (f : Nat → Nat) (n : Nat) : dc f n 0 = n := by
  unfold dc
  rw [List.filter_eq_self.2 fun k _ => by simp, List.length_range]
theorem dc_le (f : Nat → Nat) (n m : Nat) : dc f n m ≤ n := by
  have := List.length_filter_le (fun k => decide (m ≤ f k % 3000)) (List.range n)
  rw [List.length_range] at this
  exact this
end Go.Proofs.Ytkmakdhlaenaoaa
