/- Regions that draw their order, over any program: operations that turn nothing old (calls, loads, new memory) are each told once, by what they yield and what holds of it ever after; the last ones, which wait for all of those, are walked behind them. -/
import Derived.Test.YtfchmmojhfjibaaBytes
import Derived.Orders
namespace Go.Proofs.Ytfchmmojhfjibaa
open Go Go.RowKit
section
variable {P : Program} {ops : Array Oper} {Q : Exit → Act → World → Prop} {C : World → Prop}
/-- What holds of a slot's value. -/
abbrev Fact := Value → World → Prop
/-- One operation: it yields a value of which r holds, and turns nothing old. -/
def grows (P : Program) (Q : Exit → Act → World → Prop) (C : World → Prop) (o : Oper) (a : Act) (w : World) (r : Fact) : Prop :=
  o.wp P a w (fun a' w' => ∃ v, a' = a.put o.dst v ∧ r v w' ∧ Below w.heap.size w w' ∧ C w') Q
/-- Each operation, in whatever frame tells of the slots that it looks at what is known of them. -/
def each (P : Program) (ops : Array Oper) (Q : Exit → Act → World → Prop) (C : World → Prop) : List Oper → List Fact → (Tmp → Fact) → Prop
  | [], _, _ => True
  | _ :: _, [], _ => False
  | o :: os, r :: rs, F => (∀ a w, C w → (∀ d, d ∈ o.looksAt ops → F d (a.tmps.getD d undef) w) → grows P Q C o a w r) ∧ each P ops Q C os rs (fun d => if o.dst = some d then r else F d)
/-- What stands behind them: any values of which the facts hold. -/
def behind (C : World → Prop) (K : Act → World → Prop) : List Oper → List Fact → Act → (World → Prop) → Prop
  | [], _, a, H => ∀ w, C w → H w → K a w
  | _ :: _, [], _, _ => False
  | o :: os, r :: rs, a, H => ∀ v, behind C K os rs (a.put o.dst v) (fun w => H w ∧ r v w)
/-- Does operation i wait for j? -/
def waits (ops : Array Oper) : Nat → Nat → Nat → Bool
  | 0, _, _ => false
  | fuel + 1, i, j => match ops[i]? with
    | none => false
    | some o => o.after.any (fun e => Region.binds .any e && e.on == j) || o.after.any fun e => Region.binds .any e && waits ops fuel e.on j
/-- The first k of n. -/
def firsts (n k : Nat) : Array Bool := ((List.range n).map fun i => decide (i < k)).toArray
/-- Head number i: it stands alone in its slot, waits for those behind whose slots it looks, and for none behind it. -/
def headB (ops : Array Oper) (m size i : Nat) : Bool :=
  match ops[i]? with
  | none => false
  | some o => o.guard.isNone && (match o.dst with
      | none => false
      | some d => decide (d < size) && (List.range m).all (fun j => j == i || (ops[j]?).all fun oj => oj.dst != some d)) &&
    o.after.all (fun e => !Region.binds .any e || decide (e.on < i)) &&
    (o.looksAt ops).all fun d => (List.range m).all fun j => (ops[j]?).all fun oj => oj.dst != some d || (decide (j < i) && o.after.any fun e => Region.binds .any e && e.on == j)
def growB (ops : Array Oper) (m size : Nat) : Bool :=
  decide (m ≤ ops.size) && (List.range m).all (headB ops m size) &&
  (List.range ops.size).all (fun i => decide (i < m) || ((List.range m).all (waits ops ops.size i) && Region.ready .any ops (firsts ops.size i) == [i])) &&
  (Region.ready .any ops (firsts ops.size ops.size)).isEmpty
theorem firsts_get {n k i : Nat} (d : Bool) : (firsts n k).getD i d = if i < n then decide (i < k) else d := by
  unfold firsts
  by_cases h : i < n
  · simp [h]
  · simp [h]
theorem firsts_set {n k : Nat} (h : k < n) : (firsts n k).setIfInBounds k true = firsts n (k + 1) := by
  apply Array.ext_getElem?
  intro j
  by_cases hj : j < n
  · by_cases e : k = j
    · subst e
      simp [firsts, h]
    · rw [Array.getElem?_setIfInBounds_ne e]
      have : decide (j < k) = decide (j < k + 1) := by
        by_cases q : j < k
        · simp [q]; omega
        · simp [q]; omega
      simp [firsts, hj, this]
  · have e : k ≠ j := by omega
    rw [Array.getElem?_setIfInBounds_ne e]
    simp [firsts, hj]
def closed (ops : Array Oper) (listed : Array Bool) : Prop := ∀ k o, ops[k]? = some o → listed.getD k false = true → ∀ e ∈ o.after, Region.binds .any e = true → listed.getD e.on false = true
theorem waits_spec {listed : Array Bool} (hc : closed ops listed) : ∀ fuel i j, (∀ o, ops[i]? = some o → ∀ e ∈ o.after, Region.binds .any e = true → listed.getD e.on false = true) → waits ops fuel i j = true → listed.getD j false = true
  | 0, _, _, _, h => by simp [waits] at h
  | fuel + 1, i, j, hi, h => by
    unfold waits at h
    cases ho : ops[i]? with
    | none => simp [ho] at h
    | some o =>
      simp only [ho, Bool.or_eq_true, Array.any_eq_true', Bool.and_eq_true, beq_iff_eq] at h
      rcases h with ⟨e, he, hb, h⟩ | ⟨e, he, hb, h⟩
      · rw [← h]; exact hi o ho e he hb
      · exact waits_spec hc fuel e.on j (fun o' ho' => hc e.on o' ho' (hi o ho e he hb)) h
/-- What is known behind some of the heads. -/
structure Told (ops : Array Oper) (m : Nat) (C : World → Prop) (R : Nat → Fact) (a0 : Act) (listed : Array Bool) (a : Act) (w : World) : Prop where
  size : listed.size = ops.size
  tail : ∀ i, m ≤ i → listed.getD i false = false
  closed : closed ops listed
  cls : C w
  asize : a.tmps.size = a0.tmps.size
  defers : a.defers = a0.defers
  told : ∀ k o d, k < m → ops[k]? = some o → listed.getD k false = true → o.dst = some d → R k (a.tmps.getD d undef) w
  rest : ∀ d, (∀ k o, k < m → ops[k]? = some o → listed.getD k false = true → o.dst ≠ some d) → a.tmps[d]? = a0.tmps[d]?
/-- What is known of a slot, at operation k. -/
def factAt (ops : Array Oper) (R : Nat → Fact) (a0 : Act) : Nat → Tmp → Fact
  | 0, d => fun v _ => v = a0.tmps.getD d undef
  | k + 1, d => if (ops[k]?).bind (·.dst) = some d then R k else factAt ops R a0 k d
theorem put_size (a : Act) (d : Option Tmp) (v : Value) : (a.put d v).tmps.size = a.tmps.size := by cases d <;> simp [Act.put]
theorem put_defers (a : Act) (d : Option Tmp) (v : Value) : (a.put d v).defers = a.defers := by cases d <;> rfl
theorem put_same {a : Act} {d : Tmp} (v : Value) (h : d < a.tmps.size) : (a.put (some d) v).tmps[d]? = some v := by simp [Act.put, h]
theorem put_other {a : Act} {d t : Tmp} (v : Value) (h : d ≠ t) : (a.put (some d) v).tmps[t]? = a.tmps[t]? := by simp [Act.put, Array.getElem?_setIfInBounds_ne h]
theorem getD_congr {x y : Array Value} {d : Tmp} (h : x[d]? = y[d]?) : x.getD d undef = y.getD d undef := by
  simp [h]
theorem headB_spec {m size i : Nat} {o : Oper} (ho : ops[i]? = some o) (h : headB ops m size i = true) :
    o.guard = none ∧ (∃ d, o.dst = some d ∧ d < size ∧ ∀ j oj, j < m → j ≠ i → ops[j]? = some oj → oj.dst ≠ some d) ∧ (∀ e ∈ o.after, Region.binds .any e = true → e.on < i) ∧
    ∀ d, d ∈ o.looksAt ops → ∀ j oj, j < m → ops[j]? = some oj → oj.dst = some d → j < i ∧ ∃ e ∈ o.after, Region.binds .any e = true ∧ e.on = j := by
  unfold headB at h
  simp only [ho, Bool.and_eq_true] at h
  obtain ⟨⟨⟨h1, h2⟩, h3⟩, h4⟩ := h
  refine ⟨by simpa using h1, ?_, ?_, ?_⟩
  · cases hd : o.dst with
    | none => simp [hd] at h2
    | some d =>
      simp only [hd, Bool.and_eq_true, decide_eq_true_eq, List.all_eq_true, List.mem_range, Bool.or_eq_true, beq_iff_eq] at h2
      refine ⟨d, rfl, h2.1, fun j oj hj hne hoj => ?_⟩
      have := (h2.2 j hj).resolve_left hne
      simpa [hoj] using this
  · intro e he hb
    rw [Array.all_eq_true'] at h3
    have := h3 e he
    simpa [hb] using this
  · intro d hd j oj hj hoj hdj
    rw [List.all_eq_true] at h4
    have := h4 d hd
    rw [List.all_eq_true] at this
    have := this j (List.mem_range.2 hj)
    simp only [hoj, Option.all_some, hdj, bne_self_eq_false, Bool.false_or, Bool.and_eq_true, decide_eq_true_eq, Array.any_eq_true', beq_iff_eq] at this
    obtain ⟨h5, e, he, hb, hon⟩ := this
    exact ⟨h5, e, he, hb, hon⟩
theorem factAt_told {m : Nat} {R : Nat → Fact} {a0 a : Act} {listed : Array Bool} {w : World} (hT : Told ops m C R a0 listed a w) {d : Tmp}
    (hd : ∀ j oj, j < m → ops[j]? = some oj → oj.dst = some d → listed.getD j false = true) : ∀ k, k ≤ m → (∀ j oj, j < m → k ≤ j → ops[j]? = some oj → oj.dst ≠ some d) → factAt ops R a0 k d (a.tmps.getD d undef) w
  | 0, _, hk => by
    show a.tmps.getD d undef = a0.tmps.getD d undef
    exact getD_congr (hT.rest d fun k o hkm ho _ => hk k o hkm (Nat.zero_le _) ho)
  | k + 1, hm, hk => by
    unfold factAt
    split
    · rename_i h
      cases ho : ops[k]? with
      | none => simp [ho] at h
      | some o =>
        simp [ho] at h
        exact hT.told k o d hm ho (hd k o hm ho h) h
    · rename_i h
      exact factAt_told hT hd k (by omega) fun j oj hj hkj hoj => by
        by_cases e : j = k
        · subst e; intro q; apply h; simp [hoj, q]
        · exact hk j oj hj (by omega) hoj
/-- All heads are listed. -/
theorem told_all {m : Nat} {R : Nat → Fact} {a0 a : Act} {listed : Array Bool} {w : World} (hT : Told ops m C R a0 listed a w) (_ : m ≤ ops.size) (h : ∀ i, i < m → listed.getD i false = true) : listed = firsts ops.size m := by
  apply Array.ext_getElem?
  intro j
  by_cases hj : j < ops.size
  · have hs : j < listed.size := by rw [hT.size]; exact hj
    have e : listed[j]? = some (listed.getD j false) := by simp [hs]
    rw [e]
    by_cases q : j < m
    · rw [h j q]
      simp [firsts, hj, q]
    · rw [hT.tail j (by omega)]
      simp [firsts, hj, q]
  · rw [Array.getElem?_eq_none (by rw [hT.size]; omega)]
    simp [firsts, hj]
/-- Whatever order is picked: the heads first, in any order, then what waits for them. -/
theorem wpAny_heads {m : Nat} {R : Nat → Fact} {a0 : Act} (hB : growB ops m a0.tmps.size = true) (hst : ∀ k v w w', R k v w → Below w.heap.size w w' → R k v w')
    (hO : ∀ k o, k < m → ops[k]? = some o → ∀ a w, C w → (∀ d, d ∈ o.looksAt ops → factAt ops R a0 k d (a.tmps.getD d undef) w) → grows P Q C o a w (R k))
    (hF : ∀ a w, Told ops m C R a0 (firsts ops.size m) a w → wpAny P .any ops Q (ops.size - m) (firsts ops.size m) a w) :
    ∀ (fuel : Nat) (listed : Array Bool) (a : Act) (w : World), Told ops m C R a0 listed a w → fuel + (listed.toList.countP (· == true)) = ops.size → wpAny P .any ops Q fuel listed a w := by
  unfold growB at hB
  simp only [Bool.and_eq_true, decide_eq_true_eq, List.all_eq_true, List.mem_range, Bool.or_eq_true, beq_iff_eq] at hB
  obtain ⟨⟨⟨hm, hH⟩, hW⟩, hE⟩ := hB
  intro fuel
  induction fuel with
  | zero =>
    intro listed a w hT hc
    have hall : ∀ i, i < ops.size → listed.getD i false = true := by
      intro i hi
      have h1 : listed.toList.countP (· == true) = listed.toList.length := by rw [Array.length_toList, hT.size]; omega
      rw [List.countP_eq_length] at h1
      have hs : i < listed.size := by rw [hT.size]; exact hi
      have := h1 listed[i] (by simp)
      simp at this
      simp [hs, this]
    have hmn : m = ops.size := by
      rcases Nat.lt_or_ge m ops.size with h | h
      · have := hT.tail m (Nat.le_refl _)
        rw [hall m h] at this
        cases this
      · omega
    have e := told_all hT hm fun i hi => hall i (by omega)
    subst e
    have := hF a w hT
    rwa [show ops.size - m = 0 by omega] at this
  | succ fuel ih =>
    intro listed a w hT hc
    by_cases hall : ∀ i, i < m → listed.getD i false = true
    · have e := told_all hT hm hall
      have hcount : (firsts ops.size m).toList.countP (· == true) = m := by
        unfold firsts
        have key : ∀ n k, k ≤ n → ((List.range n).map fun i => decide (i < k)).countP (· == true) = k := by
          intro n
          induction n with
          | zero => intro k hk; simp; omega
          | succ n ihn =>
            intro k hk
            rw [List.range_succ, List.map_append, List.countP_append]
            by_cases q : k ≤ n
            · rw [ihn k q]
              simp
              omega
            · have : k = n + 1 := by omega
              subst this
              have e2 : (List.range n).map (fun i => decide (i < n + 1)) = (List.range n).map (fun i => decide (i < n)) := List.map_congr_left fun i hi => by
                simp at hi
                simp [hi]
                omega
              rw [e2, ihn n (Nat.le_refl _)]
              simp
        exact key _ _ hm
      subst e
      rw [hcount] at hc
      have := hF a w hT
      rwa [show ops.size - m = fuel + 1 by omega] at this
    · -- some head is left: the first one of them may come up
      obtain ⟨i0, hi0, hun0, hleast⟩ : ∃ i, i < m ∧ listed.getD i false = false ∧ ∀ j, j < i → listed.getD j false = true := by
        have : ∃ i, i < m ∧ listed.getD i false = false := by
          apply Classical.byContradiction
          intro hno
          exact hall fun i hi => by
            cases hq : listed.getD i false with
            | true => rfl
            | false => exact absurd ⟨i, hi, hq⟩ hno
        clear hall
        obtain ⟨i, hi, hq⟩ := this
        induction i using Nat.strongRecOn with
        | ind i ihi =>
          by_cases hex : ∃ j, j < i ∧ listed.getD j false = false
          · obtain ⟨j, hj, hjq⟩ := hex
            exact ihi j hj (by omega) hjq
          · refine ⟨i, hi, hq, fun j hj => ?_⟩
            cases hjq : listed.getD j false with
            | true => rfl
            | false => exact absurd ⟨j, hj, hjq⟩ hex
      have hflip : ∀ i, i < ops.size → ∀ d d', listed.getD i d = listed.getD i d' := fun i hi d d' => by
        have hs : i < listed.size := by rw [hT.size]; exact hi
        simp [hs]
      have hready0 : i0 ∈ Region.ready .any ops listed := by
        have ho : ops[i0]? = some ops[i0] := Array.getElem?_eq_getElem (by omega)
        refine mem_ready.2 ⟨by rw [hflip i0 (by omega) true false]; exact hun0, _, ho, fun e he hb => hleast _ ?_⟩
        exact (headB_spec ho (hH i0 hi0)).2.2.1 e he hb
      refine ⟨fun h => (by rw [h] at hready0; cases hready0), fun i hi => ?_⟩
      obtain ⟨hun, o, ho, hafter⟩ := mem_ready.1 hi
      have hin : i < ops.size := (Array.getElem?_eq_some_iff.1 ho).1
      have him : i < m := by
        rcases Nat.lt_or_ge i m with h | h
        · exact h
        · have hw := ((hW i hin).resolve_left (by omega)).1 i0 hi0
          have := waits_spec hT.closed _ i i0 (fun o' ho' e he hb => by rw [ho] at ho'; injection ho' with ho'; subst ho'; exact hafter e he hb) hw
          rw [this] at hun0
          cases hun0
      obtain ⟨hg, ⟨d, hd, hds, hdist⟩, hlow, hlook⟩ := headB_spec ho (hH i him)
      have hob := hO i o him ho a w hT.cls (fun t ht => factAt_told hT (fun j oj hj hoj hdj => by
          obtain ⟨_, e, he, hb, hon⟩ := hlook t ht j oj hj hoj hdj
          rw [← hon]; exact hafter e he hb) i (by omega) (fun j oj hj hij hoj hdj => by
          obtain ⟨hlt, _⟩ := hlook t ht j oj hj hoj hdj
          omega))
      unfold wpOp
      simp only [ho, Region.wanted, hg, if_true]
      refine .inl (Oper.wp_mono ?_ hob)
      rintro a' w' ⟨v, rfl, hr, hbl, hcl⟩
      have hs : i < listed.size := by rw [hT.size]; exact hin
      have hset : ∀ j, (listed.setIfInBounds i true).getD j false = if j = i then true else listed.getD j false := fun j => by
        by_cases e : j = i
        · subst e; simp [hs]
        · rw [getD_set_ne false (Ne.symm e), if_neg e]
      have hunF : listed.getD i false = false := by rw [hflip i hin false true]; exact hun
      refine ih _ _ _ ?_ ?_
      · constructor
        · simp [hT.size]
        · intro j hj
          rw [hset, if_neg (by omega)]
          exact hT.tail j hj
        · intro k ok hok hk e he hb
          rw [hset] at hk ⊢
          by_cases hki : k = i
          · subst hki
            rw [ho] at hok; injection hok with hok; subst hok
            split
            · rfl
            · exact hafter e he hb
          · rw [if_neg hki] at hk
            split
            · rfl
            · exact hT.closed k ok hok hk e he hb
        · exact hcl
        · rw [put_size, hT.asize]
        · rw [put_defers, hT.defers]
        · intro k ok dk hk hok hkl hdk
          rw [hset] at hkl
          by_cases hki : k = i
          · subst hki
            rw [ho] at hok; injection hok with hok; subst hok
            rw [hd] at hdk; injection hdk with hdk; subst hdk
            have hv : (a.put o.dst v).tmps.getD d undef = v := by
              rw [hd]
              have := put_same (a := a) (d := d) v (by rw [hT.asize]; exact hds)
              simp [this]
            rw [hv]
            exact hr
          · rw [if_neg hki] at hkl
            have hne : d ≠ dk := fun e => by
              subst e
              exact hdist k ok hk hki hok hdk
            have hv : (a.put o.dst v).tmps.getD dk undef = a.tmps.getD dk undef := by
              rw [hd]
              exact getD_congr (put_other v hne)
            rw [hv]
            exact hst k _ w w' (hT.told k ok dk hk hok hkl hdk) hbl
        · intro t ht
          have hne : d ≠ t := fun e => by
            subst e
            exact ht i o him ho (by rw [hset, if_pos rfl]) hd
          rw [hd, put_other v hne]
          exact hT.rest t fun k ok hk hok hkl => ht k ok hk hok (by rw [hset]; split <;> first | rfl | exact hkl)
      · have hcnt : (listed.setIfInBounds i true).toList.countP (· == true) = listed.toList.countP (· == true) + 1 := by
          rw [Array.toList_setIfInBounds, List.countP_set (by simpa using hs)]
          have hl : listed.toList[i]'(by simpa using hs) = false := by
            have : listed[i]'hs = false := by simpa [hs] using hunF
            simpa using this
          simp [hl]
        rw [hcnt]
        omega
theorem each_at {R : Nat → Fact} {a0 : Act} : ∀ (l : List Oper) (rs : List Fact) (k0 : Nat) (F : Tmp → Fact), (∀ j, j < l.length → l[j]? = ops[k0 + j]?) → F = factAt ops R a0 k0 → (∀ j r, rs[j]? = some r → R (k0 + j) = r) →
    each P ops Q C l rs F → ∀ j o, j < l.length → ops[k0 + j]? = some o → ∀ a w, C w → (∀ d, d ∈ o.looksAt ops → factAt ops R a0 (k0 + j) d (a.tmps.getD d undef) w) → grows P Q C o a w (R (k0 + j))
  | [], _, _, _, _, _, _, _, _, _, hj, _, _, _, _, _ => by simp at hj
  | _ :: _, [], _, _, _, _, _, h, _, _, _, _, _, _, _, _ => h.elim
  | o :: l, r :: rs, k0, F, hl, hF, hR, h, 0, o', _, ho, a, w, hC, hd => by
    have e := hl 0 (by simp)
    simp only [List.getElem?_cons_zero, Nat.add_zero] at e ho
    rw [← e] at ho
    injection ho with ho
    subst ho
    rw [hR 0 r rfl]
    exact h.1 a w hC (by rw [hF]; exact hd)
  | o :: l, r :: rs, k0, F, hl, hF, hR, h, j + 1, o', hj, ho, a, w, hC, hd => by
    have e0 := hl 0 (by simp)
    simp only [List.getElem?_cons_zero, Nat.add_zero] at e0
    have ek : k0 + (j + 1) = k0 + 1 + j := by omega
    rw [ek] at ho hd ⊢
    refine each_at l rs (k0 + 1) _ (fun i hi => ?_) ?_ (fun i r' hr' => ?_) h.2 j o' (by simpa using hj) ho a w hC hd
    · have := hl (i + 1) (by simpa using hi)
      simpa [Nat.add_assoc, Nat.add_comm 1 i] using this
    · funext d
      have hr0 : R k0 = r := hR 0 r rfl
      unfold factAt
      rw [← e0, hr0, hF]
      simp only [Option.bind_some]
    · have := hR (i + 1) r' hr'
      rwa [show k0 + (i + 1) = k0 + 1 + i by omega] at this
theorem behind_at {K : Act → World → Prop} {m : Nat} {R : Nat → Fact} {a0 a : Act} {w : World} (hT : Told ops m C R a0 (firsts ops.size m) a w) (hm : m ≤ ops.size) (hd : ∀ k o, k < m → ops[k]? = some o → ∃ d, o.dst = some d ∧ d < a0.tmps.size) :
    ∀ (l : List Oper) (rs : List Fact) (k0 : Nat) (b : Act) (H : World → Prop), k0 + l.length = m → (∀ j, j < l.length → l[j]? = ops[k0 + j]?) → (∀ j r, rs[j]? = some r → R (k0 + j) = r) →
    b.tmps.size = a0.tmps.size → b.defers = a0.defers → (∀ t, (∀ k o, k0 ≤ k → k < m → ops[k]? = some o → o.dst ≠ some t) → b.tmps[t]? = a.tmps[t]?) → H w → behind C K l rs b H → K a w
  | [], _, k0, b, H, hk, _, _, hs, hdf, ht, hH, h => by
    have e : b = a := by
      obtain ⟨bt, bd⟩ := b
      obtain ⟨at_, ad⟩ := a
      have e1 : bt = at_ := Array.ext_getElem? fun t => ht t fun k o h1 h2 => by simp at hk; omega
      have e2 : bd = ad := hdf.trans hT.defers.symm
      rw [e1, e2]
    subst e
    exact h w hT.cls hH
  | _ :: _, [], _, _, _, _, _, _, _, _, _, _, h => h.elim
  | o :: l, r :: rs, k0, b, H, hk, hl, hR, hs, hdf, ht, hH, h => by
    have e0 := hl 0 (by simp)
    simp only [List.getElem?_cons_zero, Nat.add_zero] at e0
    have hkm : k0 < m := by simp at hk; omega
    obtain ⟨d, hdd, hds⟩ := hd k0 o hkm e0.symm
    have htold := hT.told k0 o d hkm e0.symm (by rw [firsts_get, if_pos (by omega)]; simp [hkm]) hdd
    have hr0 : R k0 = r := hR 0 r rfl
    rw [hr0] at htold
    refine behind_at hT hm hd l rs (k0 + 1) _ _ (by simp at hk; omega) (fun i hi => ?_) (fun i r' hr' => ?_) ?_ ?_ (fun t htt => ?_) ⟨hH, htold⟩ (h (a.tmps.getD d undef))
    · have := hl (i + 1) (by simpa using hi)
      simpa [Nat.add_assoc, Nat.add_comm 1 i] using this
    · have := hR (i + 1) r' hr'
      rwa [show k0 + (i + 1) = k0 + 1 + i by omega] at this
    · rw [put_size, hs]
    · rw [put_defers, hdf]
    · by_cases e : d = t
      · subst e
        rw [hdd, put_same _ (by rw [hs]; exact hds)]
        have : d < a.tmps.size := by rw [hT.asize]; exact hds
        simp [this]
      · rw [hdd, put_other _ e]
        refine ht t fun k ok h1 h2 h3 h4 => ?_
        by_cases ek : k = k0
        · subst ek
          rw [← e0] at h3
          injection h3 with h3
          subst h3
          rw [hdd] at h4
          injection h4 with h4
          exact e h4
        · exact htt k ok (by omega) h2 h3 h4
theorem wpAny_chain : ∀ (l : List Oper) (m : Nat), m + l.length = ops.size → (∀ j, l[j]? = ops[m + j]?) → (∀ i, m ≤ i → i < ops.size → Region.ready .any ops (firsts ops.size i) = [i]) → Region.ready .any ops (firsts ops.size ops.size) = [] →
    ∀ a w, wpList P ops Q l a w → wpAny P .any ops Q l.length (firsts ops.size m) a w
  | [], m, hm, _, _, he, a, w, h => by
    simp at hm
    subst hm
    exact ⟨he, h⟩
  | o :: l, m, hm, hl, hr, he, a, w, h => by
    have hlt : m < ops.size := by simp at hm; omega
    refine ⟨fun h0 => (by rw [hr m (Nat.le_refl _) hlt] at h0; cases h0), fun i hi => ?_⟩
    rw [hr m (Nat.le_refl _) hlt] at hi
    simp at hi
    subst hi
    have e0 := hl 0
    simp only [List.getElem?_cons_zero, Nat.add_zero] at e0
    rw [firsts_set hlt]
    unfold wpOp
    rw [← e0]
    have next : ∀ a' w', wpList P ops Q l a' w' → wpAny P .any ops Q l.length (firsts ops.size (i + 1)) a' w' := fun a' w' h' =>
      wpAny_chain l (i + 1) (by simp at hm; omega) (fun j => by have := hl (j + 1); simpa [Nat.add_assoc, Nat.add_comm 1 j] using this) (fun k hk => hr k (by omega)) he a' w' h'
    unfold wpList at h
    show if Region.wanted o (yielded ops a.tmps) then _ else _
    split
    · rename_i hw
      rw [if_pos hw] at h
      exact h.imp (Oper.wp_mono next) id
    · rename_i hw
      rw [if_neg hw] at h
      exact next _ _ h
theorem slot_eq {a : Act} {d : Tmp} {v : Value} (h : a.tmps.getD d undef = v) : a.tmps[d]?.getD undef = v := by simpa using h
/-- A fact that stays where nothing old is turned. -/
def Stb (r : Fact) : Prop := ∀ v w w', r v w → Below w.heap.size w w' → r v w'
def stbs : List Fact → Prop
  | [] => True
  | r :: rs => Stb r ∧ stbs rs
theorem stbs_mem : ∀ {rs : List Fact}, stbs rs → ∀ r, r ∈ rs → Stb r
  | [], _, _, h => by simp at h
  | _ :: _, hs, r, h => by
    rcases List.mem_cons.1 h with rfl | h
    · exact hs.1
    · exact stbs_mem hs.2 r h
/-- The value itself. -/
def val (x : Value) : Fact := fun v _ => v = x
theorem stb_val (x : Value) : Stb (val x) := fun _ _ _ h _ => h
theorem each_nil {rs : List Fact} {F : Tmp → Fact} : each P ops Q C [] rs F := trivial
theorem each_cons {o : Oper} {os : List Oper} {r : Fact} {rs : List Fact} {F : Tmp → Fact} (h : ∀ a w, C w → (∀ d, d ∈ o.looksAt ops → F d (a.tmps.getD d undef) w) → grows P Q C o a w r) (hr : each P ops Q C os rs (fun d => if o.dst = some d then r else F d)) :
    each P ops Q C (o :: os) (r :: rs) F := ⟨h, hr⟩
theorem grows_value {o : Oper} {a : Act} {w : World} {r : Fact} (v : Value) (hC : C w) (h : (execOp a.eval o).run P w = .ok (.value v) w) (hr : r v w) : grows P Q C o a w r := by
  unfold grows Oper.wp
  rw [h]
  exact ⟨v, rfl, hr, Below.refl _ _, hC⟩
theorem grows_new {o : Oper} {a : Act} {w w' : World} {r : Fact} (v : Value) (h : (execOp a.eval o).run P w = .ok (.value v) w') (hr : r v w') (hb : Below w.heap.size w w') (hC : C w') : grows P Q C o a w r := by
  unfold grows Oper.wp
  rw [h]
  exact ⟨v, rfl, hr, hb, hC⟩
theorem grows_call {o : Oper} {a : Act} {w : World} {r : Fact} {fn : FuncId} {args : Array Value} (h : (execOp a.eval o).run P w = .ok (.enter fn args) w) (hc : Calls P fn args w fun e w' => ∃ v, e = .returned v ∧ r v w' ∧ Below w.heap.size w w' ∧ C w') : grows P Q C o a w r := by
  unfold grows Oper.wp
  rw [h]
  show Calls P fn args w _
  refine hc.mono ?_
  rintro e w' ⟨v, rfl, h1, h2, h3⟩
  exact ⟨v, rfl, h1, h2, h3⟩
theorem behind_nil {K : Act → World → Prop} {rs : List Fact} {a : Act} {H : World → Prop} (h : ∀ w, C w → H w → K a w) : behind C K [] rs a H := by
  cases rs <;> exact h
theorem behind_cons {K : Act → World → Prop} {o : Oper} {os : List Oper} {r : Fact} {rs : List Fact} {a : Act} {H : World → Prop} (h : ∀ v, behind C K os rs (a.put o.dst v) (fun w => H w ∧ r v w)) : behind C K (o :: os) (r :: rs) a H := h
theorem behind_mono {K : Act → World → Prop} : ∀ (os : List Oper) (rs : List Fact) (a : Act) (H H' : World → Prop), (∀ w, H' w → H w) → behind C K os rs a H → behind C K os rs a H'
  | [], [], _, _, _, hH, h => fun w hC hw => h w hC (hH w hw)
  | [], _ :: _, _, _, _, hH, h => fun w hC hw => h w hC (hH w hw)
  | _ :: _, [], _, _, _, _, h => h.elim
  | _ :: os, _ :: rs, _, _, _, hH, h => fun v => behind_mono os rs _ _ _ (fun w hw => ⟨hH w hw.1, hw.2⟩) (h v)
theorem behind_never {K : Act → World → Prop} : ∀ (os : List Oper) (rs : List Fact) (a : Act) (H : World → Prop), os.length = rs.length → (∀ w, ¬ H w) → behind C K os rs a H
  | [], [], _, _, _, hH => fun w _ hw => absurd hw (hH w)
  | [], _ :: _, _, _, h, _ => by simp at h
  | _ :: _, [], _, _, h, _ => by simp at h
  | o :: os, r :: rs, a, H, hl, hH => fun v => behind_never os rs _ _ (by simpa using hl) (fun w hw => hH w hw.1)
/-- A slot whose value is known. -/
theorem behind_val {K : Act → World → Prop} {o : Oper} {os : List Oper} {x : Value} {rs : List Fact} {a : Act} {H : World → Prop} (hl : os.length = rs.length) (h : behind C K os rs (a.put o.dst x) H) : behind C K (o :: os) (val x :: rs) a H := fun v => by
  by_cases e : v = x
  · subst e
    exact behind_mono os rs _ _ _ (fun w hw => hw.1) h
  · exact behind_never os rs _ _ hl (fun w hw => e hw.2)
/-- **A region that draws its order**: its first m operations turn nothing old, each is told once; the others wait for all of them. -/
theorem wp_region_grow {id : Nat} {a0 : Act} {w0 : World} (m N : Nat) (rs : List Fact) (hm : P.follows .mixedOrders = true) (hsz : a0.tmps.size = N) (hB : growB ops m N = true) (_ : rs.length = m)
    (hst : stbs rs) (hC : C w0.drew)
    (hO : each P ops Q C (ops.toList.take m) rs (fun d v _ => v = a0.tmps.getD d undef))
    (hF : behind C (fun a w => wpList P ops Q (ops.toList.drop m) a w) (ops.toList.take m) rs a0 (fun _ => True)) : (Code.region id ops true).wp P Q a0 w0 := by
  subst hsz
  have hB' := hB
  unfold growB at hB
  simp only [Bool.and_eq_true, decide_eq_true_eq, List.all_eq_true, List.mem_range, Bool.or_eq_true, beq_iff_eq] at hB
  obtain ⟨⟨⟨hms, hH⟩, hW⟩, hE⟩ := hB
  have hnon : ∀ (d : Bool) i, (Array.replicate ops.size false).getD i d = if i < ops.size then false else d := fun d i => by
    by_cases h : i < ops.size
    · simp [h]
    · simp [h]
  have hR : ∀ j r, rs[j]? = some r → ((rs[0 + j]?).getD fun _ _ => True) = r := fun j r h => by rw [Nat.zero_add, h]; rfl
  have hlt : (ops.toList.take m).length = m := by rw [List.length_take, Array.length_toList]; omega
  have htk : ∀ j, j < (ops.toList.take m).length → (ops.toList.take m)[j]? = ops[0 + j]? := fun j hj => by
    rw [hlt] at hj
    rw [List.getElem?_take, if_pos hj, Nat.zero_add, Array.getElem?_toList]
  refine wp_region_any hm (wpAny_heads (C := C) (m := m) (R := fun k => (rs[k]?).getD fun _ _ => True) (a0 := a0) hB' ?_ ?_ ?_ _ _ _ _ ?_ ?_)
  · intro k v w w' h hb
    cases hr : rs[k]? with
    | none => simp
    | some r =>
      simp only [hr, Option.getD_some] at h ⊢
      exact stbs_mem hst r (List.mem_of_getElem? hr) v w w' h hb
  · intro k o hk ho a w hCw hd
    have e := each_at (R := fun k => (rs[k]?).getD fun _ _ => True) (a0 := a0) _ rs 0 _ htk (by funext d; rfl) hR hO k o (by rw [hlt]; exact hk) (by rw [Nat.zero_add]; exact ho) a w hCw (by rw [Nat.zero_add]; exact hd)
    rwa [Nat.zero_add] at e
  · intro a w hT
    have hdd : ∀ k o, k < m → ops[k]? = some o → ∃ d, o.dst = some d ∧ d < a0.tmps.size := fun k o hk ho => by
      obtain ⟨_, ⟨d, h1, h2, _⟩, _⟩ := headB_spec ho (hH k hk)
      exact ⟨d, h1, h2⟩
    have hl := behind_at hT hms hdd (ops.toList.take m) rs 0 a0 (fun _ => True) (by rw [hlt]; omega) htk hR rfl rfl (fun t ht => (hT.rest t fun k o hk ho _ => ht k o (Nat.zero_le _) hk ho).symm) trivial hF
    have hdl : (ops.toList.drop m).length = ops.size - m := by rw [List.length_drop, Array.length_toList]
    have := wpAny_chain (P := P) (Q := Q) (ops.toList.drop m) m (by rw [hdl]; omega) (fun j => by rw [List.getElem?_drop, Array.getElem?_toList]) (fun i h1 h2 => ((hW i h2).resolve_left (by omega)).2) (by simpa using hE) a w hl
    rwa [hdl] at this
  · constructor
    · simp
    · intro i _
      rw [hnon]
      split <;> rfl
    · intro k o _ hk
      rw [hnon] at hk
      split at hk <;> cases hk
    · exact hC
    · rfl
    · rfl
    · intro k o d _ _ hk
      rw [hnon] at hk
      split at hk <;> cases hk
    · intro d _; rfl
  · have : (Array.replicate ops.size false).toList.countP (· == true) = 0 := by simp
    rw [this]; rfl
end
end Go.Proofs.Ytfchmmojhfjibaa
