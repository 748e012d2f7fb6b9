import Derived.Test.YthjghofjdcepmaaGm1
import Derived.Test.YthjghofjdcepmaaGm3
/- Regions that draw their order, where one operation among the heads turns what a head ahead of it has made (an append onto a row just made): over any program. -/
namespace Go.Proofs.Ythjghofjdcepmaa
open Go Go.RowKit
section
variable {P : Program} {ops : Array Oper} {Q : Exit → Act → World → Prop} {C : World → Prop}
/-- One operation: it yields a value of which r holds, and turns what E lets it. -/
def growsE (P : Program) (Q : Exit → Act → World → Prop) (C : World → Prop) (E : World → World → Prop) (o : Oper) (a : Act) (w : World) (r : Fact) : Prop :=
  o.wp P a w (fun a' w' => ∃ v, a' = a.put o.dst v ∧ r v w' ∧ E w w' ∧ C w') Q
def eachE (P : Program) (ops : Array Oper) (Q : Exit → Act → World → Prop) (C : World → Prop) (E : Nat → World → World → Prop) : Nat → List Oper → List Fact → (Tmp → Fact) → Prop
  | _, [], _, _ => True
  | _, _ :: _, [], _ => False
  | k, o :: os, r :: rs, F => (∀ a w, C w → (∀ d, d ∈ o.looksAt ops → F d (a.tmps.getD d undef) w) → growsE P Q C (E k) o a w r) ∧ eachE P ops Q C E (k + 1) os rs (fun d => if o.dst = some d then r else F d)
/-- Operation mid turns what Rel lets it, the others nothing old. -/
def midE (mid : Nat) (Rel : World → World → Prop) (i : Nat) (w w' : World) : Prop := if i = mid then Rel w w' else Below w.heap.size w w'
/-- A fact that stays behind what Rel lets be turned. -/
def StbR (Rel : World → World → Prop) (r : Fact) : Prop := ∀ v w w', r v w → Rel w w' → r v w'
def stbsA (Rel : World → World → Prop) : List Fact → Prop
  | [] => True
  | r :: rs => StbR Rel r ∧ stbsA Rel rs
def stbsR (Rel : World → World → Prop) : Nat → List Fact → Prop
  | _, [] => True
  | 0, _ :: rs => stbsA Rel rs
  | k + 1, r :: rs => StbR Rel r ∧ stbsR Rel k rs
theorem stbsA_mem {Rel : World → World → Prop} : ∀ (rs : List Fact), stbsA Rel rs → ∀ (k : Nat) (r : Fact), rs[k]? = some r → StbR Rel r
  | [], _, _, _, h => by simp at h
  | r :: rs, hs, 0, r', h => by
    simp at h
    rw [← h]
    exact hs.1
  | _ :: rs, hs, k + 1, r', h => stbsA_mem rs hs.2 k r' (by simpa using h)
theorem stbsR_mem {Rel : World → World → Prop} : ∀ (rs : List Fact) (mid : Nat), stbsR Rel mid rs → ∀ (k : Nat) (r : Fact), rs[k]? = some r → k ≠ mid → StbR Rel r
  | [], _, _, _, _, h, _ => by simp at h
  | r :: rs, 0, hs, 0, r', h, hk => absurd rfl hk
  | r :: rs, 0, hs, k + 1, r', h, _ => stbsA_mem rs hs k r' (by simpa using h)
  | r :: rs, m + 1, hs, 0, r', h, _ => by
    simp at h
    rw [← h]
    exact hs.1
  | _ :: rs, m + 1, hs, k + 1, r', h, hk => stbsR_mem rs m hs.2 k r' (by simpa using h) (by omega)
theorem stbR_val (Rel : World → World → Prop) (x : Value) : StbR Rel (val x) := fun _ _ _ h _ => h
theorem eachE_nil {E : Nat → World → World → Prop} {k : Nat} {rs : List Fact} {F : Tmp → Fact} : eachE P ops Q C E k [] rs F := trivial
theorem eachE_cons {mid : Nat} {Rel : World → World → Prop} {k : Nat} (hk : k ≠ mid) {o : Oper} {os : List Oper} {r : Fact} {rs : List Fact} {F : Tmp → Fact} (h : ∀ a w, C w → (∀ d, d ∈ o.looksAt ops → F d (a.tmps.getD d undef) w) → grows P Q C o a w r) (hr : eachE P ops Q C (midE mid Rel) (k + 1) os rs (fun d => if o.dst = some d then r else F d)) :
    eachE P ops Q C (midE mid Rel) k (o :: os) (r :: rs) F := ⟨fun a w hC hd => by
      have := h a w hC hd
      unfold grows at this
      unfold growsE midE
      simp only [if_neg hk]
      exact this, hr⟩
theorem eachE_mid {mid : Nat} {Rel : World → World → Prop} {o : Oper} {os : List Oper} {r : Fact} {rs : List Fact} {F : Tmp → Fact} (h : ∀ a w, C w → (∀ d, d ∈ o.looksAt ops → F d (a.tmps.getD d undef) w) → growsE P Q C Rel o a w r) (hr : eachE P ops Q C (midE mid Rel) (mid + 1) os rs (fun d => if o.dst = some d then r else F d)) :
    eachE P ops Q C (midE mid Rel) mid (o :: os) (r :: rs) F := ⟨fun a w hC hd => by
      have := h a w hC hd
      unfold growsE at this
      unfold growsE midE
      simp only [if_true]
      exact this, hr⟩
theorem growsE_new {E : World → World → Prop} {o : Oper} {a : Act} {w w' : World} {r : Fact} (v : Value) (h : (execOp a.eval o).run P w = .ok (.value v) w') (hr : r v w') (hb : E w w') (hC : C w') : growsE P Q C E o a w r := by
  unfold growsE Oper.wp
  rw [h]
  exact ⟨v, rfl, hr, hb, hC⟩
theorem wpAny_headsE {m : Nat} {R : Nat → Fact} {a0 : Act} {E : Nat → World → World → Prop} (hB : growB ops m a0.tmps.size = true) (hst : ∀ i k v w w', k ≠ i → R k v w → E i w w' → R k v w')
    (hO : ∀ k o, k < m → ops[k]? = some o → ∀ a w, C w → (∀ d, d ∈ o.looksAt ops → factAt ops R a0 k d (a.tmps.getD d undef) w) → growsE P Q C (E k) o a w (R k))
    (hF : ∀ a w, Told ops m C R a0 (firsts ops.size m) a w → wpAny P .any ops Q (ops.size - m) (firsts ops.size m) a w) :
    ∀ (fuel : Nat) (listed : Array Bool) (a : Act) (w : World), Told ops m C R a0 listed a w → fuel + (listed.toList.countP (· == true)) = ops.size → wpAny P .any ops Q fuel listed a w := by
  unfold growB at hB
  simp only [Bool.and_eq_true, decide_eq_true_eq, List.all_eq_true, List.mem_range, Bool.or_eq_true, beq_iff_eq] at hB
  obtain ⟨⟨⟨hm, hH⟩, hW⟩, hE⟩ := hB
  intro fuel
  induction fuel with
  | zero =>
    intro listed a w hT hc
    have hall : ∀ i, i < ops.size → listed.getD i false = true := by
      intro i hi
      have h1 : listed.toList.countP (· == true) = listed.toList.length := by rw [Array.length_toList, hT.size]; omega
      rw [List.countP_eq_length] at h1
      have hs : i < listed.size := by rw [hT.size]; exact hi
      have := h1 listed[i] (by simp)
      simp at this
      simp [hs, this]
    have hmn : m = ops.size := by
      rcases Nat.lt_or_ge m ops.size with h | h
      · have := hT.tail m (Nat.le_refl _)
        rw [hall m h] at this
        cases this
      · omega
    have e := told_all hT hm fun i hi => hall i (by omega)
    subst e
    have := hF a w hT
    rwa [show ops.size - m = 0 by omega] at this
  | succ fuel ih =>
    intro listed a w hT hc
    by_cases hall : ∀ i, i < m → listed.getD i false = true
    · have e := told_all hT hm hall
      have hcount : (firsts ops.size m).toList.countP (· == true) = m := by
        unfold firsts
        have key : ∀ n k, k ≤ n → ((List.range n).map fun i => decide (i < k)).countP (· == true) = k := by
          intro n
          induction n with
          | zero => intro k hk; simp; omega
          | succ n ihn =>
            intro k hk
            rw [List.range_succ, List.map_append, List.countP_append]
            by_cases q : k ≤ n
            · rw [ihn k q]
              simp
              omega
            · have : k = n + 1 := by omega
              subst this
              have e2 : (List.range n).map (fun i => decide (i < n + 1)) = (List.range n).map (fun i => decide (i < n)) := List.map_congr_left fun i hi => by
                simp at hi
                simp [hi]
                omega
              rw [e2, ihn n (Nat.le_refl _)]
              simp
        exact key _ _ hm
      subst e
      rw [hcount] at hc
      have := hF a w hT
      rwa [show ops.size - m = fuel + 1 by omega] at this
    · -- some head is left: the first one of them may come up
      obtain ⟨i0, hi0, hun0, hleast⟩ : ∃ i, i < m ∧ listed.getD i false = false ∧ ∀ j, j < i → listed.getD j false = true := by
        have : ∃ i, i < m ∧ listed.getD i false = false := by
          apply Classical.byContradiction
          intro hno
          exact hall fun i hi => by
            cases hq : listed.getD i false with
            | true => rfl
            | false => exact absurd ⟨i, hi, hq⟩ hno
        clear hall
        obtain ⟨i, hi, hq⟩ := this
        induction i using Nat.strongRecOn with
        | ind i ihi =>
          by_cases hex : ∃ j, j < i ∧ listed.getD j false = false
          · obtain ⟨j, hj, hjq⟩ := hex
            exact ihi j hj (by omega) hjq
          · refine ⟨i, hi, hq, fun j hj => ?_⟩
            cases hjq : listed.getD j false with
            | true => rfl
            | false => exact absurd ⟨j, hj, hjq⟩ hex
      have hflip : ∀ i, i < ops.size → ∀ d d', listed.getD i d = listed.getD i d' := fun i hi d d' => by
        have hs : i < listed.size := by rw [hT.size]; exact hi
        simp [hs]
      have hready0 : i0 ∈ Region.ready .any ops listed := by
        have ho : ops[i0]? = some ops[i0] := Array.getElem?_eq_getElem (by omega)
        refine mem_ready.2 ⟨by rw [hflip i0 (by omega) true false]; exact hun0, _, ho, fun e he hb => hleast _ ?_⟩
        exact (headB_spec ho (hH i0 hi0)).2.2.1 e he hb
      refine ⟨fun h => (by rw [h] at hready0; cases hready0), fun i hi => ?_⟩
      obtain ⟨hun, o, ho, hafter⟩ := mem_ready.1 hi
      have hin : i < ops.size := (Array.getElem?_eq_some_iff.1 ho).1
      have him : i < m := by
        rcases Nat.lt_or_ge i m with h | h
        · exact h
        · have hw := ((hW i hin).resolve_left (by omega)).1 i0 hi0
          have := waits_spec hT.closed _ i i0 (fun o' ho' e he hb => by rw [ho] at ho'; injection ho' with ho'; subst ho'; exact hafter e he hb) hw
          rw [this] at hun0
          cases hun0
      obtain ⟨hg, ⟨d, hd, hds, hdist⟩, hlow, hlook⟩ := headB_spec ho (hH i him)
      have hob := hO i o him ho a w hT.cls (fun t ht => factAt_told hT (fun j oj hj hoj hdj => by
          obtain ⟨_, e, he, hb, hon⟩ := hlook t ht j oj hj hoj hdj
          rw [← hon]; exact hafter e he hb) i (by omega) (fun j oj hj hij hoj hdj => by
          obtain ⟨hlt, _⟩ := hlook t ht j oj hj hoj hdj
          omega))
      unfold wpOp
      simp only [ho, Region.wanted, hg, if_true]
      refine .inl (Oper.wp_mono ?_ hob)
      rintro a' w' ⟨v, rfl, hr, hbl, hcl⟩
      have hs : i < listed.size := by rw [hT.size]; exact hin
      have hset : ∀ j, (listed.setIfInBounds i true).getD j false = if j = i then true else listed.getD j false := fun j => by
        by_cases e : j = i
        · subst e; simp [hs]
        · rw [getD_set_ne false (Ne.symm e), if_neg e]
      have hunF : listed.getD i false = false := by rw [hflip i hin false true]; exact hun
      refine ih _ _ _ ?_ ?_
      · constructor
        · simp [hT.size]
        · intro j hj
          rw [hset, if_neg (by omega)]
          exact hT.tail j hj
        · intro k ok hok hk e he hb
          rw [hset] at hk ⊢
          by_cases hki : k = i
          · subst hki
            rw [ho] at hok; injection hok with hok; subst hok
            split
            · rfl
            · exact hafter e he hb
          · rw [if_neg hki] at hk
            split
            · rfl
            · exact hT.closed k ok hok hk e he hb
        · exact hcl
        · rw [put_size, hT.asize]
        · rw [put_defers, hT.defers]
        · intro k ok dk hk hok hkl hdk
          rw [hset] at hkl
          by_cases hki : k = i
          · subst hki
            rw [ho] at hok; injection hok with hok; subst hok
            rw [hd] at hdk; injection hdk with hdk; subst hdk
            have hv : (a.put o.dst v).tmps.getD d undef = v := by
              rw [hd]
              have := put_same (a := a) (d := d) v (by rw [hT.asize]; exact hds)
              simp [this]
            rw [hv]
            exact hr
          · rw [if_neg hki] at hkl
            have hne : d ≠ dk := fun e => by
              subst e
              exact hdist k ok hk hki hok hdk
            have hv : (a.put o.dst v).tmps.getD dk undef = a.tmps.getD dk undef := by
              rw [hd]
              exact getD_congr (put_other v hne)
            rw [hv]
            exact hst i k _ w w' hki (hT.told k ok dk hk hok hkl hdk) hbl
        · intro t ht
          have hne : d ≠ t := fun e => by
            subst e
            exact ht i o him ho (by rw [hset, if_pos rfl]) hd
          rw [hd, put_other v hne]
          exact hT.rest t fun k ok hk hok hkl => ht k ok hk hok (by rw [hset]; split <;> first | rfl | exact hkl)
      · have hcnt : (listed.setIfInBounds i true).toList.countP (· == true) = listed.toList.countP (· == true) + 1 := by
          rw [Array.toList_setIfInBounds, List.countP_set (by simpa using hs)]
          have hl : listed.toList[i]'(by simpa using hs) = false := by
            have : listed[i]'hs = false := by simpa [hs] using hunF
            simpa using this
          simp [hl]
        rw [hcnt]
        omega
theorem eachE_at {R : Nat → Fact} {a0 : Act} {E : Nat → World → World → Prop} : ∀ (l : List Oper) (rs : List Fact) (k0 : Nat) (F : Tmp → Fact), (∀ j, j < l.length → l[j]? = ops[k0 + j]?) → F = factAt ops R a0 k0 → (∀ j r, rs[j]? = some r → R (k0 + j) = r) →
    eachE P ops Q C E k0 l rs F → ∀ j o, j < l.length → ops[k0 + j]? = some o → ∀ a w, C w → (∀ d, d ∈ o.looksAt ops → factAt ops R a0 (k0 + j) d (a.tmps.getD d undef) w) → growsE P Q C (E (k0 + j)) o a w (R (k0 + j))
  | [], _, _, _, _, _, _, _, _, _, hj, _, _, _, _, _ => by simp at hj
  | _ :: _, [], _, _, _, _, _, h, _, _, _, _, _, _, _, _ => h.elim
  | o :: l, r :: rs, k0, F, hl, hF, hR, h, 0, o', _, ho, a, w, hC, hd => by
    have e := hl 0 (by simp)
    simp only [List.getElem?_cons_zero, Nat.add_zero] at e ho
    rw [← e] at ho
    injection ho with ho
    subst ho
    rw [hR 0 r rfl]
    exact h.1 a w hC (by rw [hF]; exact hd)
  | o :: l, r :: rs, k0, F, hl, hF, hR, h, j + 1, o', hj, ho, a, w, hC, hd => by
    have e0 := hl 0 (by simp)
    simp only [List.getElem?_cons_zero, Nat.add_zero] at e0
    have ek : k0 + (j + 1) = k0 + 1 + j := by omega
    rw [ek] at ho hd ⊢
    refine eachE_at l rs (k0 + 1) _ (fun i hi => ?_) ?_ (fun i r' hr' => ?_) h.2 j o' (by simpa using hj) ho a w hC hd
    · have := hl (i + 1) (by simpa using hi)
      simpa [Nat.add_assoc, Nat.add_comm 1 i] using this
    · funext d
      have hr0 : R k0 = r := hR 0 r rfl
      unfold factAt
      rw [← e0, hr0, hF]
      simp only [Option.bind_some]
    · have := hR (i + 1) r' hr'
      rwa [show k0 + (i + 1) = k0 + 1 + i by omega] at this
theorem wp_region_growM {id : Nat} {a0 : Act} {w0 : World} (m N : Nat) (rs : List Fact) (hm : P.follows .mixedOrders = true) (hsz : a0.tmps.size = N) (hB : growB ops m N = true) (_ : rs.length = m)
    (mid : Nat) (Rel : World → World → Prop) (hst : stbs rs) (hstM : stbsR Rel mid rs) (hC : C w0.drew)
    (hO : eachE P ops Q C (midE mid Rel) 0 (ops.toList.take m) rs (fun d v _ => v = a0.tmps.getD d undef))
    (hF : behind C (fun a w => wpList P ops Q (ops.toList.drop m) a w) (ops.toList.take m) rs a0 (fun _ => True)) : (Code.region id ops true).wp P Q a0 w0 := by
  subst hsz
  have hB' := hB
  unfold growB at hB
  simp only [Bool.and_eq_true, decide_eq_true_eq, List.all_eq_true, List.mem_range, Bool.or_eq_true, beq_iff_eq] at hB
  obtain ⟨⟨⟨hms, hH⟩, hW⟩, hE⟩ := hB
  have hnon : ∀ (d : Bool) i, (Array.replicate ops.size false).getD i d = if i < ops.size then false else d := fun d i => by
    by_cases h : i < ops.size
    · simp [h]
    · simp [h]
  have hR : ∀ j r, rs[j]? = some r → ((rs[0 + j]?).getD fun _ _ => True) = r := fun j r h => by rw [Nat.zero_add, h]; rfl
  have hlt : (ops.toList.take m).length = m := by rw [List.length_take, Array.length_toList]; omega
  have htk : ∀ j, j < (ops.toList.take m).length → (ops.toList.take m)[j]? = ops[0 + j]? := fun j hj => by
    rw [hlt] at hj
    rw [List.getElem?_take, if_pos hj, Nat.zero_add, Array.getElem?_toList]
  refine wp_region_any hm (wpAny_headsE (E := midE mid Rel) (C := C) (m := m) (R := fun k => (rs[k]?).getD fun _ _ => True) (a0 := a0) hB' ?_ ?_ ?_ _ _ _ _ ?_ ?_)
  · intro i k v w w' hki h hb
    cases hr : rs[k]? with
    | none => simp
    | some r =>
      simp only [hr, Option.getD_some] at h ⊢
      unfold midE at hb
      by_cases e : i = mid
      · rw [if_pos e] at hb
        subst e
        exact stbsR_mem rs i hstM k r hr hki v w w' h hb
      · rw [if_neg e] at hb
        exact stbs_mem hst r (List.mem_of_getElem? hr) v w w' h hb
  · intro k o hk ho a w hCw hd
    have e := eachE_at (R := fun k => (rs[k]?).getD fun _ _ => True) (a0 := a0) _ rs 0 _ htk (by funext d; rfl) hR hO k o (by rw [hlt]; exact hk) (by rw [Nat.zero_add]; exact ho) a w hCw (by rw [Nat.zero_add]; exact hd)
    simp only [Nat.zero_add] at e
    exact e
  · intro a w hT
    have hdd : ∀ k o, k < m → ops[k]? = some o → ∃ d, o.dst = some d ∧ d < a0.tmps.size := fun k o hk ho => by
      obtain ⟨_, ⟨d, h1, h2, _⟩, _⟩ := headB_spec ho (hH k hk)
      exact ⟨d, h1, h2⟩
    have hl := behind_at hT hms hdd (ops.toList.take m) rs 0 a0 (fun _ => True) (by rw [hlt]; omega) htk hR rfl rfl (fun t ht => (hT.rest t fun k o hk ho _ => ht k o (Nat.zero_le _) hk ho).symm) trivial hF
    have hdl : (ops.toList.drop m).length = ops.size - m := by rw [List.length_drop, Array.length_toList]
    have := wpAny_chain (P := P) (Q := Q) (ops.toList.drop m) m (by rw [hdl]; omega) (fun j => by rw [List.getElem?_drop, Array.getElem?_toList]) (fun i h1 h2 => ((hW i h2).resolve_left (by omega)).2) (by simpa using hE) a w hl
    rwa [hdl] at this
  · constructor
    · simp
    · intro i _
      rw [hnon]
      split <;> rfl
    · intro k o _ hk
      rw [hnon] at hk
      split at hk <;> cases hk
    · exact hC
    · rfl
    · rfl
    · intro k o d _ _ hk
      rw [hnon] at hk
      split at hk <;> cases hk
    · intro d _; rfl
  · have : (Array.replicate ops.size false).toList.countP (· == true) = 0 := by simp
    rw [this]; rfl
end
/-! Appends, told by whether they are in place. -/
section
variable {P : Program}
/-- What an append onto a row of length n may turn, for those who know of rows of that length, and of small blocks. -/
structure AppR (B : Nat) (e : TypeId) (size n : Nat) (w w' : World) : Prop where
  below : Below B w w'
  rows : ∀ (A : Option Addr) (c : Nat) (f : Nat → Value), OwnC w B e size A n c f → OwnC w' B e size A n c f
  small : ∀ (z : Nat) (cs : Array Value) (t : TypeId), w.heap[z]? = some (.cells cs t (0, 0)) → cs.size ≤ size → w'.heap[z]? = w.heap[z]?
theorem AppR.of_below {B : Nat} {e : TypeId} {size n : Nat} {w w' : World} (h : Below w.heap.size w w') (hB : B ≤ w.heap.size) : AppR B e size n w w' :=
  ⟨h.mono hB, fun _ _ _ ho => ho.below h, fun z _ _ hz _ => h.block z (lt_heap hz)⟩
theorem run_append_two {w : World} (base : Nat) (t ty e : TypeId) (i : TypeInfo) (z : Value) (size : Nat) (ht : P.underlying t = some (.slice e)) (hi : P.info? e = some i) (hz : i.zero = some z) (hsize : i.size = size) (hzs : z.cells.size = size) (hsz : 0 < size)
    {A : Option Addr} {n c : Nat} {f : Nat → Value} (hown : OwnC w base e size A n c f) {c' : Nat} {b off : Nat} {g : Nat → Value} (hr : ∀ k, k < size → w.cell? ⟨b, off + k, none⟩ = some (g k)) (h1 : ∀ k, k < size → (g k).oneCell' = true)
    (hlen : n + 1 ≤ maxLen) (hby : (n + 1) * i.bytes ≤ 140737488355328) (hbase : base ≤ w.heap.size) (hn0 : n = 0 → c = 0) :
    ∃ A2 c2 w', (Builtin.append_ #[t, t] ty #[.slice A n c, .slice (some ⟨b, off, none⟩) 1 c']).run P w = .ok (.slice A2 (n + 1) c2) w' ∧ OwnC w' base e size A2 (n + 1) c2 (catV (n * size) f g) ∧ AppR base e size n w w' := by
  have hnl : (vals size g).length = 1 * size := by rw [Nat.one_mul]; exact vals_len ..
  have hcells : ∀ j u, (vals size g)[j]? = some u → w.cell? ((⟨b, off, none⟩ : Addr).add j) = some u := fun j u hu => by
    have hj : j < size := by
      rcases Nat.lt_or_ge j size with q | q
      · exact q
      · rw [List.getElem?_eq_none (by rw [vals_len]; exact q)] at hu
        cases hu
    rw [vals_get hj] at hu
    injection hu with hu
    subst hu
    rw [Addr.add_lit]
    exact hr j hj
  have hone : ∀ u, u ∈ vals size g → u.oneCell' = true := fun u hu => by
    unfold vals at hu
    simp at hu
    obtain ⟨x, hx, rfl⟩ := hu
    exact h1 x hx
  subst hsize
  have hlen9 : n + 1 ≤ 9223372036854775807 := by unfold maxLen at hlen; omega
  have h0 := hown
  unfold OwnC at h0
  have hcat : vals (n * i.size) f ++ vals i.size g = vals ((n + 1) * i.size) (catV (n * i.size) f g) := by
    have e : (n + 1) * i.size = n * i.size + i.size := by rw [Nat.add_mul, Nat.one_mul]
    rw [e]
    apply List.ext_getElem?
    intro k
    by_cases hk : k < n * i.size
    · rw [List.getElem?_append_left (by rw [vals_len]; exact hk), vals_get hk, vals_get (by omega)]
      unfold catV
      rw [if_pos hk]
    · rw [List.getElem?_append_right (by rw [vals_len]; omega), vals_len]
      by_cases hk2 : k < n * i.size + i.size
      · rw [vals_get (by omega), vals_get hk2]
        unfold catV
        rw [if_neg hk]
      · rw [List.getElem?_eq_none (by rw [vals_len]; omega), List.getElem?_eq_none (by rw [vals_len]; omega)]
  have grown : ∀ (old : Nat), old < n + 1 →
      (w.drew.alloc (.cells ((vals (n * i.size) f).toArray ++ (vals i.size g).toArray ++ Builtin.zeroCells z.cells (grownCap w (n + 1) old e - (n + 1))) e)).ownsRow base e i.size
        (.slice (some ⟨w.heap.size, 0, none⟩) (n + 1) (grownCap w (n + 1) old e)) (n + 1) (vals (n * i.size) f ++ vals i.size g) ∧
      Below w.heap.size w (w.drew.alloc (.cells ((vals (n * i.size) f).toArray ++ (vals i.size g).toArray ++ Builtin.zeroCells z.cells (grownCap w (n + 1) old e - (n + 1))) e)) := by
    intro old ho
    have hge := grownCap_ge w (n + 1) old e
    have hcm : grownCap w (n + 1) old e ≤ maxLen := grownCap_le_maxLen w (n + 1) old e hlen
    have hll : (vals (n * i.size) f ++ vals i.size g).length = (n + 1) * i.size := by rw [List.length_append, vals_len, vals_len, Nat.add_mul, Nat.one_mul]
    refine ⟨⟨hll, .inr ⟨w.heap.size, _, _, rfl, hbase, heap_alloc_new w.drew _, hge, hcm, ?_, ?_⟩⟩, (Below.refl w.heap.size w).drew.alloc (Nat.le_refl _) _⟩
    · simp only [Array.size_append, List.size_toArray, size_zeroCells, hzs, vals_len]
      have : grownCap w (n + 1) old e = (n + 1) + (grownCap w (n + 1) old e - (n + 1)) := by omega
      rw [this, Nat.add_mul, Nat.add_mul, Nat.one_mul]
      congr 1
      congr 1
      omega
    · simp only [Array.toList_append, List.append_assoc]
      rw [← List.append_assoc, ← hll]
      exact List.take_left
  rcases h0.2 with ⟨hv, rfl⟩ | ⟨g2, cap, cur, hv, hbg, hg, hnc, hcm, hcs, htake⟩
  · injection hv with e1 _ e3
    subst e1 e3
    have hx : vals (0 * i.size) f = [] := List.eq_nil_of_length_eq_zero (by rw [vals_len]; simp)
    have hrn := run_append_nil (P := P) w t ty e i z ht hi hz ⟨b, off, none⟩ 1 c' (vals i.size g) hnl hcells (by omega) (by omega) (by have hb := hby; simp only [Nat.zero_add] at hb; omega)
    have hgr := grown 0 (by omega)
    rw [hcat] at hgr
    rw [hx] at hgr
    simp only [Nat.zero_add, Array.empty_append] at hgr ⊢
    exact ⟨_, _, _, hrn, hgr.1, .of_below hgr.2 hbase⟩
  · injection hv with e1 _ e3
    subst e1 e3
    by_cases hroom : n + 1 ≤ c
    · have hn1 : 1 ≤ n := by
        rcases Nat.eq_zero_or_pos n with q | q
        · have := hn0 q
          omega
        · exact q
      have hfit : n * i.size + (vals i.size g).length ≤ cur.size := by
        rw [vals_len, hcs]
        have := Nat.mul_le_mul_right i.size hroom
        rw [Nat.add_mul, Nat.one_mul] at this
        exact this
      have hrr := run_append_room (P := P) w t ty e i ht hi g2 n c cur hg ⟨b, off, none⟩ 1 c' (vals i.size g) hnl hcells hone hroom hfit
      have hll : (vals (n * i.size) f ++ vals i.size g).length = (n + 1) * i.size := by rw [List.length_append, vals_len, vals_len, Nat.add_mul, Nat.one_mul]
      have hsz2 : (cur.toList.take (n * i.size) ++ vals i.size g ++ cur.toList.drop (n * i.size + (vals i.size g).length)).toArray.size = c * i.size := by
        simp only [List.size_toArray, List.length_append, List.length_take, List.length_drop, Array.length_toList]
        omega
      refine ⟨_, _, _, hrr, ⟨by rw [vals_len], .inr ⟨g2, c, _, rfl, hbg, setRow_heap w g2 cur _ e _ hg, hroom, hcm, hsz2, ?_⟩⟩, ⟨⟨rfl, rfl, rfl, by simp, fun k hk => setRow_other w g2 k _ (by omega)⟩, fun A' c2 f' ho => ?_, fun z2 cs t2 hz2 hs2 => setRow_other w g2 z2 _ fun e => ?_⟩⟩
      · rw [htake, ← hcat, ← hll]
        exact List.take_left
      · have ho2 := ho
        unfold OwnC at ho2
        rcases ho2.2 with ⟨_, q⟩ | ⟨g3, cap3, cur3, hv3, hb3, hg3, hnc3, hcm3, hcs3, htake3⟩
        · omega
        · by_cases eg : g3 = g2
          · subst eg
            rw [hg] at hg3
            injection hg3 with hg3
            injection hg3 with hg3
            subst hg3
            refine ⟨ho2.1, .inr ⟨g3, cap3, _, hv3, hb3, setRow_heap w g3 cur _ e _ hg, hnc3, hcm3, by rw [hsz2, ← hcs, hcs3], ?_⟩⟩
            show (cur.toList.take (n * i.size) ++ vals i.size g ++ cur.toList.drop (n * i.size + (vals i.size g).length)).take (n * i.size) = _
            have hlt : (cur.toList.take (n * i.size)).length = n * i.size := by rw [htake, vals_len]
            rw [List.append_assoc, List.take_append_of_le_length (by rw [hlt]; exact Nat.le_refl _), List.take_take, Nat.min_self]
            exact htake3
          · exact ⟨ho2.1, .inr ⟨g3, cap3, cur3, hv3, hb3, (setRow_other w g2 g3 _ eg).trans hg3, hnc3, hcm3, hcs3, htake3⟩⟩
      · subst e
        rw [hg] at hz2
        injection hz2 with hz2
        injection hz2 with hz2
        subst hz2
        rw [hcs] at hs2
        have h2 : 2 * i.size ≤ c * i.size := Nat.mul_le_mul_right _ (by omega)
        omega
    · have holds : ∀ j u, (vals (n * i.size) f)[j]? = some u → w.cell? ((⟨g2, 0, none⟩ : Addr).add j) = some u := World.ownsRow.cells h0 (g := g2) rfl
      have hrg := run_append_grow (P := P) w t ty e i z ht hi hz ⟨g2, 0, none⟩ n c (vals (n * i.size) f) (by rw [vals_len]) holds ⟨b, off, none⟩ 1 c' (vals i.size g) hnl hcells (by omega) (by omega) (growslice_fits (by omega) hby)
      have hgr := grown c (by omega)
      rw [hcat] at hgr
      exact ⟨_, _, _, hrg, hgr.1, .of_below hgr.2 hbase⟩
/-- 'append([]T{}, s...)' of nothing. -/
theorem run_append_none {w : World} (t ty e : TypeId) (i : TypeInfo) (ht : P.underlying t = some (.slice e)) (hi : P.info? e = some i) (z : Nat) (A : Option Addr) (c : Nat) :
    (Builtin.append_ #[t, t] ty #[.slice (some ⟨z, 0, none⟩) 0 0, .slice A 0 c]).run P w = .ok (.slice (some ⟨z, 0, none⟩) 0 0) w := by
  cases A <;> simp [Builtin.append_, run_underlying ht, sizeOf, typeInfo, hi, Builtin.lenOf, Builtin.firstCells, loadCells, loadCellsFrom, storeCells]
end
end Go.Proofs.Ythjghofjdcepmaa
/- An append onto a fresh row of nothing: over any program. -/
namespace Go.Proofs.Ythjghofjdcepmaa
open Go Go.RowKit
section
variable {P : Program}
theorem run_append_first {w : World} (base : Nat) (t ty e : TypeId) (i : TypeInfo) (z : Value) (size : Nat) (ht : P.underlying t = some (.slice e)) (hi : P.info? e = some i) (hz : i.zero = some z) (hsize : i.size = size) (hzs : z.cells.size = size)
    {zb b off m c' : Nat} {g : Nat → Value} (hm : 0 < m) (hr : ∀ k, k < m * size → w.cell? ⟨b, off + k, none⟩ = some (g k))
    (hlen : m ≤ maxLen) (hby : m * i.bytes ≤ 140737488355328) (hbase : base ≤ w.heap.size) :
    ∃ c2 w', (Builtin.append_ #[t, t] ty #[.slice (some ⟨zb, 0, none⟩) 0 0, .slice (some ⟨b, off, none⟩) m c']).run P w = .ok (.slice (some ⟨w.heap.size, 0, none⟩) m c2) w' ∧ OwnC w' base e size (some ⟨w.heap.size, 0, none⟩) m c2 g ∧ Below w.heap.size w w' := by
  have hnl : (vals (m * size) g).length = m * size := vals_len ..
  have hcells : ∀ j u, (vals (m * size) g)[j]? = some u → w.cell? ((⟨b, off, none⟩ : Addr).add j) = some u := fun j u hu => by
    have hj : j < m * size := by
      rcases Nat.lt_or_ge j (m * size) with q | q
      · exact q
      · rw [List.getElem?_eq_none (by rw [vals_len]; exact q)] at hu
        cases hu
    rw [vals_get hj] at hu
    injection hu with hu
    subst hu
    rw [Addr.add_lit]
    exact hr j hj
  subst hsize
  have hlen9 : m ≤ 9223372036854775807 := by unfold maxLen at hlen; omega
  have hx : vals (0 * i.size) g = [] := List.eq_nil_of_length_eq_zero (by rw [vals_len]; simp)
  have hrg := run_append_grow (P := P) w t ty e i z ht hi hz ⟨zb, 0, none⟩ 0 0 (vals (0 * i.size) g) (by rw [vals_len]) (fun j u hu => by rw [hx] at hu; cases hu) ⟨b, off, none⟩ m c' (vals (m * i.size) g) hnl hcells (by omega) (by omega) (growslice_fits (by omega) (by rw [Nat.zero_add]; exact hby))
  rw [hx] at hrg
  simp only [Nat.zero_add, Array.empty_append] at hrg
  have hge := grownCap_ge w m 0 e
  have hcm : grownCap w m 0 e ≤ maxLen := grownCap_le_maxLen w m 0 e hlen
  refine ⟨_, _, hrg, ⟨hnl, .inr ⟨w.heap.size, _, _, rfl, hbase, heap_alloc_new w.drew _, hge, hcm, ?_, ?_⟩⟩, (Below.refl w.heap.size w).drew.alloc (Nat.le_refl _) _⟩
  · simp only [Array.size_append, List.size_toArray, size_zeroCells, hzs, vals_len]
    rw [← Nat.add_mul]
    congr 1
    omega
  · simp only [Array.toList_append]
    exact List.take_left' hnl
end
end Go.Proofs.Ythjghofjdcepmaa
