/- Stage 10: the landed slots' fields stand for slots as the document has them: what a push, an unlinking do to them; pure. -/
import Derived.Test.YthlnhkkjpjbmeaaVs
namespace Go.Proofs.Ythlnhkkjpjbmeaa
namespace Sl
theorem whr_put {s : Sl} (hs : s.Ok) {i : Nat} (hi : i < s.ls.length) {l : List Nat} (ho : (s.put i l).Ok) (k : Nat) : (s.put i l).whr k = if k ∈ l then some i else if s.whr k = some i then none else s.whr k := by
  have ha := at_put hi l
  by_cases h1 : k ∈ l
  · rw [if_pos h1, whr_some ho, ha, if_pos rfl]
    exact h1
  · rw [if_neg h1]
    by_cases h2 : s.whr k = some i
    · rw [if_pos h2, whr_none]
      intro j hj
      rw [ha] at hj
      split at hj
      · exact h1 hj
      · rename_i hne
        rw [whr_some hs] at h2
        exact hne (hs.one _ _ _ hj h2)
    · rw [if_neg h2]
      cases hw : s.whr k with
      | none =>
        rw [whr_none] at hw ⊢
        intro j hj
        rw [ha] at hj
        split at hj
        · exact h1 hj
        · exact hw j hj
      | some j =>
        have hne : ¬ j = i := fun e => h2 (by rw [hw, e])
        rw [whr_some ho, ha, if_neg hne]
        exact (whr_some hs).1 hw
end Sl
/-- The landed slots' fields stand for s. -/
structure SRep (s : Sl) (fl : Nat → Int) (pv nx sz : Nat → Nat) : Prop where
  lst : ∀ k, k < s.cells → fl k = match s.whr k with
    | some i => (i : Int)
    | none => -1
  ring : ∀ i, i < s.ls.length → Ch nx pv (s.cells + i) (s.at_ i) (s.cells + i)
  size : ∀ i, i < s.ls.length → sz i = (s.at_ i).length
/-- A ring's nodes are no two alike. -/
theorem ring_nodup {s : Sl} (hs : s.Ok) (i : Nat) : ((s.cells + i) :: s.at_ i).Nodup :=
  List.nodup_cons.2 ⟨fun h => by have := hs.low i _ h; omega, hs.nodup i⟩
theorem ring_other {s : Sl} (hs : s.Ok) {i j : Nat} (hij : i ≠ j) {k : Nat} (hk : k ∈ (s.cells + i) :: s.at_ i) : ¬ k ∈ (s.cells + j) :: s.at_ j := fun h => by
  rcases List.mem_cons.1 hk with rfl | hk
  · rcases List.mem_cons.1 h with e | h
    · omega
    · have := hs.low j _ h
      omega
  · rcases List.mem_cons.1 h with rfl | h
    · have := hs.low i _ hk
      omega
    · exact hij (hs.one _ _ _ hk h)
theorem SRep.same_ring {s : Sl} {fl : Nat → Int} {pv nx sz : Nat → Nat} (h : SRep s fl pv nx sz) {j : Nat} (hj : j < s.ls.length) {nx' pv' : Nat → Nat} (hn : ∀ k, k ∈ (s.cells + j) :: s.at_ j → nx' k = nx k) (hp : ∀ k, k ∈ (s.cells + j) :: s.at_ j → pv' k = pv k) :
    Ch nx' pv' (s.cells + j) (s.at_ j) (s.cells + j) := (h.ring j hj).same
  (fun k hk => hn k (by rcases hk with rfl | hk; exact List.mem_cons_self ..; exact List.mem_cons_of_mem _ hk))
  (fun k hk => hp k (by rcases hk with hk | rfl; exact List.mem_cons_of_mem _ hk; exact List.mem_cons_self ..))
theorem SRep.last {s : Sl} {fl : Nat → Int} {pv nx sz : Nat → Nat} (h : SRep s fl pv nx sz) {i : Nat} (hi : i < s.ls.length) : pv (s.cells + i) = lastOr (s.cells + i) (s.at_ i) := (h.ring i hi).ends.2
theorem last_node {o : Nat} {l : List Nat} : lastOr o l ∈ o :: l := by
  rcases lastOr_mem o l with q | q
  · rw [q]
    exact List.mem_cons_self ..
  · exact List.mem_cons_of_mem _ q
def updN (f : Nat → Nat) (k v : Nat) : Nat → Nat := fun j => if j = k then v else f j
def updI (f : Nat → Int) (k : Nat) (v : Int) : Nat → Int := fun j => if j = k then v else f j
theorem updN_same (f : Nat → Nat) (k v : Nat) : updN f k v k = v := if_pos rfl
theorem updN_ne {f : Nat → Nat} {k v j : Nat} (h : j ≠ k) : updN f k v j = f j := if_neg h
theorem ok_pushed {s : Sl} (hs : s.Ok) {i c : Nat} (hi : i < s.ls.length) (hc : c < s.cells) (hw : s.whr c = none) : (s.put i (s.at_ i ++ [c])).Ok := by
  rw [Sl.whr_none] at hw
  refine Sl.ok_put hs hi ?_ (fun d hd => ?_) fun d j hd hj => ?_
  · rw [List.nodup_append]
    refine ⟨hs.nodup _, by simp, fun a ha b hb e => ?_⟩
    simp at hb
    subst hb; subst e
    exact hw _ ha
  · rcases List.mem_append.1 hd with hd | hd
    · exact hs.low _ _ hd
    · simp at hd
      omega
  · rcases List.mem_append.1 hd with hd | hd
    · exact hs.one _ _ _ hj hd
    · simp at hd
      subst hd
      exact absurd hj (hw j)
theorem SRep.push {s : Sl} {fl : Nat → Int} {pv nx sz : Nat → Nat} (h : SRep s fl pv nx sz) (hs : s.Ok) {i c la : Nat} (hi : i < s.ls.length) (hc : c < s.cells) (hw : s.whr c = none) (hla : la = pv (s.cells + i)) :
    SRep (s.put i (s.at_ i ++ [c])) (updI fl c (i : Int)) (updN (updN pv c la) (s.cells + i) c) (updN (updN nx c (s.cells + i)) la c) (updN sz i (sz i + 1)) := by
  have hok := ok_pushed hs hi hc hw
  have hw' := Sl.whr_none.1 hw
  have hl := h.last hi
  rw [← hla] at hl
  have hcn : ∀ j, ¬ c ∈ (s.cells + j) :: s.at_ j := fun j hm => by
    rcases List.mem_cons.1 hm with e | hm
    · omega
    · exact hw' j hm
  have hlm : la ∈ (s.cells + i) :: s.at_ i := by
    rw [hl]
    exact last_node
  have hlc : la ≠ c := fun e => hcn i (e ▸ hlm)
  have hoc : s.cells + i ≠ c := by omega
  refine ⟨fun k hk => ?_, fun j hj => ?_, fun j hj => ?_⟩
  · rw [Sl.whr_put hs hi hok]
    unfold updI
    by_cases hkc : k = c
    · subst hkc
      rw [if_pos rfl, if_pos (by simp)]
    · rw [if_neg hkc, h.lst k hk]
      by_cases hm : k ∈ s.at_ i
      · rw [if_pos (List.mem_append_left _ hm), (Sl.whr_some hs).2 hm]
      · rw [if_neg (by simp [hm, hkc]), if_neg (fun e => hm ((Sl.whr_some hs).1 e))]
  · have hj' : j < s.ls.length := by rwa [Sl.put_len] at hj
    show Ch _ _ (s.cells + j) _ (s.cells + j)
    rw [Sl.at_put hi]
    by_cases e : j = i
    · subst e
      rw [if_pos rfl]
      refine (h.ring j hj').push (ring_nodup hs j) (hcn j) (fun k h1 h2 => ?_) (fun k h1 h2 => ?_) ?_ ?_ ?_ ?_
      · rw [updN_ne (by rw [hl]; exact h1), updN_ne h2]
      · rw [updN_ne h1, updN_ne h2]
      · rw [← hl, updN_same]
      · rw [updN_ne (Ne.symm hoc), updN_same, hl]
      · rw [updN_ne (Ne.symm hlc), updN_same]
      · rw [updN_same]
    · rw [if_neg e]
      refine h.same_ring hj' (fun k hk => ?_) fun k hk => ?_
      · have q1 : k ≠ la := fun q => ring_other hs (Ne.symm e) hlm (q ▸ hk)
        have q2 : k ≠ c := fun q => hcn j (q ▸ hk)
        rw [updN_ne q1, updN_ne q2]
      · have q1 : k ≠ s.cells + i := fun q => ring_other hs (Ne.symm e) (List.mem_cons_self ..) (q ▸ hk)
        have q2 : k ≠ c := fun q => hcn j (q ▸ hk)
        rw [updN_ne q1, updN_ne q2]
  · have hj' : j < s.ls.length := by rwa [Sl.put_len] at hj
    rw [Sl.at_put hi]
    unfold updN
    by_cases e : j = i
    · subst e
      rw [if_pos rfl, if_pos rfl, List.length_append, h.size j hj']
      rfl
    · rw [if_neg e, if_neg e]
      exact h.size j hj'
theorem filter_mid {ys zs : List Nat} {c : Nat} (h : (ys ++ c :: zs).Nodup) : (ys ++ c :: zs).filter (· != c) = ys ++ zs := by
  rw [List.nodup_append] at h
  obtain ⟨_, h2, h3⟩ := h
  have h4 := (List.nodup_cons.1 h2).1
  rw [List.filter_append, List.filter_cons_of_neg (by simp), List.filter_eq_self.2, List.filter_eq_self.2]
  · intro x hx
    simp only [bne_iff_ne, ne_eq]
    rintro rfl
    exact h4 hx
  · intro x hx
    simp only [bne_iff_ne, ne_eq]
    rintro rfl
    exact h3 x hx x (List.mem_cons_self ..) rfl
theorem ok_cut {s : Sl} (hs : s.Ok) {i c : Nat} (hi : i < s.ls.length) : (s.put i ((s.at_ i).filter (· != c))).Ok := by
  refine Sl.ok_put hs hi ((hs.nodup i).filter _) (fun d hd => hs.low i d (List.mem_filter.1 hd).1) fun d j hd hj => hs.one _ _ _ hj (List.mem_filter.1 hd).1
/-- The neighbours of a cell in a ring. -/
theorem SRep.mid {s : Sl} {fl : Nat → Int} {pv nx sz : Nat → Nat} (h : SRep s fl pv nx sz) {i c : Nat} (hi : i < s.ls.length) {ys zs : List Nat} (he : s.at_ i = ys ++ c :: zs) : pv c = lastOr (s.cells + i) ys ∧ nx c = hdOr zs (s.cells + i) := by
  have hr := h.ring i hi
  rw [he] at hr
  obtain ⟨ha, hb⟩ := Ch.app.1 hr
  exact ⟨ha.ends.2, hb.first⟩
theorem SRep.node {s : Sl} {fl : Nat → Int} {pv nx sz : Nat → Nat} (h : SRep s fl pv nx sz) {i c : Nat} (hi : i < s.ls.length) (hc : c ∈ s.at_ i) : pv c ∈ (s.cells + i) :: s.at_ i ∧ nx c ∈ (s.cells + i) :: s.at_ i := by
  obtain ⟨ys, zs, he⟩ := List.append_of_mem hc
  obtain ⟨h1, h2⟩ := h.mid hi he
  rw [h1, h2, he]
  constructor
  · rcases lastOr_mem (s.cells + i) ys with q | q
    · rw [q]
      exact List.mem_cons_self ..
    · exact List.mem_cons_of_mem _ (List.mem_append_left _ q)
  · cases zs with
    | nil => exact List.mem_cons_self ..
    | cons z t => exact List.mem_cons_of_mem _ (List.mem_append_right _ (List.mem_cons_of_mem _ (List.mem_cons_self ..)))
theorem SRep.cut {s : Sl} {fl : Nat → Int} {pv nx sz : Nat → Nat} (h : SRep s fl pv nx sz) (hs : s.Ok) {i c : Nat} (hi : i < s.ls.length) (hc : c ∈ s.at_ i) :
    SRep (s.put i ((s.at_ i).filter (· != c))) (updI fl c (-1)) (updN (updN pv (nx c) (pv c)) c 0) (updN (updN nx (pv c) (nx c)) c 0) (updN sz i (sz i - 1)) := by
  have hok := ok_cut (c := c) hs hi
  obtain ⟨hp, hn⟩ := h.node hi hc
  obtain ⟨ys, zs, he⟩ := List.append_of_mem hc
  obtain ⟨h1, h2⟩ := h.mid hi he
  have hnd := ring_nodup hs i
  have hfm : (s.at_ i).filter (· != c) = ys ++ zs := by
    rw [he]
    refine filter_mid ?_
    rw [← he]
    exact hs.nodup i
  have hcm : ∀ j, j ≠ i → ¬ c ∈ (s.cells + j) :: s.at_ j := fun j hj hm => ring_other hs (Ne.symm hj) (List.mem_cons_of_mem _ hc) hm
  refine ⟨fun k hk => ?_, fun j hj => ?_, fun j hj => ?_⟩
  · rw [Sl.whr_put hs hi hok]
    unfold updI
    by_cases hkc : k = c
    · subst hkc
      rw [if_pos rfl, if_neg (by simp), if_pos ((Sl.whr_some hs).2 hc)]
    · rw [if_neg hkc, h.lst k hk]
      by_cases hm : k ∈ s.at_ i
      · rw [if_pos (List.mem_filter.2 ⟨hm, by simp [hkc]⟩), (Sl.whr_some hs).2 hm]
      · rw [if_neg (fun e => hm (List.mem_filter.1 e).1), if_neg (fun e => hm ((Sl.whr_some hs).1 e))]
  · have hj' : j < s.ls.length := by rwa [Sl.put_len] at hj
    show Ch _ _ (s.cells + j) _ (s.cells + j)
    rw [Sl.at_put hi]
    by_cases e : j = i
    · subst e
      rw [if_pos rfl, hfm]
      have hr := h.ring j hj'
      rw [he] at hr hnd
      have hlc : lastOr (s.cells + j) ys ≠ c := fun q => by
        rw [← List.cons_append, List.nodup_append] at hnd
        refine hnd.2.2 _ ?_ c (List.mem_cons_self ..) q
        rcases lastOr_mem (s.cells + j) ys with q' | q'
        · rw [q']
          exact List.mem_cons_self ..
        · exact List.mem_cons_of_mem _ q'
      have hnc : hdOr zs (s.cells + j) ≠ c := fun q => by
        cases zs with
        | nil =>
          have q : s.cells + j = c := q
          have := hs.low j c (by rw [he]; simp)
          omega
        | cons z t =>
          have q : z = c := q
          subst q
          rw [← List.cons_append, List.nodup_append] at hnd
          exact (List.nodup_cons.1 hnd.2.1).1 (List.mem_cons_self ..)
      refine hr.cut hnd (fun k q1 q2 => ?_) (fun k q1 q2 => ?_) ?_ ?_
      · rw [updN_ne q2, h1, updN_ne q1]
      · rw [updN_ne q2, h2, updN_ne q1]
      · rw [updN_ne hlc, h1, updN_same, h2]
      · rw [updN_ne hnc, h2, updN_same, h1]
    · rw [if_neg e]
      refine h.same_ring hj' (fun k hk => ?_) fun k hk => ?_
      · have q1 : k ≠ c := fun q => hcm j e (q ▸ hk)
        have q2 : k ≠ pv c := fun q => ring_other hs (Ne.symm e) hp (q ▸ hk)
        rw [updN_ne q1, updN_ne q2]
      · have q1 : k ≠ c := fun q => hcm j e (q ▸ hk)
        have q2 : k ≠ nx c := fun q => ring_other hs (Ne.symm e) hn (q ▸ hk)
        rw [updN_ne q1, updN_ne q2]
  · have hj' : j < s.ls.length := by rwa [Sl.put_len] at hj
    rw [Sl.at_put hi]
    unfold updN
    by_cases e : j = i
    · subst e
      rw [if_pos rfl, if_pos rfl, hfm, h.size j hj', he]
      simp
    · rw [if_neg e, if_neg e]
      exact h.size j hj'
theorem srep_new (n m : Nat) : SRep (Sl.new n m) (fun k => if k < m then -1 else ((k - m : Nat) : Int)) (fun k => if k < m then 0 else k) (fun k => if k < m then 0 else k) (fun _ => 0) := by
  refine ⟨fun k hk => ?_, fun i hi => ?_, fun i hi => ?_⟩
  · have : (Sl.new n m).whr k = none := by
      rw [Sl.whr_none]
      intro i hi
      rw [Sl.at_new] at hi
      cases hi
    rw [this]
    exact if_pos hk
  · rw [Sl.at_new]
    have e : (fun k => if k < m then 0 else k) ((Sl.new n m).cells + i) = (Sl.new n m).cells + i := if_neg (show ¬ m + i < m by omega)
    exact ⟨e, e⟩
  · rw [Sl.at_new]
    rfl
end Go.Proofs.Ythlnhkkjpjbmeaa
