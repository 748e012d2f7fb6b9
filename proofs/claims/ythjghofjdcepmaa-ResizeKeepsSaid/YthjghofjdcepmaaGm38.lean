import Derived.Test.YthjghofjdcepmaaGm37
import Derived.Test.YthjghofjdcepmaaGm3
import Derived.Maps.RangeRun
import Derived.Maps.Range
/- Maps that are ranged over: a block that is a map, as a list, with the stamps of its entries; a put; what the range still has to tell, whichever comes. Over any program. -/
namespace Go.Proofs.Ythjghofjdcepmaa
open Go.RowKit Go.MapKept
section
variable {α : Type}
/-- Block b of w is a map of these keys and elements, each entry with a stamp of its own. -/
def RMap (w : World) (b : Nat) (kv : α → Value) (L : List (α × Value)) : Prop :=
  ∃ es clock, w.heap[b]? = some (.map es clock) ∧ es.toList.map (fun e => (e.key, e.val)) = L.map (fun x => (kv x.1, x.2)) ∧ (es.toList.map (·.born)).Nodup ∧ ∀ e ∈ es.toList, e.born < clock
theorem RMap.amap {w : World} {b : Nat} {kv : α → Value} {L : List (α × Value)} (h : RMap w b kv L) : AMap w b kv L := by
  obtain ⟨es, clock, h1, h2, _⟩ := h
  exact ⟨es, clock, h1, h2⟩
theorem RMap.block {w w' : World} {b : Nat} {kv : α → Value} {L : List (α × Value)} (h : RMap w b kv L) (hb : w'.heap[b]? = w.heap[b]?) : RMap w' b kv L := by
  obtain ⟨es, clock, h1, h2⟩ := h
  exact ⟨es, clock, hb.trans h1, h2⟩
theorem RMap.lt {w : World} {b : Nat} {kv : α → Value} {L : List (α × Value)} (h : RMap w b kv L) : b < w.heap.size := h.amap.lt
theorem RMap.step {w w' : World} {b : Nat} {kv : α → Value} {L : List (α × Value)} (h : RMap w b kv L) (hb : Below w.heap.size w w') : RMap w' b kv L := h.block (hb.block b h.lt)
theorem rmap_new (w : World) (kv : α → Value) : RMap (w.alloc (.map #[] 0)) w.heap.size kv [] := ⟨#[], 0, heap_alloc_new w _, rfl, by simp, by simp⟩
/-- A range over it, at block r, that still has to tell 'left'. -/
def RIt (w : World) (b r : Nat) (kv : α → Value) (L left : List (α × Value)) : Prop :=
  ∃ es clock since seen c0, w.heap[b]? = some (.map es clock) ∧ es.toList.map (fun e => (e.key, e.val)) = L.map (fun x => (kv x.1, x.2)) ∧ (es.toList.map (·.born)).Nodup ∧ (∀ e ∈ es.toList, e.born < since) ∧ since ≤ c0 ∧ since ≤ clock ∧
    w.heap[r]? = some (.mapIter (some b) since seen c0) ∧ (es.toList.filter fun e => !seen.contains e.born).map (fun e => (e.key, e.val)) = left.map (fun x => (kv x.1, x.2))
theorem RIt.block {w w' : World} {b r : Nat} {kv : α → Value} {L left : List (α × Value)} (h : RIt w b r kv L left) (hb : w'.heap[b]? = w.heap[b]?) (hr : w'.heap[r]? = w.heap[r]?) : RIt w' b r kv L left := by
  obtain ⟨es, clock, since, seen, c0, h1, h2, h3, h4, h5, h6, h7, h8⟩ := h
  exact ⟨es, clock, since, seen, c0, hb.trans h1, h2, h3, h4, h5, h6, hr.trans h7, h8⟩
theorem RIt.lt {w : World} {b r : Nat} {kv : α → Value} {L left : List (α × Value)} (h : RIt w b r kv L left) : b < w.heap.size ∧ r < w.heap.size := by
  obtain ⟨es, clock, since, seen, c0, h1, _, _, _, _, _, h7, _⟩ := h
  exact ⟨(Array.getElem?_eq_some_iff.1 h1).1, (Array.getElem?_eq_some_iff.1 h7).1⟩
theorem RIt.step {w w' : World} {b r : Nat} {kv : α → Value} {L left : List (α × Value)} (h : RIt w b r kv L left) (hb : Below w.heap.size w w') : RIt w' b r kv L left := h.block (hb.block b h.lt.1) (hb.block r h.lt.2)
theorem RIt.rmap {w : World} {b r : Nat} {kv : α → Value} {L left : List (α × Value)} (h : RIt w b r kv L left) : RMap w b kv L := by
  obtain ⟨es, clock, since, seen, c0, h1, h2, h3, h4, h5, h6, h7, h8⟩ := h
  exact ⟨es, clock, h1, h2, h3, fun e he => Nat.lt_of_lt_of_le (h4 e he) h6⟩
variable {P : Program}
/-- 'range m'. -/
theorem RMap.range {w : World} {b : Nat} {kv : α → Value} {L : List (α × Value)} (h : RMap w b kv L) {t kt et : TypeId} (ht : P.underlying t = some (.map kt et)) :
    ∃ w', (Instr.range t (.map (some b))).run P w = .ok (.pointer (some ⟨w.heap.size, 0, none⟩)) w' ∧ RIt w' b w.heap.size kv L L ∧ Below w.heap.size w w' := by
  have hlt := h.lt
  obtain ⟨es, clock, h1, h2, h3, h4⟩ := h
  refine ⟨_, run_range_map w t kt et b es clock ht h1, ⟨es, clock, clock, #[], clock, ?_, h2, h3, h4, Nat.le_refl _, Nat.le_refl _, heap_alloc_new w _, ?_⟩, below_alloc w _⟩
  · exact (heap_alloc_old w _ hlt).trans h1
  · rw [List.filter_eq_self.2 (by simp)]
    exact h2
theorem split_map {β γ : Type} {f : β → γ} {g : α → γ} : ∀ {l : List β} {L : List α} {a : List β} {x : β} {c : List β}, l.map f = L.map g → l = a ++ x :: c → ∃ A y C, L = A ++ y :: C ∧ a.map f = A.map g ∧ f x = g y ∧ c.map f = C.map g
  | [], _, a, _, _, _, e => by cases a <;> cases e
  | z :: l, [], _, _, _, h, _ => by cases h
  | z :: l, y :: L, [], x, c, h, e => by
    rw [List.nil_append] at e
    injection e with e1 e2
    subst e1
    subst e2
    rw [List.map_cons, List.map_cons] at h
    injection h with h1 h2
    exact ⟨[], y, L, rfl, rfl, h1, h2⟩
  | z :: l, y :: L, z' :: a, x, c, h, e => by
    rw [List.cons_append] at e
    injection e with e1 e2
    subst e1
    rw [List.map_cons, List.map_cons] at h
    injection h with h1 h2
    obtain ⟨A, y', C, q1, q2, q3, q4⟩ := split_map h2 e2
    exact ⟨y :: A, y', C, by rw [q1]; rfl, by rw [List.map_cons, List.map_cons, h1, q2], q3, q4⟩
theorem RIt.left {w : World} {b r : Nat} {kv : α → Value} {L left : List (α × Value)} (h : RIt w b r kv L left) : w.rangeLeft b r = left.length := by
  obtain ⟨es, clock, since, seen, c0, h1, h2, h3, h4, h5, h6, h7, h8⟩ := h
  simp only [World.rangeLeft, h1, h7]
  have hlo : (leftOf es seen).toList = es.toList.filter fun e => !seen.contains e.born := by
    unfold leftOf
    simp
  have h9 := congrArg List.length h8
  rw [List.length_map, List.length_map, ← hlo, Array.length_toList] at h9
  exact h9
/-- 'next': nothing is left, or one that is left comes, whichever. -/
theorem RIt.next {w : World} {b r : Nat} {kv : α → Value} {L left : List (α × Value)} (h : RIt w b r kv L left) :
    (left = [] ∧ ∀ ty, (Instr.next (.pointer (some ⟨r, 0, none⟩)) false ty).run P w = .ok (.tuple #[.bool false]) w) ∨
    ∃ A x C, left = A ++ x :: C ∧ ∃ w', (∀ ty, (Instr.next (.pointer (some ⟨r, 0, none⟩)) false ty).run P w = .ok (.tuple #[.bool true, kv x.1, x.2]) w') ∧ RIt w' b r kv L (A ++ C) ∧ Kept (fun k => k = r) w w' ∧ w'.heap.size = w.heap.size ∧ (Instr.entry (.pointer (some ⟨r, 0, none⟩))).run P w' = .ok (.tuple #[kv x.1, x.2]) w' := by
  obtain ⟨hbl, hrl⟩ := h.lt
  obtain ⟨es, clock, since, seen, c0, h1, h2, h3, h4, h5, h6, h7, h8⟩ := h
  have hne : b ≠ r := fun e => by
    rw [e, h7] at h1
    cases h1
  have hlo : (leftOf es seen).toList = es.toList.filter fun e => !seen.contains e.born := by
    unfold leftOf
    simp
  have hdet : ∀ ty ty', (Instr.next (.pointer (some ⟨r, 0, none⟩)) false ty).run P w = (Instr.next (.pointer (some ⟨r, 0, none⟩)) false ty').run P w := fun ty ty' => by
    simp only [Instr.next, getObj, Sem.run_bind, Sem.run, h7, h1, Result.andThen]
  rcases run_next_at (P := P) w 0 r b since c0 seen es clock h7 h1 h4 h5 with ⟨h0, hrun⟩ | ⟨e, he, w1, hal, hrun⟩
  · left
    refine ⟨?_, fun ty => (hdet ty 0).trans hrun⟩
    have : (leftOf es seen).toList = [] := List.eq_nil_of_length_eq_zero (by simpa using h0)
    rw [hlo] at this
    rw [this] at h8
    cases left with
    | nil => rfl
    | cons x r => cases h8
  · right
    rw [hlo] at he
    obtain ⟨a, c, hac⟩ := List.append_of_mem he
    obtain ⟨A, x, C, q1, q2, q3, q4⟩ := split_map h8 hac
    injection q3 with k1 k2
    have hmem : e ∈ es.toList := (List.mem_filter.1 he).1
    have hr1 : w1.heap = w.heap ∧ w1.os = w.os ∧ w1.output = w.output ∧ (∀ R, Kept R w w1) := by
      rcases hal with rfl | rfl
      · exact ⟨rfl, rfl, rfl, fun R => Kept.refl R _⟩
      · exact ⟨rfl, rfl, rfl, fun R => (Kept.refl R w).drew⟩
    have hnodup : ((es.toList.filter fun e => !seen.contains e.born).map (·.born)).Nodup := (List.Sublist.map _ List.filter_sublist).nodup h3
    refine ⟨A, x, C, q1, _, fun ty => (hdet ty 0).trans (by rw [hrun, k1, k2]), ⟨es, clock, since, seen.push e.born, clock, ?_, h2, h3, h4, h6, h6, ?_, ?_⟩, ?_, ?_, ?_⟩
    · show (w1.heap.setIfInBounds r _)[b]? = _
      rw [Array.getElem?_setIfInBounds_ne (Ne.symm hne), hr1.1]
      exact h1
    · show (w1.heap.setIfInBounds r _)[r]? = _
      rw [Array.getElem?_setIfInBounds_self_of_lt (by rw [hr1.1]; exact hrl)]
    · have hf : (es.toList.filter fun y => !(seen.push e.born).contains y.born) = a ++ c := by
        have e1 : (es.toList.filter fun y => !(seen.push e.born).contains y.born) = (es.toList.filter fun y => !seen.contains y.born).filter fun y => y.born != e.born := by
          rw [List.filter_filter]
          refine List.filter_congr fun y _ => ?_
          simp only [Array.contains_push, Bool.not_or]
          rw [Bool.and_comm]
          rfl
        rw [e1, hac]
        rw [hac, List.map_append, List.map_cons] at hnodup
        rw [List.nodup_append] at hnodup
        obtain ⟨_, n2, n3⟩ := hnodup
        rw [List.nodup_cons] at n2
        rw [List.filter_append, List.filter_cons_of_neg (by simp), List.filter_eq_self.2 fun y hy => ?_, List.filter_eq_self.2 fun y hy => ?_]
        · have : y.born ≠ e.born := fun q => n2.1 (List.mem_map.2 ⟨y, hy, q⟩)
          simpa using this
        · have : y.born ≠ e.born := n3 _ (List.mem_map.2 ⟨y, hy, rfl⟩) _ (by simp)
          simpa using this
      rw [hf, List.map_append, List.map_append, q2, q4]
    · have hk := hr1.2.2.2 (fun k => k = r)
      refine ⟨hk.os, hk.tape, hk.output, ?_, fun k hk' hn => ?_⟩
      · show w.heap.size ≤ (w1.heap.setIfInBounds r _).size
        rw [Array.size_setIfInBounds, hr1.1]
        exact Nat.le_refl _
      · show (w1.heap.setIfInBounds r _)[k]? = _
        rw [Array.getElem?_setIfInBounds_ne (fun q => hn q.symm), hr1.1]
    · show (w1.heap.setIfInBounds r _).size = _
      rw [Array.size_setIfInBounds, hr1.1]
    · have := run_entry_at (P := P) (Go.ChangeMaps.setBlock w1 r (.mapIter (some b) since (seen.push e.born) clock)) r b since seen es clock e (by
        show (w1.heap.setIfInBounds r _)[r]? = _
        rw [Array.getElem?_setIfInBounds_self_of_lt (by rw [hr1.1]; exact hrl)]) (by
        show (w1.heap.setIfInBounds r _)[b]? = _
        rw [Array.getElem?_setIfInBounds_ne (Ne.symm hne), hr1.1]
        exact h1) hmem h3
      rw [this, k1, k2]
end
section
variable {α : Type} [DecidableEq α] {P : Program}
/-- 'm[k] = v'. -/
theorem RMap.put {w : World} {b : Nat} {kv : α → Value} {L : List (α × Value)} (h : RMap w b kv L) {t kt et : TypeId} (ht : P.underlying t = some (.map kt et)) (hK : KeyT P kt kv) (a : α) (v : Value) :
    ∃ w', (Instr.mapUpdate t (.map (some b)) (kv a) v).run P w = .ok () w' ∧ RMap w' b kv (aput a v L) ∧ Kept (fun k => k = b) w w' ∧ w'.heap.size = w.heap.size := by
  obtain ⟨es, clock, hb, hL, hnd, hst⟩ := h
  have hf := hK.find a es.toList L w hL
  have kept : ∀ o : Obj, Kept (fun k => k = b) w { w with heap := w.heap.setIfInBounds b o } := fun o => ⟨rfl, rfl, rfl, by simp, fun i _ hi => (heap_set hb).2 i hi⟩
  cases hc : aidx a L 0 with
  | none =>
    rw [hc] at hf
    refine ⟨{ w with heap := w.heap.setIfInBounds b (.map (es.push ⟨kv a, v, clock⟩) (clock + 1)) }, ?_, ⟨_, _, (heap_set hb).1, ?_, ?_, ?_⟩, kept _, by simp⟩
    · simp [Instr.mapUpdate, run_underlying ht, MapKept.run_getObj_map hb, hK.ck, hf, MapKept.run_setObj_map _ hb, Result.andThen]
    · rw [aput_miss (aidx_none hc)]
      simp [hL]
    · rw [Array.toList_push, List.map_append, List.nodup_append]
      refine ⟨hnd, by simp, fun x hx y hy => ?_⟩
      obtain ⟨e, he, rfl⟩ := List.mem_map.1 hx
      simp only [List.map_cons, List.map_nil, List.mem_singleton] at hy
      have := hst e he
      omega
    · intro e he
      rw [Array.toList_push, List.mem_append] at he
      rcases he with he | he
      · have := hst e he
        omega
      · rw [List.mem_singleton] at he
        rw [he]
        exact Nat.lt_succ_self _
  | some x =>
    obtain ⟨j, u⟩ := x
    rw [hc] at hf
    obtain ⟨k, h1, h2, h3⟩ := aidx_some hc
    obtain rfl : k = j := by omega
    have hlen : es.toList.length = L.length := by
      have := congrArg List.length hL
      simpa using this
    have hk : k < L.length := (List.getElem?_eq_some_iff.1 h2).1
    have hke : k < es.toList.length := by omega
    obtain ⟨e, he⟩ : ∃ e, es.toList[k]? = some e := ⟨_, List.getElem?_eq_getElem hke⟩
    have hj' : es[k]? = some e := by simpa using he
    have hkey : e.key = kv a := by
      have q := congrArg (fun l => l[k]?) hL
      simp only [List.getElem?_map, he, h2, Option.map_some, Option.some.injEq, Prod.mk.injEq] at q
      exact q.1
    have hset : (es.modify k fun e => { e with key := kv a, val := v }).toList = es.toList.set k { e with key := kv a, val := v } := by rw [Array.toList_modify, Go.ChangeMaps.modify_eq_set _ _ _ _ he]
    have hborn : ((es.modify k fun e => { e with key := kv a, val := v }).toList.map (·.born)) = es.toList.map (·.born) := by
      rw [hset, List.map_set]
      refine List.ext_getElem? fun i => ?_
      rw [List.getElem?_set]
      split
      · rename_i q
        subst q
        rw [if_pos (by simpa using hke), List.getElem?_map, he]
        rfl
      · rfl
    refine ⟨{ w with heap := w.heap.setIfInBounds b (.map (es.modify k fun e => { e with key := kv a, val := v }) clock) }, ?_, ⟨_, _, (heap_set hb).1, ?_, by rw [hborn]; exact hnd, fun y hy => ?_⟩, kept _, by simp⟩
    · have hst : (Instr.keyThatStays (kv a) (kv a)).run P w = .ok (kv a) w := by simp [Instr.keyThatStays, hK.same a]
      simp [Instr.mapUpdate, run_underlying ht, MapKept.run_getObj_map hb, hK.ck, hf, hj', hkey, hst, MapKept.run_setObj_map _ hb, Result.andThen]
    · rw [hset, List.map_set, hL, ← aput_hit (i := 0) (j := k) (u := u) (by rw [hc, Nat.zero_add]), List.map_set]
    · have hy' : y.born ∈ (es.modify k fun e => { e with key := kv a, val := v }).toList.map (·.born) := List.mem_map.2 ⟨y, hy, rfl⟩
      rw [hborn] at hy'
      obtain ⟨z, hz, e1⟩ := List.mem_map.1 hy'
      rw [← e1]
      exact hst z hz
end
end Go.Proofs.Ythjghofjdcepmaa
/- Stage 13: flags in a map. -/
namespace Go.Proofs.Ythjghofjdcepmaa
set_option maxRecDepth 100000
open Go.RowKit Go.Shelf
def kvU (x : Nat) : Value := .int .u8 (x : Int)
def boolL (M : List (Nat × Bool)) : List (Nat × Value) := M.map fun p => (p.1, .bool p.2)
theorem boolL_put (x : Nat) (v : Bool) : ∀ M, aput x (.bool v) (boolL M) = boolL (mput x v M)
  | [] => rfl
  | p :: r => by
    show (if x = p.1 then (x, Value.bool v) :: boolL r else (p.1, .bool p.2) :: aput x (.bool v) (boolL r)) = boolL (if x = p.1 then (x, v) :: r else p :: mput x v r)
    rw [boolL_put x v r]
    split <;> rfl
theorem boolL_find (x : Nat) : ∀ M, (match afind x (boolL M) with | some v => v | none => Value.bool false) = .bool (mlook x M)
  | [] => rfl
  | p :: r => by
    have ih := boolL_find x r
    show (match (if x = p.1 then some (Value.bool p.2) else afind x (boolL r)) with | some v => v | none => Value.bool false) = .bool (if x = p.1 then p.2 else mlook x r)
    by_cases e : x = p.1
    · rw [if_pos e, if_pos e]
    · rw [if_neg e, if_neg e]
      exact ih
theorem boolL_split : ∀ {M : List (Nat × Bool)} {A : List (Nat × Value)} {x : Nat × Value} {C : List (Nat × Value)}, boolL M = A ++ x :: C → ∃ A' y v C', M = A' ++ (y, v) :: C' ∧ A = boolL A' ∧ x = (y, .bool v) ∧ C = boolL C'
  | [], A, _, _, e => by cases A <;> cases e
  | p :: r, [], x, C, e => by
    rw [List.nil_append] at e
    injection e with e1 e2
    exact ⟨[], p.1, p.2, r, rfl, rfl, e1.symm, e2.symm⟩
  | p :: r, a :: A, x, C, e => by
    rw [List.cons_append] at e
    injection e with e1 e2
    obtain ⟨A', y, v, C', q1, q2, q3, q4⟩ := boolL_split e2
    exact ⟨p :: A', y, v, C', by rw [q1]; rfl, by rw [← e1, q2]; rfl, q3, q4⟩
theorem trues_split (y : Nat) (v : Bool) (C : List (Nat × Bool)) : ∀ A : List (Nat × Bool), trues (A ++ (y, v) :: C) = trues (A ++ C) + (if v then 1 else 0)
  | [] => by
    show (if v then 1 else 0) + trues C = trues C + _
    omega
  | p :: r => by
    show (if p.2 then 1 else 0) + trues (r ++ (y, v) :: C) = (if p.2 then 1 else 0) + trues (r ++ C) + _
    rw [trues_split y v C r]
    omega
theorem boolL_app (A B : List (Nat × Bool)) : boolL A ++ boolL B = boolL (A ++ B) := (List.map_append).symm
theorem keyU : KeyT Try.prog 5 kvU := keyT_int Try.underlying5 (fun x : Nat => (x : Int)) fun _ _ h => by omega
theorem Try.infoTU : (Try.prog.info? 5).map (fun i => (i.zero, i.size, i.bytes)) = some (some (.int .u8 0), 1, 1) := by kernel_rfl
theorem look_m {W : World} {b : Nat} {M : List (Nat × Bool)} (h : RMap W b kvU (boolL M)) (x : Nat) : (Instr.lookup 43 (.map (some b)) (.int .u8 (x : Int)) false).run Try.prog W = .ok (.bool (mlook x M)) W := by
  have hz : ∀ w : World, (zeroValue 4).run Try.prog w = .ok (.bool false) w := fun w => by kernel_rfl
  have h1 := h.amap.look (P := Try.prog) Try.underlying43 keyU hz x false
  have h2 := boolL_find x M
  refine Eq.trans h1 ?_
  rw [← h2]
  cases afind x (boolL M) <;> rfl
end Go.Proofs.Ythjghofjdcepmaa
