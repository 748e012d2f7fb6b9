/- Maps, whatever the kind of their keys (numbers, structs that are compared field by field): a block that is a map reads as the list of its keys and elements, in the order of their coming; a look-up, a put, how many. Over any program. -/
import Derived.Test.YthbjkchgbjopfaaBytes
import Derived.MapKept
import Derived.Laws.EntriesVeiled
import Derived.Laws.StructEq
namespace Go.Proofs.Ythbjkchgbjopfaa
open Go.RowKit Go.MapKept
section
variable {α : Type}
/-- Block b of w is a map of these keys and elements. -/
def AMap (w : World) (b : Nat) (kv : α → Value) (L : List (α × Value)) : Prop :=
  ∃ es clock, w.heap[b]? = some (.map es clock) ∧ es.toList.map (fun e => (e.key, e.val)) = L.map (fun x => (kv x.1, x.2))
theorem AMap.block {w w' : World} {b : Nat} {kv : α → Value} {L : List (α × Value)} (h : AMap w b kv L) (hb : w'.heap[b]? = w.heap[b]?) : AMap w' b kv L := by
  obtain ⟨es, clock, h1, h2⟩ := h
  exact ⟨es, clock, hb.trans h1, h2⟩
theorem AMap.lt {w : World} {b : Nat} {kv : α → Value} {L : List (α × Value)} (h : AMap w b kv L) : b < w.heap.size := by
  obtain ⟨es, clock, h1, _⟩ := h
  exact (Array.getElem?_eq_some_iff.1 h1).1
theorem AMap.step {w w' : World} {b : Nat} {kv : α → Value} {L : List (α × Value)} (h : AMap w b kv L) (hb : Below w.heap.size w w') : AMap w' b kv L := h.block (hb.block b h.lt)
theorem amap_new (w : World) (kv : α → Value) : AMap (w.alloc (.map #[] 0)) w.heap.size kv [] := ⟨#[], 0, heap_alloc_new w _, rfl⟩
/-- 'len(m)'. -/
theorem AMap.len {P : Program} {w : World} {b : Nat} {kv : α → Value} {L : List (α × Value)} (h : AMap w b kv L) {t kt et ty : TypeId} (ht : P.underlying t = some (.map kt et)) :
    (Builtin.len_ #[t] ty #[.map (some b)]).run P w = .ok (.int .i64 (L.length : Int)) w := by
  obtain ⟨es, clock, hb, hL⟩ := h
  have hlen : es.size = L.length := by
    have := congrArg List.length hL
    simpa using this
  simp [Builtin.len_, run_underlying ht, MapKept.run_getObj_map hb, Result.andThen, hlen, goInt]
end
section
variable {α : Type} [DecidableEq α]
/-- Where a key stands, and what stands there. -/
def aidx (a : α) : List (α × Value) → Nat → Option (Nat × Value)
  | [], _ => none
  | x :: r, i => if a = x.1 then some (i, x.2) else aidx a r (i + 1)
def afind (a : α) : List (α × Value) → Option Value
  | [] => none
  | x :: r => if a = x.1 then some x.2 else afind a r
def aput (a : α) (v : Value) : List (α × Value) → List (α × Value)
  | [] => [(a, v)]
  | x :: r => if a = x.1 then (a, v) :: r else x :: aput a v r
theorem aidx_some {a : α} : ∀ {L : List (α × Value)} {i j : Nat} {v : Value}, aidx a L i = some (j, v) → ∃ k, j = i + k ∧ L[k]? = some (a, v) ∧ afind a L = some v
  | [], _, _, _, h => by cases h
  | x :: r, i, j, v, h => by
    unfold aidx at h
    unfold afind
    by_cases e : a = x.1
    · rw [if_pos e] at h ⊢
      injection h with h
      injection h with h1 h2
      subst h1
      subst h2
      exact ⟨0, rfl, by rw [e]; rfl, rfl⟩
    · rw [if_neg e] at h ⊢
      obtain ⟨k, h1, h2, h3⟩ := aidx_some h
      exact ⟨k + 1, by omega, by simpa using h2, h3⟩
theorem aidx_none {a : α} : ∀ {L : List (α × Value)} {i : Nat}, aidx a L i = none → afind a L = none
  | [], _, _ => rfl
  | x :: r, i, h => by
    unfold aidx at h
    unfold afind
    by_cases e : a = x.1
    · rw [if_pos e] at h; cases h
    · rw [if_neg e] at h ⊢
      exact aidx_none h
theorem aput_miss {a : α} {v : Value} : ∀ {L : List (α × Value)}, afind a L = none → aput a v L = L ++ [(a, v)]
  | [], _ => rfl
  | x :: r, h => by
    unfold afind at h
    unfold aput
    by_cases e : a = x.1
    · rw [if_pos e] at h; cases h
    · rw [if_neg e] at h ⊢
      rw [aput_miss h]
      rfl
theorem aput_hit {a : α} {v : Value} : ∀ {L : List (α × Value)} {i j : Nat} {u : Value}, aidx a L i = some (i + j, u) → L.set j (a, v) = aput a v L
  | [], _, _, _, h => by cases h
  | x :: r, i, j, u, h => by
    unfold aidx at h
    unfold aput
    by_cases e : a = x.1
    · rw [if_pos e] at h ⊢
      injection h with h
      injection h with h1 h2
      have : j = 0 := by omega
      subst this
      rfl
    · rw [if_neg e] at h ⊢
      obtain ⟨k, h1, _, _⟩ := aidx_some h
      obtain ⟨j, rfl⟩ : ∃ j', j = j' + 1 := ⟨j - 1, by omega⟩
      rw [List.set_cons_succ, aput_hit (i := i + 1) (j := j) (u := u) (by rw [h]; congr 2; omega)]
theorem afind_put {a b : α} {v : Value} : ∀ {L : List (α × Value)}, afind a (aput b v L) = if a = b then some v else afind a L
  | [] => rfl
  | x :: r => by
    unfold aput
    by_cases e : b = x.1
    · rw [if_pos e]
      unfold afind
      by_cases e2 : a = b
      · rw [if_pos e2, if_pos e2]
      · rw [if_neg e2, if_neg e2, if_neg (by rw [← e]; exact e2)]
    · rw [if_neg e]
      unfold afind
      rw [afind_put]
      by_cases e2 : a = x.1
      · rw [if_pos e2, if_pos e2, if_neg (fun q => e (by rw [← q, e2]))]
      · rw [if_neg e2, if_neg e2]
theorem afind_mem {a : α} {v : Value} : ∀ {L : List (α × Value)}, afind a L = some v → (a, v) ∈ L
  | [], h => by cases h
  | x :: r, h => by
    unfold afind at h
    by_cases e : a = x.1
    · rw [if_pos e] at h
      injection h with h
      rw [e, ← h]
      exact .head _
    · rw [if_neg e] at h
      exact .tail _ (afind_mem h)
/-- All keys have the element true: a set. -/
def asetL (G : List α) : List (α × Value) := G.map fun a => (a, .bool true)
theorem asetL_find (a : α) : ∀ G : List α, afind a (asetL G) = if a ∈ G then some (.bool true) else none
  | [] => rfl
  | x :: r => by
    show (if a = x then some (Value.bool true) else afind a (asetL r)) = _
    rw [asetL_find a r]
    by_cases e : a = x
    · rw [if_pos e, if_pos (by rw [e]; exact .head _)]
    · rw [if_neg e]
      by_cases h : a ∈ r
      · rw [if_pos h, if_pos (.tail _ h)]
      · rw [if_neg h, if_neg fun q => by rcases List.mem_cons.1 q with q | q; exact e q; exact h q]
theorem asetL_put (a : α) (G : List α) (h : ¬ a ∈ G) : aput a (.bool true) (asetL G) = asetL (G ++ [a]) := by
  rw [aput_miss (by rw [asetL_find, if_neg h])]
  unfold asetL
  rw [List.map_append]
  rfl
theorem asetL_again (a : α) : ∀ (G : List α), a ∈ G → aput a (.bool true) (asetL G) = asetL G
  | [], h => by cases h
  | x :: r, h => by
    show (if a = x then (a, Value.bool true) :: asetL r else (x, .bool true) :: aput a (.bool true) (asetL r)) = _
    by_cases e : a = x
    · rw [if_pos e, e]
      rfl
    · rw [if_neg e, asetL_again a r ((List.mem_cons.1 h).resolve_left e)]
      rfl
/-- How keys of a type are found. -/
structure KeyT (P : Program) (kt : TypeId) (kv : α → Value) : Prop where
  ck : ∀ e a W, (Instr.checkKey e 10000 kt (kv a)).run P W = .ok () W
  same : ∀ a, Instr.sameBits 10000 (kv a) (kv a) = true
  find : ∀ (a : α) (es : List MapEntry) (L : List (α × Value)) (W : World), es.map (fun e => (e.key, e.val)) = L.map (fun x => (kv x.1, x.2)) → (Instr.findKey kt (kv a) es).run P W = .ok (aidx a L 0) W
/-- Structs that '==' tells apart. -/
theorem keyT_struct {P : Program} {kt : TypeId} {kv : α → Value} {fs : Array Field} (hu : P.underlying kt = some (.struct fs)) (hk : ∀ a, ∃ cs, kv a = .agg cs) (eq : ∀ a b W, (Op.equal kt (kv a) (kv b)).run P W = .ok (decide (a = b)) W)
    (ck : ∀ e a W, (Instr.checkKey e 10000 kt (kv a)).run P W = .ok () W) (same : ∀ a, Instr.sameBits 10000 (kv a) (kv a) = true) : KeyT P kt kv := by
  refine ⟨ck, same, fun a es L W h => ?_⟩
  have e1 : (Instr.findKey kt (kv a) es).run P W = (Instr.findAsking kt (kv a) es).run P W := by
    obtain ⟨cs, hc⟩ := hk a
    cases es with
    | nil => simp [Instr.findKey, run_underlying hu, Instr.findNow, Instr.findAsking, Result.andThen]
    | cons e r => rw [hc]; simp [Instr.findKey, run_underlying hu, Instr.findNow, Instr.sameNow, Result.andThen]
  rw [e1]
  have key : ∀ (es : List MapEntry) (L : List (α × Value)) (i : Nat), es.map (fun e => (e.key, e.val)) = L.map (fun x => (kv x.1, x.2)) → (Instr.findAsking kt (kv a) es i).run P W = .ok (aidx a L i) W := by
    intro es
    induction es with
    | nil =>
      intro L i h
      cases L with
      | nil => rfl
      | cons x r => cases h
    | cons e es ih =>
      intro L i h
      cases L with
      | nil => cases h
      | cons x r =>
        rw [List.map_cons, List.map_cons] at h
        injection h with h1 h2
        injection h1 with h1 h3
        unfold Instr.findAsking aidx
        rw [h1, h3]
        simp only [Sem.run_bind, eq, Result.andThen_ok]
        by_cases q : a = x.1
        · rw [if_pos q, if_pos (by simpa using q)]
          rfl
        · rw [if_neg q, if_neg (by simpa using q)]
          exact ih r (i + 1) h2
  exact key es L 0 h
/-- Numbers. -/
theorem keyT_int {P : Program} {kt : TypeId} {k : IntKind} (hu : P.underlying kt = some (.int k)) (kv : α → Int) (hkv : ∀ a b, kv a = kv b → a = b) : KeyT P kt (fun a => .int k (kv a)) := by
  refine ⟨fun e a W => run_checkKey hu (show IsKey (.int k) (.int k (kv a)) from rfl) e 9999, fun a => sameBits_self (show IsKey (.int k) (.int k (kv a)) from rfl) 10000, fun a es L W h => run_findKey hu ?_⟩
  have key : ∀ (es : List MapEntry) (L : List (α × Value)) (i : Nat), es.map (fun e => (e.key, e.val)) = L.map (fun x => (Value.int k (kv x.1), x.2)) → Instr.findNow (.int k) (.int k (kv a)) es i = some (aidx a L i) := by
    intro es
    induction es with
    | nil =>
      intro L i h
      cases L with
      | nil => rfl
      | cons x r => cases h
    | cons e es ih =>
      intro L i h
      cases L with
      | nil => cases h
      | cons x r =>
        rw [List.map_cons, List.map_cons] at h
        injection h with h1 h2
        injection h1 with h1 h3
        unfold Instr.findNow aidx
        rw [h1, h3]
        simp only [Instr.sameNow, if_true]
        by_cases q : a = x.1
        · rw [if_pos q, show (kv a == kv x.1) = true by rw [q]; simp]
        · rw [if_neg q, show (kv a == kv x.1) = false by simpa using fun e => q (hkv _ _ e)]
          exact ih r (i + 1) h2
  exact key es L 0 h
section
variable {P : Program}
/-- 'm[k]' (c = false), 'v, ok := m[k]' (c = true). -/
theorem AMap.look {w : World} {b : Nat} {kv : α → Value} {L : List (α × Value)} (h : AMap w b kv L) {t kt et : TypeId} (ht : P.underlying t = some (.map kt et)) (hK : KeyT P kt kv)
    {z : Value} (hz : ∀ w, (zeroValue et).run P w = .ok z w) (a : α) (c : Bool) :
    (Instr.lookup t (.map (some b)) (kv a) c).run P w = .ok (match afind a L with | some v => if c then .tuple #[v, .bool true] else v | none => if c then .tuple #[z, .bool false] else z) w := by
  obtain ⟨es, clock, hb, hL⟩ := h
  have hf := hK.find a es.toList L w hL
  cases hc : aidx a L 0 with
  | none =>
    rw [hc] at hf
    rw [aidx_none hc]
    simp [Instr.lookup, run_underlying ht, MapKept.run_getObj_map hb, hK.ck, hf, hz, Result.andThen]
  | some x =>
    obtain ⟨j, v⟩ := x
    rw [hc] at hf
    obtain ⟨_, _, _, h3⟩ := aidx_some hc
    rw [h3]
    simp [Instr.lookup, run_underlying ht, MapKept.run_getObj_map hb, hK.ck, hf, Result.andThen]
/-- 'm[k] = v'. -/
theorem AMap.put {w : World} {b : Nat} {kv : α → Value} {L : List (α × Value)} (h : AMap w b kv L) {t kt et : TypeId} (ht : P.underlying t = some (.map kt et)) (hK : KeyT P kt kv) (a : α) (v : Value) :
    ∃ w', (Instr.mapUpdate t (.map (some b)) (kv a) v).run P w = .ok () w' ∧ AMap w' b kv (aput a v L) ∧ w.grownBy w' (some b) := by
  obtain ⟨es, clock, hb, hL⟩ := h
  have hf := hK.find a es.toList L w hL
  have grown : ∀ o : Obj, w.grownBy { w with heap := w.heap.setIfInBounds b o } (some b) := fun o => ⟨rfl, rfl, rfl, by simp, fun i _ hi => (heap_set hb).2 i (fun e => hi (by rw [e]))⟩
  cases hc : aidx a L 0 with
  | none =>
    rw [hc] at hf
    refine ⟨{ w with heap := w.heap.setIfInBounds b (.map (es.push ⟨kv a, v, clock⟩) (clock + 1)) }, ?_, ⟨_, _, (heap_set hb).1, ?_⟩, grown _⟩
    · simp [Instr.mapUpdate, run_underlying ht, MapKept.run_getObj_map hb, hK.ck, hf, MapKept.run_setObj_map _ hb, Result.andThen]
    · rw [aput_miss (aidx_none hc)]
      simp [hL]
  | some x =>
    obtain ⟨j, u⟩ := x
    rw [hc] at hf
    obtain ⟨k, h1, h2, h3⟩ := aidx_some hc
    obtain rfl : k = j := by omega
    have hlen : es.toList.length = L.length := by
      have := congrArg List.length hL
      simpa using this
    have hk : k < L.length := (List.getElem?_eq_some_iff.1 h2).1
    have hke : k < es.toList.length := by omega
    obtain ⟨e, he⟩ : ∃ e, es.toList[k]? = some e := ⟨_, List.getElem?_eq_getElem hke⟩
    have hj' : es[k]? = some e := by simpa using he
    have hkey : e.key = kv a := by
      have q := congrArg (fun l => l[k]?) hL
      simp only [List.getElem?_map, he, h2, Option.map_some, Option.some.injEq, Prod.mk.injEq] at q
      exact q.1
    refine ⟨{ w with heap := w.heap.setIfInBounds b (.map (es.modify k fun e => { e with key := kv a, val := v }) clock) }, ?_, ⟨_, _, (heap_set hb).1, ?_⟩, grown _⟩
    · have hst : (Instr.keyThatStays (kv a) (kv a)).run P w = .ok (kv a) w := by simp [Instr.keyThatStays, hK.same a]
      simp [Instr.mapUpdate, run_underlying ht, MapKept.run_getObj_map hb, hK.ck, hf, hj', hkey, hst, MapKept.run_setObj_map _ hb, Result.andThen]
    · rw [Array.toList_modify, Go.ChangeMaps.modify_eq_set _ _ _ _ he, List.map_set, hL, ← aput_hit (i := 0) (j := k) (u := u) (by rw [hc, Nat.zero_add]), List.map_set]
end
end
end Go.Proofs.Ythbjkchgbjopfaa
