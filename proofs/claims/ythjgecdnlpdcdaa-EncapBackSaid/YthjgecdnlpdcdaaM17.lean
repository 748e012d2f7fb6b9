import Derived.Test.YthjgecdnlpdcdaaM15
import Derived.Test.YthjgecdnlpdcdaaM16
import Derived.Test.YthjgecdnlpdcdaaM1
import Derived.Test.YthjgecdnlpdcdaaM9
import Derived.Test.YthjgecdnlpdcdaaM7
import Derived.Test.YthjgecdnlpdcdaaM5
import Derived.Test.YthjgecdnlpdcdaaM12
import Derived.Test.YthjgecdnlpdcdaaRows
import Derived.WalkLawsBesides
import Derived.BigQuiet
import Derived.IntWalk
import Derived.Deep.CutRange
import Derived.Test.YthjgecdnlpdcdaaM0
import Derived.MapKept
import Derived.Laws.EntriesVeiled
/- Layer 6: addresses, the sums of a message (the program's and the document's). -/
namespace Go.Proofs.Ythjgecdnlpdcdaa
set_option maxRecDepth 100000
open Go.RowKit
/-- The first k of them. -/
def fst16 (f : Nat → Int) (a k j : Nat) : Int := if j < k then f (a + j) else 0
end Go.Proofs.Ythjgecdnlpdcdaa
/- The document's answers for layer 4: Chain. -/
namespace Go.Proofs.Ythjgecdnlpdcdaa
set_option maxRecDepth 100000
open Go.RowKit
theorem chn_succ {f : Nat → Int} {N k : Nat} {next : Int} {a : Nat} (h : ext6 next = true) : chn f N (k + 1) next a =
    (if (one6 next (decide (k = 7)) (fun j => f (a + j)) (N - a)).2 = 0 then chn f N k (f a) (a + (one6 next (decide (k = 7)) (fun j => f (a + j)) (N - a)).1) else (0, 0, (one6 next (decide (k = 7)) (fun j => f (a + j)) (N - a)).2)) := by
  have e : chn f N (k + 1) next a = (if ext6 next = true then
      (if (one6 next (decide (k = 7)) (fun j => f (a + j)) (N - a)).2 = 0 then chn f N k (f a) (a + (one6 next (decide (k = 7)) (fun j => f (a + j)) (N - a)).1) else (0, 0, (one6 next (decide (k = 7)) (fun j => f (a + j)) (N - a)).2))
      else (next, a, 0)) := rfl
  rw [e, if_pos h]
/-- What Chain tells. -/
def ChOut (R : Int × Nat × Int) (w : World) (e : Ending) (w' : World) : Prop := e = .returned (.tuple #[.int .u8 R.1, .int .i64 (R.2.1 : Int), .int .i64 R.2.2]) ∧ Below w.heap.size w w'
end Go.Proofs.Ythjgecdnlpdcdaa
/- Maps whose keys are of one plain kind (numbers, strings, bools), whatever their elements: a block that is a map reads as the list of its keys and elements, in the order of their coming. Over any program. -/
namespace Go.Proofs.Ythjgecdnlpdcdaa
open Go.RowKit Go.MapKept

/-- The element at a key. -/
def kfind (d : TypeDesc) (k : Value) : List (Value × Value) → Option Value
  | [] => none
  | p :: r => if Instr.sameNow d k p.1 = some true then some p.2 else kfind d k r
/-- The list with an element put. -/
def kput (d : TypeDesc) (k v : Value) : List (Value × Value) → List (Value × Value)
  | [] => [(k, v)]
  | p :: r => if Instr.sameNow d k p.1 = some true then (k, v) :: r else p :: kput d k v r
/-- Block b of w is a map of these keys and elements. -/
def KMap (w : World) (b : Nat) (d : TypeDesc) (L : List (Value × Value)) : Prop :=
  ∃ es clock, w.heap[b]? = some (.map es clock) ∧ es.toList.map (fun e => (e.key, e.val)) = L ∧ ∀ p ∈ L, IsKey d p.1
theorem KMap.below {w w' : World} {b B : Nat} {d : TypeDesc} {L : List (Value × Value)} (h : KMap w b d L) (hb : Below B w w') (hlt : b < B) : KMap w' b d L := by
  obtain ⟨es, clock, h1, h2⟩ := h
  exact ⟨es, clock, (hb.block b hlt).trans h1, h2⟩
theorem KMap.lt {w : World} {b : Nat} {d : TypeDesc} {L : List (Value × Value)} (h : KMap w b d L) : b < w.heap.size := by
  obtain ⟨es, clock, h1, _⟩ := h
  exact (Array.getElem?_eq_some_iff.1 h1).1
theorem KMap.kept {w w' : World} {b : Nat} {row : Option Nat} {d : TypeDesc} {L : List (Value × Value)} (h : KMap w b d L) (hg : w.grownBy w' row) (hne : some b ≠ row) : KMap w' b d L := by
  have hlt := h.lt
  obtain ⟨es, clock, h1, h2⟩ := h
  exact ⟨es, clock, (hg.block b hlt hne).trans h1, h2⟩
theorem KMap.drew {w : World} {b : Nat} {d : TypeDesc} {L : List (Value × Value)} (h : KMap w b d L) : KMap w.drew b d L := h
theorem kmap_new (w : World) (d : TypeDesc) : KMap (w.alloc (.map #[] 0)) w.heap.size d [] := ⟨#[], 0, heap_alloc_new w _, rfl, by simp⟩

theorem findNow_kfind {d : TypeDesc} {k : Value} (hk : IsKey d k) : ∀ (l : List MapEntry) (i : Nat), (∀ x ∈ l, IsKey d x.key) →
    (kfind d k (l.map fun e => (e.key, e.val)) = none ∧ Instr.findNow d k l i = some none) ∨
    ∃ j e, l[j]? = some e ∧ e.key = k ∧ kfind d k (l.map fun e => (e.key, e.val)) = some e.val ∧ Instr.findNow d k l i = some (some (i + j, e.val))
  | [], _, _ => .inl ⟨rfl, rfl⟩
  | e :: es, i, h => by
    obtain ⟨r, hr, hiff⟩ := sameNow_of_keys hk (h e (.head _))
    cases r with
    | true => exact .inr ⟨0, e, rfl, (hiff.1 rfl).symm, by simp [kfind, hr], by simp [Instr.findNow, hr]⟩
    | false =>
      rcases findNow_kfind hk es (i + 1) (fun x hx => h x (.tail _ hx)) with ⟨h1, h2⟩ | ⟨j, e', h1, h2, h3, h4⟩
      · exact .inl ⟨by simp [kfind, hr, h1], by simp [Instr.findNow, hr, h2]⟩
      · exact .inr ⟨j + 1, e', by simpa using h1, h2, by simp [kfind, hr, h3], by simp [Instr.findNow, hr, h4]; omega⟩

section
variable {P : Program}
/-- 'm[k]' (c = false), 'v, ok := m[k]' (c = true). -/
theorem KMap.look {w : World} {b : Nat} {d : TypeDesc} {L : List (Value × Value)} (h : KMap w b d L) {t kt et : TypeId} (ht : P.underlying t = some (.map kt et)) (hd : P.underlying kt = some d)
    {z : Value} (hz : (zeroValue et).run P w = .ok z w) {key : Value} (hk : IsKey d key) (c : Bool) :
    (Instr.lookup t (.map (some b)) key c).run P w = .ok (match kfind d key L with | some v => if c then .tuple #[v, .bool true] else v | none => if c then .tuple #[z, .bool false] else z) w := by
  obtain ⟨es, clock, hb, rfl, hL⟩ := h
  have hL' : ∀ x ∈ es.toList, IsKey d x.key := fun x hx => hL (x.key, x.val) (List.mem_map.2 ⟨x, hx, rfl⟩)
  rcases findNow_kfind hk es.toList 0 hL' with ⟨h1, h2⟩ | ⟨j, e, _, _, h3, h4⟩
  · rw [h1]
    simp [Instr.lookup, run_underlying ht, MapKept.run_getObj_map hb, run_checkKey hd hk, run_findKey hd h2, hz, Result.andThen]
  · rw [h3]
    simp [Instr.lookup, run_underlying ht, MapKept.run_getObj_map hb, run_checkKey hd hk, run_findKey hd h4, Result.andThen]
theorem kput_miss {d : TypeDesc} {k v : Value} : ∀ {L : List (Value × Value)}, kfind d k L = none → kput d k v L = L ++ [(k, v)]
  | [], _ => rfl
  | p :: r, h => by
    unfold kfind at h
    split at h
    · cases h
    · rename_i q
      unfold kput
      rw [if_neg q, kput_miss h]
      rfl
theorem kput_hit {d : TypeDesc} {k v : Value} (hk : IsKey d k) : ∀ {l : List MapEntry} {i j : Nat} {e : MapEntry}, (∀ x ∈ l, IsKey d x.key) → Instr.findNow d k l i = some (some (i + j, e.val)) → l[j]? = some e →
    (l.set j { e with key := k, val := v }).map (fun e => (e.key, e.val)) = kput d k v (l.map fun e => (e.key, e.val))
  | [], _, _, _, _, _, h => by cases h
  | x :: r, i, j, e, hx, h, hj => by
    obtain ⟨q, hr, hiff⟩ := sameNow_of_keys hk (hx x (.head _))
    cases q with
    | true =>
      simp [Instr.findNow, hr] at h
      obtain ⟨h0, _⟩ := h
      have : j = 0 := by omega
      subst this
      simp [kput, hr]
    | false =>
      simp [Instr.findNow, hr] at h
      have hj0 : j ≠ 0 := by
        rintro rfl
        rcases findNow_spec hk r (i + 1) (fun y hy => hx y (.tail _ hy)) with ⟨h1, _⟩ | ⟨j', e', h1, _⟩
        · rw [h1] at h; cases h
        · rw [h1] at h; simp at h; omega
      obtain ⟨j, rfl⟩ := Nat.exists_eq_succ_of_ne_zero hj0
      have e1 : i + (j + 1) = i + 1 + j := by omega
      simp only [Nat.succ_eq_add_one, e1] at h
      simp [kput, hr]
      have q := kput_hit (v := v) hk (fun y hy => hx y (.tail _ hy)) h (by simpa using hj)
      simpa using q
theorem kput_keys {d : TypeDesc} {k v : Value} (hk : IsKey d k) : ∀ {L : List (Value × Value)}, (∀ p ∈ L, IsKey d p.1) → ∀ p ∈ kput d k v L, IsKey d p.1
  | [], _, p, hp => by simp [kput] at hp; subst hp; exact hk
  | x :: r, hL, p, hp => by
    unfold kput at hp
    split at hp
    · rcases List.mem_cons.1 hp with rfl | hp
      · exact hk
      · exact hL p (.tail _ hp)
    · rcases List.mem_cons.1 hp with rfl | hp
      · exact hL p (.head _)
      · exact kput_keys hk (fun y hy => hL y (.tail _ hy)) p hp
/-- 'm[k] = v'. -/
theorem KMap.put {w : World} {b : Nat} {d : TypeDesc} {L : List (Value × Value)} (h : KMap w b d L) {t kt et : TypeId} (ht : P.underlying t = some (.map kt et)) (hd : P.underlying kt = some d)
    {key : Value} (hk : IsKey d key) (v : Value) : ∃ w', (Instr.mapUpdate t (.map (some b)) key v).run P w = .ok () w' ∧ KMap w' b d (kput d key v L) ∧ w.grownBy w' (some b) := by
  obtain ⟨es, clock, hb, rfl, hL⟩ := h
  have hL' : ∀ x ∈ es.toList, IsKey d x.key := fun x hx => hL (x.key, x.val) (List.mem_map.2 ⟨x, hx, rfl⟩)
  have grown : ∀ o : Obj, w.grownBy { w with heap := w.heap.setIfInBounds b o } (some b) := fun o => ⟨rfl, rfl, rfl, by simp, fun i _ hi => (heap_set hb).2 i (fun e => hi (by rw [e]))⟩
  rcases findNow_kfind hk es.toList 0 hL' with ⟨h1, h2⟩ | ⟨j, e, hj, he, h3, h4⟩
  · refine ⟨{ w with heap := w.heap.setIfInBounds b (.map (es.push ⟨key, v, clock⟩) (clock + 1)) }, ?_, ⟨_, _, (heap_set hb).1, ?_, kput_keys hk hL⟩, grown _⟩
    · simp [Instr.mapUpdate, run_underlying ht, MapKept.run_getObj_map hb, run_checkKey hd hk, run_findKey hd h2, MapKept.run_setObj_map _ hb, Result.andThen]
    · rw [kput_miss h1]
      simp
  · have hj' : es[j]? = some e := by simpa using hj
    refine ⟨{ w with heap := w.heap.setIfInBounds b (.map (es.modify j fun e => { e with key := key, val := v }) clock) }, ?_, ⟨_, _, (heap_set hb).1, ?_, kput_keys hk hL⟩, grown _⟩
    · simp [Instr.mapUpdate, run_underlying ht, MapKept.run_getObj_map hb, run_checkKey hd hk, run_findKey hd h4, hj', he, run_keyThatStays hk, MapKept.run_setObj_map _ hb, Result.andThen]
    · rw [Array.toList_modify, Go.ChangeMaps.modify_eq_set _ _ _ _ hj]
      exact kput_hit hk hL' h4 hj
/-- .. into a map that was made last: it is spelled out. -/
theorem run_put_last {w : World} {es : Array MapEntry} {clock : Nat} {d : TypeDesc} {t kt et : TypeId} (ht : P.underlying t = some (.map kt et)) (hd : P.underlying kt = some d) {key : Value} (hk : IsKey d key) (v : Value)
    (hL : ∀ x ∈ es.toList, IsKey d x.key) (hno : kfind d key (es.toList.map fun e => (e.key, e.val)) = none) (b : Nat) (hb' : b = w.heap.size) :
    (Instr.mapUpdate t (.map (some b)) key v).run P (w.alloc (.map es clock)) = .ok () (w.alloc (.map (es.push ⟨key, v, clock⟩) (clock + 1))) := by
  subst hb'
  have hb : (w.alloc (.map es clock)).heap[w.heap.size]? = some (.map es clock) := heap_alloc_new w _
  rcases findNow_kfind hk es.toList 0 hL with ⟨h1, h2⟩ | ⟨j, e, _, _, h3, h4⟩
  · simp [Instr.mapUpdate, run_underlying ht, MapKept.run_getObj_map hb, run_checkKey hd hk, run_findKey hd h2, MapKept.run_setObj_map _ hb, Result.andThen]
    have e : (w.heap.push (Obj.map es clock)).setIfInBounds w.heap.size (Obj.map (es.push { key := key, val := v, born := clock }) (clock + 1)) = w.heap.push (Obj.map (es.push { key := key, val := v, born := clock }) (clock + 1)) := by
      apply Array.ext'
      simp [Array.toList_setIfInBounds]
    show ({ w.alloc (.map es clock) with heap := (w.heap.push (Obj.map es clock)).setIfInBounds w.heap.size (Obj.map (es.push { key := key, val := v, born := clock }) (clock + 1)) } : World) = w.alloc _
    rw [e]
    rfl
  · rw [hno] at h3; cases h3
end
end Go.Proofs.Ythjgecdnlpdcdaa
