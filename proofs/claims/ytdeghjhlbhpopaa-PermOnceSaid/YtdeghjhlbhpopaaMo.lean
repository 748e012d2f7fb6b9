/- Bytes of the call's own beside the blocks that a walk made; an append onto a slice that is full turns nothing old. -/
import Derived.Test.YtdeghjhlbhpopaaMem
namespace Go.Proofs.Ytdeghjhlbhpopaa
set_option maxRecDepth 100000
open Go.RowKit
theorem run_append_full {P : Program} {w : World} (base : Nat) (t ty e : TypeId) (i : TypeInfo) (ht : P.underlying t = some (.slice e)) (hi : P.info? e = some i) (hz : i.zero = some (.int .u8 0)) (hsize : i.size = 1) (hby : i.bytes = 1)
    {g0 k : Nat} {h0 : Nat → Int} (hown : Own w base e (some ⟨g0, 0, none⟩) k k h0) (hk : 0 < k) {B m c' : Nat} {A' : Option Addr} {g : Nat → Int} (hr : Rd w B A' m g) (hlen : k + m ≤ 70368744177664) (hbase : base ≤ w.heap.size) :
    ∃ A2 c2 w', (Builtin.append_ #[t, t] ty #[.slice (some ⟨g0, 0, none⟩) k k, .slice A' m c']).run P w = .ok (.slice A2 (k + m) c2) w' ∧ Own w' base e A2 (k + m) c2 (cat k h0 g) ∧ Below w.heap.size w w' := by
  have hl0 : ∀ (x : Addr), (loadCells x 0).run P w = .ok #[] w := fun x => by simpa using run_loadCells_list (P := P) w x [] (by simp)
  rcases Nat.eq_zero_or_pos m with rfl | hm
  · refine ⟨some ⟨g0, 0, none⟩, k, w, ?_, ?_, Below.refl _ _⟩
    · cases A' <;> simp [Builtin.append_, run_underlying ht, sizeOf, typeInfo, hi, Builtin.lenOf, Builtin.firstCells, storeCells, hl0]
    · exact hown.same fun j hj => by unfold cat; rw [if_pos (by omega)]
  · rcases hr with h | ⟨b, off, rfl, hlt, hc⟩
    · omega
    · obtain ⟨g1, hg1, _, _, hcell, _⟩ := hown.lies hk
      injection hg1 with hg1
      injection hg1 with hg1
      subst hg1
      have hl : ((nums m g).map (Value.int .u8)).length = m * i.size := by rw [hsize]; simp [nums_len]
      have hlo : ((nums k h0).map (Value.int .u8)).length = k * i.size := by rw [hsize]; simp [nums_len]
      have add : ∀ b off j : Nat, (⟨b, off, none⟩ : Addr).add j = ⟨b, off + j, none⟩ := fun b off j => by unfold Addr.add; split <;> simp_all
      have hnews : ∀ j v, ((nums m g).map (Value.int .u8))[j]? = some v → w.cell? ((⟨b, off, none⟩ : Addr).add j) = some v := fun j v hv => by
        have hj : j < m := by
          rcases Nat.lt_or_ge j m with q | q
          · exact q
          · rw [List.getElem?_eq_none (by simpa [nums_len] using q)] at hv; cases hv
        rw [add, hc j hj]
        simpa [nums, List.getElem?_map, List.getElem?_range hj] using hv
      have holds : ∀ j v, ((nums k h0).map (Value.int .u8))[j]? = some v → w.cell? ((⟨g0, 0, none⟩ : Addr).add j) = some v := fun j v hv => by
        have hj : j < k := by
          rcases Nat.lt_or_ge j k with q | q
          · exact q
          · rw [List.getElem?_eq_none (by simpa [nums_len] using q)] at hv; cases hv
        rw [add, Nat.zero_add, hcell j hj]
        simpa [nums, List.getElem?_map, List.getElem?_range hj] using hv
      have hrun := run_append_grow (P := P) w t ty e i (.int .u8 0) ht hi hz ⟨g0, 0, none⟩ k k ((nums k h0).map (Value.int .u8)) hlo holds ⟨b, off, none⟩ m c' ((nums m g).map (Value.int .u8)) hl hnews (by omega) (by omega) (by
        have := nextslicecap_le (need := k + m) (old := k) (by omega)
        rw [hby]
        omega)
      refine ⟨_, _, _, hrun, ?_, ?_⟩
      · have hge := grownCap_ge w (k + m) k e
        have hcm : grownCap w (k + m) k e ≤ maxLen := grownCap_le_maxLen w (k + m) k e (by unfold maxLen; omega)
        refine ⟨by simp [nums_len], .inr ⟨w.heap.size, _, _, rfl, hbase, heap_alloc_new w.drew _, hge, hcm, ?_, ?_⟩⟩
        · simp [size_zeroCells, nums_len, Value.cells]
          omega
        · have e1 : ((nums k h0).map (Value.int .u8) ++ (nums m g).map (Value.int .u8)) = (nums (k + m) (cat k h0 g)).map (Value.int .u8) := by rw [nums_cat, List.map_append]
          have e2 : ((nums (k + m) (cat k h0 g)).map (Value.int .u8)).length = k + m := by simp [nums_len]
          rw [Array.toList_append, Array.toList_append, List.toList_toArray, List.toList_toArray, e1]
          rw [List.take_append_of_le_length (by rw [e2]; omega), List.take_of_length_le (by rw [e2]; omega)]
      · exact (below_alloc w.drew _ : Below w.drew.heap.size w.drew _) |> fun q => ⟨q.os, q.tape, q.output, q.size, q.block⟩
/-- The blocks L below B, and bytes of the call's own from B on. -/
structure MO (w W : World) (L : List (Nat × Obj)) (B : Nat) (A : Option Addr) (n c : Nat) (f : Nat → Int) : Prop where
  mem : Mem w W L
  own : Own W B 5 A n c f
  up : ∀ p ∈ L, p.1 < B
  le : B ≤ W.heap.size
  wle : w.heap.size ≤ B
theorem Mem.besides {w W W' : World} {L : List (Nat × Obj)} {B : Nat} (h : Mem w W L) (up : ∀ p ∈ L, p.1 < B) (hw : w.heap.size ≤ B) (hb : Below B W W') : Mem w W' L :=
  ⟨fun p hp => (hb.block _ (up p hp)).trans (h.all p hp), h.lo, h.inc, h.below.trans (hb.mono hw)⟩
theorem Mem.top {w W : World} {L : List (Nat × Obj)} (h : Mem w W L) : ∀ p ∈ L, p.1 < W.heap.size := fun p hp => lt_heap (h.all p hp)
theorem MO.start {w W W' : World} {L : List (Nat × Obj)} {A : Option Addr} {n c : Nat} {f : Nat → Int} (h : Mem w W L) (hb : Below W.heap.size W W') (ho : Own W' W.heap.size 5 A n c f) : MO w W' L W.heap.size A n c f :=
  ⟨h.step hb, ho, h.top, hb.size, h.below.size⟩
theorem MO.step {w W W' : World} {L : List (Nat × Obj)} {B : Nat} {A : Option Addr} {n c : Nat} {f : Nat → Int} (h : MO w W L B A n c f) (hb : Below W.heap.size W W') : MO w W' L B A n c f :=
  ⟨h.mem.step hb, h.own.below hb, h.up, Nat.le_trans h.le hb.size, h.wle⟩
theorem MO.alloc {w W : World} {L : List (Nat × Obj)} {B : Nat} {A : Option Addr} {n c : Nat} {f : Nat → Int} (h : MO w W L B A n c f) (o : Obj) : MO w (W.alloc o) L B A n c f := h.step (below_alloc _ _)
theorem MO.app {w W W' : World} {L : List (Nat × Obj)} {B : Nat} {A A' : Option Addr} {n c n' c' : Nat} {f f' : Nat → Int} (h : MO w W L B A n c f) (ho : Own W' B 5 A' n' c' f') (hg : W.grownBy W' (Value.ownBlock (.slice A n c))) : MO w W' L B A' n' c' f' := by
  have hb : Below B W W' := (Below.refl _ _).grown hg h.le (fun k hk => h.own.at_ k hk)
  exact ⟨h.mem.besides h.up h.wle hb, ho, h.up, Nat.le_trans h.le hb.size, h.wle⟩
theorem MO.same {w W : World} {L : List (Nat × Obj)} {B : Nat} {A : Option Addr} {n c : Nat} {f g : Nat → Int} (h : MO w W L B A n c f) (hg : ∀ k, k < n → g k = f k) : MO w W L B A n c g := ⟨h.mem, h.own.same hg, h.up, h.le, h.wle⟩
theorem MO.set {w W : World} {L : List (Nat × Obj)} {B g n c : Nat} {f : Nat → Int} (h : MO w W L B (some ⟨g, 0, none⟩) n c f) (hn : 0 < n) (p : Nat) (v : Int) : MO w (W.setCell ⟨g, p, none⟩ (.int .u8 v)) L B (some ⟨g, 0, none⟩) n c (upd f p v) := by
  obtain ⟨g1, hg1, hB, _, _, _⟩ := h.own.lies hn
  injection hg1 with hg1
  injection hg1 with hg1
  subst hg1
  have hb : Below B W (W.setCell ⟨g, p, none⟩ (.int .u8 v)) := (Below.refl _ _).setCell hB _
  exact ⟨h.mem.besides h.up h.wle hb, h.own.set_ p v, h.up, Nat.le_trans h.le hb.size, h.wle⟩
theorem MO.below {w W : World} {L : List (Nat × Obj)} {B : Nat} {A : Option Addr} {n c : Nat} {f : Nat → Int} (h : MO w W L B A n c f) : Below w.heap.size w W := h.mem.below
/-- Where it lies. -/
theorem MO.at_ {w W : World} {L : List (Nat × Obj)} {B : Nat} {A : Option Addr} {n c : Nat} {f : Nat → Int} (h : MO w W L B A n c f) (hn : 0 < n) : ∃ g, A = some ⟨g, 0, none⟩ := by
  obtain ⟨g, hg, _⟩ := h.own.lies hn
  exact ⟨g, hg⟩
theorem MO.cells {w W : World} {L : List (Nat × Obj)} {B g n c : Nat} {f : Nat → Int} (h : MO w W L B (some ⟨g, 0, none⟩) n c f) (k : Nat) (hk : k < n) : W.cell? ⟨g, k, none⟩ = some (.int .u8 (f k)) ∧ W.frozen? ⟨g, k, none⟩ = false := by
  obtain ⟨g1, hg1, _, _, hc, hf⟩ := h.own.lies (by omega)
  injection hg1 with hg1
  injection hg1 with hg1
  subst hg1
  exact ⟨hc k hk, hf k⟩
end Go.Proofs.Ytdeghjhlbhpopaa
