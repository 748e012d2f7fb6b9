/- An append onto a fresh row of nothing: over any program. -/
import Derived.Test.YtfchmmojhfjibaaGrow
import Derived.Test.YtfchmmojhfjibaaVals
import Derived.Test.YtfchmmojhfjibaaBlk
namespace Go.Proofs.Ytfchmmojhfjibaa
open Go Go.RowKit
section
variable {P : Program}
theorem run_append_first {w : World} (base : Nat) (t ty e : TypeId) (i : TypeInfo) (z : Value) (size : Nat) (ht : P.underlying t = some (.slice e)) (hi : P.info? e = some i) (hz : i.zero = some z) (hsize : i.size = size) (hzs : z.cells.size = size)
    {zb b off m c' : Nat} {g : Nat → Value} (hm : 0 < m) (hr : ∀ k, k < m * size → w.cell? ⟨b, off + k, none⟩ = some (g k))
    (hlen : m ≤ maxLen) (hby : m * i.bytes ≤ 140737488355328) (hbase : base ≤ w.heap.size) :
    ∃ c2 w', (Builtin.append_ #[t, t] ty #[.slice (some ⟨zb, 0, none⟩) 0 0, .slice (some ⟨b, off, none⟩) m c']).run P w = .ok (.slice (some ⟨w.heap.size, 0, none⟩) m c2) w' ∧ OwnC w' base e size (some ⟨w.heap.size, 0, none⟩) m c2 g ∧ Below w.heap.size w w' := by
  have hnl : (vals (m * size) g).length = m * size := vals_len ..
  have hcells : ∀ j u, (vals (m * size) g)[j]? = some u → w.cell? ((⟨b, off, none⟩ : Addr).add j) = some u := fun j u hu => by
    have hj : j < m * size := by
      rcases Nat.lt_or_ge j (m * size) with q | q
      · exact q
      · rw [List.getElem?_eq_none (by rw [vals_len]; exact q)] at hu
        cases hu
    rw [vals_get hj] at hu
    injection hu with hu
    subst hu
    rw [Addr.add_lit]
    exact hr j hj
  subst hsize
  have hlen9 : m ≤ 9223372036854775807 := by unfold maxLen at hlen; omega
  have hx : vals (0 * i.size) g = [] := List.eq_nil_of_length_eq_zero (by rw [vals_len]; simp)
  have hrg := run_append_grow (P := P) w t ty e i z ht hi hz ⟨zb, 0, none⟩ 0 0 (vals (0 * i.size) g) (by rw [vals_len]) (fun j u hu => by rw [hx] at hu; cases hu) ⟨b, off, none⟩ m c' (vals (m * i.size) g) hnl hcells (by omega) (by omega) (growslice_fits (by omega) (by rw [Nat.zero_add]; exact hby))
  rw [hx] at hrg
  simp only [Nat.zero_add, Array.empty_append] at hrg
  have hge := grownCap_ge w m 0 e
  have hcm : grownCap w m 0 e ≤ maxLen := grownCap_le_maxLen w m 0 e hlen
  refine ⟨_, _, hrg, ⟨hnl, .inr ⟨w.heap.size, _, _, rfl, hbase, heap_alloc_new w.drew _, hge, hcm, ?_, ?_⟩⟩, (Below.refl w.heap.size w).drew.alloc (Nat.le_refl _) _⟩
  · simp only [Array.size_append, List.size_toArray, size_zeroCells, hzs, vals_len]
    rw [← Nat.add_mul]
    congr 1
    omega
  · simp only [Array.toList_append]
    exact List.take_left' hnl
end
end Go.Proofs.Ytfchmmojhfjibaa
