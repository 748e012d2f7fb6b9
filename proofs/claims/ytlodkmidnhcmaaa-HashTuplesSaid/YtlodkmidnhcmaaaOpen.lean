/- How arguments are opened field by field, over any program: arrays of bytes, numbers, flags, slices of bytes, a struct's cells. -/
import Derived.Test.YtlodkmidnhcmaaaLaw
import Derived.ChangeMaps5
namespace Go.Proofs.Ytlodkmidnhcmaaa
open Go.ChangeShapes Go.WideShapes Go.ChangeAt Go.RowKit
section
variable {H : Type} {enc : TypeId × Value → H} {P : Program}
/-- The cells of an array of bytes. -/
theorem trod_bytes {W : World} {b n m : Nat} {t e : TypeId} {sp : Nat → Bool} {hd : Bool} {cs : List Value} {y : DataW H × List MemPlace} (ht : P.underlying t = some (.array n e)) (he : P.underlying e = some (.int .u8)) (hc : P.cellsOf e = 1) (hC : P.cellsOf t = n)
    (h : DataW.trod enc P W b sp hd m t cs = some y) : ∃ f, Byt f ∧ cs = (nums n f).map (Value.int .u8) := by
  obtain ⟨xs, m', _, _, hlen, hl, hg⟩ := DataW.trod_array ht h
  rw [hC] at hlen
  have each : ∀ k, k < n → ∃ x, cs[k]? = some (.int .u8 x) ∧ 0 ≤ x ∧ x ≤ 255 := by
    intro k hk
    have e1 := hg k hk
    rw [hc, Nat.mul_one] at e1
    have hx : xs[k]? = some (xs[k]'(by omega)) := List.getElem?_eq_getElem (by omega)
    rw [hx] at e1
    obtain ⟨x, e2, _, e3⟩ := DataW.trod_int he e1
    have hk' : k < cs.length := by omega
    have e4 : (cs.drop k).take 1 = [cs[k]] := by
      rw [List.drop_eq_getElem_cons hk']
      rfl
    rw [e4] at e2
    have e5 : cs[k] = .int .u8 x := by simpa using e2
    refine ⟨x, ?_, by simpa [Lit.wf, IntKind.min, IntKind.max, IntKind.signed, IntKind.bits] using e3⟩
    rw [List.getElem?_eq_getElem hk', e5]
  refine ⟨fun k => match cs[k]? with | some (.int .u8 x) => x | _ => 0, fun k => ?_, ?_⟩
  · show 0 ≤ (match cs[k]? with | some (.int .u8 x) => x | _ => (0 : Int)) ∧ (match cs[k]? with | some (.int .u8 x) => x | _ => (0 : Int)) ≤ 255
    by_cases hk : k < n
    · obtain ⟨x, e1, e2⟩ := each k hk
      rw [e1]
      exact e2
    · have e1 : cs[k]? = none := List.getElem?_eq_none (by omega)
      rw [e1]
      exact ⟨Int.le_refl 0, (by decide : (0 : Int) ≤ 255)⟩
  · refine List.ext_getElem? fun k => ?_
    by_cases hk : k < n
    · obtain ⟨x, e1, _⟩ := each k hk
      rw [e1]
      simp [nums, List.getElem?_map, List.getElem?_range hk, e1]
    · rw [List.getElem?_eq_none (by omega), List.getElem?_eq_none (by rw [List.length_map, nums_len]; omega)]
/-- The cell of a number. -/
theorem trod_num {W : World} {b m : Nat} {t : TypeId} {k : IntKind} {sp : Nat → Bool} {hd : Bool} {cs : List Value} {y : DataW H × List MemPlace} (ht : P.underlying t = some (.int k))
    (h : DataW.trod enc P W b sp hd m t cs = some y) : ∃ x, cs = [.int k x] ∧ (Lit.int k x).wf = true := by
  obtain ⟨x, e2, _, e3⟩ := DataW.trod_int ht h
  exact ⟨x, e2, e3⟩
/-- A struct's cells, field by field. -/
theorem open_fields {W : World} {r : Reach} {b0 : Nat} {t : TypeId} {fs : Array Field} {v : Value} {d : DataW H} {p : List MemPlace} (ht : P.underlying t = some (.struct fs)) (hv : Value.okWide P W r b0 t v) (h : DataW.Trod enc P W 0 (fun _ => true) true t v d p) :
    ∃ cs : Array Value, v = .agg cs ∧ cs.size = P.cellsOf t ∧ ∀ (i : Nat) (f : Field), fs[i]? = some f → ∃ m y, DataW.trod enc P W 0 (fun _ => true) true m f.type ((cs.toList.drop f.offset).take (P.cellsOf f.type)) = some y := by
  obtain ⟨cs, rfl, hsz⟩ := okWide_struct ht hv
  obtain ⟨fuel, hf⟩ := h
  obtain ⟨xs, n, _, _, _, hl, hg⟩ := DataW.trod_struct ht hf
  refine ⟨cs, rfl, hsz, fun i f hi => ?_⟩
  have e := hg i f hi
  have hlt : i < fs.size := by
    rcases Nat.lt_or_ge i fs.size with hlt | hge
    · exact hlt
    · rw [Array.getElem?_eq_none hge] at hi; cases hi
  rw [List.getElem?_eq_getElem (show i < xs.length by omega)] at e
  exact ⟨n, _, e⟩
/-- The cell of a Bool. -/
theorem trod_flag {W : World} {b m : Nat} {t : TypeId} {sp : Nat → Bool} {hd : Bool} {cs : List Value} {y : DataW H × List MemPlace} (ht : P.underlying t = some .bool)
    (h : DataW.trod enc P W b sp hd m t cs = some y) : ∃ x, cs = [.bool x] := by
  obtain ⟨x, e, _⟩ := DataW.trod_bool ht h
  exact ⟨x, e⟩
/-- The cell of a slice of bytes. -/
theorem trod_rd {W : World} {m : Nat} {t e : TypeId} {cs : List Value} {y : DataW H × List MemPlace} (ht : P.underlying t = some (.slice e)) (he : P.underlying e = some (.int .u8)) (hc : P.cellsOf e = 1)
    (h : DataW.trod enc P W 0 (fun _ => true) true m t cs = some y) : ∃ A n c f, cs = [.slice A n c] ∧ n ≤ c ∧ c ≤ maxLen ∧ Byt f ∧ Rd W W.heap.size A n f := by
  rcases open_ints ht he hc h with ⟨hcs, _⟩ | ⟨a, len, cap, zs, hcs, _, hl, hm, hz, _, hcell, hwz⟩
  · exact ⟨none, 0, 0, fun _ => 0, hcs, Nat.le_refl _, Nat.zero_le _, fun _ => ⟨Int.le_refl 0, (by decide : (0 : Int) ≤ 255)⟩, .inl rfl⟩
  · simp only [if_true] at hz
    refine ⟨some a, len, cap, fun k => zs.getD k 0, hcs, hl, hm, fun k => ?_, ?_⟩
    · by_cases hk : k < zs.length
      · have hm := hwz (zs.getD k 0) (by simp [List.getD, hk])
        simpa [Lit.wf, IntKind.min, IntKind.max, IntKind.signed, IntKind.bits] using hm
      · have e0 : zs.getD k 0 = 0 := by simp [List.getD, hk]
        show 0 ≤ zs.getD k 0 ∧ zs.getD k 0 ≤ 255
        omega
    · rcases Nat.eq_zero_or_pos len with h0 | h0
      · exact .inl h0
      · obtain ⟨b, off, spot⟩ := a
        have hspot : spot = none := by simpa [Addr.add] using World.cell?_spot (hcell 0 (by omega))
        subst hspot
        have hlt := World.block_lt_of_cell? W _ (hcell 0 (by omega))
        exact .inr ⟨b, off, rfl, by simpa [Addr.add] using hlt, fun k hk => by rw [← add_plain]; exact hcell k (by omega)⟩
end
end Go.Proofs.Ytlodkmidnhcmaaa
