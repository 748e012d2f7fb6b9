/- How what stands ahead in a frame is opened, where it came in; a text that came in. -/
import Derived.Test.YtekjmjipgndccaaREther
import Derived.Test.YtekjmjipgndccaaLaw
import Derived.Test.YtekjmjipgndccaaFacts
import Derived.ChangeMaps5
namespace Go.Proofs.Ytekjmjipgndccaa
open Go.ChangeShapes Go.WideShapes Go.ChangeAt Go.RowKit
section
variable {H : Type} {enc : TypeId × Value → H} {P : Program}
/-- The cells of an array of bytes. -/
theorem trod_bytes {W : World} {b n m : Nat} {t e : TypeId} {sp : Nat → Bool} {hd : Bool} {cs : List Value} {y : DataW H × List MemPlace} (ht : P.underlying t = some (.array n e)) (he : P.underlying e = some (.int .u8)) (hc : P.cellsOf e = 1) (hC : P.cellsOf t = n)
    (h : DataW.trod enc P W b sp hd m t cs = some y) : ∃ f, Byt f ∧ cs = (nums n f).map (Value.int .u8) := by
  obtain ⟨xs, m', _, _, hlen, hl, hg⟩ := DataW.trod_array ht h
  rw [hC] at hlen
  have each : ∀ k, k < n → ∃ x, cs[k]? = some (.int .u8 x) ∧ 0 ≤ x ∧ x ≤ 255 := by
    intro k hk
    have e1 := hg k hk
    rw [hc, Nat.mul_one] at e1
    have hx : xs[k]? = some (xs[k]'(by omega)) := List.getElem?_eq_getElem (by omega)
    rw [hx] at e1
    obtain ⟨x, e2, _, e3⟩ := DataW.trod_int he e1
    have hk' : k < cs.length := by omega
    have e4 : (cs.drop k).take 1 = [cs[k]] := by
      rw [List.drop_eq_getElem_cons hk']
      rfl
    rw [e4] at e2
    have e5 : cs[k] = .int .u8 x := by simpa using e2
    refine ⟨x, ?_, by simpa [Lit.wf, IntKind.min, IntKind.max, IntKind.signed, IntKind.bits] using e3⟩
    rw [List.getElem?_eq_getElem hk', e5]
  refine ⟨fun k => match cs[k]? with | some (.int .u8 x) => x | _ => 0, fun k => ?_, ?_⟩
  · show 0 ≤ (match cs[k]? with | some (.int .u8 x) => x | _ => (0 : Int)) ∧ (match cs[k]? with | some (.int .u8 x) => x | _ => (0 : Int)) ≤ 255
    by_cases hk : k < n
    · obtain ⟨x, e1, e2⟩ := each k hk
      rw [e1]
      exact e2
    · have e1 : cs[k]? = none := List.getElem?_eq_none (by omega)
      rw [e1]
      exact ⟨Int.le_refl 0, (by decide : (0 : Int) ≤ 255)⟩
  · refine List.ext_getElem? fun k => ?_
    by_cases hk : k < n
    · obtain ⟨x, e1, _⟩ := each k hk
      rw [e1]
      simp [nums, List.getElem?_map, List.getElem?_range hk, e1]
    · rw [List.getElem?_eq_none (by omega), List.getElem?_eq_none (by rw [List.length_map, nums_len]; omega)]
/-- The cell of a number. -/
theorem trod_num {W : World} {b m : Nat} {t : TypeId} {k : IntKind} {sp : Nat → Bool} {hd : Bool} {cs : List Value} {y : DataW H × List MemPlace} (ht : P.underlying t = some (.int k))
    (h : DataW.trod enc P W b sp hd m t cs = some y) : ∃ x, cs = [.int k x] ∧ (Lit.int k x).wf = true := by
  obtain ⟨x, e2, _, e3⟩ := DataW.trod_int ht h
  exact ⟨x, e2, e3⟩
/-- A struct's cells, field by field. -/
theorem open_fields {W : World} {r : Reach} {b0 : Nat} {t : TypeId} {fs : Array Field} {v : Value} {d : DataW H} {p : List MemPlace} (ht : P.underlying t = some (.struct fs)) (hv : Value.okWide P W r b0 t v) (h : DataW.Trod enc P W 0 (fun _ => true) true t v d p) :
    ∃ cs : Array Value, v = .agg cs ∧ cs.size = P.cellsOf t ∧ ∀ (i : Nat) (f : Field), fs[i]? = some f → ∃ m y, DataW.trod enc P W 0 (fun _ => true) true m f.type ((cs.toList.drop f.offset).take (P.cellsOf f.type)) = some y := by
  obtain ⟨cs, rfl, hsz⟩ := okWide_struct ht hv
  obtain ⟨fuel, hf⟩ := h
  obtain ⟨xs, n, _, _, _, hl, hg⟩ := DataW.trod_struct ht hf
  refine ⟨cs, rfl, hsz, fun i f hi => ?_⟩
  have e := hg i f hi
  have hlt : i < fs.size := by
    rcases Nat.lt_or_ge i fs.size with hlt | hge
    · exact hlt
    · rw [Array.getElem?_eq_none hge] at hi; cases hi
  rw [List.getElem?_eq_getElem (show i < xs.length by omega)] at e
  exact ⟨n, _, e⟩
end
section
variable {H : Type} {enc : TypeId × Value → H}
theorem open_eth {W : World} {r : Reach} {b0 : Nat} {v : Value} {d : DataW H} {p : List MemPlace} (hv : Value.okWide Try.prog W r b0 25 v) (h : DataW.Trod enc Try.prog W 0 (fun _ => true) true 25 v d p) :
    ∃ (x y : Nat → Int) (k : Int), Byt x ∧ Byt y ∧ 0 ≤ k ∧ k ≤ 65535 ∧ v = .agg (eth x y k) := by
  obtain ⟨cs, rfl, hsz, hg⟩ := open_fields Try.underlying25 hv h
  have h13 : Try.prog.cellsOf 25 = 13 := by kernel_rfl
  have h6 : Try.prog.cellsOf 22 = 6 := by kernel_rfl
  have h1 : Try.prog.cellsOf 23 = 1 := by kernel_rfl
  rw [h13] at hsz
  obtain ⟨m0, y0, g0⟩ := hg 0 _ rfl
  obtain ⟨m1, y1, g1⟩ := hg 1 _ rfl
  obtain ⟨m2, y2, g2⟩ := hg 2 _ rfl
  have g0' : DataW.trod enc Try.prog W 0 (fun _ => true) true m0 22 ((cs.toList.drop 0).take (Try.prog.cellsOf 22)) = some y0 := g0
  have g1' : DataW.trod enc Try.prog W 0 (fun _ => true) true m1 22 ((cs.toList.drop 6).take (Try.prog.cellsOf 22)) = some y1 := g1
  have g2' : DataW.trod enc Try.prog W 0 (fun _ => true) true m2 23 ((cs.toList.drop 12).take (Try.prog.cellsOf 23)) = some y2 := g2
  rw [h6] at g0' g1'
  rw [h1] at g2'
  obtain ⟨x, hx, e0⟩ := trod_bytes Try.underlying22 Try.underlying5 (by kernel_rfl) h6 g0'
  obtain ⟨y, hy, e1⟩ := trod_bytes Try.underlying22 Try.underlying5 (by kernel_rfl) h6 g1'
  obtain ⟨k, e2, w2⟩ := trod_num Try.underlying23 g2'
  obtain ⟨b1, b2⟩ := wf_u16 w2
  refine ⟨x, y, k, hx, hy, b1, b2, ?_⟩
  congr 1
  have hl : cs.toList = (cs.toList.drop 0).take 6 ++ ((cs.toList.drop 6).take 6 ++ (cs.toList.drop 12).take 1) := by
    have len : cs.toList.length = 13 := by simpa using hsz
    generalize cs.toList = l at *
    match l, len with
    | [_, _, _, _, _, _, _, _, _, _, _, _, _], _ => rfl
  have e : cs.toList = (eth x y k).toList := by
    rw [hl, e0, e1, e2]
    rfl
  exact Array.ext' e
end
end Go.Proofs.Ytekjmjipgndccaa
