/- How an IPv6 header is opened, where it came in. -/
import Derived.Test.YtankpbehahopgaaOpen
import Derived.Test.YtankpbehahopgaaRI6s
namespace Go.Proofs.Ytankpbehahopgaa
open Go.ChangeShapes Go.WideShapes Go.ChangeAt Go.RowKit
theorem onum_u8 {x : Int} (h : (Lit.int .u8 x).wf = true) : 0 ≤ x ∧ x ≤ 255 := by
  simpa [Lit.wf, IntKind.min, IntKind.max, IntKind.signed, IntKind.bits] using h
theorem onum_u16 {x : Int} (h : (Lit.int .u16 x).wf = true) : 0 ≤ x ∧ x ≤ 65535 := by
  simpa [Lit.wf, IntKind.min, IntKind.max, IntKind.signed, IntKind.bits] using h
theorem onum_u32 {x : Int} (h : (Lit.int .u32 x).wf = true) : 0 ≤ x ∧ x ≤ 4294967295 := by
  simpa [Lit.wf, IntKind.min, IntKind.max, IntKind.signed, IntKind.bits] using h
theorem onum_u64 {x : Int} (h : (Lit.int .u64 x).wf = true) : 0 ≤ x ∧ x ≤ 18446744073709551615 := by
  simpa [Lit.wf, IntKind.min, IntKind.max, IntKind.signed, IntKind.bits] using h
theorem onum_i64 {x : Int} (h : (Lit.int .i64 x).wf = true) : -9223372036854775808 ≤ x ∧ x ≤ 9223372036854775807 := by
  simpa [Lit.wf, IntKind.min, IntKind.max, IntKind.signed, IntKind.bits] using h
theorem open_ip6 {H : Type} {enc : TypeId × Value → H} {W : World} {r : Reach} {b0 : Nat} {v : Value} {d : DataW H} {p : List MemPlace} (hv : Value.okWide Try.prog W r b0 26 v) (h : DataW.Trod enc Try.prog W 0 (fun _ => true) true 26 v d p) :
    ∃ (cls : Int) (lab : Int) (next : Int) (proto : Int) (hops : Int) (s : Nat → Int) (e : Nat → Int) (O : Option Addr) (on co : Nat) (fo : Nat → Int), (0 ≤ cls ∧ cls ≤ 255) ∧ (0 ≤ lab ∧ lab ≤ 4294967295) ∧ (0 ≤ next ∧ next ≤ 255) ∧ (0 ≤ proto ∧ proto ≤ 255) ∧ (0 ≤ hops ∧ hops ≤ 255) ∧ Byt s ∧ Byt e ∧ on ≤ co ∧ co ≤ maxLen ∧ Byt fo ∧ Rd W W.heap.size O on fo ∧ v = .agg (ip6c cls lab next proto hops s e (.slice O on co)) := by
  obtain ⟨cs, rfl, hsz, hg⟩ := open_fields Try.underlying26 hv h
  have hall : Try.prog.cellsOf 26 = 38 := by kernel_rfl
  rw [hall] at hsz
  have k_u8 : Try.prog.cellsOf 5 = 1 := by kernel_rfl
  have k_u32 : Try.prog.cellsOf 22 = 1 := by kernel_rfl
  have k_a16 : Try.prog.cellsOf 23 = 16 := by kernel_rfl
  have k_bs : Try.prog.cellsOf 24 = 1 := by kernel_rfl
  obtain ⟨m0, y0, g0⟩ := hg 0 _ rfl
  have g0' : DataW.trod enc Try.prog W 0 (fun _ => true) true m0 5 ((cs.toList.drop 0).take (Try.prog.cellsOf 5)) = some y0 := g0
  rw [k_u8] at g0'
  obtain ⟨m1, y1, g1⟩ := hg 1 _ rfl
  have g1' : DataW.trod enc Try.prog W 0 (fun _ => true) true m1 22 ((cs.toList.drop 1).take (Try.prog.cellsOf 22)) = some y1 := g1
  rw [k_u32] at g1'
  obtain ⟨m2, y2, g2⟩ := hg 2 _ rfl
  have g2' : DataW.trod enc Try.prog W 0 (fun _ => true) true m2 5 ((cs.toList.drop 2).take (Try.prog.cellsOf 5)) = some y2 := g2
  rw [k_u8] at g2'
  obtain ⟨m3, y3, g3⟩ := hg 3 _ rfl
  have g3' : DataW.trod enc Try.prog W 0 (fun _ => true) true m3 5 ((cs.toList.drop 3).take (Try.prog.cellsOf 5)) = some y3 := g3
  rw [k_u8] at g3'
  obtain ⟨m4, y4, g4⟩ := hg 4 _ rfl
  have g4' : DataW.trod enc Try.prog W 0 (fun _ => true) true m4 5 ((cs.toList.drop 4).take (Try.prog.cellsOf 5)) = some y4 := g4
  rw [k_u8] at g4'
  obtain ⟨m5, y5, g5⟩ := hg 5 _ rfl
  have g5' : DataW.trod enc Try.prog W 0 (fun _ => true) true m5 23 ((cs.toList.drop 5).take (Try.prog.cellsOf 23)) = some y5 := g5
  rw [k_a16] at g5'
  obtain ⟨m6, y6, g6⟩ := hg 6 _ rfl
  have g6' : DataW.trod enc Try.prog W 0 (fun _ => true) true m6 23 ((cs.toList.drop 21).take (Try.prog.cellsOf 23)) = some y6 := g6
  rw [k_a16] at g6'
  obtain ⟨m7, y7, g7⟩ := hg 7 _ rfl
  have g7' : DataW.trod enc Try.prog W 0 (fun _ => true) true m7 24 ((cs.toList.drop 37).take (Try.prog.cellsOf 24)) = some y7 := g7
  rw [k_bs] at g7'
  obtain ⟨cls, e0, w0⟩ := trod_num Try.underlying5 g0'
  obtain ⟨lab, e1, w1⟩ := trod_num Try.underlying22 g1'
  obtain ⟨next, e2, w2⟩ := trod_num Try.underlying5 g2'
  obtain ⟨proto, e3, w3⟩ := trod_num Try.underlying5 g3'
  obtain ⟨hops, e4, w4⟩ := trod_num Try.underlying5 g4'
  obtain ⟨s, hB5, e5⟩ := trod_bytes Try.underlying23 Try.underlying5 k_u8 k_a16 g5'
  obtain ⟨e, hB6, e6⟩ := trod_bytes Try.underlying23 Try.underlying5 k_u8 k_a16 g6'
  obtain ⟨O, on, co, fo, e7, hl7, hm7, hf7, hr7⟩ := trod_rd Try.underlying24 Try.underlying5 k_u8 g7'
  refine ⟨cls, lab, next, proto, hops, s, e, O, on, co, fo, onum_u8 w0, onum_u32 w1, onum_u8 w2, onum_u8 w3, onum_u8 w4, hB5, hB6, hl7, hm7, hf7, hr7, ?_⟩
  congr 1
  have len : cs.toList.length = 38 := by simpa using hsz
  have sp : ∀ a b, cs.toList.drop a = (cs.toList.drop a).take b ++ cs.toList.drop (a + b) := fun a b => by
    rw [← List.drop_drop]
    exact (List.take_append_drop b _).symm
  have last : cs.toList.drop 37 = (cs.toList.drop 37).take 1 := (List.take_of_length_le (by rw [List.length_drop]; omega)).symm
  have hsplit : cs.toList = (cs.toList.drop 0).take 1 ++ ((cs.toList.drop 1).take 1 ++ ((cs.toList.drop 2).take 1 ++ ((cs.toList.drop 3).take 1 ++ ((cs.toList.drop 4).take 1 ++ ((cs.toList.drop 5).take 16 ++ ((cs.toList.drop 21).take 16 ++ ((cs.toList.drop 37).take 1))))))) :=
    (List.drop_zero (l := cs.toList)).symm.trans ((sp 0 1).trans (congrArg _ ((sp 1 1).trans (congrArg _ ((sp 2 1).trans (congrArg _ ((sp 3 1).trans (congrArg _ ((sp 4 1).trans (congrArg _ ((sp 5 16).trans (congrArg _ ((sp 21 16).trans (congrArg _ (last)))))))))))))))
  have eq : cs.toList = (ip6c cls lab next proto hops s e (.slice O on co)).toList := by
    rw [hsplit, e0, e1, e2, e3, e4, e5, e6, e7]
    rfl
  exact Array.ext' eq
end Go.Proofs.Ytankpbehahopgaa
