import Derived.Test.YthjgecdnlpdcdaaM49
import Derived.Test.YthjgecdnlpdcdaaM40
/- How an outer is opened, where it came in. -/
namespace Go.Proofs.Ythjgecdnlpdcdaa
open Go.ChangeShapes Go.WideShapes Go.ChangeAt Go.RowKit
theorem onum_u8 {x : Int} (h : (Lit.int .u8 x).wf = true) : 0 ≤ x ∧ x ≤ 255 := by
  simpa [Lit.wf, IntKind.min, IntKind.max, IntKind.signed, IntKind.bits] using h
theorem onum_u16 {x : Int} (h : (Lit.int .u16 x).wf = true) : 0 ≤ x ∧ x ≤ 65535 := by
  simpa [Lit.wf, IntKind.min, IntKind.max, IntKind.signed, IntKind.bits] using h
theorem open_out {H : Type} {enc : TypeId × Value → H} {W : World} {r : Reach} {b0 : Nat} {v : Value} {d : DataW H} {p : List MemPlace} (hv : Value.okWide Try.prog W r b0 25 v) (h : DataW.Trod enc Try.prog W 0 (fun _ => true) true 25 v d p) :
    ∃ (vv : Bool) (mo : Int) (s : Nat → Int) (d : Nat → Int) (sp : Int), (0 ≤ mo ∧ mo ≤ 255) ∧ Byt s ∧ Byt d ∧ (0 ≤ sp ∧ sp ≤ 65535) ∧ v = .agg (outc vv mo s d sp) := by
  obtain ⟨cs, rfl, hsz, hg⟩ := open_fields Try.underlying25 hv h
  have hall : Try.prog.cellsOf 25 = 35 := by kernel_rfl
  rw [hall] at hsz
  have k_bool : Try.prog.cellsOf 4 = 1 := by kernel_rfl
  have k_u8 : Try.prog.cellsOf 5 = 1 := by kernel_rfl
  have k_a16 : Try.prog.cellsOf 22 = 16 := by kernel_rfl
  have k_u16 : Try.prog.cellsOf 23 = 1 := by kernel_rfl
  obtain ⟨m0, y0, g0⟩ := hg 0 _ rfl
  have g0' : DataW.trod enc Try.prog W 0 (fun _ => true) true m0 4 ((cs.toList.drop 0).take (Try.prog.cellsOf 4)) = some y0 := g0
  rw [k_bool] at g0'
  obtain ⟨m1, y1, g1⟩ := hg 1 _ rfl
  have g1' : DataW.trod enc Try.prog W 0 (fun _ => true) true m1 5 ((cs.toList.drop 1).take (Try.prog.cellsOf 5)) = some y1 := g1
  rw [k_u8] at g1'
  obtain ⟨m2, y2, g2⟩ := hg 2 _ rfl
  have g2' : DataW.trod enc Try.prog W 0 (fun _ => true) true m2 22 ((cs.toList.drop 2).take (Try.prog.cellsOf 22)) = some y2 := g2
  rw [k_a16] at g2'
  obtain ⟨m3, y3, g3⟩ := hg 3 _ rfl
  have g3' : DataW.trod enc Try.prog W 0 (fun _ => true) true m3 22 ((cs.toList.drop 18).take (Try.prog.cellsOf 22)) = some y3 := g3
  rw [k_a16] at g3'
  obtain ⟨m4, y4, g4⟩ := hg 4 _ rfl
  have g4' : DataW.trod enc Try.prog W 0 (fun _ => true) true m4 23 ((cs.toList.drop 34).take (Try.prog.cellsOf 23)) = some y4 := g4
  rw [k_u16] at g4'
  obtain ⟨vv, e0⟩ := trod_flag Try.underlying4 g0'
  obtain ⟨mo, e1, w1⟩ := trod_num Try.underlying5 g1'
  obtain ⟨s, hB2, e2⟩ := trod_bytes Try.underlying22 Try.underlying5 k_u8 k_a16 g2'
  obtain ⟨d, hB3, e3⟩ := trod_bytes Try.underlying22 Try.underlying5 k_u8 k_a16 g3'
  obtain ⟨sp, e4, w4⟩ := trod_num Try.underlying23 g4'
  refine ⟨vv, mo, s, d, sp, onum_u8 w1, hB2, hB3, onum_u16 w4, ?_⟩
  congr 1
  have len : cs.toList.length = 35 := by simpa using hsz
  have splt : ∀ a b, cs.toList.drop a = (cs.toList.drop a).take b ++ cs.toList.drop (a + b) := fun a b => by
    rw [← List.drop_drop]
    exact (List.take_append_drop b _).symm
  have last : cs.toList.drop 34 = (cs.toList.drop 34).take 1 := (List.take_of_length_le (by rw [List.length_drop]; omega)).symm
  have hsplit : cs.toList = (cs.toList.drop 0).take 1 ++ ((cs.toList.drop 1).take 1 ++ ((cs.toList.drop 2).take 16 ++ ((cs.toList.drop 18).take 16 ++ ((cs.toList.drop 34).take 1)))) :=
    (List.drop_zero (l := cs.toList)).symm.trans ((splt 0 1).trans (congrArg _ ((splt 1 1).trans (congrArg _ ((splt 2 16).trans (congrArg _ ((splt 18 16).trans (congrArg _ (last)))))))))
  have eq : cs.toList = (outc vv mo s d sp).toList := by
    rw [hsplit, e0, e1, e2, e3, e4]
    rfl
  exact Array.ext' eq
end Go.Proofs.Ythjgecdnlpdcdaa
