/- How an IPv4 header is opened, where it came in. -/
import Derived.Test.YtmmmednghdnhnaaOpen
import Derived.Test.YtmmmednghdnhnaaRI4s
namespace Go.Proofs.Ytmmmednghdnhnaa
open Go.ChangeShapes Go.WideShapes Go.ChangeAt Go.RowKit
section
variable {H : Type} {enc : TypeId × Value → H}
theorem num_u8 {x : Int} (h : (Lit.int .u8 x).wf = true) : 0 ≤ x ∧ x ≤ 255 := by
  simpa [Lit.wf, IntKind.min, IntKind.max, IntKind.signed, IntKind.bits] using h
theorem num_u16 {x : Int} (h : (Lit.int .u16 x).wf = true) : 0 ≤ x ∧ x ≤ 65535 := by
  simpa [Lit.wf, IntKind.min, IntKind.max, IntKind.signed, IntKind.bits] using h
theorem open_ip4 {W : World} {r : Reach} {b0 : Nat} {v : Value} {d : DataW H} {p : List MemPlace} (hv : Value.okWide Try.prog W r b0 26 v) (h : DataW.Trod enc Try.prog W 0 (fun _ => true) true 26 v d p) :
    ∃ (tos id : Int) (df : Bool) (ttl proto : Int) (s e : Nat → Int) (O : Option Addr) (on co : Nat) (f : Nat → Int), (0 ≤ tos ∧ tos ≤ 255) ∧ (0 ≤ id ∧ id ≤ 65535) ∧ (0 ≤ ttl ∧ ttl ≤ 255) ∧ (0 ≤ proto ∧ proto ≤ 255) ∧ Byt s ∧ Byt e ∧ on ≤ co ∧ co ≤ maxLen ∧ Byt f ∧ Rd W W.heap.size O on f ∧
      v = .agg (ip4c tos id df ttl proto s e (.slice O on co)) := by
  obtain ⟨cs, rfl, hsz, hg⟩ := open_fields Try.underlying26 hv h
  have h38 : Try.prog.cellsOf 26 = 38 := by kernel_rfl
  have h16 : Try.prog.cellsOf 23 = 16 := by kernel_rfl
  have h1 : Try.prog.cellsOf 5 = 1 := by kernel_rfl
  have h1' : Try.prog.cellsOf 22 = 1 := by kernel_rfl
  have h1b : Try.prog.cellsOf 4 = 1 := by kernel_rfl
  have h1s : Try.prog.cellsOf 24 = 1 := by kernel_rfl
  rw [h38] at hsz
  obtain ⟨m0, y0, g0⟩ := hg 0 _ rfl
  have g0' : DataW.trod enc Try.prog W 0 (fun _ => true) true m0 5 ((cs.toList.drop 0).take (Try.prog.cellsOf 5)) = some y0 := g0
  rw [h1] at g0'
  obtain ⟨m1, y1, g1⟩ := hg 1 _ rfl
  have g1' : DataW.trod enc Try.prog W 0 (fun _ => true) true m1 22 ((cs.toList.drop 1).take (Try.prog.cellsOf 22)) = some y1 := g1
  rw [h1'] at g1'
  obtain ⟨m2, y2, g2⟩ := hg 2 _ rfl
  have g2' : DataW.trod enc Try.prog W 0 (fun _ => true) true m2 4 ((cs.toList.drop 2).take (Try.prog.cellsOf 4)) = some y2 := g2
  rw [h1b] at g2'
  obtain ⟨m3, y3, g3⟩ := hg 3 _ rfl
  have g3' : DataW.trod enc Try.prog W 0 (fun _ => true) true m3 5 ((cs.toList.drop 3).take (Try.prog.cellsOf 5)) = some y3 := g3
  rw [h1] at g3'
  obtain ⟨m4, y4, g4⟩ := hg 4 _ rfl
  have g4' : DataW.trod enc Try.prog W 0 (fun _ => true) true m4 5 ((cs.toList.drop 4).take (Try.prog.cellsOf 5)) = some y4 := g4
  rw [h1] at g4'
  obtain ⟨m5, y5, g5⟩ := hg 5 _ rfl
  have g5' : DataW.trod enc Try.prog W 0 (fun _ => true) true m5 23 ((cs.toList.drop 5).take (Try.prog.cellsOf 23)) = some y5 := g5
  rw [h16] at g5'
  obtain ⟨m6, y6, g6⟩ := hg 6 _ rfl
  have g6' : DataW.trod enc Try.prog W 0 (fun _ => true) true m6 23 ((cs.toList.drop 21).take (Try.prog.cellsOf 23)) = some y6 := g6
  rw [h16] at g6'
  obtain ⟨m7, y7, g7⟩ := hg 7 _ rfl
  have g7' : DataW.trod enc Try.prog W 0 (fun _ => true) true m7 24 ((cs.toList.drop 37).take (Try.prog.cellsOf 24)) = some y7 := g7
  rw [h1s] at g7'
  obtain ⟨tos, e0, w0⟩ := trod_num Try.underlying5 g0'
  obtain ⟨id, e1, w1⟩ := trod_num Try.underlying22 g1'
  obtain ⟨df, e2⟩ := trod_flag Try.underlying4 g2'
  obtain ⟨ttl, e3, w3⟩ := trod_num Try.underlying5 g3'
  obtain ⟨proto, e4, w4⟩ := trod_num Try.underlying5 g4'
  obtain ⟨s, hs, e5⟩ := trod_bytes Try.underlying23 Try.underlying5 h1 h16 g5'
  obtain ⟨e, he, e6⟩ := trod_bytes Try.underlying23 Try.underlying5 h1 h16 g6'
  obtain ⟨O, on, co, f, e7, hl, hm, hf, hr⟩ := trod_rd Try.underlying24 Try.underlying5 h1 g7'
  refine ⟨tos, id, df, ttl, proto, s, e, O, on, co, f, num_u8 w0, num_u16 w1, num_u8 w3, num_u8 w4, hs, he, hl, hm, hf, hr, ?_⟩
  congr 1
  have len : cs.toList.length = 38 := by simpa using hsz
  have hsplit : cs.toList = (cs.toList.drop 0).take 1 ++ ((cs.toList.drop 1).take 1 ++ ((cs.toList.drop 2).take 1 ++ ((cs.toList.drop 3).take 1 ++ ((cs.toList.drop 4).take 1 ++ ((cs.toList.drop 5).take 16 ++ ((cs.toList.drop 21).take 16 ++ (cs.toList.drop 37).take 1)))))) := by
    have sp : ∀ a b, cs.toList.drop a = (cs.toList.drop a).take b ++ cs.toList.drop (a + b) := fun a b => by
      rw [← List.drop_drop]
      exact (List.take_append_drop b _).symm
    have last : cs.toList.drop 37 = (cs.toList.drop 37).take 1 := (List.take_of_length_le (by rw [List.length_drop]; omega)).symm
    exact (List.drop_zero (l := cs.toList)).symm.trans ((sp 0 1).trans (congrArg _ ((sp 1 1).trans (congrArg _ ((sp 2 1).trans (congrArg _ ((sp 3 1).trans (congrArg _ ((sp 4 1).trans (congrArg _ ((sp 5 16).trans (congrArg _ ((sp 21 16).trans (congrArg _ last)))))))))))))) 
  have eq : cs.toList = (ip4c tos id df ttl proto s e (.slice O on co)).toList := by
    rw [hsplit, e0, e1, e2, e3, e4, e5, e6, e7]
    rfl
  exact Array.ext' eq
end
end Go.Proofs.Ytmmmednghdnhnaa
