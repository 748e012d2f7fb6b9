/- How a TCP and a UDP header are opened, where they came in. -/
import Derived.Test.YtmcapemlicjfjaaOpen
import Derived.Test.YtmcapemlicjfjaaSc
namespace Go.Proofs.Ytmcapemlicjfjaa
open Go.ChangeShapes Go.WideShapes Go.ChangeAt Go.RowKit
theorem onum_u8 {x : Int} (h : (Lit.int .u8 x).wf = true) : 0 ≤ x ∧ x ≤ 255 := by
  simpa [Lit.wf, IntKind.min, IntKind.max, IntKind.signed, IntKind.bits] using h
theorem onum_u16 {x : Int} (h : (Lit.int .u16 x).wf = true) : 0 ≤ x ∧ x ≤ 65535 := by
  simpa [Lit.wf, IntKind.min, IntKind.max, IntKind.signed, IntKind.bits] using h
theorem onum_u32 {x : Int} (h : (Lit.int .u32 x).wf = true) : 0 ≤ x ∧ x ≤ 4294967295 := by
  simpa [Lit.wf, IntKind.min, IntKind.max, IntKind.signed, IntKind.bits] using h
theorem onum_u64 {x : Int} (h : (Lit.int .u64 x).wf = true) : 0 ≤ x ∧ x ≤ 18446744073709551615 := by
  simpa [Lit.wf, IntKind.min, IntKind.max, IntKind.signed, IntKind.bits] using h
theorem onum_i64 {x : Int} (h : (Lit.int .i64 x).wf = true) : -9223372036854775808 ≤ x ∧ x ≤ 9223372036854775807 := by
  simpa [Lit.wf, IntKind.min, IntKind.max, IntKind.signed, IntKind.bits] using h
theorem open_tcp {H : Type} {enc : TypeId × Value → H} {W : World} {r : Reach} {b0 : Nat} {v : Value} {d : DataW H} {p : List MemPlace} (hv : Value.okWide Try.prog W r b0 28 v) (h : DataW.Trod enc Try.prog W 0 (fun _ => true) true 28 v d p) :
    ∃ (sp : Int) (dp : Int) (sq : Int) (ak : Int) (re : Int) (fl : Int) (wi : Int) (ur : Int) (O : Option Addr) (on co : Nat) (fo : Nat → Int), (0 ≤ sp ∧ sp ≤ 65535) ∧ (0 ≤ dp ∧ dp ≤ 65535) ∧ (0 ≤ sq ∧ sq ≤ 4294967295) ∧ (0 ≤ ak ∧ ak ≤ 4294967295) ∧ (0 ≤ re ∧ re ≤ 255) ∧ (0 ≤ fl ∧ fl ≤ 255) ∧ (0 ≤ wi ∧ wi ≤ 65535) ∧ (0 ≤ ur ∧ ur ≤ 65535) ∧ on ≤ co ∧ co ≤ maxLen ∧ Byt fo ∧ Rd W W.heap.size O on fo ∧ v = .agg (tcpc sp dp sq ak re fl wi ur (.slice O on co)) := by
  obtain ⟨cs, rfl, hsz, hg⟩ := open_fields Try.underlying28 hv h
  have hall : Try.prog.cellsOf 28 = 9 := by kernel_rfl
  rw [hall] at hsz
  have k_u16 : Try.prog.cellsOf 25 = 1 := by kernel_rfl
  have k_u32 : Try.prog.cellsOf 26 = 1 := by kernel_rfl
  have k_u8 : Try.prog.cellsOf 5 = 1 := by kernel_rfl
  have k_bs : Try.prog.cellsOf 23 = 1 := by kernel_rfl
  obtain ⟨m0, y0, g0⟩ := hg 0 _ rfl
  have g0' : DataW.trod enc Try.prog W 0 (fun _ => true) true m0 25 ((cs.toList.drop 0).take (Try.prog.cellsOf 25)) = some y0 := g0
  rw [k_u16] at g0'
  obtain ⟨m1, y1, g1⟩ := hg 1 _ rfl
  have g1' : DataW.trod enc Try.prog W 0 (fun _ => true) true m1 25 ((cs.toList.drop 1).take (Try.prog.cellsOf 25)) = some y1 := g1
  rw [k_u16] at g1'
  obtain ⟨m2, y2, g2⟩ := hg 2 _ rfl
  have g2' : DataW.trod enc Try.prog W 0 (fun _ => true) true m2 26 ((cs.toList.drop 2).take (Try.prog.cellsOf 26)) = some y2 := g2
  rw [k_u32] at g2'
  obtain ⟨m3, y3, g3⟩ := hg 3 _ rfl
  have g3' : DataW.trod enc Try.prog W 0 (fun _ => true) true m3 26 ((cs.toList.drop 3).take (Try.prog.cellsOf 26)) = some y3 := g3
  rw [k_u32] at g3'
  obtain ⟨m4, y4, g4⟩ := hg 4 _ rfl
  have g4' : DataW.trod enc Try.prog W 0 (fun _ => true) true m4 5 ((cs.toList.drop 4).take (Try.prog.cellsOf 5)) = some y4 := g4
  rw [k_u8] at g4'
  obtain ⟨m5, y5, g5⟩ := hg 5 _ rfl
  have g5' : DataW.trod enc Try.prog W 0 (fun _ => true) true m5 5 ((cs.toList.drop 5).take (Try.prog.cellsOf 5)) = some y5 := g5
  rw [k_u8] at g5'
  obtain ⟨m6, y6, g6⟩ := hg 6 _ rfl
  have g6' : DataW.trod enc Try.prog W 0 (fun _ => true) true m6 25 ((cs.toList.drop 6).take (Try.prog.cellsOf 25)) = some y6 := g6
  rw [k_u16] at g6'
  obtain ⟨m7, y7, g7⟩ := hg 7 _ rfl
  have g7' : DataW.trod enc Try.prog W 0 (fun _ => true) true m7 25 ((cs.toList.drop 7).take (Try.prog.cellsOf 25)) = some y7 := g7
  rw [k_u16] at g7'
  obtain ⟨m8, y8, g8⟩ := hg 8 _ rfl
  have g8' : DataW.trod enc Try.prog W 0 (fun _ => true) true m8 23 ((cs.toList.drop 8).take (Try.prog.cellsOf 23)) = some y8 := g8
  rw [k_bs] at g8'
  obtain ⟨sp, e0, w0⟩ := trod_num Try.underlying25 g0'
  obtain ⟨dp, e1, w1⟩ := trod_num Try.underlying25 g1'
  obtain ⟨sq, e2, w2⟩ := trod_num Try.underlying26 g2'
  obtain ⟨ak, e3, w3⟩ := trod_num Try.underlying26 g3'
  obtain ⟨re, e4, w4⟩ := trod_num Try.underlying5 g4'
  obtain ⟨fl, e5, w5⟩ := trod_num Try.underlying5 g5'
  obtain ⟨wi, e6, w6⟩ := trod_num Try.underlying25 g6'
  obtain ⟨ur, e7, w7⟩ := trod_num Try.underlying25 g7'
  obtain ⟨O, on, co, fo, e8, hl8, hm8, hf8, hr8⟩ := trod_rd Try.underlying23 Try.underlying5 k_u8 g8'
  refine ⟨sp, dp, sq, ak, re, fl, wi, ur, O, on, co, fo, onum_u16 w0, onum_u16 w1, onum_u32 w2, onum_u32 w3, onum_u8 w4, onum_u8 w5, onum_u16 w6, onum_u16 w7, hl8, hm8, hf8, hr8, ?_⟩
  congr 1
  have len : cs.toList.length = 9 := by simpa using hsz
  have splt : ∀ a b, cs.toList.drop a = (cs.toList.drop a).take b ++ cs.toList.drop (a + b) := fun a b => by
    rw [← List.drop_drop]
    exact (List.take_append_drop b _).symm
  have last : cs.toList.drop 8 = (cs.toList.drop 8).take 1 := (List.take_of_length_le (by rw [List.length_drop]; omega)).symm
  have hsplit : cs.toList = (cs.toList.drop 0).take 1 ++ ((cs.toList.drop 1).take 1 ++ ((cs.toList.drop 2).take 1 ++ ((cs.toList.drop 3).take 1 ++ ((cs.toList.drop 4).take 1 ++ ((cs.toList.drop 5).take 1 ++ ((cs.toList.drop 6).take 1 ++ ((cs.toList.drop 7).take 1 ++ ((cs.toList.drop 8).take 1)))))))) :=
    (List.drop_zero (l := cs.toList)).symm.trans ((splt 0 1).trans (congrArg _ ((splt 1 1).trans (congrArg _ ((splt 2 1).trans (congrArg _ ((splt 3 1).trans (congrArg _ ((splt 4 1).trans (congrArg _ ((splt 5 1).trans (congrArg _ ((splt 6 1).trans (congrArg _ ((splt 7 1).trans (congrArg _ (last)))))))))))))))))
  have eq : cs.toList = (tcpc sp dp sq ak re fl wi ur (.slice O on co)).toList := by
    rw [hsplit, e0, e1, e2, e3, e4, e5, e6, e7, e8]
    rfl
  exact Array.ext' eq
theorem open_udp {H : Type} {enc : TypeId × Value → H} {W : World} {r : Reach} {b0 : Nat} {v : Value} {d : DataW H} {p : List MemPlace} (hv : Value.okWide Try.prog W r b0 34 v) (h : DataW.Trod enc Try.prog W 0 (fun _ => true) true 34 v d p) :
    ∃ (xp : Int) (yp : Int) (ns : Bool), (0 ≤ xp ∧ xp ≤ 65535) ∧ (0 ≤ yp ∧ yp ≤ 65535) ∧ v = .agg (udpc xp yp ns) := by
  obtain ⟨cs, rfl, hsz, hg⟩ := open_fields Try.underlying34 hv h
  have hall : Try.prog.cellsOf 34 = 3 := by kernel_rfl
  rw [hall] at hsz
  have k_u16 : Try.prog.cellsOf 25 = 1 := by kernel_rfl
  have k_bool : Try.prog.cellsOf 4 = 1 := by kernel_rfl
  have k_u8 : Try.prog.cellsOf 5 = 1 := by kernel_rfl
  obtain ⟨m0, y0, g0⟩ := hg 0 _ rfl
  have g0' : DataW.trod enc Try.prog W 0 (fun _ => true) true m0 25 ((cs.toList.drop 0).take (Try.prog.cellsOf 25)) = some y0 := g0
  rw [k_u16] at g0'
  obtain ⟨m1, y1, g1⟩ := hg 1 _ rfl
  have g1' : DataW.trod enc Try.prog W 0 (fun _ => true) true m1 25 ((cs.toList.drop 1).take (Try.prog.cellsOf 25)) = some y1 := g1
  rw [k_u16] at g1'
  obtain ⟨m2, y2, g2⟩ := hg 2 _ rfl
  have g2' : DataW.trod enc Try.prog W 0 (fun _ => true) true m2 4 ((cs.toList.drop 2).take (Try.prog.cellsOf 4)) = some y2 := g2
  rw [k_bool] at g2'
  obtain ⟨xp, e0, w0⟩ := trod_num Try.underlying25 g0'
  obtain ⟨yp, e1, w1⟩ := trod_num Try.underlying25 g1'
  obtain ⟨ns, e2⟩ := trod_flag Try.underlying4 g2'
  refine ⟨xp, yp, ns, onum_u16 w0, onum_u16 w1, ?_⟩
  congr 1
  have len : cs.toList.length = 3 := by simpa using hsz
  have splt : ∀ a b, cs.toList.drop a = (cs.toList.drop a).take b ++ cs.toList.drop (a + b) := fun a b => by
    rw [← List.drop_drop]
    exact (List.take_append_drop b _).symm
  have last : cs.toList.drop 2 = (cs.toList.drop 2).take 1 := (List.take_of_length_le (by rw [List.length_drop]; omega)).symm
  have hsplit : cs.toList = (cs.toList.drop 0).take 1 ++ ((cs.toList.drop 1).take 1 ++ ((cs.toList.drop 2).take 1)) :=
    (List.drop_zero (l := cs.toList)).symm.trans ((splt 0 1).trans (congrArg _ ((splt 1 1).trans (congrArg _ (last)))))
  have eq : cs.toList = (udpc xp yp ns).toList := by
    rw [hsplit, e0, e1, e2]
    rfl
  exact Array.ext' eq
end Go.Proofs.Ytmcapemlicjfjaa
