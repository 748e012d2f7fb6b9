/- Stage 12: a tuple in memory, its bytes in pure words, how it is opened. -/
import Derived.Test.YtlodkmidnhcmaaaOpen
import Derived.Test.YtlodkmidnhcmaaaHb
namespace Go.Proofs.Ytlodkmidnhcmaaa
set_option maxRecDepth 100000
open Go.ChangeShapes Go.WideShapes Go.ChangeAt Go.RowKit
def tupc (v6 : Bool) (pr : Int) (s d : Nat → Int) (sp dp : Int) : Array Value := #[.bool v6, .int .u8 pr, .int .u8 (s 0), .int .u8 (s 1), .int .u8 (s 2), .int .u8 (s 3), .int .u8 (s 4), .int .u8 (s 5), .int .u8 (s 6), .int .u8 (s 7), .int .u8 (s 8), .int .u8 (s 9), .int .u8 (s 10), .int .u8 (s 11), .int .u8 (s 12), .int .u8 (s 13), .int .u8 (s 14), .int .u8 (s 15), .int .u8 (d 0), .int .u8 (d 1), .int .u8 (d 2), .int .u8 (d 3), .int .u8 (d 4), .int .u8 (d 5), .int .u8 (d 6), .int .u8 (d 7), .int .u8 (d 8), .int .u8 (d 9), .int .u8 (d 10), .int .u8 (d 11), .int .u8 (d 12), .int .u8 (d 13), .int .u8 (d 14), .int .u8 (d 15), .int .u16 sp, .int .u16 dp]
theorem tup_one (v6 : Bool) (pr : Int) (s d : Nat → Int) (sp dp : Int) : (tupc v6 pr s d sp dp).all (·.oneCell') = true := by simp [tupc, Value.oneCell']
theorem tup_same {v6 : Bool} {pr : Int} {s d s' d' : Nat → Int} {sp dp : Int} (h : ∀ k, k < 16 → s k = s' k) (h' : ∀ k, k < 16 → d k = d' k) : tupc v6 pr s d sp dp = tupc v6 pr s' d' sp dp := by
  unfold tupc
  rw [h 0 (by omega), h 1 (by omega), h 2 (by omega), h 3 (by omega), h 4 (by omega), h 5 (by omega), h 6 (by omega), h 7 (by omega), h 8 (by omega), h 9 (by omega), h 10 (by omega), h 11 (by omega), h 12 (by omega), h 13 (by omega), h 14 (by omega), h 15 (by omega), h' 0 (by omega), h' 1 (by omega), h' 2 (by omega), h' 3 (by omega), h' 4 (by omega), h' 5 (by omega), h' 6 (by omega), h' 7 (by omega), h' 8 (by omega), h' 9 (by omega), h' 10 (by omega), h' 11 (by omega), h' 12 (by omega), h' 13 (by omega), h' 14 (by omega), h' 15 (by omega)]
theorem onum_u8 {x : Int} (h : (Lit.int .u8 x).wf = true) : 0 ≤ x ∧ x ≤ 255 := by
  simpa [Lit.wf, IntKind.min, IntKind.max, IntKind.signed, IntKind.bits] using h
theorem onum_u16 {x : Int} (h : (Lit.int .u16 x).wf = true) : 0 ≤ x ∧ x ≤ 65535 := by
  simpa [Lit.wf, IntKind.min, IntKind.max, IntKind.signed, IntKind.bits] using h
theorem onum_u32 {x : Int} (h : (Lit.int .u32 x).wf = true) : 0 ≤ x ∧ x ≤ 4294967295 := by
  simpa [Lit.wf, IntKind.min, IntKind.max, IntKind.signed, IntKind.bits] using h
theorem onum_u64 {x : Int} (h : (Lit.int .u64 x).wf = true) : 0 ≤ x ∧ x ≤ 18446744073709551615 := by
  simpa [Lit.wf, IntKind.min, IntKind.max, IntKind.signed, IntKind.bits] using h
theorem onum_i64 {x : Int} (h : (Lit.int .i64 x).wf = true) : -9223372036854775808 ≤ x ∧ x ≤ 9223372036854775807 := by
  simpa [Lit.wf, IntKind.min, IntKind.max, IntKind.signed, IntKind.bits] using h
theorem open_tup {H : Type} {enc : TypeId × Value → H} {W : World} {r : Reach} {b0 : Nat} {v : Value} {d : DataW H} {p : List MemPlace} (hv : Value.okWide Try.prog W r b0 33 v) (h : DataW.Trod enc Try.prog W 0 (fun _ => true) true 33 v d p) :
    ∃ (v6 : Bool) (pr : Int) (s : Nat → Int) (d : Nat → Int) (sp : Int) (dp : Int), (0 ≤ pr ∧ pr ≤ 255) ∧ Byt s ∧ Byt d ∧ (0 ≤ sp ∧ sp ≤ 65535) ∧ (0 ≤ dp ∧ dp ≤ 65535) ∧ v = .agg (tupc v6 pr s d sp dp) := by
  obtain ⟨cs, rfl, hsz, hg⟩ := open_fields Try.underlying33 hv h
  have hall : Try.prog.cellsOf 33 = 36 := by kernel_rfl
  rw [hall] at hsz
  have k_bool : Try.prog.cellsOf 4 = 1 := by kernel_rfl
  have k_u8 : Try.prog.cellsOf 5 = 1 := by kernel_rfl
  have k_a16 : Try.prog.cellsOf 30 = 16 := by kernel_rfl
  have k_u16 : Try.prog.cellsOf 31 = 1 := by kernel_rfl
  obtain ⟨m0, y0, g0⟩ := hg 0 _ rfl
  have g0' : DataW.trod enc Try.prog W 0 (fun _ => true) true m0 4 ((cs.toList.drop 0).take (Try.prog.cellsOf 4)) = some y0 := g0
  rw [k_bool] at g0'
  obtain ⟨m1, y1, g1⟩ := hg 1 _ rfl
  have g1' : DataW.trod enc Try.prog W 0 (fun _ => true) true m1 5 ((cs.toList.drop 1).take (Try.prog.cellsOf 5)) = some y1 := g1
  rw [k_u8] at g1'
  obtain ⟨m2, y2, g2⟩ := hg 2 _ rfl
  have g2' : DataW.trod enc Try.prog W 0 (fun _ => true) true m2 30 ((cs.toList.drop 2).take (Try.prog.cellsOf 30)) = some y2 := g2
  rw [k_a16] at g2'
  obtain ⟨m3, y3, g3⟩ := hg 3 _ rfl
  have g3' : DataW.trod enc Try.prog W 0 (fun _ => true) true m3 30 ((cs.toList.drop 18).take (Try.prog.cellsOf 30)) = some y3 := g3
  rw [k_a16] at g3'
  obtain ⟨m4, y4, g4⟩ := hg 4 _ rfl
  have g4' : DataW.trod enc Try.prog W 0 (fun _ => true) true m4 31 ((cs.toList.drop 34).take (Try.prog.cellsOf 31)) = some y4 := g4
  rw [k_u16] at g4'
  obtain ⟨m5, y5, g5⟩ := hg 5 _ rfl
  have g5' : DataW.trod enc Try.prog W 0 (fun _ => true) true m5 31 ((cs.toList.drop 35).take (Try.prog.cellsOf 31)) = some y5 := g5
  rw [k_u16] at g5'
  obtain ⟨v6, e0⟩ := trod_flag Try.underlying4 g0'
  obtain ⟨pr, e1, w1⟩ := trod_num Try.underlying5 g1'
  obtain ⟨s, hB2, e2⟩ := trod_bytes Try.underlying30 Try.underlying5 k_u8 k_a16 g2'
  obtain ⟨d, hB3, e3⟩ := trod_bytes Try.underlying30 Try.underlying5 k_u8 k_a16 g3'
  obtain ⟨sp, e4, w4⟩ := trod_num Try.underlying31 g4'
  obtain ⟨dp, e5, w5⟩ := trod_num Try.underlying31 g5'
  refine ⟨v6, pr, s, d, sp, dp, onum_u8 w1, hB2, hB3, onum_u16 w4, onum_u16 w5, ?_⟩
  congr 1
  have len : cs.toList.length = 36 := by simpa using hsz
  have splt : ∀ a b, cs.toList.drop a = (cs.toList.drop a).take b ++ cs.toList.drop (a + b) := fun a b => by
    rw [← List.drop_drop]
    exact (List.take_append_drop b _).symm
  have last : cs.toList.drop 35 = (cs.toList.drop 35).take 1 := (List.take_of_length_le (by rw [List.length_drop]; omega)).symm
  have hsplit : cs.toList = (cs.toList.drop 0).take 1 ++ ((cs.toList.drop 1).take 1 ++ ((cs.toList.drop 2).take 16 ++ ((cs.toList.drop 18).take 16 ++ ((cs.toList.drop 34).take 1 ++ ((cs.toList.drop 35).take 1))))) :=
    (List.drop_zero (l := cs.toList)).symm.trans ((splt 0 1).trans (congrArg _ ((splt 1 1).trans (congrArg _ ((splt 2 16).trans (congrArg _ ((splt 18 16).trans (congrArg _ ((splt 34 1).trans (congrArg _ (last)))))))))))
  have eq : cs.toList = (tupc v6 pr s d sp dp).toList := by
    rw [hsplit, e0, e1, e2, e3, e4, e5]
    rfl
  exact Array.ext' eq
/-- How many bytes an address tells. -/
def alen (v6 : Bool) : Nat := if v6 then 16 else 4
def tlen (v6 : Bool) : Nat := 6 + 2 * alen v6
/-- A tuple's bytes. -/
def tupB (v6 : Bool) (pr : Int) (s d : Nat → Int) (sp dp : Int) (k : Nat) : Int :=
  if k = 0 then (if v6 then 6 else 4) else if k = 1 then pr else if k < 2 + alen v6 then s (k - 2) else if k < 2 + 2 * alen v6 then d (k - 2 - alen v6) else
  if k = 2 + 2 * alen v6 then sp / 256 else if k = 3 + 2 * alen v6 then sp % 256 else if k = 4 + 2 * alen v6 then dp / 256 else dp % 256
theorem alen_le (v6 : Bool) : 4 ≤ alen v6 ∧ alen v6 ≤ 16 := by
  cases v6 <;> exact ⟨by decide, by decide⟩
theorem tupB_byt {v6 : Bool} {pr : Int} {s d : Nat → Int} {sp dp : Int} (hp : 0 ≤ pr ∧ pr ≤ 255) (hs : Byt s) (hd : Byt d) (h1 : 0 ≤ sp ∧ sp ≤ 65535) (h2 : 0 ≤ dp ∧ dp ≤ 65535) : Byt (tupB v6 pr s d sp dp) := fun k => by
  unfold tupB
  split
  · cases v6 <;> exact ⟨by decide, by decide⟩
  split
  · exact hp
  split
  · exact hs _
  split
  · exact hd _
  split
  · omega
  split
  · omega
  split
  · omega
  · omega
theorem tupB_s {v6 : Bool} {pr : Int} {s d : Nat → Int} {sp dp : Int} {k : Nat} (hk : k < alen v6) : tupB v6 pr s d sp dp (2 + k) = s k := by
  unfold tupB
  rw [if_neg (by omega), if_neg (by omega), if_pos (by omega), show 2 + k - 2 = k by omega]
theorem tupB_d {v6 : Bool} {pr : Int} {s d : Nat → Int} {sp dp : Int} {k : Nat} (hk : k < alen v6) : tupB v6 pr s d sp dp (2 + alen v6 + k) = d k := by
  unfold tupB
  rw [if_neg (by omega), if_neg (by omega), if_neg (by omega), if_pos (by omega), show 2 + alen v6 + k - 2 - alen v6 = k by omega]
theorem tupB_end {v6 : Bool} {pr : Int} {s d : Nat → Int} {sp dp : Int} : tupB v6 pr s d sp dp (2 + 2 * alen v6) = sp / 256 ∧ tupB v6 pr s d sp dp (2 + 2 * alen v6 + 1) = sp % 256 ∧ tupB v6 pr s d sp dp (2 + 2 * alen v6 + 2) = dp / 256 ∧ tupB v6 pr s d sp dp (2 + 2 * alen v6 + 3) = dp % 256 := by
  have h := alen_le v6
  unfold tupB
  refine ⟨?_, ?_, ?_, ?_⟩
  · rw [if_neg (by omega), if_neg (by omega), if_neg (by omega), if_neg (by omega), if_pos rfl]
  · rw [if_neg (by omega), if_neg (by omega), if_neg (by omega), if_neg (by omega), if_neg (by omega), if_pos (by omega)]
  · rw [if_neg (by omega), if_neg (by omega), if_neg (by omega), if_neg (by omega), if_neg (by omega), if_neg (by omega), if_pos (by omega)]
  · rw [if_neg (by omega), if_neg (by omega), if_neg (by omega), if_neg (by omega), if_neg (by omega), if_neg (by omega), if_neg (by omega)]
/-- What its bytes do not tell. -/
theorem tupB_same {v6 : Bool} {pr : Int} {s d s' d' : Nat → Int} {sp dp : Int} (hs : ∀ k, k < alen v6 → s k = s' k) (hd : ∀ k, k < alen v6 → d k = d' k) (k : Nat) : tupB v6 pr s d sp dp k = tupB v6 pr s' d' sp dp k := by
  unfold tupB
  split
  · rfl
  split
  · rfl
  split
  · exact hs _ (by omega)
  split
  · exact hd _ (by omega)
  · rfl
theorem tupc_s (v6 : Bool) (pr : Int) (s d : Nat → Int) (sp dp : Int) {k : Nat} (hk : k < 16) : (tupc v6 pr s d sp dp)[2 + k]? = some (.int .u8 (s k)) := by
  unfold tupc
  match k, hk with
  | 0, _ => rfl
  | 1, _ => rfl
  | 2, _ => rfl
  | 3, _ => rfl
  | 4, _ => rfl
  | 5, _ => rfl
  | 6, _ => rfl
  | 7, _ => rfl
  | 8, _ => rfl
  | 9, _ => rfl
  | 10, _ => rfl
  | 11, _ => rfl
  | 12, _ => rfl
  | 13, _ => rfl
  | 14, _ => rfl
  | 15, _ => rfl
  | k + 16, h => exact absurd h (by omega)
theorem tupc_d (v6 : Bool) (pr : Int) (s d : Nat → Int) (sp dp : Int) {k : Nat} (hk : k < 16) : (tupc v6 pr s d sp dp)[18 + k]? = some (.int .u8 (d k)) := by
  unfold tupc
  match k, hk with
  | 0, _ => rfl
  | 1, _ => rfl
  | 2, _ => rfl
  | 3, _ => rfl
  | 4, _ => rfl
  | 5, _ => rfl
  | 6, _ => rfl
  | 7, _ => rfl
  | 8, _ => rfl
  | 9, _ => rfl
  | 10, _ => rfl
  | 11, _ => rfl
  | 12, _ => rfl
  | 13, _ => rfl
  | 14, _ => rfl
  | 15, _ => rfl
  | k + 16, h => exact absurd h (by omega)
end Go.Proofs.Ytlodkmidnhcmaaa
