import Derived.Test.YtlchegibfopglaaK0
import Derived.ProofKit
import Derived.Lib.SmallJoins
import Derived.Carry
import Derived.ChangeMaps5
import Derived.Test.YtlchegibfopglaaK8
import Derived.Test.YtlchegibfopglaaRows
/- What every law's proof ends with, over any program: the call answered true and turned nothing that was there: so the arguments read as they did. And how a slice of bytes that came in is opened. -/
namespace Go.Proofs.Ytlchegibfopglaa
open Go.ChangeShapes Go.WideShapes Go.ChangeAt Go.RowKit

section
variable {H : Type} {enc : TypeId × Value → H} {P : Program}

theorem trodAll_kept (hl : laidOutB P = true) {W W' : World} (hb : Below W.heap.size W W') (sp : Nat → Bool) :
    ∀ (ts : List TypeId) (vs : List Value) (ds : List (DataW H)) (ps : List MemPlace), (∀ t ∈ ts, P.readableRec t = true ∧ t < P.types.size) →
      DataW.TrodAll enc P W 0 (fun _ => true) true ts vs ds ps → (∀ x ∈ ps, x.block < W.heap.size) → (∀ x ∈ ps, sp x.block = true) → DataW.TrodAll enc P W' 0 sp true ts vs ds ps
  | [], _, _, _, _, h, _, _ => by
    obtain ⟨rfl, rfl, rfl⟩ := trodAll_nil h
    exact trodAll_mk0
  | t :: ts, _, _, _, hr, h, hlt, hsp => by
    obtain ⟨v, vs1, d, ds1, a, b, rfl, rfl, rfl, h1, h2⟩ := trodAll_cons h
    have h3 := WideElems.Trod_stays (sp' := sp) hl (hr t (by simp)).1 (hr t (by simp)).2 h1 (fun x hx => hb.same (hlt x (by simp [hx]))) (fun x hx => hsp x (by simp [hx]))
    exact trodAll_cons_mk h3 (trodAll_kept hl hb sp ts vs1 ds1 b (fun t ht => hr t (by simp [ht])) h2 (fun x hx => hlt x (by simp [hx])) (fun x hx => hsp x (by simp [hx])))

/-- The row's last step: true, the arguments as they were, of memory that was there nothing turned. -/
theorem law_post {f : Func} {s : ChangeSpec} {apart fresh handsOn again : Bool} {W W' : World} {args : Array Value} {tb : TypeId} {ds : List (DataW H)} {before : List MemPlace}
    (hW : DataW.Whole enc P f.params.toList s.vars apart W args.toList ds [] before) (hb : Below W.heap.size W W') (hl : laidOutB P = true) (hvars : s.vars = [])
    (hr : f.params.toList.all (fun t => P.readableRec t && decide (t < P.types.size)) = true) (hres : f.resultTypes = #[tb]) (htb : P.underlying tb = some .bool)
    (hs : s.fn H (ds ++ []) = { results := [.lit (.bool true)], args := ds }) :
    s.post enc P f apart fresh handsOn again W args (.bool true) W' := by
  have hr' : ∀ t ∈ f.params.toList, P.readableRec t = true ∧ t < P.types.size := fun t ht => by
    have := List.all_eq_true.1 hr t ht
    simpa using this
  have hlt : ∀ p ∈ before, p.block < W.heap.size := fun p hp => hW.lt p hp
  have hold : ∀ p ∈ before, (fun b => decide (b < W.heap.size)) p.block = true := fun p hp => by simpa using hlt p hp
  obtain ⟨p, q, hA, hV, hpq, hz, hn⟩ := id hW
  rw [hvars] at hV
  obtain ⟨_, rfl⟩ := trodVars_none hV
  rw [List.append_nil] at hpq
  subst hpq
  have hargs : ∀ sp : Nat → Bool, (∀ x ∈ before, sp x.block = true) → DataW.TrodAll enc P W' 0 sp true f.params.toList args.toList ds before := fun sp hsp => trodAll_kept hl hb sp _ _ _ _ hr' hA hlt hsp
  have hvs : ∀ sp : Nat → Bool, DataW.TrodVars enc P W' sp s.vars ([] : List (DataW H)) [] := fun sp => by rw [hvars]; exact rfl
  have hrs : ∀ (b : Nat) (sp : Nat → Bool) (hd : Bool), DataW.TrodAll enc P W' b sp hd f.resultTypes.toList ((Value.bool true).resultList f.resultTypes.size) [.lit (.bool true)] [] := fun b sp hd => by
    rw [hres]
    exact trodAll_cons_mk (shut_bool htb true) trodAll_mk0
  refine ⟨ds, [], before, [], before, [], hW, ?_, ?_, ?_, World.keptBut_mono (fun x hx => ⟨hx, Or.inr (Or.inl hx)⟩) (hb.frame (· ∈ before)), fun _ => ⟨?_, [.lit (.bool true)] ++ ds, [], before, ?_, fun x hx _ => hx⟩⟩
  · rw [hs]; exact hrs _ _ _
  · rw [hs]; exact hargs _ hold
  · rw [hs]; exact hvs _
  · exact ok_one hres rfl (okWide_bool_mk htb true)
  · refine ⟨before, [], trodAll_append (hargs _ (fun _ _ => rfl)) (hrs _ _ _), hvs _, by simp, ?_, hn⟩
    intro b off hp
    rw [hb.frozen (p := ⟨b, off, none⟩) (hlt _ hp)]
    exact hz b off hp

/-- A slice of bytes that came in. -/
theorem open_rd {W : World} {r : Reach} {b0 : Nat} {t e : TypeId} {v : Value} {d : DataW H} {p : List MemPlace} (ht : P.underlying t = some (.slice e)) (he : P.underlying e = some (.int .u8)) (hc : P.cellsOf e = 1)
    (hv : Value.okWide P W r b0 t v) (h : DataW.Trod enc P W 0 (fun _ => true) true t v d p) :
    ∃ A n c f, v = .slice A n c ∧ n ≤ c ∧ c ≤ maxLen ∧ Byt f ∧ Rd W W.heap.size A n f := by
  obtain ⟨a0, len, cap, rfl⟩ := okWide_slice ht hv
  obtain ⟨fuel, hf⟩ := h
  rcases open_ints ht he hc hf with ⟨hcs, _⟩ | ⟨a, len', cap', zs, hcs, _, hl, hm, hz, _, hcell, hwz⟩
  · simp [Value.cells] at hcs
    obtain ⟨rfl, rfl, rfl⟩ := hcs
    exact ⟨none, 0, 0, fun _ => 0, rfl, Nat.le_refl _, Nat.zero_le _, fun _ => ⟨Int.le_refl 0, (by decide : (0 : Int) ≤ 255)⟩, .inl rfl⟩
  · simp [Value.cells] at hcs
    obtain ⟨rfl, rfl, rfl⟩ := hcs
    simp only [if_true] at hz
    refine ⟨some a, len, cap, fun k => zs.getD k 0, rfl, hl, hm, fun k => ?_, ?_⟩
    · by_cases hk : k < zs.length
      · have hm := hwz (zs.getD k 0) (by simp [List.getD, hk])
        simpa [Lit.wf, IntKind.min, IntKind.max, IntKind.signed, IntKind.bits] using hm
      · have e0 : zs.getD k 0 = 0 := by simp [List.getD, hk]
        show 0 ≤ zs.getD k 0 ∧ zs.getD k 0 ≤ 255
        omega
    · rcases Nat.eq_zero_or_pos len with h0 | h0
      · exact .inl h0
      · obtain ⟨b, off, spot⟩ := a
        have hspot : spot = none := by simpa [Addr.add] using World.cell?_spot (hcell 0 (by omega))
        subst hspot
        have hlt := World.block_lt_of_cell? W _ (hcell 0 (by omega))
        exact .inr ⟨b, off, rfl, by simpa [Addr.add] using hlt, fun k hk => by rw [← add_plain]; exact hcell k (by omega)⟩

/-- An array of bytes that came in. -/
theorem open_bytes_arr {W : World} {r : Reach} {b0 n : Nat} {t e : TypeId} {v : Value} {d : DataW H} {p : List MemPlace} (ht : P.underlying t = some (.array n e)) (he : P.underlying e = some (.int .u8)) (hc : P.cellsOf e = 1) (hC : P.cellsOf t = n)
    (hv : Value.okWide P W r b0 t v) (h : DataW.Trod enc P W 0 (fun _ => true) true t v d p) : ∃ f, Byt f ∧ v = .agg ((nums n f).map (Value.int .u8)).toArray := by
  have hv' : ∃ cs, v = .agg cs ∧ cs.size = P.cellsOf t := by
    simp only [Value.okWide, ht] at hv
    obtain ⟨cs, h1, h2, _⟩ := hv
    exact ⟨cs, h1, h2⟩
  obtain ⟨cs, rfl, hsz⟩ := hv'
  rw [hC] at hsz
  obtain ⟨fuel, hf⟩ := h
  obtain ⟨xs, m, _, _, _, hl, hg⟩ := DataW.trod_array ht hf
  have each : ∀ k, k < n → ∃ x, cs[k]? = some (.int .u8 x) ∧ 0 ≤ x ∧ x ≤ 255 := by
    intro k hk
    have e1 := hg k hk
    rw [hc, Nat.mul_one] at e1
    have hx : xs[k]? = some (xs[k]'(by omega)) := List.getElem?_eq_getElem (by omega)
    rw [hx] at e1
    obtain ⟨x, e2, _, e3⟩ := DataW.trod_int he e1
    have hlen : k < cs.toList.length := by simpa [hsz] using hk
    have e4 : ((Value.agg cs).cells.toList.drop k).take 1 = [cs.toList[k]] := by
      simp only [Value.cells]
      rw [List.drop_eq_getElem_cons hlen]
      rfl
    rw [e4] at e2
    have e5 : cs.toList[k] = .int .u8 x := by simpa using e2
    refine ⟨x, ?_, by simpa [Lit.wf, IntKind.min, IntKind.max, IntKind.signed, IntKind.bits] using e3⟩
    rw [← Array.getElem?_toList, List.getElem?_eq_getElem hlen, e5]
  refine ⟨fun k => match cs[k]? with | some (.int .u8 x) => x | _ => 0, fun k => ?_, ?_⟩
  · show 0 ≤ (match cs[k]? with | some (.int .u8 x) => x | _ => (0 : Int)) ∧ (match cs[k]? with | some (.int .u8 x) => x | _ => (0 : Int)) ≤ 255
    by_cases hk : k < n
    · obtain ⟨x, e1, e2⟩ := each k hk
      rw [e1]
      exact e2
    · have e1 : cs[k]? = none := by simp [hsz]; omega
      rw [e1]
      exact ⟨Int.le_refl 0, (by decide : (0 : Int) ≤ 255)⟩
  · congr 1
    refine Array.ext_getElem? fun k => ?_
    by_cases hk : k < n
    · obtain ⟨x, e1, _⟩ := each k hk
      rw [e1]
      simp [nums, List.getElem?_map, List.getElem?_range hk, e1]
    · have e1 : cs[k]? = none := by simp [hsz]; omega
      rw [e1]
      symm
      exact Array.getElem?_eq_none (by rw [List.size_toArray, List.length_map, nums_len]; omega)
end
end Go.Proofs.Ytlchegibfopglaa
/- How arguments are opened field by field, over any program: arrays of bytes, numbers, flags, slices of bytes, a struct's cells. -/
namespace Go.Proofs.Ytlchegibfopglaa
open Go.ChangeShapes Go.WideShapes Go.ChangeAt Go.RowKit
section
variable {H : Type} {enc : TypeId × Value → H} {P : Program}
/-- The cells of an array of bytes. -/
theorem trod_bytes {W : World} {b n m : Nat} {t e : TypeId} {sp : Nat → Bool} {hd : Bool} {cs : List Value} {y : DataW H × List MemPlace} (ht : P.underlying t = some (.array n e)) (he : P.underlying e = some (.int .u8)) (hc : P.cellsOf e = 1) (hC : P.cellsOf t = n)
    (h : DataW.trod enc P W b sp hd m t cs = some y) : ∃ f, Byt f ∧ cs = (nums n f).map (Value.int .u8) := by
  obtain ⟨xs, m', _, _, hlen, hl, hg⟩ := DataW.trod_array ht h
  rw [hC] at hlen
  have each : ∀ k, k < n → ∃ x, cs[k]? = some (.int .u8 x) ∧ 0 ≤ x ∧ x ≤ 255 := by
    intro k hk
    have e1 := hg k hk
    rw [hc, Nat.mul_one] at e1
    have hx : xs[k]? = some (xs[k]'(by omega)) := List.getElem?_eq_getElem (by omega)
    rw [hx] at e1
    obtain ⟨x, e2, _, e3⟩ := DataW.trod_int he e1
    have hk' : k < cs.length := by omega
    have e4 : (cs.drop k).take 1 = [cs[k]] := by
      rw [List.drop_eq_getElem_cons hk']
      rfl
    rw [e4] at e2
    have e5 : cs[k] = .int .u8 x := by simpa using e2
    refine ⟨x, ?_, by simpa [Lit.wf, IntKind.min, IntKind.max, IntKind.signed, IntKind.bits] using e3⟩
    rw [List.getElem?_eq_getElem hk', e5]
  refine ⟨fun k => match cs[k]? with | some (.int .u8 x) => x | _ => 0, fun k => ?_, ?_⟩
  · show 0 ≤ (match cs[k]? with | some (.int .u8 x) => x | _ => (0 : Int)) ∧ (match cs[k]? with | some (.int .u8 x) => x | _ => (0 : Int)) ≤ 255
    by_cases hk : k < n
    · obtain ⟨x, e1, e2⟩ := each k hk
      rw [e1]
      exact e2
    · have e1 : cs[k]? = none := List.getElem?_eq_none (by omega)
      rw [e1]
      exact ⟨Int.le_refl 0, (by decide : (0 : Int) ≤ 255)⟩
  · refine List.ext_getElem? fun k => ?_
    by_cases hk : k < n
    · obtain ⟨x, e1, _⟩ := each k hk
      rw [e1]
      simp [nums, List.getElem?_map, List.getElem?_range hk, e1]
    · rw [List.getElem?_eq_none (by omega), List.getElem?_eq_none (by rw [List.length_map, nums_len]; omega)]
/-- The cell of a number. -/
theorem trod_num {W : World} {b m : Nat} {t : TypeId} {k : IntKind} {sp : Nat → Bool} {hd : Bool} {cs : List Value} {y : DataW H × List MemPlace} (ht : P.underlying t = some (.int k))
    (h : DataW.trod enc P W b sp hd m t cs = some y) : ∃ x, cs = [.int k x] ∧ (Lit.int k x).wf = true := by
  obtain ⟨x, e2, _, e3⟩ := DataW.trod_int ht h
  exact ⟨x, e2, e3⟩
/-- A struct's cells, field by field. -/
theorem open_fields {W : World} {r : Reach} {b0 : Nat} {t : TypeId} {fs : Array Field} {v : Value} {d : DataW H} {p : List MemPlace} (ht : P.underlying t = some (.struct fs)) (hv : Value.okWide P W r b0 t v) (h : DataW.Trod enc P W 0 (fun _ => true) true t v d p) :
    ∃ cs : Array Value, v = .agg cs ∧ cs.size = P.cellsOf t ∧ ∀ (i : Nat) (f : Field), fs[i]? = some f → ∃ m y, DataW.trod enc P W 0 (fun _ => true) true m f.type ((cs.toList.drop f.offset).take (P.cellsOf f.type)) = some y := by
  obtain ⟨cs, rfl, hsz⟩ := okWide_struct ht hv
  obtain ⟨fuel, hf⟩ := h
  obtain ⟨xs, n, _, _, _, hl, hg⟩ := DataW.trod_struct ht hf
  refine ⟨cs, rfl, hsz, fun i f hi => ?_⟩
  have e := hg i f hi
  have hlt : i < fs.size := by
    rcases Nat.lt_or_ge i fs.size with hlt | hge
    · exact hlt
    · rw [Array.getElem?_eq_none hge] at hi; cases hi
  rw [List.getElem?_eq_getElem (show i < xs.length by omega)] at e
  exact ⟨n, _, e⟩
/-- The cell of a Bool. -/
theorem trod_flag {W : World} {b m : Nat} {t : TypeId} {sp : Nat → Bool} {hd : Bool} {cs : List Value} {y : DataW H × List MemPlace} (ht : P.underlying t = some .bool)
    (h : DataW.trod enc P W b sp hd m t cs = some y) : ∃ x, cs = [.bool x] := by
  obtain ⟨x, e, _⟩ := DataW.trod_bool ht h
  exact ⟨x, e⟩
/-- The cell of a slice of bytes. -/
theorem trod_rd {W : World} {m : Nat} {t e : TypeId} {cs : List Value} {y : DataW H × List MemPlace} (ht : P.underlying t = some (.slice e)) (he : P.underlying e = some (.int .u8)) (hc : P.cellsOf e = 1)
    (h : DataW.trod enc P W 0 (fun _ => true) true m t cs = some y) : ∃ A n c f, cs = [.slice A n c] ∧ n ≤ c ∧ c ≤ maxLen ∧ Byt f ∧ Rd W W.heap.size A n f := by
  rcases open_ints ht he hc h with ⟨hcs, _⟩ | ⟨a, len, cap, zs, hcs, _, hl, hm, hz, _, hcell, hwz⟩
  · exact ⟨none, 0, 0, fun _ => 0, hcs, Nat.le_refl _, Nat.zero_le _, fun _ => ⟨Int.le_refl 0, (by decide : (0 : Int) ≤ 255)⟩, .inl rfl⟩
  · simp only [if_true] at hz
    refine ⟨some a, len, cap, fun k => zs.getD k 0, hcs, hl, hm, fun k => ?_, ?_⟩
    · by_cases hk : k < zs.length
      · have hm := hwz (zs.getD k 0) (by simp [List.getD, hk])
        simpa [Lit.wf, IntKind.min, IntKind.max, IntKind.signed, IntKind.bits] using hm
      · have e0 : zs.getD k 0 = 0 := by simp [List.getD, hk]
        show 0 ≤ zs.getD k 0 ∧ zs.getD k 0 ≤ 255
        omega
    · rcases Nat.eq_zero_or_pos len with h0 | h0
      · exact .inl h0
      · obtain ⟨b, off, spot⟩ := a
        have hspot : spot = none := by simpa [Addr.add] using World.cell?_spot (hcell 0 (by omega))
        subst hspot
        have hlt := World.block_lt_of_cell? W _ (hcell 0 (by omega))
        exact .inr ⟨b, off, rfl, by simpa [Addr.add] using hlt, fun k hk => by rw [← add_plain]; exact hcell k (by omega)⟩
end
end Go.Proofs.Ytlchegibfopglaa
/- How a flow is opened, where it came in. -/
namespace Go.Proofs.Ytlchegibfopglaa
set_option maxRecDepth 100000
open Go.ChangeShapes Go.WideShapes Go.ChangeAt Go.RowKit
theorem onum_u8 {x : Int} (h : (Lit.int .u8 x).wf = true) : 0 ≤ x ∧ x ≤ 255 := by
  simpa [Lit.wf, IntKind.min, IntKind.max, IntKind.signed, IntKind.bits] using h
theorem onum_u16 {x : Int} (h : (Lit.int .u16 x).wf = true) : 0 ≤ x ∧ x ≤ 65535 := by
  simpa [Lit.wf, IntKind.min, IntKind.max, IntKind.signed, IntKind.bits] using h
theorem open_tup {H : Type} {enc : TypeId × Value → H} {W : World} {r : Reach} {b0 : Nat} {v : Value} {d : DataW H} {p : List MemPlace} (hv : Value.okWide Try.prog W r b0 26 v) (h : DataW.Trod enc Try.prog W 0 (fun _ => true) true 26 v d p) :
    ∃ (v6 : Bool) (pr : Int) (s : Nat → Int) (d : Nat → Int) (sp : Int) (dp : Int), (0 ≤ pr ∧ pr ≤ 255) ∧ Byt s ∧ Byt d ∧ (0 ≤ sp ∧ sp ≤ 65535) ∧ (0 ≤ dp ∧ dp ≤ 65535) ∧ v = .agg (tupc v6 pr s d sp dp) := by
  obtain ⟨cs, rfl, hsz, hg⟩ := open_fields Try.underlying26 hv h
  have hall : Try.prog.cellsOf 26 = 36 := by kernel_rfl
  rw [hall] at hsz
  have k_bool : Try.prog.cellsOf 4 = 1 := by kernel_rfl
  have k_u8 : Try.prog.cellsOf 5 = 1 := by kernel_rfl
  have k_a16 : Try.prog.cellsOf 23 = 16 := by kernel_rfl
  have k_u16 : Try.prog.cellsOf 24 = 1 := by kernel_rfl
  obtain ⟨m0, y0, g0⟩ := hg 0 _ rfl
  have g0' : DataW.trod enc Try.prog W 0 (fun _ => true) true m0 4 ((cs.toList.drop 0).take (Try.prog.cellsOf 4)) = some y0 := g0
  rw [k_bool] at g0'
  obtain ⟨m1, y1, g1⟩ := hg 1 _ rfl
  have g1' : DataW.trod enc Try.prog W 0 (fun _ => true) true m1 5 ((cs.toList.drop 1).take (Try.prog.cellsOf 5)) = some y1 := g1
  rw [k_u8] at g1'
  obtain ⟨m2, y2, g2⟩ := hg 2 _ rfl
  have g2' : DataW.trod enc Try.prog W 0 (fun _ => true) true m2 23 ((cs.toList.drop 2).take (Try.prog.cellsOf 23)) = some y2 := g2
  rw [k_a16] at g2'
  obtain ⟨m3, y3, g3⟩ := hg 3 _ rfl
  have g3' : DataW.trod enc Try.prog W 0 (fun _ => true) true m3 23 ((cs.toList.drop 18).take (Try.prog.cellsOf 23)) = some y3 := g3
  rw [k_a16] at g3'
  obtain ⟨m4, y4, g4⟩ := hg 4 _ rfl
  have g4' : DataW.trod enc Try.prog W 0 (fun _ => true) true m4 24 ((cs.toList.drop 34).take (Try.prog.cellsOf 24)) = some y4 := g4
  rw [k_u16] at g4'
  obtain ⟨m5, y5, g5⟩ := hg 5 _ rfl
  have g5' : DataW.trod enc Try.prog W 0 (fun _ => true) true m5 24 ((cs.toList.drop 35).take (Try.prog.cellsOf 24)) = some y5 := g5
  rw [k_u16] at g5'
  obtain ⟨v6, e0⟩ := trod_flag Try.underlying4 g0'
  obtain ⟨pr, e1, w1⟩ := trod_num Try.underlying5 g1'
  obtain ⟨s, hB2, e2⟩ := trod_bytes Try.underlying23 Try.underlying5 k_u8 k_a16 g2'
  obtain ⟨d, hB3, e3⟩ := trod_bytes Try.underlying23 Try.underlying5 k_u8 k_a16 g3'
  obtain ⟨sp, e4, w4⟩ := trod_num Try.underlying24 g4'
  obtain ⟨dp, e5, w5⟩ := trod_num Try.underlying24 g5'
  refine ⟨v6, pr, s, d, sp, dp, onum_u8 w1, hB2, hB3, onum_u16 w4, onum_u16 w5, ?_⟩
  congr 1
  have len : cs.toList.length = 36 := by simpa using hsz
  have splt : ∀ a b, cs.toList.drop a = (cs.toList.drop a).take b ++ cs.toList.drop (a + b) := fun a b => by
    rw [← List.drop_drop]
    exact (List.take_append_drop b _).symm
  have last : cs.toList.drop 35 = (cs.toList.drop 35).take 1 := (List.take_of_length_le (by rw [List.length_drop]; omega)).symm
  have hsplit : cs.toList = (cs.toList.drop 0).take 1 ++ ((cs.toList.drop 1).take 1 ++ ((cs.toList.drop 2).take 16 ++ ((cs.toList.drop 18).take 16 ++ ((cs.toList.drop 34).take 1 ++ ((cs.toList.drop 35).take 1))))) :=
    (List.drop_zero (l := cs.toList)).symm.trans ((splt 0 1).trans (congrArg _ ((splt 1 1).trans (congrArg _ ((splt 2 16).trans (congrArg _ ((splt 18 16).trans (congrArg _ ((splt 34 1).trans (congrArg _ (last)))))))))))
  have eq : cs.toList = (tupc v6 pr s d sp dp).toList := by
    rw [hsplit, e0, e1, e2, e3, e4, e5]
    rfl
  exact Array.ext' eq
end Go.Proofs.Ytlchegibfopglaa
/- Closed facts of this program, and the bounds that a number's kind gives. -/
namespace Go.Proofs.Ytlchegibfopglaa
theorem Try.own : ownKnob Try.prog.godebug = none := by kernel_rfl
theorem Try.laidOut : laidOutB Try.prog = true := by kernel_rfl
theorem wf_u8 {x : Int} (h : (Lit.int .u8 x).wf = true) : 0 ≤ x ∧ x ≤ 255 := by
  simpa [Lit.wf, IntKind.min, IntKind.max, IntKind.signed, IntKind.bits] using h
theorem wf_u16 {x : Int} (h : (Lit.int .u16 x).wf = true) : 0 ≤ x ∧ x ≤ 65535 := by
  simpa [Lit.wf, IntKind.min, IntKind.max, IntKind.signed, IntKind.bits] using h
theorem wf_u32 {x : Int} (h : (Lit.int .u32 x).wf = true) : 0 ≤ x ∧ x ≤ 4294967295 := by
  simpa [Lit.wf, IntKind.min, IntKind.max, IntKind.signed, IntKind.bits] using h
theorem wf_u64 {x : Int} (h : (Lit.int .u64 x).wf = true) : 0 ≤ x ∧ x ≤ 18446744073709551615 := by
  simpa [Lit.wf, IntKind.min, IntKind.max, IntKind.signed, IntKind.bits] using h
theorem wf_i64 {x : Int} (h : (Lit.int .i64 x).wf = true) : -9223372036854775808 ≤ x ∧ x ≤ 9223372036854775807 := by
  simpa [Lit.wf, IntKind.min, IntKind.max, IntKind.signed, IntKind.bits] using h
end Go.Proofs.Ytlchegibfopglaa
