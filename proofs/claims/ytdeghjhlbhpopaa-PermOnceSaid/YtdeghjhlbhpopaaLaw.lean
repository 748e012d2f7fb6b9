/- What every law's proof ends with, over any program: the call answered true and turned nothing that was there: so the arguments read as they did. And how a slice of bytes that came in is opened. -/
import Derived.Test.YtdeghjhlbhpopaaBytes
import Derived.ProofKit
import Derived.Lib.SmallJoins
import Derived.Carry
namespace Go.Proofs.Ytdeghjhlbhpopaa
open Go.ChangeShapes Go.WideShapes Go.ChangeAt Go.RowKit

section
variable {H : Type} {enc : TypeId × Value → H} {P : Program}

theorem trodAll_kept (hl : laidOutB P = true) {W W' : World} (hb : Below W.heap.size W W') (sp : Nat → Bool) :
    ∀ (ts : List TypeId) (vs : List Value) (ds : List (DataW H)) (ps : List MemPlace), (∀ t ∈ ts, P.readableRec t = true ∧ t < P.types.size) →
      DataW.TrodAll enc P W 0 (fun _ => true) true ts vs ds ps → (∀ x ∈ ps, x.block < W.heap.size) → (∀ x ∈ ps, sp x.block = true) → DataW.TrodAll enc P W' 0 sp true ts vs ds ps
  | [], _, _, _, _, h, _, _ => by
    obtain ⟨rfl, rfl, rfl⟩ := trodAll_nil h
    exact trodAll_mk0
  | t :: ts, _, _, _, hr, h, hlt, hsp => by
    obtain ⟨v, vs1, d, ds1, a, b, rfl, rfl, rfl, h1, h2⟩ := trodAll_cons h
    have h3 := WideElems.Trod_stays (sp' := sp) hl (hr t (by simp)).1 (hr t (by simp)).2 h1 (fun x hx => hb.same (hlt x (by simp [hx]))) (fun x hx => hsp x (by simp [hx]))
    exact trodAll_cons_mk h3 (trodAll_kept hl hb sp ts vs1 ds1 b (fun t ht => hr t (by simp [ht])) h2 (fun x hx => hlt x (by simp [hx])) (fun x hx => hsp x (by simp [hx])))

/-- The row's last step: true, the arguments as they were, of memory that was there nothing turned. -/
theorem law_post {f : Func} {s : ChangeSpec} {apart fresh handsOn again : Bool} {W W' : World} {args : Array Value} {tb : TypeId} {ds : List (DataW H)} {before : List MemPlace}
    (hW : DataW.Whole enc P f.params.toList s.vars apart W args.toList ds [] before) (hb : Below W.heap.size W W') (hl : laidOutB P = true) (hvars : s.vars = [])
    (hr : f.params.toList.all (fun t => P.readableRec t && decide (t < P.types.size)) = true) (hres : f.resultTypes = #[tb]) (htb : P.underlying tb = some .bool)
    (hs : s.fn H (ds ++ []) = { results := [.lit (.bool true)], args := ds }) :
    s.post enc P f apart fresh handsOn again W args (.bool true) W' := by
  have hr' : ∀ t ∈ f.params.toList, P.readableRec t = true ∧ t < P.types.size := fun t ht => by
    have := List.all_eq_true.1 hr t ht
    simpa using this
  have hlt : ∀ p ∈ before, p.block < W.heap.size := fun p hp => hW.lt p hp
  have hold : ∀ p ∈ before, (fun b => decide (b < W.heap.size)) p.block = true := fun p hp => by simpa using hlt p hp
  obtain ⟨p, q, hA, hV, hpq, hz, hn⟩ := id hW
  rw [hvars] at hV
  obtain ⟨_, rfl⟩ := trodVars_none hV
  rw [List.append_nil] at hpq
  subst hpq
  have hargs : ∀ sp : Nat → Bool, (∀ x ∈ before, sp x.block = true) → DataW.TrodAll enc P W' 0 sp true f.params.toList args.toList ds before := fun sp hsp => trodAll_kept hl hb sp _ _ _ _ hr' hA hlt hsp
  have hvs : ∀ sp : Nat → Bool, DataW.TrodVars enc P W' sp s.vars ([] : List (DataW H)) [] := fun sp => by rw [hvars]; exact rfl
  have hrs : ∀ (b : Nat) (sp : Nat → Bool) (hd : Bool), DataW.TrodAll enc P W' b sp hd f.resultTypes.toList ((Value.bool true).resultList f.resultTypes.size) [.lit (.bool true)] [] := fun b sp hd => by
    rw [hres]
    exact trodAll_cons_mk (shut_bool htb true) trodAll_mk0
  refine ⟨ds, [], before, [], before, [], hW, ?_, ?_, ?_, World.keptBut_mono (fun x hx => ⟨hx, Or.inr (Or.inl hx)⟩) (hb.frame (· ∈ before)), fun _ => ⟨?_, [.lit (.bool true)] ++ ds, [], before, ?_, fun x hx _ => hx⟩⟩
  · rw [hs]; exact hrs _ _ _
  · rw [hs]; exact hargs _ hold
  · rw [hs]; exact hvs _
  · exact ok_one hres rfl (okWide_bool_mk htb true)
  · refine ⟨before, [], trodAll_append (hargs _ (fun _ _ => rfl)) (hrs _ _ _), hvs _, by simp, ?_, hn⟩
    intro b off hp
    rw [hb.frozen (p := ⟨b, off, none⟩) (hlt _ hp)]
    exact hz b off hp

/-- A slice of bytes that came in. -/
theorem open_rd {W : World} {r : Reach} {b0 : Nat} {t e : TypeId} {v : Value} {d : DataW H} {p : List MemPlace} (ht : P.underlying t = some (.slice e)) (he : P.underlying e = some (.int .u8)) (hc : P.cellsOf e = 1)
    (hv : Value.okWide P W r b0 t v) (h : DataW.Trod enc P W 0 (fun _ => true) true t v d p) :
    ∃ A n c f, v = .slice A n c ∧ n ≤ c ∧ c ≤ maxLen ∧ Byt f ∧ Rd W W.heap.size A n f := by
  obtain ⟨a0, len, cap, rfl⟩ := okWide_slice ht hv
  obtain ⟨fuel, hf⟩ := h
  rcases open_ints ht he hc hf with ⟨hcs, _⟩ | ⟨a, len', cap', zs, hcs, _, hl, hm, hz, _, hcell, hwz⟩
  · simp [Value.cells] at hcs
    obtain ⟨rfl, rfl, rfl⟩ := hcs
    exact ⟨none, 0, 0, fun _ => 0, rfl, Nat.le_refl _, Nat.zero_le _, fun _ => ⟨Int.le_refl 0, (by decide : (0 : Int) ≤ 255)⟩, .inl rfl⟩
  · simp [Value.cells] at hcs
    obtain ⟨rfl, rfl, rfl⟩ := hcs
    simp only [if_true] at hz
    refine ⟨some a, len, cap, fun k => zs.getD k 0, rfl, hl, hm, fun k => ?_, ?_⟩
    · by_cases hk : k < zs.length
      · have hm := hwz (zs.getD k 0) (by simp [List.getD, hk])
        simpa [Lit.wf, IntKind.min, IntKind.max, IntKind.signed, IntKind.bits] using hm
      · have e0 : zs.getD k 0 = 0 := by simp [List.getD, hk]
        show 0 ≤ zs.getD k 0 ∧ zs.getD k 0 ≤ 255
        omega
    · rcases Nat.eq_zero_or_pos len with h0 | h0
      · exact .inl h0
      · obtain ⟨b, off, spot⟩ := a
        have hspot : spot = none := by simpa [Addr.add] using World.cell?_spot (hcell 0 (by omega))
        subst hspot
        have hlt := World.block_lt_of_cell? W _ (hcell 0 (by omega))
        exact .inr ⟨b, off, rfl, by simpa [Addr.add] using hlt, fun k hk => by rw [← add_plain]; exact hcell k (by omega)⟩

/-- An array of bytes that came in. -/
theorem open_bytes_arr {W : World} {r : Reach} {b0 n : Nat} {t e : TypeId} {v : Value} {d : DataW H} {p : List MemPlace} (ht : P.underlying t = some (.array n e)) (he : P.underlying e = some (.int .u8)) (hc : P.cellsOf e = 1) (hC : P.cellsOf t = n)
    (hv : Value.okWide P W r b0 t v) (h : DataW.Trod enc P W 0 (fun _ => true) true t v d p) : ∃ f, Byt f ∧ v = .agg ((nums n f).map (Value.int .u8)).toArray := by
  have hv' : ∃ cs, v = .agg cs ∧ cs.size = P.cellsOf t := by
    simp only [Value.okWide, ht] at hv
    obtain ⟨cs, h1, h2, _⟩ := hv
    exact ⟨cs, h1, h2⟩
  obtain ⟨cs, rfl, hsz⟩ := hv'
  rw [hC] at hsz
  obtain ⟨fuel, hf⟩ := h
  obtain ⟨xs, m, _, _, _, hl, hg⟩ := DataW.trod_array ht hf
  have each : ∀ k, k < n → ∃ x, cs[k]? = some (.int .u8 x) ∧ 0 ≤ x ∧ x ≤ 255 := by
    intro k hk
    have e1 := hg k hk
    rw [hc, Nat.mul_one] at e1
    have hx : xs[k]? = some (xs[k]'(by omega)) := List.getElem?_eq_getElem (by omega)
    rw [hx] at e1
    obtain ⟨x, e2, _, e3⟩ := DataW.trod_int he e1
    have hlen : k < cs.toList.length := by simpa [hsz] using hk
    have e4 : ((Value.agg cs).cells.toList.drop k).take 1 = [cs.toList[k]] := by
      simp only [Value.cells]
      rw [List.drop_eq_getElem_cons hlen]
      rfl
    rw [e4] at e2
    have e5 : cs.toList[k] = .int .u8 x := by simpa using e2
    refine ⟨x, ?_, by simpa [Lit.wf, IntKind.min, IntKind.max, IntKind.signed, IntKind.bits] using e3⟩
    rw [← Array.getElem?_toList, List.getElem?_eq_getElem hlen, e5]
  refine ⟨fun k => match cs[k]? with | some (.int .u8 x) => x | _ => 0, fun k => ?_, ?_⟩
  · show 0 ≤ (match cs[k]? with | some (.int .u8 x) => x | _ => (0 : Int)) ∧ (match cs[k]? with | some (.int .u8 x) => x | _ => (0 : Int)) ≤ 255
    by_cases hk : k < n
    · obtain ⟨x, e1, e2⟩ := each k hk
      rw [e1]
      exact e2
    · have e1 : cs[k]? = none := by simp [hsz]; omega
      rw [e1]
      exact ⟨Int.le_refl 0, (by decide : (0 : Int) ≤ 255)⟩
  · congr 1
    refine Array.ext_getElem? fun k => ?_
    by_cases hk : k < n
    · obtain ⟨x, e1, _⟩ := each k hk
      rw [e1]
      simp [nums, List.getElem?_map, List.getElem?_range hk, e1]
    · have e1 : cs[k]? = none := by simp [hsz]; omega
      rw [e1]
      symm
      exact Array.getElem?_eq_none (by rw [List.size_toArray, List.length_map, nums_len]; omega)
end
end Go.Proofs.Ytdeghjhlbhpopaa
