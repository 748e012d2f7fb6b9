import Derived.Test.YthjghofjdcepmaaGm19
/- Stage 14: the document's All. -/
namespace Go.Proofs.Ythjghofjdcepmaa
set_option maxRecDepth 100000
open Go.RowKit Go.Shelf
/-- Entries of a list as cells. -/
def entR (L : List (Nat × Nat)) : Nat → Value := ecell (fun j => (L.getD j (0, 0)).1) (fun j => (L.getD j (0, 0)).2)
theorem entR_snoc (L : List (Nat × Nat)) (h x k : Nat) (hk : k < (L.length + 1) * 2) : entR (L ++ [(h, x)]) k = catV (L.length * 2) (entR L) (fun k => if k = 0 then .int .u64 (h : Int) else .int .u32 (x : Int)) k := by
  unfold catV entR ecell
  rcases Nat.lt_or_ge k (L.length * 2) with q | q
  · have e : (L ++ [(h, x)])[k / 2]? = L[k / 2]? := List.getElem?_append_left (by omega)
    rw [if_pos q]
    simp only [List.getD_eq_getElem?_getD, e]
  · rw [if_neg (show ¬ k < L.length * 2 by omega)]
    have e : (L ++ [(h, x)]).getD (k / 2) (0, 0) = (h, x) := by
      rw [List.getD_eq_getElem?_getD, List.getElem?_append_right (by omega), show k / 2 - L.length = 0 by omega]
      rfl
    dsimp only
    rw [e]
    by_cases e1 : k % 2 = 0
    · rw [if_pos e1, if_pos (by omega)]
    · rw [if_neg e1, if_neg (by omega)]
theorem entR_0 (L : List (Nat × Nat)) (j : Nat) : entR L (j * 2) = .int .u64 ((L.getD j (0, 0)).1 : Int) := ecell_0 _ _ j
theorem entR_1 (L : List (Nat × Nat)) (j : Nat) : entR L (j * 2 + 1) = .int .u32 ((L.getD j (0, 0)).2 : Int) := ecell_1 _ _ j
theorem rdc_two (W : World) (e : TypeId) (a b : Value) : RdC (W.alloc (.cells #[a, b] e)) (W.alloc (.cells #[a, b] e)).heap.size (some ⟨W.heap.size, 0, none⟩) 2 (fun k => if k = 0 then a else b) := .inr ⟨W.heap.size, 0, rfl, by simp, fun k hk => by
  have h0 := blk_cell (heap_alloc_new W (.cells #[a, b] e)) 0
  have h1 := blk_cell (heap_alloc_new W (.cells #[a, b] e)) 1
  rcases (show k = 0 ∨ k = 1 by omega) with rfl | rfl
  · exact h0
  · exact h1⟩
theorem ents_yes {t : Tb} {i : Nat} (h : t.ful i = true) : Gr.ents t (i + 1) = Gr.ents t i ++ [(t.eh i, t.ew i)] := by
  unfold Gr.ents
  rw [show t.allU (i + 1) = t.allU i ++ (if t.ful i then [(i, t.eh i, t.ew i)] else []) from rfl, h, if_pos rfl, List.map_append]
  rfl
theorem ents_no {t : Tb} {i : Nat} (h : t.ful i = false) : Gr.ents t (i + 1) = Gr.ents t i := by
  unfold Gr.ents
  rw [show t.allU (i + 1) = t.allU i ++ (if t.ful i then [(i, t.eh i, t.ew i)] else []) from rfl, h, if_neg Bool.false_ne_true, List.append_nil]
theorem ents_le (t : Tb) (i : Nat) : (Gr.ents t i).length ≤ i := by
  unfold Gr.ents
  rw [List.length_map, Tb.allU_len]
  exact cntI_le _ _
/-- A table's rows, as long as nothing old is turned. -/
theorem tview {w : World} {t : Tb} {K : Nat → Prop} {p : Nat} (h : RTA w p t K) (ht : t.Ok) : ∃ bF oF cF bE oE cE, t.n ≤ cF ∧ cF ≤ 9223372036854775807 ∧ t.n ≤ cE ∧ cE ≤ 9223372036854775807 ∧ ∀ W, Below w.heap.size w W → W.cell? ⟨p, 0, none⟩ = some (.slice (some ⟨bF, oF, none⟩) t.n cF) ∧ W.cell? ⟨p, 2, none⟩ = some (.slice (some ⟨bE, oE, none⟩) t.n cE) ∧ (∀ k, k < t.n → W.cell? ⟨bF, oF + k, none⟩ = some (.bool (t.ful k))) ∧ ∀ k, k < t.n → W.cell? ⟨bE, oE + k * 2, none⟩ = some (.int .u64 (t.eh k : Int)) ∧ W.cell? ⟨bE, oE + k * 2 + 1, none⟩ = some (.int .u32 (t.ew k : Int)) := by
  obtain ⟨AF, cF, AM, cM, AE, cE, hX⟩ := h
  obtain ⟨bF, oF, rfl, _, hFl, hFc⟩ := rdg_pos hX.fF ht.pos
  obtain ⟨bE, oE, rfl, _, hEl, hEc⟩ := rdg_pos hX.fE (by have := ht.pos; omega)
  refine ⟨bF, oF, cF, bE, oE, cE, hX.capF.1, hX.capF.2, hX.capE.1, hX.capE.2, fun W hb => ⟨blk_cell (hX.step hb).blk 0, blk_cell (hX.step hb).blk 2, fun k hk => ((hb.cell (p := ⟨bF, oF + k, none⟩) hFl).trans (hFc k hk)), fun k hk => ⟨?_, ?_⟩⟩⟩
  · rw [hb.cell (p := ⟨bE, oE + k * 2, none⟩) hEl, hEc _ (by omega), ecell_0]
  · rw [Nat.add_assoc, hb.cell (p := ⟨bE, oE + (k * 2 + 1), none⟩) hEl, hEc _ (by omega), ecell_1]
section
variable {w w' : World} {q qn qx : Nat} {s : Gr} {G Gn Gx : Nat → Prop}
theorem Try.infoTE : (Try.prog.info? 34).map (fun i => (i.zero, i.size, i.bytes)) = some (some (.agg #[.int .u64 0, .int .u32 0]), 2, 16) := by kernel_rfl
set_option maxHeartbeats 4000000 in
theorem rgall_any (h : RG w q qn qx s G Gn Gx) (hs : s.Ok) : Calls Try.prog 49 #[.pointer (some ⟨q, 0, none⟩)] w fun e w' => ∃ A c, e = .returned (.slice A s.all.length c) ∧ OwnC w' w.heap.size 34 2 A s.all.length c (entR s.all) ∧ Below w.heap.size w w' := by
  obtain ⟨iE, hi, hz, hy, hx⟩ := info_parts Try.infoTE
  have HIE := Lib.hid hi
  have HZE := Lib.hid hz
  have HYE := Lib.hid hy
  have HXE := Lib.hid hx
  clear hi hz hy hx
  cases hmv : s.mv with
  | true =>
    have HMV := Lib.hid hmv
    clear hmv
    have HQ : Hid (w.heap[q]? = some (.cells #[.pointer (some ⟨qn, 0, none⟩), .pointer (some ⟨qx, 0, none⟩), .bool true, .int .i64 (s.most : Int), .int .i64 (s.at_ : Int)] 63 (0, 0))) := Lib.hid (by
      have hq := h.blk
      rw [HMV.out] at hq
      exact hq)
    have HQL := Lib.hid (lt_heap HQ.out)
    obtain ⟨bFn, oFn, cFn, bEn, oEn, cEn, hcF1, hcF9, hcE1, hcE9, hT⟩ := tview h.now hs.now
    have HTn := Lib.hid hT
    obtain ⟨nn, hn⟩ : ∃ n, n = s.now.n := ⟨_, rfl⟩
    have HNn : Hid (s.now.n = nn) := Lib.hid hn.symm
    have htop := hs.now.top
    rw [← hn] at HTn htop hcF1 hcE1
    have HTOP := Lib.hid htop
    clear hT hn
    obtain ⟨bFx, oFx, cFx, bEx, oEx, cEx, gcF1, gcF9, gcE1, gcE9, hTx⟩ := tview (h.next HMV.out) (hs.next HMV.out)
    have HTx := Lib.hid hTx
    obtain ⟨nx, hn⟩ : ∃ n, n = s.next.n := ⟨_, rfl⟩
    have HNx : Hid (s.next.n = nx) := Lib.hid hn.symm
    have htopx := (hs.next HMV.out).top
    rw [← hn] at HTx htopx gcF1 gcE1
    clear hTx hn
    clear h hs
    go_enter Try.func49, Try.ntmps49
    go_wp2_with fail
    go_loopw [3, 4] (fun vo vi wr => ∃ (i m : Nat) (A : Option Addr) (c : Nat), i ≤ nn ∧ m = (Gr.ents s.now i).length ∧ vi = .int .i64 (i : Int) ∧ vo = .slice A m c ∧ OwnC wr w.heap.size 34 2 A m c (entR (Gr.ents s.now i)) ∧ Below w.heap.size w wr) (fun _ vi _ => nn - (intOf vi).toNat)
    case atStart => exact ⟨0, 0, none, 0, Nat.zero_le _, rfl, rfl, rfl, OwnC.nil_ _ _ _ _ _, Below.refl _ _⟩
    case round =>
      obtain ⟨i, m, A, c, hi, hm, rfl, rfl, ho, hb⟩ := hrel
      have HBn := Lib.hid hb
      have HOn := Lib.hid ho
      have HMEn := Lib.hid hm
      have hml : m ≤ i := by
        rw [hm]
        exact ents_le _ _
      have hq := (HBn.out.block q HQL.out).trans HQ.out
      have x0n : wr.cell? ⟨q, 0, none⟩ = some (.pointer (some ⟨qn, 0, none⟩)) := blk_cell hq 0

      have HVn := Lib.hid (HTn.out wr hb)
      have y2 := HVn.out.2.1
      clear hq hm ho hb
      by_cases hin : i < nn
      · have i1 : (i : Int) < (nn : Int) := by omega
        have zi : IntKind.i64.wrap ((i : Int) + 1) = (i : Int) + 1 := by rw [IntKind.wrap_i64]; omega
        have i0 : (0 : Int) ≤ (i : Int) := by omega
        have i2 : ((i : Int)).toNat = i := by omega
        have y0 := HVn.out.1
        have yf0 := HVn.out.2.2.1 i hin
        cases hf : s.now.ful i with
        | true =>
          have yf : wr.cell? ⟨bFn, oFn + i, none⟩ = some (.bool true) := by rw [yf0, hf]
          obtain ⟨ga, hga⟩ : ∃ a, a = s.now.eh i := ⟨_, rfl⟩
          obtain ⟨gx, hgx⟩ : ∃ a, a = s.now.ew i := ⟨_, rfl⟩
          have ye0 : wr.cell? ⟨bEn, oEn + i * 2, none⟩ = some (.int .u64 (ga : Int)) := by rw [hga]; exact (HVn.out.2.2.2 i hin).1
          have ye1 : wr.cell? ⟨bEn, oEn + i * 2 + 1, none⟩ = some (.int .u32 (gx : Int)) := by rw [hgx]; exact (HVn.out.2.2.2 i hin).2
          have HEN2 : Hid (Gr.ents s.now (i + 1) = (Gr.ents s.now i) ++ [(ga, gx)]) := Lib.hid (by rw [hga, hgx, ents_yes hf])
          clear yf0 hf hga hgx
          go_wp2_with (first
            | (at_builtin
               go_loud (refine wpList_append_vals rfl (.tmp 28) (.tmp 39) 67 rfl w.heap.size 34 iE (.agg #[.int .u64 0, .int .u32 0]) 2 Try.underlying67 HIE.out HZE.out HYE.out rfl (by decide) rfl (HOn.out.alloc _) (m := 1) rfl (rdc_two wr 34 (.int .u64 (ga : Int)) (.int .u32 (gx : Int))) (fun k _ => by split <;> rfl) (by unfold maxLen; omega) (by rw [HXE.out]; omega) (Nat.le_trans HBn.out.size (alloc_le wr _)) ?_)
               intro A9 c9 u9 hown9 hg9 _
               have HO9 : Hid (OwnC u9 w.heap.size 34 2 A9 (m + 1) c9 (entR ((Gr.ents s.now i) ++ [(ga, gx)]))) := Lib.hid (hown9.same fun k hk => by rw [HMEn.out] at hk ⊢; exact entR_snoc _ _ _ k hk)
               have HB9 : Hid (Below w.heap.size w u9) := Lib.hid ((HBn.out.alloc HBn.out.size _).grown hg9 (Nat.le_trans HBn.out.size (alloc_le wr _)) fun k hk => HOn.out.at_ k hk)
               clear hown9 hg9))
          go_roundw
          case rel => exact ⟨i + 1, m + 1, A9, c9, by omega, by rw [HEN2.out, List.length_append, ← HMEn.out]; rfl, by go_num, rfl, by rw [HEN2.out]; exact HO9.out, HB9.out⟩
          case measure => simp [intOf]; omega
        | false =>
          have yf : wr.cell? ⟨bFn, oFn + i, none⟩ = some (.bool false) := by rw [yf0, hf]
          have HEN2 : Hid (Gr.ents s.now (i + 1) = Gr.ents s.now i) := Lib.hid (ents_no hf)
          clear yf0 hf
          go_wp2_with fail
          go_roundw
          case rel => exact ⟨i + 1, m, A, c, by omega, by rw [HEN2.out]; exact HMEn.out, by go_num, rfl, by rw [HEN2.out]; exact HOn.out, HBn.out⟩
          case measure => simp [intOf]; omega
      · have i1 : ¬ (i : Int) < (nn : Int) := by omega
        obtain rfl : i = nn := by omega
        go_wp2_with fail
        clear x0n y2 i1 hi hin
        obtain ⟨ka, hka⟩ : ∃ k, k = i := ⟨_, rfl⟩
        have HNn : Hid (s.now.n = ka) := Lib.hid (HNn.out.trans hka.symm)
        have HL0 : Hid ((Gr.ents s.now ka).length ≤ 262144) := Lib.hid (by have h1 := ents_le s.now ka; have h2 := HTOP.out; omega)
        have HOn : Hid (OwnC wr w.heap.size 34 2 A m c (entR (Gr.ents s.now ka ++ Gr.ents s.next 0))) := Lib.hid (by rw [hka]; have h := HOn.out; rw [show Gr.ents s.next 0 = [] from rfl, List.append_nil]; exact h)
        have HMEn : Hid (m = (Gr.ents s.now ka ++ Gr.ents s.next 0).length) := Lib.hid (by rw [hka]; have h := HMEn.out; rw [show Gr.ents s.next 0 = [] from rfl, List.append_nil]; exact h)
        clear hka hml
        go_loopw [3, 5] (fun vo vi wr => ∃ (i m : Nat) (A : Option Addr) (c : Nat), i ≤ nx ∧ m = (Gr.ents s.now ka ++ Gr.ents s.next i).length ∧ vi = .int .i64 (i : Int) ∧ vo = .slice A m c ∧ OwnC wr w.heap.size 34 2 A m c (entR (Gr.ents s.now ka ++ Gr.ents s.next i)) ∧ Below w.heap.size w wr) (fun _ vi _ => nx - (intOf vi).toNat)
        case atStart => exact ⟨0, m, A, c, Nat.zero_le _, HMEn.out, rfl, rfl, HOn.out, HBn.out⟩
        case round =>
          obtain ⟨i, m, A, c, hi, hm, rfl, rfl, ho, hb⟩ := hrel
          have HBx := Lib.hid hb
          have HOx := Lib.hid ho
          have HMEx := Lib.hid hm
          have hml : m ≤ 262144 + i := by
            rw [hm]
            have h1 := ents_le s.next i; have h2 := HL0.out; rw [List.length_append]; omega
          have hq := (HBx.out.block q HQL.out).trans HQ.out
          have x0x : wr.cell? ⟨q, 1, none⟩ = some (.pointer (some ⟨qx, 0, none⟩)) := blk_cell hq 1
          have x2x : wr.cell? ⟨q, 2, none⟩ = some (.bool true) := blk_cell hq 2
          have HVx := Lib.hid (HTx.out wr hb)
          have y2 := HVx.out.2.1
          clear hq hm ho hb
          by_cases hin : i < nx
          · have i1 : (i : Int) < (nx : Int) := by omega
            have zi : IntKind.i64.wrap ((i : Int) + 1) = (i : Int) + 1 := by rw [IntKind.wrap_i64]; omega
            have i0 : (0 : Int) ≤ (i : Int) := by omega
            have i2 : ((i : Int)).toNat = i := by omega
            have y0 := HVx.out.1
            have yf0 := HVx.out.2.2.1 i hin
            cases hf : s.next.ful i with
            | true =>
              have yf : wr.cell? ⟨bFx, oFx + i, none⟩ = some (.bool true) := by rw [yf0, hf]
              obtain ⟨ga, hga⟩ : ∃ a, a = s.next.eh i := ⟨_, rfl⟩
              obtain ⟨gx, hgx⟩ : ∃ a, a = s.next.ew i := ⟨_, rfl⟩
              have ye0 : wr.cell? ⟨bEx, oEx + i * 2, none⟩ = some (.int .u64 (ga : Int)) := by rw [hga]; exact (HVx.out.2.2.2 i hin).1
              have ye1 : wr.cell? ⟨bEx, oEx + i * 2 + 1, none⟩ = some (.int .u32 (gx : Int)) := by rw [hgx]; exact (HVx.out.2.2.2 i hin).2
              have HEN2 : Hid (Gr.ents s.now ka ++ Gr.ents s.next (i + 1) = (Gr.ents s.now ka ++ Gr.ents s.next i) ++ [(ga, gx)]) := Lib.hid (by rw [hga, hgx, ents_yes hf]; exact (List.append_assoc _ _ _).symm)
              clear yf0 hf hga hgx
              go_wp2_with (first
                | (at_builtin
                   go_loud (refine wpList_append_vals rfl (.tmp 69) (.tmp 80) 67 rfl w.heap.size 34 iE (.agg #[.int .u64 0, .int .u32 0]) 2 Try.underlying67 HIE.out HZE.out HYE.out rfl (by decide) rfl (HOx.out.alloc _) (m := 1) rfl (rdc_two wr 34 (.int .u64 (ga : Int)) (.int .u32 (gx : Int))) (fun k _ => by split <;> rfl) (by unfold maxLen; omega) (by rw [HXE.out]; omega) (Nat.le_trans HBx.out.size (alloc_le wr _)) ?_)
                   intro A9 c9 u9 hown9 hg9 _
                   have HO9 : Hid (OwnC u9 w.heap.size 34 2 A9 (m + 1) c9 (entR ((Gr.ents s.now ka ++ Gr.ents s.next i) ++ [(ga, gx)]))) := Lib.hid (hown9.same fun k hk => by rw [HMEx.out] at hk ⊢; exact entR_snoc _ _ _ k hk)
                   have HB9 : Hid (Below w.heap.size w u9) := Lib.hid ((HBx.out.alloc HBx.out.size _).grown hg9 (Nat.le_trans HBx.out.size (alloc_le wr _)) fun k hk => HOx.out.at_ k hk)
                   clear hown9 hg9))
              go_roundw
              case rel => exact ⟨i + 1, m + 1, A9, c9, by omega, by rw [HEN2.out, List.length_append, ← HMEx.out]; rfl, by go_num, rfl, by rw [HEN2.out]; exact HO9.out, HB9.out⟩
              case measure => simp [intOf]; omega
            | false =>
              have yf : wr.cell? ⟨bFx, oFx + i, none⟩ = some (.bool false) := by rw [yf0, hf]
              have HEN2 : Hid (Gr.ents s.next (i + 1) = Gr.ents s.next i) := Lib.hid (ents_no hf)
              clear yf0 hf
              go_wp2_with fail
              go_roundw
              case rel => exact ⟨i + 1, m, A, c, by omega, by rw [HEN2.out]; exact HMEx.out, by go_num, rfl, by rw [HEN2.out]; exact HOx.out, HBx.out⟩
              case measure => simp [intOf]; omega
          · have i1 : ¬ (i : Int) < (nx : Int) := by omega
            have HIX : Hid (i = nx) := Lib.hid (by omega)
            go_wp2_with fail
            go_ret
            have e : s.all = Gr.ents s.now ka ++ Gr.ents s.next i := by
              unfold Gr.all
              rw [HMV.out, if_pos rfl, HNn.out, HNx.out, HIX.out]
            rw [e, ← HMEx.out]
            exact ⟨A, c, rfl, HOx.out, HBx.out⟩
  | false =>
    have HMV := Lib.hid hmv
    clear hmv
    have HQ : Hid (w.heap[q]? = some (.cells #[.pointer (some ⟨qn, 0, none⟩), .pointer none, .bool false, .int .i64 (s.most : Int), .int .i64 (s.at_ : Int)] 63 (0, 0))) := Lib.hid (by
      have hq := h.blk
      rw [HMV.out] at hq
      exact hq)
    have HQL := Lib.hid (lt_heap HQ.out)
    obtain ⟨bFn, oFn, cFn, bEn, oEn, cEn, hcF1, hcF9, hcE1, hcE9, hT⟩ := tview h.now hs.now
    have HTn := Lib.hid hT
    obtain ⟨nn, hn⟩ : ∃ n, n = s.now.n := ⟨_, rfl⟩
    have HNn : Hid (s.now.n = nn) := Lib.hid hn.symm
    have htop := hs.now.top
    rw [← hn] at HTn htop hcF1 hcE1
    have HTOP := Lib.hid htop
    clear hT hn
    clear h hs
    go_enter Try.func49, Try.ntmps49
    go_wp2_with fail
    go_loopw [3, 4] (fun vo vi wr => ∃ (i m : Nat) (A : Option Addr) (c : Nat), i ≤ nn ∧ m = (Gr.ents s.now i).length ∧ vi = .int .i64 (i : Int) ∧ vo = .slice A m c ∧ OwnC wr w.heap.size 34 2 A m c (entR (Gr.ents s.now i)) ∧ Below w.heap.size w wr) (fun _ vi _ => nn - (intOf vi).toNat)
    case atStart => exact ⟨0, 0, none, 0, Nat.zero_le _, rfl, rfl, rfl, OwnC.nil_ _ _ _ _ _, Below.refl _ _⟩
    case round =>
      obtain ⟨i, m, A, c, hi, hm, rfl, rfl, ho, hb⟩ := hrel
      have HBn := Lib.hid hb
      have HOn := Lib.hid ho
      have HMEn := Lib.hid hm
      have hml : m ≤ i := by
        rw [hm]
        exact ents_le _ _
      have hq := (HBn.out.block q HQL.out).trans HQ.out
      have x0n : wr.cell? ⟨q, 0, none⟩ = some (.pointer (some ⟨qn, 0, none⟩)) := blk_cell hq 0

      have HVn := Lib.hid (HTn.out wr hb)
      have y2 := HVn.out.2.1
      clear hq hm ho hb
      by_cases hin : i < nn
      · have i1 : (i : Int) < (nn : Int) := by omega
        have zi : IntKind.i64.wrap ((i : Int) + 1) = (i : Int) + 1 := by rw [IntKind.wrap_i64]; omega
        have i0 : (0 : Int) ≤ (i : Int) := by omega
        have i2 : ((i : Int)).toNat = i := by omega
        have y0 := HVn.out.1
        have yf0 := HVn.out.2.2.1 i hin
        cases hf : s.now.ful i with
        | true =>
          have yf : wr.cell? ⟨bFn, oFn + i, none⟩ = some (.bool true) := by rw [yf0, hf]
          obtain ⟨ga, hga⟩ : ∃ a, a = s.now.eh i := ⟨_, rfl⟩
          obtain ⟨gx, hgx⟩ : ∃ a, a = s.now.ew i := ⟨_, rfl⟩
          have ye0 : wr.cell? ⟨bEn, oEn + i * 2, none⟩ = some (.int .u64 (ga : Int)) := by rw [hga]; exact (HVn.out.2.2.2 i hin).1
          have ye1 : wr.cell? ⟨bEn, oEn + i * 2 + 1, none⟩ = some (.int .u32 (gx : Int)) := by rw [hgx]; exact (HVn.out.2.2.2 i hin).2
          have HEN2 : Hid (Gr.ents s.now (i + 1) = (Gr.ents s.now i) ++ [(ga, gx)]) := Lib.hid (by rw [hga, hgx, ents_yes hf])
          clear yf0 hf hga hgx
          go_wp2_with (first
            | (at_builtin
               go_loud (refine wpList_append_vals rfl (.tmp 28) (.tmp 39) 67 rfl w.heap.size 34 iE (.agg #[.int .u64 0, .int .u32 0]) 2 Try.underlying67 HIE.out HZE.out HYE.out rfl (by decide) rfl (HOn.out.alloc _) (m := 1) rfl (rdc_two wr 34 (.int .u64 (ga : Int)) (.int .u32 (gx : Int))) (fun k _ => by split <;> rfl) (by unfold maxLen; omega) (by rw [HXE.out]; omega) (Nat.le_trans HBn.out.size (alloc_le wr _)) ?_)
               intro A9 c9 u9 hown9 hg9 _
               have HO9 : Hid (OwnC u9 w.heap.size 34 2 A9 (m + 1) c9 (entR ((Gr.ents s.now i) ++ [(ga, gx)]))) := Lib.hid (hown9.same fun k hk => by rw [HMEn.out] at hk ⊢; exact entR_snoc _ _ _ k hk)
               have HB9 : Hid (Below w.heap.size w u9) := Lib.hid ((HBn.out.alloc HBn.out.size _).grown hg9 (Nat.le_trans HBn.out.size (alloc_le wr _)) fun k hk => HOn.out.at_ k hk)
               clear hown9 hg9))
          go_roundw
          case rel => exact ⟨i + 1, m + 1, A9, c9, by omega, by rw [HEN2.out, List.length_append, ← HMEn.out]; rfl, by go_num, rfl, by rw [HEN2.out]; exact HO9.out, HB9.out⟩
          case measure => simp [intOf]; omega
        | false =>
          have yf : wr.cell? ⟨bFn, oFn + i, none⟩ = some (.bool false) := by rw [yf0, hf]
          have HEN2 : Hid (Gr.ents s.now (i + 1) = Gr.ents s.now i) := Lib.hid (ents_no hf)
          clear yf0 hf
          go_wp2_with fail
          go_roundw
          case rel => exact ⟨i + 1, m, A, c, by omega, by rw [HEN2.out]; exact HMEn.out, by go_num, rfl, by rw [HEN2.out]; exact HOn.out, HBn.out⟩
          case measure => simp [intOf]; omega
      · have i1 : ¬ (i : Int) < (nn : Int) := by omega
        obtain rfl : i = nn := by omega
        go_wp2_with fail
        clear x0n y2 i1 hi hin
        go_loopw [3, 5] (fun vo vi wr => ∃ (A : Option Addr) (c : Nat), vi = .int .i64 0 ∧ vo = .slice A m c ∧ OwnC wr w.heap.size 34 2 A m c (entR (Gr.ents s.now i)) ∧ Below w.heap.size w wr) (fun _ _ _ => 0)
        case atStart => exact ⟨A, c, rfl, rfl, HOn.out, HBn.out⟩
        case round =>
          obtain ⟨A, c, rfl, rfl, ho, hb⟩ := hrel
          have HB := Lib.hid hb
          have HO := Lib.hid ho
          have x2 : wr.cell? ⟨q, 2, none⟩ = some (.bool false) := blk_cell ((hb.block q HQL.out).trans HQ.out) 2
          clear ho hb
          go_wp2_with fail
          go_ret
          have e : s.all = Gr.ents s.now i := by
            unfold Gr.all
            rw [HMV.out, if_neg Bool.false_ne_true, List.append_nil, HNn.out]
          rw [e, ← HMEn.out]
          exact ⟨A, c, rfl, HO.out, HB.out⟩
end
end Go.Proofs.Ythjghofjdcepmaa
