import Derived.Test.YthjghofjdcepmaaGm6
import Derived.Test.YthjghofjdcepmaaGm7
/- Stage 13: the document's Way, Find, Copy, New. -/
namespace Go.Proofs.Ythjghofjdcepmaa
set_option maxRecDepth 100000
open Go.RowKit Go.Shelf
theorem Try.infoTI : (Try.prog.info? 3).map (fun i => (i.zero, i.size, i.bytes)) = some (some (.int .i64 0), 1, 8) := by kernel_rfl
/-- Numbers as cells. -/
def nL (l : List Nat) (k : Nat) : Value := .int .i64 ((l[k]?.getD 0 : Nat) : Int)
theorem nL_at {l : List Nat} {k x : Nat} (h : l[k]? = some x) : nL l k = .int .i64 (x : Int) := by
  unfold nL
  rw [h]
  rfl
theorem nL_app (l : List Nat) (x k : Nat) (hk : k < l.length + 1) : nL (l ++ [x]) k = catV l.length (nL l) (fun _ => .int .i64 (x : Int)) k := by
  unfold catV nL
  split
  · rename_i h
    rw [List.getElem?_append_left h]
  · rw [List.getElem?_append_right (by omega), show k - l.length = 0 by omega]
    rfl
theorem rdc_one (W : World) (e : TypeId) (v : Value) : RdC (W.alloc (.cells #[v] e)) (W.alloc (.cells #[v] e)).heap.size (some ⟨W.heap.size, 0, none⟩) 1 (fun _ => v) := .inr ⟨W.heap.size, 0, rfl, by simp, fun k hk => by
  obtain rfl : k = 0 := by omega
  exact cell_of_row _ W.heap.size 0 _ e (0, 0) (heap_alloc_new W _)⟩
section
variable {w w' : World} {q : Nat} {AF AM AE : Option Addr} {cF cM cE : Nat} {s : Tb} {G : Nat → Prop}
set_option maxHeartbeats 4000000 in
theorem rway_any (h : RT w q AF cF AM cM AE cE s G) (hs : s.Ok) (H : Nat) (hH : H < 18446744073709551616) : Calls Try.prog 68 #[.pointer (some ⟨q, 0, none⟩), .int .u64 (H : Int)] w fun e w' => ∃ A c, e = .returned (.slice A (s.way H).length c) ∧ OwnC w' w.heap.size 3 1 A (s.way H).length c (nL (s.way H)) ∧ Below w.heap.size w w' := by
  obtain ⟨iI, hi, hz, hy, hx⟩ := info_parts Try.infoTI
  have HII := Lib.hid hi
  have HZI := Lib.hid hz
  have HYI := Lib.hid hy
  have HXI := Lib.hid hx
  clear hi hz hy hx
  have HS := Lib.hid hs
  have HX1 := Lib.hid h
  have HQ0 := Lib.hid (lt_heap h.blk)
  obtain ⟨n, hn⟩ : ∃ n, n = s.n := ⟨_, rfl⟩
  have HN := Lib.hid hn
  have htop := hs.top
  have hpos := hs.pos
  rw [← hn] at htop hpos
  obtain ⟨L, hL⟩ : ∃ L, L = s.way H := ⟨_, rfl⟩
  have HL := Lib.hid hL
  rw [← hL]
  clear hn h hs hL
  go_enter Try.func68, Try.ntmps68
  go_wp2_with fail
  go_loopw [5, 6] (fun vo vi wr => ∃ (i m : Nat) (A : Option Addr) (c : Nat), i ≤ n ∧ m = (s.wayU H i).length ∧ vi = .int .i64 (i : Int) ∧ vo = .slice A m c ∧ OwnC wr w.heap.size 3 1 A m c (nL (s.wayU H i)) ∧ (∀ j, j < i → s.ful (s.st H j) = true ∨ s.mrk (s.st H j) = true) ∧ Below w.heap.size w wr) (fun _ vi _ => n - (intOf vi).toNat)
  case atStart => exact ⟨0, 0, none, 0, Nat.zero_le _, rfl, rfl, rfl, OwnC.nil_ _ _ _ _ _, fun j hj => absurd hj (Nat.not_lt_zero _), Below.refl _ _⟩
  case round =>
    obtain ⟨i, m, A, c, hi, hm, rfl, rfl, ho, hful, hb⟩ := hrel
    have HFU := Lib.hid hful
    have HB := Lib.hid hb
    have HO := Lib.hid ho
    have HME := Lib.hid hm
    have hml : m ≤ i := by rw [hm]; exact Tb.wayU_len s H i
    have HXr := Lib.hid (HX1.out.step hb)
    clear hful hb ho hm
    have x2 : wr.cell? ⟨q, 2, none⟩ = some (.slice AE n cE) := by rw [HN.out]; exact blk_cell HXr.out.blk 2
    by_cases hin : i < n
    · have i1 : (i : Int) < (n : Int) := by omega
      have zi : IntKind.i64.wrap ((i : Int) + 1) = (i : Int) + 1 := by rw [IntKind.wrap_i64]; omega
      have hm := Nat.mod_lt H (show 0 < s.n from HS.out.pos)
      rw [← HN.out] at hm
      have HFM : Hid (∀ W, Below wr.heap.size wr W → Calls Try.prog 64 #[.pointer (some ⟨q, 0, none⟩), .int .u64 (H : Int)] W (ret (.int .i64 ((H % n : Nat) : Int)) W)) := Lib.hid fun W hW => by
        rw [HN.out]
        exact rfrom_any (HXr.out.step hW) HS.out H hH
      have HST : Hid (s.st H i = (H % n + i) % n) := Lib.hid (by rw [HN.out]; rfl)
      have hst : s.st H i < n := by rw [HN.out]; exact Tb.st_lt HS.out H i
      obtain ⟨y, hy⟩ : ∃ y, y = H % n := ⟨_, rfl⟩
      rw [← hy] at HFM HST hm
      clear hy
      have z1 : IntKind.i64.wrap ((y : Int) + (i : Int)) = (y : Int) + (i : Int) := by rw [IntKind.wrap_i64]; omega
      have z0 : ¬ (n : Int) = 0 := by omega
      obtain ⟨t, ht⟩ : ∃ t, t = s.st H i := ⟨_, rfl⟩
      have HT := Lib.hid ht
      rw [← ht] at HST hst
      have z2 : ((y : Int) + (i : Int)) % (n : Int) = (t : Int) := by rw [HST.out, Int.natCast_emod]; rfl
      have t0 : (0 : Int) ≤ (t : Int) := by omega
      have t1 : (t : Int) < (n : Int) := by omega
      have t2 : ((t : Int)).toNat = t := by omega
      have X2 : Hid (∀ W : Stay wr, W.w.cell? ⟨q, 2, none⟩ = some (.slice AE n cE)) := Lib.hid fun W => Stay.cell x2 W
      have z3 : IntKind.i64.wrap (t : Int) = (t : Int) := by rw [IntKind.wrap_i64]; omega
      clear ht
      go_upto_region 5 with fail
      clear x2
      have y2 := X2.out
      refine wp_region_stay (by kernel_rfl) (by kernel_rfl) ?_
      repeat (go_big_quiet_step (first | (go_at_call 64; with_reducible exact Calls.stay _ (HFM.out _ (Stay.below _)))))
      refine wpQuiet_nil ?_
      intro w' hw'
      obtain ⟨W, rfl⟩ := hw'
      have HB2 := Lib.hid (HB.out.trans (W.below.mono HB.out.size))
      have HX2 := Lib.hid (HXr.out.step W.below)
      have HO2 := Lib.hid (HO.out.below W.below)
      clear y2 X2 HFM HXr HB HO
      generalize W.w = u1 at *
      obtain ⟨bF, oF, rfl, _, hFl, hFc⟩ := rdg_pos HX2.out.fF HS.out.pos
      obtain ⟨bM, oM, rfl, _, hMl, hMc⟩ := rdg_pos HX2.out.fM HS.out.pos
      obtain ⟨bE, oE, rfl, _, hEl, hEc⟩ := rdg_pos HX2.out.fE (by have := HS.out.pos; omega)
      have x0 : u1.cell? ⟨q, 0, none⟩ = some (.slice (some ⟨bF, oF, none⟩) n cF) := by rw [HN.out]; exact blk_cell HX2.out.blk 0
      have x1 : u1.cell? ⟨q, 1, none⟩ = some (.slice (some ⟨bM, oM, none⟩) n cM) := by rw [HN.out]; exact blk_cell HX2.out.blk 1
      have x2 : u1.cell? ⟨q, 2, none⟩ = some (.slice (some ⟨bE, oE, none⟩) n cE) := by rw [HN.out]; exact blk_cell HX2.out.blk 2
      have hc1 : n ≤ cF := by rw [HN.out]; exact HX2.out.capF.1
      have hc9 := HX2.out.capF.2
      have hd1 : n ≤ cM := by rw [HN.out]; exact HX2.out.capM.1
      have hd9 := HX2.out.capM.2
      have he1 : n ≤ cE := by rw [HN.out]; exact HX2.out.capE.1
      have he9 := HX2.out.capE.2
      have hFt := hFc t (by rw [← HN.out]; exact hst)
      have hMt := hMc t (by rw [← HN.out]; exact hst)
      have hEt := hEc (t * 2) (by rw [← HN.out]; omega)
      rw [ecell_0] at hEt
      clear hFc hFl hMc hMl hEc hEl
      cases hft : s.ful t with
      | true =>
        have xf : u1.cell? ⟨bF, oF + t, none⟩ = some (.bool true) := by rw [hFt, flg, hft]
        have HFT := Lib.hid hft
        obtain ⟨eh, heh⟩ : ∃ eh, eh = s.eh t := ⟨_, rfl⟩
        have HEH := Lib.hid heh
        rw [← heh] at hEt
        clear hFt hft heh hMt
        by_cases hhe : eh = H
        · have hhe' : ((eh : Int) == (H : Int)) = true := by rw [beq_iff_eq]; omega
          have HW : Hid (s.wayU H (i + 1) = s.wayU H i ++ [t]) := Lib.hid (by
            show s.wayU H i ++ (if s.on H i then [s.st H i] else []) = _
            have : s.on H i = true := by
              unfold Tb.on
              rw [← HT.out, HFT.out, ← HEH.out, hhe]
              simp
            rw [if_pos this, ← HT.out])
          clear hhe
          have HO3 := Lib.hid (HO2.out.below (below_alloc u1 (.cells #[.int .i64 (t : Int)] 3)))
          go_upto_region 9 with fail
          clear x0 x1 x2 xf hEt
          go_wp2_with (first
            | (at_builtin
               refine wpList_append_vals rfl (.tmp 66) (.tmp 68) 102 rfl w.heap.size 3 iI (.int .i64 0) 1 Try.underlying102 HII.out HZI.out HYI.out rfl (by decide) rfl HO3.out (m := 1) rfl (rdc_one u1 3 (.int .i64 (t : Int))) (fun k _ => rfl) (by unfold maxLen; omega) (by rw [HXI.out]; omega) (Nat.le_trans HB2.out.size (alloc_le u1 _)) ?_
               intro A9 c9 u9 hown9 hg9 _
               have HO9 := Lib.hid hown9
               have HB9 : Hid (Below w.heap.size w u9) := Lib.hid ((HB2.out.alloc HB2.out.size _).grown hg9 (Nat.le_trans HB2.out.size (alloc_le u1 _)) fun k hk => HO3.out.at_ k hk)
               clear hown9 hg9))
          go_roundw
          case rel =>
            refine ⟨i + 1, m + 1, A9, c9, by omega, ?_, by go_num, rfl, ?_, fun j hj => ?_, HB9.out⟩
            · rw [HW.out, List.length_append, ← HME.out]
              rfl
            · rw [HW.out]
              exact HO9.out.same fun k hk => by rw [nL_app _ _ _ (by rw [← HME.out]; omega), ← HME.out, Nat.mul_one]
            · rcases (show j < i ∨ j = i by omega) with e | rfl
              · exact HFU.out j e
              · rw [← HT.out]
                exact .inl HFT.out
          case measure => simp [intOf]; omega
        · have hhe' : ((eh : Int) == (H : Int)) = false := by rw [beq_eq_false_iff_ne]; omega
          have HW : Hid (s.wayU H (i + 1) = s.wayU H i) := Lib.hid (by
            show s.wayU H i ++ (if s.on H i then [s.st H i] else []) = _
            have : s.on H i = false := by
              unfold Tb.on
              rw [← HT.out, HFT.out, ← HEH.out]
              simpa using hhe
            rw [if_neg (by rw [this]; exact Bool.false_ne_true), List.append_nil])
          clear hhe
          go_wp2_with fail
          go_roundw
          case rel =>
            refine ⟨i + 1, m, A, c, by omega, ?_, by go_num, rfl, ?_, fun j hj => ?_, HB2.out⟩
            · rw [HW.out]
              exact HME.out
            · rw [HW.out]
              exact HO2.out
            · rcases (show j < i ∨ j = i by omega) with e | rfl
              · exact HFU.out j e
              · rw [← HT.out]
                exact .inl HFT.out
          case measure => simp [intOf]; omega
      | false =>
        have xf : u1.cell? ⟨bF, oF + t, none⟩ = some (.bool false) := by rw [hFt, flg, hft]
        have HFT := Lib.hid hft
        clear hFt hft hEt
        cases hmt : s.mrk t with
        | true =>
          have xm : u1.cell? ⟨bM, oM + t, none⟩ = some (.bool true) := by rw [hMt, flg, hmt]
          have HMT := Lib.hid hmt
          have HW : Hid (s.wayU H (i + 1) = s.wayU H i) := Lib.hid (by
            show s.wayU H i ++ (if s.on H i then [s.st H i] else []) = _
            have : s.on H i = false := by
              unfold Tb.on
              rw [← HT.out, HFT.out]
              rfl
            rw [if_neg (by rw [this]; exact Bool.false_ne_true), List.append_nil])
          clear hMt hmt
          go_wp2_with fail
          go_roundw
          case rel =>
            refine ⟨i + 1, m, A, c, by omega, ?_, by go_num, rfl, ?_, fun j hj => ?_, HB2.out⟩
            · rw [HW.out]
              exact HME.out
            · rw [HW.out]
              exact HO2.out
            · rcases (show j < i ∨ j = i by omega) with e | rfl
              · exact HFU.out j e
              · rw [← HT.out]
                exact .inr HMT.out
          case measure => simp [intOf]; omega
        | false =>
          have xm : u1.cell? ⟨bM, oM + t, none⟩ = some (.bool false) := by rw [hMt, flg, hmt]
          have HLM : Hid (L = s.wayU H i) := Lib.hid (by
            rw [HL.out]
            unfold Tb.way
            rw [Tb.lim_eq (i := i) (by rw [← HN.out]; exact hi) HFU.out fun _ => by rw [← HT.out]; exact ⟨HFT.out, hmt⟩])
          clear hMt hmt
          go_wp2_with fail
          go_ret
          refine ⟨A, c, ?_, ?_, HB2.out⟩
          · rw [HLM.out, ← HME.out]
            rfl
          · rw [HLM.out, ← HME.out]
            exact HO2.out
    · obtain rfl : i = n := by omega
      have i1 : ¬ (i : Int) < (i : Int) := by omega
      have HLM : Hid (L = s.wayU H i) := Lib.hid (by
        rw [HL.out]
        unfold Tb.way
        rw [Tb.lim_eq (i := i) (by rw [← HN.out]; exact hi) HFU.out fun e => absurd e (by rw [← HN.out]; omega)])
      go_wp2_with fail
      go_ret
      refine ⟨A, c, ?_, ?_, HB.out⟩
      · rw [HLM.out, ← HME.out]
        rfl
      · rw [HLM.out, ← HME.out]
        exact HO.out
set_option maxHeartbeats 2000000 in
theorem rfind_any (h : RT w q AF cF AM cM AE cE s G) (hs : s.Ok) (H X : Nat) (hH : H < 18446744073709551616) (_hX : X < 4294967296) : Calls Try.prog 42 #[.pointer (some ⟨q, 0, none⟩), .int .u64 (H : Int), .int .u32 (X : Int)] w (ret (.tuple (s.fdV H X)) w) := by
  have HWA := Lib.hid (rway_any h hs H hH)
  have HX0 := Lib.hid h
  have HS := Lib.hid hs
  obtain ⟨L, hL⟩ : ∃ L, L = s.way H := ⟨_, rfl⟩
  rw [← hL] at HWA
  obtain ⟨m, hm⟩ : ∃ m, m = L.length := ⟨_, rfl⟩
  have HME := Lib.hid hm
  rw [← hm] at HWA
  have hml : m ≤ 262144 := by
    rw [hm, hL]
    exact Nat.le_trans (Tb.wayU_len s H _) (Nat.le_trans (Tb.lim_le s H) hs.top)
  have HLT : Hid (∀ k : Nat, k ∈ L → k < s.n) := Lib.hid fun k hk => Tb.wayU_lt hs H (by rw [hL] at hk; exact hk)
  obtain ⟨V, hV⟩ : ∃ V, V = s.fdV H X := ⟨_, rfl⟩
  rw [← hV]
  have HV1 : Hid (∀ k (x : Nat), k < m → L[k]? = some x → s.ew x = X → (∀ j y, j < k → L[j]? = some y → s.ew y ≠ X) → V = #[.int .i64 (x : Int), .bool true]) := Lib.hid fun k x hk hx he hb => by
    have : s.find H X = some x := by
      unfold Tb.find
      rw [← hL, List.find?_eq_some_iff_getElem]
      refine ⟨by simpa using he, k, by rw [← hm]; exact hk, ?_, fun j hj => ?_⟩
      · have := hx
        rw [List.getElem?_eq_getElem (by rw [← hm]; exact hk)] at this
        injection this
      · have hj' : j < L.length := by omega
        have := hb j L[j] hj (List.getElem?_eq_getElem hj')
        simpa using this
    rw [hV]
    unfold Tb.fdV
    rw [this]
  have HV0 : Hid ((∀ j y, j < m → L[j]? = some y → s.ew y ≠ X) → V = #[.int .i64 0, .bool false]) := Lib.hid fun hb => by
    have : s.find H X = none := by
      unfold Tb.find
      rw [← hL, List.find?_eq_none]
      intro y hy
      obtain ⟨j, hj, e⟩ := List.getElem_of_mem hy
      have := hb j y (by rw [hm]; exact hj) (by rw [List.getElem?_eq_getElem hj, e])
      simpa using this
    rw [hV]
    unfold Tb.fdV
    rw [this]
  have htop := hs.top
  have hpos := hs.pos
  clear h hs hL hm hV
  go_enter Try.func42, Try.ntmps42
  go_upto_region 2 with (first
    | (go_at_call 68
       refine HWA.out.mono ?_
       rintro e u1 ⟨A, c, rfl, ho, hb⟩
       have HO1 := Lib.hid ho
       have HB1 := Lib.hid hb
       have HX1 := Lib.hid (HX0.out.step hb)
       clear ho hb))
  clear HX0 HWA
  obtain ⟨n, hn⟩ : ∃ n, n = s.n := ⟨_, rfl⟩
  have HN := Lib.hid hn
  rw [← hn] at htop hpos HLT
  clear hn
  obtain ⟨bE, oE, rfl, _, hEl, hEc⟩ := rdg_pos HX1.out.fE (by have := HS.out.pos; omega)
  have HEC := Lib.hid hEc
  have HEL := Lib.hid hEl
  have he1 : n ≤ cE := by rw [HN.out]; exact HX1.out.capE.1
  have he9 := HX1.out.capE.2
  have hoc := HO1.out.cap
  have ho9 : c ≤ 9223372036854775807 := by
    have := HO1.out.cap_le
    unfold maxLen at this
    omega
  have HQ1 : Hid (u1.cell? ⟨q, 2, none⟩ = some (.slice (some ⟨bE, oE, none⟩) n cE)) := Lib.hid (by rw [HN.out]; exact blk_cell HX1.out.blk 2)
  have HQL : Hid (q < u1.heap.size) := Lib.hid (lt_heap HX1.out.blk)
  have HRD := Lib.hid HO1.out.rd
  clear hEc hEl
  go_wp2_with fail
  go_loopw [9] (fun vi wr => ∃ k : Nat, k ≤ m ∧ vi = .int .i64 (k : Int) ∧ (∀ j y, j < k → L[j]? = some y → s.ew y ≠ X) ∧ Below u1.heap.size u1 wr) (fun vi _ => m - (intOf vi).toNat)
  case atStart => exact ⟨0, Nat.zero_le _, rfl, fun j y hj => absurd hj (Nat.not_lt_zero _), Below.refl _ _⟩
  case round =>
    obtain ⟨k, hk, rfl, hno, hb⟩ := hrel
    have HNO := Lib.hid hno
    have HB := Lib.hid hb
    clear hno hb
    by_cases hkm : k < m
    · have i1 : (k : Int) < (m : Int) := by omega
      have i0 : (0 : Int) ≤ (k : Int) := by omega
      have i2 : ((k : Int)).toNat = k := by omega
      have zi : IntKind.i64.wrap ((k : Int) + 1) = (k : Int) + 1 := by rw [IntKind.wrap_i64]; omega
      obtain ⟨bL, oL, rfl, hLl, hLc⟩ := rdc_pos HRD.out (by omega)
      obtain ⟨t, ht⟩ : ∃ t, L[k]? = some t := ⟨_, List.getElem?_eq_getElem (by rw [← HME.out]; exact hkm)⟩
      have htn := HLT.out t (List.mem_of_getElem? ht)
      have t0 : (0 : Int) ≤ (t : Int) := by omega
      have t1 : (t : Int) < (n : Int) := by omega
      have t2 : ((t : Int)).toNat = t := by omega
      have HTT := Lib.hid ht
      have xl : wr.cell? ⟨bL, oL + k, none⟩ = some (.int .i64 (t : Int)) := by rw [HB.out.cell (p := ⟨bL, oL + k, none⟩) hLl, hLc k (by omega), nL_at ht]
      have xe : wr.cell? ⟨bE, oE + t * 2 + 1, none⟩ = some (.int .u32 (s.ew t : Int)) := by rw [HB.out.cell (p := ⟨bE, oE + t * 2 + 1, none⟩) HEL.out, Nat.add_assoc, HEC.out _ (by rw [← HN.out]; omega), ecell_1]
      have x2 : wr.cell? ⟨q, 2, none⟩ = some (.slice (some ⟨bE, oE, none⟩) n cE) := (HB.out.cell (p := ⟨q, 2, none⟩) HQL.out).trans HQ1.out
      obtain ⟨x, hx⟩ : ∃ x, x = s.ew t := ⟨_, rfl⟩
      have HXE := Lib.hid hx
      rw [← hx] at xe
      clear ht hx hLc hLl
      have XL : Hid (∀ W : Stay wr, W.w.cell? ⟨bL, oL + k, none⟩ = some (.int .i64 (t : Int))) := Lib.hid fun W => Stay.cell xl W
      have XE : Hid (∀ W : Stay wr, W.w.cell? ⟨bE, oE + t * 2 + 1, none⟩ = some (.int .u32 (x : Int))) := Lib.hid fun W => Stay.cell xe W
      have X2 : Hid (∀ W : Stay wr, W.w.cell? ⟨q, 2, none⟩ = some (.slice (some ⟨bE, oE, none⟩) n cE)) := Lib.hid fun W => Stay.cell x2 W
      clear xe x2
      go_upto_region 5 with fail
      clear xl
      have yl := XL.out
      have ye := XE.out
      have y2 := X2.out
      refine wp_region_stay (by kernel_rfl) (by kernel_rfl) ?_
      repeat (go_big_quiet_step (fail))
      refine wpQuiet_nil ?_
      intro w' hw'
      obtain ⟨W, rfl⟩ := hw'
      have xl := yl W
      have HB2 := Lib.hid (HB.out.trans (W.below.mono HB.out.size))
      clear yl ye y2 XL XE X2 HB
      generalize W.w = u2 at *
      by_cases hxX : x = X
      · have hxX' : ((x : Int) == (X : Int)) = true := by rw [beq_iff_eq]; omega
        have HVE := Lib.hid (HV1.out k t hkm HTT.out (HXE.out.symm.trans hxX) HNO.out)
        clear hxX
        go_wp2_with fail
        go_ret2
        exact ⟨by rw [HVE.out]; rfl, HB1.out.trans (HB2.out.mono HB1.out.size)⟩
      · have hxX' : ((x : Int) == (X : Int)) = false := by rw [beq_eq_false_iff_ne]; omega
        have HXX := Lib.hid hxX
        clear hxX
        go_wp2_with fail
        go_roundw
        case rel =>
          refine ⟨k + 1, by omega, by go_num, fun j y hj hy => ?_, HB2.out⟩
          rcases (show j < k ∨ j = k by omega) with e | rfl
          · exact HNO.out j y e hy
          · rw [HTT.out] at hy
            injection hy with hy
            rw [← hy, ← HXE.out]
            exact HXX.out
        case measure => simp [intOf]; omega
    · obtain rfl : k = m := by omega
      have i1 : ¬ (k : Int) < (k : Int) := by omega
      have HVE := Lib.hid (HV0.out HNO.out)
      go_wp2_with fail
      go_ret2
      exact ⟨by rw [HVE.out]; rfl, HB1.out.trans (HB.out.mono HB1.out.size)⟩
set_option maxHeartbeats 2000000 in
theorem rtcopy_any (h : RT w q AF cF AM cM AE cE s G) : Calls Try.prog 48 #[.pointer (some ⟨q, 0, none⟩)] w fun e w' => ∃ b G', e = .returned (.pointer (some ⟨b, 0, none⟩)) ∧ RTA w' b s G' ∧ (∀ k, G' k → (G k ∧ k ≠ q) ∨ (w.heap.size ≤ k ∧ k < w'.heap.size)) ∧ Below w.heap.size w w' := by
  have HX := Lib.hid h
  have x0 : w.cell? ⟨q, 0, none⟩ = some (.slice AF s.n cF) := blk_cell h.blk 0
  have x1 : w.cell? ⟨q, 1, none⟩ = some (.slice AM s.n cM) := blk_cell h.blk 1
  have x2 : w.cell? ⟨q, 2, none⟩ = some (.slice AE s.n cE) := blk_cell h.blk 2
  obtain ⟨n, hn⟩ : ∃ n, n = s.n := ⟨_, rfl⟩
  have HN := Lib.hid hn
  rw [← hn] at x0 x1 x2
  clear h hn
  have hbd : ∀ (w : World), (Instr.build 69 #[(0, .slice AF n cF), (1, .slice AM n cM), (2, .slice AE n cE)]).run Try.prog w = .ok (.agg #[.slice AF n cF, .slice AM n cM, .slice AE n cE]) w := fun w => by kernel_rfl
  go_enter Try.func48, Try.ntmps48
  go_upto_region 1 with fail
  go_still_tail 13, (by kernel_rfl)
  repeat still_step
  try refine wpStill_nil ?_
  change wpList _ _ _ _ _ w.drew
  have HX1 := Lib.hid (HX.out.step ((Below.refl _ w).drew))
  have HB1 : Hid (Below w.heap.size w w.drew) := Lib.hid ((Below.refl _ w).drew)
  generalize w.drew = u1 at *
  go_wp2_with fail
  go_ret
  have hb2 := below_alloc u1 (.cells #[.slice AF n cF, .slice AM n cM, .slice AE n cE] 69)
  have hX2 := HX1.out.step hb2
  have hz : (u1.alloc (.cells #[.slice AF n cF, .slice AM n cM, .slice AE n cE] 69)).heap.size = u1.heap.size + 1 := by simp
  have hq : q < u1.heap.size := lt_heap HX1.out.blk
  have hws := HB1.out.size
  refine ⟨u1.heap.size, fun k => (G k ∧ k ≠ q) ∨ k = u1.heap.size, rfl, ⟨AF, cF, AM, cM, AE, cE, ?_, hX2.capF, hX2.capM, hX2.capE, hX2.fF.mono ?_, hX2.fM.mono ?_, hX2.fE.mono ?_, .inr rfl, fun k hk => ?_⟩, fun k hk => ?_, HB1.out.trans (hb2.mono HB1.out.size)⟩
  · rw [← HN.out]
    exact heap_alloc_new u1 _
  · exact fun k hk => ⟨.inl hk, by have := HX1.out.old k hk.1; omega⟩
  · exact fun k hk => ⟨.inl hk, by have := HX1.out.old k hk.1; omega⟩
  · exact fun k hk => ⟨.inl hk, by have := HX1.out.old k hk.1; omega⟩
  · rcases hk with hk | rfl
    · have := HX1.out.old k hk.1
      omega
    · omega
  · rcases hk with hk | rfl
    · exact .inl hk
    · exact .inr ⟨hws, by omega⟩
end
def mkB (w : World) (n : Nat) : Fact := fun v W => ∃ g, v = .slice (some ⟨g, 0, none⟩) n n ∧ OwnC W w.heap.size 4 1 (some ⟨g, 0, none⟩) n n (flg fun _ => false)
def mkE (w : World) (n : Nat) : Fact := fun v W => ∃ g, v = .slice (some ⟨g, 0, none⟩) n n ∧ OwnC W w.heap.size 34 2 (some ⟨g, 0, none⟩) n n (ecell (fun _ => 0) (fun _ => 0))
def bldT (w : World) (n : Nat) : Fact := fun v W => ∃ g4 g6 g8, v = .agg #[.slice (some ⟨g4, 0, none⟩) n n, .slice (some ⟨g6, 0, none⟩) n n, .slice (some ⟨g8, 0, none⟩) n n] ∧ OwnC W w.heap.size 4 1 (some ⟨g4, 0, none⟩) n n (flg fun _ => false) ∧ OwnC W w.heap.size 4 1 (some ⟨g6, 0, none⟩) n n (flg fun _ => false) ∧ OwnC W w.heap.size 34 2 (some ⟨g8, 0, none⟩) n n (ecell (fun _ => 0) (fun _ => 0))
def boxT (w : World) (n : Nat) : Fact := fun v W => ∃ p g4 g6 g8, v = .pointer (some ⟨p, 0, none⟩) ∧ w.heap.size ≤ p ∧ W.heap[p]? = some (.cells #[.slice (some ⟨g4, 0, none⟩) n n, .slice (some ⟨g6, 0, none⟩) n n, .slice (some ⟨g8, 0, none⟩) n n] 69 (0, 0)) ∧ OwnC W w.heap.size 4 1 (some ⟨g4, 0, none⟩) n n (flg fun _ => false) ∧ OwnC W w.heap.size 4 1 (some ⟨g6, 0, none⟩) n n (flg fun _ => false) ∧ OwnC W w.heap.size 34 2 (some ⟨g8, 0, none⟩) n n (ecell (fun _ => 0) (fun _ => 0))
theorem stb_mkB (w : World) (n : Nat) : Stb (mkB w n) := fun _ _ _ ⟨g, h, o⟩ hb => ⟨g, h, o.below hb⟩
theorem stb_mkE (w : World) (n : Nat) : Stb (mkE w n) := fun _ _ _ ⟨g, h, o⟩ hb => ⟨g, h, o.below hb⟩
theorem stb_bldT (w : World) (n : Nat) : Stb (bldT w n) := fun _ _ _ ⟨g4, g6, g8, h, o4, o6, o8⟩ hb => ⟨g4, g6, g8, h, o4.below hb, o6.below hb, o8.below hb⟩
theorem stb_boxT (w : World) (n : Nat) : Stb (boxT w n) := fun _ _ _ ⟨p, g4, g6, g8, h, hp, hq, o4, o6, o8⟩ hb => ⟨p, g4, g6, g8, h, hp, (hb.block p (lt_heap hq)).trans hq, o4.below hb, o6.below hb, o8.below hb⟩
set_option maxHeartbeats 2000000 in
theorem rtnew_any (w : World) (n : Nat) (hpos : 0 < n) (hn : n ≤ 262144) : Calls Try.prog 27 #[.int .i64 (n : Int)] w fun e w' => ∃ q G, e = .returned (.pointer (some ⟨q, 0, none⟩)) ∧ RTA w' q (Tb.new n) G ∧ (∀ k, G k → w.heap.size ≤ k ∧ k < w'.heap.size) ∧ Below w.heap.size w w' := by
  have HMB : Hid (∀ W : World, ∃ w', (Instr.makeSlice 66 (.int .i64 (n : Int)) (.int .i64 (n : Int))).run Try.prog W = .ok (.slice (some ⟨W.heap.size, 0, none⟩) n n) w' ∧ OwnC w' W.heap.size 4 1 (some ⟨W.heap.size, 0, none⟩) n n (flg fun _ => false) ∧ W.grownBy w' none) := Lib.hid fun W => by
    obtain ⟨i0, hi0, hz0, hz1, hz2⟩ := info_parts Try.infoBO
    exact run_make_vals (P := Try.prog) W W.heap.size 66 4 i0 (.bool false) Try.underlying66 hi0 hz0 hz1 rfl n (by rw [hz2]; omega) (by unfold maxLen; omega) (Nat.le_refl _)
  have HME : Hid (∀ W : World, ∃ w', (Instr.makeSlice 67 (.int .i64 (n : Int)) (.int .i64 (n : Int))).run Try.prog W = .ok (.slice (some ⟨W.heap.size, 0, none⟩) n n) w' ∧ OwnC w' W.heap.size 34 2 (some ⟨W.heap.size, 0, none⟩) n n (ecell (fun _ => 0) (fun _ => 0)) ∧ W.grownBy w' none) := Lib.hid fun W => by
    obtain ⟨i0, hi0, hz0, hz1, hz2⟩ := info_parts Try.infoEN
    obtain ⟨w', h1, h2, h3⟩ := run_make_full (P := Try.prog) (w := W) W.heap.size 67 34 i0 (.agg #[.int .u64 0, .int .u32 0]) 2 Try.underlying67 hi0 hz0 hz1 .i64 .i64 n (by rw [hz2]; omega) (by unfold maxLen; omega) (Nat.le_refl _)
    refine ⟨w', h1, ?_, h3⟩
    unfold OwnC
    have e1 : (madeCells (Value.agg #[.int .u64 0, .int .u32 0]).cells (n * 2)).toList = vals (n * 2) (ecell (fun _ => 0) (fun _ => 0)) := by
      refine vals_eq (by simp [size_madeCells]) fun k hk => ?_
      show (madeCells #[.int .u64 0, .int .u32 0] (n * 2)).toList[k]? = _
      unfold ecell
      simp [madeCells]
      refine ⟨k, List.getElem?_range hk, ?_⟩
      rcases (show k % 2 = 0 ∨ k % 2 = 1 by omega) with e | e
      · rw [e]; rfl
      · rw [e]; rfl
    rw [← e1]
    exact h2
  go_enter Try.func27, Try.ntmps27
  go_upto_region 1 with fail
  refine wp_region_grow (C := fun W => Below w.heap.size w W) 8 11 [val (.int .i64 (n : Int)), mkB w n, val (.int .i64 (n : Int)), mkB w n, val (.int .i64 (n : Int)), mkE w n, bldT w n, boxT w n] (by kernel_rfl) rfl (by kernel_rfl) rfl ⟨stb_val _, stb_mkB _ _, stb_val _, stb_mkB _ _, stb_val _, stb_mkE _ _, stb_bldT _ _, stb_boxT _ _, trivial⟩ (Below.refl _ _).drew ?_ ?_
  · refine each_cons ?_ ?_
    · intro a W hW hd
      have h0 : a.tmps[0]?.getD undef = .int .i64 (n : Int) := slot_eq (hd 0 (by decide))
      exact grows_value _ hW (by simp [execOp, Act.eval, h0]) rfl
    refine each_cons ?_ ?_
    · intro a W hW hd
      have h3 : a.tmps[3]?.getD undef = .int .i64 (n : Int) := slot_eq (hd 3 (by decide))
      obtain ⟨w', hrun, hown, hg⟩ := HMB.out W
      have hb : Below W.heap.size W w' := (Below.refl _ _).grown hg (Nat.le_refl _) (fun _ h => nomatch h)
      refine grows_new (.slice (some ⟨W.heap.size, 0, none⟩) n n) (w' := w') (?_ : _ = _) ⟨_, rfl, hown.le hW.size⟩ hb (hW.trans (hb.mono hW.size))
      clear hd
      simp [execOp, Act.eval, h3, hrun]
    refine each_cons ?_ ?_
    · intro a W hW hd
      have h0 : a.tmps[0]?.getD undef = .int .i64 (n : Int) := slot_eq (hd 0 (by decide))
      exact grows_value _ hW (by simp [execOp, Act.eval, h0]) rfl
    refine each_cons ?_ ?_
    · intro a W hW hd
      have h5 : a.tmps[5]?.getD undef = .int .i64 (n : Int) := slot_eq (hd 5 (by decide))
      obtain ⟨w', hrun, hown, hg⟩ := HMB.out W
      have hb : Below W.heap.size W w' := (Below.refl _ _).grown hg (Nat.le_refl _) (fun _ h => nomatch h)
      refine grows_new (.slice (some ⟨W.heap.size, 0, none⟩) n n) (w' := w') (?_ : _ = _) ⟨_, rfl, hown.le hW.size⟩ hb (hW.trans (hb.mono hW.size))
      clear hd
      simp [execOp, Act.eval, h5, hrun]
    refine each_cons ?_ ?_
    · intro a W hW hd
      have h0 : a.tmps[0]?.getD undef = .int .i64 (n : Int) := slot_eq (hd 0 (by decide))
      exact grows_value _ hW (by simp [execOp, Act.eval, h0]) rfl
    refine each_cons ?_ ?_
    · intro a W hW hd
      have h7 : a.tmps[7]?.getD undef = .int .i64 (n : Int) := slot_eq (hd 7 (by decide))
      obtain ⟨w', hrun, hown, hg⟩ := HME.out W
      have hb : Below W.heap.size W w' := (Below.refl _ _).grown hg (Nat.le_refl _) (fun _ h => nomatch h)
      refine grows_new (.slice (some ⟨W.heap.size, 0, none⟩) n n) (w' := w') (?_ : _ = _) ⟨_, rfl, hown.le hW.size⟩ hb (hW.trans (hb.mono hW.size))
      clear hd
      simp [execOp, Act.eval, h7, hrun]
    refine each_cons ?_ ?_
    · intro a W hW hd
      obtain ⟨g4, h4, o4⟩ := hd 4 (by decide)
      obtain ⟨g6, h6, o6⟩ := hd 6 (by decide)
      obtain ⟨g8, h8, o8⟩ := hd 8 (by decide)
      have h4 := slot_eq h4
      have h6 := slot_eq h6
      have h8 := slot_eq h8
      refine grows_value (.agg #[.slice (some ⟨g4, 0, none⟩) n n, .slice (some ⟨g6, 0, none⟩) n n, .slice (some ⟨g8, 0, none⟩) n n]) hW (?_ : _ = _) ⟨g4, g6, g8, rfl, o4, o6, o8⟩
      clear hd
      go_simp
    refine each_cons ?_ ?_
    · intro a W hW hd
      obtain ⟨g4, g6, g8, h9, o4, o6, o8⟩ := hd 9 (by decide)
      have h9 := slot_eq h9
      refine grows_new (.pointer (some ⟨W.heap.size, 0, none⟩)) (w' := W.alloc (.cells #[.slice (some ⟨g4, 0, none⟩) n n, .slice (some ⟨g6, 0, none⟩) n n, .slice (some ⟨g8, 0, none⟩) n n] 69)) (?_ : _ = _) ⟨_, g4, g6, g8, rfl, hW.size, heap_alloc_new W _, o4.alloc _, o6.alloc _, o8.alloc _⟩ (below_alloc _ _) (hW.alloc hW.size _)
      clear hd
      go_simp
    exact each_nil
  · refine behind_val rfl ?_
    refine behind_cons fun v4 => ?_
    refine behind_val rfl ?_
    refine behind_cons fun v6 => ?_
    refine behind_val rfl ?_
    refine behind_cons fun v8 => ?_
    refine behind_cons fun v9 => ?_
    refine behind_cons fun v10 => ?_
    refine behind_nil fun u2 hCu2 hFu2 => ?_
    simp only [Act.put, List.setIfInBounds_toArray, List.set_cons_succ, List.set_cons_zero, List.drop_succ_cons, List.drop_zero]
    obtain ⟨_, p, g4, g6, g8, rfl, hp, hblk, o4, o6, o8⟩ := hFu2
    have HP := Lib.hid hp
    have HBL := Lib.hid hblk
    have H4 := Lib.hid o4
    have H6 := Lib.hid o6
    have H8 := Lib.hid o8
    have HC := Lib.hid hCu2
    clear hp hblk o4 o6 o8 hCu2
    go_wp2_with fail
    go_ret
    have l4 := H4.out.cap_le
    unfold maxLen at l4
    obtain ⟨_, e4, b4, q4, _⟩ := H4.out.lies hpos
    obtain ⟨_, e6, b6, q6, _⟩ := H6.out.lies hpos
    obtain ⟨_, e8, b8, q8, _⟩ := H8.out.lies hpos
    injection e4 with e4
    injection e4 with e4
    injection e6 with e6
    injection e6 with e6
    injection e8 with e8
    injection e8 with e8
    subst e4
    subst e6
    subst e8
    have n4 : g4 ≠ p := (H4.out.ne HBL.out (by decide)).symm
    have n6 : g6 ≠ p := (H6.out.ne HBL.out (by decide)).symm
    have n8 : g8 ≠ p := (H8.out.ne HBL.out (by decide)).symm
    refine ⟨p, rfl, fun k => k = p ∨ k = g4 ∨ k = g6 ∨ k = g8, ⟨_, n, _, n, _, n, HBL.out, ⟨Nat.le_refl _, by omega⟩, ⟨Nat.le_refl _, by omega⟩, ⟨Nat.le_refl _, by omega⟩, ?_, ?_, ?_, .inl rfl, fun k hk => ?_⟩, fun k hk => ?_, HC.out⟩
    · obtain ⟨_, e, _, _, hc, _⟩ := H4.out.lies hpos
      injection e with e
      injection e with e
      subst e
      exact .inr ⟨g4, 0, rfl, ⟨.inr (.inl rfl), n4⟩, q4, fun k hk => by rw [Nat.zero_add]; exact hc k (by rw [Nat.mul_one]; exact hk)⟩
    · obtain ⟨_, e, _, _, hc, _⟩ := H6.out.lies hpos
      injection e with e
      injection e with e
      subst e
      exact .inr ⟨g6, 0, rfl, ⟨.inr (.inr (.inl rfl)), n6⟩, q6, fun k hk => by rw [Nat.zero_add]; exact hc k (by rw [Nat.mul_one]; exact hk)⟩
    · obtain ⟨_, e, _, _, hc, _⟩ := H8.out.lies hpos
      injection e with e
      injection e with e
      subst e
      exact .inr ⟨g8, 0, rfl, ⟨.inr (.inr (.inr rfl)), n8⟩, q8, fun k hk => by rw [Nat.zero_add]; exact hc k hk⟩
    · have := lt_heap HBL.out
      rcases hk with rfl | rfl | rfl | rfl <;> omega
    · have := lt_heap HBL.out
      have := HP.out
      rcases hk with rfl | rfl | rfl | rfl <;> omega
end Go.Proofs.Ythjghofjdcepmaa
