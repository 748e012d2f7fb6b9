import Derived.Test.YtlchegibfopglaaK38
import Derived.Test.YtlchegibfopglaaK41
/- Layer 7, the document: Read, walked. -/
namespace Go.Proofs.Ytlchegibfopglaa
set_option maxRecDepth 100000
open Go.RowKit
theorem rep_dsts (a b : Int) (v : Bool) (pr : Int) (s d : Nat → Int) (sp dp : Int) (k : Nat) (hk : k < 16) : (repT a b (tupc v pr s d sp dp))[20 + k]? = some (.int .u8 (d k)) := by
  unfold repT
  rw [Array.getElem?_append, if_neg (show ¬ 20 + k < (#[Value.int .u8 a, Value.int .u8 b] : Array Value).size from by show ¬ 20 + k < 2; omega)]
  have h := tup_dsts v pr s d sp dp k hk
  have e : 20 + k - (#[Value.int .u8 a, Value.int .u8 b] : Array Value).size = 18 + k := by show 20 + k - 2 = 18 + k; omega
  rw [e]
  exact h
theorem rep_range {W : World} {g : Nat} {t : TypeId} (a b : Int) (T : Array Value) (h : W.heap[g]? = some (.cells (repT a b T) t (0, 0))) : W.rangeAt g 2 T.toList :=
  app_range #[.int .u8 a, .int .u8 b] T #[] rfl (by rw [Array.append_empty]; exact h)
theorem wpList_load_a16 {P : Program} {ops : Array Oper} {rest : List Oper} {op : Oper} {a : Act} {w : World} {Q : Exit → Act → World → Prop} (hgd : op.guard = none) (ty : TypeId) (x : Operand) (ho : op.op = .load ty x)
    (b o : Nat) (hx : a.eval x = .pointer (some ⟨b, o, none⟩)) (f : Nat → Int) {d : TypeDesc} (hc : w.rangeAt b o (arr16 f).toList)
    (hu : P.underlying ty = some d) (hd : d.isRow = true) (hi : (P.info? ty).map (·.size) = some (arr16 f).toList.length)
    (h : wpList P ops Q rest (a.put op.dst (.agg (arr16 f))) w) : wpList P ops Q (op :: rest) a w :=
  wpList_load_mid hgd ty x ho b o hx (arr16 f).toList d hc hu hd hi h
theorem eth_one (d s : Nat → Int) (t : Int) : (eth d s t).all (·.oneCell') = true := by simp [eth, Value.oneCell']
set_option maxHeartbeats 8000000 in
theorem rpk_any (A : Option Addr) (n c : Nat) (f : Nat → Int) (hf : Byt f) (hn : n ≤ 140737488355) (hcap : n ≤ c) (hc9 : c ≤ 9223372036854775807) (w : World) (hr : Rd w w.heap.size A n f) :
    Calls Try.prog 7 #[.slice A n c] w (PkO f n w) := by
  have HR := Lib.hid hr
  have HF := Lib.hid hf
  clear hr hf
  have e1 : (w.alloc (.cells pkz 32)).heap.size = w.heap.size + 1 := by simp
  have HM1 : Hid (Mem w (((w.alloc (.cells pkz 32)).alloc (.cells pkz 32)).setRow (w.heap.size + 1) pkz) [(w.heap.size, .cells pkz 32 (0, 0)), (w.heap.size + 1, .cells pkz 32 (0, 0))]) := Lib.hid ((((Mem.nil w).alloc (.cells pkz 32)).new (.cells pkz 32) (w.heap.size + 1) e1.symm).row 1 rfl pkz)
  have HQ1 : Hid (((w.alloc (.cells pkz 32)).alloc (.cells pkz 32)).heap[w.heap.size + 1]? = some (.cells pkz 32 (0, 0))) := by rw [← e1]; exact heap_alloc_new _ _
  clear e1
  go_enter Try.func7, Try.ntmps7
  go_upto_region 2 with (first
    | (refine wpList_store_row rfl 32 (.tmp 4) (.tmp 19) rfl (w.heap.size + 1) pkz rfl rfl 32 pkz HQ1.out (by kernel_rfl) rfl pkz_one ?_))
  change Code.wp _ _ _ _ (((w.alloc (.cells pkz 32)).alloc (.cells pkz 32)).setRow (w.heap.size + 1) pkz)
  clear HQ1
  generalize ((w.alloc (.cells pkz 32)).alloc (.cells pkz 32)).setRow (w.heap.size + 1) pkz = u1 at *
  by_cases cL : 1600 < n
  · have hne : (3 : Int) ≠ 0 := by decide
    go_wp2_with fail
    go_at_call 18
    refine (rread_long A n c cL (by omega) u1).mono ?_
    rintro e u2 ⟨rfl, hb2⟩
    have HM2 := Lib.hid (HM1.out.step hb2)
    clear hb2 HM1
    have HN : Hid ((u2.alloc (.cells (eth (fun _ => 0) (fun _ => 0) 0) 30)).heap[u2.heap.size]? = some (.cells (eth (fun _ => 0) (fun _ => 0) 0) 30 (0, 0))) := heap_alloc_new u2 _
    go_upto_if 27 with (first
      | (refine wpList_store_row rfl 30 (.tmp 5) (.tmp 23) rfl u2.heap.size (eth (fun _ => 0) (fun _ => 0) 0) rfl rfl 30 (eth (fun _ => 0) (fun _ => 0) 0) HN.out (by kernel_rfl) rfl (eth_one ..) ?_))
    change Code.wp _ _ _ _ ((u2.alloc (.cells (eth (fun _ => 0) (fun _ => 0) 0) 30)).setRow u2.heap.size (eth (fun _ => 0) (fun _ => 0) 0))
    obtain ⟨q5, hq⟩ : ∃ q, q = u2.heap.size := ⟨_, rfl⟩
    have HM3 : Hid (Mem w ((u2.alloc (.cells (eth (fun _ => 0) (fun _ => 0) 0) 30)).setRow q5 (eth (fun _ => 0) (fun _ => 0) 0)) [(w.heap.size, .cells pkz 32 (0, 0)), (w.heap.size + 1, .cells pkz 32 (0, 0)), (q5, .cells (eth (fun _ => 0) (fun _ => 0) 0) 30 (0, 0))]) := Lib.hid (HM2.out.newrow (eth (fun _ => 0) (fun _ => 0) 0) (eth (fun _ => 0) (fun _ => 0) 0) 30 q5 hq)
    rw [← hq]
    clear hq HN HM2
    generalize (u2.alloc (.cells (eth (fun _ => 0) (fun _ => 0) 0) 30)).setRow q5 (eth (fun _ => 0) (fun _ => 0) 0) = u3 at *
    have hpk : pkE f n = 3 := pkE_0 cL
    go_wp2_with (first
      | (refine wpList_load_row rfl 32 (.tmp 4) rfl (w.heap.size + 1) rfl 32 pkz (0, 0) _ (HM3.out.get 1 rfl) Try.underlying32 rfl (by kernel_rfl) ?_)
      | (refine wpList_store_row rfl 32 (.tmp 2) (.tmp 28) rfl w.heap.size pkz rfl rfl 32 pkz (HM3.out.get 0 rfl) (by kernel_rfl) rfl pkz_one ?_))
    refine bodyPost_ret (v := .tuple #[.agg pkz, .int .i64 3]) (results_row1 Try.results7 _ _ w.heap.size 32 pkz (0, 0) _ rfl (setRow_heap _ w.heap.size _ pkz _ _ (HM3.out.get 0 rfl)) Try.underlying32 rfl (by kernel_rfl)) rfl ?_
    refine .inl ⟨?_, ?_, below_setRow HM3.out.below (Nat.le_refl _) _⟩
    · rw [hpk]
      first | exact hne | decide
    · rw [hpk] <;> rfl
  by_cases cS : n < 14
  · have hne : (4 : Int) ≠ 0 := by decide
    go_wp2_with fail
    go_at_call 18
    refine (rread_short A n c cS u1).mono ?_
    rintro e u2 ⟨rfl, hb2⟩
    have HM2 := Lib.hid (HM1.out.step hb2)
    clear hb2 HM1
    have HN : Hid ((u2.alloc (.cells (eth (fun _ => 0) (fun _ => 0) 0) 30)).heap[u2.heap.size]? = some (.cells (eth (fun _ => 0) (fun _ => 0) 0) 30 (0, 0))) := heap_alloc_new u2 _
    go_upto_if 27 with (first
      | (refine wpList_store_row rfl 30 (.tmp 5) (.tmp 23) rfl u2.heap.size (eth (fun _ => 0) (fun _ => 0) 0) rfl rfl 30 (eth (fun _ => 0) (fun _ => 0) 0) HN.out (by kernel_rfl) rfl (eth_one ..) ?_))
    change Code.wp _ _ _ _ ((u2.alloc (.cells (eth (fun _ => 0) (fun _ => 0) 0) 30)).setRow u2.heap.size (eth (fun _ => 0) (fun _ => 0) 0))
    obtain ⟨q5, hq⟩ : ∃ q, q = u2.heap.size := ⟨_, rfl⟩
    have HM3 : Hid (Mem w ((u2.alloc (.cells (eth (fun _ => 0) (fun _ => 0) 0) 30)).setRow q5 (eth (fun _ => 0) (fun _ => 0) 0)) [(w.heap.size, .cells pkz 32 (0, 0)), (w.heap.size + 1, .cells pkz 32 (0, 0)), (q5, .cells (eth (fun _ => 0) (fun _ => 0) 0) 30 (0, 0))]) := Lib.hid (HM2.out.newrow (eth (fun _ => 0) (fun _ => 0) 0) (eth (fun _ => 0) (fun _ => 0) 0) 30 q5 hq)
    rw [← hq]
    clear hq HN HM2
    generalize (u2.alloc (.cells (eth (fun _ => 0) (fun _ => 0) 0) 30)).setRow q5 (eth (fun _ => 0) (fun _ => 0) 0) = u3 at *
    have hpk : pkE f n = 4 := pkE_1 cL cS
    go_wp2_with (first
      | (refine wpList_load_row rfl 32 (.tmp 4) rfl (w.heap.size + 1) rfl 32 pkz (0, 0) _ (HM3.out.get 1 rfl) Try.underlying32 rfl (by kernel_rfl) ?_)
      | (refine wpList_store_row rfl 32 (.tmp 2) (.tmp 28) rfl w.heap.size pkz rfl rfl 32 pkz (HM3.out.get 0 rfl) (by kernel_rfl) rfl pkz_one ?_))
    refine bodyPost_ret (v := .tuple #[.agg pkz, .int .i64 4]) (results_row1 Try.results7 _ _ w.heap.size 32 pkz (0, 0) _ rfl (setRow_heap _ w.heap.size _ pkz _ _ (HM3.out.get 0 rfl)) Try.underlying32 rfl (by kernel_rfl)) rfl ?_
    refine .inl ⟨?_, ?_, below_setRow HM3.out.below (Nat.le_refl _) _⟩
    · rw [hpk]
      first | exact hne | decide
    · rw [hpk] <;> rfl
  rcases HR.out with h0 | ⟨b, off, rfl, hbb, hcell⟩
  · omega
  have HRG := Lib.hid (rread_good b off n c f HF.out (by omega) (by omega) hcap hc9 u1 (Nat.lt_of_lt_of_le hbb HM1.out.below.size) (fun k hk => HM1.out.cell hbb (hcell k hk)))
  clear hcell
  obtain ⟨TY, hTY⟩ : ∃ TY, TY = w2 f 12 := ⟨_, rfl⟩
  have hty : f 12 * 256 + f 13 = TY := hTY.symm
  have HTY := Lib.hid hTY
  clear hTY
  go_wp2_with fail
  go_at_call 18
  refine HRG.out.mono ?_
  rintro e u2 ⟨A1, c1, rfl, ho1, hb2⟩
  rw [hty]
  have HM2 := Lib.hid (HM1.out.step hb2)
  have HO2 := Lib.hid ho1
  clear hb2 HM1 ho1 HRG hty
  have HN : Hid ((u2.alloc (.cells (eth (fun _ => 0) (fun _ => 0) 0) 30)).heap[u2.heap.size]? = some (.cells (eth (fun _ => 0) (fun _ => 0) 0) 30 (0, 0))) := heap_alloc_new u2 _
  go_upto_region 5 with (first
    | (refine wpList_store_row rfl 30 (.tmp 5) (.tmp 23) rfl u2.heap.size (eth f (fun k => f (6 + k)) TY) rfl rfl 30 (eth (fun _ => 0) (fun _ => 0) 0) HN.out (by kernel_rfl) rfl (eth_one ..) ?_))
  change Code.wp _ _ _ _ ((u2.alloc (.cells (eth (fun _ => 0) (fun _ => 0) 0) 30)).setRow u2.heap.size (eth f (fun k => f (6 + k)) TY))
  obtain ⟨q5, hq⟩ : ∃ q, q = u2.heap.size := ⟨_, rfl⟩
  have HM3 : Hid (Mem w ((u2.alloc (.cells (eth (fun _ => 0) (fun _ => 0) 0) 30)).setRow q5 (eth f (fun k => f (6 + k)) TY)) [(w.heap.size, .cells pkz 32 (0, 0)), (w.heap.size + 1, .cells pkz 32 (0, 0)), (q5, .cells (eth f (fun k => f (6 + k)) TY) 30 (0, 0))]) := Lib.hid (HM2.out.newrow (eth (fun _ => 0) (fun _ => 0) 0) (eth f (fun k => f (6 + k)) TY) 30 q5 hq)
  have B23 : Hid (Below u2.heap.size u2 ((u2.alloc (.cells (eth (fun _ => 0) (fun _ => 0) 0) 30)).setRow q5 (eth f (fun k => f (6 + k)) TY))) := Lib.hid (by rw [hq]; exact below_setRow (below_alloc u2 _) (Nat.le_refl _) _)
  have HO3 := Lib.hid (HO2.out.below B23.out)
  rw [← hq]
  clear hq HN HM2 HO2 B23
  generalize (u2.alloc (.cells (eth (fun _ => 0) (fun _ => 0) 0) 30)).setRow q5 (eth f (fun k => f (6 + k)) TY) = u3 at *
  have x12 : u3.cell? ⟨q5, 12, none⟩ = some (.int .u16 TY) := blk_cell (HM3.out.get 2 rfl) 12
  have HOU := Lib.hid (rours_any TY u3)
  obtain ⟨ob, hob⟩ : ∃ ob, ob = decide (TY = 2048 ∨ TY = 34525) := ⟨_, rfl⟩
  rw [← hob] at HOU
  have HOB := Lib.hid hob
  clear hob
  go_upto_if 33 with (first
    | (go_at_call 19; refine HOU.out.mono ?_; rintro e w' ⟨rfl, rfl⟩))
  clear HOU
  cases ob
  · have hne : (10 : Int) ≠ 0 := by decide
    have hpk : pkE f n = 10 := pkE_2 cL cS (by rw [← HTY.out]; exact of_decide_eq_false HOB.out.symm)
    clear x12
    go_wp2_with (first
      | (refine wpList_load_row rfl 32 (.tmp 4) rfl (w.heap.size + 1) rfl 32 pkz (0, 0) _ (HM3.out.get 1 rfl) Try.underlying32 rfl (by kernel_rfl) ?_)
      | (refine wpList_store_row rfl 32 (.tmp 2) (.tmp 34) rfl w.heap.size pkz rfl rfl 32 pkz (HM3.out.get 0 rfl) (by kernel_rfl) rfl pkz_one ?_))
    refine bodyPost_ret (v := .tuple #[.agg pkz, .int .i64 10]) (results_row1 Try.results7 _ _ w.heap.size 32 pkz (0, 0) _ rfl (setRow_heap _ w.heap.size _ pkz _ _ (HM3.out.get 0 rfl)) Try.underlying32 rfl (by kernel_rfl)) rfl ?_
    refine .inl ⟨?_, ?_, below_setRow HM3.out.below (Nat.le_refl _) _⟩
    · rw [hpk]
      first | exact hne | decide
    · rw [hpk] <;> rfl
  have hours : w2 f 12 = 2048 ∨ w2 f 12 = 34525 := by rw [← HTY.out]; exact of_decide_eq_true HOB.out.symm
  have HOR := Lib.hid hours
  obtain ⟨v, hv⟩ : ∃ v, v = pkV f := ⟨_, rfl⟩
  have hv' : (TY == 34525) = v := by
    rw [hv]
    unfold pkV
    rw [← HTY.out]
    by_cases q : TY = 34525 <;> simp [q]
  have HV := Lib.hid hv
  have hGB : Byt (pkG f) := fun k => HF.out _
  have HGB := Lib.hid hGB
  have HOT := Lib.hid (outer_any v A1 (n - 14) c1 (pkG f) hGB (by omega) HO3.out.cap HO3.out.cap_le u3 HO3.out.rd)
  clear hours hv hGB
  go_wp2_with fail
  go_at_call 20
  refine HOT.out.mono ?_
  rintro e u4 hq
  clear HOT x12 hv'
  rcases hq with ⟨hE, rfl, hb4⟩ | ⟨hE, I, ic, R, rc, rfl, hI, hR, hb4⟩
  · obtain ⟨E1, hE1⟩ : ∃ E, E = otE v (pkG f) (n - 14) := ⟨_, rfl⟩
    rw [← hE1] at hE ⊢
    have hne : E1 ≠ 0 := hE
    have hne' : (E1 != 0) = true := by simpa using hE
    have hpk : pkE f n = E1 := by rw [hE1, HV.out]; exact pkE_3 cL cS HOR.out (by rw [← HV.out, ← hE1]; exact hne)
    have HPKE := Lib.hid hpk
    clear hE1 hpk hE
    have HM4 := Lib.hid (HM3.out.step hb4)
    clear hb4 HM3 HO3
    have HN : Hid ((u4.alloc (.cells pkz 32)).heap[u4.heap.size]? = some (.cells pkz 32 (0, 0))) := heap_alloc_new u4 _
    go_upto_if 45 with (first
      | (refine wpList_store_row rfl 32 (.tmp 8) (.tmp 41) rfl u4.heap.size pkz rfl rfl 32 pkz HN.out (by kernel_rfl) rfl (pkz_one) ?_))
    change Code.wp _ _ _ _ ((u4.alloc (.cells pkz 32)).setRow u4.heap.size pkz)
    obtain ⟨q8, hq⟩ : ∃ q, q = u4.heap.size := ⟨_, rfl⟩
    have HM5 : Hid (Mem w ((u4.alloc (.cells pkz 32)).setRow q8 pkz) [(w.heap.size, .cells pkz 32 (0, 0)), (w.heap.size + 1, .cells pkz 32 (0, 0)), (q5, .cells (eth f (fun k => f (6 + k)) TY) 30 (0, 0)), (q8, .cells pkz 32 (0, 0))]) := Lib.hid (HM4.out.newrow pkz pkz 32 q8 hq)
    rw [← hq]
    clear hq HN HM4
    generalize (u4.alloc (.cells pkz 32)).setRow q8 pkz = u5 at *
    have hpk := HPKE.out
    go_wp2_with (first
      | (refine wpList_load_row rfl 32 (.tmp 4) rfl (w.heap.size + 1) rfl 32 pkz (0, 0) _ (HM5.out.get 1 rfl) Try.underlying32 rfl (by kernel_rfl) ?_)
      | (refine wpList_store_row rfl 32 (.tmp 2) (.tmp 46) rfl w.heap.size pkz rfl rfl 32 pkz (HM5.out.get 0 rfl) (by kernel_rfl) rfl pkz_one ?_))
    refine bodyPost_ret (v := .tuple #[.agg pkz, .int .i64 E1]) (results_row1 Try.results7 _ _ w.heap.size 32 pkz (0, 0) _ rfl (setRow_heap _ w.heap.size _ pkz _ _ (HM5.out.get 0 rfl)) Try.underlying32 rfl (by kernel_rfl)) rfl ?_
    refine .inl ⟨?_, ?_, below_setRow HM5.out.below (Nat.le_refl _) _⟩
    · rw [hpk]
      first | exact hne | decide
    · rw [hpk] <;> rfl
  have HOK := Lib.hid (ot_ok HGB.out hE)
  have hpk4 : pkE f n = prE v (otP v (pkG f)) (otS v (pkG f)) (otD v (pkG f)) (otF v (pkG f)) (otR v (pkG f)) := by
    have hE' := hE
    rw [HV.out] at hE' ⊢
    exact pkE_4 cL cS HOR.out hE'
  obtain ⟨P, hP⟩ : ∃ P, P = otP v (pkG f) := ⟨_, rfl⟩
  obtain ⟨S, hS⟩ : ∃ S, S = otS v (pkG f) := ⟨_, rfl⟩
  obtain ⟨D, hD⟩ : ∃ D, D = otD v (pkG f) := ⟨_, rfl⟩
  obtain ⟨RF, hRF⟩ : ∃ RF, RF = otF v (pkG f) := ⟨_, rfl⟩
  obtain ⟨NR, hNR⟩ : ∃ NR, NR = otR v (pkG f) := ⟨_, rfl⟩
  obtain ⟨NI, hNI⟩ : ∃ NI, NI = otI v (pkG f) := ⟨_, rfl⟩
  have HSB : Hid (Byt S) := Lib.hid (by rw [hS]; exact otS_byt v HGB.out)
  have HDB : Hid (Byt D) := Lib.hid (by rw [hD]; exact otD_byt v HGB.out)
  have HRB : Hid (Byt RF) := Lib.hid (by rw [hRF]; exact fun k => HGB.out _)
  have hNRb : NR ≤ n := by have := HOK.out; rw [hNR]; omega
  rw [← hP, ← hS, ← hD, ← hRF, ← hNR] at hpk4
  rw [← hNI] at hI
  rw [← hNR, ← hRF] at hR
  rw [← hP, ← hS, ← hD, ← hNI, ← hNR]
  have HPK := Lib.hid hpk4
  have HP := Lib.hid hP
  have HS := Lib.hid hS
  have HD := Lib.hid hD
  have HRF := Lib.hid hRF
  have HNR := Lib.hid hNR
  have HNI := Lib.hid hNI
  have hcr := hR.cap
  have hcr9 := hR.cap_le
  have hw3 : w.heap.size ≤ u3.heap.size := HM3.out.below.size
  have HP4 : Hid (PS w u4 [(w.heap.size, .cells pkz 32 (0, 0)), (w.heap.size + 1, .cells pkz 32 (0, 0)), (q5, .cells (eth f (fun k => f (6 + k)) TY) 30 (0, 0))] I NI ic (pkG f) R NR rc RF) := Lib.hid ⟨HM3.out.step hb4, hI.le hw3, hR.le hw3⟩
  clear hP hS hD hRF hNR hNI hpk4 hI hR hb4 HM3 HO3 hE hw3
  have HN : Hid ((u4.alloc (.cells pkz 32)).heap[u4.heap.size]? = some (.cells pkz 32 (0, 0))) := heap_alloc_new u4 _
  go_upto_region 10 with (first
    | (refine wpList_store_row rfl 32 (.tmp 8) (.tmp 41) rfl u4.heap.size (pkc (fun _ => 0) (fun _ => 0) 0 v P S D 0 0 0 false (.slice I NI ic)) rfl rfl 32 pkz HN.out (by kernel_rfl) rfl (pk_one ..) ?_))
  change Code.wp _ _ _ _ ((u4.alloc (.cells pkz 32)).setRow u4.heap.size (pkc (fun _ => 0) (fun _ => 0) 0 v P S D 0 0 0 false (.slice I NI ic)))
  obtain ⟨q8, hq⟩ : ∃ q, q = u4.heap.size := ⟨_, rfl⟩
  have HP5 : Hid (PS w ((u4.alloc (.cells pkz 32)).setRow q8 (pkc (fun _ => 0) (fun _ => 0) 0 v P S D 0 0 0 false (.slice I NI ic))) [(w.heap.size, .cells pkz 32 (0, 0)), (w.heap.size + 1, .cells pkz 32 (0, 0)), (q5, .cells (eth f (fun k => f (6 + k)) TY) 30 (0, 0)), (q8, .cells (pkc (fun _ => 0) (fun _ => 0) 0 v P S D 0 0 0 false (.slice I NI ic)) 32 (0, 0))] I NI ic (pkG f) R NR rc RF) := Lib.hid (HP4.out.newrow pkz (pkc (fun _ => 0) (fun _ => 0) 0 v P S D 0 0 0 false (.slice I NI ic)) 32 q8 hq)
  rw [← hq]
  clear hq HN HP4
  generalize (u4.alloc (.cells pkz 32)).setRow q8 (pkc (fun _ => 0) (fun _ => 0) 0 v P S D 0 0 0 false (.slice I NI ic)) = u5 at *
  go_upto_region 11 with (first
    | (refine wpList_load_row rfl 30 (.tmp 5) rfl q5 rfl 30 (eth f (fun k => f (6 + k)) TY) (0, 0) _ (HP5.out.mem.get 2 rfl) Try.underlying30 rfl (by kernel_rfl) ?_)
    | (refine wpList_store_mid rfl 30 (.tmp 49) (.tmp 48) rfl q8 0 (eth f (fun k => f (6 + k)) TY) rfl rfl (blk_there (HP5.out.mem.get 3 rfl) (by show 0 + 13 ≤ 52; omega)) (by kernel_rfl) (eth_one ..) ?_))
  have HP6 : Hid (PS w (u5.setCells q8 0 ((eth f (fun k => f (6 + k)) TY)).toList) [(w.heap.size, .cells pkz 32 (0, 0)), (w.heap.size + 1, .cells pkz 32 (0, 0)), (q5, .cells (eth f (fun k => f (6 + k)) TY) 30 (0, 0)), (q8, .cells (pkc f (fun k => f (6 + k)) TY v P S D 0 0 0 false (.slice I NI ic)) 32 (0, 0))] I NI ic (pkG f) R NR rc RF) := Lib.hid (by
    have h := HP5.out.cells 3 rfl (by decide) 0 ((eth f (fun k => f (6 + k)) TY)).toList
    rw [pk_eth] at h
    exact h)
  clear HP5
  generalize u5.setCells q8 0 ((eth f (fun k => f (6 + k)) TY)).toList = u6 at *
  have HXR : Hid (u6.rangeAt q8 13 (tupc v P S D 0 0).toList) := Lib.hid (by
    have h := HP6.out.mem.get 3 rfl
    rw [← pkA_is] at h
    exact app_range _ _ _ rfl h)
  have HN : Hid ((u6.alloc (.cells tupz 26)).heap[u6.heap.size]? = some (.cells tupz 26 (0, 0))) := heap_alloc_new u6 _
  go_upto_region 13 with (first
    | (refine wpList_load_mid rfl 26 (.tmp 50) rfl q8 13 rfl (tupc v P S D 0 0).toList _ HXR.out Try.underlying26 rfl (by kernel_rfl) ?_)
    | (refine wpList_store_row rfl 26 (.tmp 10) (.tmp 51) rfl u6.heap.size (tupc v P S D 0 0) rfl rfl 26 tupz HN.out (by kernel_rfl) rfl (tup_one ..) ?_))
  change Code.wp _ _ _ _ ((u6.alloc (.cells tupz 26)).setRow u6.heap.size (tupc v P S D 0 0))
  obtain ⟨q10, hq⟩ : ∃ q, q = u6.heap.size := ⟨_, rfl⟩
  have HP7 : Hid (PS w ((u6.alloc (.cells tupz 26)).setRow q10 (tupc v P S D 0 0)) [(w.heap.size, .cells pkz 32 (0, 0)), (w.heap.size + 1, .cells pkz 32 (0, 0)), (q5, .cells (eth f (fun k => f (6 + k)) TY) 30 (0, 0)), (q8, .cells (pkc f (fun k => f (6 + k)) TY v P S D 0 0 0 false (.slice I NI ic)) 32 (0, 0)), (q10, .cells (tupc v P S D 0 0) 26 (0, 0))] I NI ic (pkG f) R NR rc RF) := Lib.hid (HP6.out.newrow tupz (tupc v P S D 0 0) 26 q10 hq)
  rw [← hq]
  clear hq HN HP6 HXR
  generalize (u6.alloc (.cells tupz 26)).setRow q10 (tupc v P S D 0 0) = u7 at *
  have x1 : u7.cell? ⟨q10, 1, none⟩ = some (.int .u8 P) := blk_cell (HP7.out.mem.get 4 rfl) 1
  by_cases hP6 : P = 6
  · have k6 : (P == 6) = true := by simp [hP6]
    have HP6e := Lib.hid hP6
    clear hP6
    go_upto_region 14 with fail
    clear x1
    have HTC := Lib.hid (rreadT_any v S D HSB.out HDB.out R NR rc RF HRB.out (by omega) hcr hcr9 u7 HP7.out.or_.rd)
    have x0 : u7.cell? ⟨q10, 0, none⟩ = some (.bool v) := blk_cell (HP7.out.mem.get 4 rfl) 0
    go_wp2_with (first
        | (refine wpList_load_mid rfl 23 (.tmp 60) rfl q10 2 rfl (arr16 S).toList _ (blk_range (HP7.out.mem.get 4 rfl) (fun k hk => tup_srcs _ _ _ _ _ _ k hk)) Try.underlying23 rfl (by kernel_rfl) ?_)
        | (refine wpList_load_mid rfl 23 (.tmp 62) rfl q10 18 rfl (arr16 D).toList _ (blk_range (HP7.out.mem.get 4 rfl) (fun k hk => tup_dsts _ _ _ _ _ _ k hk)) Try.underlying23 rfl (by kernel_rfl) ?_))
    go_at_call 21
    refine HTC.out.mono ?_
    rintro e u8 hq
    clear HTC x0
    obtain ⟨E6, hE6⟩ : ∃ E, E = tcpE (psq v S D 6 NR) RF NR := ⟨_, rfl⟩
    rw [← hE6] at hq
    have HE6 := Lib.hid hE6
    clear hE6
    rcases hq with ⟨hE, rfl, hb⟩ | ⟨hE, O, co, P2, cp2, rfl, _, _, hb⟩
    · have hne : E6 ≠ 0 := hE
      have hne' : (E6 != 0) = true := by simpa using hE
      have HP8 := Lib.hid (HP7.out.step hb)
      have HN : Hid ((u8.alloc (.cells tcpz 61)).heap[u8.heap.size]? = some (.cells tcpz 61 (0, 0))) := heap_alloc_new u8 _
      go_upto_if 70 with (first
        | (refine wpList_store_row rfl 61 (.tmp 11) (.tmp 66) rfl u8.heap.size tcpz rfl rfl 61 tcpz HN.out (by kernel_rfl) rfl (tcpz_one) ?_))
      change Code.wp _ _ _ _ ((u8.alloc (.cells tcpz 61)).setRow u8.heap.size tcpz)
      obtain ⟨q11, hq⟩ : ∃ q, q = u8.heap.size := ⟨_, rfl⟩
      have HP9 : Hid (PS w ((u8.alloc (.cells tcpz 61)).setRow q11 tcpz) [(w.heap.size, .cells pkz 32 (0, 0)), (w.heap.size + 1, .cells pkz 32 (0, 0)), (q5, .cells (eth f (fun k => f (6 + k)) TY) 30 (0, 0)), (q8, .cells (pkc f (fun k => f (6 + k)) TY v P S D 0 0 0 false (.slice I NI ic)) 32 (0, 0)), (q10, .cells (tupc v P S D 0 0) 26 (0, 0)), (q11, .cells tcpz 61 (0, 0))] I NI ic (pkG f) R NR rc RF) := Lib.hid (HP8.out.newrow tcpz tcpz 61 q11 hq)
      rw [← hq]
      clear hq HN HP8 HP7 hb
      generalize (u8.alloc (.cells tcpz 61)).setRow q11 tcpz = u9 at *
      have hpr : prE v P S D RF NR = E6 := by rw [HE6.out]; unfold prE; rw [if_pos HP6e.out, if_pos (by rw [← HE6.out]; exact hne)]
      have hpk : pkE f n = E6 := HPK.out.trans hpr
      go_wp2_with (first
        | (refine wpList_load_row rfl 32 (.tmp 4) rfl (w.heap.size + 1) rfl 32 pkz (0, 0) _ (HP9.out.mem.get 1 rfl) Try.underlying32 rfl (by kernel_rfl) ?_)
        | (refine wpList_store_row rfl 32 (.tmp 2) (.tmp 71) rfl w.heap.size pkz rfl rfl 32 pkz (HP9.out.mem.get 0 rfl) (by kernel_rfl) rfl pkz_one ?_))
      refine bodyPost_ret (v := .tuple #[.agg pkz, .int .i64 E6]) (results_row1 Try.results7 _ _ w.heap.size 32 pkz (0, 0) _ rfl (setRow_heap _ w.heap.size _ pkz _ _ (HP9.out.mem.get 0 rfl)) Try.underlying32 rfl (by kernel_rfl)) rfl ?_
      refine .inl ⟨?_, ?_, below_setRow HP9.out.mem.below (Nat.le_refl _) _⟩
      · rw [hpk]
        first | exact hne | decide
      · rw [hpk] <;> rfl
    · have HP8 := Lib.hid (HP7.out.step hb)
      have HN : Hid ((u8.alloc (.cells tcpz 61)).heap[u8.heap.size]? = some (.cells tcpz 61 (0, 0))) := heap_alloc_new u8 _
      go_upto_region 17 with (first
        | (refine wpList_store_row rfl 61 (.tmp 11) (.tmp 66) rfl u8.heap.size (tcpc (w2 RF 0) (w2 RF 2) (w4 RF 4) (w4 RF 8) (RF 12 % 16) (RF 13) (w2 RF 14) (w2 RF 18) (.slice O (tcpO RF) co)) rfl rfl 61 tcpz HN.out (by kernel_rfl) rfl (tcp_one ..) ?_))
      change Code.wp _ _ _ _ ((u8.alloc (.cells tcpz 61)).setRow u8.heap.size (tcpc (w2 RF 0) (w2 RF 2) (w4 RF 4) (w4 RF 8) (RF 12 % 16) (RF 13) (w2 RF 14) (w2 RF 18) (.slice O (tcpO RF) co)))
      obtain ⟨q11, hq⟩ : ∃ q, q = u8.heap.size := ⟨_, rfl⟩
      have HP9 : Hid (PS w ((u8.alloc (.cells tcpz 61)).setRow q11 (tcpc (w2 RF 0) (w2 RF 2) (w4 RF 4) (w4 RF 8) (RF 12 % 16) (RF 13) (w2 RF 14) (w2 RF 18) (.slice O (tcpO RF) co))) [(w.heap.size, .cells pkz 32 (0, 0)), (w.heap.size + 1, .cells pkz 32 (0, 0)), (q5, .cells (eth f (fun k => f (6 + k)) TY) 30 (0, 0)), (q8, .cells (pkc f (fun k => f (6 + k)) TY v P S D 0 0 0 false (.slice I NI ic)) 32 (0, 0)), (q10, .cells (tupc v P S D 0 0) 26 (0, 0)), (q11, .cells (tcpc (w2 RF 0) (w2 RF 2) (w4 RF 4) (w4 RF 8) (RF 12 % 16) (RF 13) (w2 RF 14) (w2 RF 18) (.slice O (tcpO RF) co)) 61 (0, 0))] I NI ic (pkG f) R NR rc RF) := Lib.hid (HP8.out.newrow tcpz (tcpc (w2 RF 0) (w2 RF 2) (w4 RF 4) (w4 RF 8) (RF 12 % 16) (RF 13) (w2 RF 14) (w2 RF 18) (.slice O (tcpO RF) co)) 61 q11 hq)
      rw [← hq]
      clear hq HN HP8 HP7 hb
      generalize (u8.alloc (.cells tcpz 61)).setRow q11 (tcpc (w2 RF 0) (w2 RF 2) (w4 RF 4) (w4 RF 8) (RF 12 % 16) (RF 13) (w2 RF 14) (w2 RF 18) (.slice O (tcpO RF) co)) = u9 at *
      have x5 : u9.cell? ⟨q11, 5, none⟩ = some (.int .u8 (RF 13)) := blk_cell (HP9.out.mem.get 5 rfl) 5
      have HMY := Lib.hid (rmay_any (RF 13) (HRB.out 13) u9)
      obtain ⟨mb, hmb⟩ : ∃ mb, mb = mayF (RF 13) := ⟨_, rfl⟩
      rw [← hmb] at HMY
      have HMB := Lib.hid hmb
      clear hmb
      have hE6' : tcpE (psq v S D 6 NR) RF NR = 0 := by rw [← HE6.out]; exact hE
      have HE60 := Lib.hid hE6'
      clear hE6'
      go_upto_if 76 with (first
        | (go_at_call 10; refine HMY.out.mono ?_; rintro e w' ⟨rfl, rfl⟩))
      clear HMY
      cases mb
      · clear x5
        have hpr : prE v P S D RF NR = 5 := by unfold prE; rw [if_pos HP6e.out, if_neg (by rw [HE60.out]; exact fun q => q rfl), if_pos HMB.out.symm]
        have hpk : pkE f n = 5 := HPK.out.trans hpr
        go_wp2_with (first
          | (refine wpList_load_row rfl 32 (.tmp 4) rfl (w.heap.size + 1) rfl 32 pkz (0, 0) _ (HP9.out.mem.get 1 rfl) Try.underlying32 rfl (by kernel_rfl) ?_)
          | (refine wpList_store_row rfl 32 (.tmp 2) (.tmp 77) rfl w.heap.size pkz rfl rfl 32 pkz (HP9.out.mem.get 0 rfl) (by kernel_rfl) rfl pkz_one ?_))
        refine bodyPost_ret (v := .tuple #[.agg pkz, .int .i64 5]) (results_row1 Try.results7 _ _ w.heap.size 32 pkz (0, 0) _ rfl (setRow_heap _ w.heap.size _ pkz _ _ (HP9.out.mem.get 0 rfl)) Try.underlying32 rfl (by kernel_rfl)) rfl ?_
        refine .inl ⟨?_, ?_, below_setRow HP9.out.mem.below (Nat.le_refl _) _⟩
        · rw [hpk]
          first | exact hne | decide
        · rw [hpk] <;> rfl
      · have hpr : prE v P S D RF NR = 0 := by unfold prE; rw [if_pos HP6e.out, if_neg (by rw [HE60.out]; exact fun q => q rfl), if_neg (by rw [← HMB.out]; decide)]
        have x0 : u9.cell? ⟨q11, 0, none⟩ = some (.int .u16 (w2 RF 0)) := blk_cell (HP9.out.mem.get 5 rfl) 0
        have x47 : u9.cell? ⟨q8, 47, none⟩ = some (.int .u16 0) := blk_cell (HP9.out.mem.get 3 rfl) 47
        have y47 := blk_free (HP9.out.mem.get 3 rfl) 47
        go_upto_region 20 with fail
        have HPA := Lib.hid (HP9.out.set 3 rfl (by decide) 47 (.int .u16 (w2 RF 0)))
        rw [pk_sport] at HPA
        clear x0 x5 x47 y47 HP9
        generalize u9.setCell ⟨q8, 47, none⟩ (.int .u16 (w2 RF 0)) = uA at *
        have x1 : uA.cell? ⟨q11, 1, none⟩ = some (.int .u16 (w2 RF 2)) := blk_cell (HPA.out.mem.get 5 rfl) 1
        have x48 : uA.cell? ⟨q8, 48, none⟩ = some (.int .u16 0) := blk_cell (HPA.out.mem.get 3 rfl) 48
        have y48 := blk_free (HPA.out.mem.get 3 rfl) 48
        go_upto_region 21 with fail
        have HPB := Lib.hid (HPA.out.set 3 rfl (by decide) 48 (.int .u16 (w2 RF 2)))
        rw [pk_dport] at HPB
        clear x1 x48 y48 HPA
        generalize uA.setCell ⟨q8, 48, none⟩ (.int .u16 (w2 RF 2)) = uB at *
        have x5 : uB.cell? ⟨q11, 5, none⟩ = some (.int .u8 (RF 13)) := blk_cell (HPB.out.mem.get 5 rfl) 5
        have x49 : uB.cell? ⟨q8, 49, none⟩ = some (.int .u8 0) := blk_cell (HPB.out.mem.get 3 rfl) 49
        have y49 := blk_free (HPB.out.mem.get 3 rfl) 49
        go_upto_region 36 with fail
        have HPC := Lib.hid (HPB.out.set 3 rfl (by decide) 49 (.int .u8 (RF 13)))
        rw [pk_flags] at HPC
        clear x5 x49 y49 HPB
        generalize uB.setCell ⟨q8, 49, none⟩ (.int .u8 (RF 13)) = uC at *
        have HSC := Lib.hid (show (pkc f (fun k => f (6 + k)) TY v P S D (w2 RF 0) (w2 RF 2) (RF 13) false (.slice I NI ic)).size = 52 from rfl)
        go_wp2_with (first
          | (refine wpList_load_row rfl 32 (.tmp 8) rfl q8 rfl 32 (pkc f (fun k => f (6 + k)) TY v P S D (w2 RF 0) (w2 RF 2) (RF 13) false (.slice I NI ic)) (0, 0) _ (HPC.out.mem.get 3 rfl) Try.underlying32 rfl (by kernel_rfl) ?_)
          | (refine wpList_store_row rfl 32 (.tmp 2) (.tmp 161) rfl w.heap.size (pkc f (fun k => f (6 + k)) TY v P S D (w2 RF 0) (w2 RF 2) (RF 13) false (.slice I NI ic)) rfl rfl 32 pkz (HPC.out.mem.get 0 rfl) (by kernel_rfl) rfl (pk_one ..) ?_))
        refine bodyPost_ret (v := .tuple #[.agg (pkc f (fun k => f (6 + k)) TY v P S D (w2 RF 0) (w2 RF 2) (RF 13) false (.slice I NI ic)), .int .i64 0]) (results_row1 Try.results7 _ _ w.heap.size 32 (pkc f (fun k => f (6 + k)) TY v P S D (w2 RF 0) (w2 RF 2) (RF 13) false (.slice I NI ic)) (0, 0) _ rfl (setRow_heap _ w.heap.size _ (pkc f (fun k => f (6 + k)) TY v P S D (w2 RF 0) (w2 RF 2) (RF 13) false (.slice I NI ic)) _ _ (HPC.out.mem.get 0 rfl)) Try.underlying32 rfl (by kernel_rfl)) rfl ?_
        refine .inr ⟨?_, I, ic, ?_, ?_, below_setRow HPC.out.mem.below (Nat.le_refl _) _⟩
        · rw [HPK.out]
          exact hpr
        · rw [← HTY.out, ← HV.out, ← HP.out, ← HS.out, ← HD.out, ← HRF.out, ← HNR.out, ← HNI.out, show pkT v P S D RF NR = tupc v P S D (w2 RF 0) (w2 RF 2) by unfold pkT; rw [if_pos (.inl HP6e.out)], show pkL P RF = RF 13 by unfold pkL; rw [if_pos HP6e.out], show pkR P = false by unfold pkR; simp [HP6e.out], pkA_is] <;> rfl
        · rw [← HV.out, ← HNI.out]
          exact HPC.out.oi.other (HPC.out.mem.get 0 rfl) (by decide) (fun j hj => setRow_other _ w.heap.size j _ hj)
  have k6 : (P == 6) = false := by simp [hP6]
  by_cases hP17 : P = 17
  · have k17 : (P == 17) = true := by simp [hP17]
    have HP17e := Lib.hid hP17
    clear hP17
    go_upto_region 23 with fail
    clear x1
    have HTC := Lib.hid (rreadU_any v S D HSB.out HDB.out R NR rc RF HRB.out (by omega) hcr hcr9 u7 HP7.out.or_.rd)
    have x0 : u7.cell? ⟨q10, 0, none⟩ = some (.bool v) := blk_cell (HP7.out.mem.get 4 rfl) 0
    go_wp2_with (first
        | (refine wpList_load_mid rfl 23 (.tmp 96) rfl q10 2 rfl (arr16 S).toList _ (blk_range (HP7.out.mem.get 4 rfl) (fun k hk => tup_srcs _ _ _ _ _ _ k hk)) Try.underlying23 rfl (by kernel_rfl) ?_)
        | (refine wpList_load_mid rfl 23 (.tmp 98) rfl q10 18 rfl (arr16 D).toList _ (blk_range (HP7.out.mem.get 4 rfl) (fun k hk => tup_dsts _ _ _ _ _ _ k hk)) Try.underlying23 rfl (by kernel_rfl) ?_))
    go_at_call 22
    refine HTC.out.mono ?_
    rintro e u8 hq
    clear HTC x0
    obtain ⟨E6, hE6⟩ : ∃ E, E = udpE v (psq v S D 17 NR) RF NR := ⟨_, rfl⟩
    rw [← hE6] at hq
    have HE6 := Lib.hid hE6
    clear hE6
    rcases hq with ⟨hE, rfl, hb⟩ | ⟨hE, P2, cp2, rfl, _, hb⟩
    · have hne : E6 ≠ 0 := hE
      have hne' : (E6 != 0) = true := by simpa using hE
      have HP8 := Lib.hid (HP7.out.step hb)
      have HN : Hid ((u8.alloc (.cells udpz 65)).heap[u8.heap.size]? = some (.cells udpz 65 (0, 0))) := heap_alloc_new u8 _
      go_upto_if 106 with (first
        | (refine wpList_store_row rfl 65 (.tmp 14) (.tmp 102) rfl u8.heap.size udpz rfl rfl 65 udpz HN.out (by kernel_rfl) rfl (udpz_one) ?_))
      change Code.wp _ _ _ _ ((u8.alloc (.cells udpz 65)).setRow u8.heap.size udpz)
      obtain ⟨q11, hq⟩ : ∃ q, q = u8.heap.size := ⟨_, rfl⟩
      have HP9 : Hid (PS w ((u8.alloc (.cells udpz 65)).setRow q11 udpz) [(w.heap.size, .cells pkz 32 (0, 0)), (w.heap.size + 1, .cells pkz 32 (0, 0)), (q5, .cells (eth f (fun k => f (6 + k)) TY) 30 (0, 0)), (q8, .cells (pkc f (fun k => f (6 + k)) TY v P S D 0 0 0 false (.slice I NI ic)) 32 (0, 0)), (q10, .cells (tupc v P S D 0 0) 26 (0, 0)), (q11, .cells udpz 65 (0, 0))] I NI ic (pkG f) R NR rc RF) := Lib.hid (HP8.out.newrow udpz udpz 65 q11 hq)
      rw [← hq]
      clear hq HN HP8 HP7 hb
      generalize (u8.alloc (.cells udpz 65)).setRow q11 udpz = u9 at *
      have hpr : prE v P S D RF NR = E6 := by rw [HE6.out]; unfold prE; rw [if_neg hP6, if_pos HP17e.out]
      have hpk : pkE f n = E6 := HPK.out.trans hpr
      go_wp2_with (first
        | (refine wpList_load_row rfl 32 (.tmp 4) rfl (w.heap.size + 1) rfl 32 pkz (0, 0) _ (HP9.out.mem.get 1 rfl) Try.underlying32 rfl (by kernel_rfl) ?_)
        | (refine wpList_store_row rfl 32 (.tmp 2) (.tmp 107) rfl w.heap.size pkz rfl rfl 32 pkz (HP9.out.mem.get 0 rfl) (by kernel_rfl) rfl pkz_one ?_))
      refine bodyPost_ret (v := .tuple #[.agg pkz, .int .i64 E6]) (results_row1 Try.results7 _ _ w.heap.size 32 pkz (0, 0) _ rfl (setRow_heap _ w.heap.size _ pkz _ _ (HP9.out.mem.get 0 rfl)) Try.underlying32 rfl (by kernel_rfl)) rfl ?_
      refine .inl ⟨?_, ?_, below_setRow HP9.out.mem.below (Nat.le_refl _) _⟩
      · rw [hpk]
        first | exact hne | decide
      · rw [hpk] <;> rfl
    · have HP8 := Lib.hid (HP7.out.step hb)
      have HN : Hid ((u8.alloc (.cells udpz 65)).heap[u8.heap.size]? = some (.cells udpz 65 (0, 0))) := heap_alloc_new u8 _
      go_upto_region 26 with (first
        | (refine wpList_store_row rfl 65 (.tmp 14) (.tmp 102) rfl u8.heap.size (udpc (w2 RF 0) (w2 RF 2) (decide (w2 RF 6 = 0))) rfl rfl 65 udpz HN.out (by kernel_rfl) rfl (udp_one ..) ?_))
      change Code.wp _ _ _ _ ((u8.alloc (.cells udpz 65)).setRow u8.heap.size (udpc (w2 RF 0) (w2 RF 2) (decide (w2 RF 6 = 0))))
      obtain ⟨q11, hq⟩ : ∃ q, q = u8.heap.size := ⟨_, rfl⟩
      have HP9 : Hid (PS w ((u8.alloc (.cells udpz 65)).setRow q11 (udpc (w2 RF 0) (w2 RF 2) (decide (w2 RF 6 = 0)))) [(w.heap.size, .cells pkz 32 (0, 0)), (w.heap.size + 1, .cells pkz 32 (0, 0)), (q5, .cells (eth f (fun k => f (6 + k)) TY) 30 (0, 0)), (q8, .cells (pkc f (fun k => f (6 + k)) TY v P S D 0 0 0 false (.slice I NI ic)) 32 (0, 0)), (q10, .cells (tupc v P S D 0 0) 26 (0, 0)), (q11, .cells (udpc (w2 RF 0) (w2 RF 2) (decide (w2 RF 6 = 0))) 65 (0, 0))] I NI ic (pkG f) R NR rc RF) := Lib.hid (HP8.out.newrow udpz (udpc (w2 RF 0) (w2 RF 2) (decide (w2 RF 6 = 0))) 65 q11 hq)
      rw [← hq]
      clear hq HN HP8 HP7 hb
      generalize (u8.alloc (.cells udpz 65)).setRow q11 (udpc (w2 RF 0) (w2 RF 2) (decide (w2 RF 6 = 0))) = u9 at *
      have hpr : prE v P S D RF NR = 0 := by unfold prE; rw [if_neg hP6, if_pos HP17e.out, ← HE6.out]; exact hE
      have x0 : u9.cell? ⟨q11, 0, none⟩ = some (.int .u16 (w2 RF 0)) := blk_cell (HP9.out.mem.get 5 rfl) 0
      have x47 : u9.cell? ⟨q8, 47, none⟩ = some (.int .u16 0) := blk_cell (HP9.out.mem.get 3 rfl) 47
      have y47 := blk_free (HP9.out.mem.get 3 rfl) 47
      go_upto_region 27 with fail
      have HPA := Lib.hid (HP9.out.set 3 rfl (by decide) 47 (.int .u16 (w2 RF 0)))
      rw [pk_sport] at HPA
      clear x0 x47 y47 HP9
      generalize u9.setCell ⟨q8, 47, none⟩ (.int .u16 (w2 RF 0)) = uA at *
      have x1 : uA.cell? ⟨q11, 1, none⟩ = some (.int .u16 (w2 RF 2)) := blk_cell (HPA.out.mem.get 5 rfl) 1
      have x48 : uA.cell? ⟨q8, 48, none⟩ = some (.int .u16 0) := blk_cell (HPA.out.mem.get 3 rfl) 48
      have y48 := blk_free (HPA.out.mem.get 3 rfl) 48
      go_upto_region 36 with fail
      have HPC := Lib.hid (HPA.out.set 3 rfl (by decide) 48 (.int .u16 (w2 RF 2)))
      rw [pk_dport] at HPC
      clear x1 x48 y48 HPA
      generalize uA.setCell ⟨q8, 48, none⟩ (.int .u16 (w2 RF 2)) = uC at *
      have HSC := Lib.hid (show (pkc f (fun k => f (6 + k)) TY v P S D (w2 RF 0) (w2 RF 2) 0 false (.slice I NI ic)).size = 52 from rfl)
      go_wp2_with (first
        | (refine wpList_load_row rfl 32 (.tmp 8) rfl q8 rfl 32 (pkc f (fun k => f (6 + k)) TY v P S D (w2 RF 0) (w2 RF 2) 0 false (.slice I NI ic)) (0, 0) _ (HPC.out.mem.get 3 rfl) Try.underlying32 rfl (by kernel_rfl) ?_)
        | (refine wpList_store_row rfl 32 (.tmp 2) (.tmp 161) rfl w.heap.size (pkc f (fun k => f (6 + k)) TY v P S D (w2 RF 0) (w2 RF 2) 0 false (.slice I NI ic)) rfl rfl 32 pkz (HPC.out.mem.get 0 rfl) (by kernel_rfl) rfl (pk_one ..) ?_))
      refine bodyPost_ret (v := .tuple #[.agg (pkc f (fun k => f (6 + k)) TY v P S D (w2 RF 0) (w2 RF 2) 0 false (.slice I NI ic)), .int .i64 0]) (results_row1 Try.results7 _ _ w.heap.size 32 (pkc f (fun k => f (6 + k)) TY v P S D (w2 RF 0) (w2 RF 2) 0 false (.slice I NI ic)) (0, 0) _ rfl (setRow_heap _ w.heap.size _ (pkc f (fun k => f (6 + k)) TY v P S D (w2 RF 0) (w2 RF 2) 0 false (.slice I NI ic)) _ _ (HPC.out.mem.get 0 rfl)) Try.underlying32 rfl (by kernel_rfl)) rfl ?_
      refine .inr ⟨?_, I, ic, ?_, ?_, below_setRow HPC.out.mem.below (Nat.le_refl _) _⟩
      · rw [HPK.out]
        exact hpr
      · rw [← HTY.out, ← HV.out, ← HP.out, ← HS.out, ← HD.out, ← HRF.out, ← HNR.out, ← HNI.out, show pkT v P S D RF NR = tupc v P S D (w2 RF 0) (w2 RF 2) by unfold pkT; rw [if_pos (.inr HP17e.out)], show pkL P RF = 0 by unfold pkL; rw [if_neg hP6], show pkR P = false by unfold pkR; simp [HP17e.out], pkA_is] <;> rfl
      · rw [← HV.out, ← HNI.out]
        exact HPC.out.oi.other (HPC.out.mem.get 0 rfl) (by decide) (fun j hj => setRow_other _ w.heap.size j _ hj)
  have x0 : u7.cell? ⟨q10, 0, none⟩ = some (.bool v) := blk_cell (HP7.out.mem.get 4 rfl) 0
  have k17 : (P == 17) = false := by simp [hP17]
  cases v
  · skip
    by_cases hPI : P = 1
    · have kI : (P == 1) = true := by simp [hPI]
      have hic : icP false P = true := by rw [hPI]; rfl
      have HIC0 := Lib.hid hic
      clear hPI hic
      go_upto_region 29 with fail
      clear x1
      have HIC := Lib.hid (riread_any false S D HSB.out HDB.out R NR rc RF HRB.out (by omega) hcr hcr9 u7 HP7.out.or_.rd)
      obtain ⟨SM, hSM⟩ : ∃ SM, SM = mS false S D NR := ⟨_, rfl⟩
      rw [← hSM] at HIC
      have HSM := Lib.hid hSM
      clear hSM
      unfold RdOut at HIC
      obtain ⟨CR, hCR⟩ : ∃ CR, CR = rT false SM RF NR := ⟨_, rfl⟩
      obtain ⟨EI, hEI⟩ : ∃ EI, EI = icE false SM RF NR := ⟨_, rfl⟩
      rw [← hCR, ← hEI] at HIC
      have HCR := Lib.hid hCR
      have HEI := Lib.hid hEI
      have HSZ : Hid (CR.size = 38) := Lib.hid (by rw [hCR]; exact rT_size ..)
      have HON : Hid (CR.all (·.oneCell') = true) := Lib.hid (by rw [hCR]; exact rT_one ..)
      have HI38 := Lib.hid (show (Try.prog.info? 69).map (·.size) = some 38 by kernel_rfl)
      clear hCR hEI
      have x0 : u7.cell? ⟨q10, 0, none⟩ = some (.bool false) := blk_cell (HP7.out.mem.get 4 rfl) 0
      go_wp2_with (first
        | (refine wpList_load_mid rfl 23 (.tmp 138) rfl q10 2 rfl (arr16 S).toList _ (blk_range (HP7.out.mem.get 4 rfl) (fun k hk => tup_srcs _ _ _ _ _ _ k hk)) Try.underlying23 rfl (by kernel_rfl) ?_)
        | (refine wpList_load_mid rfl 23 (.tmp 140) rfl q10 18 rfl (arr16 D).toList _ (blk_range (HP7.out.mem.get 4 rfl) (fun k hk => tup_dsts _ _ _ _ _ _ k hk)) Try.underlying23 rfl (by kernel_rfl) ?_))
      go_at_call 23
      refine HIC.out.mono ?_
      rintro e u8 ⟨rfl, hb⟩
      clear HIC x0
      have HP8 := Lib.hid (HP7.out.step hb)
      have HN : Hid ((u8.alloc (.cells repz 69)).heap[u8.heap.size]? = some (.cells repz 69 (0, 0))) := heap_alloc_new u8 _
      go_upto_if 147 with (first
        | (refine wpList_store_row rfl 69 (.tmp 17) (.tmp 144) rfl u8.heap.size CR rfl rfl 69 repz HN.out (HI38.out.trans (by rw [HSZ.out])) (by rw [HSZ.out]; rfl) HON.out ?_))
      change Code.wp _ _ _ _ ((u8.alloc (.cells repz 69)).setRow u8.heap.size CR)
      obtain ⟨q11, hq⟩ : ∃ q, q = u8.heap.size := ⟨_, rfl⟩
      have HP9 : Hid (PS w ((u8.alloc (.cells repz 69)).setRow q11 CR) [(w.heap.size, .cells pkz 32 (0, 0)), (w.heap.size + 1, .cells pkz 32 (0, 0)), (q5, .cells (eth f (fun k => f (6 + k)) TY) 30 (0, 0)), (q8, .cells (pkc f (fun k => f (6 + k)) TY false P S D 0 0 0 false (.slice I NI ic)) 32 (0, 0)), (q10, .cells (tupc false P S D 0 0) 26 (0, 0)), (q11, .cells CR 69 (0, 0))] I NI ic (pkG f) R NR rc RF) := Lib.hid (HP8.out.newrow repz CR 69 q11 hq)
      rw [← hq]
      clear hq HN HP8 HP7 hb
      generalize (u8.alloc (.cells repz 69)).setRow q11 CR = u9 at *
      by_cases hE0 : EI = 0
      · obtain ⟨hn8, hw0⟩ := icE_ok (HEI.out.symm.trans hE0)
        obtain ⟨aw, Pw, hww, _, _, _⟩ := winE_ok hw0
        have hcr2 : CR = repT (RF 0) (RF 1) (wT false (fun k => RF (8 + k)) (NR - 8)) := HCR.out.trans (rT_ok (HEI.out.symm.trans hE0))
        have hpt : pkT false P S D RF NR = wT false (fun k => RF (8 + k)) (NR - 8) := by
          unfold pkT
          rw [if_neg (fun q => by rcases q with q | q; exact hP6 q; exact hP17 q)]
        rw [wT_ok hw0 hww] at hcr2 hpt
        obtain ⟨WS, hWS⟩ : ∃ WS, WS = winS false (fun k => RF (8 + k)) := ⟨_, rfl⟩
        obtain ⟨WD, hWD⟩ : ∃ WD, WD = winD false (fun k => RF (8 + k)) := ⟨_, rfl⟩
        obtain ⟨pA, hpA⟩ : ∃ p, p = w2 (fun k => RF (8 + k)) (aw + 2) := ⟨_, rfl⟩
        obtain ⟨pB, hpB⟩ : ∃ p, p = w2 (fun k => RF (8 + k)) aw := ⟨_, rfl⟩
        rw [← hWS, ← hWD, ← hpA, ← hpB] at hcr2 hpt
        subst hcr2
        have HPT := Lib.hid hpt
        have hpr2 : prE false P S D RF NR = if eqs WD D 0 16 = false then 5 else 0 := by
          unfold prE
          rw [if_neg hP6, if_neg hP17, if_pos HIC0.out, ← HSM.out, if_neg (by rw [← HEI.out, hE0]; exact fun q => q rfl), hWD]
        have HPR2 := Lib.hid hpr2
        have hE0' : (EI != 0) = false := by simp [hE0]
        have heq : ∀ W, (Op.equalIn 10000 23 (.agg (arr16 WD)) (.agg (arr16 D))).run Try.prog W = .ok (eqs WD D 0 16) W := fun W => equal16 23 5 Try.underlying23 Try.underlying5 (by kernel_rfl) WD D W
        obtain ⟨eb, heb⟩ : ∃ eb, eb = eqs WD D 0 16 := ⟨_, rfl⟩
        rw [← heb] at heq hpr2
        clear HPR2
        have HPR2 := Lib.hid hpr2
        clear hpt hw0 hww hn8 hWS hWD hpA hpB hE0 hpr2 heb HCR HSZ HON HI38
        go_upto_if 155 with (first
          | (refine wpList_load_a16 rfl 23 (.tmp 151) rfl q11 20 rfl WD (blk_range (HP9.out.mem.get 5 rfl) (fun k hk => rep_dsts _ _ _ _ _ _ _ _ k hk)) Try.underlying23 rfl (by kernel_rfl) ?_)
          | (refine wpList_load_a16 rfl 23 (.tmp 153) rfl q10 18 rfl D (blk_range (HP9.out.mem.get 4 rfl) (fun k hk => tup_dsts _ _ _ _ _ _ k hk)) Try.underlying23 rfl (by kernel_rfl) ?_))
        clear heq
        cases eb
        · have hpr : prE false P S D RF NR = 5 := HPR2.out.trans (by rw [if_pos rfl])
          have hpk : pkE f n = 5 := HPK.out.trans hpr
          have hne : (5 : Int) ≠ 0 := by decide
          go_wp2_with (first
            | (refine wpList_load_row rfl 32 (.tmp 4) rfl (w.heap.size + 1) rfl 32 pkz (0, 0) _ (HP9.out.mem.get 1 rfl) Try.underlying32 rfl (by kernel_rfl) ?_)
            | (refine wpList_store_row rfl 32 (.tmp 2) (.tmp 156) rfl w.heap.size pkz rfl rfl 32 pkz (HP9.out.mem.get 0 rfl) (by kernel_rfl) rfl pkz_one ?_))
          refine bodyPost_ret (v := .tuple #[.agg pkz, .int .i64 5]) (results_row1 Try.results7 _ _ w.heap.size 32 pkz (0, 0) _ rfl (setRow_heap _ w.heap.size _ pkz _ _ (HP9.out.mem.get 0 rfl)) Try.underlying32 rfl (by kernel_rfl)) rfl ?_
          refine .inl ⟨?_, ?_, below_setRow HP9.out.mem.below (Nat.le_refl _) _⟩
          · rw [hpk]
            first | exact hne | decide
          · rw [hpk] <;> rfl
        · have hpr : prE false P S D RF NR = 0 := HPR2.out.trans (by rw [if_neg (by decide)])
          have HXR : Hid (u9.rangeAt q11 2 (tupc false Pw WS WD pA pB).toList) := Lib.hid (rep_range _ _ _ (HP9.out.mem.get 5 rfl))
          go_upto_region 35 with (first
            | (refine wpList_load_mid rfl 26 (.tmp 157) rfl q11 2 rfl (tupc false Pw WS WD pA pB).toList _ HXR.out Try.underlying26 rfl (by kernel_rfl) ?_)
            | (refine wpList_store_mid rfl 26 (.tmp 159) (.tmp 158) rfl q8 13 (tupc false Pw WS WD pA pB) rfl rfl (blk_there (HP9.out.mem.get 3 rfl) (by show 13 + 36 ≤ 52; omega)) (by kernel_rfl) (tup_one ..) ?_))
          have HPA : Hid (PS w (u9.setCells q8 13 (tupc false Pw WS WD pA pB).toList) [(w.heap.size, .cells pkz 32 (0, 0)), (w.heap.size + 1, .cells pkz 32 (0, 0)), (q5, .cells (eth f (fun k => f (6 + k)) TY) 30 (0, 0)), (q8, .cells (pkc f (fun k => f (6 + k)) TY false Pw WS WD pA pB 0 false (.slice I NI ic)) 32 (0, 0)), (q10, .cells (tupc false P S D 0 0) 26 (0, 0)), (q11, .cells (repT (RF 0) (RF 1) (tupc false Pw WS WD pA pB)) 69 (0, 0))] I NI ic (pkG f) R NR rc RF) := Lib.hid (by
            have q := HP9.out.cells 3 rfl (by decide) 13 (tupc false Pw WS WD pA pB).toList
            rw [pk_flow] at q
            exact q)
          clear HP9 HXR
          generalize u9.setCells q8 13 (tupc false Pw WS WD pA pB).toList = uA at *
          have x50 : uA.cell? ⟨q8, 50, none⟩ = some (.bool false) := blk_cell (HPA.out.mem.get 3 rfl) 50
          have y50 := blk_free (HPA.out.mem.get 3 rfl) 50
          go_upto_region 36 with fail
          have HPC := Lib.hid (HPA.out.set 3 rfl (by decide) 50 (.bool true))
          rw [pk_report] at HPC
          clear x50 y50 HPA
          generalize uA.setCell ⟨q8, 50, none⟩ (.bool true) = uC at *
          have HSC := Lib.hid (show (pkc f (fun k => f (6 + k)) TY false Pw WS WD pA pB 0 true (.slice I NI ic)).size = 52 from rfl)
          go_wp2_with (first
            | (refine wpList_load_row rfl 32 (.tmp 8) rfl q8 rfl 32 (pkc f (fun k => f (6 + k)) TY false Pw WS WD pA pB 0 true (.slice I NI ic)) (0, 0) _ (HPC.out.mem.get 3 rfl) Try.underlying32 rfl (by kernel_rfl) ?_)
            | (refine wpList_store_row rfl 32 (.tmp 2) (.tmp 161) rfl w.heap.size (pkc f (fun k => f (6 + k)) TY false Pw WS WD pA pB 0 true (.slice I NI ic)) rfl rfl 32 pkz (HPC.out.mem.get 0 rfl) (by kernel_rfl) rfl (pk_one ..) ?_))
          refine bodyPost_ret (v := .tuple #[.agg (pkc f (fun k => f (6 + k)) TY false Pw WS WD pA pB 0 true (.slice I NI ic)), .int .i64 0]) (results_row1 Try.results7 _ _ w.heap.size 32 (pkc f (fun k => f (6 + k)) TY false Pw WS WD pA pB 0 true (.slice I NI ic)) (0, 0) _ rfl (setRow_heap _ w.heap.size _ (pkc f (fun k => f (6 + k)) TY false Pw WS WD pA pB 0 true (.slice I NI ic)) _ _ (HPC.out.mem.get 0 rfl)) Try.underlying32 rfl (by kernel_rfl)) rfl ?_
          refine .inr ⟨?_, I, ic, ?_, ?_, below_setRow HPC.out.mem.below (Nat.le_refl _) _⟩
          · rw [HPK.out]
            exact hpr
          · rw [← HTY.out, ← HV.out, ← HP.out, ← HS.out, ← HD.out, ← HRF.out, ← HNR.out, ← HNI.out, HPT.out, show pkL P RF = 0 by unfold pkL; rw [if_neg hP6], show pkR P = true by unfold pkR; simp [hP6, hP17], pkA_is] <;> rfl
          · rw [← HV.out, ← HNI.out]
            exact HPC.out.oi.other (HPC.out.mem.get 0 rfl) (by decide) (fun j hj => setRow_other _ w.heap.size j _ hj)
      · have hne : EI ≠ 0 := hE0
        have hne' : (EI != 0) = true := by simpa using hE0
        have hpr : prE false P S D RF NR = EI := by unfold prE; rw [if_neg hP6, if_neg hP17, if_pos HIC0.out, ← HSM.out, if_pos (by rw [← HEI.out]; exact hne)]; exact HEI.out.symm
        have hpk : pkE f n = EI := HPK.out.trans hpr
        have HPKE := Lib.hid hpk
        clear hpk hpr hE0
        have hpk := HPKE.out
        go_wp2_with (first
          | (refine wpList_load_row rfl 32 (.tmp 4) rfl (w.heap.size + 1) rfl 32 pkz (0, 0) _ (HP9.out.mem.get 1 rfl) Try.underlying32 rfl (by kernel_rfl) ?_)
          | (refine wpList_store_row rfl 32 (.tmp 2) (.tmp 148) rfl w.heap.size pkz rfl rfl 32 pkz (HP9.out.mem.get 0 rfl) (by kernel_rfl) rfl pkz_one ?_))
        refine bodyPost_ret (v := .tuple #[.agg pkz, .int .i64 EI]) (results_row1 Try.results7 _ _ w.heap.size 32 pkz (0, 0) _ rfl (setRow_heap _ w.heap.size _ pkz _ _ (HP9.out.mem.get 0 rfl)) Try.underlying32 rfl (by kernel_rfl)) rfl ?_
        refine .inl ⟨?_, ?_, below_setRow HP9.out.mem.below (Nat.le_refl _) _⟩
        · rw [hpk]
          first | exact hne | decide
        · rw [hpk] <;> rfl
    · have kI : (P == 1) = false := by simp [hPI]
      have hic : icP false P = false := by unfold icP; rw [if_neg (by decide)]; simp [hPI]
      have hpr : prE false P S D RF NR = 10 := by unfold prE; rw [if_neg hP6, if_neg hP17, if_neg (by rw [hic]; decide)]
      have hpk : pkE f n = 10 := HPK.out.trans hpr
      have hne : (10 : Int) ≠ 0 := by decide
      go_wp2_with (first
        | (refine wpList_load_row rfl 32 (.tmp 4) rfl (w.heap.size + 1) rfl 32 pkz (0, 0) _ (HP7.out.mem.get 1 rfl) Try.underlying32 rfl (by kernel_rfl) ?_)
        | (refine wpList_store_row rfl 32 (.tmp 2) (.tmp 52) rfl w.heap.size pkz rfl rfl 32 pkz (HP7.out.mem.get 0 rfl) (by kernel_rfl) rfl pkz_one ?_))
      refine bodyPost_ret (v := .tuple #[.agg pkz, .int .i64 10]) (results_row1 Try.results7 _ _ w.heap.size 32 pkz (0, 0) _ rfl (setRow_heap _ w.heap.size _ pkz _ _ (HP7.out.mem.get 0 rfl)) Try.underlying32 rfl (by kernel_rfl)) rfl ?_
      refine .inl ⟨?_, ?_, below_setRow HP7.out.mem.below (Nat.le_refl _) _⟩
      · rw [hpk]
        first | exact hne | decide
      · rw [hpk] <;> rfl
  · skip
    by_cases hPI : P = 58
    · have kI : (P == 58) = true := by simp [hPI]
      have hic : icP true P = true := by rw [hPI]; rfl
      have HIC0 := Lib.hid hic
      clear hPI hic
      go_upto_region 29 with fail
      clear x1
      have HIC := Lib.hid (riread_any true S D HSB.out HDB.out R NR rc RF HRB.out (by omega) hcr hcr9 u7 HP7.out.or_.rd)
      obtain ⟨SM, hSM⟩ : ∃ SM, SM = mS true S D NR := ⟨_, rfl⟩
      rw [← hSM] at HIC
      have HSM := Lib.hid hSM
      clear hSM
      unfold RdOut at HIC
      obtain ⟨CR, hCR⟩ : ∃ CR, CR = rT true SM RF NR := ⟨_, rfl⟩
      obtain ⟨EI, hEI⟩ : ∃ EI, EI = icE true SM RF NR := ⟨_, rfl⟩
      rw [← hCR, ← hEI] at HIC
      have HCR := Lib.hid hCR
      have HEI := Lib.hid hEI
      have HSZ : Hid (CR.size = 38) := Lib.hid (by rw [hCR]; exact rT_size ..)
      have HON : Hid (CR.all (·.oneCell') = true) := Lib.hid (by rw [hCR]; exact rT_one ..)
      have HI38 := Lib.hid (show (Try.prog.info? 69).map (·.size) = some 38 by kernel_rfl)
      clear hCR hEI
      have x0 : u7.cell? ⟨q10, 0, none⟩ = some (.bool true) := blk_cell (HP7.out.mem.get 4 rfl) 0
      go_wp2_with (first
        | (refine wpList_load_mid rfl 23 (.tmp 138) rfl q10 2 rfl (arr16 S).toList _ (blk_range (HP7.out.mem.get 4 rfl) (fun k hk => tup_srcs _ _ _ _ _ _ k hk)) Try.underlying23 rfl (by kernel_rfl) ?_)
        | (refine wpList_load_mid rfl 23 (.tmp 140) rfl q10 18 rfl (arr16 D).toList _ (blk_range (HP7.out.mem.get 4 rfl) (fun k hk => tup_dsts _ _ _ _ _ _ k hk)) Try.underlying23 rfl (by kernel_rfl) ?_))
      go_at_call 23
      refine HIC.out.mono ?_
      rintro e u8 ⟨rfl, hb⟩
      clear HIC x0
      have HP8 := Lib.hid (HP7.out.step hb)
      have HN : Hid ((u8.alloc (.cells repz 69)).heap[u8.heap.size]? = some (.cells repz 69 (0, 0))) := heap_alloc_new u8 _
      go_upto_if 147 with (first
        | (refine wpList_store_row rfl 69 (.tmp 17) (.tmp 144) rfl u8.heap.size CR rfl rfl 69 repz HN.out (HI38.out.trans (by rw [HSZ.out])) (by rw [HSZ.out]; rfl) HON.out ?_))
      change Code.wp _ _ _ _ ((u8.alloc (.cells repz 69)).setRow u8.heap.size CR)
      obtain ⟨q11, hq⟩ : ∃ q, q = u8.heap.size := ⟨_, rfl⟩
      have HP9 : Hid (PS w ((u8.alloc (.cells repz 69)).setRow q11 CR) [(w.heap.size, .cells pkz 32 (0, 0)), (w.heap.size + 1, .cells pkz 32 (0, 0)), (q5, .cells (eth f (fun k => f (6 + k)) TY) 30 (0, 0)), (q8, .cells (pkc f (fun k => f (6 + k)) TY true P S D 0 0 0 false (.slice I NI ic)) 32 (0, 0)), (q10, .cells (tupc true P S D 0 0) 26 (0, 0)), (q11, .cells CR 69 (0, 0))] I NI ic (pkG f) R NR rc RF) := Lib.hid (HP8.out.newrow repz CR 69 q11 hq)
      rw [← hq]
      clear hq HN HP8 HP7 hb
      generalize (u8.alloc (.cells repz 69)).setRow q11 CR = u9 at *
      by_cases hE0 : EI = 0
      · obtain ⟨hn8, hw0⟩ := icE_ok (HEI.out.symm.trans hE0)
        obtain ⟨aw, Pw, hww, _, _, _⟩ := winE_ok hw0
        have hcr2 : CR = repT (RF 0) (RF 1) (wT true (fun k => RF (8 + k)) (NR - 8)) := HCR.out.trans (rT_ok (HEI.out.symm.trans hE0))
        have hpt : pkT true P S D RF NR = wT true (fun k => RF (8 + k)) (NR - 8) := by
          unfold pkT
          rw [if_neg (fun q => by rcases q with q | q; exact hP6 q; exact hP17 q)]
        rw [wT_ok hw0 hww] at hcr2 hpt
        obtain ⟨WS, hWS⟩ : ∃ WS, WS = winS true (fun k => RF (8 + k)) := ⟨_, rfl⟩
        obtain ⟨WD, hWD⟩ : ∃ WD, WD = winD true (fun k => RF (8 + k)) := ⟨_, rfl⟩
        obtain ⟨pA, hpA⟩ : ∃ p, p = w2 (fun k => RF (8 + k)) (aw + 2) := ⟨_, rfl⟩
        obtain ⟨pB, hpB⟩ : ∃ p, p = w2 (fun k => RF (8 + k)) aw := ⟨_, rfl⟩
        rw [← hWS, ← hWD, ← hpA, ← hpB] at hcr2 hpt
        subst hcr2
        have HPT := Lib.hid hpt
        have hpr2 : prE true P S D RF NR = if eqs WD D 0 16 = false then 5 else 0 := by
          unfold prE
          rw [if_neg hP6, if_neg hP17, if_pos HIC0.out, ← HSM.out, if_neg (by rw [← HEI.out, hE0]; exact fun q => q rfl), hWD]
        have HPR2 := Lib.hid hpr2
        have hE0' : (EI != 0) = false := by simp [hE0]
        have heq : ∀ W, (Op.equalIn 10000 23 (.agg (arr16 WD)) (.agg (arr16 D))).run Try.prog W = .ok (eqs WD D 0 16) W := fun W => equal16 23 5 Try.underlying23 Try.underlying5 (by kernel_rfl) WD D W
        obtain ⟨eb, heb⟩ : ∃ eb, eb = eqs WD D 0 16 := ⟨_, rfl⟩
        rw [← heb] at heq hpr2
        clear HPR2
        have HPR2 := Lib.hid hpr2
        clear hpt hw0 hww hn8 hWS hWD hpA hpB hE0 hpr2 heb HCR HSZ HON HI38
        go_upto_if 155 with (first
          | (refine wpList_load_a16 rfl 23 (.tmp 151) rfl q11 20 rfl WD (blk_range (HP9.out.mem.get 5 rfl) (fun k hk => rep_dsts _ _ _ _ _ _ _ _ k hk)) Try.underlying23 rfl (by kernel_rfl) ?_)
          | (refine wpList_load_a16 rfl 23 (.tmp 153) rfl q10 18 rfl D (blk_range (HP9.out.mem.get 4 rfl) (fun k hk => tup_dsts _ _ _ _ _ _ k hk)) Try.underlying23 rfl (by kernel_rfl) ?_))
        clear heq
        cases eb
        · have hpr : prE true P S D RF NR = 5 := HPR2.out.trans (by rw [if_pos rfl])
          have hpk : pkE f n = 5 := HPK.out.trans hpr
          have hne : (5 : Int) ≠ 0 := by decide
          go_wp2_with (first
            | (refine wpList_load_row rfl 32 (.tmp 4) rfl (w.heap.size + 1) rfl 32 pkz (0, 0) _ (HP9.out.mem.get 1 rfl) Try.underlying32 rfl (by kernel_rfl) ?_)
            | (refine wpList_store_row rfl 32 (.tmp 2) (.tmp 156) rfl w.heap.size pkz rfl rfl 32 pkz (HP9.out.mem.get 0 rfl) (by kernel_rfl) rfl pkz_one ?_))
          refine bodyPost_ret (v := .tuple #[.agg pkz, .int .i64 5]) (results_row1 Try.results7 _ _ w.heap.size 32 pkz (0, 0) _ rfl (setRow_heap _ w.heap.size _ pkz _ _ (HP9.out.mem.get 0 rfl)) Try.underlying32 rfl (by kernel_rfl)) rfl ?_
          refine .inl ⟨?_, ?_, below_setRow HP9.out.mem.below (Nat.le_refl _) _⟩
          · rw [hpk]
            first | exact hne | decide
          · rw [hpk] <;> rfl
        · have hpr : prE true P S D RF NR = 0 := HPR2.out.trans (by rw [if_neg (by decide)])
          have HXR : Hid (u9.rangeAt q11 2 (tupc true Pw WS WD pA pB).toList) := Lib.hid (rep_range _ _ _ (HP9.out.mem.get 5 rfl))
          go_upto_region 35 with (first
            | (refine wpList_load_mid rfl 26 (.tmp 157) rfl q11 2 rfl (tupc true Pw WS WD pA pB).toList _ HXR.out Try.underlying26 rfl (by kernel_rfl) ?_)
            | (refine wpList_store_mid rfl 26 (.tmp 159) (.tmp 158) rfl q8 13 (tupc true Pw WS WD pA pB) rfl rfl (blk_there (HP9.out.mem.get 3 rfl) (by show 13 + 36 ≤ 52; omega)) (by kernel_rfl) (tup_one ..) ?_))
          have HPA : Hid (PS w (u9.setCells q8 13 (tupc true Pw WS WD pA pB).toList) [(w.heap.size, .cells pkz 32 (0, 0)), (w.heap.size + 1, .cells pkz 32 (0, 0)), (q5, .cells (eth f (fun k => f (6 + k)) TY) 30 (0, 0)), (q8, .cells (pkc f (fun k => f (6 + k)) TY true Pw WS WD pA pB 0 false (.slice I NI ic)) 32 (0, 0)), (q10, .cells (tupc true P S D 0 0) 26 (0, 0)), (q11, .cells (repT (RF 0) (RF 1) (tupc true Pw WS WD pA pB)) 69 (0, 0))] I NI ic (pkG f) R NR rc RF) := Lib.hid (by
            have q := HP9.out.cells 3 rfl (by decide) 13 (tupc true Pw WS WD pA pB).toList
            rw [pk_flow] at q
            exact q)
          clear HP9 HXR
          generalize u9.setCells q8 13 (tupc true Pw WS WD pA pB).toList = uA at *
          have x50 : uA.cell? ⟨q8, 50, none⟩ = some (.bool false) := blk_cell (HPA.out.mem.get 3 rfl) 50
          have y50 := blk_free (HPA.out.mem.get 3 rfl) 50
          go_upto_region 36 with fail
          have HPC := Lib.hid (HPA.out.set 3 rfl (by decide) 50 (.bool true))
          rw [pk_report] at HPC
          clear x50 y50 HPA
          generalize uA.setCell ⟨q8, 50, none⟩ (.bool true) = uC at *
          have HSC := Lib.hid (show (pkc f (fun k => f (6 + k)) TY true Pw WS WD pA pB 0 true (.slice I NI ic)).size = 52 from rfl)
          go_wp2_with (first
            | (refine wpList_load_row rfl 32 (.tmp 8) rfl q8 rfl 32 (pkc f (fun k => f (6 + k)) TY true Pw WS WD pA pB 0 true (.slice I NI ic)) (0, 0) _ (HPC.out.mem.get 3 rfl) Try.underlying32 rfl (by kernel_rfl) ?_)
            | (refine wpList_store_row rfl 32 (.tmp 2) (.tmp 161) rfl w.heap.size (pkc f (fun k => f (6 + k)) TY true Pw WS WD pA pB 0 true (.slice I NI ic)) rfl rfl 32 pkz (HPC.out.mem.get 0 rfl) (by kernel_rfl) rfl (pk_one ..) ?_))
          refine bodyPost_ret (v := .tuple #[.agg (pkc f (fun k => f (6 + k)) TY true Pw WS WD pA pB 0 true (.slice I NI ic)), .int .i64 0]) (results_row1 Try.results7 _ _ w.heap.size 32 (pkc f (fun k => f (6 + k)) TY true Pw WS WD pA pB 0 true (.slice I NI ic)) (0, 0) _ rfl (setRow_heap _ w.heap.size _ (pkc f (fun k => f (6 + k)) TY true Pw WS WD pA pB 0 true (.slice I NI ic)) _ _ (HPC.out.mem.get 0 rfl)) Try.underlying32 rfl (by kernel_rfl)) rfl ?_
          refine .inr ⟨?_, I, ic, ?_, ?_, below_setRow HPC.out.mem.below (Nat.le_refl _) _⟩
          · rw [HPK.out]
            exact hpr
          · rw [← HTY.out, ← HV.out, ← HP.out, ← HS.out, ← HD.out, ← HRF.out, ← HNR.out, ← HNI.out, HPT.out, show pkL P RF = 0 by unfold pkL; rw [if_neg hP6], show pkR P = true by unfold pkR; simp [hP6, hP17], pkA_is] <;> rfl
          · rw [← HV.out, ← HNI.out]
            exact HPC.out.oi.other (HPC.out.mem.get 0 rfl) (by decide) (fun j hj => setRow_other _ w.heap.size j _ hj)
      · have hne : EI ≠ 0 := hE0
        have hne' : (EI != 0) = true := by simpa using hE0
        have hpr : prE true P S D RF NR = EI := by unfold prE; rw [if_neg hP6, if_neg hP17, if_pos HIC0.out, ← HSM.out, if_pos (by rw [← HEI.out]; exact hne)]; exact HEI.out.symm
        have hpk : pkE f n = EI := HPK.out.trans hpr
        have HPKE := Lib.hid hpk
        clear hpk hpr hE0
        have hpk := HPKE.out
        go_wp2_with (first
          | (refine wpList_load_row rfl 32 (.tmp 4) rfl (w.heap.size + 1) rfl 32 pkz (0, 0) _ (HP9.out.mem.get 1 rfl) Try.underlying32 rfl (by kernel_rfl) ?_)
          | (refine wpList_store_row rfl 32 (.tmp 2) (.tmp 148) rfl w.heap.size pkz rfl rfl 32 pkz (HP9.out.mem.get 0 rfl) (by kernel_rfl) rfl pkz_one ?_))
        refine bodyPost_ret (v := .tuple #[.agg pkz, .int .i64 EI]) (results_row1 Try.results7 _ _ w.heap.size 32 pkz (0, 0) _ rfl (setRow_heap _ w.heap.size _ pkz _ _ (HP9.out.mem.get 0 rfl)) Try.underlying32 rfl (by kernel_rfl)) rfl ?_
        refine .inl ⟨?_, ?_, below_setRow HP9.out.mem.below (Nat.le_refl _) _⟩
        · rw [hpk]
          first | exact hne | decide
        · rw [hpk] <;> rfl
    · have kI : (P == 58) = false := by simp [hPI]
      have hic : icP true P = false := by unfold icP; rw [if_pos rfl]; simp [hPI]
      have hpr : prE true P S D RF NR = 10 := by unfold prE; rw [if_neg hP6, if_neg hP17, if_neg (by rw [hic]; decide)]
      have hpk : pkE f n = 10 := HPK.out.trans hpr
      have hne : (10 : Int) ≠ 0 := by decide
      go_wp2_with (first
        | (refine wpList_load_row rfl 32 (.tmp 4) rfl (w.heap.size + 1) rfl 32 pkz (0, 0) _ (HP7.out.mem.get 1 rfl) Try.underlying32 rfl (by kernel_rfl) ?_)
        | (refine wpList_store_row rfl 32 (.tmp 2) (.tmp 52) rfl w.heap.size pkz rfl rfl 32 pkz (HP7.out.mem.get 0 rfl) (by kernel_rfl) rfl pkz_one ?_))
      refine bodyPost_ret (v := .tuple #[.agg pkz, .int .i64 10]) (results_row1 Try.results7 _ _ w.heap.size 32 pkz (0, 0) _ rfl (setRow_heap _ w.heap.size _ pkz _ _ (HP7.out.mem.get 0 rfl)) Try.underlying32 rfl (by kernel_rfl)) rfl ?_
      refine .inl ⟨?_, ?_, below_setRow HP7.out.mem.below (Nat.le_refl _) _⟩
      · rw [hpk]
        first | exact hne | decide
      · rw [hpk] <;> rfl
end Go.Proofs.Ytlchegibfopglaa
