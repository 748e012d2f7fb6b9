import Derived.Test.YtlchegibfopglaaK36
/- Layer 7, the document: the flow without ports, the inner bytes, and what is behind the headers (outer). -/
namespace Go.Proofs.Ytlchegibfopglaa
set_option maxRecDepth 100000
open Go.RowKit
set_option maxHeartbeats 4000000 in
theorem outer_false (A : Option Addr) (m c : Nat) (g : Nat → Int) (hg : Byt g) (hm : m ≤ 140737488355) (hcap : m ≤ c) (hc' : c ≤ 9223372036854775807) (w : World) (hr : Rd w w.heap.size A m g) :
    Calls Try.prog 20 #[.bool false, .slice A m c] w (OtO false g m w) := by
  obtain ⟨i0, hi0, hz0, hz1, hz2⟩ := info_parts Try.info5
  have HI0 := Lib.hid hi0
  have HZ0 := Lib.hid hz0
  have HZ1 := Lib.hid hz1
  have HZ2 := Lib.hid hz2
  clear hi0 hz0 hz1 hz2
  have HR := Lib.hid hr
  have HF := Lib.hid hg
  clear hr hg
  have e1 : (w.alloc (.cells pkz 32)).heap.size = w.heap.size + 1 := by simp
  have HM1 : Hid (Mem w (((w.alloc (.cells pkz 32)).alloc (.cells pkz 32)).setRow (w.heap.size + 1) pkz) [(w.heap.size, .cells pkz 32 (0, 0)), (w.heap.size + 1, .cells pkz 32 (0, 0))]) := Lib.hid ((((Mem.nil w).alloc (.cells pkz 32)).new (.cells pkz 32) (w.heap.size + 1) e1.symm).row 1 rfl pkz)
  have HQ1 : Hid (((w.alloc (.cells pkz 32)).alloc (.cells pkz 32)).heap[w.heap.size + 1]? = some (.cells pkz 32 (0, 0))) := by rw [← e1]; exact heap_alloc_new _ _
  clear e1
  go_enter Try.func20, Try.ntmps20
  go_upto_region 2 with (first
    | (refine wpList_store_row rfl 32 (.tmp 7) (.tmp 14) rfl (w.heap.size + 1) pkz rfl rfl 32 pkz HQ1.out (by kernel_rfl) rfl pkz_one ?_))
  change Code.wp _ _ _ _ (((w.alloc (.cells pkz 32)).alloc (.cells pkz 32)).setRow (w.heap.size + 1) pkz)
  clear HQ1
  generalize ((w.alloc (.cells pkz 32)).alloc (.cells pkz 32)).setRow (w.heap.size + 1) pkz = u1 at *
  have HRD := Lib.hid (rread4_any A m c g HF.out (by omega) hcap hc' u1 (HM1.out.rd HR.out))
  go_wp2_with fail
  go_at_call 31
  refine HRD.out.mono ?_
  rintro e u2 hq
  clear HRD
  rcases hq with ⟨hE, rfl, hb2⟩ | ⟨hE, hq⟩
  · have hE' : (rd4E g m != 0) = true := by simpa using hE
    have HE := Lib.hid hE
    obtain ⟨E, hEE⟩ : ∃ E, E = rd4E g m := ⟨_, rfl⟩
    rw [← hEE] at hE' ⊢
    have HEE := Lib.hid hEE
    clear hEE hE
    have HM2 := Lib.hid (HM1.out.step hb2)
    have HQ : Hid ((u2.alloc (.cells ip4z 79)).heap[u2.heap.size]? = some (.cells ip4z 79 (0, 0))) := heap_alloc_new u2 _
    go_upto_if 52 with (first
      | (refine wpList_store_row rfl 79 (.tmp 11) (.tmp 48) rfl u2.heap.size ip4z rfl rfl 79 ip4z HQ.out (by kernel_rfl) rfl (ip4z_one) ?_))
    change Code.wp _ _ _ _ ((u2.alloc (.cells ip4z 79)).setRow u2.heap.size ip4z)
    obtain ⟨q, hq⟩ : ∃ q, q = u2.heap.size := ⟨_, rfl⟩
    have HM3 : Hid (Mem w ((u2.alloc (.cells ip4z 79)).setRow q ip4z) [(w.heap.size, .cells pkz 32 (0, 0)), (w.heap.size + 1, .cells pkz 32 (0, 0)), (q, .cells ip4z 79 (0, 0))]) := Lib.hid ((HM2.out.new (.cells ip4z 79) q hq).row 2 rfl ip4z)
    rw [← hq]
    clear hq HQ HM2 HM1 hb2
    generalize (u2.alloc (.cells ip4z 79)).setRow q ip4z = u3 at *
    go_wp2_with (first
      | (refine wpList_load_row rfl 32 (.tmp 7) rfl (w.heap.size + 1) rfl 32 pkz (0, 0) _ (HM3.out.get 1 rfl) Try.underlying32 rfl (by kernel_rfl) ?_)
      | (refine wpList_store_row rfl 32 (.tmp 4) (.tmp 53) rfl w.heap.size pkz rfl rfl 32 pkz (HM3.out.get 0 rfl) (by kernel_rfl) rfl pkz_one ?_))
    refine bodyPost_ret (v := .tuple #[.agg pkz, .slice none 0 0, .int .i64 E]) (results_row2 Try.results20 _ _ w.heap.size 32 pkz (0, 0) _ rfl (setRow_heap _ w.heap.size _ pkz _ _ (HM3.out.get 0 rfl)) Try.underlying32 rfl (by kernel_rfl)) rfl ?_
    refine .inl ⟨HE.out, ?_, below_setRow HM3.out.below (Nat.le_refl _) _⟩
    show _ = Ending.returned (.tuple #[.agg pkz, .slice none 0 0, .int .i64 (rd4E g m)])
    rw [← HEE.out]
  · obtain ⟨O, co, P, cp, rfl, hO, hP, _, hb2⟩ := hq
    have HE := Lib.hid hE
    clear hE
    have HO2 := Lib.hid hP
    clear hO hP
    have HM2 := Lib.hid (HM1.out.step hb2)
    have HQ : Hid ((u2.alloc (.cells ip4z 79)).heap[u2.heap.size]? = some (.cells ip4z 79 (0, 0))) := heap_alloc_new u2 _
    go_upto_if 52 with (first
      | (refine wpList_store_row rfl 79 (.tmp 11) (.tmp 48) rfl u2.heap.size (ip4c (g 1) (g 4 * 256 + g 5) (decide (16384 ≤ g 6 * 256 + g 7)) (g 8) (g 9) (adr fun k => g (12 + k)) (adr fun k => g (16 + k)) (.slice O (hl4 g - 20) co)) rfl rfl 79 ip4z HQ.out (by kernel_rfl) rfl (ip4_one ..) ?_))
    change Code.wp _ _ _ _ ((u2.alloc (.cells ip4z 79)).setRow u2.heap.size (ip4c (g 1) (g 4 * 256 + g 5) (decide (16384 ≤ g 6 * 256 + g 7)) (g 8) (g 9) (adr fun k => g (12 + k)) (adr fun k => g (16 + k)) (.slice O (hl4 g - 20) co)))
    obtain ⟨q, hq⟩ : ∃ q, q = u2.heap.size := ⟨_, rfl⟩
    have HM3 : Hid (Mem w ((u2.alloc (.cells ip4z 79)).setRow q (ip4c (g 1) (g 4 * 256 + g 5) (decide (16384 ≤ g 6 * 256 + g 7)) (g 8) (g 9) (adr fun k => g (12 + k)) (adr fun k => g (16 + k)) (.slice O (hl4 g - 20) co))) [(w.heap.size, .cells pkz 32 (0, 0)), (w.heap.size + 1, .cells pkz 32 (0, 0)), (q, .cells (ip4c (g 1) (g 4 * 256 + g 5) (decide (16384 ≤ g 6 * 256 + g 7)) (g 8) (g 9) (adr fun k => g (12 + k)) (adr fun k => g (16 + k)) (.slice O (hl4 g - 20) co)) 79 (0, 0))]) := Lib.hid ((HM2.out.new (.cells ip4z 79) q hq).row 2 rfl (ip4c (g 1) (g 4 * 256 + g 5) (decide (16384 ≤ g 6 * 256 + g 7)) (g 8) (g 9) (adr fun k => g (12 + k)) (adr fun k => g (16 + k)) (.slice O (hl4 g - 20) co)))
    rw [← hq]
    have B23 : Hid (Below u2.heap.size u2 ((u2.alloc (.cells ip4z 79)).setRow q (ip4c (g 1) (g 4 * 256 + g 5) (decide (16384 ≤ g 6 * 256 + g 7)) (g 8) (g 9) (adr fun k => g (12 + k)) (adr fun k => g (16 + k)) (.slice O (hl4 g - 20) co)))) := Lib.hid (by rw [hq]; exact below_setRow (below_alloc u2 _) (Nat.le_refl _) _)
    have HO3 := Lib.hid (HO2.out.below B23.out)
    have hu1 : w.heap.size + 1 < u1.heap.size := lt_heap (HM1.out.get 1 rfl)
    clear hq HQ HM2 HM1 hb2 B23 HO2
    generalize (u2.alloc (.cells ip4z 79)).setRow q (ip4c (g 1) (g 4 * 256 + g 5) (decide (16384 ≤ g 6 * 256 + g 7)) (g 8) (g 9) (adr fun k => g (12 + k)) (adr fun k => g (16 + k)) (.slice O (hl4 g - 20) co)) = u3 at *
    have xp : u3.cell? ⟨q, 4, none⟩ = some (.int .u8 (g 9)) := blk_cell (HM3.out.get 2 rfl) 4
    go_upto_region 13 with (first
      | (refine wpList_load_mid rfl 23 (.tmp 57) rfl q 5 rfl (arr16 (adr fun k => g (12 + k))).toList _ (blk_range (HM3.out.get 2 rfl) (fun k hk => ip4_src k hk)) Try.underlying23 rfl (by kernel_rfl) ?_)
      | (refine wpList_load_mid rfl 23 (.tmp 59) rfl q 21 rfl (arr16 (adr fun k => g (16 + k))).toList _ (blk_range (HM3.out.get 2 rfl) (fun k hk => ip4_dst k hk)) Try.underlying23 rfl (by kernel_rfl) ?_)
      | (refine wpList_tup3 rfl (.tmp 56) (.tmp 58) (.tmp 60) rfl (g 9) (adr fun k => g (12 + k)) (adr fun k => g (16 + k)) rfl rfl rfl ?_)
      | (refine wpList_store_mid rfl 26 (.tmp 62) (.tmp 61) rfl (w.heap.size + 1) 13 (tupc false (g 9) (adr fun k => g (12 + k)) (adr fun k => g (16 + k)) 0 0) rfl rfl (blk_there (HM3.out.get 1 rfl) (by show 13 + 36 ≤ 52; omega)) (by kernel_rfl) (tup_one ..) ?_))
    have HM4 : Hid (Mem w (u3.setCells (w.heap.size + 1) 13 (tupc false (g 9) (adr fun k => g (12 + k)) (adr fun k => g (16 + k)) 0 0).toList) [(w.heap.size, .cells pkz 32 (0, 0)), (w.heap.size + 1, .cells (pkc (fun _ => 0) (fun _ => 0) 0 false (g 9) (adr fun k => g (12 + k)) (adr fun k => g (16 + k)) 0 0 0 false (.slice none 0 0)) 32 (0, 0)), (q, .cells (ip4c (g 1) (g 4 * 256 + g 5) (decide (16384 ≤ g 6 * 256 + g 7)) (g 8) (g 9) (adr fun k => g (12 + k)) (adr fun k => g (16 + k)) (.slice O (hl4 g - 20) co)) 79 (0, 0))]) := Lib.hid (by
      have h := HM3.out.cells 1 rfl 13 (tupc false (g 9) (adr fun k => g (12 + k)) (adr fun k => g (16 + k)) 0 0).toList
      rw [show pkz = pkc (fun _ => 0) (fun _ => 0) 0 false 0 (fun _ => 0) (fun _ => 0) 0 0 0 false (.slice none 0 0) from rfl, pk_flow] at h
      exact h)
    have HO4 : Hid (Own (u3.setCells (w.heap.size + 1) 13 (tupc false (g 9) (adr fun k => g (12 + k)) (adr fun k => g (16 + k)) 0 0).toList) u1.heap.size 5 P (tl4 g - hl4 g) cp (fun k => g (hl4 g + k))) := Lib.hid (HO3.out.other (HM3.out.get 1 rfl) (by decide) (fun k hk => other_setCells hk _ 13 u3))
    clear HM3 HO3 xp
    generalize u3.setCells (w.heap.size + 1) 13 (tupc false (g 9) (adr fun k => g (12 + k)) (adr fun k => g (16 + k)) 0 0).toList = u4 at *
    have HOK := Lib.hid (ot_ok (v6 := false) HF.out (show otE false g m = 0 from HE.out))
    obtain ⟨L, hLd⟩ : ∃ L, L = tl4 g := ⟨_, rfl⟩
    have HL := Lib.hid hLd
    have hL : (L : Int) = w2 g 2 := by rw [HL.out]; have := HF.out 2; have := HF.out 3; show ((tl4 g : Nat) : Int) = g 2 * 256 + g 3; unfold tl4; omega
    have hLm : L ≤ m := by
      have q := HOK.out.2.2.1
      have e : otI false g = (tl4 g) := rfl
      rw [e, ← hLd] at q
      exact q
    have hn2 : 20 ≤ m := by have := HOK.out; omega
    clear hLd
    have HNM : Hid (∀ W, Rd W W.heap.size A m g → Calls Try.prog 30 #[.slice A m c, .int .i64 2, .int .i64 2] W fun e w' => e = .returned (.int .u32 (L : Int)) ∧ W = w') := Lib.hid fun W hr => by
      have h := rnum_any A m c 2 2 g HF.out (by omega) (by omega) (by omega) W _ hr
      rw [numk_2, ← hL] at h
      exact h
    clear hL
    obtain ⟨D, hsD, hrD⟩ := slice_to A m c L hLm hcap hc'
    have hsD' : ∀ W, (Instr.sliceAt 22 (.slice A m c) none (some (.int .i64 (L : Int))) none).run Try.prog W = .ok (.slice D L c) W := fun W => by
      have h := hsD W
      skip
      exact h
    have HDR := Lib.hid hrD
    clear hsD hrD
    have w1 : IntKind.i64.wrap (L : Int) = (L : Int) := by rw [IntKind.wrap_i64]; omega
    skip
    have HO0 : Hid (Own (u4.alloc (.cells #[] 5)) u4.heap.size 5 (some ⟨u4.heap.size, 0, none⟩) 0 0 (fun _ => 0)) := Own.fresh u4 _ _ rfl (Nat.le_refl _) _ _
    have B45 : Hid (Below u4.heap.size u4 (u4.alloc (.cells #[] 5))) := below_alloc u4 _
    have HRN := Lib.hid (HM4.out.rd HR.out)
    have HR4 : Hid (Rd (u4.alloc (.cells #[] 5)) (u4.alloc (.cells #[] 5)).heap.size A m g) := (HRN.out.keep B45.out).more B45.out.size
    go_upto_region 14 with (first
      | (go_at_call 30; refine (HNM.out _ HR4.out).mono ?_; rintro e w' ⟨rfl, rfl⟩)
      | (at_builtin
         refine wpList_append_rd rfl (.tmp 63) (.tmp 68) _ rfl u4.heap.size 5 i0 Try.underlying22 HI0.out HZ0.out HZ1.out HZ2.out rfl HO0.out rfl (HDR.out _ _ g HR4.out) (by omega) (alloc_le u4 _) ?_
         intro A5 c5 u5 hown5 hg5 _
         rw [Nat.zero_add] at hown5
         have HO5 : Hid (Own u5 u4.heap.size 5 A5 L c5 g) := hown5.same fun k _ => by simp [cat]
         have B5 : Hid (Below u4.heap.size u4 u5) := B45.out.grown hg5 B45.out.size (fun k hk => HO0.out.at_ k hk)
         rw [Nat.zero_add]
         have HM5 := Lib.hid (HM4.out.step B5.out)
         have HR5 := Lib.hid (HO4.out.below B5.out)
         have x51 : u5.cell? ⟨w.heap.size + 1, 51, none⟩ = some (.slice none 0 0) := blk_cell (HM5.out.get 1 rfl) 51
         have y51 := blk_free (HM5.out.get 1 rfl) 51
         clear hown5 hg5))
    have hlt4 : w.heap.size + 1 < u4.heap.size := lt_heap (HM4.out.get 1 rfl)
    have HM6 := Lib.hid (HM5.out.set 1 rfl 51 (.slice A5 L c5))
    rw [pk_inner] at HM6
    have HO6 := Lib.hid (HO5.out.far (p := ⟨w.heap.size + 1, 51, none⟩) hlt4 (.slice A5 L c5))
    have HR6 := Lib.hid (HR5.out.far (p := ⟨w.heap.size + 1, 51, none⟩) hu1 (.slice A5 L c5))
    clear HM4 HM5 HO0 HO4 HO5 HR4 HR5 B45 B5 HNM HRN x51 y51 hsD' HDR w1
    generalize u5.setCell ⟨w.heap.size + 1, 51, none⟩ (.slice A5 L c5) = u6 at *
    obtain ⟨CP, hCP⟩ : ∃ CP, CP = pkc (fun _ => 0) (fun _ => 0) 0 false (g 9) (adr fun k => g (12 + k)) (adr fun k => g (16 + k)) 0 0 0 false (.slice A5 L c5) := ⟨_, rfl⟩
    have HCP := Lib.hid hCP
    have HSZ : Hid (CP.size = 52) := Lib.hid (by rw [hCP]; rfl)
    have HON : Hid (CP.all (·.oneCell') = true) := Lib.hid (by rw [hCP]; exact pk_one ..)
    rw [← hCP] at HM6
    clear hCP
    have HI52 := Lib.hid (show (Try.prog.info? 32).map (·.size) = some 52 by kernel_rfl)
    go_wp2_with (first
      | (refine wpList_load_roww rfl 32 (.tmp 7) rfl (w.heap.size + 1) rfl 32 CP (0, 0) _ (HM6.out.get 1 rfl) Try.underlying32 rfl (HI52.out.trans (by rw [HSZ.out])) ?_)
      | (refine wpList_store_row rfl 32 (.tmp 4) (.tmp 71) rfl w.heap.size CP rfl rfl 32 pkz (HM6.out.get 0 rfl) (HI52.out.trans (by rw [HSZ.out])) (by rw [HSZ.out]; rfl) HON.out ?_))
    refine bodyPost_ret (v := .tuple #[.agg CP, .slice P (tl4 g - hl4 g) cp, .int .i64 0]) (results_row2 Try.results20 _ _ w.heap.size 32 CP (0, 0) _ rfl (setRow_heap _ w.heap.size _ CP _ _ (HM6.out.get 0 rfl)) Try.underlying32 rfl (HI52.out.trans (by rw [HSZ.out]))) rfl ?_
    have hw1 : w.heap.size ≤ u1.heap.size := by omega
    have hw4 : w.heap.size ≤ u4.heap.size := by omega
    skip
    refine .inr ⟨HE.out, A5, c5, P, cp, ?_, ?_, ?_, below_setRow HM6.out.below (Nat.le_refl _) _⟩
    · rw [HCP.out, HL.out]
      rfl
    · have h := (HO6.out.le hw4).other (HM6.out.get 0 rfl) (by decide) (fun k hk => setRow_other _ w.heap.size k CP hk)
      rw [HL.out] at h
      exact h
    · have h := (HR6.out.le hw1).other (HM6.out.get 0 rfl) (by decide) (fun k hk => setRow_other _ w.heap.size k CP hk)
      skip
      skip
      exact h
end Go.Proofs.Ytlchegibfopglaa
