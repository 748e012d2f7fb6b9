/- IcmpWrites, walked. -/
import Derived.Test.YtfaelihfjmaekaaIl
import Derived.Test.YtfaelihfjmaekaaIj
namespace Go.Proofs.Ytfaelihfjmaekaa
open Go.RowKit
theorem wpList_rep {ops : Array Oper} {rest : List Oper} {op : Oper} {a : Act} {w : World} {Q : Exit → Act → World → Prop} (hw : Region.wanted op (yielded ops a.tmps) = true) (x y z : Operand) (ho : op.op = .build 32 #[(0, x), (1, y), (2, z)]) (p q : Int) (C : Array Value)
    (hx : a.eval x = .int .u8 p) (hy : a.eval y = .int .u8 q) (hz : a.eval z = .agg C) (hb : (Instr.build 32 #[(0, .int .u8 p), (1, .int .u8 q), (2, .agg C)]).run Try.prog w = .ok (.agg (repT p q C)) w) (h : wpList Try.prog ops Q rest (a.put op.dst (.agg (repT p q C))) w) : wpList Try.prog ops Q (op :: rest) a w := by
  refine BigFrame.wpList_want hw fun K hK => ?_
  unfold Oper.wp execOp
  simp only [ho, List.map_toArray, List.map_cons, List.map_nil, hx, hy, hz, Sem.run_bind, Sem.run_pure, Result.andThen_ok, hb]
  exact hK _ _ h
theorem repz_lit : repz = #[.int .u8 0, .int .u8 0, .bool false, .int .u8 0, .int .u8 0, .int .u8 0, .int .u8 0, .int .u8 0, .int .u8 0, .int .u8 0, .int .u8 0, .int .u8 0, .int .u8 0, .int .u8 0, .int .u8 0, .int .u8 0, .int .u8 0, .int .u8 0, .int .u8 0, .int .u8 0, .int .u8 0, .int .u8 0, .int .u8 0, .int .u8 0, .int .u8 0, .int .u8 0, .int .u8 0, .int .u8 0, .int .u8 0, .int .u8 0, .int .u8 0, .int .u8 0, .int .u8 0, .int .u8 0, .int .u8 0, .int .u8 0, .int .u16 0, .int .u16 0] := rfl
set_option maxRecDepth 100000 in
set_option maxHeartbeats 4000000 in
theorem iwrites_long (v6 : Bool) (s d : Nat → Int) (k o : Int) (r : Nat → Int) (A : Option Addr) (n c : Nat) (h : 1700 < n) (w : World) :
    Calls Try.prog 4 #[.bool v6, .agg (arr16 s), .agg (arr16 d), .int .u8 k, .int .u8 o, .agg (arr4 r), .slice A n c] w fun e w' => e = .returned (.bool true) ∧ Below w.heap.size w w' := by
  have KN := Lib.hid known_any
  have h' : (n : Int) > 1700 := by omega
  have e1 : (w.alloc (.cells (arr16 s) 22)).heap.size = w.heap.size + 1 := by simp
  have e2 : ((w.alloc (.cells (arr16 s) 22)).alloc (.cells (arr16 d) 22)).heap.size = w.heap.size + 1 + 1 := by simp
  have HM1 : Hid (Mem w (((w.alloc (.cells (arr16 s) 22)).alloc (.cells (arr16 d) 22)).alloc (.cells (arr4 r) 37)) [(w.heap.size, .cells (arr16 s) 22 (0, 0)), (w.heap.size + 1, .cells (arr16 d) 22 (0, 0)), (w.heap.size + 1 + 1, .cells (arr4 r) 37 (0, 0))]) := Lib.hid ((((Mem.nil w).alloc (.cells (arr16 s) 22)).new (.cells (arr16 d) 22) (w.heap.size + 1) e1.symm).new (.cells (arr4 r) 37) (w.heap.size + 1 + 1) e2.symm)
  clear e1 e2
  go_enter Try.func4, Try.ntmps4
  go_upto_if 26 with fail
  change Code.wp _ _ _ _ (((w.alloc (.cells (arr16 s) 22)).alloc (.cells (arr16 d) 22)).alloc (.cells (arr4 r) 37))
  generalize ((w.alloc (.cells (arr16 s) 22)).alloc (.cells (arr16 d) 22)).alloc (.cells (arr4 r) 37) = u1 at *
  go_wp2_with (first
    | (go_at_call 6; refine (KN.out _).mono ?_; rintro e u2 ⟨rfl, hb2⟩))
  go_ret
  exact ⟨rfl, HM1.out.below.trans (hb2.mono HM1.out.below.size)⟩
set_option maxRecDepth 100000 in
set_option maxHeartbeats 4000000 in
theorem iwrites_any (v6 : Bool) (s d : Nat → Int) (hs : Byt s) (hd : Byt d) (k o : Int) (hk : 0 ≤ k ∧ k ≤ 255) (ho : 0 ≤ o ∧ o ≤ 255) (r : Nat → Int) (hrb : Byt r) (A : Option Addr) (n c : Nat) (f : Nat → Int) (hf : Byt f) (hn : n ≤ 1700) (hcap : n ≤ c) (hc9 : c ≤ 9223372036854775807) (w : World) (hr : Rd w w.heap.size A n f) :
    Calls Try.prog 4 #[.bool v6, .agg (arr16 s), .agg (arr16 d), .int .u8 k, .int .u8 o, .agg (arr4 r), .slice A n c] w fun e w' => e = .returned (.bool true) ∧ Below w.heap.size w w' := by
  obtain ⟨i0, hi0, hz0, hz1, hz2⟩ := info_parts Try.info5
  have HI0 := Lib.hid hi0
  have HZ0 := Lib.hid hz0
  have HZ1 := Lib.hid hz1
  have HZ2 := Lib.hid hz2
  clear hi0 hz0 hz1 hz2
  have KN := Lib.hid known_any
  have HI36 := Lib.hid (show (Try.prog.info? 27).map (·.size) = some 36 by kernel_rfl)
  have HI38 := Lib.hid (show (Try.prog.info? 32).map (·.size) = some 38 by kernel_rfl)
  obtain ⟨S, hS⟩ : ∃ S, S = mS v6 s d (8 + n) := ⟨_, rfl⟩
  obtain ⟨G, hG⟩ : ∃ G, G = icB k o (rgt S (icB k o 0 r f) (8 + n)) r f := ⟨_, rfl⟩
  obtain ⟨X, hX⟩ : ∃ X, X = icX v6 k n := ⟨_, rfl⟩
  obtain ⟨M, hM⟩ : ∃ M, M = icM v6 k n := ⟨_, rfl⟩
  have hSb : 0 ≤ S ∧ S ≤ 65535 := by rw [hS]; exact mS_bd v6 hs hd (8 + n)
  have hcat : Byt (icB k o 0 r f) := icB_byt hk ho ⟨by omega, by omega⟩ hrb hf
  have hrg := rgt_bd hcat hSb (8 + n)
  have HGB : Hid (Byt G) := Lib.hid (by rw [hG]; exact icB_byt hk ho hrg hrb hf)
  have hMn : M ≤ 8 + n := by rw [hM]; unfold icM; split <;> omega
  obtain ⟨CT, hCT⟩ : ∃ C, C = wT v6 f n := ⟨_, rfl⟩
  obtain ⟨E, hE⟩ : ∃ E, E = winE v6 f n := ⟨_, rfl⟩
  obtain ⟨CR, hCR⟩ : ∃ C, C = rT v6 S G (8 + n) := ⟨_, rfl⟩
  have HBK : Hid (X = 0 → M = 8 + n ∧ icE v6 S G (8 + n) = E ∧ (E ≠ 0 → CR = repz) ∧ (E = 0 → CR = repT k o CT)) := Lib.hid fun hx0 => by
    obtain ⟨b1, b2, b3, b4, b5, _⟩ := ic_back hk ho hrb hf hSb (hX.symm.trans hx0) hcat G hG
    have bf : (fun k => G (8 + k)) = f := funext b4
    have e8 : 8 + n - 8 = n := by omega
    have hic : icE v6 S G (8 + n) = E := by rw [icE_3 (by omega) b1 (by rw [b2]; exact b5), bf, e8, hE]
    refine ⟨by rw [hM]; unfold icM; rw [← hX, if_pos hx0], hic, fun h => ?_, fun h => ?_⟩
    · rw [hCR]; exact rT_no (by rw [hic]; exact h)
    · rw [hCR, rT_ok (by rw [hic]; exact h), bf, e8, b2, b3, hCT]
  have HSZT : Hid (CT.size = 36) := Lib.hid (by rw [hCT]; exact wT_size ..)
  have HOT : Hid (CT.all (·.oneCell') = true) := Lib.hid (by rw [hCT]; exact wT_one ..)
  have HSZR : Hid (CR.size = 38) := Lib.hid (by rw [hCR]; exact rT_size ..)
  have HOR : Hid (CR.all (·.oneCell') = true) := Lib.hid (by rw [hCR]; exact rT_one ..)
  have HQR : Hid (∀ W, (Op.equalIn 10000 32 (.agg CR) (.agg CR)).run Try.prog W = .ok true W) := Lib.hid fun W => by rw [hCR]; exact eq_rT v6 S G (8 + n) W
  have HBR : Hid (∀ W, (Instr.build 32 #[(0, .int .u8 k), (1, .int .u8 o), (2, .agg CT)]).run Try.prog W = .ok (.agg (repT k o CT)) W) := Lib.hid fun W => by
    obtain ⟨v, pr, ss, dd, sp, dp, h⟩ := wT_tup v6 f n
    rw [hCT, h]
    exact build_rep ..
  have HW1 : Hid (∀ A' c' W, Rd W W.heap.size A' n f → Calls Try.prog 13 #[.bool v6, .agg (arr16 s), .agg (arr16 d), .int .u8 k, .int .u8 o, .agg (arr4 r), .slice A' n c'] W (WrIO M X G W)) := Lib.hid fun A' c' W hr => by
    rw [hM, hX, hG, hS]
    exact iwrite_any v6 s d hs hd k o hk ho r hrb A' n c' f hf (by omega) W hr
  have HW2 : Hid (∀ A' c' W, Rd W W.heap.size A' n f → Calls Try.prog 14 #[.bool v6, .agg (arr16 s), .agg (arr16 d), .int .u8 k, .int .u8 o, .agg (arr4 r), .slice A' n c'] W (WrIO M X G W)) := Lib.hid fun A' c' W hr => by
    rw [hM, hX, hG, hS]
    exact riwrite_any v6 s d hs hd k o hk ho r hrb A' n c' f hf (by omega) W hr
  have HWI : Hid (∀ A' c' W, n ≤ c' → c' ≤ 9223372036854775807 → Rd W W.heap.size A' n f → Calls Try.prog 7 #[.bool v6, .slice A' n c'] W fun e w' => e = .returned (.tuple #[.agg CT, .int .i64 E]) ∧ Below W.heap.size W w') := Lib.hid fun A' c' W h1 h2 hr => by
    rw [hCT, hE]
    exact within_any v6 A' n c' f hf (by omega) h1 h2 W hr
  have HRE : Hid (X = 0 → ∀ A' c' W, M ≤ c' → c' ≤ 9223372036854775807 → Rd W W.heap.size A' M G → Calls Try.prog 9 #[.bool v6, .agg (arr16 s), .agg (arr16 d), .slice A' M c'] W fun e w' => e = .returned (.tuple #[.agg CR, .int .i64 E]) ∧ Below W.heap.size W w') := Lib.hid fun hx0 A' c' W h1 h2 hr => by
    obtain ⟨m1, m2, _⟩ := HBK.out hx0
    have q := iread_any v6 s d hs hd A' M c' G HGB.out (by omega) h1 h2 W hr
    unfold RdOut at q
    rw [m1, ← hS, m2, ← hCR] at q
    rw [m1]
    exact q
  have HR := Lib.hid hr
  clear hs hd hf hr hS hG hX hM hCT hE hCR hcat hrg hSb hk ho hrb
  have g1 : ¬ (1700 : Int) < (n : Int) := by omega
  have e1 : (w.alloc (.cells (arr16 s) 22)).heap.size = w.heap.size + 1 := by simp
  have e2 : ((w.alloc (.cells (arr16 s) 22)).alloc (.cells (arr16 d) 22)).heap.size = w.heap.size + 1 + 1 := by simp
  have HM1 : Hid (Mem w (((w.alloc (.cells (arr16 s) 22)).alloc (.cells (arr16 d) 22)).alloc (.cells (arr4 r) 37)) [(w.heap.size, .cells (arr16 s) 22 (0, 0)), (w.heap.size + 1, .cells (arr16 d) 22 (0, 0)), (w.heap.size + 1 + 1, .cells (arr4 r) 37 (0, 0))]) := Lib.hid ((((Mem.nil w).alloc (.cells (arr16 s) 22)).new (.cells (arr16 d) 22) (w.heap.size + 1) e1.symm).new (.cells (arr4 r) 37) (w.heap.size + 1 + 1) e2.symm)
  clear e1 e2
  go_enter Try.func4, Try.ntmps4
  go_upto_if 26 with fail
  change Code.wp _ _ _ _ (((w.alloc (.cells (arr16 s) 22)).alloc (.cells (arr16 d) 22)).alloc (.cells (arr4 r) 37))
  generalize ((w.alloc (.cells (arr16 s) 22)).alloc (.cells (arr16 d) 22)).alloc (.cells (arr4 r) 37) = u1 at *
  have HO0 : Hid (Own (u1.alloc (.cells #[] 5)) u1.heap.size 5 (some ⟨u1.heap.size, 0, none⟩) 0 0 (fun _ => 0)) := Own.fresh u1 _ _ rfl (Nat.le_refl _) _ _
  have B10 : Hid (Below u1.heap.size u1 (u1.alloc (.cells #[] 5))) := below_alloc u1 _
  go_upto_region 4 with (first
    | (at_builtin
       refine wpList_append_rd rfl (.tmp 28) (.tmp 29) _ rfl u1.heap.size 5 i0 Try.underlying23 HI0.out HZ0.out HZ1.out HZ2.out rfl HO0.out rfl (HR.out.keep (HM1.out.below.trans (B10.out.mono HM1.out.below.size))) (by omega) (alloc_le u1 _) ?_
       intro A2 c2 u2 hown2 hg2 _
       rw [Nat.zero_add] at hown2
       have HO2 : Hid (Own u2 u1.heap.size 5 A2 n c2 f) := hown2.same fun k _ => by simp [cat]
       have B12 : Hid (Below u1.heap.size u1 u2) := B10.out.grown hg2 B10.out.size (fun k hk => HO0.out.at_ k hk)
       rw [Nat.zero_add]
       clear hown2 hg2))
  have HXb := Lib.hid (HM1.out.step B12.out)
  have HX0 := Lib.hid (HXb.out.get 0 rfl)
  have HX1 := Lib.hid (HXb.out.get 1 rfl)
  have HX2 := Lib.hid (HXb.out.get 2 rfl)
  have HIN : Hid (Rd u2 u2.heap.size A2 n f) := HO2.out.rd
  have HRN : Hid (Rd u2 u2.heap.size A n f) := HXb.out.rd HR.out
  have HB2 := Lib.hid HXb.out.below
  have hc2 := HO2.out.cap
  have hc29 := HO2.out.cap_le
  clear HO0 B10 B12 HM1 HO2 g1 HXb HR
  have HM2 := Lib.hid (Mem.nil u2)
  go_wp2_with (first
    | (refine wpList_load_roww rfl 22 (.tmp 8) rfl w.heap.size rfl 22 (arr16 s) (0, 0) _ (HM2.out.old HX0.out) Try.underlying22 rfl (by kernel_rfl) ?_)
    | (refine wpList_load_roww rfl 22 (.tmp 9) rfl (w.heap.size + 1) rfl 22 (arr16 d) (0, 0) _ (HM2.out.old HX1.out) Try.underlying22 rfl (by kernel_rfl) ?_)
    | (refine wpList_load_roww rfl 37 (.tmp 12) rfl (w.heap.size + 1 + 1) rfl 37 (arr4 r) (0, 0) _ (HM2.out.old HX2.out) Try.underlying37 rfl (by kernel_rfl) ?_))
  go_at_call 13
  refine (HW1.out A2 c2 u2 HIN.out).mono ?_
  rintro e u3 ⟨U1, cu1, rfl, ho1, hb3⟩
  have HM3 := Lib.hid (HM2.out.step hb3)
  have HO3 := Lib.hid ho1
  clear hb3 ho1 HM2 HW1
  go_upto_region 5 with fail
  go_wp2_with (first
    | (refine wpList_load_roww rfl 22 (.tmp 8) rfl w.heap.size rfl 22 (arr16 s) (0, 0) _ (HM3.out.old HX0.out) Try.underlying22 rfl (by kernel_rfl) ?_)
    | (refine wpList_load_roww rfl 22 (.tmp 9) rfl (w.heap.size + 1) rfl 22 (arr16 d) (0, 0) _ (HM3.out.old HX1.out) Try.underlying22 rfl (by kernel_rfl) ?_)
    | (refine wpList_load_roww rfl 37 (.tmp 12) rfl (w.heap.size + 1 + 1) rfl 37 (arr4 r) (0, 0) _ (HM3.out.old HX2.out) Try.underlying37 rfl (by kernel_rfl) ?_))
  go_at_call 14
  refine (HW2.out A c u3 (HM3.out.rd HRN.out)).mono ?_
  rintro e u4 ⟨U2, cu2, rfl, ho2, hb4⟩
  have HM4 := Lib.hid (HM3.out.step hb4)
  have HO4 := Lib.hid (HO3.out.below hb4)
  have HO42 := Lib.hid ho2
  clear hb4 ho2 HM3 HO3 HW2
  have hcA := run_convert_rd (P := Try.prog) (HM4.out.rd HRN.out) 23 5 9 c Try.underlying23 Try.underlying5 Try.underlying9
  have hcB := run_convert_rd (P := Try.prog) (HM4.out.rd HIN.out) 23 5 9 c2 Try.underlying23 Try.underlying5 Try.underlying9
  have hcC := run_convert_rd (P := Try.prog) HO4.out.rd 23 5 9 cu1 Try.underlying23 Try.underlying5 Try.underlying9
  have hcD := run_convert_rd (P := Try.prog) HO42.out.rd 23 5 9 cu2 Try.underlying23 Try.underlying5 Try.underlying9
  generalize strOfNums (nums n f) = S3 at hcA hcB
  generalize strOfNums (nums M G) = S4 at hcC hcD
  go_upto_if 71 with fail
  clear hcA hcB hcC hcD HO42
  have HcM := Lib.hid HO4.out.cap
  have HcM9 := Lib.hid HO4.out.cap_le
  have HU1 : Hid (Rd u4 u4.heap.size U1 M G) := HO4.out.rd
  clear HO4
  by_cases c0 : X = 0
  · have HX := Lib.hid c0
    have c0' : (X != 0) = false := by simp [c0]
    obtain ⟨hM8, _, hCRn, hCRo⟩ := HBK.out c0
    have HCN := Lib.hid hCRn
    have HCO := Lib.hid hCRo
    clear hCRn hCRo hM8 c0 HBK
    go_wp2_with (first
      | (refine wpList_load_roww rfl 22 (.tmp 8) rfl w.heap.size rfl 22 (arr16 s) (0, 0) _ (HM4.out.old HX0.out) Try.underlying22 rfl (by kernel_rfl) ?_)
      | (refine wpList_load_roww rfl 22 (.tmp 9) rfl (w.heap.size + 1) rfl 22 (arr16 d) (0, 0) _ (HM4.out.old HX1.out) Try.underlying22 rfl (by kernel_rfl) ?_)
      | (refine wpList_load_roww rfl 37 (.tmp 12) rfl (w.heap.size + 1 + 1) rfl 37 (arr4 r) (0, 0) _ (HM4.out.old HX2.out) Try.underlying37 rfl (by kernel_rfl) ?_))
    go_at_call 9
    refine (HRE.out HX.out U1 cu1 u4 HcM.out HcM9.out HU1.out).mono ?_
    rintro e u5 ⟨rfl, hb⟩
    have HM5 := Lib.hid (HM4.out.step hb)
    clear hb HM4 HRE HU1
    have HN : Hid ((u5.alloc (.cells repz 32)).heap[u5.heap.size]? = some (.cells repz 32 (0, 0))) := heap_alloc_new u5 _
    go_upto_region 11 with (first
      | (refine wpList_store_row rfl 32 (.tmp 20) (.tmp 79) rfl u5.heap.size CR rfl rfl 32 repz HN.out (HI38.out.trans (by rw [HSZR.out])) (by rw [HSZR.out]; rfl) HOR.out ?_))
    change Code.wp _ _ _ _ ((u5.alloc (.cells repz 32)).setRow u5.heap.size CR)
    obtain ⟨q0, hq⟩ : ∃ q, q = u5.heap.size := ⟨_, rfl⟩
    have HM6 : Hid (Mem u2 ((u5.alloc (.cells repz 32)).setRow q0 CR) [(q0, .cells CR 32 (0, 0))]) := Lib.hid ((HM5.out.new (.cells repz 32) q0 hq).row 0 rfl CR)
    rw [← hq]
    clear hq HN HM5
    generalize (u5.alloc (.cells repz 32)).setRow q0 CR = u6 at *
    go_wp2_with fail
    go_at_call 7
    refine (HWI.out A c u6 hcap hc9 (HM6.out.rd HRN.out)).mono ?_
    rintro e u7 ⟨rfl, hb⟩
    have HM7 := Lib.hid (HM6.out.step hb)
    clear hb HM6 HWI
    have HN : Hid ((u7.alloc (.cells tupz 27)).heap[u7.heap.size]? = some (.cells tupz 27 (0, 0))) := heap_alloc_new u7 _
    go_upto_if 88 with (first
      | (refine wpList_store_row rfl 27 (.tmp 22) (.tmp 85) rfl u7.heap.size CT rfl rfl 27 tupz HN.out (HI36.out.trans (by rw [HSZT.out])) (by rw [HSZT.out]; rfl) HOT.out ?_))
    change Code.wp _ _ _ _ ((u7.alloc (.cells tupz 27)).setRow u7.heap.size CT)
    obtain ⟨q1, hq⟩ : ∃ q, q = u7.heap.size := ⟨_, rfl⟩
    have HM8 : Hid (Mem u2 ((u7.alloc (.cells tupz 27)).setRow q1 CT) [(q0, .cells CR 32 (0, 0)), (q1, .cells CT 27 (0, 0))]) := Lib.hid ((HM7.out.new (.cells tupz 27) q1 hq).row 1 rfl CT)
    rw [← hq]
    clear hq HN HM7
    generalize (u7.alloc (.cells tupz 27)).setRow q1 CT = u8 at *
    by_cases c1 : E = 0
    · have c1' : (E != 0) = false := by simp [c1]
      have c1'' : (E == 0) = true := by simp [c1]
      have heq : ∀ W, (Op.equalIn 10000 32 (.agg CR) (.agg (repT k o CT))).run Try.prog W = .ok true W := fun W => by
        have q := HQR.out W
        rw [← HCO.out c1]
        exact q
      go_wp2_with (first
        | (refine wpList_load_roww rfl 32 (.tmp 20) rfl q0 rfl 32 CR (0, 0) _ (HM8.out.get 0 rfl) Try.underlying32 rfl (HI38.out.trans (by rw [HSZR.out])) ?_)
        | (refine wpList_load_roww rfl 27 (.tmp 22) rfl q1 rfl 27 CT (0, 0) _ (HM8.out.get 1 rfl) Try.underlying27 rfl (HI36.out.trans (by rw [HSZT.out])) ?_)
        | (refine wpList_rep rfl (.tmp 104) (.tmp 105) (.tmp 106) rfl k o CT rfl rfl rfl (HBR.out _) ?_)
        | (go_at_call 6; refine (KN.out _).mono ?_; rintro e u9 ⟨rfl, hb9⟩))
      go_ret
      exact ⟨rfl, HB2.out.trans ((HM8.out.below.trans (hb9.mono HM8.out.below.size)).mono HB2.out.size)⟩
    · have c1' : (E != 0) = true := by simp [c1]
      have heq : ∀ W, (Op.equalIn 10000 32 (.agg CR) (.agg #[.int .u8 0, .int .u8 0, .bool false, .int .u8 0, .int .u8 0, .int .u8 0, .int .u8 0, .int .u8 0, .int .u8 0, .int .u8 0, .int .u8 0, .int .u8 0, .int .u8 0, .int .u8 0, .int .u8 0, .int .u8 0, .int .u8 0, .int .u8 0, .int .u8 0, .int .u8 0, .int .u8 0, .int .u8 0, .int .u8 0, .int .u8 0, .int .u8 0, .int .u8 0, .int .u8 0, .int .u8 0, .int .u8 0, .int .u8 0, .int .u8 0, .int .u8 0, .int .u8 0, .int .u8 0, .int .u8 0, .int .u8 0, .int .u16 0, .int .u16 0])).run Try.prog W = .ok true W := fun W => by
        have q := HQR.out W
        rw [← repz_lit, ← HCN.out c1]
        exact q
      go_wp2_with (first
        | (refine wpList_load_roww rfl 32 (.tmp 20) rfl q0 rfl 32 CR (0, 0) _ (HM8.out.get 0 rfl) Try.underlying32 rfl (HI38.out.trans (by rw [HSZR.out])) ?_)
        | (go_at_call 6; refine (KN.out _).mono ?_; rintro e u9 ⟨rfl, hb9⟩))
      go_ret
      exact ⟨rfl, HB2.out.trans ((HM8.out.below.trans (hb9.mono HM8.out.below.size)).mono HB2.out.size)⟩
  · have c0' : (X != 0) = true := by simpa using c0
    go_wp2_with (first
      | (go_at_call 6; refine (KN.out _).mono ?_; rintro e u5 ⟨rfl, hb5⟩))
    go_ret
    exact ⟨rfl, HB2.out.trans ((HM4.out.below.trans (hb5.mono HM4.out.below.size)).mono HB2.out.size)⟩
end Go.Proofs.Ytfaelihfjmaekaa
