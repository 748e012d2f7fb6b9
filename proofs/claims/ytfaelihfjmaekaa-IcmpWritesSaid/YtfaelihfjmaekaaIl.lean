/- IcmpReads, walked. -/
import Derived.Test.YtfaelihfjmaekaaIk
import Derived.Test.YtfaelihfjmaekaaIh
namespace Go.Proofs.Ytfaelihfjmaekaa
open Go.RowKit
theorem Mem.old {w W : World} {L : List (Nat × Obj)} (h : Mem w W L) {g : Nat} {o : Obj} (hg : w.heap[g]? = some o) : W.heap[g]? = some o := (h.below.block _ (lt_heap hg)).trans hg
theorem Mem.rdo {w W : World} {L : List (Nat × Obj)} (h : Mem w W L) {A : Option Addr} {n : Nat} {f : Nat → Int} (hr : Rd w w.heap.size A n f) : Rd W W.heap.size A n f := h.rd hr
set_option maxRecDepth 100000 in
set_option maxHeartbeats 4000000 in
theorem ireads_long (v6 : Bool) (s d : Nat → Int) (A : Option Addr) (n c : Nat) (h : 1700 < n) (w : World) :
    Calls Try.prog 3 #[.bool v6, .agg (arr16 s), .agg (arr16 d), .slice A n c] w fun e w' => e = .returned (.bool true) ∧ Below w.heap.size w w' := by
  have KN := Lib.hid known_any
  have h' : (n : Int) > 1700 := by omega
  have HX := Lib.hid (Box2.start w s d)
  go_enter Try.func3, Try.ntmps3
  go_upto_if 20 with fail
  change Code.wp _ _ _ _ ((w.alloc (.cells (arr16 s) 22)).alloc (.cells (arr16 d) 22))
  generalize (w.alloc (.cells (arr16 s) 22)).alloc (.cells (arr16 d) 22) = u1 at *
  go_wp2_with (first
    | (go_at_call 6; refine (KN.out _).mono ?_; rintro e u2 ⟨rfl, hb2⟩))
  go_ret
  exact ⟨rfl, HX.out.below.trans (hb2.mono HX.out.below.size)⟩
set_option maxRecDepth 100000 in
set_option maxHeartbeats 4000000 in
theorem ireads_any (v6 : Bool) (s d : Nat → Int) (hs : Byt s) (hd : Byt d) (A : Option Addr) (n c : Nat) (f : Nat → Int) (hf : Byt f) (hn : n ≤ 1700) (hcap : n ≤ c) (hc9 : c ≤ 9223372036854775807) (w : World) (hr : Rd w w.heap.size A n f) :
    Calls Try.prog 3 #[.bool v6, .agg (arr16 s), .agg (arr16 d), .slice A n c] w fun e w' => e = .returned (.bool true) ∧ Below w.heap.size w w' := by
  obtain ⟨i0, hi0, hz0, hz1, hz2⟩ := info_parts Try.info5
  have HI0 := Lib.hid hi0
  have HZ0 := Lib.hid hz0
  have HZ1 := Lib.hid hz1
  have HZ2 := Lib.hid hz2
  clear hi0 hz0 hz1 hz2
  have KN := Lib.hid known_any
  have HI36 := Lib.hid (show (Try.prog.info? 27).map (·.size) = some 36 by kernel_rfl)
  have HI38 := Lib.hid (show (Try.prog.info? 32).map (·.size) = some 38 by kernel_rfl)
  obtain ⟨S, hS⟩ : ∃ S, S = mS v6 s d n := ⟨_, rfl⟩
  obtain ⟨CT, hCT⟩ : ∃ C, C = wT v6 f n := ⟨_, rfl⟩
  obtain ⟨ET, hET⟩ : ∃ E, E = winE v6 f n := ⟨_, rfl⟩
  obtain ⟨CR, hCR⟩ : ∃ C, C = rT v6 S f n := ⟨_, rfl⟩
  obtain ⟨ER, hER⟩ : ∃ E, E = icE v6 S f n := ⟨_, rfl⟩
  have HSZT : Hid (CT.size = 36) := Lib.hid (by rw [hCT]; exact wT_size ..)
  have HOT : Hid (CT.all (·.oneCell') = true) := Lib.hid (by rw [hCT]; exact wT_one ..)
  have HSZR : Hid (CR.size = 38) := Lib.hid (by rw [hCR]; exact rT_size ..)
  have HOR : Hid (CR.all (·.oneCell') = true) := Lib.hid (by rw [hCR]; exact rT_one ..)
  have HQT : Hid (∀ W, (Op.equalIn 10000 27 (.agg CT) (.agg CT)).run Try.prog W = .ok true W) := Lib.hid fun W => by rw [hCT]; exact eq_wT v6 f n W
  have HQR : Hid (∀ W, (Op.equalIn 10000 32 (.agg CR) (.agg CR)).run Try.prog W = .ok true W) := Lib.hid fun W => by rw [hCR]; exact eq_rT v6 S f n W
  have HWI : Hid (∀ A' c' W, n ≤ c' → c' ≤ 9223372036854775807 → Rd W W.heap.size A' n f → Calls Try.prog 7 #[.bool v6, .slice A' n c'] W fun e w' => e = .returned (.tuple #[.agg CT, .int .i64 ET]) ∧ Below W.heap.size W w') := Lib.hid fun A' c' W h1 h2 hr => by
    rw [hCT, hET]
    exact within_any v6 A' n c' f hf (by omega) h1 h2 W hr
  have HRW : Hid (∀ A' c' W, n ≤ c' → c' ≤ 9223372036854775807 → Rd W W.heap.size A' n f → Calls Try.prog 8 #[.bool v6, .slice A' n c'] W fun e w' => e = .returned (.tuple #[.agg CT, .int .i64 ET]) ∧ Below W.heap.size W w') := Lib.hid fun A' c' W h1 h2 hr => by
    rw [hCT, hET]
    exact rwithin_any v6 A' n c' f hf (by omega) h1 h2 W hr
  have HRE : Hid (∀ A' c' W, n ≤ c' → c' ≤ 9223372036854775807 → Rd W W.heap.size A' n f → Calls Try.prog 9 #[.bool v6, .agg (arr16 s), .agg (arr16 d), .slice A' n c'] W fun e w' => e = .returned (.tuple #[.agg CR, .int .i64 ER]) ∧ Below W.heap.size W w') := Lib.hid fun A' c' W h1 h2 hr => by
    rw [hCR, hER, hS]
    exact iread_any v6 s d hs hd A' n c' f hf (by omega) h1 h2 W hr
  have HRR : Hid (∀ A' c' W, n ≤ c' → c' ≤ 9223372036854775807 → Rd W W.heap.size A' n f → Calls Try.prog 10 #[.bool v6, .agg (arr16 s), .agg (arr16 d), .slice A' n c'] W fun e w' => e = .returned (.tuple #[.agg CR, .int .i64 ER]) ∧ Below W.heap.size W w') := Lib.hid fun A' c' W h1 h2 hr => by
    rw [hCR, hER, hS]
    exact riread_any v6 s d hs hd A' n c' f hf (by omega) h1 h2 W hr
  have HR := Lib.hid hr
  obtain ⟨kk, hkk⟩ : ∃ kk : Int, kk = (n : Int) % 256 := ⟨_, rfl⟩
  have hkb : 0 ≤ kk ∧ kk ≤ 255 := by omega
  have hkw : IntKind.u8.wrap (n : Int) = kk := by rw [IntKind.wrap_u8', hkk]
  obtain ⟨eb, heb⟩ : ∃ eb, eb = errK v6 kk := ⟨_, rfl⟩
  have HE1 : Hid (∀ W, Calls Try.prog 11 #[.bool v6, .int .u8 kk] W fun e w' => e = .returned (.bool eb) ∧ W = w') := Lib.hid fun W => by
    rw [heb]
    exact isErr_any v6 kk hkb W
  have HE2 : Hid (∀ W, Calls Try.prog 12 #[.bool v6, .int .u8 kk] W fun e w' => e = .returned (.bool eb) ∧ W = w') := Lib.hid fun W => by
    rw [heb]
    exact risErr_any v6 kk hkb W
  have HKW := Lib.hid hkw
  clear hs hd hf hr hS hCT hET hCR hER hkk hkb heb hkw
  have g1 : ¬ (1700 : Int) < (n : Int) := by omega
  have HX := Lib.hid (Box2.start w s d)
  go_enter Try.func3, Try.ntmps3
  go_upto_if 20 with fail
  change Code.wp _ _ _ _ ((w.alloc (.cells (arr16 s) 22)).alloc (.cells (arr16 d) 22))
  generalize (w.alloc (.cells (arr16 s) 22)).alloc (.cells (arr16 d) 22) = u1 at *
  have HO0 : Hid (Own (u1.alloc (.cells #[] 5)) u1.heap.size 5 (some ⟨u1.heap.size, 0, none⟩) 0 0 (fun _ => 0)) := Own.fresh u1 _ _ rfl (Nat.le_refl _) _ _
  have B10 : Hid (Below u1.heap.size u1 (u1.alloc (.cells #[] 5))) := below_alloc u1 _
  go_upto_region 4 with (first
    | (at_builtin
       refine wpList_append_rd rfl (.tmp 22) (.tmp 23) _ rfl u1.heap.size 5 i0 Try.underlying23 HI0.out HZ0.out HZ1.out HZ2.out rfl HO0.out rfl (HR.out.keep (HX.out.below.trans (B10.out.mono HX.out.below.size))) (by omega) (alloc_le u1 _) ?_
       intro A2 c2 u2 hown2 hg2 _
       rw [Nat.zero_add] at hown2
       have HO2 : Hid (Own u2 u1.heap.size 5 A2 n c2 f) := hown2.same fun k _ => by simp [cat]
       have B12 : Hid (Below u1.heap.size u1 u2) := B10.out.grown hg2 B10.out.size (fun k hk => HO0.out.at_ k hk)
       rw [Nat.zero_add]
       clear hown2 hg2))
  have HXb := Lib.hid (HX.out.step B12.out)
  have HX0 := Lib.hid HXb.out.b0
  have HX1 := Lib.hid HXb.out.b1
  have HIN : Hid (Rd u2 u2.heap.size A2 n f) := HO2.out.rd
  have HRN : Hid (Rd u2 u2.heap.size A n f) := (HR.out.keep HXb.out.below).more HXb.out.below.size
  have HB2 := Lib.hid HXb.out.below
  have hc2 := HO2.out.cap
  have hc29 := HO2.out.cap_le
  clear HO0 B10 B12 HX HO2 g1 HXb HR
  have HM2 := Lib.hid (Mem.nil u2)
  go_wp2_with fail
  go_at_call 7
  refine (HWI.out A2 c2 u2 hc2 hc29 HIN.out).mono ?_
  rintro e u3 ⟨rfl, hb⟩
  have HM3 := Lib.hid (HM2.out.step hb)
  clear hb HM2
  have HN : Hid ((u3.alloc (.cells tupz 27)).heap[u3.heap.size]? = some (.cells tupz 27 (0, 0))) := heap_alloc_new u3 _
  go_upto_region 5 with (first
    | (refine wpList_store_row rfl 27 (.tmp 10) (.tmp 29) rfl u3.heap.size CT rfl rfl 27 tupz HN.out (HI36.out.trans (by rw [HSZT.out])) (by rw [HSZT.out]; rfl) HOT.out ?_))
  change Code.wp _ _ _ _ ((u3.alloc (.cells tupz 27)).setRow u3.heap.size CT)
  obtain ⟨q0, hq⟩ : ∃ q, q = u3.heap.size := ⟨_, rfl⟩
  have HM4 : Hid (Mem u2 ((u3.alloc (.cells tupz 27)).setRow q0 CT) [(q0, .cells CT 27 (0, 0))]) := Lib.hid ((HM3.out.new (.cells tupz 27) q0 hq).row 0 rfl CT)
  rw [← hq]
  clear hq HN HM3
  generalize (u3.alloc (.cells tupz 27)).setRow q0 CT = u4 at *
  go_wp2_with fail
  go_at_call 8
  refine (HRW.out A c u4 hcap hc9 (HM4.out.rd HRN.out)).mono ?_
  rintro e u5 ⟨rfl, hb⟩
  have HM5 := Lib.hid (HM4.out.step hb)
  clear hb HM4
  have HN : Hid ((u5.alloc (.cells tupz 27)).heap[u5.heap.size]? = some (.cells tupz 27 (0, 0))) := heap_alloc_new u5 _
  go_upto_region 6 with (first
    | (refine wpList_store_row rfl 27 (.tmp 12) (.tmp 35) rfl u5.heap.size CT rfl rfl 27 tupz HN.out (HI36.out.trans (by rw [HSZT.out])) (by rw [HSZT.out]; rfl) HOT.out ?_))
  change Code.wp _ _ _ _ ((u5.alloc (.cells tupz 27)).setRow u5.heap.size CT)
  obtain ⟨q1, hq⟩ : ∃ q, q = u5.heap.size := ⟨_, rfl⟩
  have HM6 : Hid (Mem u2 ((u5.alloc (.cells tupz 27)).setRow q1 CT) [(q0, .cells CT 27 (0, 0)), (q1, .cells CT 27 (0, 0))]) := Lib.hid ((HM5.out.new (.cells tupz 27) q1 hq).row 1 rfl CT)
  rw [← hq]
  clear hq HN HM5
  generalize (u5.alloc (.cells tupz 27)).setRow q1 CT = u6 at *
  go_wp2_with (first
    | (refine wpList_load_roww rfl 22 (.tmp 5) rfl w.heap.size rfl 22 (arr16 s) (0, 0) _ (HM6.out.old HX0.out) Try.underlying22 rfl (by kernel_rfl) ?_)
    | (refine wpList_load_roww rfl 22 (.tmp 6) rfl (w.heap.size + 1) rfl 22 (arr16 d) (0, 0) _ (HM6.out.old HX1.out) Try.underlying22 rfl (by kernel_rfl) ?_))
  go_at_call 9
  refine (HRE.out A2 c2 u6 hc2 hc29 (HM6.out.rd HIN.out)).mono ?_
  rintro e u7 ⟨rfl, hb⟩
  have HM7 := Lib.hid (HM6.out.step hb)
  clear hb HM6
  have HN : Hid ((u7.alloc (.cells repz 32)).heap[u7.heap.size]? = some (.cells repz 32 (0, 0))) := heap_alloc_new u7 _
  go_upto_region 7 with (first
    | (refine wpList_store_row rfl 32 (.tmp 14) (.tmp 43) rfl u7.heap.size CR rfl rfl 32 repz HN.out (HI38.out.trans (by rw [HSZR.out])) (by rw [HSZR.out]; rfl) HOR.out ?_))
  change Code.wp _ _ _ _ ((u7.alloc (.cells repz 32)).setRow u7.heap.size CR)
  obtain ⟨q2, hq⟩ : ∃ q, q = u7.heap.size := ⟨_, rfl⟩
  have HM8 : Hid (Mem u2 ((u7.alloc (.cells repz 32)).setRow q2 CR) [(q0, .cells CT 27 (0, 0)), (q1, .cells CT 27 (0, 0)), (q2, .cells CR 32 (0, 0))]) := Lib.hid ((HM7.out.new (.cells repz 32) q2 hq).row 2 rfl CR)
  rw [← hq]
  clear hq HN HM7
  generalize (u7.alloc (.cells repz 32)).setRow q2 CR = u8 at *
  go_wp2_with (first
    | (refine wpList_load_roww rfl 22 (.tmp 5) rfl w.heap.size rfl 22 (arr16 s) (0, 0) _ (HM8.out.old HX0.out) Try.underlying22 rfl (by kernel_rfl) ?_)
    | (refine wpList_load_roww rfl 22 (.tmp 6) rfl (w.heap.size + 1) rfl 22 (arr16 d) (0, 0) _ (HM8.out.old HX1.out) Try.underlying22 rfl (by kernel_rfl) ?_))
  go_at_call 10
  refine (HRR.out A c u8 hcap hc9 (HM8.out.rd HRN.out)).mono ?_
  rintro e u9 ⟨rfl, hb⟩
  have HM9 := Lib.hid (HM8.out.step hb)
  clear hb HM8
  have HN : Hid ((u9.alloc (.cells repz 32)).heap[u9.heap.size]? = some (.cells repz 32 (0, 0))) := heap_alloc_new u9 _
  go_upto_region 8 with (first
    | (refine wpList_store_row rfl 32 (.tmp 16) (.tmp 51) rfl u9.heap.size CR rfl rfl 32 repz HN.out (HI38.out.trans (by rw [HSZR.out])) (by rw [HSZR.out]; rfl) HOR.out ?_))
  change Code.wp _ _ _ _ ((u9.alloc (.cells repz 32)).setRow u9.heap.size CR)
  obtain ⟨q3, hq⟩ : ∃ q, q = u9.heap.size := ⟨_, rfl⟩
  have HM10 : Hid (Mem u2 ((u9.alloc (.cells repz 32)).setRow q3 CR) [(q0, .cells CT 27 (0, 0)), (q1, .cells CT 27 (0, 0)), (q2, .cells CR 32 (0, 0)), (q3, .cells CR 32 (0, 0))]) := Lib.hid ((HM9.out.new (.cells repz 32) q3 hq).row 3 rfl CR)
  rw [← hq]
  clear hq HN HM9
  generalize (u9.alloc (.cells repz 32)).setRow q3 CR = u10 at *
  have hcA := run_convert_rd (P := Try.prog) (HM10.out.rd HRN.out) 23 5 9 c Try.underlying23 Try.underlying5 Try.underlying9
  have hcB := run_convert_rd (P := Try.prog) (HM10.out.rd HIN.out) 23 5 9 c2 Try.underlying23 Try.underlying5 Try.underlying9
  generalize strOfNums (nums n f) = S3 at hcA hcB
  have hqT := HQT.out
  have hqR := HQR.out
  have hkw := HKW.out
  go_wp2_with (first
    | (refine wpList_load_roww rfl 27 (.tmp 10) rfl q0 rfl 27 CT (0, 0) _ (HM10.out.get 0 rfl) Try.underlying27 rfl (HI36.out.trans (by rw [HSZT.out])) ?_)
    | (refine wpList_load_roww rfl 27 (.tmp 12) rfl q1 rfl 27 CT (0, 0) _ (HM10.out.get 1 rfl) Try.underlying27 rfl (HI36.out.trans (by rw [HSZT.out])) ?_)
    | (refine wpList_load_roww rfl 32 (.tmp 14) rfl q2 rfl 32 CR (0, 0) _ (HM10.out.get 2 rfl) Try.underlying32 rfl (HI38.out.trans (by rw [HSZR.out])) ?_)
    | (refine wpList_load_roww rfl 32 (.tmp 16) rfl q3 rfl 32 CR (0, 0) _ (HM10.out.get 3 rfl) Try.underlying32 rfl (HI38.out.trans (by rw [HSZR.out])) ?_)
    | (go_at_call 11; refine (HE1.out _).mono ?_; rintro e w' ⟨rfl, rfl⟩)
    | (go_at_call 12; refine (HE2.out _).mono ?_; rintro e w' ⟨rfl, rfl⟩)
    | (go_at_call 6; refine (KN.out _).mono ?_; rintro e u11 ⟨rfl, hb11⟩))
  go_ret
  exact ⟨rfl, HB2.out.trans ((HM10.out.below.trans (hb11.mono HM10.out.below.size)).mono HB2.out.size)⟩
end Go.Proofs.Ytfaelihfjmaekaa
