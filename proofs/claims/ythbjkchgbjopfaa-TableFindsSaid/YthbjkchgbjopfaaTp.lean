/- Stage 13: the law's dropped; TableFinds. -/
import Derived.Test.YthbjkchgbjopfaaTo
import Derived.Test.YthbjkchgbjopfaaTg
namespace Go.Proofs.Ythbjkchgbjopfaa
set_option maxRecDepth 100000
open Go.RowKit Go.Shelf
theorem dr_ful {s : Tb} {k : Nat} (hk : k < s.n) (hf : s.ful k = true) : s.dr (k : Int) = s.gone k ∧ s.drE (k : Int) = 0 := by
  have h0 : (0 : Int) ≤ (k : Int) := by omega
  have h1 : (k : Int) < (s.n : Int) := by omega
  have hi : s.isF (k : Int) = true := by
    unfold Tb.isF
    rw [decide_eq_true h0, decide_eq_true h1, Int.toNat_natCast, hf]
    rfl
  refine ⟨?_, ?_⟩
  · unfold Tb.dr
    rw [hi, Int.toNat_natCast]
    rfl
  · unfold Tb.drE
    rw [decide_eq_true h0, decide_eq_true h1, Int.toNat_natCast, hf]
    rfl
/-- A flag that is not up is put down. -/
theorem fi_idle {s : Tb} {M : List (Nat × Bool)} (h : Tb.Fi s M) {x : Nat} (hm : mlook x M = false) : Tb.Fi s (mput x false M) := by
  have e : ∀ y, mlook y (mput x false M) = mlook y M := fun y => by
    rw [mlook_put]
    by_cases q : y = x
    · rw [if_pos q, q, hm]
    · rw [if_neg q]
  refine ⟨h.n32, h.ok, fun k hk hf => ?_, h.one, fun y hy => h.has y (by rw [← e]; exact hy), h.rch, ?_⟩
  · rw [e]
    exact h.own k hk hf
  · have h1 := trues_put x false M
    rw [hm] at h1
    have h1 : trues (mput x false M) + 0 = trues M + 0 := h1
    rw [← h.cnt]
    omega
section
variable {PT : World → Nat → Tb → (Nat → Prop) → Prop} {g : Nat}
theorem dropped_any (HP0 : TabP PT g) {W : World} {p : Nat} {s : Tb} {F : Nat → Prop} (h : PT W p s F) (hs : s.Ok) (H X : Nat) (hH : H < 18446744073709551616) {k : Nat} (hf : s.find H X = some k) : Calls Try.prog 19 #[.pointer (some ⟨p, 0, none⟩), .agg #[.int .u64 (H : Int), .int .u32 (X : Int)]] W fun e w' => e = .returned (.int .i64 (s.drE (k : Int))) ∧ ∃ F', PT w' p (s.dr (k : Int)) F' ∧ ExtG F F' W w' := by
  have HP := Lib.hid HP0
  have HS := Lib.hid hs
  have HB : Hid (Below W.heap.size W (W.alloc (.cells #[.int .u64 (H : Int), .int .u32 (X : Int)] 34))) := Lib.hid (below_alloc W _)
  have HM : Hid ((W.alloc (.cells #[.int .u64 (H : Int), .int .u32 (X : Int)] 34)).heap[W.heap.size]? = some (.cells #[.int .u64 (H : Int), .int .u32 (X : Int)] 34 (0, 0))) := Lib.hid (heap_alloc_new W _)
  have h1 := HP0.foot.keep h (Kept.of_below HB.out fun _ => False) fun _ _ q => q
  have HF1 := Lib.hid h1
  have HLF := Lib.hid (lfind_any HP0 h1 hs H X hH)
  have hv : s.fdV H X = #[.int .i64 (k : Int), .bool true] := by unfold Tb.fdV; rw [hf]
  rw [hv] at HLF
  obtain ⟨EE, hEE⟩ : ∃ E, E = s.drE (k : Int) := ⟨_, rfl⟩
  have HEE := Lib.hid hEE
  rw [← hEE]
  clear h1 hv h hs HP0 hf hEE
  go_enter Try.func19, Try.ntmps19
  go_upto_region 1 with fail
  change Code.wp _ _ _ _ (W.alloc (.cells #[.int .u64 (H : Int), .int .u32 (X : Int)] 34))
  generalize W.alloc (.cells #[.int .u64 (H : Int), .int .u32 (X : Int)] 34) = u1 at *
  obtain ⟨b3, hb3⟩ : ∃ b, b = W.heap.size := ⟨_, rfl⟩
  rw [← hb3] at HM ⊢
  clear hb3
  have e0 : u1.cell? ⟨b3, 0, none⟩ = some (.int .u64 (H : Int)) := blk_cell HM.out 0
  have e1 : u1.cell? ⟨b3, 1, none⟩ = some (.int .u32 (X : Int)) := blk_cell HM.out 1
  go_upto_region 2 with (first
    | (go_at_call 14
       refine HLF.out.mono ?_
       rintro e u2 ⟨rfl, hb⟩
       have HF2 := Lib.hid (HP.out.foot.keep HF1.out (Kept.of_below hb fun _ => False) fun _ _ q => q)
       have HB2 := Lib.hid (HB.out.trans (hb.mono HB.out.size))
       clear hb))
  clear e0 e1
  go_wp2_with (first
    | (go_at_call 12
       refine (HP.out.drop HF2.out HS.out (k : Int)).mono ?_
       rintro e u3 ⟨rfl, F', hp, hx⟩
       rw [← HEE.out]
       have HF3 := Lib.hid hp
       have HX3 := Lib.hid ((ExtG.of_below HB2.out).trans hx)
       clear hp hx))
  go_ret
  exact ⟨rfl, F', HF3.out, HX3.out⟩
theorem entries_m {w W : World} {X : Nat → Prop} {p : Nat} {s : Tb} (HP : TabP PT g) (h : StG PT w X W p s) (hs : s.Ok) : Calls Try.prog 22 #[.pointer (some ⟨p, 0, none⟩)] W (ret (.int .i64 (s.entries : Int)) W) := by
  obtain ⟨F, hF, _⟩ := h
  exact HP.entries hF hs
theorem tfinds_long (HP : TabP PT g) (A : Option Addr) (m c : Nat) (hm : 60 < m) (w : World) : Calls Try.prog 4 #[.slice A m c] w (ret (.bool true) w) := by
  have h1 : (60 : Int) < (m : Int) := by omega
  have HN := Lib.hid (HP.new 32 w (by decide))
  have HK := Lib.hid fun W => tknown_any HP W
  clear HP
  go_enter Try.func4, Try.ntmps4
  go_wp2_with (first
    | (go_at_call 7
       refine HN.out.mono ?_
       rintro e v ⟨p, F, rfl, _, _, hb⟩
       have HB := Lib.hid hb
       clear hb)
    | (go_at_call 6
       refine (HK.out _).mono ?_
       rintro e u ⟨rfl, hb⟩
       have HB2 := Lib.hid (HB.out.trans (hb.mono HB.out.size))
       clear hb))
  go_ret
  exact ⟨rfl, HB2.out⟩
set_option maxHeartbeats 8000000 in
theorem tfinds_any (HP0 : TabP PT g) (A : Option Addr) (m c : Nat) (f : Nat → Int) (hf : Byt f) (hm : m ≤ 60) (w : World) (hr : Rd w w.heap.size A m f) : Calls Try.prog 4 #[.slice A m c] w (ret (.bool true) w) := by
  have h1 : ¬ (60 : Int) < (m : Int) := by omega
  have HP := Lib.hid HP0
  have HR := Lib.hid hr
  have HF := Lib.hid hf
  have HN := Lib.hid (HP0.new 32 w (by decide))
  have hmm := @run_makeMap Try.prog
  clear hr hf HP0
  go_enter Try.func4, Try.ntmps4
  go_upto_region 6 with (first
    | (go_at_call 7
       refine HN.out.mono ?_
       rintro e v ⟨p, F, rfl, hF0, hn, hb⟩
       have HS0 := Lib.hid (StG.start ⟨F, hF0, hn⟩ hb)
       clear hF0 hn hb))
  go_upto_region 7 with fail
  have HS1 := Lib.hid ((HS0.out.box HP.out.foot (.map #[] 0)).less (Y := fun k => k = v.heap.size) fun k e => .inr e)
  have HM1 := Lib.hid (rmap_new v kvU)
  have HBW : Hid (w.heap.size ≤ v.heap.size) := Lib.hid HS0.out.below.size
  obtain ⟨bm, hbm⟩ : ∃ b, b = v.heap.size := ⟨_, rfl⟩
  rw [← hbm] at HS1 HM1 HBW ⊢
  clear hbm hmm HS0
  generalize v.alloc (.map #[] 0) = u1 at *
  go_wp2_with fail
  go_loopw [31] (fun vi wr => ∃ (k : Nat) (s : Tb) (M : List (Nat × Bool)), k ≤ m ∧ vi = .int .i64 (k : Int) ∧ Tb.Fi s M ∧ M.length ≤ k ∧ StG PT w (fun j => j = bm) wr p s ∧ RMap wr bm kvU (boolL M)) (fun vi _ => m - (intOf vi).toNat)
  case atStart => exact ⟨0, Tb.new 32, [], Nat.zero_le _, rfl, Tb.fi_new, Nat.le_refl _, HS1.out, HM1.out⟩
  case round =>
    obtain ⟨k, s, M, hk, rfl, hfi, hlen, hst, hrm⟩ := hrel
    have HFI := Lib.hid hfi
    have HLEN := Lib.hid hlen
    have HSr := Lib.hid hst
    have HRr := Lib.hid hrm
    clear hfi hlen hst hrm
    by_cases hkm : k < m
    · rcases HR.out with h0 | ⟨bA, off, rfl, hbl, hcl⟩
      · omega
      obtain ⟨x, hxe⟩ := Int.eq_ofNat_of_zero_le (HF.out k).1
      have hx : x < 256 := by have := (HF.out k).2; omega
      have z0 : wr.cell? ⟨bA, off + k, none⟩ = some (.int .u8 (x : Int)) := by
        rw [← hxe]
        exact (HSr.out.below.cell (p := ⟨bA, off + k, none⟩) hbl).trans (hcl k hkm)
      have i0 : (0 : Int) ≤ (k : Int) := by omega
      have i1 : (k : Int) < (m : Int) := by omega
      have i2 : ((k : Int)).toNat = k := by omega
      have zk : IntKind.i64.wrap ((k : Int) + 1) = (k : Int) + 1 := by rw [IntKind.wrap_i64]; omega
      have zx : IntKind.u64.wrap ((x : Int) % 5) = ((x % 5 : Nat) : Int) := by rw [IntKind.wrap_u64]; omega
      have zx2 : IntKind.u32.wrap (x : Int) = (x : Int) := by rw [IntKind.wrap_u32]; omega
      clear hbl hcl hxe
      go_upto_region 11 with fail
      rw [show (x : Int) % 5 = ((x % 5 : Nat) : Int) by omega]
      have HS1 := Lib.hid (HSr.out.box HP.out.foot (.cells #[.int .u64 ((x % 5 : Nat) : Int), .int .u32 (x : Int)] 34))
      have HR1 := Lib.hid (HRr.out.step (below_alloc wr (.cells #[.int .u64 ((x % 5 : Nat) : Int), .int .u32 (x : Int)] 34)))
      have HO1 : Hid ((wr.alloc (.cells #[.int .u64 ((x % 5 : Nat) : Int), .int .u32 (x : Int)] 34)).heap[wr.heap.size]? = some (.cells #[.int .u64 ((x % 5 : Nat) : Int), .int .u32 (x : Int)] 34 (0, 0))) := Lib.hid (heap_alloc_new wr _)
      obtain ⟨b8, hb8⟩ : ∃ b, b = wr.heap.size := ⟨_, rfl⟩
      rw [← hb8] at HS1 HO1 ⊢
      clear hb8 z0 i0 i1 i2 zx zx2 HSr HRr
      generalize wr.alloc (.cells #[.int .u64 ((x % 5 : Nat) : Int), .int .u32 (x : Int)] 34) = v1 at *
      have o0 : v1.cell? ⟨b8, 0, none⟩ = some (.int .u64 ((x % 5 : Nat) : Int)) := blk_cell HO1.out 0
      have o1 : v1.cell? ⟨b8, 1, none⟩ = some (.int .u32 (x : Int)) := blk_cell HO1.out 1
      obtain ⟨F1, hF1, _⟩ := HS1.out
      have HFD := Lib.hid (lfind_any HP.out hF1 HFI.out.ok (x % 5) x (by omega))
      clear hF1
      cases hml : mlook x M with
      | true =>
        have HML := Lib.hid hml
        clear hml
        cases hfr : s.free (x % 5) with
        | none =>
          obtain ⟨k0, hfd, hk0, hf0, hw0, he0⟩ := HFI.out.find_yes HML.out
          have HFD2 : Hid (s.fdV (x % 5) x = #[.int .i64 (k0 : Int), .bool true]) := Lib.hid (by unfold Tb.fdV; rw [hfd])
          have HPT : Hid (s.ptI (x % 5) = 0 ∧ s.ptE (x % 5) = 9 ∧ s.pt (x % 5) x = s) := Lib.hid (by unfold Tb.ptI Tb.ptE Tb.pt; rw [hfr]; exact ⟨rfl, rfl, rfl⟩)
          have HDR := Lib.hid (dr_ful (s := s) (k := k0) (by rw [HFI.out.n32]; exact hk0) hf0)
          have HFN : Hid (Tb.Fi (s.gone k0) (mput x false M)) := Lib.hid (HFI.out.drop HML.out hk0 hf0 hw0)
          rw [HFD2.out] at HFD
          clear hfd hk0 hf0 hw0 he0 hfr
          go_upto_region 12 with (first
            | (go_at_call 14
               refine HFD.out.mono ?_
               rintro e v2 ⟨rfl, hb⟩
               have HB2 := Lib.hid hb
               clear hb))
          have HS2 := Lib.hid (HS1.out.step HP.out.foot HB2.out)
          have HR2 := Lib.hid (HR1.out.step HB2.out)
          have HO2 : Hid (v2.heap[b8]? = some (.cells #[.int .u64 ((x % 5 : Nat) : Int), .int .u32 (x : Int)] 34 (0, 0))) := Lib.hid ((HB2.out.block b8 (lt_heap HO1.out)).trans HO1.out)
          clear o0 o1 HS1 HR1 HO1 HB2 HFD
          have hlook : (Instr.lookup 48 (.map (some bm)) (.int .u8 (x : Int)) false).run Try.prog v2 = .ok (.bool true) v2 := (look_m HR2.out x).trans (by rw [HML.out])
          have o0 : v2.cell? ⟨b8, 0, none⟩ = some (.int .u64 ((x % 5 : Nat) : Int)) := blk_cell HO2.out 0
          have o1 : v2.cell? ⟨b8, 1, none⟩ = some (.int .u32 (x : Int)) := blk_cell HO2.out 1
          have hbn : (true != true) = false := rfl
          go_upto_region 14 with fail
          clear hlook hbn
          go_upto_region 16 with (first
            | (go_at_call 10
               refine (HS2.out.call fun G hG => HP.out.put hG HFI.out.ok (x % 5) x (by omega) (by omega)).mono ?_
               rintro e v3 ⟨rfl, hst, hx⟩
               rw [HPT.out.1, HPT.out.2.1, HPT.out.2.2] at *
               have HS3 := Lib.hid hst
               have HR3 := Lib.hid (HR2.out.block (hx bm (.inl rfl)))
               have HO3 : Hid (v3.heap[b8]? = some (.cells #[.int .u64 ((x % 5 : Nat) : Int), .int .u32 (x : Int)] 34 (0, 0))) := Lib.hid ((hx b8 (.inr rfl)).trans HO2.out)
               clear hst hx))
          clear o0 o1 HS2 HR2 HO2
          have o0 : v3.cell? ⟨b8, 0, none⟩ = some (.int .u64 ((x % 5 : Nat) : Int)) := blk_cell HO3.out 0
          have o1 : v3.cell? ⟨b8, 1, none⟩ = some (.int .u32 (x : Int)) := blk_cell HO3.out 1
          go_upto_region 18 with (first
            | (go_at_call 12
               refine (HS3.out.call fun G hG => HP.out.drop hG HFI.out.ok (k0 : Int)).mono ?_
               rintro e v4 ⟨rfl, hst, hx⟩
               rw [HDR.out.2] at *
               have HS4 := Lib.hid hst
               have HR4 := Lib.hid (HR3.out.block (hx bm (.inl rfl)))
               clear hst hx))
          rw [HDR.out.1] at HS4
          clear o0 o1 HS3 HR3 HO3
          obtain ⟨w7, hput, hr7, hk7, hz7⟩ := HR4.out.put (P := Try.prog) Try.underlying48 keyU x (.bool false)
          rw [boolL_put] at hr7
          have hput : (Instr.mapUpdate 48 (.map (some bm)) (.int .u8 (x : Int)) (.bool false)).run Try.prog v4 = .ok () w7 := hput
          have HR7 := Lib.hid hr7
          have HS7 := Lib.hid ((HS4.out.turn HP.out.foot hk7 fun k e => ⟨.inl e, by rw [e]; exact HBW.out⟩).less (Y := fun k => k = bm) fun k e => .inl e)
          clear hr7 hk7 hz7
          go_upto_region 23 with fail
          clear hput
          have HML7 : Hid ((mput x false M).length ≤ k + 1) := Lib.hid (Nat.le_trans (mput_len _ _ _) (by have := HLEN.out; omega))
          obtain ⟨s7, hs7⟩ : ∃ s7, s7 = s.gone k0 := ⟨_, rfl⟩
          obtain ⟨M7, hM7⟩ : ∃ M7, M7 = mput x false M := ⟨_, rfl⟩
          rw [← hs7] at HS7 HFN
          rw [← hM7] at HR7 HFN HML7
          clear hs7 hM7
          go_loopw [98] (fun vy wy9 => ∃ y : Nat, y ≤ 255 ∧ vy = .int .u8 (y : Int) ∧ Below w7.heap.size w7 wy9) (fun vy _ => 255 - (intOf vy).toNat)
          case atStart => exact ⟨0, by omega, rfl, Below.refl _ _⟩
          case round =>
            obtain ⟨y, hy, rfl, hb⟩ := hrel
            have HBy := Lib.hid hb
            clear hb
            by_cases hyl : y < 255
            · have y1 : (y : Int) < 255 := by omega
              have zy : IntKind.u8.wrap ((y : Int) + 1) = (y : Int) + 1 := by rw [IntKind.wrap_u8]; omega
              have hlook : (Instr.lookup 48 (.map (some bm)) (.int .u8 (y : Int)) false).run Try.prog wr = .ok (.bool (mlook y M7)) wr := look_m (HR7.out.step HBy.out) y
              obtain ⟨F7, hF7, _⟩ := HS7.out.step HP.out.foot HBy.out
              have HAK := Lib.hid (asks_any HP.out hF7 HFN.out y (by omega))
              obtain ⟨th, hth⟩ : ∃ th, th = mlook y M7 := ⟨_, rfl⟩
              rw [← hth] at hlook HAK
              clear hth hF7
              go_wp2_with (first
                | (go_at_call 21
                   refine HAK.out.mono ?_
                   rintro e u9 ⟨rfl, hb⟩
                   have HB9 := Lib.hid (HBy.out.trans (hb.mono HBy.out.size))
                   clear hb))
              go_roundw
              case rel => exact ⟨y + 1, by omega, by go_num, HB9.out⟩
              case measure => simp [intOf]; omega
            · obtain rfl : y = 255 := by omega
              have y1 : ¬ (((255 : Nat) : Int)) < 255 := by omega
              go_wp2_with fail
              go_roundw
              case rel => exact ⟨k + 1, s7, M7, by omega, by go_num, HFN.out, HML7.out, HS7.out.step HP.out.foot HBy.out, HR7.out.step HBy.out⟩
              case measure => simp [intOf]; omega
        | some i =>
          obtain ⟨k0, hfd, hk0, hf0, hw0, he0⟩ := HFI.out.find_yes HML.out
          have HFD2 : Hid (s.fdV (x % 5) x = #[.int .i64 (k0 : Int), .bool true]) := Lib.hid (by unfold Tb.fdV; rw [hfd])
          obtain ⟨hK1, hK2, hK3, hK4, hK5⟩ := HFI.out.twice hx HML.out hk0 hf0 hw0 hfr
          obtain ⟨K, hK⟩ : ∃ K, K = s.st (x % 5) i := ⟨_, rfl⟩
          rw [← hK] at hK1 hK2 hK3 hK4 hK5
          have HPT : Hid (s.ptI (x % 5) = K ∧ s.ptE (x % 5) = 0 ∧ s.pt (x % 5) x = s.put K (x % 5) x) := Lib.hid (by unfold Tb.ptI Tb.ptE Tb.pt; rw [hfr]; exact ⟨hK.symm, rfl, by rw [hK]⟩)
          have hn1 : (s.put K (x % 5) x).n = 32 := HFI.out.n32
          have hf1 : (s.put K (x % 5) x).ful k0 = true := by
            show updB s.ful K true k0 = true
            rw [updB_ne hK2.symm]
            exact hf0
          have HOK1 : Hid (s.put K (x % 5) x).Ok := Lib.hid (Tb.ok_put HFI.out.ok K (by omega) (by omega))
          have HDR := Lib.hid (dr_ful (s := s.put K (x % 5) x) (k := k0) (by rw [hn1]; exact hk0) hf1)
          have HOK2 : Hid ((s.put K (x % 5) x).gone k0).Ok := Lib.hid (Tb.ok_gone HOK1.out k0)
          have HDR2 := Lib.hid (dr_ful (s := (s.put K (x % 5) x).gone k0) (k := K) (by show K < (s.put K (x % 5) x).n; rw [hn1]; exact hK1) hK4)
          have HFD3 := Lib.hid hK3
          have HFN := Lib.hid hK5
          rw [HFD2.out] at HFD
          clear hfd hk0 hf0 hw0 he0 hfr hK1 hK2 hK3 hK4 hK5 hK hn1 hf1
          go_upto_region 12 with (first
            | (go_at_call 14
               refine HFD.out.mono ?_
               rintro e v2 ⟨rfl, hb⟩
               have HB2 := Lib.hid hb
               clear hb))
          have HS2 := Lib.hid (HS1.out.step HP.out.foot HB2.out)
          have HR2 := Lib.hid (HR1.out.step HB2.out)
          have HO2 : Hid (v2.heap[b8]? = some (.cells #[.int .u64 ((x % 5 : Nat) : Int), .int .u32 (x : Int)] 34 (0, 0))) := Lib.hid ((HB2.out.block b8 (lt_heap HO1.out)).trans HO1.out)
          clear o0 o1 HS1 HR1 HO1 HB2 HFD
          have hlook : (Instr.lookup 48 (.map (some bm)) (.int .u8 (x : Int)) false).run Try.prog v2 = .ok (.bool true) v2 := (look_m HR2.out x).trans (by rw [HML.out])
          have o0 : v2.cell? ⟨b8, 0, none⟩ = some (.int .u64 ((x % 5 : Nat) : Int)) := blk_cell HO2.out 0
          have o1 : v2.cell? ⟨b8, 1, none⟩ = some (.int .u32 (x : Int)) := blk_cell HO2.out 1
          have hbn : (true != true) = false := rfl
          go_upto_region 14 with fail
          clear hlook hbn
          go_upto_region 16 with (first
            | (go_at_call 10
               refine (HS2.out.call fun G hG => HP.out.put hG HFI.out.ok (x % 5) x (by omega) (by omega)).mono ?_
               rintro e v3 ⟨rfl, hst, hx⟩
               rw [HPT.out.1, HPT.out.2.1, HPT.out.2.2] at *
               have HS3 := Lib.hid hst
               have HR3 := Lib.hid (HR2.out.block (hx bm (.inl rfl)))
               have HO3 : Hid (v3.heap[b8]? = some (.cells #[.int .u64 ((x % 5 : Nat) : Int), .int .u32 (x : Int)] 34 (0, 0))) := Lib.hid ((hx b8 (.inr rfl)).trans HO2.out)
               clear hst hx))
          clear o0 o1 HS2 HR2 HO2
          have o0 : v3.cell? ⟨b8, 0, none⟩ = some (.int .u64 ((x % 5 : Nat) : Int)) := blk_cell HO3.out 0
          have o1 : v3.cell? ⟨b8, 1, none⟩ = some (.int .u32 (x : Int)) := blk_cell HO3.out 1
          go_upto_region 18 with (first
            | (go_at_call 12
               refine (HS3.out.call fun G hG => HP.out.drop hG HOK1.out (k0 : Int)).mono ?_
               rintro e v4 ⟨rfl, hst, hx⟩
               rw [HDR.out.2] at *
               rw [HDR.out.1] at hst
               have HS4 := Lib.hid hst
               have HR4 := Lib.hid (HR3.out.block (hx bm (.inl rfl)))
               have HO4 : Hid (v4.heap[b8]? = some (.cells #[.int .u64 ((x % 5 : Nat) : Int), .int .u32 (x : Int)] 34 (0, 0))) := Lib.hid ((hx b8 (.inr rfl)).trans HO3.out)
               have q0 : v4.cell? ⟨b8, 0, none⟩ = some (.int .u64 ((x % 5 : Nat) : Int)) := blk_cell HO4.out 0
               have q1 : v4.cell? ⟨b8, 1, none⟩ = some (.int .u32 (x : Int)) := blk_cell HO4.out 1
               clear hst hx o0 o1)
            | (go_at_call 19
               refine (HS4.out.call fun G hG => dropped_any HP.out hG HOK2.out (x % 5) x (by omega) HFD3.out).mono ?_
               rintro e v5 ⟨rfl, hst, hx⟩
               rw [HDR2.out.2] at *
               rw [HDR2.out.1] at hst
               have HS5 := Lib.hid hst
               have HR5 := Lib.hid (HR4.out.block (hx bm (.inl rfl)))
               clear hst hx q0 q1))
          clear HS3 HR3 HO3 HS4 HR4 HO4
          obtain ⟨w7, hput, hr7, hk7, hz7⟩ := HR5.out.put (P := Try.prog) Try.underlying48 keyU x (.bool false)
          rw [boolL_put] at hr7
          have hput : (Instr.mapUpdate 48 (.map (some bm)) (.int .u8 (x : Int)) (.bool false)).run Try.prog v5 = .ok () w7 := hput
          have HR7 := Lib.hid hr7
          have HS7 := Lib.hid ((HS5.out.turn HP.out.foot hk7 fun k e => ⟨.inl e, by rw [e]; exact HBW.out⟩).less (Y := fun k => k = bm) fun k e => .inl e)
          clear hr7 hk7 hz7
          go_upto_region 23 with fail
          clear hput
          have HML7 : Hid ((mput x false M).length ≤ k + 1) := Lib.hid (Nat.le_trans (mput_len _ _ _) (by have := HLEN.out; omega))
          obtain ⟨s7, hs7⟩ : ∃ s7, s7 = ((s.put K (x % 5) x).gone k0).gone K := ⟨_, rfl⟩
          obtain ⟨M7, hM7⟩ : ∃ M7, M7 = mput x false M := ⟨_, rfl⟩
          rw [← hs7] at HS7 HFN
          rw [← hM7] at HR7 HFN HML7
          clear hs7 hM7
          go_loopw [98] (fun vy wy9 => ∃ y : Nat, y ≤ 255 ∧ vy = .int .u8 (y : Int) ∧ Below w7.heap.size w7 wy9) (fun vy _ => 255 - (intOf vy).toNat)
          case atStart => exact ⟨0, by omega, rfl, Below.refl _ _⟩
          case round =>
            obtain ⟨y, hy, rfl, hb⟩ := hrel
            have HBy := Lib.hid hb
            clear hb
            by_cases hyl : y < 255
            · have y1 : (y : Int) < 255 := by omega
              have zy : IntKind.u8.wrap ((y : Int) + 1) = (y : Int) + 1 := by rw [IntKind.wrap_u8]; omega
              have hlook : (Instr.lookup 48 (.map (some bm)) (.int .u8 (y : Int)) false).run Try.prog wr = .ok (.bool (mlook y M7)) wr := look_m (HR7.out.step HBy.out) y
              obtain ⟨F7, hF7, _⟩ := HS7.out.step HP.out.foot HBy.out
              have HAK := Lib.hid (asks_any HP.out hF7 HFN.out y (by omega))
              obtain ⟨th, hth⟩ : ∃ th, th = mlook y M7 := ⟨_, rfl⟩
              rw [← hth] at hlook HAK
              clear hth hF7
              go_wp2_with (first
                | (go_at_call 21
                   refine HAK.out.mono ?_
                   rintro e u9 ⟨rfl, hb⟩
                   have HB9 := Lib.hid (HBy.out.trans (hb.mono HBy.out.size))
                   clear hb))
              go_roundw
              case rel => exact ⟨y + 1, by omega, by go_num, HB9.out⟩
              case measure => simp [intOf]; omega
            · obtain rfl : y = 255 := by omega
              have y1 : ¬ (((255 : Nat) : Int)) < 255 := by omega
              go_wp2_with fail
              go_roundw
              case rel => exact ⟨k + 1, s7, M7, by omega, by go_num, HFN.out, HML7.out, HS7.out.step HP.out.foot HBy.out, HR7.out.step HBy.out⟩
              case measure => simp [intOf]; omega
      | false =>
        have HML := Lib.hid hml
        clear hml
        cases hfr : s.free (x % 5) with
        | none =>
          have HFD2 : Hid (s.fdV (x % 5) x = #[.int .i64 0, .bool false]) := Lib.hid (by unfold Tb.fdV; rw [HFI.out.find_no HML.out])
          have HPT : Hid (s.ptI (x % 5) = 0 ∧ s.ptE (x % 5) = 9 ∧ s.pt (x % 5) x = s) := Lib.hid (by unfold Tb.ptI Tb.ptE Tb.pt; rw [hfr]; exact ⟨rfl, rfl, rfl⟩)
          have HFU := Lib.hid (HFI.out.full hfr)
          have HFN : Hid (Tb.Fi s (mput x false M)) := Lib.hid (fi_idle HFI.out HML.out)
          rw [HFD2.out] at HFD
          clear hfr
          go_upto_region 12 with (first
            | (go_at_call 14
               refine HFD.out.mono ?_
               rintro e v2 ⟨rfl, hb⟩
               have HB2 := Lib.hid hb
               clear hb))
          have HS2 := Lib.hid (HS1.out.step HP.out.foot HB2.out)
          have HR2 := Lib.hid (HR1.out.step HB2.out)
          have HO2 : Hid (v2.heap[b8]? = some (.cells #[.int .u64 ((x % 5 : Nat) : Int), .int .u32 (x : Int)] 34 (0, 0))) := Lib.hid ((HB2.out.block b8 (lt_heap HO1.out)).trans HO1.out)
          clear o0 o1 HS1 HR1 HO1 HB2 HFD
          have hlook : (Instr.lookup 48 (.map (some bm)) (.int .u8 (x : Int)) false).run Try.prog v2 = .ok (.bool false) v2 := (look_m HR2.out x).trans (by rw [HML.out])
          have o0 : v2.cell? ⟨b8, 0, none⟩ = some (.int .u64 ((x % 5 : Nat) : Int)) := blk_cell HO2.out 0
          have o1 : v2.cell? ⟨b8, 1, none⟩ = some (.int .u32 (x : Int)) := blk_cell HO2.out 1
          have hbn : (false != false) = false := rfl
          go_upto_region 14 with fail
          clear hlook hbn
          go_upto_region 16 with (first
            | (go_at_call 10
               refine (HS2.out.call fun G hG => HP.out.put hG HFI.out.ok (x % 5) x (by omega) (by omega)).mono ?_
               rintro e v3 ⟨rfl, hst, hx⟩
               rw [HPT.out.1, HPT.out.2.1, HPT.out.2.2] at *
               have HS3 := Lib.hid hst
               have HR3 := Lib.hid (HR2.out.block (hx bm (.inl rfl)))
               have HO3 : Hid (v3.heap[b8]? = some (.cells #[.int .u64 ((x % 5 : Nat) : Int), .int .u32 (x : Int)] 34 (0, 0))) := Lib.hid ((hx b8 (.inr rfl)).trans HO2.out)
               clear hst hx))
          clear o0 o1 HS2 HR2 HO2
          have HON := Lib.hid (ones_any M (by have := HLEN.out; omega) bm v3 HR3.out)
          rw [HFU.out] at HON
          go_upto_region 20 with (first
            | (go_at_call 20
               refine HON.out.mono ?_
               rintro e v4 ⟨AO, cO, rfl, hc1, hc9, hb⟩
               have HS4 := Lib.hid (HS3.out.step HP.out.foot hb)
               have HR4 := Lib.hid (HR3.out.step hb)
               clear hb))
          clear HS3 HR3 HO3
          obtain ⟨w7, hput, hr7, hk7, hz7⟩ := HR4.out.put (P := Try.prog) Try.underlying48 keyU x (.bool false)
          rw [boolL_put] at hr7
          have hput : (Instr.mapUpdate 48 (.map (some bm)) (.int .u8 (x : Int)) (.bool false)).run Try.prog v4 = .ok () w7 := hput
          have HR7 := Lib.hid hr7
          have HS7 := Lib.hid ((HS4.out.turn HP.out.foot hk7 fun k e => ⟨.inl e, by rw [e]; exact HBW.out⟩).less (Y := fun k => k = bm) fun k e => .inl e)
          clear hr7 hk7 hz7
          go_upto_region 23 with fail
          clear hput hc1 hc9
          have HML7 : Hid ((mput x false M).length ≤ k + 1) := Lib.hid (Nat.le_trans (mput_len _ _ _) (by have := HLEN.out; omega))
          obtain ⟨s7, hs7⟩ : ∃ s7, s7 = s := ⟨_, rfl⟩
          obtain ⟨M7, hM7⟩ : ∃ M7, M7 = mput x false M := ⟨_, rfl⟩
          rw [← hs7] at HS7 HFN
          rw [← hM7] at HR7 HFN HML7
          clear hs7 hM7
          go_loopw [98] (fun vy wy9 => ∃ y : Nat, y ≤ 255 ∧ vy = .int .u8 (y : Int) ∧ Below w7.heap.size w7 wy9) (fun vy _ => 255 - (intOf vy).toNat)
          case atStart => exact ⟨0, by omega, rfl, Below.refl _ _⟩
          case round =>
            obtain ⟨y, hy, rfl, hb⟩ := hrel
            have HBy := Lib.hid hb
            clear hb
            by_cases hyl : y < 255
            · have y1 : (y : Int) < 255 := by omega
              have zy : IntKind.u8.wrap ((y : Int) + 1) = (y : Int) + 1 := by rw [IntKind.wrap_u8]; omega
              have hlook : (Instr.lookup 48 (.map (some bm)) (.int .u8 (y : Int)) false).run Try.prog wr = .ok (.bool (mlook y M7)) wr := look_m (HR7.out.step HBy.out) y
              obtain ⟨F7, hF7, _⟩ := HS7.out.step HP.out.foot HBy.out
              have HAK := Lib.hid (asks_any HP.out hF7 HFN.out y (by omega))
              obtain ⟨th, hth⟩ : ∃ th, th = mlook y M7 := ⟨_, rfl⟩
              rw [← hth] at hlook HAK
              clear hth hF7
              go_wp2_with (first
                | (go_at_call 21
                   refine HAK.out.mono ?_
                   rintro e u9 ⟨rfl, hb⟩
                   have HB9 := Lib.hid (HBy.out.trans (hb.mono HBy.out.size))
                   clear hb))
              go_roundw
              case rel => exact ⟨y + 1, by omega, by go_num, HB9.out⟩
              case measure => simp [intOf]; omega
            · obtain rfl : y = 255 := by omega
              have y1 : ¬ (((255 : Nat) : Int)) < 255 := by omega
              go_wp2_with fail
              go_roundw
              case rel => exact ⟨k + 1, s7, M7, by omega, by go_num, HFN.out, HML7.out, HS7.out.step HP.out.foot HBy.out, HR7.out.step HBy.out⟩
              case measure => simp [intOf]; omega
        | some i =>
          have HFD2 : Hid (s.fdV (x % 5) x = #[.int .i64 0, .bool false]) := Lib.hid (by unfold Tb.fdV; rw [HFI.out.find_no HML.out])
          obtain ⟨K, hK⟩ : ∃ K, K = s.st (x % 5) i := ⟨_, rfl⟩
          have HPT : Hid (s.ptI (x % 5) = K ∧ s.ptE (x % 5) = 0 ∧ s.pt (x % 5) x = s.put K (x % 5) x) := Lib.hid (by unfold Tb.ptI Tb.ptE Tb.pt; rw [hfr]; exact ⟨hK.symm, rfl, by rw [hK]⟩)
          have HFN : Hid (Tb.Fi (s.put K (x % 5) x) (mput x true M)) := Lib.hid (by rw [hK]; exact HFI.out.put_new hx HML.out hfr)
          rw [HFD2.out] at HFD
          clear hfr hK
          go_upto_region 12 with (first
            | (go_at_call 14
               refine HFD.out.mono ?_
               rintro e v2 ⟨rfl, hb⟩
               have HB2 := Lib.hid hb
               clear hb))
          have HS2 := Lib.hid (HS1.out.step HP.out.foot HB2.out)
          have HR2 := Lib.hid (HR1.out.step HB2.out)
          have HO2 : Hid (v2.heap[b8]? = some (.cells #[.int .u64 ((x % 5 : Nat) : Int), .int .u32 (x : Int)] 34 (0, 0))) := Lib.hid ((HB2.out.block b8 (lt_heap HO1.out)).trans HO1.out)
          clear o0 o1 HS1 HR1 HO1 HB2 HFD
          have hlook : (Instr.lookup 48 (.map (some bm)) (.int .u8 (x : Int)) false).run Try.prog v2 = .ok (.bool false) v2 := (look_m HR2.out x).trans (by rw [HML.out])
          have o0 : v2.cell? ⟨b8, 0, none⟩ = some (.int .u64 ((x % 5 : Nat) : Int)) := blk_cell HO2.out 0
          have o1 : v2.cell? ⟨b8, 1, none⟩ = some (.int .u32 (x : Int)) := blk_cell HO2.out 1
          have hbn : (false != false) = false := rfl
          go_upto_region 14 with fail
          clear hlook hbn
          go_upto_region 16 with (first
            | (go_at_call 10
               refine (HS2.out.call fun G hG => HP.out.put hG HFI.out.ok (x % 5) x (by omega) (by omega)).mono ?_
               rintro e v3 ⟨rfl, hst, hx⟩
               rw [HPT.out.1, HPT.out.2.1, HPT.out.2.2] at *
               have HS3 := Lib.hid hst
               have HR3 := Lib.hid (HR2.out.block (hx bm (.inl rfl)))
               have HO3 : Hid (v3.heap[b8]? = some (.cells #[.int .u64 ((x % 5 : Nat) : Int), .int .u32 (x : Int)] 34 (0, 0))) := Lib.hid ((hx b8 (.inr rfl)).trans HO2.out)
               clear hst hx))
          clear o0 o1 HS2 HR2 HO2
          obtain ⟨w7, hput, hr7, hk7, hz7⟩ := HR3.out.put (P := Try.prog) Try.underlying48 keyU x (.bool true)
          rw [boolL_put] at hr7
          have hput : (Instr.mapUpdate 48 (.map (some bm)) (.int .u8 (x : Int)) (.bool true)).run Try.prog v3 = .ok () w7 := hput
          have HR7 := Lib.hid hr7
          have HS7 := Lib.hid ((HS3.out.turn HP.out.foot hk7 fun k e => ⟨.inl e, by rw [e]; exact HBW.out⟩).less (Y := fun k => k = bm) fun k e => .inl e)
          clear hr7 hk7 hz7
          go_upto_region 23 with fail
          clear hput
          have HML7 : Hid ((mput x true M).length ≤ k + 1) := Lib.hid (Nat.le_trans (mput_len _ _ _) (by have := HLEN.out; omega))
          obtain ⟨s7, hs7⟩ : ∃ s7, s7 = s.put K (x % 5) x := ⟨_, rfl⟩
          obtain ⟨M7, hM7⟩ : ∃ M7, M7 = mput x true M := ⟨_, rfl⟩
          rw [← hs7] at HS7 HFN
          rw [← hM7] at HR7 HFN HML7
          clear hs7 hM7
          go_loopw [98] (fun vy wy9 => ∃ y : Nat, y ≤ 255 ∧ vy = .int .u8 (y : Int) ∧ Below w7.heap.size w7 wy9) (fun vy _ => 255 - (intOf vy).toNat)
          case atStart => exact ⟨0, by omega, rfl, Below.refl _ _⟩
          case round =>
            obtain ⟨y, hy, rfl, hb⟩ := hrel
            have HBy := Lib.hid hb
            clear hb
            by_cases hyl : y < 255
            · have y1 : (y : Int) < 255 := by omega
              have zy : IntKind.u8.wrap ((y : Int) + 1) = (y : Int) + 1 := by rw [IntKind.wrap_u8]; omega
              have hlook : (Instr.lookup 48 (.map (some bm)) (.int .u8 (y : Int)) false).run Try.prog wr = .ok (.bool (mlook y M7)) wr := look_m (HR7.out.step HBy.out) y
              obtain ⟨F7, hF7, _⟩ := HS7.out.step HP.out.foot HBy.out
              have HAK := Lib.hid (asks_any HP.out hF7 HFN.out y (by omega))
              obtain ⟨th, hth⟩ : ∃ th, th = mlook y M7 := ⟨_, rfl⟩
              rw [← hth] at hlook HAK
              clear hth hF7
              go_wp2_with (first
                | (go_at_call 21
                   refine HAK.out.mono ?_
                   rintro e u9 ⟨rfl, hb⟩
                   have HB9 := Lib.hid (HBy.out.trans (hb.mono HBy.out.size))
                   clear hb))
              go_roundw
              case rel => exact ⟨y + 1, by omega, by go_num, HB9.out⟩
              case measure => simp [intOf]; omega
            · obtain rfl : y = 255 := by omega
              have y1 : ¬ (((255 : Nat) : Int)) < 255 := by omega
              go_wp2_with fail
              go_roundw
              case rel => exact ⟨k + 1, s7, M7, by omega, by go_num, HFN.out, HML7.out, HS7.out.step HP.out.foot HBy.out, HR7.out.step HBy.out⟩
              case measure => simp [intOf]; omega
    · obtain rfl : m = k := by omega
      have i1 : ¬ (m : Int) < (m : Int) := by omega
      have HON := Lib.hid (ones_any M (by have := HLEN.out; omega) bm wr HRr.out)
      have HEN := Lib.hid fun W (hb : Below wr.heap.size wr W) => (entries_m HP.out (HSr.out.step HP.out.foot hb) HFI.out.ok)
      have HKN := Lib.hid fun W => tknown_any HP.out W
      rw [← HFI.out.cnt] at HEN
      have hee : ((trues M : Int) == (trues M : Int)) = true := by simp
      have HBr := Lib.hid HSr.out.below
      obtain ⟨TM, hTM⟩ : ∃ T, T = trues M := ⟨_, rfl⟩
      rw [← hTM] at HON HEN hee
      clear hTM
      go_wp2_with (first
        | (go_at_call 20
           refine HON.out.mono ?_
           rintro e v4 ⟨AO, cO, rfl, hc1, hc9, hb⟩
           have HB4 := Lib.hid hb
           clear hb)
        | (go_at_call 22
           refine (HEN.out _ HB4.out).mono ?_
           rintro e v5 ⟨rfl, hb⟩
           have HB5 := Lib.hid (HB4.out.trans (hb.mono HB4.out.size))
           clear hb)
        | (go_at_call 6
           refine (HKN.out _).mono ?_
           rintro e v6 ⟨rfl, hb⟩
           have HB6 := Lib.hid (HB5.out.trans (hb.mono HB5.out.size))
           clear hb))
      go_ret
      exact ⟨rfl, HBr.out.trans (HB6.out.mono HBr.out.size)⟩
end
end Go.Proofs.Ythbjkchgbjopfaa
