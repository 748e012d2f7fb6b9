import Derived.Test.YtlchegibfopglaaK26
/- The document's answers for layer 4: Read. -/
namespace Go.Proofs.Ytlchegibfopglaa
set_option maxRecDepth 100000
open Go.RowKit
/-- What Read tells of a packet that is one. -/
def Read6 (et : Nat) (f : Nat → Int) (w : World) (e : Ending) (w' : World) : Prop :=
  ∃ p m O co P cp, chn6 f = (p, m, 0) ∧ e = .returned (.tuple #[.agg (ip6c (cls6 f) (lab6 f) (f 6) p (f 7) (fun k => f (8 + k)) (fun k => f (24 + k)) (.slice O m co)), .slice P (ln6 f - m) cp, .int .i64 0]) ∧
    Own w' w.heap.size et O m co (fun k => f (40 + k)) ∧ Own w' w.heap.size et P (ln6 f - m) cp (fun k => f (40 + (m + k))) ∧
    (∀ g, Value.ownBlock (.slice O m co) = some g → Value.ownBlock (.slice P (ln6 f - m) cp) ≠ some g) ∧ Below w.heap.size w w'
def Read6P (et : Nat) (E : Int) (f : Nat → Int) (w : World) (e : Ending) (w' : World) : Prop :=
  (E ≠ 0 ∧ e = .returned (.tuple #[.agg ip6z, .slice none 0 0, .int .i64 E]) ∧ Below w.heap.size w w') ∨ (E = 0 ∧ Read6 et f w e w')
theorem rd6_0 {f : Nat → Int} {n : Nat} (h : n < 40) : rd6E f n = 4 := by unfold rd6E; rw [if_pos h]
theorem rd6_1 {f : Nat → Int} {n : Nat} (n0 : ¬ n < 40) (h : f 0 / 16 ≠ 6) : rd6E f n = 5 := by unfold rd6E; rw [if_neg n0, if_pos h]
theorem rd6_2 {f : Nat → Int} {n : Nat} (n0 : ¬ n < 40) (n1 : ¬ f 0 / 16 ≠ 6) (h : n - 40 < ln6 f) : rd6E f n = 4 := by unfold rd6E; rw [if_neg n0, if_neg n1, if_pos h]
theorem rd6_3 {f : Nat → Int} {n : Nat} (n0 : ¬ n < 40) (n1 : ¬ f 0 / 16 ≠ 6) (n2 : ¬ n - 40 < ln6 f) : rd6E f n = (chn6 f).2.2 := by unfold rd6E; rw [if_neg n0, if_neg n1, if_neg n2]
/-- The first bytes so far, as a number. -/
def fstk (f : Nat → Int) : Nat → Int
  | 0 => 0
  | k + 1 => fstk f k * 256 + f k
theorem fstk_bd {f : Nat → Int} (hf : Byt f) : ∀ k, k ≤ 4 → 0 ≤ fstk f k ∧ fstk f k < 256 ^ k
  | 0, _ => by simp [fstk]
  | k + 1, h => by
    obtain ⟨a, b⟩ := fstk_bd hf k (by omega)
    obtain ⟨c, d⟩ := hf k
    unfold fstk
    obtain rfl | rfl | rfl | rfl : k = 0 ∨ k = 1 ∨ k = 2 ∨ k = 3 := by omega
    all_goals omega
theorem fstk_4 (f : Nat → Int) : fstk f 4 = fst6 f := by
  unfold fst6
  simp only [fstk]
  omega
set_option maxRecDepth 100000 in
set_option maxHeartbeats 4000000 in
theorem rread6_any (A : Option Addr) (n c : Nat) (f : Nat → Int) (hf : Byt f) (hn : n ≤ 140737488355328) (hcap : n ≤ c) (hc' : c ≤ 9223372036854775807) (w : World) (hr : Rd w w.heap.size A n f) :
    Calls Try.prog 29 #[.slice A n c] w (Read6P 5 (rd6E f n) f w) := by
  have HR := Lib.hid hr
  have HF := Lib.hid hf
  clear hr hf
  obtain ⟨R, hR⟩ : ∃ R, R = rd6E f n := ⟨_, rfl⟩
  rw [← hR]
  have HRE := Lib.hid hR
  clear hR
  have b1 : ((w.alloc (.cells ip6z 75)).alloc (.cells ip6z 75)).heap[w.heap.size]? = some (.cells ip6z 75 (0, 0)) := blk_old (heap_alloc_new w _) _
  have e1 : (w.alloc (.cells ip6z 75)).heap.size = w.heap.size + 1 := by simp
  have b2 : ((w.alloc (.cells ip6z 75)).alloc (.cells ip6z 75)).heap[w.heap.size + 1]? = some (.cells ip6z 75 (0, 0)) := by
    rw [← e1]
    exact heap_alloc_new _ _
  have HZ2 := Lib.hid b1
  have HN2 := Lib.hid b2
  have HB2 := Lib.hid (below_alloc2 w (.cells ip6z 75) (.cells ip6z 75))
  clear b1 b2 e1
  go_enter Try.func29, Try.ntmps29
  go_upto_if 17 with (first
    | (refine wpList_store_row rfl 75 (.tmp 5) (.tmp 14) rfl (w.heap.size + 1) ip6z rfl rfl 75 ip6z HN2.out (by kernel_rfl) rfl ip6z_one ?_))
  have HZ3 := Lib.hid ((setRow_other _ (w.heap.size + 1) w.heap.size ip6z (by omega)).trans HZ2.out)
  have HN3 := Lib.hid (setRow_heap _ (w.heap.size + 1) _ ip6z _ _ HN2.out)
  have HB3 := Lib.hid (below_setRow HB2.out (Nat.le_succ w.heap.size) ip6z)
  clear HZ2 HN2 HB2
  change Code.wp _ _ _ _ (((w.alloc (.cells ip6z 75)).alloc (.cells ip6z 75)).setRow (w.heap.size + 1) ip6z)
  generalize ((w.alloc (.cells ip6z 75)).alloc (.cells ip6z 75)).setRow (w.heap.size + 1) ip6z = w3 at *
  by_cases c0 : n < 40
  · have c0' : (n : Int) < 40 := by omega
    have hRe : R = 4 := HRE.out.trans (rd6_0 c0)
    go_wp2_with (first
      | (refine wpList_load_row rfl 75 (.tmp 5) rfl (w.heap.size + 1) rfl 75 ip6z (0, 0) _ HN3.out Try.underlying75 rfl (by kernel_rfl) ?_)
      | (refine wpList_store_row rfl 75 (.tmp 2) (.tmp 18) rfl w.heap.size ip6z rfl rfl 75 ip6z HZ3.out (by kernel_rfl) rfl ip6z_one ?_))
    refine bodyPost_ret (v := .tuple #[.agg ip6z, .slice none 0 0, .int .i64 4]) (results_row2 Try.results29 _ _ w.heap.size 75 ip6z (0, 0) _ rfl (setRow_heap _ w.heap.size _ ip6z _ _ HZ3.out) Try.underlying75 rfl (by kernel_rfl)) rfl ?_
    have hRne : ¬ R = 0 := by omega
    exact .inl ⟨hRne, by first | rfl | (rw [hRe] <;> rfl), below_setRow HB3.out (Nat.le_refl _) _⟩
  · have N0 : Hid (¬ (n < 40)) := c0
    have c0' : (40 : Int) ≤ (n : Int) := by omega
    rcases HR.out with h0 | ⟨b, off, rfl, hbb, hcell⟩
    · omega
    have HC := Lib.hid hcell
    clear hcell
    go_wp2
    go_loopw [6, 7] (fun x y wr => ∃ k : Nat, k ≤ 4 ∧ x = .int .u64 (fstk f k) ∧ y = .int .i64 (k : Int) ∧ w3 = wr) (fun _ y _ => 4 - (intOf y).toNat)
    case atStart => exact ⟨0, by omega, rfl, rfl, by first | rfl | trivial⟩
    case round =>
      obtain ⟨k, hk, rfl, rfl, rfl⟩ := hrel
      by_cases hlt : k < 4
      · have hx := (HB3.out.cell (p := ⟨b, off + k, none⟩) hbb).trans (HC.out k (by omega))
        obtain ⟨q0, q1⟩ := fstk_bd HF.out k (by omega)
        have q2 : fstk f k < 16777216 := by
          obtain rfl | rfl | rfl | rfl : k = 0 ∨ k = 1 ∨ k = 2 ∨ k = 3 := by omega
          all_goals omega
        obtain ⟨q3, q4⟩ := HF.out k
        have i0 : (k : Int) < 4 := by omega
        have i1 : (0 : Int) ≤ (k : Int) := by omega
        have i2 : (k : Int) < (n : Int) := by omega
        have i3 : ((k : Int)).toNat = k := by omega
        have i4 : IntKind.u64.wrap (fstk f k * 256) = fstk f k * 256 := by simp only [IntKind.wrap_u64]; omega
        have i5 : IntKind.u64.wrap (f k) = f k := by simp only [IntKind.wrap_u64]; omega
        have i6 : IntKind.u64.wrap (fstk f k * 256 + f k) = fstk f k * 256 + f k := by simp only [IntKind.wrap_u64]; omega
        have i7 : IntKind.i64.wrap ((k : Int) + 1) = (k : Int) + 1 := by rw [IntKind.wrap_i64]; omega
        clear q0 q1 q2 q3 q4
        go_wp2
        go_roundw
        case rel => exact ⟨k + 1, by omega, rfl, by simp, by first | rfl | trivial⟩
        case measure => simp [intOf]; omega
      · obtain rfl : k = 4 := by omega
        clear hlt hk
        have HV := Lib.hid (fst6_cls HF.out)
        obtain ⟨F, hFd⟩ : ∃ F, F = fst6 f := ⟨_, rfl⟩
        rw [fstk_4, ← hFd]
        rw [← hFd] at HV
        have HFD := Lib.hid hFd
        have hF0 : 0 ≤ F := HV.out.2.2.2.1
        have hF1 : F ≤ 4294967295 := HV.out.2.2.2.2
        have t1 : F.tdiv 268435456 = f 0 / 16 := (Int.tdiv_eq_ediv_of_nonneg hF0).trans HV.out.1
        have t2 : IntKind.u64.wrap (f 0 / 16) = f 0 / 16 := by
          have := HF.out 0
          simp only [IntKind.wrap_u64]
          omega
        clear hFd
        by_cases hv : f 0 / 16 = 6
        · have N1 : Hid (¬ (f 0 / 16 ≠ 6)) := fun h => h hv
          go_upto_if 33 with fail
          clear t1 t2 hv
          have p0 := HF.out 0
          have hln := ln6_le HF.out
          obtain ⟨L, hL⟩ : ∃ L, L = ln6 f := ⟨_, rfl⟩
          rw [← hL] at hln
          have hL' : f 4 * 256 + f 5 = (L : Int) := by
            have := HF.out 4
            have := HF.out 5
            rw [hL]
            unfold ln6
            omega
          have HLL := Lib.hid hL
          have x4 := (HB3.out.cell (p := ⟨b, off + 4, none⟩) hbb).trans (HC.out 4 (by omega))
          have x5 := (HB3.out.cell (p := ⟨b, off + 5, none⟩) hbb).trans (HC.out 5 (by omega))
          have p4 := HF.out 4
          have p5 := HF.out 5
          have i4 : (4 : Int) < (n : Int) := by omega
          have i5 : (5 : Int) < (n : Int) := by omega
          clear hL
          go_upto_region 11 with fail
          go_quiet (fail)
          clear x4 x5 i4 i5
          have HZ4 := Lib.hid (show (w3.drewN nq).heap[w.heap.size]? = some (.cells ip6z 75 (0, 0)) from HZ3.out)
          have HN4 := Lib.hid (show (w3.drewN nq).heap[w.heap.size + 1]? = some (.cells ip6z 75 (0, 0)) from HN3.out)
          have HB4 := Lib.hid (below_drewN HB3.out nq)
          clear HZ3 HN3 HB3
          generalize w3.drewN nq = w4 at *
          clear p4 p5
          go_upto_if 49 with fail
          by_cases c2 : n < 40 + L
          · have c2' : (n : Int) - 40 < (L : Int) := by omega
            have hRe : R = 4 := HRE.out.trans (rd6_2 N0.out N1.out (by rw [← HLL.out]; omega))
            go_wp2_with (first
              | (refine wpList_load_row rfl 75 (.tmp 5) rfl (w.heap.size + 1) rfl 75 ip6z (0, 0) _ HN4.out Try.underlying75 rfl (by kernel_rfl) ?_)
              | (refine wpList_store_row rfl 75 (.tmp 2) (.tmp 50) rfl w.heap.size ip6z rfl rfl 75 ip6z HZ4.out (by kernel_rfl) rfl ip6z_one ?_))
            refine bodyPost_ret (v := .tuple #[.agg ip6z, .slice none 0 0, .int .i64 4]) (results_row2 Try.results29 _ _ w.heap.size 75 ip6z (0, 0) _ rfl (setRow_heap _ w.heap.size _ ip6z _ _ HZ4.out) Try.underlying75 rfl (by kernel_rfl)) rfl ?_
            have hRne : ¬ R = 0 := by omega
            exact .inl ⟨hRne, by first | rfl | (rw [hRe] <;> rfl), below_setRow HB4.out (Nat.le_refl _) _⟩
          · have N2 : Hid (¬ (n - 40 < ln6 f)) := by rw [← HLL.out]; exact fun h => c2 (by omega)
            have c2' : (L : Int) ≤ (n : Int) - 40 := by omega
            have hL0 : L ≤ n - 40 := by omega
            obtain ⟨D, hsD0, hrD⟩ := slice_both b off n c 40 (40 + L) (by omega) (by omega) hcap hc'
            have eL : 40 + L - 40 = L := by omega
            rw [eL] at hrD
            have hsD : ∀ W, (Instr.sliceAt 22 (.slice (some ⟨b, off, none⟩) n c) (some (.int .i64 40)) (some (.int .i64 (40 + (L : Int)))) none).run Try.prog W = .ok (.slice D L (c - 40)) W := fun W => by
              have q := hsD0 W
              rw [eL] at q
              have e2 : ((40 + L : Nat) : Int) = 40 + (L : Int) := by omega
              rw [e2] at q
              exact q
            have HRD := Lib.hid hrD
            clear hrD hsD0 eL
            have x6 := (HB4.out.cell (p := ⟨b, off + 6, none⟩) hbb).trans (HC.out 6 (by omega))
            have i6 : (6 : Int) < (n : Int) := by omega
            have HCH := Lib.hid (rchain_any (f 6) (HF.out 6) D L (c - 40) (fun k => f (40 + k)) (fun k => HF.out _) (by omega) (by omega) (by omega) w4 (HRD.out _ _ _ ((HR.out.keep HB4.out).more HB4.out.size)))
            obtain ⟨X, hX⟩ : ∃ X, X = chn (fun k => f (40 + k)) L 8 (f 6) 0 := ⟨_, rfl⟩
            rw [← hX] at HCH
            have HXX : Hid (X = chn6 f) := by
              refine Lib.hid ?_
              rw [hX, HLL.out]
              rfl
            have HXL := Lib.hid hX
            obtain ⟨p, m, E⟩ := X
            clear hX
            go_upto_if 65 with (first
              | (go_at_call 44; refine HCH.out.mono ?_; rintro e w5 ⟨rfl, hb5⟩; have HZ5 := Lib.hid ((hb5.block _ (lt_heap HZ4.out)).trans HZ4.out); have HN5 := Lib.hid ((hb5.block _ (lt_heap HN4.out)).trans HN4.out); have HB5 : Hid (Below w.heap.size w w5) := HB4.out.trans (hb5.mono HB4.out.size); clear hb5))
            clear HCH x6 HZ4 HN4 HB4
            by_cases c3 : E = 0
            · subst c3
              have hRe : R = 0 := HRE.out.trans ((rd6_3 N0.out N1.out N2.out).trans (by rw [← HXX.out]))
              have hmL : m ≤ L := (chn_same (f := fun k => f (40 + k)) (g := fun k => f (40 + k)) (N := L) (N' := L) 8 (f 6) 0 p m HXL.out.symm (Nat.zero_le _)).2.2
              obtain ⟨DM, hsM, hrM⟩ := slice_to D L (c - 40) m hmL (by omega) (by omega)
              have HDM := Lib.hid hrM
              clear hrM
              obtain ⟨i0, hi0, hz0, hz1, hz2⟩ := info_parts Try.info5
              have HI0 := Lib.hid hi0
              have HI1 := Lib.hid hz0
              have HI2 := Lib.hid hz1
              have HI3 := Lib.hid hz2
              clear hi0 hz0 hz1 hz2
              have hb5 : b < w5.heap.size := Nat.lt_of_lt_of_le hbb HB5.out.size
              have HX5 : Hid (∀ k, k < n → w5.cell? ⟨b, off + k, none⟩ = some (.int .u8 (f k))) := fun k hk => (HB5.out.cell (p := ⟨b, off + k, none⟩) hbb).trans (HC.out k hk)
              obtain ⟨Q, hQ⟩ : ∃ Q, Q = F / 1048576 := ⟨_, rfl⟩
              obtain ⟨CL, hCL⟩ : ∃ CL, CL = cls6 f := ⟨_, rfl⟩
              obtain ⟨LB, hLB⟩ : ∃ LB, LB = lab6 f := ⟨_, rfl⟩
              have v1 : Q % 256 = CL := by rw [hQ, hCL]; exact HV.out.2.1
              have v2 : F % 1048576 = LB := by rw [hLB]; exact HV.out.2.2.1
              have hQ0 : 0 ≤ Q ∧ Q ≤ 4095 := by omega
              have g1 : F.tdiv 1048576 = Q := (Int.tdiv_eq_ediv_of_nonneg hF0).trans hQ.symm
              have g2 : IntKind.u64.wrap Q = Q := by simp only [IntKind.wrap_u64]; omega
              have g3 : Q.tmod 256 = CL := (Int.tmod_eq_emod_of_nonneg hQ0.1).trans v1
              have g4 : IntKind.u64.wrap CL = CL := by simp only [IntKind.wrap_u64]; omega
              have g5 : IntKind.u8.wrap CL = CL := by simp only [IntKind.wrap_u8]; omega
              have g6 : F.tmod 1048576 = LB := (Int.tmod_eq_emod_of_nonneg hF0).trans v2
              have g7 : IntKind.u64.wrap LB = LB := by simp only [IntKind.wrap_u64]; omega
              have g8 : IntKind.u32.wrap LB = LB := by simp only [IntKind.wrap_u32]; omega
              have HCL := Lib.hid hCL
              have HLB := Lib.hid hLB
              clear hCL hLB v1 v2 hQ0 hQ
              have i7 : (7 : Int) < (n : Int) := by omega
              obtain ⟨sa, hsa⟩ : ∃ sa, sa = fun k => f (8 + k) := ⟨_, rfl⟩
              obtain ⟨da, hda⟩ : ∃ da, da = fun k => f (24 + k) := ⟨_, rfl⟩
              have HSA := Lib.hid hsa
              have HDA := Lib.hid hda
              clear hsa hda
              go_upto_region 18 with fail
              refine wp_region_grow (C := fun W => Below w5.heap.size w5 W) 16 101 [val (.int .u64 F), val (.int .u64 Q), val (.int .u64 CL), val (.int .u8 CL), val (.int .u64 F), val (.int .u64 LB), val (.int .u32 LB), val (.slice (some ⟨b, off, none⟩) n c), val (.pointer (some ⟨b, off + 6, none⟩)), val (.int .u8 (f 6)), val (.int .u8 p), val (.slice (some ⟨b, off, none⟩) n c), val (.pointer (some ⟨b, off + 7, none⟩)), val (.int .u8 (f 7)), val (.agg (ip6c CL LB (f 6) p (f 7) (fun _ => 0) (fun _ => 0) (.slice none 0 0))), newF w5] (by kernel_rfl) rfl (by kernel_rfl) rfl ⟨stb_val _, stb_val _, stb_val _, stb_val _, stb_val _, stb_val _, stb_val _, stb_val _, stb_val _, stb_val _, stb_val _, stb_val _, stb_val _, stb_val _, stb_val _, stb_new _, trivial⟩ (Below.refl _ _).drew ?_ ?_
              · refine each_cons ?_ ?_
                · intro a W hW hd
                  have h6 : a.tmps[6]?.getD undef = .int .u64 F := slot_eq (hd 6 (by decide))
                  exact grows_value _ hW (by simp [execOp, Act.eval, h6]) rfl
                refine each_cons ?_ ?_
                · intro a W hW hd
                  have h68 : a.tmps[68]?.getD undef = .int .u64 F := slot_eq (hd 68 (by decide))
                  refine grows_value _ hW (?_ : _ = _) rfl
                  clear hd
                  go_simp
                refine each_cons ?_ ?_
                · intro a W hW hd
                  have h69 : a.tmps[69]?.getD undef = .int .u64 Q := slot_eq (hd 69 (by decide))
                  refine grows_value _ hW (?_ : _ = _) rfl
                  clear hd
                  go_simp
                refine each_cons ?_ ?_
                · intro a W hW hd
                  have h70 : a.tmps[70]?.getD undef = .int .u64 CL := slot_eq (hd 70 (by decide))
                  refine grows_value _ hW (?_ : _ = _) rfl
                  clear hd
                  go_simp
                refine each_cons ?_ ?_
                · intro a W hW hd
                  have h6 : a.tmps[6]?.getD undef = .int .u64 F := slot_eq (hd 6 (by decide))
                  exact grows_value _ hW (by simp [execOp, Act.eval, h6]) rfl
                refine each_cons ?_ ?_
                · intro a W hW hd
                  have h72 : a.tmps[72]?.getD undef = .int .u64 F := slot_eq (hd 72 (by decide))
                  refine grows_value _ hW (?_ : _ = _) rfl
                  clear hd
                  go_simp
                refine each_cons ?_ ?_
                · intro a W hW hd
                  have h73 : a.tmps[73]?.getD undef = .int .u64 LB := slot_eq (hd 73 (by decide))
                  refine grows_value _ hW (?_ : _ = _) rfl
                  clear hd
                  go_simp
                refine each_cons ?_ ?_
                · intro a W hW hd
                  have h0 : a.tmps[0]?.getD undef = .slice (some ⟨b, off, none⟩) n c := slot_eq (hd 0 (by decide))
                  exact grows_value _ hW (by simp [execOp, Act.eval, h0]) rfl
                refine each_cons ?_ ?_
                · intro a W hW hd
                  have h75 : a.tmps[75]?.getD undef = .slice (some ⟨b, off, none⟩) n c := slot_eq (hd 75 (by decide))
                  refine grows_value _ hW (?_ : _ = _) rfl
                  clear hd
                  go_simp
                refine each_cons ?_ ?_
                · intro a W hW hd
                  have h76 : a.tmps[76]?.getD undef = .pointer (some ⟨b, off + 6, none⟩) := slot_eq (hd 76 (by decide))
                  have hx := (hW.cell (p := ⟨b, off + 6, none⟩) hb5).trans (HX5.out 6 (by omega))
                  refine grows_value _ hW (?_ : _ = _) rfl
                  clear hd
                  go_simp
                refine each_cons ?_ ?_
                · intro a W hW hd
                  have h10 : a.tmps[10]?.getD undef = .int .u8 p := slot_eq (hd 10 (by decide))
                  exact grows_value _ hW (by simp [execOp, Act.eval, h10]) rfl
                refine each_cons ?_ ?_
                · intro a W hW hd
                  have h0 : a.tmps[0]?.getD undef = .slice (some ⟨b, off, none⟩) n c := slot_eq (hd 0 (by decide))
                  exact grows_value _ hW (by simp [execOp, Act.eval, h0]) rfl
                refine each_cons ?_ ?_
                · intro a W hW hd
                  have h79 : a.tmps[79]?.getD undef = .slice (some ⟨b, off, none⟩) n c := slot_eq (hd 79 (by decide))
                  refine grows_value _ hW (?_ : _ = _) rfl
                  clear hd
                  go_simp
                refine each_cons ?_ ?_
                · intro a W hW hd
                  have h80 : a.tmps[80]?.getD undef = .pointer (some ⟨b, off + 7, none⟩) := slot_eq (hd 80 (by decide))
                  have hx := (hW.cell (p := ⟨b, off + 7, none⟩) hb5).trans (HX5.out 7 (by omega))
                  refine grows_value _ hW (?_ : _ = _) rfl
                  clear hd
                  go_simp
                refine each_cons ?_ ?_
                · intro a W hW hd
                  have h71 : a.tmps[71]?.getD undef = .int .u8 CL := slot_eq (hd 71 (by decide))
                  have h74 : a.tmps[74]?.getD undef = .int .u32 LB := slot_eq (hd 74 (by decide))
                  have h77 : a.tmps[77]?.getD undef = .int .u8 (f 6) := slot_eq (hd 77 (by decide))
                  have h78 : a.tmps[78]?.getD undef = .int .u8 p := slot_eq (hd 78 (by decide))
                  have h81 : a.tmps[81]?.getD undef = .int .u8 (f 7) := slot_eq (hd 81 (by decide))
                  refine grows_value _ hW (?_ : _ = _) rfl
                  clear hd
                  go_simp
                  rfl
                refine each_cons ?_ ?_
                · intro a W hW hd
                  refine grows_new (.pointer (some ⟨W.heap.size, 0, none⟩)) (w' := W.alloc (.cells ip6z 75)) (?_ : _ = _) ⟨_, rfl, heap_alloc_new W _, hW.size⟩ (below_alloc _ _) (hW.alloc hW.size _)
                  clear hd
                  go_simp
                  rfl
                exact each_nil
              · refine behind_val rfl ?_
                refine behind_val rfl ?_
                refine behind_val rfl ?_
                refine behind_val rfl ?_
                refine behind_val rfl ?_
                refine behind_val rfl ?_
                refine behind_val rfl ?_
                refine behind_val rfl ?_
                refine behind_val rfl ?_
                refine behind_val rfl ?_
                refine behind_val rfl ?_
                refine behind_val rfl ?_
                refine behind_val rfl ?_
                refine behind_val rfl ?_
                refine behind_val rfl ?_
                refine behind_cons fun v13 => ?_
                refine behind_nil fun w8 hCw8 hFw8 => ?_
                simp only [Act.put, List.setIfInBounds_toArray, List.set_cons_succ, List.set_cons_zero, List.drop_succ_cons, List.drop_zero]
                obtain ⟨_, ⟨q, rfl, hq, hlq⟩⟩ := hFw8
                have HQ := Lib.hid hq
                refine wpList_store_row rfl 75 (.tmp 13) (.tmp 82) rfl q (ip6c CL LB (f 6) p (f 7) (fun _ => 0) (fun _ => 0) (.slice none 0 0)) rfl rfl 75 ip6z HQ.out (by kernel_rfl) rfl (ip6_one ..) ?_
                refine wpList_nil ?_
                simp only [Act.put]
                have hNq : w.heap.size < q := by have := lt_heap HZ5.out; omega
                have HH6 : Hid ((w8.setRow q (ip6c CL LB (f 6) p (f 7) (fun _ => 0) (fun _ => 0) (.slice none 0 0))).heap[q]? = some (.cells (ip6c CL LB (f 6) p (f 7) (fun _ => 0) (fun _ => 0) (.slice none 0 0)) 75 (0, 0))) := setRow_heap _ q _ _ _ _ HQ.out
                have HZ6 : Hid ((w8.setRow q (ip6c CL LB (f 6) p (f 7) (fun _ => 0) (fun _ => 0) (.slice none 0 0))).heap[w.heap.size]? = some (.cells ip6z 75 (0, 0))) := (setRow_other _ q w.heap.size _ (by omega)).trans ((hCw8.block _ (lt_heap HZ5.out)).trans HZ5.out)
                have HB6 : Hid (Below w.heap.size w (w8.setRow q (ip6c CL LB (f 6) p (f 7) (fun _ => 0) (fun _ => 0) (.slice none 0 0)))) := below_setRow (HB5.out.trans (hCw8.mono HB5.out.size)) (Nat.le_of_lt hNq) _
                clear HQ hq hCw8 hlq HZ5 HN5 HB5 HX5
                generalize w8.setRow q (ip6c CL LB (f 6) p (f 7) (fun _ => 0) (fun _ => 0) (.slice none 0 0)) = w6 at *
                have HSX := Lib.hid (rsixteen_any b off n c 8 f (by omega) (by omega) w6 (Nat.lt_of_lt_of_le hbb HB6.out.size) (fun k hk => (HB6.out.cell (p := ⟨b, off + k, none⟩) hbb).trans (HC.out k hk)))
                rw [show (arr16 fun k => f (8 + k)) = arr16 sa from congrArg arr16 (HSA.out).symm] at HSX
                go_upto_region 20 with (first
                  | (go_at_call 45
                     refine HSX.out.mono ?_
                     rintro e w7 ⟨rfl, hb⟩
                     have HH7 := Lib.hid ((hb.block _ (lt_heap HH6.out)).trans HH6.out)
                     have HZ7 := Lib.hid ((hb.block _ (lt_heap HZ6.out)).trans HZ6.out)
                     have HB7 : Hid (Below w.heap.size w w7) := HB6.out.trans (hb.mono HB6.out.size)
                     clear hb)
                  | (refine wpList_store_mid rfl 23 (.tmp 85) (.tmp 84) rfl q 5 (arr16 sa) rfl rfl (blk_there HH7.out (by show _ ≤ 38; show 5 + 16 ≤ 38; omega)) (by kernel_rfl) (arr16_one _) ?_))
                have HH8 := Lib.hid (blk_setCells (arr16 sa).toList 5 w7 _ HH7.out)
                rw [laid_src] at HH8
                have HZ8 := Lib.hid ((other_setCells (b := q) (k := w.heap.size) (by omega) (arr16 sa).toList 5 w7).trans HZ7.out)
                have HB8 := Lib.hid (below_setCells (b := q) (Nat.le_of_lt hNq) (arr16 sa).toList 5 w7 HB7.out)
                clear HH7 HZ7 HB7 HH6 HZ6 HB6 HSX
                generalize w7.setCells q 5 (arr16 sa).toList = w8 at *
                have HSX := Lib.hid (rsixteen_any b off n c 24 f (by omega) (by omega) w8 (Nat.lt_of_lt_of_le hbb HB8.out.size) (fun k hk => (HB8.out.cell (p := ⟨b, off + k, none⟩) hbb).trans (HC.out k hk)))
                rw [show (arr16 fun k => f (24 + k)) = arr16 da from congrArg arr16 (HDA.out).symm] at HSX
                go_upto_region 21 with (first
                  | (go_at_call 45
                     refine HSX.out.mono ?_
                     rintro e w9 ⟨rfl, hb⟩
                     have HH9 := Lib.hid ((hb.block _ (lt_heap HH8.out)).trans HH8.out)
                     have HZ9 := Lib.hid ((hb.block _ (lt_heap HZ8.out)).trans HZ8.out)
                     have HB9 : Hid (Below w.heap.size w w9) := HB8.out.trans (hb.mono HB8.out.size)
                     clear hb)
                  | (refine wpList_store_mid rfl 23 (.tmp 88) (.tmp 87) rfl q 21 (arr16 da) rfl rfl (blk_there HH9.out (by show _ ≤ 38; show 21 + 16 ≤ 38; omega)) (by kernel_rfl) (arr16_one _) ?_))
                have HH10 := Lib.hid (blk_setCells (arr16 da).toList 21 w9 _ HH9.out)
                rw [laid_dst] at HH10
                have HZ10 := Lib.hid ((other_setCells (b := q) (k := w.heap.size) (by omega) (arr16 da).toList 21 w9).trans HZ9.out)
                have HB10 := Lib.hid (below_setCells (b := q) (Nat.le_of_lt hNq) (arr16 da).toList 21 w9 HB9.out)
                clear HH9 HZ9 HB9 HH8 HZ8 HB8 HSX
                generalize w9.setCells q 21 (arr16 da).toList = w10 at *
                have HO10 : Hid (Own (w10.alloc (.cells #[] 5)) (w.heap.size + 1) 5 (some ⟨w10.heap.size, 0, none⟩) 0 0 (fun _ => 0)) := Own.fresh w10 _ _ rfl (lt_heap HZ10.out) _ _
                have HA10 : Hid (Below w.heap.size w (w10.alloc (.cells #[] 5))) := HB10.out.alloc HB10.out.size _
                have HHa : Hid ((w10.alloc (.cells #[] 5)).heap[q]? = some (.cells (ip6c CL LB (f 6) p (f 7) sa da (.slice none 0 0)) 75 (0, 0))) := blk_old HH10.out _
                have HZa : Hid ((w10.alloc (.cells #[] 5)).heap[w.heap.size]? = some (.cells ip6z 75 (0, 0))) := blk_old HZ10.out _
                have hqa : q < w10.heap.size := lt_heap HH10.out
                go_upto_region 22 with (first
                  | (at_builtin
                     refine wpList_append_rd rfl (.tmp 89) (.tmp 92) _ rfl (w.heap.size + 1) 5 i0 Try.underlying22 HI0.out HI1.out HI2.out HI3.out rfl HO10.out rfl (HDM.out _ _ _ (HRD.out _ _ _ ((HR.out.keep HA10.out).more HA10.out.size))) (by omega) (Nat.le_trans (lt_heap HZ10.out) (alloc_le w10 _)) ?_
                     intro O co w11 hown hg11 _
                     have HO11 : Hid (Own w11 (w.heap.size + 1) 5 O m co (fun k => f (40 + k))) := by
                       rw [Nat.zero_add] at hown
                       exact hown.same fun k _ => by simp [cat]
                     have HH11 := Lib.hid ((hg11.block q (Nat.lt_of_lt_of_le hqa (alloc_le w10 _)) (by simp [Value.ownBlock]; omega)).trans HHa.out)
                     have HZ11 := Lib.hid ((hg11.block w.heap.size (lt_heap HZa.out) (by simp [Value.ownBlock]; have := lt_heap HZ10.out; omega)).trans HZa.out)
                     have HB11 : Hid (Below w.heap.size w w11) := HA10.out.grown hg11 HA10.out.size (fun k hk => by simp [Value.ownBlock] at hk; have := lt_heap HZ10.out; omega)
                     clear hown hg11
                     have c37 : w11.cell? ⟨q, 37, none⟩ = some (.slice none 0 0) := blk_cell HH11.out 37
                     have f37 : w11.frozen? ⟨q, 37, none⟩ = false := blk_free HH11.out 37))
                have HS12 : Hid (RdS w (w11.setCell ⟨q, 37, none⟩ (.slice O m co)) q (ip6c CL LB (f 6) p (f 7) sa da (.slice O m co)) O m co (fun k => f (40 + k))) :=
                  ⟨blk_far HZ11.out (by simp; omega) _, blk_set HH11.out 37 _, (HO11.out.other HH11.out (by decide) fun k hk => Below.heap_setCell w11 _ _ k hk).le (Nat.le_succ _), HB11.out.setCell (Nat.le_of_lt hNq) _, hNq⟩
                clear HO11 HH11 HZ11 HB11 c37 f37 HO10 HA10 HHa HZa HH10 HZ10 HB10
                generalize w11.setCell ⟨q, 37, none⟩ (.slice O m co) = w12 at *
                obtain ⟨D2, hsD2, hrD2⟩ := slice_any D L (c - 40) m hmL (by omega) (by omega)
                have HD2 := Lib.hid hrD2
                clear hrD2
                have hb12 : b < w12.heap.size := Nat.lt_of_lt_of_le hbb HS12.out.below.size
                have HX12 : Hid (∀ k, k < n → w12.cell? ⟨b, off + k, none⟩ = some (.int .u8 (f k))) := fun k hk => (HS12.out.below.cell (p := ⟨b, off + k, none⟩) hbb).trans (HC.out k hk)
                refine wp_region_grow (C := fun W => Below w12.heap.size w12 W) 6 101 [val (.agg (ip6c CL LB (f 6) p (f 7) sa da (.slice O m co))), mkF w12, val (.slice D L (c - 40)), val (.int .i64 (m : Int)), val (.slice D2 (L - m) (c - 40 - m)), ownF w12 (L - m) (fun k => f (40 + (m + k)))] (by kernel_rfl) rfl (by kernel_rfl) rfl ⟨stb_val _, stb_mk _, stb_val _, stb_val _, stb_val _, stb_own _ _ _, trivial⟩ (Below.refl _ _).drew ?_ ?_
                · refine each_cons ?_ ?_
                  · intro a W hW hd
                    have h13 : a.tmps[13]?.getD undef = .pointer (some ⟨q, 0, none⟩) := slot_eq (hd 13 (by decide))
                    refine grows_value (.agg (ip6c CL LB (f 6) p (f 7) sa da (.slice O m co))) hW (?_ : _ = _) rfl
                    clear hd
                    simp only [execOp, Act.eval, Array.getD_eq_getD_getElem?, h13, Instr.loadAt, Instr.sureAddr, Sem.run_bind, Sem.run_pure, Result.andThen_ok, run_loadVar_row W q 75 75 (ip6c CL LB (f 6) p (f 7) sa da (.slice O m co)) (0, 0) _ ((hW.block _ (lt_heap HS12.out.hd)).trans HS12.out.hd) Try.underlying75 rfl (by kernel_rfl)]
                  refine each_cons ?_ ?_
                  · intro a W hW hd
                    refine grows_new (.slice (some ⟨W.heap.size, 0, none⟩) 0 0) (w' := W.alloc (.cells #[] 5)) (?_ : _ = _) ⟨_, rfl, Own.fresh W _ _ rfl hW.size _ _⟩ (below_alloc _ _) (hW.alloc hW.size _)
                    clear hd
                    go_simp
                  refine each_cons ?_ ?_
                  · intro a W hW hd
                    have h9 : a.tmps[9]?.getD undef = .slice D L (c - 40) := slot_eq (hd 9 (by decide))
                    exact grows_value _ hW (by simp [execOp, Act.eval, h9]) rfl
                  refine each_cons ?_ ?_
                  · intro a W hW hd
                    have h11 : a.tmps[11]?.getD undef = .int .i64 (m : Int) := slot_eq (hd 11 (by decide))
                    exact grows_value _ hW (by simp [execOp, Act.eval, h11]) rfl
                  refine each_cons ?_ ?_
                  · intro a W hW hd
                    have h97 : a.tmps[97]?.getD undef = .slice D L (c - 40) := slot_eq (hd 97 (by decide))
                    have h98 : a.tmps[98]?.getD undef = .int .i64 (m : Int) := slot_eq (hd 98 (by decide))
                    refine grows_value _ hW (?_ : _ = _) rfl
                    clear hd
                    go_simp
                  refine each_cons ?_ ?_
                  · intro a W hW hd
                    have h99 : a.tmps[99]?.getD undef = .slice D2 (L - m) (c - 40 - m) := slot_eq (hd 99 (by decide))
                    obtain ⟨z, h96, ho⟩ := hd 96 (by decide)
                    have h96' : a.tmps[96]?.getD undef = .slice (some ⟨z, 0, none⟩) 0 0 := slot_eq h96
                    obtain ⟨A2, c2, w', hrun, hown, hb⟩ := run_append_fresh (P := Try.prog) w12.heap.size 22 22 5 i0 Try.underlying22 HI0.out HI1.out HI2.out HI3.out ⟨z, 0, none⟩ ho (c' := c - 40 - m) (HD2.out W W.heap.size _ (HRD.out W W.heap.size f (.inr ⟨b, off, rfl, Nat.lt_of_lt_of_le hb12 hW.size, fun k hk => (hW.cell (p := ⟨b, off + k, none⟩) hb12).trans (HX12.out k hk)⟩))) (by omega) hW.size
                    refine grows_new (.slice A2 (L - m) c2) (w' := w') ?_ ⟨A2, c2, rfl, hown⟩ hb (hW.trans (hb.mono hW.size))
                    clear hd
                    simp only [execOp, resolve, invoke, builtin, Sem.run_bind, Sem.run_pure, Result.andThen_ok, List.map_toArray, List.map_cons, List.map_nil, Act.eval, Array.getD_eq_getD_getElem?, h96', h99, hrun]
                  exact each_nil
                · refine behind_val rfl ?_
                  refine behind_cons fun v96 => ?_
                  refine behind_val rfl ?_
                  refine behind_val rfl ?_
                  refine behind_val rfl ?_
                  refine behind_cons fun v100 => ?_
                  refine behind_nil fun w13 hCw13 hFw13 => ?_
                  obtain ⟨⟨_, _⟩, ⟨P, cp, rfl, hP⟩⟩ := hFw13
                  have HP := Lib.hid hP
                  have HS13 := Lib.hid (HS12.out.step hCw13)
                  have HAP := Lib.hid (HS12.out.own.apart hP)
                  clear hP hCw13
                  simp only [Act.put, List.setIfInBounds_toArray, List.set_cons_succ, List.set_cons_zero, List.drop_succ_cons, List.drop_zero]
                  refine wpList_store_row rfl 75 (.tmp 2) (.tmp 95) rfl w.heap.size (ip6c CL LB (f 6) p (f 7) sa da (.slice O m co)) rfl rfl 75 ip6z HS13.out.res (by kernel_rfl) rfl (ip6_one ..) ?_
                  simp only [Act.put]
                  go_wp2_with fail
                  refine bodyPost_ret (v := .tuple #[.agg (ip6c CL LB (f 6) p (f 7) sa da (.slice O m co)), .slice P (L - m) cp, .int .i64 0]) (results_row2 Try.results29 _ _ w.heap.size 75 (ip6c CL LB (f 6) p (f 7) sa da (.slice O m co)) (0, 0) _ rfl (setRow_heap _ w.heap.size _ (ip6c CL LB (f 6) p (f 7) sa da (.slice O m co)) _ _ HS13.out.res) Try.underlying75 rfl (by kernel_rfl)) rfl ?_
                  refine .inr ⟨by first | rfl | exact hRe, ?_⟩
                  unfold Read6
                  rw [← HLL.out, ← HCL.out, ← HLB.out, ← HSA.out, ← HDA.out]
                  exact ⟨p, m, O, co, P, cp, HXX.out.symm, rfl, HS13.out.own.other HS13.out.res (by decide) (fun k hk => setRow_other _ w.heap.size k _ hk), (HP.out.le HS12.out.below.size).other HS13.out.res (by decide) (fun k hk => setRow_other _ w.heap.size k _ hk), HAP.out, below_setRow HS13.out.below (Nat.le_refl _) _⟩
            · have c3' : (E != 0) = true := by simpa using c3
              have hRe : R = E := HRE.out.trans ((rd6_3 N0.out N1.out N2.out).trans (by rw [← HXX.out]))
              go_wp2_with (first
                | (refine wpList_load_row rfl 75 (.tmp 5) rfl (w.heap.size + 1) rfl 75 ip6z (0, 0) _ HN5.out Try.underlying75 rfl (by kernel_rfl) ?_)
                | (refine wpList_store_row rfl 75 (.tmp 2) (.tmp 66) rfl w.heap.size ip6z rfl rfl 75 ip6z HZ5.out (by kernel_rfl) rfl ip6z_one ?_))
              refine bodyPost_ret (v := .tuple #[.agg ip6z, .slice none 0 0, .int .i64 E]) (results_row2 Try.results29 _ _ w.heap.size 75 ip6z (0, 0) _ rfl (setRow_heap _ w.heap.size _ ip6z _ _ HZ5.out) Try.underlying75 rfl (by kernel_rfl)) rfl ?_
              have hRne : ¬ R = 0 := by omega
              exact .inl ⟨hRne, by first | rfl | (rw [hRe] <;> rfl), below_setRow HB5.out (Nat.le_refl _) _⟩
        · have hv' : (f 0 / 16 != 6) = true := by simpa using hv
          go_upto_if 33 with fail
          have hRe : R = 5 := HRE.out.trans (rd6_1 N0.out hv)
          go_wp2_with (first
            | (refine wpList_load_row rfl 75 (.tmp 5) rfl (w.heap.size + 1) rfl 75 ip6z (0, 0) _ HN3.out Try.underlying75 rfl (by kernel_rfl) ?_)
            | (refine wpList_store_row rfl 75 (.tmp 2) (.tmp 34) rfl w.heap.size ip6z rfl rfl 75 ip6z HZ3.out (by kernel_rfl) rfl ip6z_one ?_))
          refine bodyPost_ret (v := .tuple #[.agg ip6z, .slice none 0 0, .int .i64 5]) (results_row2 Try.results29 _ _ w.heap.size 75 ip6z (0, 0) _ rfl (setRow_heap _ w.heap.size _ ip6z _ _ HZ3.out) Try.underlying75 rfl (by kernel_rfl)) rfl ?_
          have hRne : ¬ R = 0 := by omega
          exact .inl ⟨hRne, by first | rfl | (rw [hRe] <;> rfl), below_setRow HB3.out (Nat.le_refl _) _⟩
end Go.Proofs.Ytlchegibfopglaa
