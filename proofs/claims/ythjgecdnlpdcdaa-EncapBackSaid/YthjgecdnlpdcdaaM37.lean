import Derived.Test.YthjgecdnlpdcdaaM15
import Derived.Test.YthjgecdnlpdcdaaM20
import Derived.Test.YthjgecdnlpdcdaaM36
import Derived.Test.YthjgecdnlpdcdaaM14
import Derived.Laws.Cover3
/- The program's ip6.Read. -/
namespace Go.Proofs.Ythjgecdnlpdcdaa
set_option maxRecDepth 100000
open Go.RowKit
/-- A header with a chain of the call's own. -/
def bldF (w : World) (cls lab next proto hops : Int) (s d : Nat → Int) (n : Nat) (f : Nat → Int) : Fact := fun v W => ∃ O co, v = .agg (ip6c cls lab next proto hops s d (.slice O n co)) ∧ Own W w.heap.size 5 O n co f
theorem stb_bld (w : World) (cls lab next proto hops : Int) (s d : Nat → Int) (n : Nat) (f : Nat → Int) : Stb (bldF w cls lab next proto hops s d n f) := fun _ _ _ ⟨O, co, h, ho⟩ hb => ⟨O, co, h, ho.below hb⟩
theorem load16_at (b o : Nat) (g : Nat → Int) (W : World) (h : ∀ k, k < 16 → W.cell? ⟨b, o + k, none⟩ = some (.int .u8 (g k))) : (loadVar 22 ⟨b, o, none⟩).run Try.prog W = .ok (.agg (arr16 g)) W := by
  have hc : W.rangeAt b o (arr16 g).toList := fun j v hv => by
    have hj : j < 16 := (List.getElem?_eq_some_iff.1 hv).1
    rw [h j hj, ← hv, Array.getElem?_toList, arr16_get g j hj]
  have e := run_loadVar_mid (P := Try.prog) W b o 22 (arr16 g).toList _ hc Try.underlying22 rfl (by kernel_rfl)
  simpa using e
/-- Read's numbers, out of the first bytes. -/
theorem rd6_cls (x y : Int) (_hx : 0 ≤ x ∧ x ≤ 255) (hy : 0 ≤ y ∧ y ≤ 255) : bits .or .u8 (x % 16 * 16) (y / 16) = x % 16 * 16 + y / 16 := or_u8 (x % 16) (y / 16) 16 4 rfl (by omega) (by omega) (by omega) (by omega)
set_option maxRecDepth 100000 in
set_option maxHeartbeats 4000000 in
theorem read6_any (A : Option Addr) (n c : Nat) (f : Nat → Int) (hf : Byt f) (hn : n ≤ 140737488355328) (hcap : n ≤ c) (hc' : c ≤ 9223372036854775807) (w : World) (hr : Rd w w.heap.size A n f) :
    Calls Try.prog 16 #[.slice A n c] w (Read6P 5 (rd6E f n) f w) := by
  have HR := Lib.hid hr
  have HF := Lib.hid hf
  clear hr hf
  obtain ⟨R, hR⟩ : ∃ R, R = rd6E f n := ⟨_, rfl⟩
  rw [← hR]
  have HRE := Lib.hid hR
  clear hR
  have HZ1 : Hid ((w.alloc (.cells ip6z 57)).heap[w.heap.size]? = some (.cells ip6z 57 (0, 0))) := heap_alloc_new w _
  have HB1 : Hid (Below w.heap.size w (w.alloc (.cells ip6z 57))) := below_alloc w _
  go_enter Try.func16, Try.ntmps16
  go_upto_if 13 with fail
  change Code.wp _ _ _ _ (w.alloc (.cells ip6z 57))
  generalize w.alloc (.cells ip6z 57) = w1 at *
  by_cases c0 : n < 40
  · have c0' : (n : Int) < 40 := by omega
    have hRe : R = 4 := HRE.out.trans (rd6_0 c0)
    go_wp2_with (first
      | (refine wpList_store_row rfl 57 (.tmp 2) (.tmp 14) rfl w.heap.size ip6z rfl rfl 57 ip6z HZ1.out (by kernel_rfl) rfl ip6z_one ?_))
    refine bodyPost_ret (v := .tuple #[.agg ip6z, .slice none 0 0, .int .i64 4]) (results_row2 Try.results16 _ _ w.heap.size 57 ip6z (0, 0) _ rfl (setRow_heap _ w.heap.size _ ip6z _ _ HZ1.out) Try.underlying57 rfl (by kernel_rfl)) rfl ?_
    have hRne : ¬ R = 0 := by omega
    exact .inl ⟨hRne, by first | rfl | (rw [hRe] <;> rfl), below_setRow HB1.out (Nat.le_refl _) _⟩
  · have N0 : Hid (¬ (n < 40)) := c0
    have c0' : (40 : Int) ≤ (n : Int) := by omega
    rcases HR.out with h0 | ⟨b, off, rfl, hbb, hcell⟩
    · omega
    have HC := Lib.hid hcell
    clear hcell
    have p0 := HF.out 0
    have x0 := (HB1.out.cell (p := ⟨b, off, none⟩) hbb).trans (HC.out 0 (by omega))
    go_upto_if 19 with fail
    clear x0
    by_cases hv : f 0 / 16 = 6
    · have N1 : Hid (¬ (f 0 / 16 ≠ 6)) := fun h => h hv
      have hv' : (f 0 / 16 != 6) = false := by simpa using hv
      clear hv
      have p0 := HF.out 0
      have hln := ln6_le HF.out
      obtain ⟨L, hL⟩ : ∃ L, L = ln6 f := ⟨_, rfl⟩
      rw [← hL] at hln
      have p4 := HF.out 4
      have p5 := HF.out 5
      have hL' : bits .or .i64 (f 4 * 256) (f 5) = (L : Int) := by
        refine (or_i64 (f 4) (f 5) 256 8 rfl (by omega) (by omega) (by omega) (by omega)).trans ?_
        rw [hL]
        unfold ln6
        omega
      have hw4 : IntKind.i64.wrap (f 4) = f 4 := by rw [IntKind.wrap_i64]; omega
      have hw5 : IntKind.i64.wrap (f 5) = f 5 := by rw [IntKind.wrap_i64]; omega
      have hw6 : IntKind.i64.wrap (f 4 * 256) = f 4 * 256 := by rw [IntKind.wrap_i64]; omega
      have HLL := Lib.hid hL
      have x4 := (HB1.out.cell (p := ⟨b, off + 4, none⟩) hbb).trans (HC.out 4 (by omega))
      have x5 := (HB1.out.cell (p := ⟨b, off + 5, none⟩) hbb).trans (HC.out 5 (by omega))
      have i4 : (4 : Int) < (n : Int) := by omega
      have i5 : (5 : Int) < (n : Int) := by omega
      clear hL
      go_upto_region 5 with fail
      go_quiet (fail)
      clear x4 x5 i4 i5 hL' hw4 hw5 hw6
      have HZ4 := Lib.hid (show (w1.drewN nq).heap[w.heap.size]? = some (.cells ip6z 57 (0, 0)) from HZ1.out)
      have HB4 := Lib.hid (below_drewN HB1.out nq)
      clear HZ1 HB1
      generalize w1.drewN nq = w4 at *
      clear p4 p5
      go_upto_if 35 with fail
      by_cases c2 : n < 40 + L
      · have c2' : (n : Int) - 40 < (L : Int) := by omega
        have hRe : R = 4 := HRE.out.trans (rd6_2 N0.out N1.out (by rw [← HLL.out]; omega))
        go_wp2_with (first
          | (refine wpList_store_row rfl 57 (.tmp 2) (.tmp 36) rfl w.heap.size ip6z rfl rfl 57 ip6z HZ4.out (by kernel_rfl) rfl ip6z_one ?_))
        refine bodyPost_ret (v := .tuple #[.agg ip6z, .slice none 0 0, .int .i64 4]) (results_row2 Try.results16 _ _ w.heap.size 57 ip6z (0, 0) _ rfl (setRow_heap _ w.heap.size _ ip6z _ _ HZ4.out) Try.underlying57 rfl (by kernel_rfl)) rfl ?_
        have hRne : ¬ R = 0 := by omega
        exact .inl ⟨hRne, by first | rfl | (rw [hRe] <;> rfl), below_setRow HB4.out (Nat.le_refl _) _⟩
      · have N2 : Hid (¬ (n - 40 < ln6 f)) := by rw [← HLL.out]; exact fun h => c2 (by omega)
        have c2' : (L : Int) ≤ (n : Int) - 40 := by omega
        have hL0 : L ≤ n - 40 := by omega
        obtain ⟨D, hsD0, hrD⟩ := slice_both b off n c 40 (40 + L) (by omega) (by omega) hcap hc'
        have eL : 40 + L - 40 = L := by omega
        rw [eL] at hrD
        have hsD : ∀ W, (Instr.sliceAt 26 (.slice (some ⟨b, off, none⟩) n c) (some (.int .i64 40)) (some (.int .i64 (40 + (L : Int)))) none).run Try.prog W = .ok (.slice D L (c - 40)) W := fun W => by
          have q := hsD0 W
          rw [eL] at q
          have e2 : ((40 + L : Nat) : Int) = 40 + (L : Int) := by omega
          rw [e2] at q
          exact q
        have HRD := Lib.hid hrD
        clear hrD hsD0 eL
        have x6 := (HB4.out.cell (p := ⟨b, off + 6, none⟩) hbb).trans (HC.out 6 (by omega))
        have i6 : (6 : Int) < (n : Int) := by omega
        have HCH := Lib.hid (chain_any (f 6) (HF.out 6) D L (c - 40) (fun k => f (40 + k)) (fun k => HF.out _) (by omega) (by omega) (by omega) w4 (HRD.out _ _ _ ((HR.out.keep HB4.out).more HB4.out.size)))
        obtain ⟨X, hX⟩ : ∃ X, X = chn (fun k => f (40 + k)) L 8 (f 6) 0 := ⟨_, rfl⟩
        rw [← hX] at HCH
        have HXX : Hid (X = chn6 f) := by
          refine Lib.hid ?_
          rw [hX, HLL.out]
          rfl
        have HXL := Lib.hid hX
        obtain ⟨p, m, E⟩ := X
        clear hX
        go_upto_if 51 with (first
          | (go_at_call 23; refine HCH.out.mono ?_; rintro e w5 ⟨rfl, hb5⟩; have HZ5 := Lib.hid ((hb5.block _ (lt_heap HZ4.out)).trans HZ4.out); have HB5 : Hid (Below w.heap.size w w5) := HB4.out.trans (hb5.mono HB4.out.size); clear hb5))
        clear HCH x6 HZ4 HB4 i6
        by_cases c3 : E = 0
        · subst c3
          have hRe : R = 0 := HRE.out.trans ((rd6_3 N0.out N1.out N2.out).trans (by rw [← HXX.out]))
          have hmL : m ≤ L := (chn_same (f := fun k => f (40 + k)) (g := fun k => f (40 + k)) (N := L) (N' := L) 8 (f 6) 0 p m HXL.out.symm (Nat.zero_le _)).2.2
          obtain ⟨DM, hsM, hrM⟩ := slice_to D L (c - 40) m hmL (by omega) (by omega)
          have HDM := Lib.hid hrM
          clear hrM
          obtain ⟨i0, hi0, hz0, hz1, hz2⟩ := info_parts Try.info5
          have HI0 := Lib.hid hi0
          have HI1 := Lib.hid hz0
          have HI2 := Lib.hid hz1
          have HI3 := Lib.hid hz2
          clear hi0 hz0 hz1 hz2
          have hb5 : b < w5.heap.size := Nat.lt_of_lt_of_le hbb HB5.out.size
          have HX5 : Hid (∀ k, k < n → w5.cell? ⟨b, off + k, none⟩ = some (.int .u8 (f k))) := fun k hk => (HB5.out.cell (p := ⟨b, off + k, none⟩) hbb).trans (HC.out k hk)
          obtain ⟨CL, hCL⟩ : ∃ CL, CL = cls6 f := ⟨_, rfl⟩
          obtain ⟨LB, hLB⟩ : ∃ LB, LB = lab6 f := ⟨_, rfl⟩
          have p0 := HF.out 0
          have p1 := HF.out 1
          have p2 := HF.out 2
          have p3 := HF.out 3
          have g1 : IntKind.u8.wrap (f 0 * 16) = f 0 % 16 * 16 := by rw [IntKind.wrap_u8']; omega
          have g2 : bits .or .u8 (f 0 % 16 * 16) (f 1 / 16) = CL := by rw [hCL]; exact rd6_cls _ _ p0 p1
          have g3 : bits .and .u8 (f 1) 15 = f 1 % 16 := and_u8 (f 1) 15 16 4 rfl rfl (by omega) (by omega) (by omega)
          have g4 : IntKind.u32.wrap (f 1 % 16) = f 1 % 16 := by rw [IntKind.wrap_u32']; omega
          have g5 : IntKind.u32.wrap (f 1 % 16 * 65536) = f 1 % 16 * 65536 := by rw [IntKind.wrap_u32']; omega
          have g6 : IntKind.u32.wrap (f 2) = f 2 := by rw [IntKind.wrap_u32']; omega
          have g7 : IntKind.u32.wrap (f 2 * 256) = f 2 * 256 := by rw [IntKind.wrap_u32']; omega
          have g8 : bits .or .u32 (f 1 % 16 * 65536) (f 2 * 256) = f 1 % 16 * 65536 + f 2 * 256 := or_u32 (f 1 % 16) (f 2 * 256) 65536 16 rfl (by omega) (by omega) (by omega) (by omega)
          have g9 : IntKind.u32.wrap (f 3) = f 3 := by rw [IntKind.wrap_u32']; omega
          have g10 : bits .or .u32 (f 1 % 16 * 65536 + f 2 * 256) (f 3) = LB := by
            have e : f 1 % 16 * 65536 + f 2 * 256 = (f 1 % 16 * 256 + f 2) * 256 := by omega
            rw [hLB, e]
            exact or_u32 (f 1 % 16 * 256 + f 2) (f 3) 256 8 rfl (by omega) (by omega) (by omega) (by omega)
          have HCL := Lib.hid hCL
          have HLB := Lib.hid hLB
          clear hCL hLB
          have i0n : 0 < n := by omega
          have i1 : (1 : Int) < (n : Int) := by omega
          have i2 : (2 : Int) < (n : Int) := by omega
          have i3 : (3 : Int) < (n : Int) := by omega
          have i6 : (6 : Int) < (n : Int) := by omega
          have i7 : (7 : Int) < (n : Int) := by omega
          obtain ⟨sa, hsa⟩ : ∃ sa, sa = fun k => f (8 + k) := ⟨_, rfl⟩
          obtain ⟨da, hda⟩ : ∃ da, da = fun k => f (24 + k) := ⟨_, rfl⟩
          have hs8 : ∀ W, (Instr.sliceAt 26 (.slice (some ⟨b, off, none⟩) n c) (some (.int .i64 8)) (some (.int .i64 24)) none).run Try.prog W = .ok (.slice (some ⟨b, off + 8, none⟩) 16 (c - 8)) W := slice_at b off n c 8 24 (by omega) (by omega) hcap hc' (by omega)
          have hs24 : ∀ W, (Instr.sliceAt 26 (.slice (some ⟨b, off, none⟩) n c) (some (.int .i64 24)) (some (.int .i64 40)) none).run Try.prog W = .ok (.slice (some ⟨b, off + 24, none⟩) 16 (c - 24)) W := slice_at b off n c 24 40 (by omega) (by omega) hcap hc' (by omega)
          have hat : ∀ (a : Option Addr) (k : Nat) W, (Instr.arrayAt 22 (.slice a 16 k)).run Try.prog W = .ok (.pointer a) W := fun a k W => run_arrayAt W 22 _ 16 _ 16 k Try.underlying22 (Nat.le_refl _)
          have HL8 : Hid (∀ W, Below w5.heap.size w5 W → (loadVar 22 ⟨b, off + 8, none⟩).run Try.prog W = .ok ((.agg #[.int .u8 (sa 0), .int .u8 (sa 1), .int .u8 (sa 2), .int .u8 (sa 3), .int .u8 (sa 4), .int .u8 (sa 5), .int .u8 (sa 6), .int .u8 (sa 7), .int .u8 (sa 8), .int .u8 (sa 9), .int .u8 (sa 10), .int .u8 (sa 11), .int .u8 (sa 12), .int .u8 (sa 13), .int .u8 (sa 14), .int .u8 (sa 15)])) W) := fun W hW => load16_at b (off + 8) sa W fun k hk => by
            rw [hsa, Nat.add_assoc]
            exact (hW.cell (p := ⟨b, off + (8 + k), none⟩) hb5).trans (HX5.out _ (by omega))
          have HL24 : Hid (∀ W, Below w5.heap.size w5 W → (loadVar 22 ⟨b, off + 24, none⟩).run Try.prog W = .ok ((.agg #[.int .u8 (da 0), .int .u8 (da 1), .int .u8 (da 2), .int .u8 (da 3), .int .u8 (da 4), .int .u8 (da 5), .int .u8 (da 6), .int .u8 (da 7), .int .u8 (da 8), .int .u8 (da 9), .int .u8 (da 10), .int .u8 (da 11), .int .u8 (da 12), .int .u8 (da 13), .int .u8 (da 14), .int .u8 (da 15)])) W) := fun W hW => load16_at b (off + 24) da W fun k hk => by
            rw [hda, Nat.add_assoc]
            exact (hW.cell (p := ⟨b, off + (24 + k), none⟩) hb5).trans (HX5.out _ (by omega))
          have HSA := Lib.hid hsa
          have HDA := Lib.hid hda
          clear hsa hda
          go_upto_region 12 with fail
          refine wp_region_grow (C := fun W => Below w5.heap.size w5 W) 48 107 [val (.slice (some ⟨b, off, none⟩) n c), val (.pointer (some ⟨b, off, none⟩)), val (.int .u8 (f 0)), val (.int .u8 (f 0 % 16 * 16)), val (.slice (some ⟨b, off, none⟩) n c), val (.pointer (some ⟨b, off + 1, none⟩)), val (.int .u8 (f 1)), val (.int .u8 (f 1 / 16)), val (.int .u8 CL), val (.slice (some ⟨b, off, none⟩) n c), val (.pointer (some ⟨b, off + 1, none⟩)), val (.int .u8 (f 1)), val (.int .u8 (f 1 % 16)), val (.int .u32 (f 1 % 16)), val (.int .u32 (f 1 % 16 * 65536)), val (.slice (some ⟨b, off, none⟩) n c), val (.pointer (some ⟨b, off + 2, none⟩)), val (.int .u8 (f 2)), val (.int .u32 (f 2)), val (.int .u32 (f 2 * 256)), val (.int .u32 (f 1 % 16 * 65536 + f 2 * 256)), val (.slice (some ⟨b, off, none⟩) n c), val (.pointer (some ⟨b, off + 3, none⟩)), val (.int .u8 (f 3)), val (.int .u32 (f 3)), val (.int .u32 LB), val (.slice (some ⟨b, off, none⟩) n c), val (.pointer (some ⟨b, off + 6, none⟩)), val (.int .u8 (f 6)), val (.int .u8 p), val (.slice (some ⟨b, off, none⟩) n c), val (.pointer (some ⟨b, off + 7, none⟩)), val (.int .u8 (f 7)), val (.slice (some ⟨b, off, none⟩) n c), val (.slice (some ⟨b, off + 8, none⟩) 16 (c - 8)), val (.pointer (some ⟨b, off + 8, none⟩)), val (.agg #[.int .u8 (sa 0), .int .u8 (sa 1), .int .u8 (sa 2), .int .u8 (sa 3), .int .u8 (sa 4), .int .u8 (sa 5), .int .u8 (sa 6), .int .u8 (sa 7), .int .u8 (sa 8), .int .u8 (sa 9), .int .u8 (sa 10), .int .u8 (sa 11), .int .u8 (sa 12), .int .u8 (sa 13), .int .u8 (sa 14), .int .u8 (sa 15)]), val (.slice (some ⟨b, off, none⟩) n c), val (.slice (some ⟨b, off + 24, none⟩) 16 (c - 24)), val (.pointer (some ⟨b, off + 24, none⟩)), val (.agg #[.int .u8 (da 0), .int .u8 (da 1), .int .u8 (da 2), .int .u8 (da 3), .int .u8 (da 4), .int .u8 (da 5), .int .u8 (da 6), .int .u8 (da 7), .int .u8 (da 8), .int .u8 (da 9), .int .u8 (da 10), .int .u8 (da 11), .int .u8 (da 12), .int .u8 (da 13), .int .u8 (da 14), .int .u8 (da 15)]), mkF w5, val (.slice D L (c - 40)), val (.int .i64 (m : Int)), val (.slice DM m (c - 40)), ownF w5 m (fun k => f (40 + k)), bldF w5 CL LB (f 6) p (f 7) sa da m (fun k => f (40 + k)), newF w5] (by kernel_rfl) rfl (by kernel_rfl) rfl ⟨stb_val _, stb_val _, stb_val _, stb_val _, stb_val _, stb_val _, stb_val _, stb_val _, stb_val _, stb_val _, stb_val _, stb_val _, stb_val _, stb_val _, stb_val _, stb_val _, stb_val _, stb_val _, stb_val _, stb_val _, stb_val _, stb_val _, stb_val _, stb_val _, stb_val _, stb_val _, stb_val _, stb_val _, stb_val _, stb_val _, stb_val _, stb_val _, stb_val _, stb_val _, stb_val _, stb_val _, stb_val _, stb_val _, stb_val _, stb_val _, stb_val _, stb_mk _, stb_val _, stb_val _, stb_val _, stb_own _ _ _, stb_bld _ _ _ _ _ _ _ _ _ _, stb_new _, trivial⟩ (Below.refl _ _).drew ?_ ?_
          · refine each_cons ?_ ?_
            · intro a W hW hd
              have h0 : a.tmps[0]?.getD undef = .slice (some ⟨b, off, none⟩) n c := slot_eq (hd 0 (by decide))
              exact grows_value _ hW (by simp [execOp, Act.eval, h0]) rfl
            refine each_cons ?_ ?_
            · intro a W hW hd
              have h54 : a.tmps[54]?.getD undef = .slice (some ⟨b, off, none⟩) n c := slot_eq (hd 54 (by decide))
              refine grows_value _ hW (?_ : _ = _) rfl
              clear hd
              go_simp
            refine each_cons ?_ ?_
            · intro a W hW hd
              have h55 : a.tmps[55]?.getD undef = .pointer (some ⟨b, off, none⟩) := slot_eq (hd 55 (by decide))
              have hx := (hW.cell (p := ⟨b, off, none⟩) hb5).trans (HX5.out 0 (by omega))
              refine grows_value _ hW (?_ : _ = _) rfl
              clear hd
              go_simp
            refine each_cons ?_ ?_
            · intro a W hW hd
              have h56 : a.tmps[56]?.getD undef = .int .u8 (f 0) := slot_eq (hd 56 (by decide))
              refine grows_value _ hW (?_ : _ = _) rfl
              clear hd
              go_simp
            refine each_cons ?_ ?_
            · intro a W hW hd
              have h0 : a.tmps[0]?.getD undef = .slice (some ⟨b, off, none⟩) n c := slot_eq (hd 0 (by decide))
              exact grows_value _ hW (by simp [execOp, Act.eval, h0]) rfl
            refine each_cons ?_ ?_
            · intro a W hW hd
              have h58 : a.tmps[58]?.getD undef = .slice (some ⟨b, off, none⟩) n c := slot_eq (hd 58 (by decide))
              refine grows_value _ hW (?_ : _ = _) rfl
              clear hd
              go_simp
            refine each_cons ?_ ?_
            · intro a W hW hd
              have h59 : a.tmps[59]?.getD undef = .pointer (some ⟨b, off + 1, none⟩) := slot_eq (hd 59 (by decide))
              have hx := (hW.cell (p := ⟨b, off + 1, none⟩) hb5).trans (HX5.out 1 (by omega))
              refine grows_value _ hW (?_ : _ = _) rfl
              clear hd
              go_simp
            refine each_cons ?_ ?_
            · intro a W hW hd
              have h60 : a.tmps[60]?.getD undef = .int .u8 (f 1) := slot_eq (hd 60 (by decide))
              refine grows_value _ hW (?_ : _ = _) rfl
              clear hd
              go_simp
            refine each_cons ?_ ?_
            · intro a W hW hd
              have h57 : a.tmps[57]?.getD undef = .int .u8 (f 0 % 16 * 16) := slot_eq (hd 57 (by decide))
              have h61 : a.tmps[61]?.getD undef = .int .u8 (f 1 / 16) := slot_eq (hd 61 (by decide))
              refine grows_value _ hW (?_ : _ = _) rfl
              clear hd
              go_simp
            refine each_cons ?_ ?_
            · intro a W hW hd
              have h0 : a.tmps[0]?.getD undef = .slice (some ⟨b, off, none⟩) n c := slot_eq (hd 0 (by decide))
              exact grows_value _ hW (by simp [execOp, Act.eval, h0]) rfl
            refine each_cons ?_ ?_
            · intro a W hW hd
              have h63 : a.tmps[63]?.getD undef = .slice (some ⟨b, off, none⟩) n c := slot_eq (hd 63 (by decide))
              refine grows_value _ hW (?_ : _ = _) rfl
              clear hd
              go_simp
            refine each_cons ?_ ?_
            · intro a W hW hd
              have h64 : a.tmps[64]?.getD undef = .pointer (some ⟨b, off + 1, none⟩) := slot_eq (hd 64 (by decide))
              have hx := (hW.cell (p := ⟨b, off + 1, none⟩) hb5).trans (HX5.out 1 (by omega))
              refine grows_value _ hW (?_ : _ = _) rfl
              clear hd
              go_simp
            refine each_cons ?_ ?_
            · intro a W hW hd
              have h65 : a.tmps[65]?.getD undef = .int .u8 (f 1) := slot_eq (hd 65 (by decide))
              refine grows_value _ hW (?_ : _ = _) rfl
              clear hd
              go_simp
            refine each_cons ?_ ?_
            · intro a W hW hd
              have h66 : a.tmps[66]?.getD undef = .int .u8 (f 1 % 16) := slot_eq (hd 66 (by decide))
              refine grows_value _ hW (?_ : _ = _) rfl
              clear hd
              go_simp
            refine each_cons ?_ ?_
            · intro a W hW hd
              have h67 : a.tmps[67]?.getD undef = .int .u32 (f 1 % 16) := slot_eq (hd 67 (by decide))
              refine grows_value _ hW (?_ : _ = _) rfl
              clear hd
              go_simp
            refine each_cons ?_ ?_
            · intro a W hW hd
              have h0 : a.tmps[0]?.getD undef = .slice (some ⟨b, off, none⟩) n c := slot_eq (hd 0 (by decide))
              exact grows_value _ hW (by simp [execOp, Act.eval, h0]) rfl
            refine each_cons ?_ ?_
            · intro a W hW hd
              have h69 : a.tmps[69]?.getD undef = .slice (some ⟨b, off, none⟩) n c := slot_eq (hd 69 (by decide))
              refine grows_value _ hW (?_ : _ = _) rfl
              clear hd
              go_simp
            refine each_cons ?_ ?_
            · intro a W hW hd
              have h70 : a.tmps[70]?.getD undef = .pointer (some ⟨b, off + 2, none⟩) := slot_eq (hd 70 (by decide))
              have hx := (hW.cell (p := ⟨b, off + 2, none⟩) hb5).trans (HX5.out 2 (by omega))
              refine grows_value _ hW (?_ : _ = _) rfl
              clear hd
              go_simp
            refine each_cons ?_ ?_
            · intro a W hW hd
              have h71 : a.tmps[71]?.getD undef = .int .u8 (f 2) := slot_eq (hd 71 (by decide))
              refine grows_value _ hW (?_ : _ = _) rfl
              clear hd
              go_simp
            refine each_cons ?_ ?_
            · intro a W hW hd
              have h72 : a.tmps[72]?.getD undef = .int .u32 (f 2) := slot_eq (hd 72 (by decide))
              refine grows_value _ hW (?_ : _ = _) rfl
              clear hd
              go_simp
            refine each_cons ?_ ?_
            · intro a W hW hd
              have h68 : a.tmps[68]?.getD undef = .int .u32 (f 1 % 16 * 65536) := slot_eq (hd 68 (by decide))
              have h73 : a.tmps[73]?.getD undef = .int .u32 (f 2 * 256) := slot_eq (hd 73 (by decide))
              refine grows_value _ hW (?_ : _ = _) rfl
              clear hd
              go_simp
            refine each_cons ?_ ?_
            · intro a W hW hd
              have h0 : a.tmps[0]?.getD undef = .slice (some ⟨b, off, none⟩) n c := slot_eq (hd 0 (by decide))
              exact grows_value _ hW (by simp [execOp, Act.eval, h0]) rfl
            refine each_cons ?_ ?_
            · intro a W hW hd
              have h75 : a.tmps[75]?.getD undef = .slice (some ⟨b, off, none⟩) n c := slot_eq (hd 75 (by decide))
              refine grows_value _ hW (?_ : _ = _) rfl
              clear hd
              go_simp
            refine each_cons ?_ ?_
            · intro a W hW hd
              have h76 : a.tmps[76]?.getD undef = .pointer (some ⟨b, off + 3, none⟩) := slot_eq (hd 76 (by decide))
              have hx := (hW.cell (p := ⟨b, off + 3, none⟩) hb5).trans (HX5.out 3 (by omega))
              refine grows_value _ hW (?_ : _ = _) rfl
              clear hd
              go_simp
            refine each_cons ?_ ?_
            · intro a W hW hd
              have h77 : a.tmps[77]?.getD undef = .int .u8 (f 3) := slot_eq (hd 77 (by decide))
              refine grows_value _ hW (?_ : _ = _) rfl
              clear hd
              go_simp
            refine each_cons ?_ ?_
            · intro a W hW hd
              have h74 : a.tmps[74]?.getD undef = .int .u32 (f 1 % 16 * 65536 + f 2 * 256) := slot_eq (hd 74 (by decide))
              have h78 : a.tmps[78]?.getD undef = .int .u32 (f 3) := slot_eq (hd 78 (by decide))
              refine grows_value _ hW (?_ : _ = _) rfl
              clear hd
              go_simp
            refine each_cons ?_ ?_
            · intro a W hW hd
              have h0 : a.tmps[0]?.getD undef = .slice (some ⟨b, off, none⟩) n c := slot_eq (hd 0 (by decide))
              exact grows_value _ hW (by simp [execOp, Act.eval, h0]) rfl
            refine each_cons ?_ ?_
            · intro a W hW hd
              have h80 : a.tmps[80]?.getD undef = .slice (some ⟨b, off, none⟩) n c := slot_eq (hd 80 (by decide))
              refine grows_value _ hW (?_ : _ = _) rfl
              clear hd
              go_simp
            refine each_cons ?_ ?_
            · intro a W hW hd
              have h81 : a.tmps[81]?.getD undef = .pointer (some ⟨b, off + 6, none⟩) := slot_eq (hd 81 (by decide))
              have hx := (hW.cell (p := ⟨b, off + 6, none⟩) hb5).trans (HX5.out 6 (by omega))
              refine grows_value _ hW (?_ : _ = _) rfl
              clear hd
              go_simp
            refine each_cons ?_ ?_
            · intro a W hW hd
              have h7 : a.tmps[7]?.getD undef = .int .u8 p := slot_eq (hd 7 (by decide))
              exact grows_value _ hW (by simp [execOp, Act.eval, h7]) rfl
            refine each_cons ?_ ?_
            · intro a W hW hd
              have h0 : a.tmps[0]?.getD undef = .slice (some ⟨b, off, none⟩) n c := slot_eq (hd 0 (by decide))
              exact grows_value _ hW (by simp [execOp, Act.eval, h0]) rfl
            refine each_cons ?_ ?_
            · intro a W hW hd
              have h84 : a.tmps[84]?.getD undef = .slice (some ⟨b, off, none⟩) n c := slot_eq (hd 84 (by decide))
              refine grows_value _ hW (?_ : _ = _) rfl
              clear hd
              go_simp
            refine each_cons ?_ ?_
            · intro a W hW hd
              have h85 : a.tmps[85]?.getD undef = .pointer (some ⟨b, off + 7, none⟩) := slot_eq (hd 85 (by decide))
              have hx := (hW.cell (p := ⟨b, off + 7, none⟩) hb5).trans (HX5.out 7 (by omega))
              refine grows_value _ hW (?_ : _ = _) rfl
              clear hd
              go_simp
            refine each_cons ?_ ?_
            · intro a W hW hd
              have h0 : a.tmps[0]?.getD undef = .slice (some ⟨b, off, none⟩) n c := slot_eq (hd 0 (by decide))
              exact grows_value _ hW (by simp [execOp, Act.eval, h0]) rfl
            refine each_cons ?_ ?_
            · intro a W hW hd
              have h87 : a.tmps[87]?.getD undef = .slice (some ⟨b, off, none⟩) n c := slot_eq (hd 87 (by decide))
              refine grows_value _ hW (?_ : _ = _) rfl
              clear hd
              go_simp
            refine each_cons ?_ ?_
            · intro a W hW hd
              have h88 : a.tmps[88]?.getD undef = .slice (some ⟨b, off + 8, none⟩) 16 (c - 8) := slot_eq (hd 88 (by decide))
              refine grows_value _ hW (?_ : _ = _) rfl
              clear hd
              go_simp
            refine each_cons ?_ ?_
            · intro a W hW hd
              have h89 : a.tmps[89]?.getD undef = .pointer (some ⟨b, off + 8, none⟩) := slot_eq (hd 89 (by decide))
              refine grows_value _ hW (?_ : _ = _) rfl
              clear hd
              simp only [execOp, Act.eval, Array.getD_eq_getD_getElem?, h89, Instr.loadAt, Instr.sureAddr, Sem.run_bind, Sem.run_pure, Result.andThen_ok, HL8.out W hW]
            refine each_cons ?_ ?_
            · intro a W hW hd
              have h0 : a.tmps[0]?.getD undef = .slice (some ⟨b, off, none⟩) n c := slot_eq (hd 0 (by decide))
              exact grows_value _ hW (by simp [execOp, Act.eval, h0]) rfl
            refine each_cons ?_ ?_
            · intro a W hW hd
              have h91 : a.tmps[91]?.getD undef = .slice (some ⟨b, off, none⟩) n c := slot_eq (hd 91 (by decide))
              refine grows_value _ hW (?_ : _ = _) rfl
              clear hd
              go_simp
            refine each_cons ?_ ?_
            · intro a W hW hd
              have h92 : a.tmps[92]?.getD undef = .slice (some ⟨b, off + 24, none⟩) 16 (c - 24) := slot_eq (hd 92 (by decide))
              refine grows_value _ hW (?_ : _ = _) rfl
              clear hd
              go_simp
            refine each_cons ?_ ?_
            · intro a W hW hd
              have h93 : a.tmps[93]?.getD undef = .pointer (some ⟨b, off + 24, none⟩) := slot_eq (hd 93 (by decide))
              refine grows_value _ hW (?_ : _ = _) rfl
              clear hd
              simp only [execOp, Act.eval, Array.getD_eq_getD_getElem?, h93, Instr.loadAt, Instr.sureAddr, Sem.run_bind, Sem.run_pure, Result.andThen_ok, HL24.out W hW]
            refine each_cons ?_ ?_
            · intro a W hW hd
              refine grows_new (.slice (some ⟨W.heap.size, 0, none⟩) 0 0) (w' := W.alloc (.cells #[] 5)) (?_ : _ = _) ⟨_, rfl, Own.fresh W _ _ rfl hW.size _ _⟩ (below_alloc _ _) (hW.alloc hW.size _)
              clear hd
              go_simp
            refine each_cons ?_ ?_
            · intro a W hW hd
              have h6 : a.tmps[6]?.getD undef = .slice D L (c - 40) := slot_eq (hd 6 (by decide))
              exact grows_value _ hW (by simp [execOp, Act.eval, h6]) rfl
            refine each_cons ?_ ?_
            · intro a W hW hd
              have h8 : a.tmps[8]?.getD undef = .int .i64 (m : Int) := slot_eq (hd 8 (by decide))
              exact grows_value _ hW (by simp [execOp, Act.eval, h8]) rfl
            refine each_cons ?_ ?_
            · intro a W hW hd
              have h96 : a.tmps[96]?.getD undef = .slice D L (c - 40) := slot_eq (hd 96 (by decide))
              have h97 : a.tmps[97]?.getD undef = .int .i64 (m : Int) := slot_eq (hd 97 (by decide))
              refine grows_value _ hW (?_ : _ = _) rfl
              clear hd
              go_simp
            refine each_cons ?_ ?_
            · intro a W hW hd
              have h98 : a.tmps[98]?.getD undef = .slice DM m (c - 40) := slot_eq (hd 98 (by decide))
              obtain ⟨z, h95, ho⟩ := hd 95 (by decide)
              have h95' : a.tmps[95]?.getD undef = .slice (some ⟨z, 0, none⟩) 0 0 := slot_eq h95
              obtain ⟨A2, c2, w', hrun, hown, hb⟩ := run_append_fresh (P := Try.prog) w5.heap.size 26 26 5 i0 Try.underlying26 HI0.out HI1.out HI2.out HI3.out ⟨z, 0, none⟩ ho (c' := c - 40) (HDM.out W W.heap.size _ (HRD.out W W.heap.size f (.inr ⟨b, off, rfl, Nat.lt_of_lt_of_le hb5 hW.size, fun k hk => (hW.cell (p := ⟨b, off + k, none⟩) hb5).trans (HX5.out k hk)⟩))) (by omega) hW.size
              refine grows_new (.slice A2 m c2) (w' := w') ?_ ⟨A2, c2, rfl, hown⟩ hb (hW.trans (hb.mono hW.size))
              clear hd
              simp only [execOp, resolve, invoke, builtin, Sem.run_bind, Sem.run_pure, Result.andThen_ok, List.map_toArray, List.map_cons, List.map_nil, Act.eval, Array.getD_eq_getD_getElem?, h95', h98, hrun]
            refine each_cons ?_ ?_
            · intro a W hW hd
              have h62 : a.tmps[62]?.getD undef = .int .u8 CL := slot_eq (hd 62 (by decide))
              have h79 : a.tmps[79]?.getD undef = .int .u32 LB := slot_eq (hd 79 (by decide))
              have h82 : a.tmps[82]?.getD undef = .int .u8 (f 6) := slot_eq (hd 82 (by decide))
              have h83 : a.tmps[83]?.getD undef = .int .u8 p := slot_eq (hd 83 (by decide))
              have h86 : a.tmps[86]?.getD undef = .int .u8 (f 7) := slot_eq (hd 86 (by decide))
              have h90 : a.tmps[90]?.getD undef = .agg #[.int .u8 (sa 0), .int .u8 (sa 1), .int .u8 (sa 2), .int .u8 (sa 3), .int .u8 (sa 4), .int .u8 (sa 5), .int .u8 (sa 6), .int .u8 (sa 7), .int .u8 (sa 8), .int .u8 (sa 9), .int .u8 (sa 10), .int .u8 (sa 11), .int .u8 (sa 12), .int .u8 (sa 13), .int .u8 (sa 14), .int .u8 (sa 15)] := slot_eq (hd 90 (by decide))
              have h94 : a.tmps[94]?.getD undef = .agg #[.int .u8 (da 0), .int .u8 (da 1), .int .u8 (da 2), .int .u8 (da 3), .int .u8 (da 4), .int .u8 (da 5), .int .u8 (da 6), .int .u8 (da 7), .int .u8 (da 8), .int .u8 (da 9), .int .u8 (da 10), .int .u8 (da 11), .int .u8 (da 12), .int .u8 (da 13), .int .u8 (da 14), .int .u8 (da 15)] := slot_eq (hd 94 (by decide))
              obtain ⟨A2, c2, h99, ho⟩ := hd 99 (by decide)
              have h99' : a.tmps[99]?.getD undef = .slice A2 m c2 := slot_eq h99
              refine grows_value (.agg (ip6c CL LB (f 6) p (f 7) sa da (.slice A2 m c2))) hW (?_ : _ = _) ⟨A2, c2, rfl, ho⟩
              clear hd
              go_simp
              rfl
            refine each_cons ?_ ?_
            · intro a W hW hd
              refine grows_new (.pointer (some ⟨W.heap.size, 0, none⟩)) (w' := W.alloc (.cells ip6z 57)) (?_ : _ = _) ⟨_, rfl, heap_alloc_new W _, hW.size⟩ (below_alloc _ _) (hW.alloc hW.size _)
              clear hd
              go_simp
              rfl
            exact each_nil
          · refine behind_val rfl ?_
            refine behind_val rfl ?_
            refine behind_val rfl ?_
            refine behind_val rfl ?_
            refine behind_val rfl ?_
            refine behind_val rfl ?_
            refine behind_val rfl ?_
            refine behind_val rfl ?_
            refine behind_val rfl ?_
            refine behind_val rfl ?_
            refine behind_val rfl ?_
            refine behind_val rfl ?_
            refine behind_val rfl ?_
            refine behind_val rfl ?_
            refine behind_val rfl ?_
            refine behind_val rfl ?_
            refine behind_val rfl ?_
            refine behind_val rfl ?_
            refine behind_val rfl ?_
            refine behind_val rfl ?_
            refine behind_val rfl ?_
            refine behind_val rfl ?_
            refine behind_val rfl ?_
            refine behind_val rfl ?_
            refine behind_val rfl ?_
            refine behind_val rfl ?_
            refine behind_val rfl ?_
            refine behind_val rfl ?_
            refine behind_val rfl ?_
            refine behind_val rfl ?_
            refine behind_val rfl ?_
            refine behind_val rfl ?_
            refine behind_val rfl ?_
            refine behind_val rfl ?_
            refine behind_val rfl ?_
            refine behind_val rfl ?_
            refine behind_val rfl ?_
            refine behind_val rfl ?_
            refine behind_val rfl ?_
            refine behind_val rfl ?_
            refine behind_val rfl ?_
            refine behind_cons fun v95 => ?_
            refine behind_val rfl ?_
            refine behind_val rfl ?_
            refine behind_val rfl ?_
            refine behind_cons fun v99 => ?_
            refine behind_cons fun v100 => ?_
            refine behind_cons fun v10 => ?_
            refine behind_nil fun w8 hCw8 hFw8 => ?_
            obtain ⟨⟨⟨⟨_, _⟩, _⟩, ⟨O, co, rfl, hO⟩⟩, ⟨q, rfl, hq, hlq⟩⟩ := hFw8
            simp only [Act.put, List.setIfInBounds_toArray, List.set_cons_succ, List.set_cons_zero, List.drop_succ_cons, List.drop_zero]
            have HQ := Lib.hid hq
            have HO := Lib.hid hO
            refine wpList_store_row rfl 57 (.tmp 10) (.tmp 100) rfl q (ip6c CL LB (f 6) p (f 7) sa da (.slice O m co)) rfl rfl 57 ip6z HQ.out (by kernel_rfl) rfl (ip6_one ..) ?_
            refine wpList_nil ?_
            simp only [Act.put]
            have hNq : w.heap.size < q := by have := lt_heap HZ5.out; omega
            have HS12 : Hid (RdS w (w8.setRow q (ip6c CL LB (f 6) p (f 7) sa da (.slice O m co))) q (ip6c CL LB (f 6) p (f 7) sa da (.slice O m co)) O m co (fun k => f (40 + k))) :=
              ⟨(setRow_other _ q w.heap.size _ (by omega)).trans ((hCw8.block _ (lt_heap HZ5.out)).trans HZ5.out), setRow_heap _ q _ _ _ _ HQ.out, (HO.out.le HB5.out.size).other HQ.out (by decide) (fun k hk => setRow_other _ q k _ hk), below_setRow (HB5.out.trans (hCw8.mono HB5.out.size)) (Nat.le_of_lt hNq) _, hNq⟩
            clear HQ HO hq hO hCw8 hlq HZ5 HB5 HX5 HL8 HL24
            generalize w8.setRow q (ip6c CL LB (f 6) p (f 7) sa da (.slice O m co)) = w12 at *
            obtain ⟨D2, hsD2, hrD2⟩ := slice_any D L (c - 40) m hmL (by omega) (by omega)
            have HD2 := Lib.hid hrD2
            clear hrD2
            have hb12 : b < w12.heap.size := Nat.lt_of_lt_of_le hbb HS12.out.below.size
            have HX12 : Hid (∀ k, k < n → w12.cell? ⟨b, off + k, none⟩ = some (.int .u8 (f k))) := fun k hk => (HS12.out.below.cell (p := ⟨b, off + k, none⟩) hbb).trans (HC.out k hk)
            go_upto_region 13 with fail
            refine wp_region_grow (C := fun W => Below w12.heap.size w12 W) 6 107 [val (.agg (ip6c CL LB (f 6) p (f 7) sa da (.slice O m co))), mkF w12, val (.slice D L (c - 40)), val (.int .i64 (m : Int)), val (.slice D2 (L - m) (c - 40 - m)), ownF w12 (L - m) (fun k => f (40 + (m + k)))] (by kernel_rfl) rfl (by kernel_rfl) rfl ⟨stb_val _, stb_mk _, stb_val _, stb_val _, stb_val _, stb_own _ _ _, trivial⟩ (Below.refl _ _).drew ?_ ?_
            · refine each_cons ?_ ?_
              · intro a W hW hd
                have h10 : a.tmps[10]?.getD undef = .pointer (some ⟨q, 0, none⟩) := slot_eq (hd 10 (by decide))
                refine grows_value (.agg (ip6c CL LB (f 6) p (f 7) sa da (.slice O m co))) hW (?_ : _ = _) rfl
                clear hd
                simp only [execOp, Act.eval, Array.getD_eq_getD_getElem?, h10, Instr.loadAt, Instr.sureAddr, Sem.run_bind, Sem.run_pure, Result.andThen_ok, run_loadVar_row W q 57 57 (ip6c CL LB (f 6) p (f 7) sa da (.slice O m co)) (0, 0) _ ((hW.block _ (lt_heap HS12.out.hd)).trans HS12.out.hd) Try.underlying57 rfl (by kernel_rfl)]
              refine each_cons ?_ ?_
              · intro a W hW hd
                refine grows_new (.slice (some ⟨W.heap.size, 0, none⟩) 0 0) (w' := W.alloc (.cells #[] 5)) (?_ : _ = _) ⟨_, rfl, Own.fresh W _ _ rfl hW.size _ _⟩ (below_alloc _ _) (hW.alloc hW.size _)
                clear hd
                go_simp
              refine each_cons ?_ ?_
              · intro a W hW hd
                have h6 : a.tmps[6]?.getD undef = .slice D L (c - 40) := slot_eq (hd 6 (by decide))
                exact grows_value _ hW (by simp [execOp, Act.eval, h6]) rfl
              refine each_cons ?_ ?_
              · intro a W hW hd
                have h8 : a.tmps[8]?.getD undef = .int .i64 (m : Int) := slot_eq (hd 8 (by decide))
                exact grows_value _ hW (by simp [execOp, Act.eval, h8]) rfl
              refine each_cons ?_ ?_
              · intro a W hW hd
                have h103 : a.tmps[103]?.getD undef = .slice D L (c - 40) := slot_eq (hd 103 (by decide))
                have h104 : a.tmps[104]?.getD undef = .int .i64 (m : Int) := slot_eq (hd 104 (by decide))
                refine grows_value _ hW (?_ : _ = _) rfl
                clear hd
                go_simp
              refine each_cons ?_ ?_
              · intro a W hW hd
                have h105 : a.tmps[105]?.getD undef = .slice D2 (L - m) (c - 40 - m) := slot_eq (hd 105 (by decide))
                obtain ⟨z, h102, ho⟩ := hd 102 (by decide)
                have h102' : a.tmps[102]?.getD undef = .slice (some ⟨z, 0, none⟩) 0 0 := slot_eq h102
                obtain ⟨A2, c2, w', hrun, hown, hb⟩ := run_append_fresh (P := Try.prog) w12.heap.size 26 26 5 i0 Try.underlying26 HI0.out HI1.out HI2.out HI3.out ⟨z, 0, none⟩ ho (c' := c - 40 - m) (HD2.out W W.heap.size _ (HRD.out W W.heap.size f (.inr ⟨b, off, rfl, Nat.lt_of_lt_of_le hb12 hW.size, fun k hk => (hW.cell (p := ⟨b, off + k, none⟩) hb12).trans (HX12.out k hk)⟩))) (by omega) hW.size
                refine grows_new (.slice A2 (L - m) c2) (w' := w') ?_ ⟨A2, c2, rfl, hown⟩ hb (hW.trans (hb.mono hW.size))
                clear hd
                simp only [execOp, resolve, invoke, builtin, Sem.run_bind, Sem.run_pure, Result.andThen_ok, List.map_toArray, List.map_cons, List.map_nil, Act.eval, Array.getD_eq_getD_getElem?, h102', h105, hrun]
              exact each_nil
            · refine behind_val rfl ?_
              refine behind_cons fun v102 => ?_
              refine behind_val rfl ?_
              refine behind_val rfl ?_
              refine behind_val rfl ?_
              refine behind_cons fun v106 => ?_
              refine behind_nil fun w13 hCw13 hFw13 => ?_
              obtain ⟨⟨_, _⟩, ⟨P, cp, rfl, hP⟩⟩ := hFw13
              have HP := Lib.hid hP
              have HS13 := Lib.hid (HS12.out.step hCw13)
              have HAP := Lib.hid (HS12.out.own.apart hP)
              clear hP hCw13
              simp only [Act.put, List.setIfInBounds_toArray, List.set_cons_succ, List.set_cons_zero, List.drop_succ_cons, List.drop_zero]
              refine wpList_store_row rfl 57 (.tmp 2) (.tmp 101) rfl w.heap.size (ip6c CL LB (f 6) p (f 7) sa da (.slice O m co)) rfl rfl 57 ip6z HS13.out.res (by kernel_rfl) rfl (ip6_one ..) ?_
              simp only [Act.put]
              go_wp2_with fail
              refine bodyPost_ret (v := .tuple #[.agg (ip6c CL LB (f 6) p (f 7) sa da (.slice O m co)), .slice P (L - m) cp, .int .i64 0]) (results_row2 Try.results16 _ _ w.heap.size 57 (ip6c CL LB (f 6) p (f 7) sa da (.slice O m co)) (0, 0) _ rfl (setRow_heap _ w.heap.size _ (ip6c CL LB (f 6) p (f 7) sa da (.slice O m co)) _ _ HS13.out.res) Try.underlying57 rfl (by kernel_rfl)) rfl ?_
              refine .inr ⟨by first | rfl | exact hRe, ?_⟩
              unfold Read6
              rw [← HLL.out, ← HCL.out, ← HLB.out, ← HSA.out, ← HDA.out]
              exact ⟨p, m, O, co, P, cp, HXX.out.symm, rfl, HS13.out.own.other HS13.out.res (by decide) (fun k hk => setRow_other _ w.heap.size k _ hk), (HP.out.le HS12.out.below.size).other HS13.out.res (by decide) (fun k hk => setRow_other _ w.heap.size k _ hk), HAP.out, below_setRow HS13.out.below (Nat.le_refl _) _⟩
        · have c3' : (E != 0) = true := by simpa using c3
          have hRe : R = E := HRE.out.trans ((rd6_3 N0.out N1.out N2.out).trans (by rw [← HXX.out]))
          go_wp2_with (first
            | (refine wpList_store_row rfl 57 (.tmp 2) (.tmp 52) rfl w.heap.size ip6z rfl rfl 57 ip6z HZ5.out (by kernel_rfl) rfl ip6z_one ?_))
          refine bodyPost_ret (v := .tuple #[.agg ip6z, .slice none 0 0, .int .i64 E]) (results_row2 Try.results16 _ _ w.heap.size 57 ip6z (0, 0) _ rfl (setRow_heap _ w.heap.size _ ip6z _ _ HZ5.out) Try.underlying57 rfl (by kernel_rfl)) rfl ?_
          have hRne : ¬ R = 0 := by omega
          exact .inl ⟨hRne, by first | rfl | (rw [hRe] <;> rfl), below_setRow HB5.out (Nat.le_refl _) _⟩
    · have hv' : (f 0 / 16 != 6) = true := by simpa using hv
      have hRe : R = 5 := HRE.out.trans (rd6_1 N0.out hv)
      go_wp2_with (first
        | (refine wpList_store_row rfl 57 (.tmp 2) (.tmp 20) rfl w.heap.size ip6z rfl rfl 57 ip6z HZ1.out (by kernel_rfl) rfl ip6z_one ?_))
      refine bodyPost_ret (v := .tuple #[.agg ip6z, .slice none 0 0, .int .i64 5]) (results_row2 Try.results16 _ _ w.heap.size 57 ip6z (0, 0) _ rfl (setRow_heap _ w.heap.size _ ip6z _ _ HZ1.out) Try.underlying57 rfl (by kernel_rfl)) rfl ?_
      have hRne : ¬ R = 0 := by omega
      exact .inl ⟨hRne, by first | rfl | (rw [hRe] <;> rfl), below_setRow HB1.out (Nat.le_refl _) _⟩
end Go.Proofs.Ythjgecdnlpdcdaa
