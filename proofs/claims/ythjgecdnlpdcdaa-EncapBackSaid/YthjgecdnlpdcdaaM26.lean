import Derived.Test.YthjgecdnlpdcdaaM25
/- The program's seg.WriteUDP. -/
namespace Go.Proofs.Ythjgecdnlpdcdaa
set_option maxRecDepth 100000
open Go.RowKit
set_option maxRecDepth 100000 in
set_option maxHeartbeats 4000000 in
theorem writeU_any (v6 : Bool) (s d : Nat → Int) (hs : Byt s) (hd : Byt d) (sp dp : Int) (ns : Bool) (A : Option Addr) (n c : Nat) (f : Nat → Int)
    (h1 : 0 ≤ sp ∧ sp ≤ 65535) (h2 : 0 ≤ dp ∧ dp ≤ 65535) (hf : Byt f) (hn : n ≤ 4000) (w : World) (hr : Rd w w.heap.size A n f) :
    Calls Try.prog 15 #[.bool v6, .agg (arr16 s), .agg (arr16 d), .agg (udpc sp dp ns), .slice A n c] w
      (WrR w.heap.size 5 (udpX v6 ns n) (8 + n) (udpB sp dp (8 + (n : Int)) (udpS ns (psq v6 s d 17 (8 + n)) (udpB sp dp (8 + (n : Int)) 0 f) (8 + n)) f) w) := by
  obtain ⟨i0, hi0, hz0, hz1, hz2⟩ := info_parts Try.info5
  have HI0 := Lib.hid hi0
  have HZ0 := Lib.hid hz0
  have HZ1 := Lib.hid hz1
  have HZ2 := Lib.hid hz2
  have HR := Lib.hid hr
  have HF := Lib.hid hf
  have HS := Lib.hid hs
  have HD := Lib.hid hd
  clear hi0 hz0 hz1 hz2 hr hf hs hd
  obtain ⟨R, hR⟩ : ∃ R, R = udpX v6 ns n := ⟨_, rfl⟩
  rw [← hR]
  have HRE := Lib.hid hR
  clear hR
  have HX1 := Lib.hid (Box3.start w s d (udpc sp dp ns) 53)
  go_enter Try.func15, Try.ntmps15
  go_upto_region 1 with fail
  change Code.wp _ _ _ _ (((w.alloc (.cells (arr16 s) 22)).alloc (.cells (arr16 d) 22)).alloc (.cells (udpc sp dp ns) 53))
  generalize ((w.alloc (.cells (arr16 s) 22)).alloc (.cells (arr16 d) 22)).alloc (.cells (udpc sp dp ns) 53) = u1 at *
  have a2 : u1.cell? ⟨w.heap.size + 1 + 1, 2, none⟩ = some (.bool ns) := blk_cell HX1.out.b2 2
  cases ns
  · have HOK : Hid (¬ (v6 && false) = true) := Lib.hid (by simp)
    go_upto_if 19 with fail
    by_cases cL : 1660 < (8 + n)
    · have cL' : (n : Int) > 1652 := by omega
      have hRe : R = 3 := HRE.out.trans (by unfold udpX; rw [if_neg HOK.out, if_pos (by omega)])
      go_wp2_with fail
      go_ret2
      refine .inl ⟨by first | (rw [hRe]; decide) | decide, none, 0, by first | rfl | (rw [hRe] <;> rfl), Own.nil_ _ _ _ _, HX1.out.below⟩
    · have hm : (8 + n) ≤ 1660 := by omega
      have hRe : R = 0 := HRE.out.trans (by unfold udpX; rw [if_neg HOK.out, if_neg (by omega)])
      have cL' : (n : Int) ≤ 1652 := by omega
      have hmk : ∀ W : World, (Instr.makeSlice 26 (.int .i64 (8 + (n : Int))) (.int .i64 (8 + (n : Int)))).run Try.prog W = .ok (.slice (some ⟨W.heap.size, 0, none⟩) (8 + n) (8 + n)) (W.alloc (.cells (madeCells (Value.int .u8 0).cells (8 + n)) 5)) := fun W => by
        have h := run_make_bytes (P := Try.prog) W 26 5 i0 Try.underlying26 HI0.out HZ0.out HZ1.out HZ2.out (8 + n) (by omega)
        have e2 : (((8 + n) : Nat) : Int) = 8 + (n : Int) := by omega
        rw [e2] at h
        exact h
      have HMK := Lib.hid fun W => mklayer_any (.slice (some ⟨u1.heap.size, 0, none⟩) (8 + n) (8 + n)) _ (8 + n) (8 + n) rfl W
      unfold lyV at HMK
      have HS2 : Hid (WrT w ((u1.alloc (.cells (madeCells (Value.int .u8 0).cells (8 + n)) 5)).alloc (.cells #[.slice (some ⟨u1.heap.size, 0, none⟩) (8 + n) (8 + n)] 26)) s d (udpc sp dp false) 53 u1.heap.size (u1.heap.size + 1) (8 + n) (fun _ => 0)) := Lib.hid (WrT.start HX1.out (8 + n) (by omega) 26)
      go_upto_region 7 with (first
        | (go_at_call 21; refine (HMK.out _).mono ?_; rintro e u2 ⟨rfl, hw2⟩; have HW2 := Lib.hid hw2; clear hw2))
      have hp1 : (u1.alloc (.cells (madeCells (Value.int .u8 0).cells (8 + n)) 5)).heap.size = u1.heap.size + 1 := by simp
      have HW2' : Hid (u2 = (u1.alloc (.cells (madeCells (Value.int .u8 0).cells (8 + n)) 5)).alloc (.cells #[.slice (some ⟨u1.heap.size, 0, none⟩) (8 + n) (8 + n)] 26)) := HW2.out
      rw [← HW2'.out] at HS2
      clear HW2 HW2' hmk HMK a2
      try rw [hp1]
      clear hp1
      obtain ⟨g, hg⟩ : ∃ g, g = u1.heap.size := ⟨_, rfl⟩
      obtain ⟨p, hp⟩ : ∃ p, p = u1.heap.size + 1 := ⟨_, rfl⟩
      rw [← hp] at HS2 ⊢
      rw [← hg] at HS2 ⊢
      clear hg hp HX1
      have a0 : u2.cell? ⟨w.heap.size + 1 + 1, 0, none⟩ = some (.int .u16 sp) := blk_cell HS2.out.box.b2 0
      have a1 : u2.cell? ⟨w.heap.size + 1 + 1, 1, none⟩ = some (.int .u16 dp) := blk_cell HS2.out.box.b2 1
      have g1 : IntKind.u16.wrap (8 + (n : Int)) = 8 + (n : Int) := by rw [IntKind.wrap_u16]; omega
      go_wp2_with fail
      have HL3 : Hid (Calls Try.prog 32 #[.int .i64 0, .slice (some ⟨u2.heap.size, 0, none⟩) 4 4, .pointer (some ⟨p, 0, none⟩)] (u2.alloc (.cells #[.int .u16 sp, .int .u16 dp, .int .u16 (8 + (n : Int)), .int .u16 0] 23)) fun e w' => e = .returned (.tuple #[]) ∧ Own w' (w.heap.size + 1 + 1 + 1) 5 (some ⟨g, 0, none⟩) (8 + n) (8 + n) (layw (fun _ => 0) 0 (four sp dp (8 + (n : Int)) 0) 4) ∧ (u2.alloc (.cells #[.int .u16 sp, .int .u16 dp, .int .u16 (8 + (n : Int)), .int .u16 0] 23)).grownBy w' (some g)) :=
        layer_any (w.heap.size + 1 + 1 + 1) p g (8 + n) (8 + n) 0 u2.heap.size 4 4 (four sp dp (8 + (n : Int)) 0) (fun _ => 0) (fun k _ => four_bd (by first | assumption | omega) (by first | assumption | omega) (by first | assumption | omega) (by first | assumption | omega) k) (u2.alloc (.cells #[.int .u16 sp, .int .u16 dp, .int .u16 (8 + (n : Int)), .int .u16 0] 23)) (HS2.out.alloc _).ptr
          (fun k hk => by
            rw [blk_cell (heap_alloc_new u2 _) k]
            match k, hk with
            | 0, _ => rfl
            | 1, _ => rfl
            | 2, _ => rfl
            | 3, _ => rfl
      )
          (HS2.out.alloc _).own (by omega) (by omega) (Nat.ne_of_gt HS2.out.lt) (fun e => absurd (lt_own HS2.out.own (by omega)) (by omega))
      go_at_call 32
      refine HL3.out.mono ?_
      rintro e u3 ⟨rfl, ho3, hg3⟩
      have HS3 : Hid (WrT w u3 s d (udpc sp dp false) 53 g p (8 + n) (layw (fun _ => 0) 0 (four sp dp (8 + (n : Int)) 0) 4)) := (HS2.out.alloc _).laid ho3 hg3
      clear ho3 hg3 HL3 HS2 a0 a1 g1
      obtain ⟨D8, hD8, hD8'⟩ := slice_from g 0 (8 + n) (8 + n) 8 (by omega) (by omega) (by omega)
      have hD8r : ∀ W, (Instr.sliceAt 26 (.slice (some ⟨g, 0, none⟩) (8 + n) (8 + n)) (some (.int .i64 8)) none none).run Try.prog W = .ok (.slice D8 ((8 + n) - 8) ((8 + n) - 8)) W := hD8
      have HD8 := Lib.hid hD8'
      clear hD8 hD8'
      go_upto_region 9 with (first
        | (refine wpList_copy_rd rfl (.tmp 40) (.tmp 41) _ rfl (w.heap.size + 1 + 1 + 1) 5 Try.underlying26 (by kernel_rfl) HS3.out.own rfl 8 (fun h => (HD8.out (by omega)).trans (by rw [Nat.zero_add])) (by omega) rfl (HR.out.keep HS3.out.box.below) n (by omega) ?_; intro hoc; have HO4 := Lib.hid hoc; clear hoc))
      have HS4 : Hid (WrT w (u3.setCells g 8 ((nums n f).map (Value.int .u8))) s d (udpc sp dp false) 53 g p (8 + n) (over 8 n f (layw (fun _ => 0) 0 (four sp dp (8 + (n : Int)) 0) 4))) := HS3.out.cells 8 _ HO4.out
      clear HS3 HO4 HD8 hD8r
      generalize u3.setCells g 8 ((nums n f).map (Value.int .u8)) = u4 at *
      have HTB : Hid (Byt (udpB sp dp (8 + (n : Int)) 0 f)) := cat_byt 8 (udpH_byt h1 h2 (by omega) ⟨by omega, by omega⟩) HF.out
      have HS5 : Hid (WrT w u4 s d (udpc sp dp false) 53 g p (8 + n) (udpB sp dp (8 + (n : Int)) 0 f)) := ⟨HS4.out.box, HS4.out.own.same fun k hk => udp_laid f k hk, HS4.out.ptr, HS4.out.lo, HS4.out.lt⟩
      clear HS4
      have a2 : u4.cell? ⟨w.heap.size + 1 + 1, 2, none⟩ = some (.bool false) := blk_cell HS5.out.box.b2 2
      have HSO := Lib.hid fun W hr => sumOf_any v6 s d HS.out HD.out 17 (by omega) (by omega) (some ⟨g, 0, none⟩) (8 + n) (8 + n) _ HTB.out (by omega) (Nat.le_refl _) W hr
      have hcb := rgt_bd HTB.out (psq_bd v6 HS.out HD.out (pr := 17) (by omega) (by omega) (8 + n)) (8 + n)
      obtain ⟨TB, hTB⟩ : ∃ TB, TB = (udpB sp dp (8 + (n : Int)) 0 f) := ⟨_, rfl⟩
      obtain ⟨SQ, hSQ⟩ : ∃ SQ, SQ = psq v6 s d 17 (8 + n) := ⟨_, rfl⟩
      rw [← hTB, ← hSQ] at hcb HSO
      rw [← hTB] at HS5
      have HTE := Lib.hid hTB.symm
      have HSQ := Lib.hid hSQ.symm
      clear hTB hSQ HTB
      obtain ⟨C, hC⟩ : ∃ C, C = rgt SQ TB (8 + n) := ⟨_, rfl⟩
      rw [← hC] at hcb HSO
      have HCC := Lib.hid hC
      clear hC
      go_upto_if 52 with (first
        | (refine wpList_load_roww rfl 22 (.tmp 6) rfl w.heap.size rfl 22 (arr16 s) (0, 0) _ HS5.out.box.b0 Try.underlying22 rfl (by kernel_rfl) ?_)
        | (refine wpList_load_roww rfl 22 (.tmp 7) rfl (w.heap.size + 1) rfl 22 (arr16 d) (0, 0) _ HS5.out.box.b1 Try.underlying22 rfl (by kernel_rfl) ?_)
        | (go_at_call 22; refine (HSO.out _ HS5.out.own.rd).mono ?_; rintro e u6 ⟨rfl, hb6⟩; have HS6 := Lib.hid (HS5.out.step hb6); clear hb6))
      clear HSO HS5 a2
      by_cases c0 : C = 0
      · have c0' : (C == 0) = true := by simpa using c0
        have HC0 := Lib.hid c0
        clear c0
        go_wp2_with fail
        have HL7 : Hid (Calls Try.prog 32 #[.int .i64 6, .slice (some ⟨u6.heap.size, 0, none⟩) 1 1, .pointer (some ⟨p, 0, none⟩)] (u6.alloc (.cells #[.int .u16 65535] 23)) fun e w' => e = .returned (.tuple #[]) ∧ Own w' (w.heap.size + 1 + 1 + 1) 5 (some ⟨g, 0, none⟩) (8 + n) (8 + n) (layw TB 6 (four 65535 0 0 0) 1) ∧ (u6.alloc (.cells #[.int .u16 65535] 23)).grownBy w' (some g)) :=
          layer_any (w.heap.size + 1 + 1 + 1) p g (8 + n) (8 + n) 6 u6.heap.size 1 1 (four 65535 0 0 0) TB (fun k _ => four_bd (by first | assumption | omega) (by first | assumption | omega) (by first | assumption | omega) (by first | assumption | omega) k) (u6.alloc (.cells #[.int .u16 65535] 23)) (HS6.out.alloc _).ptr
            (fun k hk => by
              rw [blk_cell (heap_alloc_new u6 _) k]
              match k, hk with
              | 0, _ => rfl
        )
            (HS6.out.alloc _).own (by omega) (by omega) (Nat.ne_of_gt HS6.out.lt) (fun e => absurd (lt_own HS6.out.own (by omega)) (by omega))
        go_at_call 32
        refine HL7.out.mono ?_
        rintro e u7 ⟨rfl, ho7, hg7⟩
        have HS7 : Hid (WrT w u7 s d (udpc sp dp false) 53 g p (8 + n) (lay2 TB 6 65535)) := (HS6.out.alloc _).laid ho7 hg7
        clear ho7 hg7 HL7 HS6
        go_wp2_with fail
        go_ret2
        exact .inr ⟨by first | rfl | exact hRe, some ⟨g, 0, none⟩, (8 + n), rfl, (by rw [HSQ.out, HTE.out, show udpS false SQ TB (8 + n) = 65535 from by unfold udpS; rw [if_neg (by decide), if_pos (HCC.out.symm.trans HC0.out)], udpB_sum, HTE.out]; exact HS7.out.own.le (by omega)), HS7.out.box.below⟩
      · have c0' : (C == 0) = false := by simpa using c0
        have HC0 : Hid (rgt SQ TB (8 + n) ≠ 0) := Lib.hid (by rw [← HCC.out]; exact c0)
        clear c0
        go_wp2_with fail
        have HL7 : Hid (Calls Try.prog 32 #[.int .i64 6, .slice (some ⟨u6.heap.size, 0, none⟩) 1 1, .pointer (some ⟨p, 0, none⟩)] (u6.alloc (.cells #[.int .u16 C] 23)) fun e w' => e = .returned (.tuple #[]) ∧ Own w' (w.heap.size + 1 + 1 + 1) 5 (some ⟨g, 0, none⟩) (8 + n) (8 + n) (layw TB 6 (four C 0 0 0) 1) ∧ (u6.alloc (.cells #[.int .u16 C] 23)).grownBy w' (some g)) :=
          layer_any (w.heap.size + 1 + 1 + 1) p g (8 + n) (8 + n) 6 u6.heap.size 1 1 (four C 0 0 0) TB (fun k _ => four_bd (by first | assumption | omega) (by first | assumption | omega) (by first | assumption | omega) (by first | assumption | omega) k) (u6.alloc (.cells #[.int .u16 C] 23)) (HS6.out.alloc _).ptr
            (fun k hk => by
              rw [blk_cell (heap_alloc_new u6 _) k]
              match k, hk with
              | 0, _ => rfl
        )
            (HS6.out.alloc _).own (by omega) (by omega) (Nat.ne_of_gt HS6.out.lt) (fun e => absurd (lt_own HS6.out.own (by omega)) (by omega))
        go_at_call 32
        refine HL7.out.mono ?_
        rintro e u7 ⟨rfl, ho7, hg7⟩
        have HS7 : Hid (WrT w u7 s d (udpc sp dp false) 53 g p (8 + n) (lay2 TB 6 C)) := (HS6.out.alloc _).laid ho7 hg7
        clear ho7 hg7 HL7 HS6
        go_wp2_with fail
        go_ret2
        exact .inr ⟨by first | rfl | exact hRe, some ⟨g, 0, none⟩, (8 + n), rfl, (by rw [HSQ.out, HTE.out, show udpS false SQ TB (8 + n) = C from by unfold udpS; rw [if_neg (by decide), if_neg HC0.out]; exact HCC.out.symm, udpB_sum, HTE.out]; exact HS7.out.own.le (by omega)), HS7.out.box.below⟩
  · cases v6
    · have HOK : Hid (¬ (false && true) = true) := Lib.hid (by simp)
      go_upto_if 19 with fail
      by_cases cL : 1660 < (8 + n)
      · have cL' : (n : Int) > 1652 := by omega
        have hRe : R = 3 := HRE.out.trans (by unfold udpX; rw [if_neg HOK.out, if_pos (by omega)])
        go_wp2_with fail
        go_ret2
        refine .inl ⟨by first | (rw [hRe]; decide) | decide, none, 0, by first | rfl | (rw [hRe] <;> rfl), Own.nil_ _ _ _ _, HX1.out.below⟩
      · have hm : (8 + n) ≤ 1660 := by omega
        have hRe : R = 0 := HRE.out.trans (by unfold udpX; rw [if_neg HOK.out, if_neg (by omega)])
        have cL' : (n : Int) ≤ 1652 := by omega
        have hmk : ∀ W : World, (Instr.makeSlice 26 (.int .i64 (8 + (n : Int))) (.int .i64 (8 + (n : Int)))).run Try.prog W = .ok (.slice (some ⟨W.heap.size, 0, none⟩) (8 + n) (8 + n)) (W.alloc (.cells (madeCells (Value.int .u8 0).cells (8 + n)) 5)) := fun W => by
          have h := run_make_bytes (P := Try.prog) W 26 5 i0 Try.underlying26 HI0.out HZ0.out HZ1.out HZ2.out (8 + n) (by omega)
          have e2 : (((8 + n) : Nat) : Int) = 8 + (n : Int) := by omega
          rw [e2] at h
          exact h
        have HMK := Lib.hid fun W => mklayer_any (.slice (some ⟨u1.heap.size, 0, none⟩) (8 + n) (8 + n)) _ (8 + n) (8 + n) rfl W
        unfold lyV at HMK
        have HS2 : Hid (WrT w ((u1.alloc (.cells (madeCells (Value.int .u8 0).cells (8 + n)) 5)).alloc (.cells #[.slice (some ⟨u1.heap.size, 0, none⟩) (8 + n) (8 + n)] 26)) s d (udpc sp dp true) 53 u1.heap.size (u1.heap.size + 1) (8 + n) (fun _ => 0)) := Lib.hid (WrT.start HX1.out (8 + n) (by omega) 26)
        go_upto_region 7 with (first
          | (go_at_call 21; refine (HMK.out _).mono ?_; rintro e u2 ⟨rfl, hw2⟩; have HW2 := Lib.hid hw2; clear hw2))
        have hp1 : (u1.alloc (.cells (madeCells (Value.int .u8 0).cells (8 + n)) 5)).heap.size = u1.heap.size + 1 := by simp
        have HW2' : Hid (u2 = (u1.alloc (.cells (madeCells (Value.int .u8 0).cells (8 + n)) 5)).alloc (.cells #[.slice (some ⟨u1.heap.size, 0, none⟩) (8 + n) (8 + n)] 26)) := HW2.out
        rw [← HW2'.out] at HS2
        clear HW2 HW2' hmk HMK a2
        try rw [hp1]
        clear hp1
        obtain ⟨g, hg⟩ : ∃ g, g = u1.heap.size := ⟨_, rfl⟩
        obtain ⟨p, hp⟩ : ∃ p, p = u1.heap.size + 1 := ⟨_, rfl⟩
        rw [← hp] at HS2 ⊢
        rw [← hg] at HS2 ⊢
        clear hg hp HX1
        have a0 : u2.cell? ⟨w.heap.size + 1 + 1, 0, none⟩ = some (.int .u16 sp) := blk_cell HS2.out.box.b2 0
        have a1 : u2.cell? ⟨w.heap.size + 1 + 1, 1, none⟩ = some (.int .u16 dp) := blk_cell HS2.out.box.b2 1
        have g1 : IntKind.u16.wrap (8 + (n : Int)) = 8 + (n : Int) := by rw [IntKind.wrap_u16]; omega
        go_wp2_with fail
        have HL3 : Hid (Calls Try.prog 32 #[.int .i64 0, .slice (some ⟨u2.heap.size, 0, none⟩) 4 4, .pointer (some ⟨p, 0, none⟩)] (u2.alloc (.cells #[.int .u16 sp, .int .u16 dp, .int .u16 (8 + (n : Int)), .int .u16 0] 23)) fun e w' => e = .returned (.tuple #[]) ∧ Own w' (w.heap.size + 1 + 1 + 1) 5 (some ⟨g, 0, none⟩) (8 + n) (8 + n) (layw (fun _ => 0) 0 (four sp dp (8 + (n : Int)) 0) 4) ∧ (u2.alloc (.cells #[.int .u16 sp, .int .u16 dp, .int .u16 (8 + (n : Int)), .int .u16 0] 23)).grownBy w' (some g)) :=
          layer_any (w.heap.size + 1 + 1 + 1) p g (8 + n) (8 + n) 0 u2.heap.size 4 4 (four sp dp (8 + (n : Int)) 0) (fun _ => 0) (fun k _ => four_bd (by first | assumption | omega) (by first | assumption | omega) (by first | assumption | omega) (by first | assumption | omega) k) (u2.alloc (.cells #[.int .u16 sp, .int .u16 dp, .int .u16 (8 + (n : Int)), .int .u16 0] 23)) (HS2.out.alloc _).ptr
            (fun k hk => by
              rw [blk_cell (heap_alloc_new u2 _) k]
              match k, hk with
              | 0, _ => rfl
              | 1, _ => rfl
              | 2, _ => rfl
              | 3, _ => rfl
        )
            (HS2.out.alloc _).own (by omega) (by omega) (Nat.ne_of_gt HS2.out.lt) (fun e => absurd (lt_own HS2.out.own (by omega)) (by omega))
        go_at_call 32
        refine HL3.out.mono ?_
        rintro e u3 ⟨rfl, ho3, hg3⟩
        have HS3 : Hid (WrT w u3 s d (udpc sp dp true) 53 g p (8 + n) (layw (fun _ => 0) 0 (four sp dp (8 + (n : Int)) 0) 4)) := (HS2.out.alloc _).laid ho3 hg3
        clear ho3 hg3 HL3 HS2 a0 a1 g1
        obtain ⟨D8, hD8, hD8'⟩ := slice_from g 0 (8 + n) (8 + n) 8 (by omega) (by omega) (by omega)
        have hD8r : ∀ W, (Instr.sliceAt 26 (.slice (some ⟨g, 0, none⟩) (8 + n) (8 + n)) (some (.int .i64 8)) none none).run Try.prog W = .ok (.slice D8 ((8 + n) - 8) ((8 + n) - 8)) W := hD8
        have HD8 := Lib.hid hD8'
        clear hD8 hD8'
        go_upto_region 9 with (first
          | (refine wpList_copy_rd rfl (.tmp 40) (.tmp 41) _ rfl (w.heap.size + 1 + 1 + 1) 5 Try.underlying26 (by kernel_rfl) HS3.out.own rfl 8 (fun h => (HD8.out (by omega)).trans (by rw [Nat.zero_add])) (by omega) rfl (HR.out.keep HS3.out.box.below) n (by omega) ?_; intro hoc; have HO4 := Lib.hid hoc; clear hoc))
        have HS4 : Hid (WrT w (u3.setCells g 8 ((nums n f).map (Value.int .u8))) s d (udpc sp dp true) 53 g p (8 + n) (over 8 n f (layw (fun _ => 0) 0 (four sp dp (8 + (n : Int)) 0) 4))) := HS3.out.cells 8 _ HO4.out
        clear HS3 HO4 HD8 hD8r
        generalize u3.setCells g 8 ((nums n f).map (Value.int .u8)) = u4 at *
        have HTB : Hid (Byt (udpB sp dp (8 + (n : Int)) 0 f)) := cat_byt 8 (udpH_byt h1 h2 (by omega) ⟨by omega, by omega⟩) HF.out
        have HS5 : Hid (WrT w u4 s d (udpc sp dp true) 53 g p (8 + n) (udpB sp dp (8 + (n : Int)) 0 f)) := ⟨HS4.out.box, HS4.out.own.same fun k hk => udp_laid f k hk, HS4.out.ptr, HS4.out.lo, HS4.out.lt⟩
        clear HS4
        have a2 : u4.cell? ⟨w.heap.size + 1 + 1, 2, none⟩ = some (.bool true) := blk_cell HS5.out.box.b2 2
        go_wp2_with fail
        go_ret2
        exact .inr ⟨by first | rfl | exact hRe, some ⟨g, 0, none⟩, (8 + n), rfl, HS5.out.own.le (by omega), HS5.out.box.below⟩
    · have hRe : R = 2 := HRE.out.trans (by first | rfl | simp [udpX])
      go_wp2_with fail
      go_ret2
      refine .inl ⟨by first | (rw [hRe]; decide) | decide, none, 0, by first | rfl | (rw [hRe] <;> rfl), Own.nil_ _ _ _ _, HX1.out.below⟩
end Go.Proofs.Ythjgecdnlpdcdaa
