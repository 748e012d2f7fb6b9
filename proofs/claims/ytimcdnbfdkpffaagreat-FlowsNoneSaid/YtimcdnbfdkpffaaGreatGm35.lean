import Derived.Test.YtimcdnbfdkpffaaGreatGm33
import Derived.Test.YtimcdnbfdkpffaaGreatGm5
import Derived.Lib.SlBytesConst
import Derived.Test.YtimcdnbfdkpffaaGreatGm34
import Derived.Test.YtimcdnbfdkpffaaGreatGm25
/- Stage 12: the landed bytes of a tuple, and their hash. -/
namespace Go.Proofs.YtimcdnbfdkpffaaGreat
set_option maxRecDepth 100000
open Go.RowKit Go.Shelf
theorem app_src (v6 : Bool) (pr : Int) (s d : Nat → Int) (sp dp : Int) : ∀ j, j < 2 + alen v6 → tupB v6 pr s d sp dp j = cat 2 (tupB v6 pr s d sp dp) s j := fun j hj => by
  unfold cat
  split
  · rfl
  · have h := tupB_s (v6 := v6) (pr := pr) (s := s) (d := d) (sp := sp) (dp := dp) (k := j - 2) (by omega)
    rw [show 2 + (j - 2) = j by omega] at h
    exact h
theorem app_dst (v6 : Bool) (pr : Int) (s d : Nat → Int) (sp dp : Int) : ∀ j, j < 2 + alen v6 + alen v6 → tupB v6 pr s d sp dp j = cat (2 + alen v6) (tupB v6 pr s d sp dp) d j := fun j hj => by
  unfold cat
  split
  · rfl
  · have h := tupB_d (v6 := v6) (pr := pr) (s := s) (d := d) (sp := sp) (dp := dp) (k := j - (2 + alen v6)) (by omega)
    rw [show 2 + alen v6 + (j - (2 + alen v6)) = j by omega] at h
    exact h
set_option maxHeartbeats 1000000 in
theorem bytes_false (pr : Int) (s d : Nat → Int) (sp dp : Int) (h1 : 0 ≤ sp ∧ sp ≤ 65535) (h2 : 0 ≤ dp ∧ dp ≤ 65535) (w : World) : Calls Tryz.prog 133 #[.agg (tupc false pr s d sp dp)] w fun e w' => ∃ A c, e = .returned (.slice A 14 c) ∧ Own w' w.heap.size 5 A 14 c (tupB false pr s d sp dp) ∧ Below w.heap.size w w' := by
  obtain ⟨i0_, hi0, hz0, hz1, hz2⟩ := info_parts Tryz.info5
  have HI0 := Lib.hid hi0
  have HZ0 := Lib.hid hz0
  have HZ1 := Lib.hid hz1
  have HZ2 := Lib.hid hz2
  clear hi0 hz0 hz1 hz2
  have HMK : Hid (∀ W : World, (Instr.makeSlice 54 (.int .i64 0) (.int .i64 38)).run Tryz.prog W = .ok (.slice (some ⟨W.heap.size, 0, none⟩) 0 38) (W.alloc (.cells (madeCells (Value.int .u8 0).cells 38) 5))) := Lib.hid fun W => by
    have h := run_make (P := Tryz.prog) W 54 5 i0_ (.int .u8 0) Tryz.underlying54 HI0.out HZ0.out .i64 .i64 0 38 (by omega) (by omega) (by rw [HZ2.out]; omega) (by omega)
    rw [HZ1.out, Nat.mul_one] at h
    exact h
  obtain ⟨C, hC⟩ : ∃ C, C = tupc false pr s d sp dp := ⟨_, rfl⟩
  rw [← hC]
  have HC := Lib.hid hC
  have HSZ : Hid (C.size = 36) := Lib.hid (by rw [hC]; rfl)
  clear hC
  have HM0 : Hid (Mem w (w.alloc (.cells C 38)) [(w.heap.size, .cells C 38)]) := Lib.hid ((Mem.nil w).alloc _)
  go_enter Tryz.func133, Tryz.ntmps133
  go_upto_region 1 with fail
  change Code.wp _ _ _ _ (w.alloc (.cells C 38))
  have HBX : Hid (w.heap.size ≤ (w.alloc (.cells C 38)).heap.size) := Lib.hid (alloc_le _ _)
  obtain ⟨bx, hbx⟩ : ∃ b, b = w.heap.size := ⟨_, rfl⟩
  rw [← hbx] at HM0 ⊢
  clear hbx
  generalize w.alloc (.cells C 38) = u1 at *
  have x0 : u1.cell? ⟨bx, 0, none⟩ = some (.bool false) := by
    rw [blk_cell (HM0.out.get 0 rfl) 0, HC.out]
    rfl
  have X1 : Hid (u1.cell? ⟨bx, 1, none⟩ = some (.int .u8 pr)) := Lib.hid (by
    rw [blk_cell (HM0.out.get 0 rfl) 1, HC.out]
    rfl)
  have HLT : Hid (bx < u1.heap.size) := Lib.hid (lt_heap (HM0.out.get 0 rfl))
  go_upto_region 4 with fail
  clear x0
  refine wp_region_grow (C := fun W => Below u1.heap.size u1 W) 5 41 [fun v W => ∃ g, v = .slice (some ⟨g, 0, none⟩) 0 38 ∧ Own W u1.heap.size 5 (some ⟨g, 0, none⟩) 0 38 (fun _ => 0), val (.int .u8 4), val (.pointer (some ⟨bx, 1, none⟩)), val (.int .u8 pr), fun v W => ∃ g, v = .slice (some ⟨g, 0, none⟩) 2 2 ∧ Rd W W.heap.size (some ⟨g, 0, none⟩) 2 (fun k => if k = 0 then 4 else pr)] (by kernel_rfl) rfl (by kernel_rfl) rfl ⟨fun _ _ _ ⟨g, h, ho⟩ hb => ⟨g, h, ho.below hb⟩, stb_val _, stb_val _, stb_val _, fun _ _ _ ⟨g, h, hr⟩ hb => ⟨g, h, (hr.keep hb).more hb.size⟩, trivial⟩ (Below.refl _ _).drew ?_ ?_
  · refine each_cons ?_ ?_
    · intro a W hW hd
      refine grows_new (.slice (some ⟨W.heap.size, 0, none⟩) 0 38) (w' := W.alloc (.cells (madeCells (Value.int .u8 0).cells 38) 5)) (?_ : _ = _) ⟨_, rfl, made_own0 W u1.heap.size 5 38 (by decide) hW.size (fun _ => 0) _ rfl⟩ (below_alloc _ _) (hW.alloc hW.size _)
      clear hd
      simp [execOp, Act.eval, HMK.out]
    refine each_cons ?_ ?_
    · intro a W hW hd
      have h3 : a.tmps[3]?.getD undef = .int .u8 4 := slot_eq (hd 3 (by decide))
      exact grows_value _ hW (by simp [execOp, Act.eval, h3]) rfl
    refine each_cons ?_ ?_
    · intro a W hW hd
      have h1 : a.tmps[1]?.getD undef = .pointer (some ⟨bx, 0, none⟩) := slot_eq (hd 1 (by decide))
      refine grows_value _ hW (?_ : _ = _) rfl
      clear hd
      go_simp
    refine each_cons ?_ ?_
    · intro a W hW hd
      have h10 : a.tmps[10]?.getD undef = .pointer (some ⟨bx, 1, none⟩) := slot_eq (hd 10 (by decide))
      have hx := (hW.cell (p := ⟨bx, 1, none⟩) HLT.out).trans X1.out
      refine grows_value _ hW (?_ : _ = _) rfl
      clear hd
      go_simp
    refine each_cons ?_ ?_
    · intro a W hW hd
      have h9 : a.tmps[9]?.getD undef = .int .u8 4 := slot_eq (hd 9 (by decide))
      have h11 : a.tmps[11]?.getD undef = .int .u8 pr := slot_eq (hd 11 (by decide))
      refine grows_new (.slice (some ⟨W.heap.size, 0, none⟩) 2 2) (w' := W.alloc (.cells #[.int .u8 4, .int .u8 pr] 5)) (?_ : _ = _) ⟨_, rfl, rd_new2 W _ _ rfl (by simp) _ _ _⟩ (below_alloc _ _) (hW.alloc hW.size _)
      clear hd
      go_simp
    exact each_nil
  · refine behind_cons fun v8 => ?_
    refine behind_val rfl ?_
    refine behind_val rfl ?_
    refine behind_val rfl ?_
    refine behind_cons fun v12 => ?_
    refine behind_nil fun u2 hCu2 hFu2 => ?_
    simp only [Act.put, List.setIfInBounds_toArray, List.set_cons_succ, List.set_cons_zero, List.drop_succ_cons, List.drop_zero]
    obtain ⟨⟨_, g8, rfl, ho8⟩, g12, rfl, hr12⟩ := hFu2
    have HM8 : Hid (MO w u2 [(bx, .cells C 38)] u1.heap.size (some ⟨g8, 0, none⟩) 0 38 (fun _ => 0)) := Lib.hid ⟨HM0.out.step hCu2, ho8, HM0.out.top, hCu2.size, HM0.out.below.size⟩
    have HR12 := Lib.hid hr12
    clear ho8 hr12 hCu2
    go_upto_region 5 with (at_builtin; refine wpList_append_rd rfl (.tmp 8) (.tmp 12) _ rfl u1.heap.size 5 i0_ Tryz.underlying54 HI0.out HZ0.out HZ1.out HZ2.out (n := 0) (f := fun _ => 0) rfl HM8.out.own rfl HR12.out (by omega) HM8.out.le ?_; intro A9 c9 w9 hown9 hg9 _)
    have HM9 := Lib.hid ((HM8.out.app hown9 hg9).same (g := tupB false pr s d sp dp) (fun k hk => by
      rcases (show k = 0 ∨ k = 1 by omega) with rfl | rfl <;> rfl))
    clear hown9 hg9 HM8 HR12
    go_upto_region 6 with (at_builtin; refine wpList_append_rd rfl (.tmp 14) (.tmp 17) _ rfl u1.heap.size 5 i0_ Tryz.underlying54 HI0.out HZ0.out HZ1.out HZ2.out (n := 2) (f := tupB false pr s d sp dp) rfl HM9.out.own rfl (blk_rd (n := 4) (i := 2) (f := s) (HM9.out.mem.get 0 rfl) (lt_heap (HM9.out.mem.get 0 rfl)) (fun k hk => by rw [HC.out]; exact tupc_s _ _ _ _ _ _ (by omega))) (by omega) HM9.out.le ?_; intro A10 c10 w10 hown10 hg10 _)
    have HM10 := Lib.hid ((HM9.out.app hown10 hg10).same (g := tupB false pr s d sp dp) (app_src false pr s d sp dp))
    clear hown10 hg10 HM9
    go_upto_region 7 with (at_builtin; refine wpList_append_rd rfl (.tmp 19) (.tmp 22) _ rfl u1.heap.size 5 i0_ Tryz.underlying54 HI0.out HZ0.out HZ1.out HZ2.out (n := 6) (f := tupB false pr s d sp dp) rfl HM10.out.own rfl (blk_rd (n := 4) (i := 18) (f := d) (HM10.out.mem.get 0 rfl) (lt_heap (HM10.out.mem.get 0 rfl)) (fun k hk => by rw [HC.out]; exact tupc_d _ _ _ _ _ _ (by omega))) (by omega) HM10.out.le ?_; intro A11 c11 w11 hown11 hg11 _)
    have HM11 := Lib.hid ((HM10.out.app hown11 hg11).same (g := tupB false pr s d sp dp) (app_dst false pr s d sp dp))
    clear hown11 hg11 HM10
    have e0 : w11.cell? ⟨bx, 34, none⟩ = some (.int .u16 sp) := by
      rw [blk_cell (HM11.out.mem.get 0 rfl) 34, HC.out]
      rfl
    have e1 : w11.cell? ⟨bx, 35, none⟩ = some (.int .u16 dp) := by
      rw [blk_cell (HM11.out.mem.get 0 rfl) 35, HC.out]
      rfl
    have z0 : sp / 256 % 256 = sp / 256 := by omega
    have z1 : dp / 256 % 256 = dp / 256 := by omega
    go_wp2_with (at_builtin; refine wpList_append_rd rfl (.tmp 24) (.tmp 39) _ rfl u1.heap.size 5 i0_ Tryz.underlying54 HI0.out HZ0.out HZ1.out HZ2.out (n := 10) (f := tupB false pr s d sp dp) rfl ((HM11.out.alloc (.cells #[.int .u8 (sp / 256), .int .u8 (sp % 256), .int .u8 (dp / 256), .int .u8 (dp % 256)] 5)).own) rfl (rd_new4 w11 (w11.heap.size + 1) w11.heap.size rfl (Nat.lt_succ_self _) (sp / 256) (sp % 256) (dp / 256) (dp % 256) 5) (by omega) (HM11.out.alloc (.cells #[.int .u8 (sp / 256), .int .u8 (sp % 256), .int .u8 (dp / 256), .int .u8 (dp % 256)] 5)).le ?_; intro A12 c12 w12 hown12 hg12 _)
    have HM12 := Lib.hid (((HM11.out.alloc (.cells #[.int .u8 (sp / 256), .int .u8 (sp % 256), .int .u8 (dp / 256), .int .u8 (dp % 256)] 5)).app hown12 hg12).same (g := tupB false pr s d sp dp) (app_four false pr s d sp dp))
    clear hown12 hg12 HM11
    go_wp2_with fail
    go_ret
    exact ⟨A12, c12, rfl, HM12.out.own.le HBX.out, HM12.out.below⟩
set_option maxHeartbeats 1000000 in
theorem bytes_true (pr : Int) (s d : Nat → Int) (sp dp : Int) (h1 : 0 ≤ sp ∧ sp ≤ 65535) (h2 : 0 ≤ dp ∧ dp ≤ 65535) (w : World) : Calls Tryz.prog 133 #[.agg (tupc true pr s d sp dp)] w fun e w' => ∃ A c, e = .returned (.slice A 38 c) ∧ Own w' w.heap.size 5 A 38 c (tupB true pr s d sp dp) ∧ Below w.heap.size w w' := by
  obtain ⟨i0_, hi0, hz0, hz1, hz2⟩ := info_parts Tryz.info5
  have HI0 := Lib.hid hi0
  have HZ0 := Lib.hid hz0
  have HZ1 := Lib.hid hz1
  have HZ2 := Lib.hid hz2
  clear hi0 hz0 hz1 hz2
  have HMK : Hid (∀ W : World, (Instr.makeSlice 54 (.int .i64 0) (.int .i64 38)).run Tryz.prog W = .ok (.slice (some ⟨W.heap.size, 0, none⟩) 0 38) (W.alloc (.cells (madeCells (Value.int .u8 0).cells 38) 5))) := Lib.hid fun W => by
    have h := run_make (P := Tryz.prog) W 54 5 i0_ (.int .u8 0) Tryz.underlying54 HI0.out HZ0.out .i64 .i64 0 38 (by omega) (by omega) (by rw [HZ2.out]; omega) (by omega)
    rw [HZ1.out, Nat.mul_one] at h
    exact h
  obtain ⟨C, hC⟩ : ∃ C, C = tupc true pr s d sp dp := ⟨_, rfl⟩
  rw [← hC]
  have HC := Lib.hid hC
  have HSZ : Hid (C.size = 36) := Lib.hid (by rw [hC]; rfl)
  clear hC
  have HM0 : Hid (Mem w (w.alloc (.cells C 38)) [(w.heap.size, .cells C 38)]) := Lib.hid ((Mem.nil w).alloc _)
  go_enter Tryz.func133, Tryz.ntmps133
  go_upto_region 1 with fail
  change Code.wp _ _ _ _ (w.alloc (.cells C 38))
  have HBX : Hid (w.heap.size ≤ (w.alloc (.cells C 38)).heap.size) := Lib.hid (alloc_le _ _)
  obtain ⟨bx, hbx⟩ : ∃ b, b = w.heap.size := ⟨_, rfl⟩
  rw [← hbx] at HM0 ⊢
  clear hbx
  generalize w.alloc (.cells C 38) = u1 at *
  have x0 : u1.cell? ⟨bx, 0, none⟩ = some (.bool true) := by
    rw [blk_cell (HM0.out.get 0 rfl) 0, HC.out]
    rfl
  have X1 : Hid (u1.cell? ⟨bx, 1, none⟩ = some (.int .u8 pr)) := Lib.hid (by
    rw [blk_cell (HM0.out.get 0 rfl) 1, HC.out]
    rfl)
  have HLT : Hid (bx < u1.heap.size) := Lib.hid (lt_heap (HM0.out.get 0 rfl))
  go_upto_region 4 with fail
  clear x0
  refine wp_region_grow (C := fun W => Below u1.heap.size u1 W) 5 41 [fun v W => ∃ g, v = .slice (some ⟨g, 0, none⟩) 0 38 ∧ Own W u1.heap.size 5 (some ⟨g, 0, none⟩) 0 38 (fun _ => 0), val (.int .u8 6), val (.pointer (some ⟨bx, 1, none⟩)), val (.int .u8 pr), fun v W => ∃ g, v = .slice (some ⟨g, 0, none⟩) 2 2 ∧ Rd W W.heap.size (some ⟨g, 0, none⟩) 2 (fun k => if k = 0 then 6 else pr)] (by kernel_rfl) rfl (by kernel_rfl) rfl ⟨fun _ _ _ ⟨g, h, ho⟩ hb => ⟨g, h, ho.below hb⟩, stb_val _, stb_val _, stb_val _, fun _ _ _ ⟨g, h, hr⟩ hb => ⟨g, h, (hr.keep hb).more hb.size⟩, trivial⟩ (Below.refl _ _).drew ?_ ?_
  · refine each_cons ?_ ?_
    · intro a W hW hd
      refine grows_new (.slice (some ⟨W.heap.size, 0, none⟩) 0 38) (w' := W.alloc (.cells (madeCells (Value.int .u8 0).cells 38) 5)) (?_ : _ = _) ⟨_, rfl, made_own0 W u1.heap.size 5 38 (by decide) hW.size (fun _ => 0) _ rfl⟩ (below_alloc _ _) (hW.alloc hW.size _)
      clear hd
      simp [execOp, Act.eval, HMK.out]
    refine each_cons ?_ ?_
    · intro a W hW hd
      have h3 : a.tmps[3]?.getD undef = .int .u8 6 := slot_eq (hd 3 (by decide))
      exact grows_value _ hW (by simp [execOp, Act.eval, h3]) rfl
    refine each_cons ?_ ?_
    · intro a W hW hd
      have h1 : a.tmps[1]?.getD undef = .pointer (some ⟨bx, 0, none⟩) := slot_eq (hd 1 (by decide))
      refine grows_value _ hW (?_ : _ = _) rfl
      clear hd
      go_simp
    refine each_cons ?_ ?_
    · intro a W hW hd
      have h10 : a.tmps[10]?.getD undef = .pointer (some ⟨bx, 1, none⟩) := slot_eq (hd 10 (by decide))
      have hx := (hW.cell (p := ⟨bx, 1, none⟩) HLT.out).trans X1.out
      refine grows_value _ hW (?_ : _ = _) rfl
      clear hd
      go_simp
    refine each_cons ?_ ?_
    · intro a W hW hd
      have h9 : a.tmps[9]?.getD undef = .int .u8 6 := slot_eq (hd 9 (by decide))
      have h11 : a.tmps[11]?.getD undef = .int .u8 pr := slot_eq (hd 11 (by decide))
      refine grows_new (.slice (some ⟨W.heap.size, 0, none⟩) 2 2) (w' := W.alloc (.cells #[.int .u8 6, .int .u8 pr] 5)) (?_ : _ = _) ⟨_, rfl, rd_new2 W _ _ rfl (by simp) _ _ _⟩ (below_alloc _ _) (hW.alloc hW.size _)
      clear hd
      go_simp
    exact each_nil
  · refine behind_cons fun v8 => ?_
    refine behind_val rfl ?_
    refine behind_val rfl ?_
    refine behind_val rfl ?_
    refine behind_cons fun v12 => ?_
    refine behind_nil fun u2 hCu2 hFu2 => ?_
    simp only [Act.put, List.setIfInBounds_toArray, List.set_cons_succ, List.set_cons_zero, List.drop_succ_cons, List.drop_zero]
    obtain ⟨⟨_, g8, rfl, ho8⟩, g12, rfl, hr12⟩ := hFu2
    have HM8 : Hid (MO w u2 [(bx, .cells C 38)] u1.heap.size (some ⟨g8, 0, none⟩) 0 38 (fun _ => 0)) := Lib.hid ⟨HM0.out.step hCu2, ho8, HM0.out.top, hCu2.size, HM0.out.below.size⟩
    have HR12 := Lib.hid hr12
    clear ho8 hr12 hCu2
    go_upto_region 5 with (at_builtin; refine wpList_append_rd rfl (.tmp 8) (.tmp 12) _ rfl u1.heap.size 5 i0_ Tryz.underlying54 HI0.out HZ0.out HZ1.out HZ2.out (n := 0) (f := fun _ => 0) rfl HM8.out.own rfl HR12.out (by omega) HM8.out.le ?_; intro A9 c9 w9 hown9 hg9 _)
    have HM9 := Lib.hid ((HM8.out.app hown9 hg9).same (g := tupB true pr s d sp dp) (fun k hk => by
      rcases (show k = 0 ∨ k = 1 by omega) with rfl | rfl <;> rfl))
    clear hown9 hg9 HM8 HR12
    go_upto_region 6 with (at_builtin; refine wpList_append_rd rfl (.tmp 14) (.tmp 17) _ rfl u1.heap.size 5 i0_ Tryz.underlying54 HI0.out HZ0.out HZ1.out HZ2.out (n := 2) (f := tupB true pr s d sp dp) rfl HM9.out.own rfl (blk_rd (n := 16) (i := 2) (f := s) (HM9.out.mem.get 0 rfl) (lt_heap (HM9.out.mem.get 0 rfl)) (fun k hk => by rw [HC.out]; exact tupc_s _ _ _ _ _ _ (by omega))) (by omega) HM9.out.le ?_; intro A10 c10 w10 hown10 hg10 _)
    have HM10 := Lib.hid ((HM9.out.app hown10 hg10).same (g := tupB true pr s d sp dp) (app_src true pr s d sp dp))
    clear hown10 hg10 HM9
    go_upto_region 7 with (at_builtin; refine wpList_append_rd rfl (.tmp 19) (.tmp 22) _ rfl u1.heap.size 5 i0_ Tryz.underlying54 HI0.out HZ0.out HZ1.out HZ2.out (n := 18) (f := tupB true pr s d sp dp) rfl HM10.out.own rfl (blk_rd (n := 16) (i := 18) (f := d) (HM10.out.mem.get 0 rfl) (lt_heap (HM10.out.mem.get 0 rfl)) (fun k hk => by rw [HC.out]; exact tupc_d _ _ _ _ _ _ (by omega))) (by omega) HM10.out.le ?_; intro A11 c11 w11 hown11 hg11 _)
    have HM11 := Lib.hid ((HM10.out.app hown11 hg11).same (g := tupB true pr s d sp dp) (app_dst true pr s d sp dp))
    clear hown11 hg11 HM10
    have e0 : w11.cell? ⟨bx, 34, none⟩ = some (.int .u16 sp) := by
      rw [blk_cell (HM11.out.mem.get 0 rfl) 34, HC.out]
      rfl
    have e1 : w11.cell? ⟨bx, 35, none⟩ = some (.int .u16 dp) := by
      rw [blk_cell (HM11.out.mem.get 0 rfl) 35, HC.out]
      rfl
    have z0 : sp / 256 % 256 = sp / 256 := by omega
    have z1 : dp / 256 % 256 = dp / 256 := by omega
    go_wp2_with (at_builtin; refine wpList_append_rd rfl (.tmp 24) (.tmp 39) _ rfl u1.heap.size 5 i0_ Tryz.underlying54 HI0.out HZ0.out HZ1.out HZ2.out (n := 34) (f := tupB true pr s d sp dp) rfl ((HM11.out.alloc (.cells #[.int .u8 (sp / 256), .int .u8 (sp % 256), .int .u8 (dp / 256), .int .u8 (dp % 256)] 5)).own) rfl (rd_new4 w11 (w11.heap.size + 1) w11.heap.size rfl (Nat.lt_succ_self _) (sp / 256) (sp % 256) (dp / 256) (dp % 256) 5) (by omega) (HM11.out.alloc (.cells #[.int .u8 (sp / 256), .int .u8 (sp % 256), .int .u8 (dp / 256), .int .u8 (dp % 256)] 5)).le ?_; intro A12 c12 w12 hown12 hg12 _)
    have HM12 := Lib.hid (((HM11.out.alloc (.cells #[.int .u8 (sp / 256), .int .u8 (sp % 256), .int .u8 (dp / 256), .int .u8 (dp % 256)] 5)).app hown12 hg12).same (g := tupB true pr s d sp dp) (app_four true pr s d sp dp))
    clear hown12 hg12 HM11
    go_wp2_with fail
    go_ret
    exact ⟨A12, c12, rfl, HM12.out.own.le HBX.out, HM12.out.below⟩
theorem bytes_any (v6 : Bool) (pr : Int) (s d : Nat → Int) (sp dp : Int) (h1 : 0 ≤ sp ∧ sp ≤ 65535) (h2 : 0 ≤ dp ∧ dp ≤ 65535) (w : World) : Calls Tryz.prog 133 #[.agg (tupc v6 pr s d sp dp)] w fun e w' => ∃ A c, e = .returned (.slice A (tlen v6) c) ∧ Own w' w.heap.size 5 A (tlen v6) c (tupB v6 pr s d sp dp) ∧ Below w.heap.size w w' := by
  cases v6
  · exact bytes_false pr s d sp dp h1 h2 w
  · exact bytes_true pr s d sp dp h1 h2 w
theorem tuple_any (v6 : Bool) (pr : Int) (s d : Nat → Int) (sp dp : Int) (hp : 0 ≤ pr ∧ pr ≤ 255) (hs : Byt s) (hd : Byt d) (h1 : 0 ≤ sp ∧ sp ≤ 65535) (h2 : 0 ≤ dp ∧ dp ≤ 65535) (w : World) : Calls Tryz.prog 86 #[.agg (tupc v6 pr s d sp dp)] w (ret (.int .u64 ((seedN 0 (nb (tupB v6 pr s d sp dp)) (tlen v6) : Nat) : Int)) w) := by
  have HBY := Lib.hid (tupB_byt (v6 := v6) hp hs hd h1 h2)
  have HT := Lib.hid fun W => bytes_any v6 pr s d sp dp h1 h2 W
  have HL : Hid (tlen v6 ≤ 4611686018427387904) := Lib.hid (by cases v6 <;> decide)
  obtain ⟨n, hn⟩ : ∃ n, n = tlen v6 := ⟨_, rfl⟩
  obtain ⟨f, hf⟩ : ∃ f, f = tupB v6 pr s d sp dp := ⟨_, rfl⟩
  obtain ⟨C, hC⟩ : ∃ C, C = tupc v6 pr s d sp dp := ⟨_, rfl⟩
  have HSZ : Hid (C.size = 36) := Lib.hid (by rw [hC]; rfl)
  rw [← hn, ← hf, ← hC] at HT
  rw [← hn] at HL ⊢
  rw [← hf] at HBY ⊢
  rw [← hC]
  clear hn hf hC
  have H0 : Hid ((w.alloc (.cells C 38)).heap[w.heap.size]? = some (.cells C 38 (0, 0))) := Lib.hid (heap_alloc_new w _)
  have HB0 : Hid (Below w.heap.size w (w.alloc (.cells C 38))) := Lib.hid (below_alloc w _)
  have HI36 : Hid ((Tryz.prog.info? 38).map (·.size) = some 36) := Lib.hid (by kernel_rfl)
  go_enter Tryz.func86, Tryz.ntmps86
  go_upto_region 1 with fail
  change Code.wp _ _ _ _ (w.alloc (.cells C 38))
  obtain ⟨bx, hbx⟩ : ∃ b, b = w.heap.size := ⟨_, rfl⟩
  rw [← hbx] at H0 ⊢
  clear hbx
  generalize w.alloc (.cells C 38) = u1 at *
  go_wp2_with (first
    | (refine wpList_load_row rfl 38 (.tmp 1) rfl bx rfl 38 C (0, 0) _ H0.out Tryz.underlying38 rfl (HI36.out.trans (by rw [HSZ.out])) ?_)
    | (go_at_call 133
       refine (HT.out _).mono ?_
       rintro e v1 ⟨A, c, rfl, ho, hb1⟩
       have HR1 := Lib.hid (ho.rd)
       have HB1 := Lib.hid (HB0.out.trans (hb1.mono HB0.out.size))
       clear ho hb1)
    | (go_at_call 132
       refine (seeded_any 0 (by decide) A n c f HBY.out HL.out v1 HR1.out).mono ?_
       rintro e v2 ⟨rfl, hb2⟩
       have HB2 := Lib.hid (HB1.out.trans (hb2.mono HB1.out.size))
       clear hb2 HB1))
  go_ret
  exact ⟨rfl, HB2.out⟩
end Go.Proofs.YtimcdnbfdkpffaaGreat
