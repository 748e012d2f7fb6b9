import Derived.Test.YtkmakdhlaenaoaaGm6
import Derived.Test.YtkmakdhlaenaoaaGm0
import Derived.RegionTactic
/- Stage 9: the document's Take. -/
namespace Go.Proofs.Ytkmakdhlaenaoaa
set_option maxRecDepth 100000
open Go.RowKit
set_option maxHeartbeats 1000000 in
theorem rtakeX_no (q : Nat) (A : Option Addr) (n c : Nat) (B : Option Addr) (m d S : Nat) (ha fr : Nat → Nat) (G : Nat → Prop) (w : World) (h : RX w q A n c B m d S ha fr G)
    (hW : ∀ W, RX W q A n c B m d S ha fr G → Calls Try.prog 79 #[.pointer (some ⟨q, 0, none⟩)] W fun e w' => e = .returned (.int .i64 (-1)) ∧ Below W.heap.size W w') :
    Calls Try.prog 70 #[.pointer (some ⟨q, 0, none⟩)] w fun e w' => e = .returned (.tuple #[.agg #[.int .i64 0, .int .u64 0], .int .i64 9]) ∧ Below w.heap.size w w' := by
  have HQW : Hid (q < w.heap.size) := Lib.hid (h.old q h.mem)
  have HGW : Hid (∀ k, G k → k < w.heap.size) := Lib.hid h.old
  have HM1 : Hid (Mem w (w.alloc (.cells #[.int .i64 0, .int .u64 0] 46)) [(w.heap.size, .cells #[.int .i64 0, .int .u64 0] 46 (0, 0))]) := Lib.hid ((Mem.nil w).alloc (.cells #[.int .i64 0, .int .u64 0] 46))
  have HX1 := Lib.hid (h.step (below_alloc w (.cells #[.int .i64 0, .int .u64 0] 46)))
  have HW := Lib.hid hW
  clear h hW
  go_enter Try.func70, Try.ntmps70
  go_upto_region 1 with fail
  change Code.wp _ _ _ _ (w.alloc (.cells #[.int .i64 0, .int .u64 0] 46))
  generalize w.alloc (.cells #[.int .i64 0, .int .u64 0] 46) = u1 at *
  go_wp2_with fail
  go_at_call 79
  refine (HW.out u1 HX1.out).mono ?_
  rintro e u2 ⟨rfl, hb⟩
  have HM2 := Lib.hid (HM1.out.step hb)
  have HX2 := Lib.hid (HX1.out.step hb)
  clear hb HM1 HX1 HW
  go_wp2_with (first
    | (refine wpList_store_row rfl 46 (.tmp 2) (.tmp 9) rfl w.heap.size #[.int .i64 0, .int .u64 0] rfl rfl 46 #[.int .i64 0, .int .u64 0] (HM2.out.get 0 rfl) (by kernel_rfl) rfl (by simp [Value.oneCell']) ?_))
  refine bodyPost_ret (v := .tuple #[.agg #[.int .i64 0, .int .u64 0], .int .i64 9]) (results_rowa Try.results70 _ _ w.heap.size 46 #[.int .i64 0, .int .u64 0] (0, 0) _ rfl (setRow_heap _ w.heap.size _ #[.int .i64 0, .int .u64 0] _ _ (HM2.out.get 0 rfl)) Try.underlying46 rfl (by kernel_rfl)) rfl ?_
  exact ⟨rfl, below_setRow HM2.out.below (Nat.le_refl _) _⟩
set_option maxHeartbeats 4000000 in
theorem rtakeX_any (q : Nat) (A : Option Addr) (n c : Nat) (B : Option Addr) (m d S : Nat) (ha fr : Nat → Nat) (G : Nat → Prop) (hn : n ≤ 65536) (hS : S ≤ 4611686018427387904) (i : Nat) (hi : i < n) (w : World) (h : RX w q A n c B m d S ha fr G)
    (hW : ∀ W, RX W q A n c B m d S ha fr G → Calls Try.prog 79 #[.pointer (some ⟨q, 0, none⟩)] W fun e w' => e = .returned (.int .i64 (i : Int)) ∧ Below W.heap.size W w') :
    Calls Try.prog 70 #[.pointer (some ⟨q, 0, none⟩)] w fun e w' => e = .returned (.tuple #[.agg #[.int .i64 (i : Int), .int .u64 ((S : Int) + 1)], .int .i64 0]) ∧ (∃ A2 c2 B2 d2, RX w' q A2 n c2 B2 (m - 1) d2 (S + 1) (fun j => if j = i then S + 1 else ha j) fr (fun k => G k ∨ w.heap.size ≤ k ∧ k < w'.heap.size)) ∧ Kept (fun k => k = q) w w' := by
  obtain ⟨i0, hi0, hz0, hz1, hz2⟩ := info_parts Try.infoU
  have HI0 := Lib.hid hi0
  have HZ0 := Lib.hid hz0
  have HZ1 := Lib.hid hz1
  have HZ2 := Lib.hid hz2
  clear hi0 hz0 hz1 hz2
  have zS : IntKind.u64.wrap ((S : Int) + 1) = (S : Int) + 1 := by simp only [IntKind.wrap_u64]; omega
  have hi0' : ¬ (i : Int) < 0 := by omega
  have HQW : Hid (q < w.heap.size) := Lib.hid (h.old q h.mem)
  have HGW : Hid (∀ k, G k → k < w.heap.size) := Lib.hid h.old
  have HM1 : Hid (Mem w (w.alloc (.cells #[.int .i64 0, .int .u64 0] 46)) [(w.heap.size, .cells #[.int .i64 0, .int .u64 0] 46 (0, 0))]) := Lib.hid ((Mem.nil w).alloc (.cells #[.int .i64 0, .int .u64 0] 46))
  have HX1 := Lib.hid (h.step (below_alloc w (.cells #[.int .i64 0, .int .u64 0] 46)))
  have HW := Lib.hid hW
  clear h hW
  go_enter Try.func70, Try.ntmps70
  go_upto_region 1 with fail
  change Code.wp _ _ _ _ (w.alloc (.cells #[.int .i64 0, .int .u64 0] 46))
  generalize w.alloc (.cells #[.int .i64 0, .int .u64 0] 46) = u1 at *
  go_wp2_with fail
  go_at_call 79
  refine (HW.out u1 HX1.out).mono ?_
  rintro e u2 ⟨rfl, hb⟩
  have HM2 := Lib.hid (HM1.out.step hb)
  have HX2 := Lib.hid (HX1.out.step hb)
  clear hb HM1 HX1 HW
  have HQL2 : Hid (q < u2.heap.size) := Lib.hid (lt_heap HX2.out.blk)
  cases m with
  | zero =>
    have x1 : u2.cell? ⟨q, 1, none⟩ = some (.slice B 0 d) := blk_cell HX2.out.blk 1
    have HQ3 := Lib.hid HX2.out.blk
    have HK3 := Lib.hid (Kept.refl (fun k => k = q) u2)
    have HA := Lib.hid HX2.out.has
    have HFR : Hid (RdG u2 (GQ G q) B 0 (fun k => .int .i64 (fr k : Int))) := Lib.hid (HX2.out.free.less (by omega))
    have HD1 : Hid (0 ≤ d) := Lib.hid (by have := HX2.out.d1; omega)
    have hcx := HX2.out.c2
    have HCX := Lib.hid hcx
    clear hcx
    go_upto_region 6 with fail
    clear x1
    have x2 : u2.cell? ⟨q, 2, none⟩ = some (.int .u64 (S : Int)) := blk_cell HQ3.out 2
    have y2 := blk_free HQ3.out 2
    go_upto_region 7 with fail
    have HQ4 : Hid ((u2.setCell ⟨q, 2, none⟩ (.int .u64 ((S : Int) + 1))).heap[q]? = some (.cells #[.slice A n c, .slice B 0 d, .int .u64 ((S : Int) + 1)] 105 (0, 0))) := Lib.hid (blk_set HQ3.out 2 _)
    have HK4 : Hid (Kept (fun k => k = q) u2 (u2.setCell ⟨q, 2, none⟩ (.int .u64 ((S : Int) + 1)))) := Lib.hid (HK3.out.setCell (.inl rfl) _)
    have HK42 := Lib.hid HK4.out.size
    clear x2 y2 HQ3 HK3
    generalize u2.setCell ⟨q, 2, none⟩ (.int .u64 ((S : Int) + 1)) = u4 at *
    have x0 : u4.cell? ⟨q, 0, none⟩ = some (.slice A n c) := blk_cell HQ4.out 0
    have x0n : (u4.alloc (.cells #[] 22)).cell? ⟨q, 0, none⟩ = some (.slice A n c) := blk_cell (blk_old HQ4.out _) 0
    have HO4 : Hid (OwnC (u4.alloc (.cells #[] 22)) u4.heap.size 22 1 (some ⟨u4.heap.size, 0, none⟩) 0 0 (fun _ => .int .u64 0)) := OwnC.fresh u4 _ _ rfl (Nat.le_refl _) _ _ _
    have HA4 : Hid (RdG (u4.alloc (.cells #[] 22)) (GQ G q) A n (fun k => .int .u64 (ha k : Int))) := Lib.hid (HA.out.keep (HK4.out.alloc _) fun k h e => h.2 e)
    have hA4 : RdC (u4.alloc (.cells #[] 22)) (u4.alloc (.cells #[] 22)).heap.size A (n * 1) (fun k => .int .u64 (ha k : Int)) := by
      rw [Nat.mul_one]
      exact HA4.out.rdc
    have HA4c := Lib.hid hA4
    clear hA4 HA4
    go_upto_region 8 with (first
      | (at_builtin
         refine wpList_append_vals rfl (.tmp 38) (.tmp 42) 103 rfl u4.heap.size 22 i0 (.int .u64 0) 1 Try.underlying103 HI0.out HZ0.out HZ1.out rfl (by decide) rfl HO4.out rfl HA4c.out (fun _ _ => rfl) (by unfold maxLen; omega) (by rw [HZ2.out]; omega) (alloc_le u4 _) ?_
         intro A2 c2 u5 hown5 hg5 _
         have HO5 : Hid (OwnC u5 u4.heap.size 22 1 A2 n c2 (fun k => .int .u64 (ha k : Int))) := Lib.hid (by
           rw [Nat.zero_add] at hown5
           exact hown5.same fun k _ => by unfold catV; rw [if_neg (by omega)]; rfl)
         have HB5 : Hid (Below u4.heap.size u4 u5) := Lib.hid ((below_alloc u4 _).grown hg5 (alloc_le u4 _) fun k hk => HO4.out.at_ k hk)
         rw [Nat.zero_add]
         have x05 : u5.cell? ⟨q, 0, none⟩ = some (.slice A n c) := blk_cell ((HB5.out.block _ (lt_heap HQ4.out)).trans HQ4.out) 0
         have y05 := blk_free ((HB5.out.block _ (lt_heap HQ4.out)).trans HQ4.out) 0
         clear hown5 hg5))
    obtain ⟨g2, hg2, hgb, hgl, hgc, hgf⟩ := HO5.out.lies (by omega)
    subst hg2
    have HG2 : Hid (u4.heap.size ≤ g2) := hgb
    have hcap2 := HO5.out.cap
    have hcap29 := HO5.out.cap_le
    have hne : ∀ g, (some (⟨g2, 0, none⟩ : Addr)) = some ⟨g, 0, none⟩ → g ≠ q := fun g h => by
      injection h with h
      injection h with h
      have := lt_heap HQ4.out
      omega
    have HO6 : Hid (OwnC (u5.setCell ⟨q, 0, none⟩ (.slice (some ⟨g2, 0, none⟩) n c2)) u4.heap.size 22 1 (some ⟨g2, 0, none⟩) n c2 (fun k => .int .u64 (ha k : Int))) := Lib.hid (HO5.out.beside q hne (fun k hk => Below.heap_setCell u5 ⟨q, 0, none⟩ _ k hk))
    have HQ6 : Hid ((u5.setCell ⟨q, 0, none⟩ (.slice (some ⟨g2, 0, none⟩) n c2)).heap[q]? = some (.cells #[.slice (some ⟨g2, 0, none⟩) n c2, .slice B 0 d, .int .u64 ((S : Int) + 1)] 105 (0, 0))) := Lib.hid (blk_set ((HB5.out.block _ (lt_heap HQ4.out)).trans HQ4.out) 0 _)
    have HK6 : Hid (Kept (fun k => k = q) u2 (u5.setCell ⟨q, 0, none⟩ (.slice (some ⟨g2, 0, none⟩) n c2))) := Lib.hid ((HK4.out.step HB5.out).setCell (.inl rfl) _)
    clear hgb hgl hgc hgf hne x05 y05 x0 x0n HO4 HA4c HQ4 HK4 HB5 HO5
    generalize u5.setCell ⟨q, 0, none⟩ (.slice (some ⟨g2, 0, none⟩) n c2) = u6 at *
    have HQL : Hid (q < u6.heap.size) := Lib.hid (lt_heap HQ6.out)
    have x0 : u6.cell? ⟨q, 0, none⟩ = some (.slice (some ⟨g2, 0, none⟩) n c2) := blk_cell HQ6.out 0
    have x2 : u6.cell? ⟨q, 2, none⟩ = some (.int .u64 ((S : Int) + 1)) := blk_cell HQ6.out 2
    have i0' : (0 : Int) ≤ (i : Int) := by omega
    have i1' : (i : Int) < (n : Int) := by omega
    have i2' : ((i : Int)).toNat = i := by omega
    refine wp_region_grow (C := fun W => Below u6.heap.size u6 W) 10 62 [val (.pointer (some ⟨q, 0, none⟩)), val (.pointer (some ⟨q, 0, none⟩)), val (.pointer (some ⟨q, 0, none⟩)), val (.slice (some ⟨g2, 0, none⟩) n c2), val (.int .i64 (i : Int)), val (.pointer (some ⟨q, 0, none⟩)), val (.pointer (some ⟨q, 0, none⟩)), val (.pointer (some ⟨q, 2, none⟩)), val (.int .u64 ((S : Int) + 1)), val (.pointer (some ⟨g2, i, none⟩))] (by kernel_rfl) rfl (by kernel_rfl) rfl ⟨stb_val _, stb_val _, stb_val _, stb_val _, stb_val _, stb_val _, stb_val _, stb_val _, stb_val _, stb_val _, trivial⟩ (Below.refl _ _).drew ?_ ?_
    · refine each_cons ?_ ?_
      · intro a W hW hd
        have h0 : a.tmps[0]?.getD undef = .pointer (some ⟨q, 0, none⟩) := slot_eq (hd 0 (by decide))
        exact grows_value _ hW (by simp [execOp, Act.eval, h0]) rfl
      refine each_cons ?_ ?_
      · intro a W hW hd
        have h46 : a.tmps[46]?.getD undef = .pointer (some ⟨q, 0, none⟩) := slot_eq (hd 46 (by decide))
        refine grows_value _ hW (?_ : _ = _) rfl
        clear hd
        go_simp
      refine each_cons ?_ ?_
      · intro a W hW hd
        have h47 : a.tmps[47]?.getD undef = .pointer (some ⟨q, 0, none⟩) := slot_eq (hd 47 (by decide))
        refine grows_value _ hW (?_ : _ = _) rfl
        clear hd
        go_simp
      refine each_cons ?_ ?_
      · intro a W hW hd
        have h48 : a.tmps[48]?.getD undef = .pointer (some ⟨q, 0, none⟩) := slot_eq (hd 48 (by decide))
        have xx : W.cell? ⟨q, 0, none⟩ = some (.slice (some ⟨g2, 0, none⟩) n c2) := (hW.cell (p := ⟨q, 0, none⟩) HQL.out).trans x0
        refine grows_value _ hW (?_ : _ = _) rfl
        clear hd
        go_simp
      refine each_cons ?_ ?_
      · intro a W hW hd
        have h4 : a.tmps[4]?.getD undef = .int .i64 (i : Int) := slot_eq (hd 4 (by decide))
        exact grows_value _ hW (by simp [execOp, Act.eval, h4]) rfl
      refine each_cons ?_ ?_
      · intro a W hW hd
        have h0 : a.tmps[0]?.getD undef = .pointer (some ⟨q, 0, none⟩) := slot_eq (hd 0 (by decide))
        exact grows_value _ hW (by simp [execOp, Act.eval, h0]) rfl
      refine each_cons ?_ ?_
      · intro a W hW hd
        have h51 : a.tmps[51]?.getD undef = .pointer (some ⟨q, 0, none⟩) := slot_eq (hd 51 (by decide))
        refine grows_value _ hW (?_ : _ = _) rfl
        clear hd
        go_simp
      refine each_cons ?_ ?_
      · intro a W hW hd
        have h52 : a.tmps[52]?.getD undef = .pointer (some ⟨q, 0, none⟩) := slot_eq (hd 52 (by decide))
        refine grows_value _ hW (?_ : _ = _) rfl
        clear hd
        go_simp
      refine each_cons ?_ ?_
      · intro a W hW hd
        have h53 : a.tmps[53]?.getD undef = .pointer (some ⟨q, 2, none⟩) := slot_eq (hd 53 (by decide))
        have xx : W.cell? ⟨q, 2, none⟩ = some (.int .u64 ((S : Int) + 1)) := (hW.cell (p := ⟨q, 2, none⟩) HQL.out).trans x2
        refine grows_value _ hW (?_ : _ = _) rfl
        clear hd
        go_simp
      refine each_cons ?_ ?_
      · intro a W hW hd
        have h49 : a.tmps[49]?.getD undef = .slice (some ⟨g2, 0, none⟩) n c2 := slot_eq (hd 49 (by decide))
        have h50 : a.tmps[50]?.getD undef = .int .i64 (i : Int) := slot_eq (hd 50 (by decide))
        refine grows_value _ hW (?_ : _ = _) rfl
        clear hd
        go_simp
      exact each_nil
    · refine behind_val rfl ?_
      refine behind_val rfl ?_
      refine behind_val rfl ?_
      refine behind_val rfl ?_
      refine behind_val rfl ?_
      refine behind_val rfl ?_
      refine behind_val rfl ?_
      refine behind_val rfl ?_
      refine behind_val rfl ?_
      refine behind_val rfl ?_
      refine behind_nil fun W8 hCW8 hFW8 => ?_
      simp only [Act.put, List.setIfInBounds_toArray, List.set_cons_succ, List.set_cons_zero, List.drop_succ_cons, List.drop_zero]
      clear hFW8
      have HO8 := Lib.hid (HO6.out.below hCW8)
      have HQ8 : Hid (W8.heap[q]? = some (.cells #[.slice (some ⟨g2, 0, none⟩) n c2, .slice B 0 d, .int .u64 ((S : Int) + 1)] 105 (0, 0))) := Lib.hid ((hCW8.block _ (lt_heap HQ6.out)).trans HQ6.out)
      have HK8 := Lib.hid (HK6.out.step hCW8)
      clear hCW8 HO6 HQ6 HK6 x0 x2
      obtain ⟨_, _, _, hgl, hgc, hgf⟩ := HO8.out.lies (by omega)
      rename_i gg hgg hgb
      injection hgg with hgg
      injection hgg with hgg
      subst hgg
      have z1 := hgc i (by omega)
      have z2 := hgf i
      have HQ9 : Hid ((W8.setCell ⟨g2, i, none⟩ (.int .u64 ((S : Int) + 1))).heap[q]? = some (.cells #[.slice (some ⟨g2, 0, none⟩) n c2, .slice B 0 d, .int .u64 ((S : Int) + 1)] 105 (0, 0))) := Lib.hid (blk_far HQ8.out (p := ⟨g2, i, none⟩) (by have := HG2.out; have := HQL2.out; have := HK42.out; show q ≠ g2; omega) _)
      have HO9 : Hid (OwnC (W8.setCell ⟨g2, i, none⟩ (.int .u64 ((S : Int) + 1))) u4.heap.size 22 1 (some ⟨g2, 0, none⟩) n c2 (updV (fun k => .int .u64 (ha k : Int)) i (.int .u64 ((S : Int) + 1)))) := Lib.hid (HO8.out.set_ i _)
      have HK9 : Hid (Kept (fun k => k = q) u2 (W8.setCell ⟨g2, i, none⟩ (.int .u64 ((S : Int) + 1)))) := Lib.hid (HK8.out.setCell (.inr (by have := HG2.out; have := HK42.out; show u2.heap.size ≤ g2; omega)) _)
      clear hgl hgc hgf hgb HO8 HQ8 HK8
      go_upto_region 9 with fail
      clear z1 z2 i0' i1' i2'
      generalize W8.setCell ⟨g2, i, none⟩ (.int .u64 ((S : Int) + 1)) = u9 at *
      have x2 : u9.cell? ⟨q, 2, none⟩ = some (.int .u64 ((S : Int) + 1)) := blk_cell HQ9.out 2
      have HR9 : Hid (u9.heap[w.heap.size]? = some (.cells #[.int .i64 0, .int .u64 0] 46 (0, 0))) := Lib.hid ((HK9.out.block _ (lt_heap (HM2.out.get 0 rfl)) (fun e => absurd (show w.heap.size = q from e) (by have := HQW.out; omega))).trans (HM2.out.get 0 rfl))
      go_wp2_with (first
        | (refine wpList_store_row rfl 46 (.tmp 2) (.tmp 61) rfl w.heap.size #[.int .i64 (i : Int), .int .u64 ((S : Int) + 1)] rfl rfl 46 #[.int .i64 0, .int .u64 0] HR9.out (by kernel_rfl) rfl (by simp [Value.oneCell']) ?_))
      refine bodyPost_ret (v := .tuple #[.agg #[.int .i64 (i : Int), .int .u64 ((S : Int) + 1)], .int .i64 0]) (results_rowa Try.results70 _ _ w.heap.size 46 #[.int .i64 (i : Int), .int .u64 ((S : Int) + 1)] (0, 0) _ rfl (setRow_heap _ w.heap.size _ #[.int .i64 (i : Int), .int .u64 ((S : Int) + 1)] _ _ HR9.out) Try.underlying46 rfl (by kernel_rfl)) rfl ?_
      have hqw := HQW.out
      have hu2 := lt_heap (HM2.out.get 0 rfl)
      have hk42 := HK42.out
      have hsz : (u9.setRow w.heap.size #[.int .i64 (i : Int), .int .u64 ((S : Int) + 1)]).heap.size = u9.heap.size := by simp
      have kR : Kept (fun k => k = w.heap.size) u9 (u9.setRow w.heap.size #[.int .i64 (i : Int), .int .u64 ((S : Int) + 1)]) := Kept.setRow (R := fun k => k = w.heap.size) (Kept.refl _ u9) (.inl rfl) _
      refine ⟨rfl, ⟨some ⟨g2, 0, none⟩, c2, B, d, ?_⟩, ((Kept.of_below HM2.out.below _).trans HK9.out fun _ _ e => e).setRow (.inr (Nat.le_refl _)) _⟩
      refine ⟨(setRow_other _ w.heap.size q _ (by omega)).trans HQ9.out, .inl HX2.out.mem, fun k h => ?_, ?_, ?_, hcap2, Nat.le_trans hcap29 (by unfold maxLen; omega), ?_, HX2.out.d2⟩
      · rw [hsz] at h ⊢
        rcases h with h | h
        · have := HX2.out.old k h
          have := HK9.out.size
          omega
        · exact h.2
      · refine (((HO9.out.rdg (G := fun k => u4.heap.size ≤ k ∧ k < u9.heap.size) fun k h1 h2 => ⟨h1, h2⟩).keep kR fun k h e => by have e : k = w.heap.size := e; omega).mono fun k h => ⟨.inr (by rw [hsz]; omega), by omega⟩).same fun k hk => ?_
        unfold updV
        by_cases e : k = i
        · rw [if_pos e, if_pos e]
          rfl
        · rw [if_neg e, if_neg e]
      · exact ((HFR.out.keep HK9.out fun k h e => h.2 e).keep kR fun k h e => by have e : k = w.heap.size := e; have := HGW.out k h.1; omega).mono fun k h => ⟨.inl h.1, h.2⟩
      · exact HD1.out
  | succ m1 =>
    rcases HX2.out.free with h0 | ⟨b, off, rfl, hGb, hbl, hcl⟩
    · exact absurd h0 (by omega)
    have x1 : u2.cell? ⟨q, 1, none⟩ = some (.slice (some ⟨b, off, none⟩) (m1 + 1) d) := blk_cell HX2.out.blk 1
    have d1 : m1 + 1 ≤ d := HX2.out.d1
    have d2 := HX2.out.d2
    have zw : IntKind.i64.wrap (m1 : Int) = (m1 : Int) := by rw [IntKind.wrap_i64]; omega
    have zw2 : IntKind.i64.wrap ((m1 : Int) + 1 - 1) = (m1 : Int) := by rw [IntKind.wrap_i64]; omega
    have hsl : ∀ W, (Instr.sliceAt 96 (.slice (some ⟨b, off, none⟩) (m1 + 1) d) none (some (.int .i64 (m1 : Int))) none).run Try.prog W = .ok (.slice (some ⟨b, off, none⟩) m1 d) W := fun W => by
      have i1 : (m1 : Int) ≤ (m1 : Int) + 1 := by omega
      have i3 : (0 : Int) ≤ (m1 : Int) := by omega
      have i4 : (m1 : Int) ≤ (d : Int) := by omega
      have i5 : (m1 : Int) + 1 ≤ (d : Int) := by omega
      have i6 : ((m1 : Int)).toNat = m1 := by omega
      go_simp
    have HA := Lib.hid HX2.out.has
    have HFR : Hid (RdG u2 (GQ G q) (some ⟨b, off, none⟩) m1 (fun k => .int .i64 (fr k : Int))) := Lib.hid (HX2.out.free.less (by omega))
    have HD1 : Hid (m1 ≤ d) := Lib.hid (by have := HX2.out.d1; omega)
    have hcx := HX2.out.c2
    have HCX := Lib.hid hcx
    clear hcx
    go_upto_region 5 with fail
    have HQL := HQL2
    refine wp_region_grow (C := fun W => Below u2.heap.size u2 W) 14 62 [val (.pointer (some ⟨q, 0, none⟩)), val (.pointer (some ⟨q, 0, none⟩)), val (.pointer (some ⟨q, 0, none⟩)), val (.pointer (some ⟨q, 1, none⟩)), val (.slice (some ⟨b, off, none⟩) (m1 + 1) d), val (.pointer (some ⟨q, 0, none⟩)), val (.pointer (some ⟨q, 0, none⟩)), val (.pointer (some ⟨q, 1, none⟩)), val (.slice (some ⟨b, off, none⟩) (m1 + 1) d), val (.int .i64 ((m1 : Int) + 1)), val (.int .i64 (m1 : Int)), val (.slice (some ⟨b, off, none⟩) m1 d), val (.pointer (some ⟨q, 0, none⟩)), val (.pointer (some ⟨q, 1, none⟩))] (by kernel_rfl) rfl (by kernel_rfl) rfl ⟨stb_val _, stb_val _, stb_val _, stb_val _, stb_val _, stb_val _, stb_val _, stb_val _, stb_val _, stb_val _, stb_val _, stb_val _, stb_val _, stb_val _, trivial⟩ (Below.refl _ _).drew ?_ ?_
    · refine each_cons ?_ ?_
      · intro a W hW hd
        have h0 : a.tmps[0]?.getD undef = .pointer (some ⟨q, 0, none⟩) := slot_eq (hd 0 (by decide))
        exact grows_value _ hW (by simp [execOp, Act.eval, h0]) rfl
      refine each_cons ?_ ?_
      · intro a W hW hd
        have h0 : a.tmps[0]?.getD undef = .pointer (some ⟨q, 0, none⟩) := slot_eq (hd 0 (by decide))
        exact grows_value _ hW (by simp [execOp, Act.eval, h0]) rfl
      refine each_cons ?_ ?_
      · intro a W hW hd
        have h17 : a.tmps[17]?.getD undef = .pointer (some ⟨q, 0, none⟩) := slot_eq (hd 17 (by decide))
        refine grows_value _ hW (?_ : _ = _) rfl
        clear hd
        go_simp
      refine each_cons ?_ ?_
      · intro a W hW hd
        have h18 : a.tmps[18]?.getD undef = .pointer (some ⟨q, 0, none⟩) := slot_eq (hd 18 (by decide))
        refine grows_value _ hW (?_ : _ = _) rfl
        clear hd
        go_simp
      refine each_cons ?_ ?_
      · intro a W hW hd
        have h19 : a.tmps[19]?.getD undef = .pointer (some ⟨q, 1, none⟩) := slot_eq (hd 19 (by decide))
        have xx : W.cell? ⟨q, 1, none⟩ = some (.slice (some ⟨b, off, none⟩) (m1 + 1) d) := (hW.cell (p := ⟨q, 1, none⟩) HQL.out).trans x1
        refine grows_value _ hW (?_ : _ = _) rfl
        clear hd
        go_simp
      refine each_cons ?_ ?_
      · intro a W hW hd
        have h0 : a.tmps[0]?.getD undef = .pointer (some ⟨q, 0, none⟩) := slot_eq (hd 0 (by decide))
        exact grows_value _ hW (by simp [execOp, Act.eval, h0]) rfl
      refine each_cons ?_ ?_
      · intro a W hW hd
        have h21 : a.tmps[21]?.getD undef = .pointer (some ⟨q, 0, none⟩) := slot_eq (hd 21 (by decide))
        refine grows_value _ hW (?_ : _ = _) rfl
        clear hd
        go_simp
      refine each_cons ?_ ?_
      · intro a W hW hd
        have h22 : a.tmps[22]?.getD undef = .pointer (some ⟨q, 0, none⟩) := slot_eq (hd 22 (by decide))
        refine grows_value _ hW (?_ : _ = _) rfl
        clear hd
        go_simp
      refine each_cons ?_ ?_
      · intro a W hW hd
        have h23 : a.tmps[23]?.getD undef = .pointer (some ⟨q, 1, none⟩) := slot_eq (hd 23 (by decide))
        have xx : W.cell? ⟨q, 1, none⟩ = some (.slice (some ⟨b, off, none⟩) (m1 + 1) d) := (hW.cell (p := ⟨q, 1, none⟩) HQL.out).trans x1
        refine grows_value _ hW (?_ : _ = _) rfl
        clear hd
        go_simp
      refine each_cons ?_ ?_
      · intro a W hW hd
        have h24 : a.tmps[24]?.getD undef = .slice (some ⟨b, off, none⟩) (m1 + 1) d := slot_eq (hd 24 (by decide))
        refine grows_value _ hW (?_ : _ = _) rfl
        clear hd
        go_simp
      refine each_cons ?_ ?_
      · intro a W hW hd
        have h25 : a.tmps[25]?.getD undef = .int .i64 ((m1 : Int) + 1) := slot_eq (hd 25 (by decide))
        refine grows_value _ hW (?_ : _ = _) rfl
        clear hd
        go_simp
      refine each_cons ?_ ?_
      · intro a W hW hd
        have h20 : a.tmps[20]?.getD undef = .slice (some ⟨b, off, none⟩) (m1 + 1) d := slot_eq (hd 20 (by decide))
        have h26 : a.tmps[26]?.getD undef = .int .i64 (m1 : Int) := slot_eq (hd 26 (by decide))
        refine grows_value _ hW (?_ : _ = _) rfl
        clear hd
        go_simp
      refine each_cons ?_ ?_
      · intro a W hW hd
        have h16 : a.tmps[16]?.getD undef = .pointer (some ⟨q, 0, none⟩) := slot_eq (hd 16 (by decide))
        refine grows_value _ hW (?_ : _ = _) rfl
        clear hd
        go_simp
      refine each_cons ?_ ?_
      · intro a W hW hd
        have h28 : a.tmps[28]?.getD undef = .pointer (some ⟨q, 0, none⟩) := slot_eq (hd 28 (by decide))
        refine grows_value _ hW (?_ : _ = _) rfl
        clear hd
        go_simp
      exact each_nil
    · refine behind_val rfl ?_
      refine behind_val rfl ?_
      refine behind_val rfl ?_
      refine behind_val rfl ?_
      refine behind_val rfl ?_
      refine behind_val rfl ?_
      refine behind_val rfl ?_
      refine behind_val rfl ?_
      refine behind_val rfl ?_
      refine behind_val rfl ?_
      refine behind_val rfl ?_
      refine behind_val rfl ?_
      refine behind_val rfl ?_
      refine behind_val rfl ?_
      refine behind_nil fun W1 hCW1 hFW1 => ?_
      simp only [Act.put, List.setIfInBounds_toArray, List.set_cons_succ, List.set_cons_zero, List.drop_succ_cons, List.drop_zero]
      clear hFW1
      have HQ2 : Hid (W1.heap[q]? = some (.cells #[.slice A n c, .slice (some ⟨b, off, none⟩) (m1 + 1) d, .int .u64 (S : Int)] 105 (0, 0))) := Lib.hid ((hCW1.block _ (lt_heap HX2.out.blk)).trans HX2.out.blk)
      have HK2 := Lib.hid ((Kept.refl (fun k => k = q) u2).step hCW1)
      have y1 : W1.cell? ⟨q, 1, none⟩ = some (.slice (some ⟨b, off, none⟩) (m1 + 1) d) := blk_cell HQ2.out 1
      have z1 := blk_free HQ2.out 1
      have HQ3 : Hid ((W1.setCell ⟨q, 1, none⟩ (.slice (some ⟨b, off, none⟩) m1 d)).heap[q]? = some (.cells #[.slice A n c, .slice (some ⟨b, off, none⟩) m1 d, .int .u64 (S : Int)] 105 (0, 0))) := Lib.hid (blk_set HQ2.out 1 _)
      have HK3 := Lib.hid (HK2.out.setCell (p := ⟨q, 1, none⟩) (.inl rfl) (.slice (some ⟨b, off, none⟩) m1 d))
      go_upto_region 6 with fail
      clear y1 z1 hCW1 HQ2 HK2 x1 HQL zw zw2 hsl hcl
      generalize W1.setCell ⟨q, 1, none⟩ (.slice (some ⟨b, off, none⟩) m1 d) = u3 at *
      have x2 : u3.cell? ⟨q, 2, none⟩ = some (.int .u64 (S : Int)) := blk_cell HQ3.out 2
      have y2 := blk_free HQ3.out 2
      go_upto_region 7 with fail
      have HQ4 : Hid ((u3.setCell ⟨q, 2, none⟩ (.int .u64 ((S : Int) + 1))).heap[q]? = some (.cells #[.slice A n c, .slice (some ⟨b, off, none⟩) m1 d, .int .u64 ((S : Int) + 1)] 105 (0, 0))) := Lib.hid (blk_set HQ3.out 2 _)
      have HK4 : Hid (Kept (fun k => k = q) u2 (u3.setCell ⟨q, 2, none⟩ (.int .u64 ((S : Int) + 1)))) := Lib.hid (HK3.out.setCell (.inl rfl) _)
      have HK42 := Lib.hid HK4.out.size
      clear x2 y2 HQ3 HK3
      generalize u3.setCell ⟨q, 2, none⟩ (.int .u64 ((S : Int) + 1)) = u4 at *
      have x0 : u4.cell? ⟨q, 0, none⟩ = some (.slice A n c) := blk_cell HQ4.out 0
      have x0n : (u4.alloc (.cells #[] 22)).cell? ⟨q, 0, none⟩ = some (.slice A n c) := blk_cell (blk_old HQ4.out _) 0
      have HO4 : Hid (OwnC (u4.alloc (.cells #[] 22)) u4.heap.size 22 1 (some ⟨u4.heap.size, 0, none⟩) 0 0 (fun _ => .int .u64 0)) := OwnC.fresh u4 _ _ rfl (Nat.le_refl _) _ _ _
      have HA4 : Hid (RdG (u4.alloc (.cells #[] 22)) (GQ G q) A n (fun k => .int .u64 (ha k : Int))) := Lib.hid (HA.out.keep (HK4.out.alloc _) fun k h e => h.2 e)
      have hA4 : RdC (u4.alloc (.cells #[] 22)) (u4.alloc (.cells #[] 22)).heap.size A (n * 1) (fun k => .int .u64 (ha k : Int)) := by
        rw [Nat.mul_one]
        exact HA4.out.rdc
      have HA4c := Lib.hid hA4
      clear hA4 HA4
      go_upto_region 8 with (first
        | (at_builtin
           refine wpList_append_vals rfl (.tmp 38) (.tmp 42) 103 rfl u4.heap.size 22 i0 (.int .u64 0) 1 Try.underlying103 HI0.out HZ0.out HZ1.out rfl (by decide) rfl HO4.out rfl HA4c.out (fun _ _ => rfl) (by unfold maxLen; omega) (by rw [HZ2.out]; omega) (alloc_le u4 _) ?_
           intro A2 c2 u5 hown5 hg5 _
           have HO5 : Hid (OwnC u5 u4.heap.size 22 1 A2 n c2 (fun k => .int .u64 (ha k : Int))) := Lib.hid (by
             rw [Nat.zero_add] at hown5
             exact hown5.same fun k _ => by unfold catV; rw [if_neg (by omega)]; rfl)
           have HB5 : Hid (Below u4.heap.size u4 u5) := Lib.hid ((below_alloc u4 _).grown hg5 (alloc_le u4 _) fun k hk => HO4.out.at_ k hk)
           rw [Nat.zero_add]
           have x05 : u5.cell? ⟨q, 0, none⟩ = some (.slice A n c) := blk_cell ((HB5.out.block _ (lt_heap HQ4.out)).trans HQ4.out) 0
           have y05 := blk_free ((HB5.out.block _ (lt_heap HQ4.out)).trans HQ4.out) 0
           clear hown5 hg5))
      obtain ⟨g2, hg2, hgb, hgl, hgc, hgf⟩ := HO5.out.lies (by omega)
      subst hg2
      have HG2 : Hid (u4.heap.size ≤ g2) := hgb
      have hcap2 := HO5.out.cap
      have hcap29 := HO5.out.cap_le
      have hne : ∀ g, (some (⟨g2, 0, none⟩ : Addr)) = some ⟨g, 0, none⟩ → g ≠ q := fun g h => by
        injection h with h
        injection h with h
        have := lt_heap HQ4.out
        omega
      have HO6 : Hid (OwnC (u5.setCell ⟨q, 0, none⟩ (.slice (some ⟨g2, 0, none⟩) n c2)) u4.heap.size 22 1 (some ⟨g2, 0, none⟩) n c2 (fun k => .int .u64 (ha k : Int))) := Lib.hid (HO5.out.beside q hne (fun k hk => Below.heap_setCell u5 ⟨q, 0, none⟩ _ k hk))
      have HQ6 : Hid ((u5.setCell ⟨q, 0, none⟩ (.slice (some ⟨g2, 0, none⟩) n c2)).heap[q]? = some (.cells #[.slice (some ⟨g2, 0, none⟩) n c2, .slice (some ⟨b, off, none⟩) m1 d, .int .u64 ((S : Int) + 1)] 105 (0, 0))) := Lib.hid (blk_set ((HB5.out.block _ (lt_heap HQ4.out)).trans HQ4.out) 0 _)
      have HK6 : Hid (Kept (fun k => k = q) u2 (u5.setCell ⟨q, 0, none⟩ (.slice (some ⟨g2, 0, none⟩) n c2))) := Lib.hid ((HK4.out.step HB5.out).setCell (.inl rfl) _)
      clear hgb hgl hgc hgf hne x05 y05 x0 x0n HO4 HA4c HQ4 HK4 HB5 HO5
      generalize u5.setCell ⟨q, 0, none⟩ (.slice (some ⟨g2, 0, none⟩) n c2) = u6 at *
      have HQL : Hid (q < u6.heap.size) := Lib.hid (lt_heap HQ6.out)
      have x0 : u6.cell? ⟨q, 0, none⟩ = some (.slice (some ⟨g2, 0, none⟩) n c2) := blk_cell HQ6.out 0
      have x2 : u6.cell? ⟨q, 2, none⟩ = some (.int .u64 ((S : Int) + 1)) := blk_cell HQ6.out 2
      have i0' : (0 : Int) ≤ (i : Int) := by omega
      have i1' : (i : Int) < (n : Int) := by omega
      have i2' : ((i : Int)).toNat = i := by omega
      refine wp_region_grow (C := fun W => Below u6.heap.size u6 W) 10 62 [val (.pointer (some ⟨q, 0, none⟩)), val (.pointer (some ⟨q, 0, none⟩)), val (.pointer (some ⟨q, 0, none⟩)), val (.slice (some ⟨g2, 0, none⟩) n c2), val (.int .i64 (i : Int)), val (.pointer (some ⟨q, 0, none⟩)), val (.pointer (some ⟨q, 0, none⟩)), val (.pointer (some ⟨q, 2, none⟩)), val (.int .u64 ((S : Int) + 1)), val (.pointer (some ⟨g2, i, none⟩))] (by kernel_rfl) rfl (by kernel_rfl) rfl ⟨stb_val _, stb_val _, stb_val _, stb_val _, stb_val _, stb_val _, stb_val _, stb_val _, stb_val _, stb_val _, trivial⟩ (Below.refl _ _).drew ?_ ?_
      · refine each_cons ?_ ?_
        · intro a W hW hd
          have h0 : a.tmps[0]?.getD undef = .pointer (some ⟨q, 0, none⟩) := slot_eq (hd 0 (by decide))
          exact grows_value _ hW (by simp [execOp, Act.eval, h0]) rfl
        refine each_cons ?_ ?_
        · intro a W hW hd
          have h46 : a.tmps[46]?.getD undef = .pointer (some ⟨q, 0, none⟩) := slot_eq (hd 46 (by decide))
          refine grows_value _ hW (?_ : _ = _) rfl
          clear hd
          go_simp
        refine each_cons ?_ ?_
        · intro a W hW hd
          have h47 : a.tmps[47]?.getD undef = .pointer (some ⟨q, 0, none⟩) := slot_eq (hd 47 (by decide))
          refine grows_value _ hW (?_ : _ = _) rfl
          clear hd
          go_simp
        refine each_cons ?_ ?_
        · intro a W hW hd
          have h48 : a.tmps[48]?.getD undef = .pointer (some ⟨q, 0, none⟩) := slot_eq (hd 48 (by decide))
          have xx : W.cell? ⟨q, 0, none⟩ = some (.slice (some ⟨g2, 0, none⟩) n c2) := (hW.cell (p := ⟨q, 0, none⟩) HQL.out).trans x0
          refine grows_value _ hW (?_ : _ = _) rfl
          clear hd
          go_simp
        refine each_cons ?_ ?_
        · intro a W hW hd
          have h4 : a.tmps[4]?.getD undef = .int .i64 (i : Int) := slot_eq (hd 4 (by decide))
          exact grows_value _ hW (by simp [execOp, Act.eval, h4]) rfl
        refine each_cons ?_ ?_
        · intro a W hW hd
          have h0 : a.tmps[0]?.getD undef = .pointer (some ⟨q, 0, none⟩) := slot_eq (hd 0 (by decide))
          exact grows_value _ hW (by simp [execOp, Act.eval, h0]) rfl
        refine each_cons ?_ ?_
        · intro a W hW hd
          have h51 : a.tmps[51]?.getD undef = .pointer (some ⟨q, 0, none⟩) := slot_eq (hd 51 (by decide))
          refine grows_value _ hW (?_ : _ = _) rfl
          clear hd
          go_simp
        refine each_cons ?_ ?_
        · intro a W hW hd
          have h52 : a.tmps[52]?.getD undef = .pointer (some ⟨q, 0, none⟩) := slot_eq (hd 52 (by decide))
          refine grows_value _ hW (?_ : _ = _) rfl
          clear hd
          go_simp
        refine each_cons ?_ ?_
        · intro a W hW hd
          have h53 : a.tmps[53]?.getD undef = .pointer (some ⟨q, 2, none⟩) := slot_eq (hd 53 (by decide))
          have xx : W.cell? ⟨q, 2, none⟩ = some (.int .u64 ((S : Int) + 1)) := (hW.cell (p := ⟨q, 2, none⟩) HQL.out).trans x2
          refine grows_value _ hW (?_ : _ = _) rfl
          clear hd
          go_simp
        refine each_cons ?_ ?_
        · intro a W hW hd
          have h49 : a.tmps[49]?.getD undef = .slice (some ⟨g2, 0, none⟩) n c2 := slot_eq (hd 49 (by decide))
          have h50 : a.tmps[50]?.getD undef = .int .i64 (i : Int) := slot_eq (hd 50 (by decide))
          refine grows_value _ hW (?_ : _ = _) rfl
          clear hd
          go_simp
        exact each_nil
      · refine behind_val rfl ?_
        refine behind_val rfl ?_
        refine behind_val rfl ?_
        refine behind_val rfl ?_
        refine behind_val rfl ?_
        refine behind_val rfl ?_
        refine behind_val rfl ?_
        refine behind_val rfl ?_
        refine behind_val rfl ?_
        refine behind_val rfl ?_
        refine behind_nil fun W8 hCW8 hFW8 => ?_
        simp only [Act.put, List.setIfInBounds_toArray, List.set_cons_succ, List.set_cons_zero, List.drop_succ_cons, List.drop_zero]
        clear hFW8
        have HO8 := Lib.hid (HO6.out.below hCW8)
        have HQ8 : Hid (W8.heap[q]? = some (.cells #[.slice (some ⟨g2, 0, none⟩) n c2, .slice (some ⟨b, off, none⟩) m1 d, .int .u64 ((S : Int) + 1)] 105 (0, 0))) := Lib.hid ((hCW8.block _ (lt_heap HQ6.out)).trans HQ6.out)
        have HK8 := Lib.hid (HK6.out.step hCW8)
        clear hCW8 HO6 HQ6 HK6 x0 x2
        obtain ⟨_, _, _, hgl, hgc, hgf⟩ := HO8.out.lies (by omega)
        rename_i gg hgg hgb
        injection hgg with hgg
        injection hgg with hgg
        subst hgg
        have z1 := hgc i (by omega)
        have z2 := hgf i
        have HQ9 : Hid ((W8.setCell ⟨g2, i, none⟩ (.int .u64 ((S : Int) + 1))).heap[q]? = some (.cells #[.slice (some ⟨g2, 0, none⟩) n c2, .slice (some ⟨b, off, none⟩) m1 d, .int .u64 ((S : Int) + 1)] 105 (0, 0))) := Lib.hid (blk_far HQ8.out (p := ⟨g2, i, none⟩) (by have := HG2.out; have := HQL2.out; have := HK42.out; show q ≠ g2; omega) _)
        have HO9 : Hid (OwnC (W8.setCell ⟨g2, i, none⟩ (.int .u64 ((S : Int) + 1))) u4.heap.size 22 1 (some ⟨g2, 0, none⟩) n c2 (updV (fun k => .int .u64 (ha k : Int)) i (.int .u64 ((S : Int) + 1)))) := Lib.hid (HO8.out.set_ i _)
        have HK9 : Hid (Kept (fun k => k = q) u2 (W8.setCell ⟨g2, i, none⟩ (.int .u64 ((S : Int) + 1)))) := Lib.hid (HK8.out.setCell (.inr (by have := HG2.out; have := HK42.out; show u2.heap.size ≤ g2; omega)) _)
        clear hgl hgc hgf hgb HO8 HQ8 HK8
        go_upto_region 9 with fail
        clear z1 z2 i0' i1' i2'
        generalize W8.setCell ⟨g2, i, none⟩ (.int .u64 ((S : Int) + 1)) = u9 at *
        have x2 : u9.cell? ⟨q, 2, none⟩ = some (.int .u64 ((S : Int) + 1)) := blk_cell HQ9.out 2
        have HR9 : Hid (u9.heap[w.heap.size]? = some (.cells #[.int .i64 0, .int .u64 0] 46 (0, 0))) := Lib.hid ((HK9.out.block _ (lt_heap (HM2.out.get 0 rfl)) (fun e => absurd (show w.heap.size = q from e) (by have := HQW.out; omega))).trans (HM2.out.get 0 rfl))
        go_wp2_with (first
          | (refine wpList_store_row rfl 46 (.tmp 2) (.tmp 61) rfl w.heap.size #[.int .i64 (i : Int), .int .u64 ((S : Int) + 1)] rfl rfl 46 #[.int .i64 0, .int .u64 0] HR9.out (by kernel_rfl) rfl (by simp [Value.oneCell']) ?_))
        refine bodyPost_ret (v := .tuple #[.agg #[.int .i64 (i : Int), .int .u64 ((S : Int) + 1)], .int .i64 0]) (results_rowa Try.results70 _ _ w.heap.size 46 #[.int .i64 (i : Int), .int .u64 ((S : Int) + 1)] (0, 0) _ rfl (setRow_heap _ w.heap.size _ #[.int .i64 (i : Int), .int .u64 ((S : Int) + 1)] _ _ HR9.out) Try.underlying46 rfl (by kernel_rfl)) rfl ?_
        have hqw := HQW.out
        have hu2 := lt_heap (HM2.out.get 0 rfl)
        have hk42 := HK42.out
        have hsz : (u9.setRow w.heap.size #[.int .i64 (i : Int), .int .u64 ((S : Int) + 1)]).heap.size = u9.heap.size := by simp
        have kR : Kept (fun k => k = w.heap.size) u9 (u9.setRow w.heap.size #[.int .i64 (i : Int), .int .u64 ((S : Int) + 1)]) := Kept.setRow (R := fun k => k = w.heap.size) (Kept.refl _ u9) (.inl rfl) _
        refine ⟨rfl, ⟨some ⟨g2, 0, none⟩, c2, (some ⟨b, off, none⟩), d, ?_⟩, ((Kept.of_below HM2.out.below _).trans HK9.out fun _ _ e => e).setRow (.inr (Nat.le_refl _)) _⟩
        refine ⟨(setRow_other _ w.heap.size q _ (by omega)).trans HQ9.out, .inl HX2.out.mem, fun k h => ?_, ?_, ?_, hcap2, Nat.le_trans hcap29 (by unfold maxLen; omega), ?_, HX2.out.d2⟩
        · rw [hsz] at h ⊢
          rcases h with h | h
          · have := HX2.out.old k h
            have := HK9.out.size
            omega
          · exact h.2
        · refine (((HO9.out.rdg (G := fun k => u4.heap.size ≤ k ∧ k < u9.heap.size) fun k h1 h2 => ⟨h1, h2⟩).keep kR fun k h e => by have e : k = w.heap.size := e; omega).mono fun k h => ⟨.inr (by rw [hsz]; omega), by omega⟩).same fun k hk => ?_
          unfold updV
          by_cases e : k = i
          · rw [if_pos e, if_pos e]
            rfl
          · rw [if_neg e, if_neg e]
        · exact ((HFR.out.keep HK9.out fun k h e => h.2 e).keep kR fun k h e => by have e : k = w.heap.size := e; have := HGW.out k h.1; omega).mono fun k h => ⟨.inl h.1, h.2⟩
        · exact HD1.out
theorem RX.fr {w : World} {q : Nat} {A : Option Addr} {n c : Nat} {B : Option Addr} {m d S : Nat} {ha fr fr' : Nat → Nat} {G : Nat → Prop} (h : RX w q A n c B m d S ha fr G) (hf : ∀ k, k < m → fr' k = fr k) : RX w q A n c B m d S ha fr' G :=
  ⟨h.blk, h.mem, h.old, h.has, h.free.same fun k hk => by rw [hf k hk], h.c1, h.c2, h.d1, h.d2⟩
/-- What Take does. -/
def RTk (w : World) (q : Nat) (s : Ar) (G : Nat → Prop) (e : Ending) (w' : World) : Prop :=
  (s.which = none ∧ e = .returned (.tuple #[.agg #[.int .i64 0, .int .u64 0], .int .i64 9]) ∧ Below w.heap.size w w') ∨
  (∃ i, s.which = some i ∧ e = .returned (.tuple #[.agg #[.int .i64 (i : Int), .int .u64 ((s.serial : Int) + 1)], .int .i64 0]) ∧ RA w' q (s.taken i) (fun k => G k ∨ w.heap.size ≤ k ∧ k < w'.heap.size) ∧ Kept (fun k => k = q) w w')
theorem rtake_any {w : World} {q : Nat} {s : Ar} {G : Nat → Prop} (hs : s.Ok) (h : RA w q s G) (hn : s.has.length ≤ 65536) (hS : s.serial ≤ 4611686018427387904) : Calls Try.prog 70 #[.pointer (some ⟨q, 0, none⟩)] w (RTk w q s G) := by
  obtain ⟨A, c, B, d, hx⟩ := h
  cases hw : s.which with
  | none =>
    refine (rtakeX_no _ _ _ _ _ _ _ _ _ _ _ w hx fun W hx => ?_).mono ?_
    · refine (rwhich_any (s := s) ⟨A, c, B, d, hx⟩ hn).mono ?_
      rintro e w' ⟨rfl, hb⟩
      exact ⟨by unfold Ar.whichI; rw [hw], hb⟩
    · rintro e w' ⟨he, hb⟩
      exact .inl ⟨hw, he, hb⟩
  | some i =>
    refine (rtakeX_any _ _ _ _ _ _ _ _ _ _ _ hn hS i (Ar.which_lt hs hw) w hx fun W hx => ?_).mono ?_
    · refine (rwhich_any (s := s) ⟨A, c, B, d, hx⟩ hn).mono ?_
      rintro e w' ⟨rfl, hb⟩
      exact ⟨by unfold Ar.whichI; rw [hw], hb⟩
    · rintro e w' ⟨he, ⟨A2, c2, B2, d2, hx2⟩, hk⟩
      refine .inr ⟨i, hw, he, ⟨A2, c2, B2, d2, ?_⟩, hk⟩
      have e1 : (s.taken i).has.length = s.has.length := List.length_set
      have e2 : (s.taken i).freed.length = s.freed.length - 1 := List.length_dropLast
      have e3 : (s.taken i).at_ = fun j => if j = i then s.serial + 1 else s.at_ j := funext fun j => Ar.at_taken hs hw j
      rw [e1, e2, e3]
      refine hx2.fr fun k hk => ?_
      show s.freed.dropLast.getD k 0 = s.freed.getD k 0
      rw [List.getD_eq_getElem?_getD, List.getD_eq_getElem?_getD, List.getElem?_dropLast, if_pos hk]
end Go.Proofs.Ytkmakdhlaenaoaa
/- A region that draws its order, by what holds whatever has come up so far. Over any program. -/
namespace Go.Proofs.Ytkmakdhlaenaoaa
open Go.RowKit
section
variable {P : Program} {ops : Array Oper} {Q : Exit → Act → World → Prop}
theorem rdy_spec {listed : Array Bool} {i : Nat} (h : i ∈ Region.ready .any ops listed) : i < ops.size ∧ listed.getD i true = false ∧ ∀ o, ops[i]? = some o → ∀ e, e ∈ o.after → Region.binds .any e = true → listed.getD e.on false = true := by
  unfold Region.ready at h
  rw [List.mem_filter] at h
  obtain ⟨h1, h2⟩ := h
  rw [Bool.and_eq_true] at h2
  refine ⟨List.mem_range.1 h1, by simpa using h2.1, fun o ho e he hb => ?_⟩
  have h3 := h2.2
  rw [ho] at h3
  simp only [Option.map_some, Option.getD_some, Array.all_eq_true'] at h3
  have q := h3 e he
  simpa [hb] using q
theorem all_come {l : Array Bool} (hord : ∀ (i : Nat) (o : Oper), ops[i]? = some o → ∀ e, e ∈ o.after → Region.binds .any e = true → e.on < i) (hl : l.size = ops.size) (h : Region.ready .any ops l = []) : ∀ i, i < ops.size → l.getD i false = true := by
  intro i
  induction i using Nat.strongRecOn with
  | ind i ih =>
    intro hi
    cases hc : l.getD i false with
    | true => rfl
    | false =>
      exfalso
      have hm : i ∈ Region.ready .any ops l := by
        unfold Region.ready
        rw [List.mem_filter]
        refine ⟨List.mem_range.2 hi, ?_⟩
        have ht : l.getD i true = false := by
          rw [Array.getD_eq_getD_getElem?] at hc ⊢
          rw [Array.getElem?_eq_getElem (by omega)] at hc ⊢
          exact hc
        have ho : ops[i]? = some ops[i] := Array.getElem?_eq_getElem hi
        rw [ht, ho]
        simp only [Option.map_some, Option.getD_some, Bool.not_false, Bool.true_and, Array.all_eq_true']
        intro e he
        cases hbe : Region.binds .any e with
        | false => rfl
        | true =>
          have hlt := hord i _ ho e he hbe
          rw [ih e.on hlt (by omega)]
          rfl
      rw [h] at hm
      cases hm
def unl (l : Array Bool) : Nat := l.toList.countP (fun b => !b)
theorem unl_set {l : Array Bool} {i : Nat} (h : l.getD i true = false) : unl (l.setIfInBounds i true) + 1 = unl l := by
  have hi : i < l.toList.length := by
    rcases Nat.lt_or_ge i l.size with q | q
    · simpa using q
    · rw [Array.getD_eq_getD_getElem?, Array.getElem?_eq_none q] at h; cases h
  have hv : l.toList[i] = false := by
    rw [Array.getD_eq_getD_getElem?, Array.getElem?_eq_getElem (by simpa using hi)] at h
    simpa using h
  unfold unl
  rw [Array.toList_setIfInBounds, List.countP_set hi, hv]
  have hp : 0 < l.toList.countP (fun b => !b) := List.countP_pos_iff.2 ⟨_, List.getElem_mem hi, by rw [hv]; rfl⟩
  simp only [Bool.not_false, Bool.not_true, if_true, Bool.false_eq_true, if_false]
  omega
theorem unl_none {l : Array Bool} {i : Nat} (h : l.getD i true = false) : unl l ≠ 0 := by
  have := unl_set h
  omega
theorem wpAny_inv (I : Array Bool → Act → World → Prop) (hI : ∀ l a w, I l a w → l.size = ops.size) (hord : ∀ (i : Nat) (o : Oper), ops[i]? = some o → ∀ e, e ∈ o.after → Region.binds .any e = true → e.on < i) (hg : ∀ (i : Nat) (o : Oper), ops[i]? = some o → o.guard = none)
    (hstep : ∀ l a w i o, I l a w → ops[i]? = some o → l.getD i true = false → (∀ e, e ∈ o.after → Region.binds .any e = true → l.getD e.on false = true) → o.wp P a w (fun a' w' => I (l.setIfInBounds i true) a' w') Q)
    (hend : ∀ l a w, I l a w → (∀ i, i < ops.size → l.getD i false = true) → Q .normal a w) :
    ∀ fuel l a w, I l a w → unl l ≤ fuel → wpAny P .any ops Q fuel l a w
  | 0, l, a, w, h, hf => by
    have hr : Region.ready .any ops l = [] := by
      cases hc : Region.ready .any ops l with
      | nil => rfl
      | cons i r =>
        have hm : i ∈ Region.ready .any ops l := by rw [hc]; exact .head _
        exact absurd (Nat.le_zero.1 hf) (unl_none (rdy_spec hm).2.1)
    exact ⟨hr, hend l a w h (all_come hord (hI l a w h) hr)⟩
  | fuel + 1, l, a, w, h, hf => by
    refine ⟨fun hr => hend l a w h (all_come hord (hI l a w h) hr), fun i hi => ?_⟩
    obtain ⟨h1, h2, h3⟩ := rdy_spec hi
    have ho : ops[i]? = some ops[i] := Array.getElem?_eq_getElem h1
    have hs := hstep l a w i _ h ho h2 (h3 _ ho)
    unfold wpOp
    rw [ho]
    show if Region.wanted ops[i] (yielded ops a.tmps) = true then _ else _
    rw [if_pos (by unfold Region.wanted; rw [hg i _ ho])]
    refine .inl (Oper.wp_mono (fun a' w' h' => ?_) hs)
    exact wpAny_inv I hI hord hg hstep hend fuel _ a' w' h' (by have := unl_set h2; omega)
def ordB (ops : Array Oper) : Bool := (List.range ops.size).all fun i => match ops[i]? with | some o => o.after.all (fun e => !Region.binds .any e || decide (e.on < i)) && o.guard.isNone | none => true
theorem ordB_spec (h : ordB ops = true) : (∀ (i : Nat) (o : Oper), ops[i]? = some o → ∀ e, e ∈ o.after → Region.binds .any e = true → e.on < i) ∧ ∀ (i : Nat) (o : Oper), ops[i]? = some o → o.guard = none := by
  have q : ∀ (i : Nat) (o : Oper), ops[i]? = some o → (o.after.all (fun e => !Region.binds .any e || decide (e.on < i)) && o.guard.isNone) = true := fun i o ho => by
    have hi : i < ops.size := (Array.getElem?_eq_some_iff.1 ho).1
    unfold ordB at h
    have r := List.all_eq_true.1 h i (List.mem_range.2 hi)
    rw [ho] at r
    exact r
  refine ⟨fun i o ho e he hbe => ?_, fun i o ho => ?_⟩
  · have r := (Bool.and_eq_true _ _ ▸ q i o ho : _ ∧ _).1
    have r2 := Array.all_eq_true'.1 r e he
    rw [hbe] at r2
    exact of_decide_eq_true (by simpa using r2)
  · have r := (Bool.and_eq_true _ _ ▸ q i o ho : _ ∧ _).2
    simpa using r
theorem wp_region_inv {id : Nat} {a : Act} {w : World} (I : Array Bool → Act → World → Prop) (hm : P.follows .mixedOrders = true) (hI : ∀ l a w, I l a w → l.size = ops.size)
    (hB : ordB ops = true) (h0 : I (Array.replicate ops.size false) a w.drew)
    (hstep : ∀ l a w i o, I l a w → ops[i]? = some o → l.getD i true = false → (∀ e, e ∈ o.after → Region.binds .any e = true → l.getD e.on false = true) → o.wp P a w (fun a' w' => I (l.setIfInBounds i true) a' w') Q)
    (hend : ∀ l a w, I l a w → (∀ i, i < ops.size → l.getD i false = true) → Q .normal a w) : (Code.region id ops true).wp P Q a w :=
  wp_region_any hm (wpAny_inv I hI (ordB_spec hB).1 (ordB_spec hB).2 hstep hend ops.size _ _ _ h0 (by
    unfold unl
    have := List.countP_le_length (p := fun b => !b) (l := (Array.replicate ops.size false).toList)
    simpa using this))
/-- .. where what holds speaks of the frame ahead. -/
theorem wp_region_inv2 {id : Nat} {a : Act} {w : World} (I : Act → Array Bool → Act → World → Prop) (hm : P.follows .mixedOrders = true) (hI : ∀ l a' w, I a l a' w → l.size = ops.size)
    (hB : ordB ops = true) (h0 : I a (Array.replicate ops.size false) a w.drew)
    (hstep : ∀ l a' w i o, I a l a' w → ops[i]? = some o → l.getD i true = false → (∀ e, e ∈ o.after → Region.binds .any e = true → l.getD e.on false = true) → o.wp P a' w (fun a'' w' => I a (l.setIfInBounds i true) a'' w') Q)
    (hend : ∀ l a' w, I a l a' w → (∀ i, i < ops.size → l.getD i false = true) → Q .normal a' w) : (Code.region id ops true).wp P Q a w :=
  wp_region_inv (I a) hm hI hB h0 hstep hend
/-- The slots that have come up. -/
def FrI (BL : List (Nat × Nat × Value)) (n : Nat) (l : Array Bool) (a : Act) : Prop := a.tmps.size = n ∧ a.defers = [] ∧ ∀ x, x ∈ BL → l.getD x.1 false = true → a.tmps.getD x.2.1 undef = x.2.2
theorem getD_set {l : Array Bool} {i j : Nat} (h : j ≠ i) (d : Bool) : (l.setIfInBounds i true).getD j d = l.getD j d := by
  rw [Array.getD_eq_getD_getElem?, Array.getD_eq_getD_getElem?, Array.getElem?_setIfInBounds_ne (fun e => h e.symm)]
theorem getD_set_self {l : Array Bool} {i : Nat} (h : l.getD i true = false) : (l.setIfInBounds i true).getD i false = true := by
  have hi : i < l.size := by
    rcases Nat.lt_or_ge i l.size with q | q
    · exact q
    · rw [Array.getD_eq_getD_getElem?, Array.getElem?_eq_none q] at h; cases h
  rw [Array.getD_eq_getD_getElem?, Array.getElem?_setIfInBounds_self_of_lt hi]
  rfl
theorem FrI.put {BL : List (Nat × Nat × Value)} {n : Nat} {l : Array Bool} {a : Act} (h : FrI BL n l a) (i s : Nat) (v : Value) (hs : s < n) (hU : ∀ x, x ∈ BL → (x.1 = i ∧ x.2.1 = s ∧ x.2.2 = v) ∨ (x.1 ≠ i ∧ x.2.1 ≠ s)) : FrI BL n (l.setIfInBounds i true) (a.put (some s) v) := by
  obtain ⟨h1, h2, h3⟩ := h
  refine ⟨by simp [Act.put, h1], h2, fun x hx hl => ?_⟩
  rcases hU x hx with ⟨e1, e2, e3⟩ | ⟨e1, e2⟩
  · rw [e2, e3]
    show (a.tmps.setIfInBounds s v).getD s undef = v
    rw [Array.getD_eq_getD_getElem?, Array.getElem?_setIfInBounds_self_of_lt (by omega)]
    rfl
  · rw [getD_set e1] at hl
    show (a.tmps.setIfInBounds s v).getD x.2.1 undef = x.2.2
    rw [Array.getD_eq_getD_getElem?, Array.getElem?_setIfInBounds_ne (fun e => e2 e.symm), ← Array.getD_eq_getD_getElem?]
    exact h3 x hx hl
theorem FrI.skip {BL : List (Nat × Nat × Value)} {n : Nat} {l : Array Bool} {a : Act} (h : FrI BL n l a) (i : Nat) (hU : ∀ x, x ∈ BL → x.1 ≠ i) : FrI BL n (l.setIfInBounds i true) a :=
  ⟨h.1, h.2.1, fun x hx hl => h.2.2 x hx (by rw [getD_set (hU x hx)] at hl; exact hl)⟩
theorem owp_value {o : Oper} {a : Act} {w w' : World} {K : Act → World → Prop} (v : Value) (h : (execOp a.eval o).run P w = .ok (.value v) w') (hK : K (a.put o.dst v) w') : o.wp P a w K Q := by
  unfold Oper.wp
  rw [h]
  exact hK
theorem owp_skip {o : Oper} {a : Act} {w w' : World} {K : Act → World → Prop} (h : (execOp a.eval o).run P w = .ok .skip w') (hK : K (a.put o.dst undef) w') : o.wp P a w K Q := by
  unfold Oper.wp
  rw [h]
  exact hK
theorem FrI.slot {BL : List (Nat × Nat × Value)} {n : Nat} {l : Array Bool} {a : Act} (h : FrI BL n l a) {i s : Nat} {v : Value} (hx : (i, s, v) ∈ BL) (hl : l.getD i false = true) : a.tmps[s]?.getD undef = v := by
  have q := h.2.2 _ hx hl
  rw [Array.getD_eq_getD_getElem?] at q
  exact q
theorem frame_eq {t : Array Value} {vs : Array Value} (hs : t.size = vs.size) (h : ∀ s, s < vs.size → t[s]?.getD undef = vs[s]?.getD undef) : t = vs := by
  apply Array.ext hs
  intro i h1 h2
  have q := h i h2
  rw [Array.getElem?_eq_getElem h1, Array.getElem?_eq_getElem h2] at q
  exact q
theorem owp_call {o : Oper} {a : Act} {w : World} {K : Act → World → Prop} {fn : FuncId} {args : Array Value} (h : (execOp a.eval o).run P w = .ok (.enter fn args) w) (hc : Calls P fn args w fun e w' => ∃ v, e = .returned v ∧ K (a.put o.dst v) w') : o.wp P a w K Q := by
  unfold Oper.wp
  rw [h]
  show Calls P fn args w _
  refine hc.mono ?_
  rintro e w' ⟨v, rfl, h1⟩
  exact h1
/-- The slots that have come up; all others are as ahead. -/
def FrU (a0 : Act) (BL : List (Nat × Nat × Value)) (l : Array Bool) (a : Act) : Prop :=
  a.tmps.size = a0.tmps.size ∧ a.defers = a0.defers ∧ (∀ x, x ∈ BL → l.getD x.1 false = true → a.tmps[x.2.1]?.getD undef = x.2.2) ∧ ∀ s, (∀ x, x ∈ BL → x.2.1 ≠ s) → a.tmps[s]? = a0.tmps[s]?
theorem getD_none (n i : Nat) : (Array.replicate n false).getD i false = false := by
  rw [Array.getD_eq_getD_getElem?, Array.getElem?_replicate]
  split <;> rfl
theorem FrU.start (a0 : Act) (BL : List (Nat × Nat × Value)) (n : Nat) : FrU a0 BL (Array.replicate n false) a0 :=
  ⟨rfl, rfl, fun x _ h => (by rw [getD_none] at h; cases h), fun _ _ => rfl⟩
theorem FrU.put {a0 a : Act} {BL BL' : List (Nat × Nat × Value)} {l : Array Bool} (h : FrU a0 BL l a) (i s : Nat) (v : Value) (hs : s < a0.tmps.size) (hin : ∃ x, x ∈ BL' ∧ x.2.1 = s)
    (hU : ∀ x, x ∈ BL' → (x.1 = i ∧ x.2.1 = s ∧ x.2.2 = v) ∨ (x.1 ≠ i ∧ x.2.1 ≠ s ∧ x ∈ BL)) (hS : ∀ x, x ∈ BL → ∃ y, y ∈ BL' ∧ y.2.1 = x.2.1) : FrU a0 BL' (l.setIfInBounds i true) (a.put (some s) v) := by
  obtain ⟨h1, h2, h3, h4⟩ := h
  refine ⟨by simp [Act.put, h1], h2, fun x hx hl => ?_, fun s' hs' => ?_⟩
  · rcases hU x hx with ⟨e1, e2, e3⟩ | ⟨e1, e2, e3⟩
    · rw [e2, e3]
      show (a.tmps.setIfInBounds s v)[s]?.getD undef = v
      rw [Array.getElem?_setIfInBounds_self_of_lt (by omega)]
      rfl
    · rw [getD_set e1] at hl
      show (a.tmps.setIfInBounds s v)[x.2.1]?.getD undef = x.2.2
      rw [Array.getElem?_setIfInBounds_ne (fun e => e2 e.symm)]
      exact h3 x e3 hl
  · obtain ⟨x, hx, hxs⟩ := hin
    have hne : s ≠ s' := fun e => hs' x hx (hxs.trans e)
    show (a.tmps.setIfInBounds s v)[s']? = _
    rw [Array.getElem?_setIfInBounds_ne hne]
    refine h4 s' fun y hy => ?_
    obtain ⟨z, hz, hzs⟩ := hS y hy
    rw [← hzs]
    exact hs' z hz
theorem FrU.skip {a0 a : Act} {BL : List (Nat × Nat × Value)} {l : Array Bool} (h : FrU a0 BL l a) (i : Nat) (hU : ∀ x, x ∈ BL → x.1 ≠ i) : FrU a0 BL (l.setIfInBounds i true) a :=
  ⟨h.1, h.2.1, fun x hx hl => h.2.2.1 x hx (by rw [getD_set (hU x hx)] at hl; exact hl), h.2.2.2⟩
theorem FrU.slot {a0 a : Act} {BL : List (Nat × Nat × Value)} {l : Array Bool} (h : FrU a0 BL l a) {i s : Nat} {v : Value} (hx : (i, s, v) ∈ BL) (hl : l.getD i false = true) : a.tmps[s]?.getD undef = v := h.2.2.1 _ hx hl
theorem FrU.base {a0 a : Act} {BL : List (Nat × Nat × Value)} {l : Array Bool} (h : FrU a0 BL l a) (s : Nat) (hs : ∀ x, x ∈ BL → x.2.1 ≠ s) {v : Value} (h0 : a0.tmps[s]?.getD undef = v) : a.tmps[s]?.getD undef = v := by rw [h.2.2.2 s hs]; exact h0
def setAll : List (Nat × Nat × Value) → Array Value → Array Value
  | [], t => t
  | x :: r, t => setAll r (t.setIfInBounds x.2.1 x.2.2)
theorem setAll_size : ∀ (BL : List (Nat × Nat × Value)) (t : Array Value), (setAll BL t).size = t.size
  | [], _ => rfl
  | x :: r, t => by
    show (setAll r _).size = _
    rw [setAll_size r]
    simp
theorem setAll_out : ∀ (BL : List (Nat × Nat × Value)) (t : Array Value) (s : Nat), (∀ x, x ∈ BL → x.2.1 ≠ s) → (setAll BL t)[s]? = t[s]?
  | [], _, _, _ => rfl
  | x :: r, t, s, h => by
    show (setAll r _)[s]? = _
    rw [setAll_out r _ s (fun y hy => h y (.tail _ hy)), Array.getElem?_setIfInBounds_ne (h x (.head _))]
theorem setAll_in : ∀ (BL : List (Nat × Nat × Value)) (t : Array Value), BL.Pairwise (fun x y => x.2.1 ≠ y.2.1) → ∀ x, x ∈ BL → x.2.1 < t.size → (setAll BL t)[x.2.1]? = some x.2.2
  | [], _, _, _, h, _ => by cases h
  | y :: r, t, hp, x, hx, hs => by
    show (setAll r _)[_]? = _
    obtain ⟨p1, p2⟩ := List.pairwise_cons.1 hp
    rcases List.mem_cons.1 hx with rfl | hx
    · rw [setAll_out r _ _ (fun z hz e => p1 z hz e.symm), Array.getElem?_setIfInBounds_self_of_lt hs]
    · exact setAll_in r _ p2 x hx (by simpa using hs)
theorem FrU.all {a0 a : Act} {BL : List (Nat × Nat × Value)} {l : Array Bool} (h : FrU a0 BL l a) (hl : ∀ x, x ∈ BL → l.getD x.1 false = true) (hp : BL.Pairwise (fun x y => x.2.1 ≠ y.2.1)) (hs : ∀ x, x ∈ BL → x.2.1 < a0.tmps.size) : a = { tmps := setAll BL a0.tmps, defers := a0.defers } := by
  obtain ⟨h1, h2, h3, h4⟩ := h
  have e : a.tmps = setAll BL a0.tmps := by
    refine frame_eq (by rw [setAll_size]; exact h1) fun s _ => ?_
    by_cases hc : ∃ x, x ∈ BL ∧ x.2.1 = s
    · obtain ⟨x, hx, rfl⟩ := hc
      rw [setAll_in BL _ hp x hx (hs x hx), h3 x hx (hl x hx)]
      rfl
    · have q : ∀ x, x ∈ BL → x.2.1 ≠ s := fun x hx e => hc ⟨x, hx, e⟩
      rw [setAll_out BL _ s q, h4 s q]
  obtain ⟨tm, df⟩ := a
  simp only at e h2
  rw [e, h2]
end
end Go.Proofs.Ytkmakdhlaenaoaa
