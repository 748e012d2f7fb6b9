import Derived.Test.YtimcdnbfdkpffaaGreatGm12
/- Stage 10: the landed New. -/
namespace Go.Proofs.YtimcdnbfdkpffaaGreat
set_option maxRecDepth 100000
open Go.RowKit Go.Shelf
set_option maxHeartbeats 4000000 in
theorem pnewX (w : World) (m n : Nat) (h1 : 1 ≤ m) (hm2 : m ≤ 65536) (h3 : 1 ≤ n) (hn2 : n ≤ 4096) : Calls Tryz.prog 66 #[.int .i64 (n : Int), .int .i64 (m : Int)] w fun e w' => ∃ p, e = .returned (.tuple #[.pointer (some ⟨p, 0, none⟩), .int .i64 0]) ∧ ∃ A B fl pv nx, SX w' p A (m + n) B n m n none 0 fl pv nx (fun _ => 0) none (fun k => k = p ∨ k = A ∨ k = B) ∧
    (∀ j, j < m → fl j = -1) ∧ (∀ i, i < n → pv (m + i) = m + i ∧ nx (m + i) = m + i) ∧ w.heap.size ≤ p ∧ w.heap.size ≤ A ∧ w.heap.size ≤ B ∧ Below w.heap.size w w' := by
  obtain ⟨N, hN⟩ : ∃ N, N = m + n := ⟨_, rfl⟩
  have HN := Lib.hid hN
  obtain ⟨i0, hi0, hz0, hz1, hz2⟩ := info_parts Tryz.infoLK
  obtain ⟨j0, hj0, hy0, hy1, hy2⟩ := info_parts Tryz.infoIN
  have HMA : Hid (∀ W : World, ∃ w', (Instr.makeSlice 190 (.int .i64 (N : Int)) (.int .i64 (N : Int))).run Tryz.prog W = .ok (.slice (some ⟨W.heap.size, 0, none⟩) N N) w' ∧ OwnC w' W.heap.size 196 3 (some ⟨W.heap.size, 0, none⟩) N N (lcell (fun _ => 0) (fun _ => 0) (fun _ => 0)) ∧ W.grownBy w' none) := Lib.hid fun W => by
    obtain ⟨w', h1, h2, h3⟩ := run_make_full (P := Tryz.prog) (w := W) W.heap.size 190 196 i0 (.agg #[.int .i64 0, .int .i64 0, .int .i64 0]) 3 Tryz.underlying190 hi0 hz0 hz1 .i64 .i64 N (by rw [hz2]; omega) (by unfold maxLen; omega) (Nat.le_refl _)
    refine ⟨w', h1, ?_, h3⟩
    unfold OwnC
    have e1 : (madeCells (Value.agg #[.int .i64 0, .int .i64 0, .int .i64 0]).cells (N * 3)).toList = vals (N * 3) (lcell (fun _ => 0) (fun _ => 0) (fun _ => 0)) := by
      refine vals_eq (by simp [size_madeCells]) fun k hk => ?_
      show (madeCells #[.int .i64 0, .int .i64 0, .int .i64 0] (N * 3)).toList[k]? = _
      unfold lcell
      simp [madeCells]
      refine ⟨k, List.getElem?_range hk, ?_⟩
      rcases (show k % 3 = 0 ∨ k % 3 = 1 ∨ k % 3 = 2 by omega) with e | e | e
      · rw [e]; rfl
      · rw [e]; rfl
      · rw [e]; rfl
    rw [← e1]
    exact h2
  have HMB : Hid (∀ W : World, ∃ w', (Instr.makeSlice 191 (.int .i64 (n : Int)) (.int .i64 (n : Int))).run Tryz.prog W = .ok (.slice (some ⟨W.heap.size, 0, none⟩) n n) w' ∧ OwnC w' W.heap.size 3 1 (some ⟨W.heap.size, 0, none⟩) n n (fun _ => .int .i64 ((0 : Nat) : Int)) ∧ W.grownBy w' none) := Lib.hid fun W => by
    obtain ⟨w', h1, h2, h3⟩ := run_make_full (P := Tryz.prog) (w := W) W.heap.size 191 3 j0 (.int .i64 0) 1 Tryz.underlying191 hj0 hy0 hy1 .i64 .i64 n (by rw [hy2]; omega) (by unfold maxLen; omega) (Nat.le_refl _)
    refine ⟨w', h1, ?_, h3⟩
    unfold OwnC
    have e1 : (madeCells (Value.int .i64 0).cells (n * 1)).toList = vals (n * 1) (fun _ => .int .i64 ((0 : Nat) : Int)) := by
      refine vals_eq (by simp [size_madeCells]) fun k hk => ?_
      show (madeCells #[.int .i64 0] (n * 1)).toList[k]? = _
      simp [madeCells]
      refine ⟨k, List.getElem?_range (by omega), ?_⟩
      rw [Nat.mod_one]
      rfl
    rw [← e1]
    exact h2
  clear hi0 hz0 hz1 hz2 hj0 hy0 hy1 hy2
  have n1 : ¬ (n : Int) < 1 := by omega
  have n2 : ¬ (4096 : Int) < (n : Int) := by omega
  have m1 : ¬ (m : Int) < 1 := by omega
  have m2 : ¬ (65536 : Int) < (m : Int) := by omega
  have zw : IntKind.i64.wrap ((m : Int) + (n : Int)) = (N : Int) := by rw [IntKind.wrap_i64]; omega
  clear hN
  go_enter Tryz.func66, Tryz.ntmps66
  go_upto_region 3 with fail
  refine wp_region_grow (C := fun W => Below w.heap.size w W) 6 63 [val (.int .i64 (m : Int)), val (.int .i64 (n : Int)), val (.int .i64 (N : Int)), fun v W => ∃ g2, v = .slice (some ⟨g2, 0, none⟩) N N ∧ w.heap.size ≤ g2 ∧ OwnC W w.heap.size 196 3 (some ⟨g2, 0, none⟩) N N (lcell (fun _ => 0) (fun _ => 0) (fun _ => 0)), val (.int .i64 (n : Int)), fun v W => ∃ g2, v = .slice (some ⟨g2, 0, none⟩) n n ∧ w.heap.size ≤ g2 ∧ OwnC W w.heap.size 3 1 (some ⟨g2, 0, none⟩) n n (fun _ => .int .i64 ((0 : Nat) : Int))] (by kernel_rfl) rfl (by kernel_rfl) rfl ⟨stb_val _, stb_val _, stb_val _, (fun v W W' h hb => by obtain ⟨g2, h1, h2, h3⟩ := h; exact ⟨g2, h1, h2, h3.below hb⟩), stb_val _, (fun v W W' h hb => by obtain ⟨g2, h1, h2, h3⟩ := h; exact ⟨g2, h1, h2, h3.below hb⟩), trivial⟩ (Below.refl _ _).drew ?_ ?_
  · refine each_cons ?_ ?_
    · intro a W hW hd
      have h1 : a.tmps[1]?.getD undef = .int .i64 (m : Int) := slot_eq (hd 1 (by decide))
      exact grows_value _ hW (by simp [execOp, Act.eval, h1]) rfl
    refine each_cons ?_ ?_
    · intro a W hW hd
      have h0 : a.tmps[0]?.getD undef = .int .i64 (n : Int) := slot_eq (hd 0 (by decide))
      exact grows_value _ hW (by simp [execOp, Act.eval, h0]) rfl
    refine each_cons ?_ ?_
    · intro a W hW hd
      have h24 : a.tmps[24]?.getD undef = .int .i64 (m : Int) := slot_eq (hd 24 (by decide))
      have h25 : a.tmps[25]?.getD undef = .int .i64 (n : Int) := slot_eq (hd 25 (by decide))
      refine grows_value _ hW (?_ : _ = _) rfl
      clear hd
      go_simp
    refine each_cons ?_ ?_
    · intro a W hW hd
      have h26 : a.tmps[26]?.getD undef = .int .i64 (N : Int) := slot_eq (hd 26 (by decide))
      obtain ⟨W', h1, h2, h3⟩ := HMA.out W
      have hb : Below W.heap.size W W' := (Below.refl _ _).grown h3 (Nat.le_refl _) fun _ h => nomatch h
      refine grows_new _ (w' := W') (?_ : _ = _) ⟨W.heap.size, rfl, hW.size, h2.le hW.size⟩ hb (hW.trans (hb.mono hW.size))
      clear hd
      go_simp
    refine each_cons ?_ ?_
    · intro a W hW hd
      have h0 : a.tmps[0]?.getD undef = .int .i64 (n : Int) := slot_eq (hd 0 (by decide))
      exact grows_value _ hW (by simp [execOp, Act.eval, h0]) rfl
    refine each_cons ?_ ?_
    · intro a W hW hd
      have h28 : a.tmps[28]?.getD undef = .int .i64 (n : Int) := slot_eq (hd 28 (by decide))
      obtain ⟨W', h1, h2, h3⟩ := HMB.out W
      have hb : Below W.heap.size W W' := (Below.refl _ _).grown h3 (Nat.le_refl _) fun _ h => nomatch h
      refine grows_new _ (w' := W') (?_ : _ = _) ⟨W.heap.size, rfl, hW.size, h2.le hW.size⟩ hb (hW.trans (hb.mono hW.size))
      clear hd
      go_simp
    exact each_nil
  · refine behind_val rfl ?_
    refine behind_val rfl ?_
    refine behind_val rfl ?_
    refine behind_cons fun v27 => ?_
    refine behind_val rfl ?_
    refine behind_cons fun v29 => ?_
    refine behind_nil fun u2 hCu2 hFu2 => ?_
    obtain ⟨⟨_, A, rfl, hgA, hoA⟩, B, rfl, hgB, hoB⟩ := hFu2
    simp only [Act.put, List.setIfInBounds_toArray, List.set_cons_succ, List.set_cons_zero, List.drop_succ_cons, List.drop_zero]
    have HOA := Lib.hid hoA
    have HOB := Lib.hid hoB
    have HB2 := Lib.hid hCu2
    have hbd : ∀ (w : World), (Instr.build 194 #[(0, .slice (some ⟨A, 0, none⟩) N N), (1, .slice (some ⟨B, 0, none⟩) n n)]).run Tryz.prog w = .ok (.agg #[.slice (some ⟨A, 0, none⟩) N N, .slice (some ⟨B, 0, none⟩) n n, .slice none 0 0]) w := fun w => by kernel_rfl
    clear hoA hoB hCu2
    go_upto_region 4 with fail
    have hz : (u2.alloc (.cells #[.slice (some ⟨A, 0, none⟩) N N, .slice (some ⟨B, 0, none⟩) n n, .slice none 0 0] 194)).heap.size = u2.heap.size + 1 := by simp
    have hbl := below_alloc u2 (.cells #[.slice (some ⟨A, 0, none⟩) N N, .slice (some ⟨B, 0, none⟩) n n, .slice none 0 0] 194)
    have q1 := HOA.out.ltA
    have q2 := HOB.out.ltA
    have q4 := HB2.out.size
    have HX3 : Hid (SX (u2.alloc (.cells #[.slice (some ⟨A, 0, none⟩) N N, .slice (some ⟨B, 0, none⟩) n n, .slice none 0 0] 194)) u2.heap.size A N B n m n none 0 (fun _ => 0) (fun _ => 0) (fun _ => 0) (fun _ => 0) none (fun k => k = u2.heap.size ∨ k = A ∨ k = B)) := Lib.hid (by
      refine ⟨?_, ?_, (HOB.out.le (Nat.zero_le _)).below hbl, OwnC.nil_ _ _ _ _ _, fun x e => (nomatch e), .inl rfl, .inr (.inl rfl), .inr (.inr rfl), fun g e => (nomatch e), fun k hk => ?_, by omega, by omega⟩
      · rw [← HN.out]
        exact heap_alloc_new u2 _
      · rw [← HN.out]
        exact (HOA.out.le (Nat.zero_le _)).below hbl
      · rcases hk with rfl | rfl | rfl <;> omega)
    have HB3 : Hid (Below w.heap.size w (u2.alloc (.cells #[.slice (some ⟨A, 0, none⟩) N N, .slice (some ⟨B, 0, none⟩) n n, .slice none 0 0] 194))) := Lib.hid (HB2.out.trans (hbl.mono q4))
    obtain ⟨p, hp⟩ : ∃ p, p = u2.heap.size := ⟨_, rfl⟩
    have HPW : Hid (w.heap.size ≤ p) := Lib.hid (by omega)
    have HAW : Hid (w.heap.size ≤ A) := Lib.hid hgA
    have HBW : Hid (w.heap.size ≤ B) := Lib.hid hgB
    rw [← hp] at HX3 ⊢
    clear hp hz hbl q1 q2 q4 hgA hgB HOA HOB HB2 hbd
    generalize u2.alloc (.cells #[.slice (some ⟨A, 0, none⟩) N N, .slice (some ⟨B, 0, none⟩) n n, .slice none 0 0] 194) = u3 at *
    have hbl : ∀ W, (Instr.build 196 #[(0, .int .i64 (-1))]).run Tryz.prog W = .ok (.agg #[.int .i64 (-1), .int .i64 0, .int .i64 0]) W := fun W => by kernel_rfl
    go_wp2_with fail
    go_loopw [33] (fun i wr => ∃ k : Nat, k ≤ m ∧ i = .int .i64 (k : Int) ∧ (∃ fl pv nx, SX wr p A N B n m n none 0 fl pv nx (fun _ => 0) none (fun k => k = p ∨ k = A ∨ k = B) ∧ ∀ j, j < k → fl j = -1) ∧ Below w.heap.size w wr) (fun i _ => m - (intOf i).toNat)
    case atStart => exact ⟨0, Nat.zero_le _, rfl, ⟨_, _, _, HX3.out, fun j hj => absurd hj (Nat.not_lt_zero _)⟩, HB3.out⟩
    case round =>
      obtain ⟨k, hk, rfl, ⟨fl, pv, nx, hx, hfl⟩, hbw⟩ := hrel
      have HX4 := Lib.hid hx
      have HB4 := Lib.hid hbw
      have HFL := Lib.hid hfl
      clear hx hbw hfl
      by_cases hlt : k < m
      · have hlt' : (k : Int) < (m : Int) := by omega
        have zk : IntKind.i64.wrap ((k : Int) + 1) = (k : Int) + 1 := by rw [IntKind.wrap_i64]; omega
        have k0 : (0 : Int) ≤ (k : Int) := by omega
        have k1 : (k : Int) < (N : Int) := by have := HN.out; omega
        have hkl : k < m + n := by omega
        have x0 : wr.cell? ⟨p, 0, none⟩ = some (.slice (some ⟨A, 0, none⟩) N N) := by have := blk_cell HX4.out.blk 0; rw [← HN.out] at this; exact this
        go_wp2_with (first
          | (refine wpList_store_mid rfl 196 (.tmp 42) (.tmp 41) rfl A (k * 3) #[.int .i64 (-1), .int .i64 0, .int .i64 0] rfl rfl (HX4.out.there hkl) (by kernel_rfl) (by simp [Value.oneCell']) ?_))
        have HX5 := Lib.hid (HX4.out.put k (-1) 0 0)
        have HB5 : Hid (Below w.heap.size w (wr.setCells A (k * 3) [.int .i64 (-1), .int .i64 ((0 : Nat) : Int), .int .i64 ((0 : Nat) : Int)])) := Lib.hid (below_setCells (b := A) HAW.out _ _ wr HB4.out)
        go_roundw
        case rel => exact ⟨k + 1, by omega, by go_num, ⟨_, _, _, HX5.out, fun j hj => by
          unfold updI
          by_cases e : j = k
          · rw [if_pos e]
          · rw [if_neg e]
            exact HFL.out j (by omega)⟩, HB5.out⟩
        case measure => simp [intOf]; omega
      · obtain rfl : k = m := by omega
        have hlt' : ¬ (k : Int) < (k : Int) := by omega
        clear hlt hk
        go_wp2_with fail
        go_loopw [45] (fun i wr => ∃ j : Nat, j ≤ n ∧ i = .int .i64 (j : Int) ∧ (∃ fl pv nx, SX wr p A N B n k n none 0 fl pv nx (fun _ => 0) none (fun k => k = p ∨ k = A ∨ k = B) ∧ (∀ j, j < k → fl j = -1) ∧ ∀ i, i < j → pv (k + i) = k + i ∧ nx (k + i) = k + i) ∧ Below w.heap.size w wr) (fun i _ => n - (intOf i).toNat)
        case atStart => exact ⟨0, Nat.zero_le _, rfl, ⟨_, _, _, HX4.out, HFL.out, fun j hj => absurd hj (Nat.not_lt_zero _)⟩, HB4.out⟩
        case round =>
          obtain ⟨j, hj, rfl, ⟨fl2, pv2, nx2, hx, hfl2, hpn⟩, hbw⟩ := hrel
          have HX6 := Lib.hid hx
          have HB6 := Lib.hid hbw
          have HFL2 := Lib.hid hfl2
          have HPN := Lib.hid hpn
          clear hx hbw hfl2 hpn
          by_cases hlj : j < n
          · have hlj' : (j : Int) < (n : Int) := by omega
            have zk : IntKind.i64.wrap ((j : Int) + 1) = (j : Int) + 1 := by rw [IntKind.wrap_i64]; omega
            have HO6 := Lib.hid (HX6.out.own hm2 hn2 j (by omega))
            obtain ⟨o, ho⟩ : ∃ o, o = k + j := ⟨_, rfl⟩
            rw [← ho] at HO6
            have hol : o < k + n := by omega
            have o0 : (0 : Int) ≤ (o : Int) := by omega
            have o1 : (o : Int) < (N : Int) := by have := HN.out; omega
            have HOH := Lib.hid ho
            clear ho
            have hbl2 : ∀ W, (Instr.build 196 #[(0, .int .i64 (j : Int)), (1, .int .i64 (o : Int)), (2, .int .i64 (o : Int))]).run Tryz.prog W = .ok (.agg #[.int .i64 (j : Int), .int .i64 (o : Int), .int .i64 (o : Int)]) W := fun W => by kernel_rfl
            go_wp2_with (first
              | (go_at_call 108
                 refine HO6.out.mono ?_
                 rintro e u7 ⟨rfl, hb⟩
                 have HX7 := Lib.hid (HX6.out.step hb)
                 have HB7 := Lib.hid (HB6.out.trans (hb.mono HB6.out.size))
                 have x0 : u7.cell? ⟨p, 0, none⟩ = some (.slice (some ⟨A, 0, none⟩) N N) := by have := blk_cell HX7.out.blk 0; rw [← HN.out] at this; exact this
                 clear hb)
              | (refine wpList_store_mid rfl 196 (.tmp 60) (.tmp 59) rfl A (o * 3) #[.int .i64 (j : Int), .int .i64 (o : Int), .int .i64 (o : Int)] rfl rfl (HX7.out.there hol) (by kernel_rfl) (by simp [Value.oneCell']) ?_))
            have HX8 := Lib.hid (HX7.out.put o (j : Int) o o)
            have HB8 : Hid (Below w.heap.size w (u7.setCells A (o * 3) [.int .i64 (j : Int), .int .i64 (o : Int), .int .i64 (o : Int)])) := Lib.hid (below_setCells (b := A) HAW.out _ _ u7 HB7.out)
            go_roundw
            case rel => exact ⟨j + 1, by omega, by go_num, ⟨_, _, _, HX8.out, fun i hi => by
              unfold updI
              have := HOH.out
              rw [if_neg (by omega)]
              exact HFL2.out i hi, fun i hi => by
              unfold updN
              by_cases e : i = j
              · subst e
                rw [← HOH.out, if_pos rfl]
                exact ⟨rfl, if_pos rfl⟩
              · have := HOH.out
                rw [if_neg (by omega), if_neg (by omega)]
                exact HPN.out i (by omega)⟩, HB8.out⟩
            case measure => simp [intOf]; omega
          · obtain rfl : j = n := by omega
            have hlj' : ¬ (j : Int) < (j : Int) := by omega
            clear hlj hj
            go_wp2_with fail
            go_ret2
            exact ⟨p, rfl, A, B, fl2, pv2, nx2, (by rw [← HN.out]; exact HX6.out), HFL2.out, HPN.out, HPW.out, HAW.out, HBW.out, HB6.out⟩
end Go.Proofs.YtimcdnbfdkpffaaGreat
