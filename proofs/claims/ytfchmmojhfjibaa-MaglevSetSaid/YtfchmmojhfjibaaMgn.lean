/- Stage 19: MaglevSet. -/
import Derived.Test.YtfchmmojhfjibaaMgo
import Derived.Test.YtfchmmojhfjibaaMgl
import Derived.Test.YtfchmmojhfjibaaGrn
namespace Go.Proofs.Ytfchmmojhfjibaa
set_option maxRecDepth 100000
open Go.RowKit Go.Shelf
set_option maxHeartbeats 1000000 in
theorem mset_out (HP : MgP) (l : List Wt) (A : Option Addr) (c : Nat) (m y : Int) (w : World) (h : Lin w A c l) (hg : grW l m = true) : Calls Try.prog 5 #[.slice A l.length c, .int .i64 m, .int .u8 y] w (ret (.bool true) w) := by
  have HG := Lib.hid (great_any l A c m w h)
  have HK := Lib.hid fun W => mknown_any HP W
  rw [hg] at HG
  clear hg HP
  go_enter Try.func5, Try.ntmps5
  go_wp2_with (first
    | (go_at_call 6
       refine HG.out.mono ?_
       rintro e u1 ⟨rfl, hb⟩
       have HB1 := Lib.hid hb
       clear hb)
    | (go_at_call 7
       refine (HK.out _).mono ?_
       rintro e u2 ⟨rfl, hb⟩
       have HB2 := Lib.hid (HB1.out.trans (hb.mono HB1.out.size))
       clear hb))
  go_ret
  exact ⟨rfl, HB2.out⟩
set_option maxHeartbeats 1000000 in
theorem mset_nil (HP : MgP) (l : List Wt) (A : Option Addr) (c : Nat) (m y : Int) (w : World) (h : Lin w A c l) (hg : grW l m = false) (h0 : l.length = 0) : Calls Try.prog 5 #[.slice A l.length c, .int .i64 m, .int .u8 y] w (ret (.bool true) w) := by
  have HG := Lib.hid (great_any l A c m w h)
  have HK := Lib.hid fun W => mknown_any HP W
  rw [hg, h0] at HG
  rw [h0]
  clear hg HP h0
  go_enter Try.func5, Try.ntmps5
  go_wp2_with (first
    | (go_at_call 6
       refine HG.out.mono ?_
       rintro e u1 ⟨rfl, hb⟩
       have HB1 := Lib.hid hb
       clear hb)
    | (go_at_call 7
       refine (HK.out _).mono ?_
       rintro e u2 ⟨rfl, hb⟩
       have HB2 := Lib.hid (HB1.out.trans (hb.mono HB1.out.size))
       clear hb))
  go_ret
  exact ⟨rfl, HB2.out⟩
set_option maxHeartbeats 4000000 in
theorem mset_rot (HP : MgP) (l : List Wt) (A : Option Addr) (c : Nat) (m : Int) (Y : Nat) (hY : Y ≤ 127) (_hY9 : Y ≤ 255) (w : World) (h : Lin w A c l) (hg : grW l m = false) (hl : l.length ≤ 30) (hl0 : 0 < l.length) : Calls Try.prog 5 #[.slice A l.length c, .int .i64 m, .int .u8 (Y : Int)] w (ret (.bool true) w) := by
  have HG := Lib.hid (great_any l A c m w h)
  have HK := Lib.hid fun W => mknown_any HP W
  have HPTB := Lib.hid HP.table
  rw [hg] at HG
  have HL := Lib.hid h
  have hca := h.cap
  have hc9' := h.top
  obtain ⟨n, hn⟩ : ∃ n, n = l.length := ⟨_, rfl⟩
  have HNN := Lib.hid hn
  rw [← hn] at HG hl hl0 hca ⊢
  obtain ⟨K, hK⟩ : ∃ K, K = Y % n := ⟨_, rfl⟩
  have hKn : K < n := by rw [hK]; exact Nat.mod_lt _ hl0
  have r1 : (Y : Int) % (n : Int) = (K : Int) := by rw [hK, Int.natCast_emod]
  have r2 : (Y : Int).tmod (n : Int) = (K : Int) := by rw [Int.tmod_eq_emod_of_nonneg (by omega), r1]
  have n0 : ¬ (n : Int) = 0 := by omega
  have n1 : ((n : Int) == 0) = false := by simp; omega
  have zy : IntKind.i64.wrap (Y : Int) = (Y : Int) := by rw [IntKind.wrap_i64]; omega
  have zk : IntKind.i64.wrap (K : Int) = (K : Int) := by rw [IntKind.wrap_i64]; omega
  obtain ⟨D1, hs1, hr1⟩ := slice_anyW A n c K (by omega) hca hc9'
  obtain ⟨D2, hs2, hr2⟩ := slice_toW A n c K (by omega) hca hc9'
  obtain ⟨iw, hi0, hz0, hz1, hz2⟩ := info_parts Try.infoWT
  have HI0 := Lib.hid hi0
  have HZ0 := Lib.hid hz0
  have HZ1 := Lib.hid hz1
  have HZ2 := Lib.hid hz2
  clear hi0 hz0 hz1 hz2 hg h hn hK HP
  go_enter Try.func5, Try.ntmps5
  go_upto_region 4 with (first
    | (go_at_call 6
       refine HG.out.mono ?_
       rintro e u1 ⟨rfl, hb⟩
       have HB1 := Lib.hid hb
       clear hb))
  have HRD1 : Hid (RdC u1 u1.heap.size D1 ((n - K) * 2) (fun k => wf l (K * 2 + k))) := Lib.hid (hr1 _ _ _ (by rw [HNN.out]; exact (HL.out.rd.keep HB1.out).more HB1.out.size))
  have HRD2 : Hid (RdC u1 u1.heap.size D2 (K * 2) (wf l)) := Lib.hid (hr2 _ _ _ (by rw [HNN.out]; exact (HL.out.rd.keep HB1.out).more HB1.out.size))
  clear hr1 hr2 HG r1 r2 zy zk
  refine wp_region_grow (C := fun W => Below u1.heap.size u1 W) 8 125 [fun v W => ∃ z, v = .slice (some ⟨z, 0, none⟩) 0 0 ∧ W.heap[z]? = some (.cells #[] 34 (0, 0)), val (.slice A n c), val (.int .i64 (K : Int)), val (.slice D1 (n - K) (c - K)), fun v W => ∃ q c2, v = .slice (some ⟨q, 0, none⟩) (n - K) c2 ∧ OwnC W u1.heap.size 34 2 (some ⟨q, 0, none⟩) (n - K) c2 (fun k => wf l (K * 2 + k)), val (.slice A n c), val (.int .i64 (K : Int)), val (.slice D2 K c)] (by kernel_rfl) rfl (by kernel_rfl) rfl ⟨(fun v W W' h hb => by obtain ⟨z, h1, h2⟩ := h; exact ⟨z, h1, (hb.block _ (lt_heap h2)).trans h2⟩), stb_val _, stb_val _, stb_val _, (fun v W W' h hb => by obtain ⟨A1, c1, h1, h2⟩ := h; exact ⟨A1, c1, h1, h2.below hb⟩), stb_val _, stb_val _, stb_val _, trivial⟩ (Below.refl _ _).drew ?_ ?_
  · refine each_cons ?_ ?_
    · intro a W hW hd
      refine grows_new (w' := W.alloc (.cells #[] 34)) (.slice (some ⟨W.heap.size, 0, none⟩) 0 0) (?_ : _ = _) ⟨W.heap.size, rfl, heap_alloc_new W _⟩ (below_alloc W _) (hW.alloc hW.size _)
      clear hd
      go_simp
    refine each_cons ?_ ?_
    · intro a W hW hd
      have h0 : a.tmps[0]?.getD undef = .slice A n c := slot_eq (hd 0 (by decide))
      exact grows_value _ hW (by simp [execOp, Act.eval, h0]) rfl
    refine each_cons ?_ ?_
    · intro a W hW hd
      have h7 : a.tmps[7]?.getD undef = .int .i64 (K : Int) := slot_eq (hd 7 (by decide))
      exact grows_value _ hW (by simp [execOp, Act.eval, h7]) rfl
    refine each_cons ?_ ?_
    · intro a W hW hd
      have h29 : a.tmps[29]?.getD undef = .slice A n c := slot_eq (hd 29 (by decide))
      have h30 : a.tmps[30]?.getD undef = .int .i64 (K : Int) := slot_eq (hd 30 (by decide))
      refine grows_value _ hW (?_ : _ = _) rfl
      clear hd
      go_simp
    refine each_cons ?_ ?_
    · intro a W hW hd
      have h31 : a.tmps[31]?.getD undef = .slice D1 (n - K) (c - K) := slot_eq (hd 31 (by decide))
      obtain ⟨z, h28, hz⟩ := hd 28 (by decide)
      have h28' : a.tmps[28]?.getD undef = .slice (some ⟨z, 0, none⟩) 0 0 := slot_eq h28
      obtain ⟨bb, off, hB, hbb, hcc⟩ := HRD1.out.resolve_left (by omega)
      obtain ⟨c2, W', hrun, hown, hb⟩ := run_append_first (P := Try.prog) (w := W) u1.heap.size 22 22 34 iw (.agg #[.string ⟨#[]⟩, .int .i64 0]) 2 Try.underlying22 HI0.out HZ0.out HZ1.out rfl (zb := z) (b := bb) (off := off) (m := n - K) (c' := c - K) (g := fun k => wf l (K * 2 + k)) (by omega) (fun j hj => (hW.cell (p := ⟨bb, off + j, none⟩) hbb).trans (hcc j hj)) (by unfold maxLen; omega) (by rw [HZ2.out]; omega) hW.size
      rw [hB] at h31
      refine grows_new (.slice (some ⟨W.heap.size, 0, none⟩) (n - K) c2) (w' := W') ?_ ⟨_, c2, rfl, hown⟩ hb (hW.trans (hb.mono hW.size))
      clear hd
      simp only [execOp, resolve, invoke, builtin, Sem.run_bind, Sem.run_pure, Result.andThen_ok, List.map_toArray, List.map_cons, List.map_nil, Act.eval, Array.getD_eq_getD_getElem?, h28', h31, hrun]
    refine each_cons ?_ ?_
    · intro a W hW hd
      have h0 : a.tmps[0]?.getD undef = .slice A n c := slot_eq (hd 0 (by decide))
      exact grows_value _ hW (by simp [execOp, Act.eval, h0]) rfl
    refine each_cons ?_ ?_
    · intro a W hW hd
      have h7 : a.tmps[7]?.getD undef = .int .i64 (K : Int) := slot_eq (hd 7 (by decide))
      exact grows_value _ hW (by simp [execOp, Act.eval, h7]) rfl
    refine each_cons ?_ ?_
    · intro a W hW hd
      have h33 : a.tmps[33]?.getD undef = .slice A n c := slot_eq (hd 33 (by decide))
      have h34 : a.tmps[34]?.getD undef = .int .i64 (K : Int) := slot_eq (hd 34 (by decide))
      refine grows_value _ hW (?_ : _ = _) rfl
      clear hd
      go_simp
    exact each_nil
  · refine behind_cons fun v28 => ?_
    refine behind_val rfl ?_
    refine behind_val rfl ?_
    refine behind_val rfl ?_
    refine behind_cons fun v32 => ?_
    refine behind_val rfl ?_
    refine behind_val rfl ?_
    refine behind_val rfl ?_
    refine behind_nil fun W3 hCW3 hFW3 => ?_
    simp only [Act.put, List.setIfInBounds_toArray, List.set_cons_succ, List.set_cons_zero, List.drop_succ_cons, List.drop_zero]
    obtain ⟨⟨_, _⟩, q, c2, rfl, hown⟩ := hFW3
    have HO3 := Lib.hid hown
    have HB3 := Lib.hid hCW3
    have HR3 : Hid (RdC W3 W3.heap.size D2 (K * 2) (wf l)) := Lib.hid ((HRD2.out.keep hCW3).more hCW3.size)
    have enn : n - K + K = n := by omega
    clear hown hCW3 HRD1 HRD2 hs1 hs2
    go_upto_region 5 with (first
      | (at_builtin
         refine wpList_append_vals rfl (.tmp 32) (.tmp 35) 22 rfl u1.heap.size 34 iw (.agg #[.string ⟨#[]⟩, .int .i64 0]) 2 Try.underlying22 HI0.out HZ0.out HZ1.out rfl (by decide) rfl HO3.out rfl HR3.out (fun k _ => wf_one l k) (by unfold maxLen; omega) (by rw [HZ2.out]; omega) HB3.out.size ?_
         intro A5 c5 v hown5 hg5 _
         rw [enn] at hown5 ⊢
         have HO5 : Hid (OwnC v u1.heap.size 34 2 A5 n c5 (wf (rotL l K))) := Lib.hid (hown5.same fun k hk => by
           have hkn : K ≤ l.length := by rw [← HNN.out]; omega
           rw [wf_rot l hkn k (by rw [← HNN.out]; exact hk), ← HNN.out]
           rfl)
         have HB5 : Hid (Below u1.heap.size u1 v) := Lib.hid (HB3.out.grown hg5 HB3.out.size fun k hk => HO3.out.at_ k hk)
         clear hown5 hg5))
    obtain ⟨g, e, _, hgl, _, _⟩ := HO5.out.lies (by omega)
    subst e
    clear HO3 HB3 HR3 HI0 HZ0 HZ1 HZ2 enn hgl
    have hnr : (rotL l K).length = n := by rw [rotL_len, ← HNN.out]
    have d7 : ¬ (127 : Int) < (Y : Int) := by omega
    go_upto_region 7 with fail
    have HRZ2 : Hid (RdC v v.heap.size (some ⟨g, 0, none⟩) (n * 2) (wf (rotL l K))) := Lib.hid HO5.out.rd
    have HBZ := HB5
    have hl2 : (rotL l K).length = n := hnr
    have hpm : l.Perm (rotL l K) := rotL_perm l K
    obtain ⟨z, hz⟩ : ∃ z, z = v := ⟨_, rfl⟩
    rw [← hz] at HRZ2 HBZ ⊢
    clear hz
    have hc5 := HO5.out.cap
    have hc9 := HO5.out.cap_le
    have HBZ : Hid (Below w.heap.size w z) := Lib.hid (HB1.out.trans (HBZ.out.mono HB1.out.size))
    obtain ⟨L2, hL2⟩ : ∃ L2, L2 = (rotL l K) := ⟨_, rfl⟩
    rw [← hL2] at HRZ2 hl2 hpm
    clear hL2 hnr HO5 HB5
    have hmay : mayW L2 m = mayW l m := (may_perm hpm).symm
    have HSM : Hid (∀ s, s < tbN l m → (tabV l m.toNat s = -1 ∧ tabV L2 m.toNat s = -1) ∨ ∃ i j : Nat, tabV l m.toNat s = (i : Int) ∧ tabV L2 m.toNat s = (j : Int) ∧ i < n ∧ j < n ∧ (wa l i).s = (wa L2 j).s) := Lib.hid fun s hs => by
      have hy : mayW l m = true := by
        cases q : mayW l m with
        | true => rfl
        | false =>
          unfold tbN at hs
          rw [if_neg (by rw [q]; decide)] at hs
          omega
      have hok := mayW_iff.1 hy
      have h0 : 0 ≤ m := by
        have := hok.sz
        unfold szP at this
        simp only [Bool.and_eq_true, decide_eq_true_eq] at this
        omega
      have em : ((m.toNat : Nat) : Int) = m := by omega
      unfold tbN at hs
      rw [if_pos hy] at hs
      have q := tab_perm (l := l) (k := L2) (m := m.toNat) (by rw [em]; exact hok) hpm hs
      rw [← HNN.out, hl2] at q
      exact q
    have HPT1 : Hid (∀ W, Below z.heap.size z W → Calls Try.prog 15 #[.slice A n c, .int .i64 m] W fun e w' => ∃ T d, e = .returned (.tuple #[.slice T (tbN l m) d, .int .i64 (tbE l m)]) ∧ RdC w' w'.heap.size T (tbN l m) (iV (tabV l m.toNat)) ∧ Below W.heap.size W w') := Lib.hid fun W hb => by
      have q := HPTB.out l A c m W ⟨HL.out.cap, HL.out.top, by rw [← HNN.out]; omega, (((HL.out.rd.keep HBZ.out).more HBZ.out.size).keep hb).more hb.size⟩
      rw [← HNN.out] at q
      refine q.mono ?_
      rintro e w' ⟨T, d, rfl, _, _, hr, hb⟩
      exact ⟨T, d, rfl, hr, hb⟩
    have HPT2 : Hid (∀ W, Below z.heap.size z W → Calls Try.prog 15 #[.slice (some ⟨g, 0, none⟩) n c5, .int .i64 m] W fun e w' => ∃ T d, e = .returned (.tuple #[.slice T (tbN l m) d, .int .i64 (tbE l m)]) ∧ RdC w' w'.heap.size T (tbN l m) (iV (tabV L2 m.toNat)) ∧ Below W.heap.size W w') := Lib.hid fun W hb => by
      have q := HPTB.out L2 (some ⟨g, 0, none⟩) c5 m W ⟨by rw [hl2]; exact hc5, Nat.le_trans hc9 (by unfold maxLen; omega), by rw [hl2]; omega, by rw [hl2]; exact (HRZ2.out.keep hb).more hb.size⟩
      rw [hl2] at q
      refine q.mono ?_
      rintro e w' ⟨T, d, rfl, _, _, hr, hb⟩
      unfold tbN at hr ⊢
      unfold tbE
      rw [hmay] at hr ⊢
      exact ⟨T, d, rfl, hr, hb⟩
    have HLV : Hid (∀ W, Below z.heap.size z W → ∀ i j, i < n → j < n → (∃ a ao, A = some ⟨a, ao, none⟩ ∧ a < z.heap.size ∧ W.cell? ⟨a, ao + i * 2, none⟩ = some (.string (wa l i).s)) ∧ ∃ b bo, (some ⟨g, 0, none⟩ : Option Addr) = some ⟨b, bo, none⟩ ∧ b < z.heap.size ∧ W.cell? ⟨b, bo + j * 2, none⟩ = some (.string (wa L2 j).s)) := Lib.hid fun W hb i j hi hj => by
      refine ⟨?_, ?_⟩
      · rcases ((HL.out.rd.keep HBZ.out).more HBZ.out.size) with h0 | ⟨a, ao, e, ha, hca⟩
        · rw [← HNN.out] at h0; omega
        · exact ⟨a, ao, e, ha, by rw [hb.cell (p := ⟨a, ao + i * 2, none⟩) ha, hca _ (by rw [← HNN.out]; omega), wf_s]⟩
      · rcases HRZ2.out with h0 | ⟨b, bo, e, hb', hcb⟩
        · omega
        · exact ⟨b, bo, e, hb', by rw [hb.cell (p := ⟨b, bo + j * 2, none⟩) hb', hcb _ (by omega), wf_s]⟩
    have hLB : tbN l m ≤ 65537 := by
      unfold tbN
      split
      · rename_i q
        have hok := mayW_iff.1 q
        have := hok.sz
        unfold szP at this
        simp only [Bool.and_eq_true, decide_eq_true_eq] at this
        omega
      · omega
    obtain ⟨L, hL⟩ : ∃ L, L = tbN l m := ⟨_, rfl⟩
    obtain ⟨E, hE⟩ : ∃ E, E = tbE l m := ⟨_, rfl⟩
    rw [← hL] at HSM HPT1 HPT2 hLB
    rw [← hE] at HPT1 HPT2
    clear hL hE hc5 hc9 hl2 hpm hmay HRZ2
    go_upto_region 8 with (first
      | (go_at_call 15
         refine (HPT1.out _ (Below.refl _ _)).mono ?_
         rintro e y1 ⟨T1, d1, rfl, hr, hb⟩
         have HT1 := Lib.hid hr
         have HY1 := Lib.hid hb
         clear hr hb))
    go_upto_region 9 with (first
      | (go_at_call 15
         refine (HPT2.out _ HY1.out).mono ?_
         rintro e y2 ⟨T2, d2, rfl, hr, hb⟩
         have HT2 := Lib.hid hr
         have HY2 := Lib.hid (HY1.out.trans (hb.mono HY1.out.size))
         have HT1b := Lib.hid ((HT1.out.keep hb).more hb.size)
         clear hr hb))
    clear HPT1 HPT2 HT1 HY1
    have hEE : (E != E) = false := by simp
    have hLL : ((L : Int) != (L : Int)) = false := by simp
    go_wp2_with fail
    go_loopw [65] (fun vs wr => ∃ s : Nat, s ≤ L ∧ vs = .int .i64 (s : Int) ∧ Below y2.heap.size y2 wr) (fun vs _ => L - (intOf vs).toNat)
    case atStart => exact ⟨0, Nat.zero_le _, rfl, Below.refl _ _⟩
    case round =>
      obtain ⟨s, hs, rfl, hb⟩ := hrel
      have HBW := Lib.hid hb
      by_cases hsl : s < L
      · have l1 : (s : Int) < (L : Int) := by omega
        have s0 : (0 : Int) ≤ (s : Int) := by omega
        have s2 : ((s : Int)).toNat = s := by omega
        have zs : IntKind.i64.wrap ((s : Int) + 1) = (s : Int) + 1 := by rw [IntKind.wrap_i64]; omega
        rcases HT1b.out with h0 | ⟨t1, o1, rfl, ht1, hc1⟩
        · omega
        rcases HT2.out with h0 | ⟨t2, o2, rfl, ht2, hc2⟩
        · omega
        have xa := (hb.cell (p := ⟨t1, o1 + s, none⟩) ht1).trans (hc1 s hsl)
        have xb := (hb.cell (p := ⟨t2, o2 + s, none⟩) ht2).trans (hc2 s hsl)
        unfold iV at xa xb
        rcases HSM.out s hsl with ⟨e1, e2⟩ | ⟨i, j, e1, e2, hi, hj, hnm⟩
        · rw [e1] at xa
          rw [e2] at xb
          have d1 : ¬ (n : Int) ≤ -1 := by omega
          clear e1 e2 ht1 ht2 hc1 hc2 hb
          go_upto_region 14 with fail
          go_quiet (fail)
          go_wp2_with fail
          go_roundw
          case rel => exact ⟨s + 1, by omega, by go_num, below_drewN HBW.out _⟩
          case measure => simp [intOf]; omega
        · rw [e1] at xa
          rw [e2] at xb
          obtain ⟨⟨a, ao, ea, hal, hac⟩, ⟨b, bo, eb, hbl, hbc⟩⟩ := HLV.out wr (HY2.out.trans (hb.mono HY2.out.size)) i j hi hj
          subst ea
          injection eb with eb
          injection eb with eb eb2
          subst eb
          subst eb2
          rw [Nat.zero_add] at hbc
          rw [← hnm] at hbc
          obtain ⟨S, hS⟩ : ∃ S, S = (wa l i).s := ⟨_, rfl⟩
          rw [← hS] at hac hbc
          have i1 : (i : Int) < (n : Int) := by omega
          have i0 : (0 : Int) ≤ (i : Int) := by omega
          have i2 : ((i : Int)).toNat = i := by omega
          have j1 : (j : Int) < (n : Int) := by omega
          have j0 : (0 : Int) ≤ (j : Int) := by omega
          have j2 : ((j : Int)).toNat = j := by omega
          have f1 : ¬ (i : Int) < 0 := by omega
          have f2 : ¬ (j : Int) < 0 := by omega
          have f3 : ¬ (n : Int) ≤ (i : Int) := by omega
          have f4 : ¬ (n : Int) ≤ (j : Int) := by omega
          have hvv : (S.toList != S.toList) = false := by simp
          clear e1 e2 ht1 ht2 hc1 hc2 hb hS hnm hal hbl
          go_upto_region 14 with fail
          go_quiet (fail)
          go_wp2_with fail
          go_roundw
          case rel => exact ⟨s + 1, by omega, by go_num, below_drewN HBW.out _⟩
          case measure => simp [intOf]; omega
      · obtain rfl : L = s := by omega
        clear hb
        go_wp2_with (first
          | (go_at_call 7
             refine (HK.out _).mono ?_
             rintro e u9 ⟨rfl, hb⟩
             have HB9 := Lib.hid (HBW.out.trans (hb.mono HBW.out.size))
             clear hb))
        go_ret
        exact ⟨rfl, HBZ.out.trans ((HY2.out.trans (HB9.out.mono HY2.out.size)).mono HBZ.out.size)⟩
set_option maxHeartbeats 4000000 in
theorem mset_rev (HP : MgP) (l : List Wt) (A : Option Addr) (c : Nat) (m : Int) (Y : Nat) (hY : 127 < Y) (_hY9 : Y ≤ 255) (w : World) (h : Lin w A c l) (hg : grW l m = false) (hl : l.length ≤ 30) (hl0 : 0 < l.length) : Calls Try.prog 5 #[.slice A l.length c, .int .i64 m, .int .u8 (Y : Int)] w (ret (.bool true) w) := by
  have HG := Lib.hid (great_any l A c m w h)
  have HK := Lib.hid fun W => mknown_any HP W
  have HPTB := Lib.hid HP.table
  rw [hg] at HG
  have HL := Lib.hid h
  have hca := h.cap
  have hc9' := h.top
  obtain ⟨n, hn⟩ : ∃ n, n = l.length := ⟨_, rfl⟩
  have HNN := Lib.hid hn
  rw [← hn] at HG hl hl0 hca ⊢
  obtain ⟨K, hK⟩ : ∃ K, K = Y % n := ⟨_, rfl⟩
  have hKn : K < n := by rw [hK]; exact Nat.mod_lt _ hl0
  have r1 : (Y : Int) % (n : Int) = (K : Int) := by rw [hK, Int.natCast_emod]
  have r2 : (Y : Int).tmod (n : Int) = (K : Int) := by rw [Int.tmod_eq_emod_of_nonneg (by omega), r1]
  have n0 : ¬ (n : Int) = 0 := by omega
  have n1 : ((n : Int) == 0) = false := by simp; omega
  have zy : IntKind.i64.wrap (Y : Int) = (Y : Int) := by rw [IntKind.wrap_i64]; omega
  have zk : IntKind.i64.wrap (K : Int) = (K : Int) := by rw [IntKind.wrap_i64]; omega
  obtain ⟨D1, hs1, hr1⟩ := slice_anyW A n c K (by omega) hca hc9'
  obtain ⟨D2, hs2, hr2⟩ := slice_toW A n c K (by omega) hca hc9'
  obtain ⟨iw, hi0, hz0, hz1, hz2⟩ := info_parts Try.infoWT
  have HI0 := Lib.hid hi0
  have HZ0 := Lib.hid hz0
  have HZ1 := Lib.hid hz1
  have HZ2 := Lib.hid hz2
  clear hi0 hz0 hz1 hz2 hg h hn hK HP
  go_enter Try.func5, Try.ntmps5
  go_upto_region 4 with (first
    | (go_at_call 6
       refine HG.out.mono ?_
       rintro e u1 ⟨rfl, hb⟩
       have HB1 := Lib.hid hb
       clear hb))
  have HRD1 : Hid (RdC u1 u1.heap.size D1 ((n - K) * 2) (fun k => wf l (K * 2 + k))) := Lib.hid (hr1 _ _ _ (by rw [HNN.out]; exact (HL.out.rd.keep HB1.out).more HB1.out.size))
  have HRD2 : Hid (RdC u1 u1.heap.size D2 (K * 2) (wf l)) := Lib.hid (hr2 _ _ _ (by rw [HNN.out]; exact (HL.out.rd.keep HB1.out).more HB1.out.size))
  clear hr1 hr2 HG r1 r2 zy zk
  refine wp_region_grow (C := fun W => Below u1.heap.size u1 W) 8 125 [fun v W => ∃ z, v = .slice (some ⟨z, 0, none⟩) 0 0 ∧ W.heap[z]? = some (.cells #[] 34 (0, 0)), val (.slice A n c), val (.int .i64 (K : Int)), val (.slice D1 (n - K) (c - K)), fun v W => ∃ q c2, v = .slice (some ⟨q, 0, none⟩) (n - K) c2 ∧ OwnC W u1.heap.size 34 2 (some ⟨q, 0, none⟩) (n - K) c2 (fun k => wf l (K * 2 + k)), val (.slice A n c), val (.int .i64 (K : Int)), val (.slice D2 K c)] (by kernel_rfl) rfl (by kernel_rfl) rfl ⟨(fun v W W' h hb => by obtain ⟨z, h1, h2⟩ := h; exact ⟨z, h1, (hb.block _ (lt_heap h2)).trans h2⟩), stb_val _, stb_val _, stb_val _, (fun v W W' h hb => by obtain ⟨A1, c1, h1, h2⟩ := h; exact ⟨A1, c1, h1, h2.below hb⟩), stb_val _, stb_val _, stb_val _, trivial⟩ (Below.refl _ _).drew ?_ ?_
  · refine each_cons ?_ ?_
    · intro a W hW hd
      refine grows_new (w' := W.alloc (.cells #[] 34)) (.slice (some ⟨W.heap.size, 0, none⟩) 0 0) (?_ : _ = _) ⟨W.heap.size, rfl, heap_alloc_new W _⟩ (below_alloc W _) (hW.alloc hW.size _)
      clear hd
      go_simp
    refine each_cons ?_ ?_
    · intro a W hW hd
      have h0 : a.tmps[0]?.getD undef = .slice A n c := slot_eq (hd 0 (by decide))
      exact grows_value _ hW (by simp [execOp, Act.eval, h0]) rfl
    refine each_cons ?_ ?_
    · intro a W hW hd
      have h7 : a.tmps[7]?.getD undef = .int .i64 (K : Int) := slot_eq (hd 7 (by decide))
      exact grows_value _ hW (by simp [execOp, Act.eval, h7]) rfl
    refine each_cons ?_ ?_
    · intro a W hW hd
      have h29 : a.tmps[29]?.getD undef = .slice A n c := slot_eq (hd 29 (by decide))
      have h30 : a.tmps[30]?.getD undef = .int .i64 (K : Int) := slot_eq (hd 30 (by decide))
      refine grows_value _ hW (?_ : _ = _) rfl
      clear hd
      go_simp
    refine each_cons ?_ ?_
    · intro a W hW hd
      have h31 : a.tmps[31]?.getD undef = .slice D1 (n - K) (c - K) := slot_eq (hd 31 (by decide))
      obtain ⟨z, h28, hz⟩ := hd 28 (by decide)
      have h28' : a.tmps[28]?.getD undef = .slice (some ⟨z, 0, none⟩) 0 0 := slot_eq h28
      obtain ⟨bb, off, hB, hbb, hcc⟩ := HRD1.out.resolve_left (by omega)
      obtain ⟨c2, W', hrun, hown, hb⟩ := run_append_first (P := Try.prog) (w := W) u1.heap.size 22 22 34 iw (.agg #[.string ⟨#[]⟩, .int .i64 0]) 2 Try.underlying22 HI0.out HZ0.out HZ1.out rfl (zb := z) (b := bb) (off := off) (m := n - K) (c' := c - K) (g := fun k => wf l (K * 2 + k)) (by omega) (fun j hj => (hW.cell (p := ⟨bb, off + j, none⟩) hbb).trans (hcc j hj)) (by unfold maxLen; omega) (by rw [HZ2.out]; omega) hW.size
      rw [hB] at h31
      refine grows_new (.slice (some ⟨W.heap.size, 0, none⟩) (n - K) c2) (w' := W') ?_ ⟨_, c2, rfl, hown⟩ hb (hW.trans (hb.mono hW.size))
      clear hd
      simp only [execOp, resolve, invoke, builtin, Sem.run_bind, Sem.run_pure, Result.andThen_ok, List.map_toArray, List.map_cons, List.map_nil, Act.eval, Array.getD_eq_getD_getElem?, h28', h31, hrun]
    refine each_cons ?_ ?_
    · intro a W hW hd
      have h0 : a.tmps[0]?.getD undef = .slice A n c := slot_eq (hd 0 (by decide))
      exact grows_value _ hW (by simp [execOp, Act.eval, h0]) rfl
    refine each_cons ?_ ?_
    · intro a W hW hd
      have h7 : a.tmps[7]?.getD undef = .int .i64 (K : Int) := slot_eq (hd 7 (by decide))
      exact grows_value _ hW (by simp [execOp, Act.eval, h7]) rfl
    refine each_cons ?_ ?_
    · intro a W hW hd
      have h33 : a.tmps[33]?.getD undef = .slice A n c := slot_eq (hd 33 (by decide))
      have h34 : a.tmps[34]?.getD undef = .int .i64 (K : Int) := slot_eq (hd 34 (by decide))
      refine grows_value _ hW (?_ : _ = _) rfl
      clear hd
      go_simp
    exact each_nil
  · refine behind_cons fun v28 => ?_
    refine behind_val rfl ?_
    refine behind_val rfl ?_
    refine behind_val rfl ?_
    refine behind_cons fun v32 => ?_
    refine behind_val rfl ?_
    refine behind_val rfl ?_
    refine behind_val rfl ?_
    refine behind_nil fun W3 hCW3 hFW3 => ?_
    simp only [Act.put, List.setIfInBounds_toArray, List.set_cons_succ, List.set_cons_zero, List.drop_succ_cons, List.drop_zero]
    obtain ⟨⟨_, _⟩, q, c2, rfl, hown⟩ := hFW3
    have HO3 := Lib.hid hown
    have HB3 := Lib.hid hCW3
    have HR3 : Hid (RdC W3 W3.heap.size D2 (K * 2) (wf l)) := Lib.hid ((HRD2.out.keep hCW3).more hCW3.size)
    have enn : n - K + K = n := by omega
    clear hown hCW3 HRD1 HRD2 hs1 hs2
    go_upto_region 5 with (first
      | (at_builtin
         refine wpList_append_vals rfl (.tmp 32) (.tmp 35) 22 rfl u1.heap.size 34 iw (.agg #[.string ⟨#[]⟩, .int .i64 0]) 2 Try.underlying22 HI0.out HZ0.out HZ1.out rfl (by decide) rfl HO3.out rfl HR3.out (fun k _ => wf_one l k) (by unfold maxLen; omega) (by rw [HZ2.out]; omega) HB3.out.size ?_
         intro A5 c5 v hown5 hg5 _
         rw [enn] at hown5 ⊢
         have HO5 : Hid (OwnC v u1.heap.size 34 2 A5 n c5 (wf (rotL l K))) := Lib.hid (hown5.same fun k hk => by
           have hkn : K ≤ l.length := by rw [← HNN.out]; omega
           rw [wf_rot l hkn k (by rw [← HNN.out]; exact hk), ← HNN.out]
           rfl)
         have HB5 : Hid (Below u1.heap.size u1 v) := Lib.hid (HB3.out.grown hg5 HB3.out.size fun k hk => HO3.out.at_ k hk)
         clear hown5 hg5))
    obtain ⟨g, e, _, hgl, _, _⟩ := HO5.out.lies (by omega)
    subst e
    clear HO3 HB3 HR3 HI0 HZ0 HZ1 HZ2 enn hgl
    have hnr : (rotL l K).length = n := by rw [rotL_len, ← HNN.out]
    have HRV := Lib.hid (rev_any (rotL l K) u1.heap.size g c5 v (by rw [hnr]; exact HO5.out) (by omega) (by omega))
    rw [hnr] at HRV
    have d7 : (127 : Int) < (Y : Int) := by omega
    go_upto_region 7 with (first
      | (go_at_call 18
         refine HRV.out.mono ?_
         rintro e z ⟨rfl, hr, hb⟩
         have HRZ := Lib.hid hr
         have HBZ : Hid (Below u1.heap.size u1 z) := Lib.hid (HB5.out.trans hb)
         clear hr hb))
    have HRZ2 : Hid (RdC z z.heap.size (some ⟨g, 0, none⟩) (n * 2) (wf (rotL l K).reverse)) := Lib.hid (by
      have := HRZ.out
      rwa [List.length_reverse, hnr] at this)
    have hl2 : (rotL l K).reverse.length = n := by rw [List.length_reverse, hnr]
    have hpm : l.Perm (rotL l K).reverse := (rotL_perm l K).trans (List.reverse_perm _).symm
    clear HRV HRZ
    have hc5 := HO5.out.cap
    have hc9 := HO5.out.cap_le
    have HBZ : Hid (Below w.heap.size w z) := Lib.hid (HB1.out.trans (HBZ.out.mono HB1.out.size))
    obtain ⟨L2, hL2⟩ : ∃ L2, L2 = (rotL l K).reverse := ⟨_, rfl⟩
    rw [← hL2] at HRZ2 hl2 hpm
    clear hL2 hnr HO5 HB5
    have hmay : mayW L2 m = mayW l m := (may_perm hpm).symm
    have HSM : Hid (∀ s, s < tbN l m → (tabV l m.toNat s = -1 ∧ tabV L2 m.toNat s = -1) ∨ ∃ i j : Nat, tabV l m.toNat s = (i : Int) ∧ tabV L2 m.toNat s = (j : Int) ∧ i < n ∧ j < n ∧ (wa l i).s = (wa L2 j).s) := Lib.hid fun s hs => by
      have hy : mayW l m = true := by
        cases q : mayW l m with
        | true => rfl
        | false =>
          unfold tbN at hs
          rw [if_neg (by rw [q]; decide)] at hs
          omega
      have hok := mayW_iff.1 hy
      have h0 : 0 ≤ m := by
        have := hok.sz
        unfold szP at this
        simp only [Bool.and_eq_true, decide_eq_true_eq] at this
        omega
      have em : ((m.toNat : Nat) : Int) = m := by omega
      unfold tbN at hs
      rw [if_pos hy] at hs
      have q := tab_perm (l := l) (k := L2) (m := m.toNat) (by rw [em]; exact hok) hpm hs
      rw [← HNN.out, hl2] at q
      exact q
    have HPT1 : Hid (∀ W, Below z.heap.size z W → Calls Try.prog 15 #[.slice A n c, .int .i64 m] W fun e w' => ∃ T d, e = .returned (.tuple #[.slice T (tbN l m) d, .int .i64 (tbE l m)]) ∧ RdC w' w'.heap.size T (tbN l m) (iV (tabV l m.toNat)) ∧ Below W.heap.size W w') := Lib.hid fun W hb => by
      have q := HPTB.out l A c m W ⟨HL.out.cap, HL.out.top, by rw [← HNN.out]; omega, (((HL.out.rd.keep HBZ.out).more HBZ.out.size).keep hb).more hb.size⟩
      rw [← HNN.out] at q
      refine q.mono ?_
      rintro e w' ⟨T, d, rfl, _, _, hr, hb⟩
      exact ⟨T, d, rfl, hr, hb⟩
    have HPT2 : Hid (∀ W, Below z.heap.size z W → Calls Try.prog 15 #[.slice (some ⟨g, 0, none⟩) n c5, .int .i64 m] W fun e w' => ∃ T d, e = .returned (.tuple #[.slice T (tbN l m) d, .int .i64 (tbE l m)]) ∧ RdC w' w'.heap.size T (tbN l m) (iV (tabV L2 m.toNat)) ∧ Below W.heap.size W w') := Lib.hid fun W hb => by
      have q := HPTB.out L2 (some ⟨g, 0, none⟩) c5 m W ⟨by rw [hl2]; exact hc5, Nat.le_trans hc9 (by unfold maxLen; omega), by rw [hl2]; omega, by rw [hl2]; exact (HRZ2.out.keep hb).more hb.size⟩
      rw [hl2] at q
      refine q.mono ?_
      rintro e w' ⟨T, d, rfl, _, _, hr, hb⟩
      unfold tbN at hr ⊢
      unfold tbE
      rw [hmay] at hr ⊢
      exact ⟨T, d, rfl, hr, hb⟩
    have HLV : Hid (∀ W, Below z.heap.size z W → ∀ i j, i < n → j < n → (∃ a ao, A = some ⟨a, ao, none⟩ ∧ a < z.heap.size ∧ W.cell? ⟨a, ao + i * 2, none⟩ = some (.string (wa l i).s)) ∧ ∃ b bo, (some ⟨g, 0, none⟩ : Option Addr) = some ⟨b, bo, none⟩ ∧ b < z.heap.size ∧ W.cell? ⟨b, bo + j * 2, none⟩ = some (.string (wa L2 j).s)) := Lib.hid fun W hb i j hi hj => by
      refine ⟨?_, ?_⟩
      · rcases ((HL.out.rd.keep HBZ.out).more HBZ.out.size) with h0 | ⟨a, ao, e, ha, hca⟩
        · rw [← HNN.out] at h0; omega
        · exact ⟨a, ao, e, ha, by rw [hb.cell (p := ⟨a, ao + i * 2, none⟩) ha, hca _ (by rw [← HNN.out]; omega), wf_s]⟩
      · rcases HRZ2.out with h0 | ⟨b, bo, e, hb', hcb⟩
        · omega
        · exact ⟨b, bo, e, hb', by rw [hb.cell (p := ⟨b, bo + j * 2, none⟩) hb', hcb _ (by omega), wf_s]⟩
    have hLB : tbN l m ≤ 65537 := by
      unfold tbN
      split
      · rename_i q
        have hok := mayW_iff.1 q
        have := hok.sz
        unfold szP at this
        simp only [Bool.and_eq_true, decide_eq_true_eq] at this
        omega
      · omega
    obtain ⟨L, hL⟩ : ∃ L, L = tbN l m := ⟨_, rfl⟩
    obtain ⟨E, hE⟩ : ∃ E, E = tbE l m := ⟨_, rfl⟩
    rw [← hL] at HSM HPT1 HPT2 hLB
    rw [← hE] at HPT1 HPT2
    clear hL hE hc5 hc9 hl2 hpm hmay HRZ2
    go_upto_region 8 with (first
      | (go_at_call 15
         refine (HPT1.out _ (Below.refl _ _)).mono ?_
         rintro e y1 ⟨T1, d1, rfl, hr, hb⟩
         have HT1 := Lib.hid hr
         have HY1 := Lib.hid hb
         clear hr hb))
    go_upto_region 9 with (first
      | (go_at_call 15
         refine (HPT2.out _ HY1.out).mono ?_
         rintro e y2 ⟨T2, d2, rfl, hr, hb⟩
         have HT2 := Lib.hid hr
         have HY2 := Lib.hid (HY1.out.trans (hb.mono HY1.out.size))
         have HT1b := Lib.hid ((HT1.out.keep hb).more hb.size)
         clear hr hb))
    clear HPT1 HPT2 HT1 HY1
    have hEE : (E != E) = false := by simp
    have hLL : ((L : Int) != (L : Int)) = false := by simp
    go_wp2_with fail
    go_loopw [65] (fun vs wr => ∃ s : Nat, s ≤ L ∧ vs = .int .i64 (s : Int) ∧ Below y2.heap.size y2 wr) (fun vs _ => L - (intOf vs).toNat)
    case atStart => exact ⟨0, Nat.zero_le _, rfl, Below.refl _ _⟩
    case round =>
      obtain ⟨s, hs, rfl, hb⟩ := hrel
      have HBW := Lib.hid hb
      by_cases hsl : s < L
      · have l1 : (s : Int) < (L : Int) := by omega
        have s0 : (0 : Int) ≤ (s : Int) := by omega
        have s2 : ((s : Int)).toNat = s := by omega
        have zs : IntKind.i64.wrap ((s : Int) + 1) = (s : Int) + 1 := by rw [IntKind.wrap_i64]; omega
        rcases HT1b.out with h0 | ⟨t1, o1, rfl, ht1, hc1⟩
        · omega
        rcases HT2.out with h0 | ⟨t2, o2, rfl, ht2, hc2⟩
        · omega
        have xa := (hb.cell (p := ⟨t1, o1 + s, none⟩) ht1).trans (hc1 s hsl)
        have xb := (hb.cell (p := ⟨t2, o2 + s, none⟩) ht2).trans (hc2 s hsl)
        unfold iV at xa xb
        rcases HSM.out s hsl with ⟨e1, e2⟩ | ⟨i, j, e1, e2, hi, hj, hnm⟩
        · rw [e1] at xa
          rw [e2] at xb
          have d1 : ¬ (n : Int) ≤ -1 := by omega
          clear e1 e2 ht1 ht2 hc1 hc2 hb
          go_upto_region 14 with fail
          go_quiet (fail)
          go_wp2_with fail
          go_roundw
          case rel => exact ⟨s + 1, by omega, by go_num, below_drewN HBW.out _⟩
          case measure => simp [intOf]; omega
        · rw [e1] at xa
          rw [e2] at xb
          obtain ⟨⟨a, ao, ea, hal, hac⟩, ⟨b, bo, eb, hbl, hbc⟩⟩ := HLV.out wr (HY2.out.trans (hb.mono HY2.out.size)) i j hi hj
          subst ea
          injection eb with eb
          injection eb with eb eb2
          subst eb
          subst eb2
          rw [Nat.zero_add] at hbc
          rw [← hnm] at hbc
          obtain ⟨S, hS⟩ : ∃ S, S = (wa l i).s := ⟨_, rfl⟩
          rw [← hS] at hac hbc
          have i1 : (i : Int) < (n : Int) := by omega
          have i0 : (0 : Int) ≤ (i : Int) := by omega
          have i2 : ((i : Int)).toNat = i := by omega
          have j1 : (j : Int) < (n : Int) := by omega
          have j0 : (0 : Int) ≤ (j : Int) := by omega
          have j2 : ((j : Int)).toNat = j := by omega
          have f1 : ¬ (i : Int) < 0 := by omega
          have f2 : ¬ (j : Int) < 0 := by omega
          have f3 : ¬ (n : Int) ≤ (i : Int) := by omega
          have f4 : ¬ (n : Int) ≤ (j : Int) := by omega
          have hvv : (S.toList != S.toList) = false := by simp
          clear e1 e2 ht1 ht2 hc1 hc2 hb hS hnm hal hbl
          go_upto_region 14 with fail
          go_quiet (fail)
          go_wp2_with fail
          go_roundw
          case rel => exact ⟨s + 1, by omega, by go_num, below_drewN HBW.out _⟩
          case measure => simp [intOf]; omega
      · obtain rfl : L = s := by omega
        clear hb
        go_wp2_with (first
          | (go_at_call 7
             refine (HK.out _).mono ?_
             rintro e u9 ⟨rfl, hb⟩
             have HB9 := Lib.hid (HBW.out.trans (hb.mono HBW.out.size))
             clear hb))
        go_ret
        exact ⟨rfl, HBZ.out.trans ((HY2.out.trans (HB9.out.mono HY2.out.size)).mono HBZ.out.size)⟩
end Go.Proofs.Ytfchmmojhfjibaa
