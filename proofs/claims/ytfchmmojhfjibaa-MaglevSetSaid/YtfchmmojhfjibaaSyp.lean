/- Stage 19: the landed takers. -/
import Derived.Test.YtfchmmojhfjibaaSyo
import Derived.Test.YtfchmmojhfjibaaSyi
import Derived.Test.YtfchmmojhfjibaaPqw
import Derived.Test.YtfchmmojhfjibaaGrow
import Derived.Test.YtfchmmojhfjibaaStf
namespace Go.Proofs.Ytfchmmojhfjibaa
set_option maxRecDepth 100000
open Go.RowKit Go.Shelf
theorem Try.infoTKR : (Try.prog.info? 62).map (fun i => (i.zero, i.size, i.bytes)) = some (some (.agg #[.int .i64 0, .int .i64 0, .int .i64 0, .int .i64 0]), 4, 32) := by kernel_rfl
theorem tkF_one (l : List Wt) (m : Nat) (p : Nat → Nat) (x : Nat) : (tkF l m p x).oneCell' = true := by
  unfold tkF
  split
  · rfl
  · split
    · rfl
    · split <;> rfl
set_option maxHeartbeats 4000000 in
theorem ptakers_any (l : List Wt) (A : Option Addr) (c m : Nat) (w : World) (h : Lw w w.heap.size A c l) (h30 : l.length ≤ 30) (h16 : ∀ i, i < l.length → (wa l i).s.size ≤ 16) (hz : szP (m : Int) = true) : Calls Try.prog 28 #[.slice A l.length c, .int .i64 (m : Int)] w fun e w' => ∃ A2 c2, e = .returned (.slice A2 (ordL l).length c2) ∧ OwnC w' w.heap.size 62 4 A2 (ordL l).length c2 (tkF l m (fun _ => 0)) ∧ Below w.heap.size w w' := by
  have HL := Lib.hid h
  have H16 := Lib.hid h16
  clear h16
  have HO := Lib.hid (porder_any l A c w h h30)
  have HP : Hid (∀ (s : ByteArray) (W : World), s.size ≤ 16 → Calls Try.prog 40 #[.string s, .int .i64 (m : Int)] W (ret (.tuple #[.agg #[.int .i64 ((qB m s).1 : Int), .int .i64 ((qB m s).2 : Int), .int .i64 (m : Int)], .int .i64 0]) W)) := Lib.hid fun s W hs => by
    have q := peof_any s.size (strF s) (strF_byt s) (by omega) (m : Int) W
    rw [strF_eq] at q
    unfold peV peE at q
    rw [if_pos hz, if_pos hz, Int.toNat_natCast] at q
    exact q
  have HQ0 : Hid (∀ s, (qB m s).1 = slN (qB m s).1 (qB m s).2 m 0) := Lib.hid fun s => by
    unfold slN
    rw [Nat.zero_mul, Nat.add_zero, Nat.mod_eq_of_lt]
    exact Nat.mod_lt _ (by have := szP_le hz; omega)
  have HOL := Lib.hid fun k (hk : k < (ordL l).length) => ordL_lt hk
  have hO9 : (ordL l).length ≤ 30 := by have := ordN_len l l.length; unfold ordL; omega
  obtain ⟨P, hPP⟩ : ∃ P, P = (ordL l).length := ⟨_, rfl⟩
  have HT : Hid (∀ k, tkF l m (fun _ => 0) (k * 4) = .int .i64 (oa (ordL l) k : Int) ∧ tkF l m (fun _ => 0) (k * 4 + 1) = .int .i64 (wa l (oa (ordL l) k)).w ∧ tkF l m (fun _ => 0) (k * 4 + 2) = .int .i64 ((qB m (wa l (oa (ordL l) k)).s).1 : Int) ∧ tkF l m (fun _ => 0) (k * 4 + 3) = .int .i64 ((qB m (wa l (oa (ordL l) k)).s).2 : Int)) := Lib.hid fun k => by
    refine ⟨tkF_0 .., tkF_1 .., ?_, tkF_3 ..⟩
    rw [tkF_2]
    unfold qL
    rw [← HQ0.out]
  rw [← hPP] at HO HOL hO9 ⊢
  obtain ⟨it, hi0, hz0, hz1, hz2⟩ := info_parts Try.infoTKR
  have HI0 := Lib.hid hi0
  have HZ0 := Lib.hid hz0
  have HZ1 := Lib.hid hz1
  have HZ2 := Lib.hid hz2
  obtain ⟨n, hn⟩ : ∃ n, n = l.length := ⟨_, rfl⟩
  have HNN := Lib.hid hn
  rw [← hn] at HO HOL h30 ⊢
  clear h hn hPP hi0 hz0 hz1 hz2 hz HQ0
  go_enter Try.func28, Try.ntmps28
  go_wp2_with (first
    | (go_at_call 11
       refine HO.out.mono ?_
       rintro e w1 ⟨A3, c3, rfl, h1, h2, h3, h4⟩
       have HR1 := Lib.hid h3
       have HB1 := Lib.hid h4
       clear h1 h2 h3 h4))
  go_loopw [5, 7, 8, 9, 13] (fun vs _ _ _ vi wr => ∃ (j : Nat) (A4 : Option Addr) (c4 : Nat), j ≤ P ∧ vs = .slice A4 j c4 ∧ vi = .int .i64 (j : Int) ∧ OwnC wr w1.heap.size 62 4 A4 j c4 (tkF l m (fun _ => 0)) ∧ Below w1.heap.size w1 wr) (fun _ _ _ _ vi _ => P - (intOf vi).toNat)
  case atStart => exact ⟨0, none, 0, Nat.zero_le _, rfl, rfl, OwnC.nil_ _ _ _ _ _, Below.refl _ _⟩
  case round =>
    obtain ⟨j, A4, c4, hj, rfl, rfl, ho, hb⟩ := hrel
    have HO2 := Lib.hid ho
    have HB2 := Lib.hid hb
    by_cases hlt : j < P
    · have l1 : (j : Int) < (P : Int) := by omega
      have i0 : (0 : Int) ≤ (j : Int) := by omega
      have i2 : ((j : Int)).toNat = j := by omega
      have zi : IntKind.i64.wrap ((j : Int) + 1) = (j : Int) + 1 := by rw [IntKind.wrap_i64]; omega
      have hxo := (HOL.out j hlt).1
      rcases HR1.out with h0 | ⟨a, ao, rfl, ha, hca⟩
      · omega
      obtain ⟨lb, lo, rfl, hbb, hc⟩ := HL.out.at_ (i := oa (ordL l) j) (by rw [← HNN.out]; exact hxo)
      have xj : wr.cell? ⟨a, ao + j, none⟩ = some (.int .i64 (oa (ordL l) j : Int)) := (hb.cell (p := ⟨a, ao + j, none⟩) ha).trans (hca j hlt)
      have hbw : Below w.heap.size w wr := HB1.out.trans (hb.mono HB1.out.size)
      have hcx := hc (oa (ordL l) j) (by rw [← HNN.out]; exact hxo)
      have xs := (hbw.cell (p := ⟨lb, lo + oa (ordL l) j * 2, none⟩) hbb).trans hcx.1
      have xw := (hbw.cell (p := ⟨lb, lo + oa (ordL l) j * 2 + 1, none⟩) hbb).trans hcx.2
      have hT := HT.out j
      obtain ⟨x, hx⟩ : ∃ x, x = oa (ordL l) j := ⟨_, rfl⟩
      rw [← hx] at xj xs xw hT hxo
      obtain ⟨S, hS⟩ : ∃ S, S = (wa l x).s := ⟨_, rfl⟩
      obtain ⟨V, hV⟩ : ∃ V, V = (wa l x).w := ⟨_, rfl⟩
      rw [← hS] at xs hT
      rw [← hV] at xw hT
      have HPS := Lib.hid (HP.out S wr (by rw [hS]; exact H16.out x (by rw [← HNN.out]; exact hxo)))
      obtain ⟨qo, hqo⟩ : ∃ q, q = (qB m S).1 := ⟨_, rfl⟩
      obtain ⟨qk, hqk⟩ : ∃ q, q = (qB m S).2 := ⟨_, rfl⟩
      rw [← hqo, ← hqk] at HPS hT
      have HT0 : Hid (some (.int .i64 (x : Int)) = some (tkF l m (fun _ => 0) (j * 4 + 0))) := Lib.hid (by rw [Nat.add_zero, hT.1])
      have HT1 : Hid (some (.int .i64 V) = some (tkF l m (fun _ => 0) (j * 4 + 1))) := Lib.hid (by rw [hT.2.1])
      have HT2 : Hid (some (.int .i64 (qo : Int)) = some (tkF l m (fun _ => 0) (j * 4 + 2))) := Lib.hid (by rw [hT.2.2.1])
      have HT3 : Hid (some (.int .i64 (qk : Int)) = some (tkF l m (fun _ => 0) (j * 4 + 3))) := Lib.hid (by rw [hT.2.2.2])
      have x0 : (0 : Int) ≤ (x : Int) := by omega
      have x1 : (x : Int) < (n : Int) := by omega
      have x2 : ((x : Int)).toNat = x := by omega
      have hlw : lb < wr.heap.size := Nat.lt_of_lt_of_le hbb hbw.size
      have hbs : ∀ W : World, (Instr.buildSlice 46 1 #[(0, .agg #[.int .i64 (x : Int), .int .i64 V, .int .i64 (qo : Int), .int .i64 (qk : Int)])]).run Try.prog W = .ok (.slice (some ⟨W.heap.size, 0, none⟩) 1 1) (W.alloc (.cells #[.int .i64 (x : Int), .int .i64 V, .int .i64 (qo : Int), .int .i64 (qk : Int)] 62)) := fun W => by kernel_rfl
      clear hT hx hS hV hqo hqk hcx hbb hbw hc hca ha ho hb hxo
      go_upto_region 6 with (first
        | (go_at_call 40
           refine HPS.out.mono ?_
           rintro e u2 ⟨rfl, hb2⟩
           have HB3 := Lib.hid hb2
           clear hb2))
      change Code.wp _ _ _ _ (u2.alloc (.cells #[.int .i64 (qo : Int), .int .i64 (qk : Int), .int .i64 (m : Int)] 50))
      have h8 := heap_alloc_new u2 (.cells #[.int .i64 (qo : Int), .int .i64 (qk : Int), .int .i64 (m : Int)] 50)
      have HB4 := Lib.hid ((HB2.out.trans (HB3.out.mono HB2.out.size)).alloc (Nat.le_trans HB2.out.size HB3.out.size) (.cells #[.int .i64 (qo : Int), .int .i64 (qk : Int), .int .i64 (m : Int)] 50))
      have HO4 := Lib.hid ((HO2.out.below HB3.out).alloc (.cells #[.int .i64 (qo : Int), .int .i64 (qk : Int), .int .i64 (m : Int)] 50))
      have xw2 := ((below_alloc u2 (.cells #[.int .i64 (qo : Int), .int .i64 (qk : Int), .int .i64 (m : Int)] 50)).cell (p := ⟨lb, lo + x * 2 + 1, none⟩) (Nat.lt_of_lt_of_le hlw HB3.out.size)).trans ((HB3.out.cell (p := ⟨lb, lo + x * 2 + 1, none⟩) hlw).trans xw)
      have hl8 : lb < (u2.alloc (.cells #[.int .i64 (qo : Int), .int .i64 (qk : Int), .int .i64 (m : Int)] 50)).heap.size := Nat.lt_of_lt_of_le hlw (Nat.le_trans HB3.out.size (alloc_le u2 _))
      have HLB := Lib.hid hl8
      obtain ⟨b8, hb8⟩ : ∃ b, b = u2.heap.size := ⟨_, rfl⟩
      rw [← hb8] at h8 ⊢
      clear hb8 xj xs xw hlw hl8 HO2 HB2 HB3
      generalize u2.alloc (.cells #[.int .i64 (qo : Int), .int .i64 (qk : Int), .int .i64 (m : Int)] 50) = v4 at *
      have xw := xw2
      have xo := blk_cell h8 0
      have xk := blk_cell h8 1
      have HB8 := Lib.hid (lt_heap h8)
      clear xw2 h8
      go_upto_region 8 with fail
      refine wp_region_grow (C := fun W => Below v4.heap.size v4 W) 13 45 [val (.slice A4 j c4), val (.int .i64 (x : Int)), val (.slice (some ⟨lb, lo, none⟩) n c), val (.int .i64 (x : Int)), val (.pointer (some ⟨lb, lo + x * 2, none⟩)), val (.pointer (some ⟨lb, lo + x * 2 + 1, none⟩)), val (.int .i64 V), val (.pointer (some ⟨b8, 0, none⟩)), val (.int .i64 (qo : Int)), val (.pointer (some ⟨b8, 1, none⟩)), val (.int .i64 (qk : Int)), val (.agg #[.int .i64 (x : Int), .int .i64 V, .int .i64 (qo : Int), .int .i64 (qk : Int)]), fun v W => ∃ z, v = .slice (some ⟨z, 0, none⟩) 1 1 ∧ W.heap[z]? = some (.cells #[.int .i64 (x : Int), .int .i64 V, .int .i64 (qo : Int), .int .i64 (qk : Int)] 62 (0, 0)) ∧ v4.heap.size ≤ z] (by kernel_rfl) rfl (by kernel_rfl) rfl ⟨stb_val _, stb_val _, stb_val _, stb_val _, stb_val _, stb_val _, stb_val _, stb_val _, stb_val _, stb_val _, stb_val _, stb_val _, (fun v W W' h hb => by obtain ⟨z, h1, h2, h3⟩ := h; exact ⟨z, h1, (hb.block _ (lt_heap h2)).trans h2, h3⟩), trivial⟩ (Below.refl _ _).drew ?_ ?_
      · refine each_cons ?_ ?_
        · intro a W hW hd
          have h5 : a.tmps[5]?.getD undef = .slice A4 j c4 := slot_eq (hd 5 (by decide))
          exact grows_value _ hW (by simp [execOp, Act.eval, h5]) rfl
        refine each_cons ?_ ?_
        · intro a W hW hd
          have h7 : a.tmps[7]?.getD undef = .int .i64 (x : Int) := slot_eq (hd 7 (by decide))
          exact grows_value _ hW (by simp [execOp, Act.eval, h7]) rfl
        refine each_cons ?_ ?_
        · intro a W hW hd
          have h0 : a.tmps[0]?.getD undef = .slice (some ⟨lb, lo, none⟩) n c := slot_eq (hd 0 (by decide))
          exact grows_value _ hW (by simp [execOp, Act.eval, h0]) rfl
        refine each_cons ?_ ?_
        · intro a W hW hd
          have h7 : a.tmps[7]?.getD undef = .int .i64 (x : Int) := slot_eq (hd 7 (by decide))
          exact grows_value _ hW (by simp [execOp, Act.eval, h7]) rfl
        refine each_cons ?_ ?_
        · intro a W hW hd
          have h31 : a.tmps[31]?.getD undef = .slice (some ⟨lb, lo, none⟩) n c := slot_eq (hd 31 (by decide))
          have h32 : a.tmps[32]?.getD undef = .int .i64 (x : Int) := slot_eq (hd 32 (by decide))
          refine grows_value _ hW (?_ : _ = _) rfl
          clear hd
          go_simp
        refine each_cons ?_ ?_
        · intro a W hW hd
          have h33 : a.tmps[33]?.getD undef = .pointer (some ⟨lb, lo + x * 2, none⟩) := slot_eq (hd 33 (by decide))
          refine grows_value _ hW (?_ : _ = _) rfl
          clear hd
          go_simp
        refine each_cons ?_ ?_
        · intro a W hW hd
          have h34 : a.tmps[34]?.getD undef = .pointer (some ⟨lb, lo + x * 2 + 1, none⟩) := slot_eq (hd 34 (by decide))
          have xx : W.cell? ⟨lb, lo + x * 2 + 1, none⟩ = some (.int .i64 V) := (hW.cell (p := ⟨lb, lo + x * 2 + 1, none⟩) HLB.out).trans xw
          refine grows_value _ hW (?_ : _ = _) rfl
          clear hd
          go_simp
        refine each_cons ?_ ?_
        · intro a W hW hd
          have h8 : a.tmps[8]?.getD undef = .pointer (some ⟨b8, 0, none⟩) := slot_eq (hd 8 (by decide))
          refine grows_value _ hW (?_ : _ = _) rfl
          clear hd
          go_simp
        refine each_cons ?_ ?_
        · intro a W hW hd
          have h36 : a.tmps[36]?.getD undef = .pointer (some ⟨b8, 0, none⟩) := slot_eq (hd 36 (by decide))
          have xx : W.cell? ⟨b8, 0, none⟩ = some (.int .i64 (qo : Int)) := (hW.cell (p := ⟨b8, 0, none⟩) HB8.out).trans xo
          refine grows_value _ hW (?_ : _ = _) rfl
          clear hd
          go_simp
        refine each_cons ?_ ?_
        · intro a W hW hd
          have h8 : a.tmps[8]?.getD undef = .pointer (some ⟨b8, 0, none⟩) := slot_eq (hd 8 (by decide))
          refine grows_value _ hW (?_ : _ = _) rfl
          clear hd
          go_simp
        refine each_cons ?_ ?_
        · intro a W hW hd
          have h38 : a.tmps[38]?.getD undef = .pointer (some ⟨b8, 1, none⟩) := slot_eq (hd 38 (by decide))
          have xx : W.cell? ⟨b8, 1, none⟩ = some (.int .i64 (qk : Int)) := (hW.cell (p := ⟨b8, 1, none⟩) HB8.out).trans xk
          refine grows_value _ hW (?_ : _ = _) rfl
          clear hd
          go_simp
        refine each_cons ?_ ?_
        · intro a W hW hd
          have h30 : a.tmps[30]?.getD undef = .int .i64 (x : Int) := slot_eq (hd 30 (by decide))
          have h35 : a.tmps[35]?.getD undef = .int .i64 V := slot_eq (hd 35 (by decide))
          have h37 : a.tmps[37]?.getD undef = .int .i64 (qo : Int) := slot_eq (hd 37 (by decide))
          have h39 : a.tmps[39]?.getD undef = .int .i64 (qk : Int) := slot_eq (hd 39 (by decide))
          refine grows_value _ hW (?_ : _ = _) rfl
          clear hd
          go_simp
        refine each_cons ?_ ?_
        · intro a W hW hd
          have h40 : a.tmps[40]?.getD undef = .agg #[.int .i64 (x : Int), .int .i64 V, .int .i64 (qo : Int), .int .i64 (qk : Int)] := slot_eq (hd 40 (by decide))
          refine grows_new (w' := W.alloc (.cells #[.int .i64 (x : Int), .int .i64 V, .int .i64 (qo : Int), .int .i64 (qk : Int)] 62)) (.slice (some ⟨W.heap.size, 0, none⟩) 1 1) (?_ : _ = _) ⟨W.heap.size, rfl, heap_alloc_new W _, hW.size⟩ (below_alloc W _) (hW.alloc hW.size _)
          have hb := hbs W
          clear hd
          simp only [execOp, Act.eval, Array.getD_eq_getD_getElem?, h40, Sem.run_bind, List.map_toArray, List.map_cons, List.map_nil, hb, Result.andThen_ok]
          rfl
        exact each_nil
      · refine behind_val rfl ?_
        refine behind_val rfl ?_
        refine behind_val rfl ?_
        refine behind_val rfl ?_
        refine behind_val rfl ?_
        refine behind_val rfl ?_
        refine behind_val rfl ?_
        refine behind_val rfl ?_
        refine behind_val rfl ?_
        refine behind_val rfl ?_
        refine behind_val rfl ?_
        refine behind_val rfl ?_
        refine behind_cons fun v41 => ?_
        refine behind_nil fun W5 hCW5 hFW5 => ?_
        simp only [Act.put, List.setIfInBounds_toArray, List.set_cons_succ, List.set_cons_zero, List.drop_succ_cons, List.drop_zero]
        obtain ⟨_, z, rfl, hz, hzl⟩ := hFW5
        clear xw xo xk hbs
        have HO5 := Lib.hid (HO4.out.below hCW5)
        have HB5 := Lib.hid (HB4.out.trans (hCW5.mono HB4.out.size))
        have HZB := Lib.hid hz
        have HR5 : Hid (RdC W5 W5.heap.size (some ⟨z, 0, none⟩) (1 * 4) (fun k => tkF l m (fun _ => 0) (j * 4 + k))) := Lib.hid (.inr ⟨z, 0, rfl, lt_heap hz, fun k hk => by
          rw [Nat.zero_add]
          rcases (show k = 0 ∨ k = 1 ∨ k = 2 ∨ k = 3 by omega) with rfl | rfl | rfl | rfl
          · exact (blk_cell hz 0).trans HT0.out
          · exact (blk_cell hz 1).trans HT1.out
          · exact (blk_cell hz 2).trans HT2.out
          · exact (blk_cell hz 3).trans HT3.out⟩)
        have HSZ5 := Lib.hid HB5.out.size
        clear hCW5 hz hzl HO4 HB4
        go_wp2_with (first
          | (at_builtin
             refine wpList_append_vals rfl (.tmp 29) (.tmp 41) 46 rfl w1.heap.size 62 it (.agg #[.int .i64 0, .int .i64 0, .int .i64 0, .int .i64 0]) 4 Try.underlying46 HI0.out HZ0.out HZ1.out rfl (by decide) rfl HO5.out rfl HR5.out (fun k _ => tkF_one _ _ _ _) (by unfold maxLen; omega) (by rw [HZ2.out]; omega) HSZ5.out ?_
             intro A6 c6 v6 hown hg _
             have HO6 : Hid (OwnC v6 w1.heap.size 62 4 A6 (j + 1) c6 (tkF l m (fun _ => 0))) := Lib.hid (hown.same fun k hk => by
               unfold catV
               by_cases q : k < j * 4
               · rw [if_pos q]
               · rw [if_neg q]
                 show _ = tkF l m (fun _ => 0) (j * 4 + (k - j * 4))
                 rw [show j * 4 + (k - j * 4) = k by omega])
             have HB6 : Hid (Below w1.heap.size w1 v6) := Lib.hid (HB5.out.grown hg HB5.out.size fun k hk => HO5.out.at_ k hk)
             clear hown hg))
        go_roundw
        case rel => exact ⟨j + 1, A6, c6, by omega, rfl, by go_num, HO6.out, HB6.out⟩
        case measure => simp [intOf]; omega
    · obtain rfl : j = P := by omega
      have l1 : ¬ (j : Int) < (j : Int) := by omega
      clear ho hb
      go_wp2_with fail
      go_ret
      exact ⟨A4, c4, rfl, HO2.out.le HB1.out.size, HB1.out.trans (HB2.out.mono HB1.out.size)⟩
end Go.Proofs.Ytfchmmojhfjibaa
