import Derived.Test.YtkmakdhlaenaoaaGm43
/- Stage 11: the play's call: a copy is gone on with. -/
namespace Go.Proofs.Ytkmakdhlaenaoaa
set_option maxRecDepth 100000
open Go.RowKit Go.Shelf
section
variable {w W : World} {X : Nat → Prop} {b p q : Nat} {E : Option Addr} {hc tk : Nat} {hs : List (Nat × Nat)} {s : Wh} {m : Nat}
set_option maxHeartbeats 2000000 in
theorem call_6 (h : PL w X W b p q E hc hs tk s s) (hf : s.Fit m) (hm : m < 4611686018427387904) (hl : hs.length ≤ 65535) (hh : Int) (h9 : hh ≤ 9223372036854775807) (at_ what : Nat) (ha : at_ < 18446744073709551616) : Calls Try.prog 10 #[.pointer (some ⟨b, 0, none⟩), .agg #[.int .i64 6, .int .i64 hh, .int .u64 (at_ : Int), .int .u64 (what : Int)]] W (CallEnd w W X b hs tk m) := by
  obtain ⟨gi, gk, hform⟩ := hndOf_form hs hh what
  have HHF := Lib.hid hform
  have HF := Lib.hid hf
  have HP1 := Lib.hid (h.box (.cells #[.int .i64 6, .int .i64 hh, .int .u64 (at_ : Int), .int .u64 (what : Int)] 41))
  have HO1 : Hid ((W.alloc (.cells #[.int .i64 6, .int .i64 hh, .int .u64 (at_ : Int), .int .u64 (what : Int)] 41)).heap[W.heap.size]? = some (.cells #[.int .i64 6, .int .i64 hh, .int .u64 (at_ : Int), .int .u64 (what : Int)] 41 (0, 0))) := Lib.hid (heap_alloc_new W _)
  have HX1 : Hid (∀ j, X j → (W.alloc (.cells #[.int .i64 6, .int .i64 hh, .int .u64 (at_ : Int), .int .u64 (what : Int)] 41)).heap[j]? = W.heap[j]?) := Lib.hid fun j hj => (below_alloc W (.cells #[.int .i64 6, .int .i64 hh, .int .u64 (at_ : Int), .int .u64 (what : Int)] 41)).block j (h.xo j hj)
  obtain ⟨ob, hob⟩ : ∃ ob, ob = W.heap.size := ⟨_, rfl⟩
  rw [← hob] at HO1 HP1
  clear h hf hform
  go_enter Try.func10, Try.ntmps10
  go_upto_region 1 with fail
  change Code.wp _ _ _ _ (W.alloc (.cells #[.int .i64 6, .int .i64 hh, .int .u64 (at_ : Int), .int .u64 (what : Int)] 41))
  rw [← hob]
  clear hob
  generalize W.alloc (.cells #[.int .i64 6, .int .i64 hh, .int .u64 (at_ : Int), .int .u64 (what : Int)] 41) = u1 at *
  have HHD := Lib.hid (handle_all HP1.out hl (6) hh h9 at_ what)
  rw [HHF.out] at HHD
  go_upto_region 2 with (first
    | (refine wpList_load_row rfl 41 (.tmp 3) rfl ob rfl 41 #[.int .i64 6, .int .i64 hh, .int .u64 (at_ : Int), .int .u64 (what : Int)] (0, 0) _ HO1.out Try.underlying41 rfl (by kernel_rfl) ?_)
    | (go_at_call 24
       refine HHD.out.mono ?_
       rintro e u2 ⟨rfl, hb⟩
       have HP2 := Lib.hid (HP1.out.step hb)
       have HO2 := Lib.hid (box_step HO1.out hb)
       have HX2 : Hid (∀ j, X j → u2.heap[j]? = W.heap[j]?) := Lib.hid fun j hj => (hb.block j (HP1.out.xo j (.inl hj))).trans (HX1.out j hj)
       clear hb HP1 HO1 HX1 HHD))
  have HP := Lib.hid (HP2.out.box (.cells #[.int .i64 gi, .int .u64 (gk : Int)] 46))
  have HO := Lib.hid (box_step HO2.out (below_alloc u2 (.cells #[.int .i64 gi, .int .u64 (gk : Int)] 46)))
  have HH : Hid ((u2.alloc (.cells #[.int .i64 gi, .int .u64 (gk : Int)] 46)).heap[u2.heap.size]? = some (.cells #[.int .i64 gi, .int .u64 (gk : Int)] 46 (0, 0))) := Lib.hid (heap_alloc_new u2 _)
  have HX : Hid (∀ j, X j → (u2.alloc (.cells #[.int .i64 gi, .int .u64 (gk : Int)] 46)).heap[j]? = W.heap[j]?) := Lib.hid fun j hj => ((below_alloc u2 (.cells #[.int .i64 gi, .int .u64 (gk : Int)] 46)).block j (HP2.out.xo j (.inl hj))).trans (HX2.out j hj)
  clear HP2 HO2 HX2 HHF
  change Code.wp _ _ _ _ (u2.alloc (.cells #[.int .i64 gi, .int .u64 (gk : Int)] 46))
  generalize u2.heap.size = gb at *
  generalize u2.alloc (.cells #[.int .i64 gi, .int .u64 (gk : Int)] 46) = u3 at *
  have y0 : u3.cell? ⟨ob, 0, none⟩ = some (.int .i64 (6)) := blk_cell HO.out 0
  have y2 : u3.cell? ⟨ob, 2, none⟩ = some (.int .u64 (at_ : Int)) := blk_cell HO.out 2
  have y3 : u3.cell? ⟨ob, 3, none⟩ = some (.int .u64 (what : Int)) := blk_cell HO.out 3
  obtain ⟨F, hpw, _, _⟩ := HP.out.left
  have HC := Lib.hid (pw_copy hpw HF.out)
  have x0 : u3.cell? ⟨b, 0, none⟩ = some (.pointer (some ⟨p, 0, none⟩)) := blk_cell HP.out.blk 0
  clear hpw
  go_upto_region 15 with (first
    | (go_at_call 19
       refine HC.out.mono ?_
       rintro e u5 ⟨c, F4, rfl, hp4, hf4, hb4⟩
       have HC5 := Lib.hid hp4
       have HP5 : Hid (PL w (fun k => ((X k ∨ k = ob) ∨ k = gb) ∨ F4 k) u5 b p q E hc hs tk s s) := Lib.hid (HP.out.more hb4 hf4)
       have HW4 : Hid (∀ k, F4 k → w.heap.size ≤ k ∧ ¬ X k) := Lib.hid fun k hk => ⟨Nat.le_trans HP.out.below.size (hf4 k hk).1, fun hx => by have h1 := HP.out.xo k (.inl (.inl hx)); have h2 := (hf4 k hk).1; omega⟩
       have HH5 := Lib.hid (box_step HH.out hb4)
       have HO5 := Lib.hid (box_step HO.out hb4)
       have HX5 : Hid (∀ j, X j → u5.heap[j]? = W.heap[j]?) := Lib.hid fun j hj => (hb4.block j (HP.out.xo j (.inl (.inl hj)))).trans (HX.out j hj)
       clear hp4 hf4 hb4 HC x0 y0 y2 y3 HP HO HH HX))
  have x0 : u5.cell? ⟨b, 0, none⟩ = some (.pointer (some ⟨p, 0, none⟩)) := blk_cell HP5.out.blk 0
  have y2 : u5.cell? ⟨ob, 2, none⟩ = some (.int .u64 (at_ : Int)) := blk_cell HO5.out 2
  have HBL5 : Hid (b < u5.heap.size) := Lib.hid (lt_heap HP5.out.blk)
  have HOL5 : Hid (ob < u5.heap.size) := Lib.hid (lt_heap HO5.out)
  clear HO5
  refine wp_region_grow (C := fun W => Below u5.heap.size u5 W) 6 155 [val (.pointer (some ⟨b, 0, none⟩)), val (.pointer (some ⟨b, 0, none⟩)), val (.pointer (some ⟨b, 0, none⟩)), val (.pointer (some ⟨p, 0, none⟩)), val (.pointer (some ⟨ob, 2, none⟩)), val (.int .u64 (at_ : Int))] (by kernel_rfl) rfl (by kernel_rfl) rfl ⟨stb_val _, stb_val _, stb_val _, stb_val _, stb_val _, stb_val _, trivial⟩ (Below.refl _ _).drew ?_ ?_
  · refine each_cons ?_ ?_
    · intro a W hW hd
      have h0 : a.tmps[0]?.getD undef = .pointer (some ⟨b, 0, none⟩) := slot_eq (hd 0 (by decide))
      exact grows_value _ hW (by simp [execOp, Act.eval, h0]) rfl
    refine each_cons ?_ ?_
    · intro a W hW hd
      have h110 : a.tmps[110]?.getD undef = .pointer (some ⟨b, 0, none⟩) := slot_eq (hd 110 (by decide))
      refine grows_value _ hW (?_ : _ = _) rfl
      clear hd
      go_simp
    refine each_cons ?_ ?_
    · intro a W hW hd
      have h111 : a.tmps[111]?.getD undef = .pointer (some ⟨b, 0, none⟩) := slot_eq (hd 111 (by decide))
      refine grows_value _ hW (?_ : _ = _) rfl
      clear hd
      go_simp
    refine each_cons ?_ ?_
    · intro a W hW hd
      have h112 : a.tmps[112]?.getD undef = .pointer (some ⟨b, 0, none⟩) := slot_eq (hd 112 (by decide))
      have xx : W.cell? ⟨b, 0, none⟩ = some (.pointer (some ⟨p, 0, none⟩)) := (hW.cell (p := ⟨b, 0, none⟩) HBL5.out).trans x0
      refine grows_value _ hW (?_ : _ = _) rfl
      clear hd
      go_simp
    refine each_cons ?_ ?_
    · intro a W hW hd
      have h3 : a.tmps[3]?.getD undef = .pointer (some ⟨ob, 0, none⟩) := slot_eq (hd 3 (by decide))
      refine grows_value _ hW (?_ : _ = _) rfl
      clear hd
      go_simp
    refine each_cons ?_ ?_
    · intro a W hW hd
      have h114 : a.tmps[114]?.getD undef = .pointer (some ⟨ob, 2, none⟩) := slot_eq (hd 114 (by decide))
      have xx : W.cell? ⟨ob, 2, none⟩ = some (.int .u64 (at_ : Int)) := (hW.cell (p := ⟨ob, 2, none⟩) HOL5.out).trans y2
      refine grows_value _ hW (?_ : _ = _) rfl
      clear hd
      go_simp
    exact each_nil
  · refine behind_val rfl ?_
    refine behind_val rfl ?_
    refine behind_val rfl ?_
    refine behind_val rfl ?_
    refine behind_val rfl ?_
    refine behind_val rfl ?_
    refine behind_nil fun u6 hC6 hF6 => ?_
    clear hF6
    have HP6 := Lib.hid (HP5.out.step hC6)
    have HC6 := Lib.hid (HC5.out.keep (Kept.of_below hC6 fun _ => False) fun _ _ q => q)
    have HX6 : Hid (∀ j, X j → u6.heap[j]? = W.heap[j]?) := Lib.hid fun j hj => (hC6.block j (HP5.out.xo j (.inl (.inl (.inl hj))))).trans (HX5.out j hj)
    have HH6 := Lib.hid (box_step HH5.out hC6)
    clear hC6 x0 y2 HP5 HC5 HX5 HH5
    simp only [Act.put, List.setIfInBounds_toArray, List.set_cons_succ, List.set_cons_zero, List.drop_succ_cons, List.drop_zero]
    obtain ⟨F6, hpw, hfx, hleft⟩ := HP6.out.left
    have HLC := Lib.hid (pw_arm hpw HF.out at_ 1 ha)
    have HLT := Lib.hid hleft
    have HFX := Lib.hid hfx
    clear hpw hfx hleft
    go_upto_region 16 with (first
      | (go_at_call 15
         refine HLC.out.mono ?_
         rintro e u7 ⟨rfl, F7, hp', he'⟩
         have hh := HLT.out _ _ _ hp' he'
         have HP7 := Lib.hid hh.1
         have HC7 := Lib.hid (HC6.out.keep he'.kept fun k hf hF => (HFX.out k hF).1 (.inr hf))
         have HX7 : Hid (∀ j, X j → u7.heap[j]? = W.heap[j]?) := Lib.hid fun j hj => (hh.2 j (.inl (.inl (.inl hj)))).trans (HX6.out j hj)
         have HH7 := Lib.hid ((hh.2 gb (.inl (.inr rfl))).trans HH6.out)
         clear hh hp' he' HLC HLT HFX HP6 HC6 HX6 HH6))
    have x0 : u7.cell? ⟨b, 0, none⟩ = some (.pointer (some ⟨p, 0, none⟩)) := blk_cell HP7.out.blk 0
    have g0 : u7.cell? ⟨gb, 0, none⟩ = some (.int .i64 gi) := blk_cell HH7.out 0
    have g1 : u7.cell? ⟨gb, 1, none⟩ = some (.int .u64 (gk : Int)) := blk_cell HH7.out 1
    have HBL7 : Hid (b < u7.heap.size) := Lib.hid (lt_heap HP7.out.blk)
    have HGL7 : Hid (gb < u7.heap.size) := Lib.hid (lt_heap HH7.out)
    refine wp_region_grow (C := fun W => Below u7.heap.size u7 W) 5 155 [val (.pointer (some ⟨b, 0, none⟩)), val (.pointer (some ⟨b, 0, none⟩)), val (.pointer (some ⟨b, 0, none⟩)), val (.pointer (some ⟨p, 0, none⟩)), val (.agg #[.int .i64 gi, .int .u64 (gk : Int)])] (by kernel_rfl) rfl (by kernel_rfl) rfl ⟨stb_val _, stb_val _, stb_val _, stb_val _, stb_val _, trivial⟩ (Below.refl _ _).drew ?_ ?_
    · refine each_cons ?_ ?_
      · intro a W hW hd
        have h0 : a.tmps[0]?.getD undef = .pointer (some ⟨b, 0, none⟩) := slot_eq (hd 0 (by decide))
        exact grows_value _ hW (by simp [execOp, Act.eval, h0]) rfl
      refine each_cons ?_ ?_
      · intro a W hW hd
        have h117 : a.tmps[117]?.getD undef = .pointer (some ⟨b, 0, none⟩) := slot_eq (hd 117 (by decide))
        refine grows_value _ hW (?_ : _ = _) rfl
        clear hd
        go_simp
      refine each_cons ?_ ?_
      · intro a W hW hd
        have h118 : a.tmps[118]?.getD undef = .pointer (some ⟨b, 0, none⟩) := slot_eq (hd 118 (by decide))
        refine grows_value _ hW (?_ : _ = _) rfl
        clear hd
        go_simp
      refine each_cons ?_ ?_
      · intro a W hW hd
        have h119 : a.tmps[119]?.getD undef = .pointer (some ⟨b, 0, none⟩) := slot_eq (hd 119 (by decide))
        have xx : W.cell? ⟨b, 0, none⟩ = some (.pointer (some ⟨p, 0, none⟩)) := (hW.cell (p := ⟨b, 0, none⟩) HBL7.out).trans x0
        refine grows_value _ hW (?_ : _ = _) rfl
        clear hd
        go_simp
      refine each_cons ?_ ?_
      · intro a W hW hd
        have h5 : a.tmps[5]?.getD undef = .pointer (some ⟨gb, 0, none⟩) := slot_eq (hd 5 (by decide))
        have xx0 : W.cell? ⟨gb, 0, none⟩ = some (.int .i64 gi) := (hW.cell (p := ⟨gb, 0, none⟩) HGL7.out).trans g0
        have xx1 : W.cell? ⟨gb, 1, none⟩ = some (.int .u64 (gk : Int)) := (hW.cell (p := ⟨gb, 1, none⟩) HGL7.out).trans g1
        refine grows_value _ hW (?_ : _ = _) rfl
        clear hd
        go_simp
      exact each_nil
    · refine behind_val rfl ?_
      refine behind_val rfl ?_
      refine behind_val rfl ?_
      refine behind_val rfl ?_
      refine behind_val rfl ?_
      refine behind_nil fun u8 hC8 hF8 => ?_
      clear hF8
      have HP8 := Lib.hid (HP7.out.step hC8)
      have HC8 := Lib.hid (HC7.out.keep (Kept.of_below hC8 fun _ => False) fun _ _ q => q)
      have HX8 : Hid (∀ j, X j → u8.heap[j]? = W.heap[j]?) := Lib.hid fun j hj => (hC8.block j (HP7.out.xo j (.inl (.inl (.inl hj))))).trans (HX7.out j hj)
      clear hC8 x0 g0 g1 HP7 HC7 HX7
      simp only [Act.put, List.setIfInBounds_toArray, List.set_cons_succ, List.set_cons_zero, List.drop_succ_cons, List.drop_zero]
      obtain ⟨F8, hpw, hfx, hleft⟩ := HP8.out.left
      have HLC := Lib.hid (pw_cancel hpw (Wh.fit_arm HF.out hm ha 1) gi gk)
      have HLT := Lib.hid hleft
      have HFX := Lib.hid hfx
      clear hpw hfx hleft
      go_upto_region 17 with (first
        | (go_at_call 18
           refine HLC.out.mono ?_
           rintro e u9 ⟨rfl, F9, hp', he'⟩
           have hh := HLT.out _ _ _ hp' he'
           have HP9 := Lib.hid hh.1
           have HC9 := Lib.hid (HC8.out.keep he'.kept fun k hf hF => (HFX.out k hF).1 (.inr hf))
           have HX9 : Hid (∀ j, X j → u9.heap[j]? = W.heap[j]?) := Lib.hid fun j hj => (hh.2 j (.inl (.inl (.inl hj)))).trans (HX8.out j hj)
           clear hh hp' he' HLC HLT HFX HP8 HC8 HX8))
      obtain ⟨G, hdw, hsw⟩ := HP9.out.swap
      have HQC := Lib.hid (dw_copy hdw)
      have HSW := Lib.hid hsw
      have x1 : u9.cell? ⟨b, 1, none⟩ = some (.pointer (some ⟨q, 0, none⟩)) := blk_cell HP9.out.blk 1
      clear hdw hsw
      go_wp2_with (first
        | (go_at_call 30
           refine HQC.out.mono ?_
           rintro e v1 ⟨q2, G2, rfl, hq2, hg2, hb2⟩
           have hfin := HSW.out v1 q2 G2 hq2 hg2 hb2 c F4 HC9.out (fun k hk => ⟨.inr hk, (HW4.out k hk).1⟩) X (fun k hk => ⟨.inl (.inl (.inl hk)), fun hf => (HW4.out k hf).2 hk⟩)
           have HFN := Lib.hid hfin
           have HB1 := Lib.hid (box_step HP9.out.blk hb2)
           have z0 : v1.cell? ⟨b, 0, none⟩ = some (.pointer (some ⟨p, 0, none⟩)) := blk_cell HB1.out 0
           have f0 := blk_free HB1.out 0
           have z1 : (v1.setCell ⟨b, 0, none⟩ (.pointer (some ⟨c, 0, none⟩))).cell? ⟨b, 1, none⟩ = some (.pointer (some ⟨q, 0, none⟩)) := blk_cell (blk_set HB1.out 0 (.pointer (some ⟨c, 0, none⟩))) 1
           have f1 := blk_free (blk_set HB1.out 0 (.pointer (some ⟨c, 0, none⟩))) 1
           clear hfin hq2 hg2 hb2 HQC HSW x1))
      go_ret
      exact ⟨rfl, c, q2, E, hc, hs, tk, s, HFN.out.1, HF.out.more (by omega) (by omega), by omega, by omega, fun j hj => (HFN.out.2 j hj).trans (HX9.out j hj)⟩
end
end Go.Proofs.Ytkmakdhlaenaoaa
