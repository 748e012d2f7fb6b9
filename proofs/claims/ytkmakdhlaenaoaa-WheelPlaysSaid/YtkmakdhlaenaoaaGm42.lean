import Derived.Test.YtkmakdhlaenaoaaGm39
/- Stage 11: the play's call: a copy is changed, and left. -/
namespace Go.Proofs.Ytkmakdhlaenaoaa
set_option maxRecDepth 100000
open Go.RowKit Go.Shelf
section
variable {w W : World} {X : Nat → Prop} {b p q : Nat} {E : Option Addr} {hc tk : Nat} {hs : List (Nat × Nat)} {s : Wh} {m : Nat}
set_option maxHeartbeats 1000000 in
theorem call_7 (h : PL w X W b p q E hc hs tk s s) (hf : s.Fit m) (hm : m < 4611686018427387904) (hl : hs.length ≤ 65535) (hh : Int) (h9 : hh ≤ 9223372036854775807) (at_ what : Nat) (ha : at_ < 18446744073709551616) : Calls Try.prog 10 #[.pointer (some ⟨b, 0, none⟩), .agg #[.int .i64 7, .int .i64 hh, .int .u64 (at_ : Int), .int .u64 (what : Int)]] W (CallEnd w W X b hs tk m) := by
  obtain ⟨gi, gk, hform⟩ := hndOf_form hs hh what
  have HHF := Lib.hid hform
  have HF := Lib.hid hf
  have HP1 := Lib.hid (h.box (.cells #[.int .i64 7, .int .i64 hh, .int .u64 (at_ : Int), .int .u64 (what : Int)] 41))
  have HO1 : Hid ((W.alloc (.cells #[.int .i64 7, .int .i64 hh, .int .u64 (at_ : Int), .int .u64 (what : Int)] 41)).heap[W.heap.size]? = some (.cells #[.int .i64 7, .int .i64 hh, .int .u64 (at_ : Int), .int .u64 (what : Int)] 41 (0, 0))) := Lib.hid (heap_alloc_new W _)
  have HX1 : Hid (∀ j, X j → (W.alloc (.cells #[.int .i64 7, .int .i64 hh, .int .u64 (at_ : Int), .int .u64 (what : Int)] 41)).heap[j]? = W.heap[j]?) := Lib.hid fun j hj => (below_alloc W (.cells #[.int .i64 7, .int .i64 hh, .int .u64 (at_ : Int), .int .u64 (what : Int)] 41)).block j (h.xo j hj)
  obtain ⟨ob, hob⟩ : ∃ ob, ob = W.heap.size := ⟨_, rfl⟩
  rw [← hob] at HO1 HP1
  clear h hf hform
  go_enter Try.func10, Try.ntmps10
  go_upto_region 1 with fail
  change Code.wp _ _ _ _ (W.alloc (.cells #[.int .i64 7, .int .i64 hh, .int .u64 (at_ : Int), .int .u64 (what : Int)] 41))
  rw [← hob]
  clear hob
  generalize W.alloc (.cells #[.int .i64 7, .int .i64 hh, .int .u64 (at_ : Int), .int .u64 (what : Int)] 41) = u1 at *
  have HHD := Lib.hid (handle_all HP1.out hl (7) hh h9 at_ what)
  rw [HHF.out] at HHD
  go_upto_region 2 with (first
    | (refine wpList_load_row rfl 41 (.tmp 3) rfl ob rfl 41 #[.int .i64 7, .int .i64 hh, .int .u64 (at_ : Int), .int .u64 (what : Int)] (0, 0) _ HO1.out Try.underlying41 rfl (by kernel_rfl) ?_)
    | (go_at_call 24
       refine HHD.out.mono ?_
       rintro e u2 ⟨rfl, hb⟩
       have HP2 := Lib.hid (HP1.out.step hb)
       have HO2 := Lib.hid (box_step HO1.out hb)
       have HX2 : Hid (∀ j, X j → u2.heap[j]? = W.heap[j]?) := Lib.hid fun j hj => (hb.block j (HP1.out.xo j (.inl hj))).trans (HX1.out j hj)
       clear hb HP1 HO1 HX1 HHD))
  have HP := Lib.hid (HP2.out.box (.cells #[.int .i64 gi, .int .u64 (gk : Int)] 46))
  have HO := Lib.hid (box_step HO2.out (below_alloc u2 (.cells #[.int .i64 gi, .int .u64 (gk : Int)] 46)))
  have HH : Hid ((u2.alloc (.cells #[.int .i64 gi, .int .u64 (gk : Int)] 46)).heap[u2.heap.size]? = some (.cells #[.int .i64 gi, .int .u64 (gk : Int)] 46 (0, 0))) := Lib.hid (heap_alloc_new u2 _)
  have HX : Hid (∀ j, X j → (u2.alloc (.cells #[.int .i64 gi, .int .u64 (gk : Int)] 46)).heap[j]? = W.heap[j]?) := Lib.hid fun j hj => ((below_alloc u2 (.cells #[.int .i64 gi, .int .u64 (gk : Int)] 46)).block j (HP2.out.xo j (.inl hj))).trans (HX2.out j hj)
  clear HP2 HO2 HX2 HHF
  change Code.wp _ _ _ _ (u2.alloc (.cells #[.int .i64 gi, .int .u64 (gk : Int)] 46))
  generalize u2.heap.size = gb at *
  generalize u2.alloc (.cells #[.int .i64 gi, .int .u64 (gk : Int)] 46) = u3 at *
  have y0 : u3.cell? ⟨ob, 0, none⟩ = some (.int .i64 (7)) := blk_cell HO.out 0
  have y2 : u3.cell? ⟨ob, 2, none⟩ = some (.int .u64 (at_ : Int)) := blk_cell HO.out 2
  have y3 : u3.cell? ⟨ob, 3, none⟩ = some (.int .u64 (what : Int)) := blk_cell HO.out 3
  obtain ⟨F, hpw, _, _⟩ := HP.out.left
  have HC := Lib.hid (pw_copy hpw HF.out)
  have x0 : u3.cell? ⟨b, 0, none⟩ = some (.pointer (some ⟨p, 0, none⟩)) := blk_cell HP.out.blk 0
  clear hpw
  go_upto_region 20 with (first
    | (go_at_call 19
       refine HC.out.mono ?_
       rintro e u4 ⟨c, F4, rfl, hp4, hf4, hb4⟩
       have HC4 := Lib.hid hp4
       have HF4 := Lib.hid hf4
       have HB4 := Lib.hid hb4
       have HH4 := Lib.hid (box_step HH.out hb4)
       clear hp4 hf4 hb4 HC x0))
  have g0 : u4.cell? ⟨gb, 0, none⟩ = some (.int .i64 gi) := blk_cell HH4.out 0
  have g1 : u4.cell? ⟨gb, 1, none⟩ = some (.int .u64 (gk : Int)) := blk_cell HH4.out 1
  go_upto_region 21 with (first
    | (go_at_call 18
       refine (pw_cancel HC4.out HF.out gi gk).mono ?_
       rintro e u5 ⟨rfl, F5, hp5, he5⟩
       have HC5 := Lib.hid hp5
       have HF5 : Hid (∀ k, F5 k → u3.heap.size ≤ k) := Lib.hid fun k hk => (he5.sub k hk).elim (fun q => (HF4.out k q).1) fun q => Nat.le_trans HB4.out.size q.1
       have HB5 := Lib.hid (HB4.out.trans (he5.kept.below HB4.out.size fun k hk => (HF4.out k hk).1))
       clear hp5 he5 HC4 HF4 HB4 g0 g1))
  go_wp2_with (first
    | (go_at_call 16
       refine (pw_tick HC5.out (Wh.fit_cancel HF.out gi gk)).mono ?_
       rintro e u6 ⟨A1, d1, rfl, _, F6, hp6, he6, _⟩
       have HB6 := Lib.hid (HB5.out.trans (he6.kept.below HB5.out.size fun k hk => HF5.out k hk))
       clear hp6 he6))
  go_ret
  have HPE := HP.out.step HB6.out
  exact ⟨rfl, p, q, E, hc, hs, tk, s, HPE.less fun j hj => .inl (.inl hj), HF.out.more (by omega) (by omega), by omega, by omega, fun j hj => (HB6.out.block j (HP.out.xo j (.inl (.inl hj)))).trans (HX.out j hj)⟩
end
end Go.Proofs.Ytkmakdhlaenaoaa
