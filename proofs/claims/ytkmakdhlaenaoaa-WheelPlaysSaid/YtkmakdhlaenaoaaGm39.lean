import Derived.Test.YtkmakdhlaenaoaaGm38
/- Stage 11: the play's call: arms, ticks, nothing. -/
namespace Go.Proofs.Ytkmakdhlaenaoaa
set_option maxRecDepth 100000
open Go.RowKit Go.Shelf
theorem hndOf_form (hs : List (Nat × Nat)) (hh : Int) (what : Nat) : ∃ (gi : Int) (gk : Nat), hndOf hs hh what = #[.int .i64 gi, .int .u64 (gk : Int)] := by
  unfold hndOf
  split
  · exact ⟨_, _, rfl⟩
  · exact ⟨_, _, rfl⟩
/-- How a call of the play ends. -/
def CallEnd (w W : World) (X : Nat → Prop) (b : Nat) (hs : List (Nat × Nat)) (tk m : Nat) (e : Ending) (w' : World) : Prop :=
  e = .returned (.bool true) ∧ ∃ p' q' E' hc' hs' tk' s', PL w X w' b p' q' E' hc' hs' tk' s' s' ∧ s'.Fit (m + 1) ∧ hs'.length ≤ hs.length + 1 ∧ tk' ≤ tk + 70001 ∧ ∀ j, X j → w'.heap[j]? = W.heap[j]?
section
variable {w W : World} {X : Nat → Prop} {b p q : Nat} {E : Option Addr} {hc tk : Nat} {hs : List (Nat × Nat)} {s t : Wh} {m : Nat}
theorem handle_all (h : PL w X W b p q E hc hs tk s t) (hl : hs.length ≤ 65535) (κ hh : Int) (h9 : hh ≤ 9223372036854775807) (at_ what : Nat) : Calls Try.prog 24 #[.pointer (some ⟨b, 0, none⟩), .agg #[.int .i64 κ, .int .i64 hh, .int .u64 (at_ : Int), .int .u64 (what : Int)]] W (ret (.agg (hndOf hs hh what)) W) := by
  by_cases h0 : 0 < hs.length ∧ 0 ≤ hh
  · exact handle_some h (by omega) κ hh h9 at_ what h0.1 h0.2
  · exact handle_any h κ hh at_ what h0
/-- The document's tick of now, in memory. -/
theorem PL.nowc (h : PL w X W b p q E hc hs tk s t) : W.cell? ⟨q, 2, none⟩ = some (.int .u64 (t.now : Int)) ∧ q < W.heap.size := by
  obtain ⟨F, G, _, ⟨r, B, d, hx⟩, _⟩ := h.st
  exact ⟨blk_cell hx.blk 2, lt_heap hx.blk⟩
set_option maxHeartbeats 1000000 in
theorem call_8 (h : PL w X W b p q E hc hs tk s s) (hf : s.Fit m) (hm : m < 4611686018427387904) (hl : hs.length ≤ 65535) (hh : Int) (h9 : hh ≤ 9223372036854775807) (at_ what : Nat) (ha : at_ < 18446744073709551616) : Calls Try.prog 10 #[.pointer (some ⟨b, 0, none⟩), .agg #[.int .i64 8, .int .i64 hh, .int .u64 (at_ : Int), .int .u64 (what : Int)]] W (CallEnd w W X b hs tk m) := by
  obtain ⟨gi, gk, hform⟩ := hndOf_form hs hh what
  have HHF := Lib.hid hform
  have HF := Lib.hid hf
  have HP1 := Lib.hid (h.box (.cells #[.int .i64 8, .int .i64 hh, .int .u64 (at_ : Int), .int .u64 (what : Int)] 41))
  have HO1 : Hid ((W.alloc (.cells #[.int .i64 8, .int .i64 hh, .int .u64 (at_ : Int), .int .u64 (what : Int)] 41)).heap[W.heap.size]? = some (.cells #[.int .i64 8, .int .i64 hh, .int .u64 (at_ : Int), .int .u64 (what : Int)] 41 (0, 0))) := Lib.hid (heap_alloc_new W _)
  have HX1 : Hid (∀ j, X j → (W.alloc (.cells #[.int .i64 8, .int .i64 hh, .int .u64 (at_ : Int), .int .u64 (what : Int)] 41)).heap[j]? = W.heap[j]?) := Lib.hid fun j hj => (below_alloc W (.cells #[.int .i64 8, .int .i64 hh, .int .u64 (at_ : Int), .int .u64 (what : Int)] 41)).block j (h.xo j hj)
  obtain ⟨ob, hob⟩ : ∃ ob, ob = W.heap.size := ⟨_, rfl⟩
  rw [← hob] at HO1 HP1
  clear h hf hform
  go_enter Try.func10, Try.ntmps10
  go_upto_region 1 with fail
  change Code.wp _ _ _ _ (W.alloc (.cells #[.int .i64 8, .int .i64 hh, .int .u64 (at_ : Int), .int .u64 (what : Int)] 41))
  rw [← hob]
  clear hob
  generalize W.alloc (.cells #[.int .i64 8, .int .i64 hh, .int .u64 (at_ : Int), .int .u64 (what : Int)] 41) = u1 at *
  have HHD := Lib.hid (handle_all HP1.out hl (8) hh h9 at_ what)
  rw [HHF.out] at HHD
  go_upto_region 2 with (first
    | (refine wpList_load_row rfl 41 (.tmp 3) rfl ob rfl 41 #[.int .i64 8, .int .i64 hh, .int .u64 (at_ : Int), .int .u64 (what : Int)] (0, 0) _ HO1.out Try.underlying41 rfl (by kernel_rfl) ?_)
    | (go_at_call 24
       refine HHD.out.mono ?_
       rintro e u2 ⟨rfl, hb⟩
       have HP2 := Lib.hid (HP1.out.step hb)
       have HO2 := Lib.hid (box_step HO1.out hb)
       have HX2 : Hid (∀ j, X j → u2.heap[j]? = W.heap[j]?) := Lib.hid fun j hj => (hb.block j (HP1.out.xo j (.inl hj))).trans (HX1.out j hj)
       clear hb HP1 HO1 HX1 HHD))
  have HP := Lib.hid (HP2.out.box (.cells #[.int .i64 gi, .int .u64 (gk : Int)] 46))
  have HO := Lib.hid (box_step HO2.out (below_alloc u2 (.cells #[.int .i64 gi, .int .u64 (gk : Int)] 46)))
  have HH : Hid ((u2.alloc (.cells #[.int .i64 gi, .int .u64 (gk : Int)] 46)).heap[u2.heap.size]? = some (.cells #[.int .i64 gi, .int .u64 (gk : Int)] 46 (0, 0))) := Lib.hid (heap_alloc_new u2 _)
  have HX : Hid (∀ j, X j → (u2.alloc (.cells #[.int .i64 gi, .int .u64 (gk : Int)] 46)).heap[j]? = W.heap[j]?) := Lib.hid fun j hj => ((below_alloc u2 (.cells #[.int .i64 gi, .int .u64 (gk : Int)] 46)).block j (HP2.out.xo j (.inl hj))).trans (HX2.out j hj)
  clear HP2 HO2 HX2 HHF
  change Code.wp _ _ _ _ (u2.alloc (.cells #[.int .i64 gi, .int .u64 (gk : Int)] 46))
  generalize u2.heap.size = gb at *
  generalize u2.alloc (.cells #[.int .i64 gi, .int .u64 (gk : Int)] 46) = u3 at *
  have y0 : u3.cell? ⟨ob, 0, none⟩ = some (.int .i64 (8)) := blk_cell HO.out 0
  have y2 : u3.cell? ⟨ob, 2, none⟩ = some (.int .u64 (at_ : Int)) := blk_cell HO.out 2
  have y3 : u3.cell? ⟨ob, 3, none⟩ = some (.int .u64 (what : Int)) := blk_cell HO.out 3
  go_wp2_with (first
    | (go_at_call 25
       refine (play_arm HP.out HF.out (by omega) at_ what ha).mono ?_
       rintro e u5 ⟨rfl, E', hc', hs', hp', hlen', hx'⟩
       have HPE := Lib.hid hp'
       have HXE : Hid (∀ j, X j → u5.heap[j]? = W.heap[j]?) := Lib.hid fun j hj => (hx' j (.inl (.inl hj))).trans (HX.out j hj)
       clear hp' hx'))
  go_ret
  exact ⟨rfl, p, q, E', hc', hs', tk, s.arm at_ what, HPE.out.less fun j hj => .inl (.inl hj), Wh.fit_arm HF.out hm ha what, hlen', by omega, HXE.out⟩
set_option maxHeartbeats 1000000 in
theorem call_1 (h : PL w X W b p q E hc hs tk s s) (hf : s.Fit m) (hm : m < 4611686018427387904) (hl : hs.length ≤ 65535) (hh : Int) (h9 : hh ≤ 9223372036854775807) (at_ what : Nat) (ha : at_ < 18446744073709551616) : Calls Try.prog 10 #[.pointer (some ⟨b, 0, none⟩), .agg #[.int .i64 1, .int .i64 hh, .int .u64 (at_ : Int), .int .u64 (what : Int)]] W (CallEnd w W X b hs tk m) := by
  obtain ⟨a2, ha2'⟩ : ∃ a2, a2 = (s.now + at_) % 18446744073709551616 := ⟨_, rfl⟩
  have ha2 : a2 < 18446744073709551616 := by omega
  have za : IntKind.u64.wrap ((s.now : Int) + (at_ : Int)) = (a2 : Int) := by rw [IntKind.wrap_u64]; omega
  clear ha2'
  obtain ⟨gi, gk, hform⟩ := hndOf_form hs hh what
  have HHF := Lib.hid hform
  have HF := Lib.hid hf
  have HP1 := Lib.hid (h.box (.cells #[.int .i64 1, .int .i64 hh, .int .u64 (at_ : Int), .int .u64 (what : Int)] 41))
  have HO1 : Hid ((W.alloc (.cells #[.int .i64 1, .int .i64 hh, .int .u64 (at_ : Int), .int .u64 (what : Int)] 41)).heap[W.heap.size]? = some (.cells #[.int .i64 1, .int .i64 hh, .int .u64 (at_ : Int), .int .u64 (what : Int)] 41 (0, 0))) := Lib.hid (heap_alloc_new W _)
  have HX1 : Hid (∀ j, X j → (W.alloc (.cells #[.int .i64 1, .int .i64 hh, .int .u64 (at_ : Int), .int .u64 (what : Int)] 41)).heap[j]? = W.heap[j]?) := Lib.hid fun j hj => (below_alloc W (.cells #[.int .i64 1, .int .i64 hh, .int .u64 (at_ : Int), .int .u64 (what : Int)] 41)).block j (h.xo j hj)
  obtain ⟨ob, hob⟩ : ∃ ob, ob = W.heap.size := ⟨_, rfl⟩
  rw [← hob] at HO1 HP1
  clear h hf hform
  go_enter Try.func10, Try.ntmps10
  go_upto_region 1 with fail
  change Code.wp _ _ _ _ (W.alloc (.cells #[.int .i64 1, .int .i64 hh, .int .u64 (at_ : Int), .int .u64 (what : Int)] 41))
  rw [← hob]
  clear hob
  generalize W.alloc (.cells #[.int .i64 1, .int .i64 hh, .int .u64 (at_ : Int), .int .u64 (what : Int)] 41) = u1 at *
  have HHD := Lib.hid (handle_all HP1.out hl (1) hh h9 at_ what)
  rw [HHF.out] at HHD
  go_upto_region 2 with (first
    | (refine wpList_load_row rfl 41 (.tmp 3) rfl ob rfl 41 #[.int .i64 1, .int .i64 hh, .int .u64 (at_ : Int), .int .u64 (what : Int)] (0, 0) _ HO1.out Try.underlying41 rfl (by kernel_rfl) ?_)
    | (go_at_call 24
       refine HHD.out.mono ?_
       rintro e u2 ⟨rfl, hb⟩
       have HP2 := Lib.hid (HP1.out.step hb)
       have HO2 := Lib.hid (box_step HO1.out hb)
       have HX2 : Hid (∀ j, X j → u2.heap[j]? = W.heap[j]?) := Lib.hid fun j hj => (hb.block j (HP1.out.xo j (.inl hj))).trans (HX1.out j hj)
       clear hb HP1 HO1 HX1 HHD))
  have HP := Lib.hid (HP2.out.box (.cells #[.int .i64 gi, .int .u64 (gk : Int)] 46))
  have HO := Lib.hid (box_step HO2.out (below_alloc u2 (.cells #[.int .i64 gi, .int .u64 (gk : Int)] 46)))
  have HH : Hid ((u2.alloc (.cells #[.int .i64 gi, .int .u64 (gk : Int)] 46)).heap[u2.heap.size]? = some (.cells #[.int .i64 gi, .int .u64 (gk : Int)] 46 (0, 0))) := Lib.hid (heap_alloc_new u2 _)
  have HX : Hid (∀ j, X j → (u2.alloc (.cells #[.int .i64 gi, .int .u64 (gk : Int)] 46)).heap[j]? = W.heap[j]?) := Lib.hid fun j hj => ((below_alloc u2 (.cells #[.int .i64 gi, .int .u64 (gk : Int)] 46)).block j (HP2.out.xo j (.inl hj))).trans (HX2.out j hj)
  clear HP2 HO2 HX2 HHF
  change Code.wp _ _ _ _ (u2.alloc (.cells #[.int .i64 gi, .int .u64 (gk : Int)] 46))
  generalize u2.heap.size = gb at *
  generalize u2.alloc (.cells #[.int .i64 gi, .int .u64 (gk : Int)] 46) = u3 at *
  have y0 : u3.cell? ⟨ob, 0, none⟩ = some (.int .i64 (1)) := blk_cell HO.out 0
  have y2 : u3.cell? ⟨ob, 2, none⟩ = some (.int .u64 (at_ : Int)) := blk_cell HO.out 2
  have y3 : u3.cell? ⟨ob, 3, none⟩ = some (.int .u64 (what : Int)) := blk_cell HO.out 3
  have x1 : u3.cell? ⟨b, 1, none⟩ = some (.pointer (some ⟨q, 0, none⟩)) := blk_cell HP.out.blk 1
  have xn := HP.out.nowc.1
  have HQL := Lib.hid HP.out.nowc.2
  have HBL : Hid (b < u3.heap.size) := Lib.hid (lt_heap HP.out.blk)
  have HOL : Hid (ob < u3.heap.size) := Lib.hid (lt_heap HO.out)
  go_upto_region 4 with fail
  refine wp_region_grow (C := fun W => Below u3.heap.size u3 W) 13 155 [val (.pointer (some ⟨b, 0, none⟩)), val (.pointer (some ⟨b, 0, none⟩)), val (.pointer (some ⟨b, 0, none⟩)), val (.pointer (some ⟨b, 1, none⟩)), val (.pointer (some ⟨q, 0, none⟩)), val (.pointer (some ⟨q, 0, none⟩)), val (.pointer (some ⟨q, 2, none⟩)), val (.int .u64 (s.now : Int)), val (.pointer (some ⟨ob, 2, none⟩)), val (.int .u64 (at_ : Int)), val (.int .u64 (a2 : Int)), val (.pointer (some ⟨ob, 3, none⟩)), val (.int .u64 (what : Int))] (by kernel_rfl) rfl (by kernel_rfl) rfl ⟨stb_val _, stb_val _, stb_val _, stb_val _, stb_val _, stb_val _, stb_val _, stb_val _, stb_val _, stb_val _, stb_val _, stb_val _, stb_val _, trivial⟩ (Below.refl _ _).drew ?_ ?_
  · refine each_cons ?_ ?_
    · intro a W hW hd
      have h0 : a.tmps[0]?.getD undef = .pointer (some ⟨b, 0, none⟩) := slot_eq (hd 0 (by decide))
      exact grows_value _ hW (by simp [execOp, Act.eval, h0]) rfl
    refine each_cons ?_ ?_
    · intro a W hW hd
      have h0 : a.tmps[0]?.getD undef = .pointer (some ⟨b, 0, none⟩) := slot_eq (hd 0 (by decide))
      exact grows_value _ hW (by simp [execOp, Act.eval, h0]) rfl
    refine each_cons ?_ ?_
    · intro a W hW hd
      have h16 : a.tmps[16]?.getD undef = .pointer (some ⟨b, 0, none⟩) := slot_eq (hd 16 (by decide))
      refine grows_value _ hW (?_ : _ = _) rfl
      clear hd
      go_simp
    refine each_cons ?_ ?_
    · intro a W hW hd
      have h17 : a.tmps[17]?.getD undef = .pointer (some ⟨b, 0, none⟩) := slot_eq (hd 17 (by decide))
      refine grows_value _ hW (?_ : _ = _) rfl
      clear hd
      go_simp
    refine each_cons ?_ ?_
    · intro a W hW hd
      have h18 : a.tmps[18]?.getD undef = .pointer (some ⟨b, 1, none⟩) := slot_eq (hd 18 (by decide))
      have xx : W.cell? ⟨b, 1, none⟩ = some (.pointer (some ⟨q, 0, none⟩)) := (hW.cell (p := ⟨b, 1, none⟩) HBL.out).trans x1
      refine grows_value _ hW (?_ : _ = _) rfl
      clear hd
      go_simp
    refine each_cons ?_ ?_
    · intro a W hW hd
      have h19 : a.tmps[19]?.getD undef = .pointer (some ⟨q, 0, none⟩) := slot_eq (hd 19 (by decide))
      refine grows_value _ hW (?_ : _ = _) rfl
      clear hd
      go_simp
    refine each_cons ?_ ?_
    · intro a W hW hd
      have h20 : a.tmps[20]?.getD undef = .pointer (some ⟨q, 0, none⟩) := slot_eq (hd 20 (by decide))
      refine grows_value _ hW (?_ : _ = _) rfl
      clear hd
      go_simp
    refine each_cons ?_ ?_
    · intro a W hW hd
      have h21 : a.tmps[21]?.getD undef = .pointer (some ⟨q, 2, none⟩) := slot_eq (hd 21 (by decide))
      have xx : W.cell? ⟨q, 2, none⟩ = some (.int .u64 (s.now : Int)) := (hW.cell (p := ⟨q, 2, none⟩) HQL.out).trans xn
      refine grows_value _ hW (?_ : _ = _) rfl
      clear hd
      go_simp
    refine each_cons ?_ ?_
    · intro a W hW hd
      have h3 : a.tmps[3]?.getD undef = .pointer (some ⟨ob, 0, none⟩) := slot_eq (hd 3 (by decide))
      refine grows_value _ hW (?_ : _ = _) rfl
      clear hd
      go_simp
    refine each_cons ?_ ?_
    · intro a W hW hd
      have h23 : a.tmps[23]?.getD undef = .pointer (some ⟨ob, 2, none⟩) := slot_eq (hd 23 (by decide))
      have xx : W.cell? ⟨ob, 2, none⟩ = some (.int .u64 (at_ : Int)) := (hW.cell (p := ⟨ob, 2, none⟩) HOL.out).trans y2
      refine grows_value _ hW (?_ : _ = _) rfl
      clear hd
      go_simp
    refine each_cons ?_ ?_
    · intro a W hW hd
      have h22 : a.tmps[22]?.getD undef = .int .u64 (s.now : Int) := slot_eq (hd 22 (by decide))
      have h24 : a.tmps[24]?.getD undef = .int .u64 (at_ : Int) := slot_eq (hd 24 (by decide))
      refine grows_value _ hW (?_ : _ = _) rfl
      clear hd
      go_simp
    refine each_cons ?_ ?_
    · intro a W hW hd
      have h3 : a.tmps[3]?.getD undef = .pointer (some ⟨ob, 0, none⟩) := slot_eq (hd 3 (by decide))
      refine grows_value _ hW (?_ : _ = _) rfl
      clear hd
      go_simp
    refine each_cons ?_ ?_
    · intro a W hW hd
      have h26 : a.tmps[26]?.getD undef = .pointer (some ⟨ob, 3, none⟩) := slot_eq (hd 26 (by decide))
      have xx : W.cell? ⟨ob, 3, none⟩ = some (.int .u64 (what : Int)) := (hW.cell (p := ⟨ob, 3, none⟩) HOL.out).trans y3
      refine grows_value _ hW (?_ : _ = _) rfl
      clear hd
      go_simp
    exact each_nil
  · refine behind_val rfl ?_
    refine behind_val rfl ?_
    refine behind_val rfl ?_
    refine behind_val rfl ?_
    refine behind_val rfl ?_
    refine behind_val rfl ?_
    refine behind_val rfl ?_
    refine behind_val rfl ?_
    refine behind_val rfl ?_
    refine behind_val rfl ?_
    refine behind_val rfl ?_
    refine behind_val rfl ?_
    refine behind_val rfl ?_
    refine behind_nil fun u4 hC4 hF4 => ?_
    clear hF4
    have HP4 := Lib.hid (HP.out.step hC4)
    have HX4 : Hid (∀ j, X j → u4.heap[j]? = W.heap[j]?) := Lib.hid fun j hj => (hC4.block j (HP.out.xo j (.inl (.inl hj)))).trans (HX.out j hj)
    clear hC4 x1 xn y2 y3
    simp only [Act.put, List.setIfInBounds_toArray, List.set_cons_succ, List.set_cons_zero, List.drop_succ_cons, List.drop_zero]
    go_wp2_with (first
      | (go_at_call 25
         refine (play_arm HP4.out HF.out (by omega) a2 what ha2).mono ?_
         rintro e u5 ⟨rfl, E', hc', hs', hp', hlen', hx'⟩
         have HPE := Lib.hid hp'
         have HXE : Hid (∀ j, X j → u5.heap[j]? = W.heap[j]?) := Lib.hid fun j hj => (hx' j (.inl (.inl hj))).trans (HX4.out j hj)
         clear hp' hx'))
    go_ret
    exact ⟨rfl, p, q, E', hc', hs', tk, s.arm a2 what, HPE.out.less fun j hj => .inl (.inl hj), Wh.fit_arm HF.out hm ha2 what, hlen', by omega, HXE.out⟩
set_option maxHeartbeats 1000000 in
theorem call_4 (h : PL w X W b p q E hc hs tk s s) (hf : s.Fit m) (hm : m < 4611686018427387904) (hl : hs.length ≤ 65535) (hh : Int) (h9 : hh ≤ 9223372036854775807) (at_ what : Nat) (ha : at_ < 18446744073709551616) (htk : tk ≤ 4611686018427387904) : Calls Try.prog 10 #[.pointer (some ⟨b, 0, none⟩), .agg #[.int .i64 4, .int .i64 hh, .int .u64 (at_ : Int), .int .u64 (what : Int)]] W (CallEnd w W X b hs tk m) := by
  obtain ⟨n, hn⟩ : ∃ n, n = at_ % 70001 := ⟨_, rfl⟩
  have hn9 : n ≤ 70001 := by omega
  have zr : ((at_ : Int)).tmod 70001 = (n : Int) := by
    rw [hn]
    rfl
  clear hn
  obtain ⟨gi, gk, hform⟩ := hndOf_form hs hh what
  have HHF := Lib.hid hform
  have HF := Lib.hid hf
  have HP1 := Lib.hid (h.box (.cells #[.int .i64 4, .int .i64 hh, .int .u64 (at_ : Int), .int .u64 (what : Int)] 41))
  have HO1 : Hid ((W.alloc (.cells #[.int .i64 4, .int .i64 hh, .int .u64 (at_ : Int), .int .u64 (what : Int)] 41)).heap[W.heap.size]? = some (.cells #[.int .i64 4, .int .i64 hh, .int .u64 (at_ : Int), .int .u64 (what : Int)] 41 (0, 0))) := Lib.hid (heap_alloc_new W _)
  have HX1 : Hid (∀ j, X j → (W.alloc (.cells #[.int .i64 4, .int .i64 hh, .int .u64 (at_ : Int), .int .u64 (what : Int)] 41)).heap[j]? = W.heap[j]?) := Lib.hid fun j hj => (below_alloc W (.cells #[.int .i64 4, .int .i64 hh, .int .u64 (at_ : Int), .int .u64 (what : Int)] 41)).block j (h.xo j hj)
  obtain ⟨ob, hob⟩ : ∃ ob, ob = W.heap.size := ⟨_, rfl⟩
  rw [← hob] at HO1 HP1
  clear h hf hform
  go_enter Try.func10, Try.ntmps10
  go_upto_region 1 with fail
  change Code.wp _ _ _ _ (W.alloc (.cells #[.int .i64 4, .int .i64 hh, .int .u64 (at_ : Int), .int .u64 (what : Int)] 41))
  rw [← hob]
  clear hob
  generalize W.alloc (.cells #[.int .i64 4, .int .i64 hh, .int .u64 (at_ : Int), .int .u64 (what : Int)] 41) = u1 at *
  have HHD := Lib.hid (handle_all HP1.out hl (4) hh h9 at_ what)
  rw [HHF.out] at HHD
  go_upto_region 2 with (first
    | (refine wpList_load_row rfl 41 (.tmp 3) rfl ob rfl 41 #[.int .i64 4, .int .i64 hh, .int .u64 (at_ : Int), .int .u64 (what : Int)] (0, 0) _ HO1.out Try.underlying41 rfl (by kernel_rfl) ?_)
    | (go_at_call 24
       refine HHD.out.mono ?_
       rintro e u2 ⟨rfl, hb⟩
       have HP2 := Lib.hid (HP1.out.step hb)
       have HO2 := Lib.hid (box_step HO1.out hb)
       have HX2 : Hid (∀ j, X j → u2.heap[j]? = W.heap[j]?) := Lib.hid fun j hj => (hb.block j (HP1.out.xo j (.inl hj))).trans (HX1.out j hj)
       clear hb HP1 HO1 HX1 HHD))
  have HP := Lib.hid (HP2.out.box (.cells #[.int .i64 gi, .int .u64 (gk : Int)] 46))
  have HO := Lib.hid (box_step HO2.out (below_alloc u2 (.cells #[.int .i64 gi, .int .u64 (gk : Int)] 46)))
  have HH : Hid ((u2.alloc (.cells #[.int .i64 gi, .int .u64 (gk : Int)] 46)).heap[u2.heap.size]? = some (.cells #[.int .i64 gi, .int .u64 (gk : Int)] 46 (0, 0))) := Lib.hid (heap_alloc_new u2 _)
  have HX : Hid (∀ j, X j → (u2.alloc (.cells #[.int .i64 gi, .int .u64 (gk : Int)] 46)).heap[j]? = W.heap[j]?) := Lib.hid fun j hj => ((below_alloc u2 (.cells #[.int .i64 gi, .int .u64 (gk : Int)] 46)).block j (HP2.out.xo j (.inl hj))).trans (HX2.out j hj)
  clear HP2 HO2 HX2 HHF
  change Code.wp _ _ _ _ (u2.alloc (.cells #[.int .i64 gi, .int .u64 (gk : Int)] 46))
  generalize u2.heap.size = gb at *
  generalize u2.alloc (.cells #[.int .i64 gi, .int .u64 (gk : Int)] 46) = u3 at *
  have y0 : u3.cell? ⟨ob, 0, none⟩ = some (.int .i64 (4)) := blk_cell HO.out 0
  have y2 : u3.cell? ⟨ob, 2, none⟩ = some (.int .u64 (at_ : Int)) := blk_cell HO.out 2
  have y3 : u3.cell? ⟨ob, 3, none⟩ = some (.int .u64 (what : Int)) := blk_cell HO.out 3
  go_wp2_with (first
    | (go_at_call 28
       refine (play_tick HP.out HF.out n hn9 htk).mono ?_
       rintro e u5 ⟨rfl, tk', s', hp', hf', htk', hx'⟩
       have HPE := Lib.hid hp'
       have HFE := Lib.hid hf'
       have HXE : Hid (∀ j, X j → u5.heap[j]? = W.heap[j]?) := Lib.hid fun j hj => (hx' j (.inl (.inl hj))).trans (HX.out j hj)
       clear hp' hf' hx'))
  go_ret
  exact ⟨rfl, p, q, E, hc, hs, tk', s', HPE.out.less fun j hj => .inl (.inl hj), HFE.out.more (by omega) (by omega), by omega, by omega, HXE.out⟩
theorem call_0 (h : PL w X W b p q E hc hs tk s s) (hf : s.Fit m) (hm : m < 4611686018427387904) (hl : hs.length ≤ 65535) (hh : Int) (h9 : hh ≤ 9223372036854775807) (at_ what : Nat) (ha : at_ < 18446744073709551616) (κ : Int) (hκ : κ < 1 ∨ 8 < κ) : Calls Try.prog 10 #[.pointer (some ⟨b, 0, none⟩), .agg #[.int .i64 κ, .int .i64 hh, .int .u64 (at_ : Int), .int .u64 (what : Int)]] W (CallEnd w W X b hs tk m) := by
  have k1 : (κ == 1) = false := by simp; omega
  have k2 : (κ == 2) = false := by simp; omega
  have k3 : (κ == 3) = false := by simp; omega
  have k4 : (κ == 4) = false := by simp; omega
  have k5 : (κ == 5) = false := by simp; omega
  have k6 : (κ == 6) = false := by simp; omega
  have k7 : (κ == 7) = false := by simp; omega
  have k8 : (κ == 8) = false := by simp; omega
  obtain ⟨gi, gk, hform⟩ := hndOf_form hs hh what
  have HHF := Lib.hid hform
  have HF := Lib.hid hf
  have HP1 := Lib.hid (h.box (.cells #[.int .i64 κ, .int .i64 hh, .int .u64 (at_ : Int), .int .u64 (what : Int)] 41))
  have HO1 : Hid ((W.alloc (.cells #[.int .i64 κ, .int .i64 hh, .int .u64 (at_ : Int), .int .u64 (what : Int)] 41)).heap[W.heap.size]? = some (.cells #[.int .i64 κ, .int .i64 hh, .int .u64 (at_ : Int), .int .u64 (what : Int)] 41 (0, 0))) := Lib.hid (heap_alloc_new W _)
  have HX1 : Hid (∀ j, X j → (W.alloc (.cells #[.int .i64 κ, .int .i64 hh, .int .u64 (at_ : Int), .int .u64 (what : Int)] 41)).heap[j]? = W.heap[j]?) := Lib.hid fun j hj => (below_alloc W (.cells #[.int .i64 κ, .int .i64 hh, .int .u64 (at_ : Int), .int .u64 (what : Int)] 41)).block j (h.xo j hj)
  obtain ⟨ob, hob⟩ : ∃ ob, ob = W.heap.size := ⟨_, rfl⟩
  rw [← hob] at HO1 HP1
  clear h hf hform
  go_enter Try.func10, Try.ntmps10
  go_upto_region 1 with fail
  change Code.wp _ _ _ _ (W.alloc (.cells #[.int .i64 κ, .int .i64 hh, .int .u64 (at_ : Int), .int .u64 (what : Int)] 41))
  rw [← hob]
  clear hob
  generalize W.alloc (.cells #[.int .i64 κ, .int .i64 hh, .int .u64 (at_ : Int), .int .u64 (what : Int)] 41) = u1 at *
  have HHD := Lib.hid (handle_all HP1.out hl (κ) hh h9 at_ what)
  rw [HHF.out] at HHD
  go_upto_region 2 with (first
    | (refine wpList_load_row rfl 41 (.tmp 3) rfl ob rfl 41 #[.int .i64 κ, .int .i64 hh, .int .u64 (at_ : Int), .int .u64 (what : Int)] (0, 0) _ HO1.out Try.underlying41 rfl (by kernel_rfl) ?_)
    | (go_at_call 24
       refine HHD.out.mono ?_
       rintro e u2 ⟨rfl, hb⟩
       have HP2 := Lib.hid (HP1.out.step hb)
       have HO2 := Lib.hid (box_step HO1.out hb)
       have HX2 : Hid (∀ j, X j → u2.heap[j]? = W.heap[j]?) := Lib.hid fun j hj => (hb.block j (HP1.out.xo j (.inl hj))).trans (HX1.out j hj)
       clear hb HP1 HO1 HX1 HHD))
  have HP := Lib.hid (HP2.out.box (.cells #[.int .i64 gi, .int .u64 (gk : Int)] 46))
  have HO := Lib.hid (box_step HO2.out (below_alloc u2 (.cells #[.int .i64 gi, .int .u64 (gk : Int)] 46)))
  have HH : Hid ((u2.alloc (.cells #[.int .i64 gi, .int .u64 (gk : Int)] 46)).heap[u2.heap.size]? = some (.cells #[.int .i64 gi, .int .u64 (gk : Int)] 46 (0, 0))) := Lib.hid (heap_alloc_new u2 _)
  have HX : Hid (∀ j, X j → (u2.alloc (.cells #[.int .i64 gi, .int .u64 (gk : Int)] 46)).heap[j]? = W.heap[j]?) := Lib.hid fun j hj => ((below_alloc u2 (.cells #[.int .i64 gi, .int .u64 (gk : Int)] 46)).block j (HP2.out.xo j (.inl hj))).trans (HX2.out j hj)
  clear HP2 HO2 HX2 HHF
  change Code.wp _ _ _ _ (u2.alloc (.cells #[.int .i64 gi, .int .u64 (gk : Int)] 46))
  generalize u2.heap.size = gb at *
  generalize u2.alloc (.cells #[.int .i64 gi, .int .u64 (gk : Int)] 46) = u3 at *
  have y0 : u3.cell? ⟨ob, 0, none⟩ = some (.int .i64 (κ)) := blk_cell HO.out 0
  have y2 : u3.cell? ⟨ob, 2, none⟩ = some (.int .u64 (at_ : Int)) := blk_cell HO.out 2
  have y3 : u3.cell? ⟨ob, 3, none⟩ = some (.int .u64 (what : Int)) := blk_cell HO.out 3
  go_wp2_with fail
  go_ret
  exact ⟨rfl, p, q, E, hc, hs, tk, s, HP.out.less fun j hj => .inl (.inl hj), HF.out.more (by omega) (by omega), by omega, by omega, HX.out⟩
end
end Go.Proofs.Ytkmakdhlaenaoaa
