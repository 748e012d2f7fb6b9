import Derived.Test.YtimcdnbfdkpffaaGreatGm22
/- Stage 13: the landed table: Find. -/
namespace Go.Proofs.YtimcdnbfdkpffaaGreat
set_option maxRecDepth 100000
open Go.RowKit Go.Shelf
attribute [local go_sem] Oper.semAt_some
theorem on_of {s : Tb} {h k z : Nat} (hz : z = s.st h k) : s.on h k = (s.ful z && s.eh z == h) := by rw [hz]; rfl
theorem wayU_yes {s : Tb} {h k z : Nat} (hz : z = s.st h k) (hf : s.ful z = true) (he : s.eh z = h) : s.wayU h (k + 1) = s.wayU h k ++ [z] := by
  show s.wayU h k ++ (if s.on h k then [s.st h k] else []) = _
  rw [on_of hz, hf, he, ← hz, if_pos (by simp)]
theorem wayU_no {s : Tb} {h k z : Nat} (hz : z = s.st h k) (hf : (s.ful z && s.eh z == h) = false) : s.wayU h (k + 1) = s.wayU h k := by
  show s.wayU h k ++ (if s.on h k then [s.st h k] else []) = _
  rw [on_of hz, hf, if_neg Bool.false_ne_true, List.append_nil]
theorem wayU_wm (s : Tb) (h : Nat) : s.wayU h (s.wm h) = s.way h := by
  unfold Tb.wm Tb.way
  split
  · rename_i q
    exact wayU_no rfl (by rw [(Tb.lim_end q).1]; rfl)
  · rfl
theorem lim_ful {s : Tb} {h k : Nat} (hk : k < s.wm h) (hf : s.ful (s.st h k) = true) : k < s.lim h := by
  unfold Tb.wm at hk
  split at hk
  · rename_i q
    rcases (show k < s.lim h ∨ k = s.lim h by omega) with r | rfl
    · exact r
    · rw [(Tb.lim_end q).1] at hf
      cases hf
  · exact hk
theorem askL_at {ans : Nat → Bool} {x : Nat} (hx : ans x = true) (r : List Nat) : ∀ {l : List Nat}, (∀ z, z ∈ l → ans z = false) → askL ans (l ++ x :: r) = l ++ [x]
  | [], _ => by
    show (if ans x then [x] else x :: askL ans r) = _
    rw [if_pos hx]
    rfl
  | z :: l, hl => by
    show (if ans z then [z] else z :: askL ans (l ++ x :: r)) = _
    rw [hl z (List.mem_cons_self ..), if_neg Bool.false_ne_true, askL_at hx r fun y hy => hl y (List.mem_cons_of_mem _ hy)]
    rfl
theorem askL_all {ans : Nat → Bool} : ∀ {l : List Nat}, (∀ z, z ∈ l → ans z = false) → askL ans l = l
  | [], _ => rfl
  | z :: l, hl => by
    show (if ans z then [z] else z :: askL ans l) = _
    rw [hl z (List.mem_cons_self ..), if_neg Bool.false_ne_true, askL_all fun y hy => hl y (List.mem_cons_of_mem _ hy)]
theorem fn_hit {s : Tb} {h k z : Nat} {ans : Nat → Bool} (hk : k < s.lim h) (hu : s.wayU h (k + 1) = s.wayU h k ++ [z]) (hn : ∀ x, x ∈ s.wayU h k → ans (s.ew x) = false) (hy : ans (s.ew z) = true) : s.fn h ans = some z ∧ s.fnL h ans = (s.wayU h k).map s.ew ++ [s.ew z] := by
  obtain ⟨r, hr⟩ := Tb.wayU_pre s h (m := k + 1) (m' := s.lim h) hk
  rw [hu, List.append_assoc] at hr
  have hw : s.way h = s.wayU h k ++ ([z] ++ r) := hr.symm
  constructor
  · unfold Tb.fn
    rw [hw, List.find?_append, List.find?_eq_none.2 (fun x hx => by rw [hn x hx]; exact Bool.false_ne_true)]
    show (none : Option Nat).or (List.find? (fun k => ans (s.ew k)) (z :: r)) = _
    rw [List.find?_cons, hy]
    rfl
  · unfold Tb.fnL
    rw [hw, List.map_append]
    exact askL_at hy (r.map s.ew) fun x hx => by
      obtain ⟨q, hq, rfl⟩ := List.mem_map.1 hx
      exact hn q hq
theorem fn_miss {s : Tb} {h : Nat} {ans : Nat → Bool} (hn : ∀ x, x ∈ s.way h → ans (s.ew x) = false) : s.fn h ans = none ∧ s.fnL h ans = (s.way h).map s.ew := by
  constructor
  · unfold Tb.fn
    exact List.find?_eq_none.2 fun x hx => by rw [hn x hx]; exact Bool.false_ne_true
  · unfold Tb.fnL
    exact askL_all fun x hx => by
      obtain ⟨q, hq, rfl⟩ := List.mem_map.1 hx
      exact hn q hq
theorem kept_old {R : Nat → Prop} {v W W' : World} (h : Kept R v W) (hk : Kept (fun k => v.heap.size ≤ k) W W') : Kept R v W' := h.trans hk fun _j hj q => absurd hj (Nat.not_lt.2 q)
section
variable {w : World} {p g c : Nat} {e : Int} {s : Tb} {F : Nat → Prop}
theorem tfind_un {pa : Option Addr} (hc : ∀ W, Below w.heap.size w W → Calls Tryz.prog 130 #[.pointer pa] W (ret (.bool false) W)) (y : Nat) (fid : FuncId) (cap : Array Value) : Calls Tryz.prog 166 #[.pointer pa, .int .u64 (y : Int), .func (.func fid) #[] cap] w (ret (.tuple #[.int .i64 0, .bool false]) w) := by
  have HC := Lib.hid hc
  clear hc
  have HM0 : Hid (Mem w ((((w.alloc (.cells #[.int .u64 (y : Int)] 39)).alloc (.cells #[.func (.func fid) #[] cap] 166)).alloc (.cells #[.int .i64 0] 3)).alloc (.cells #[.bool false] 4)) [(w.heap.size, .cells #[.int .u64 (y : Int)] 39 (0, 0)), (w.heap.size + 1, .cells #[.func (.func fid) #[] cap] 166 (0, 0)), (w.heap.size + 2, .cells #[.int .i64 0] 3 (0, 0)), (w.heap.size + 3, .cells #[.bool false] 4 (0, 0))]) := Lib.hid (by
    have h := ((((Mem.nil w).alloc (.cells #[.int .u64 (y : Int)] 39)).alloc (.cells #[.func (.func fid) #[] cap] 166)).alloc (.cells #[.int .i64 0] 3)).alloc (.cells #[.bool false] 4)
    simpa using h)
  go_enter Tryz.func166, Tryz.ntmps166
  go_upto_region 1 with fail
  change Code.wp _ _ _ _ ((((w.alloc (.cells #[.int .u64 (y : Int)] 39)).alloc (.cells #[.func (.func fid) #[] cap] 166)).alloc (.cells #[.int .i64 0] 3)).alloc (.cells #[.bool false] 4))
  generalize (((w.alloc (.cells #[.int .u64 (y : Int)] 39)).alloc (.cells #[.func (.func fid) #[] cap] 166)).alloc (.cells #[.int .i64 0] 3)).alloc (.cells #[.bool false] 4) = u1 at *
  obtain ⟨b4, hb4⟩ : ∃ b, b = w.heap.size := ⟨_, rfl⟩
  obtain ⟨b5, hb5⟩ : ∃ b, b = w.heap.size + 1 := ⟨_, rfl⟩
  obtain ⟨b6, hb6⟩ : ∃ b, b = w.heap.size + 2 := ⟨_, rfl⟩
  obtain ⟨b7, hb7⟩ : ∃ b, b = w.heap.size + 3 := ⟨_, rfl⟩
  have hc6 : b6 = w.heap.size + 1 + 1 := hb6
  have hc7 : b7 = w.heap.size + 1 + 1 + 1 := hb7
  rw [← hb5, ← hb6, ← hb7, ← hb4] at HM0
  rw [← hc7, ← hc6, ← hb5, ← hb4]
  clear hc6 hc7
  have HB4 : Hid (w.heap.size ≤ b6 ∧ w.heap.size ≤ b7 ∧ b7 ≠ b6 ∧ w.heap.size ≤ b4 ∧ w.heap.size ≤ b5) := Lib.hid (by omega)
  clear hb4 hb5 hb6 hb7
  have HMd := Lib.hid (HC.out u1 HM0.out.below)
  go_wp2_with (first
    | (go_at_call 130
       refine HMd.out.mono ?_
       rintro e u2 ⟨rfl, hb⟩
       have HM2 := Lib.hid (HM0.out.step hb)
       have x4 : u2.cell? ⟨b6, 0, none⟩ = some (.int .i64 0) := blk_cell (HM2.out.get 2 rfl) 0
       have x5 : u2.cell? ⟨b7, 0, none⟩ = some (.bool false) := blk_cell (HM2.out.get 3 rfl) 0
       have y4 := blk_free (HM2.out.get 2 rfl) 0
       have y5 := blk_free (HM2.out.get 3 rfl) 0
       have HT := Lib.hid (two_set (x := .int .i64 0) (y := .bool false) HB4.out.2.2.1 x4 x5)
       obtain ⟨z5, z6⟩ := two_mid (x := .int .i64 0) HB4.out.2.2.1 x5 y5
       clear hb))
  refine bodyPost_ret (results_ib Tryz.results166 _ _ b6 b7 0 false rfl rfl HT.out.1 HT.out.2) rfl ?_
  exact ⟨rfl, (HM2.out.below.setCell (p := ⟨b6, 0, none⟩) HB4.out.1 _).setCell (p := ⟨b7, 0, none⟩) HB4.out.2.1 _⟩
set_option maxHeartbeats 4000000 in
theorem tfindG_any (h : PTX w p g c e s F) (hs : s.Ok) (y : Nat) (hy : y < 18446744073709551616) (fid : FuncId) (cap : Array Value) (ans : Nat → Bool) (R : Nat → Prop) (J : List Nat → World → Prop) (hst : ∀ l W W', J l W → Kept (fun k => w.heap.size ≤ k) W W' → J l W')
    (hsa : ∀ l (x : Nat) W, J l W → x < 4294967296 → l ++ [x] <+: (s.way y).map s.ew → w.heap.size ≤ W.heap.size → Calls Tryz.prog 182 #[.func (.func fid) #[] cap, .int .u32 (x : Int)] W fun e W' => e = .returned (.bool (ans x)) ∧ J (l ++ [x]) W' ∧ Kept R W W') (hR : ∀ k, R k → k < w.heap.size ∧ ¬ F k) (hJ : J [] w) :
    Calls Tryz.prog 166 #[.pointer (some ⟨p, 0, none⟩), .int .u64 (y : Int), .func (.func fid) #[] cap] w fun r w' => r = .returned (.tuple (s.fnV y ans)) ∧ J (s.fnL y ans) w' ∧ Kept R w w' := by
  have HX := Lib.hid h
  have HS := Lib.hid hs
  have HY := Lib.hid hy
  have HST := Lib.hid hst
  have HSA := Lib.hid hsa
  have HR := Lib.hid hR
  have HJ := Lib.hid hJ
  clear h hs hy hst hsa hR hJ
  have HM0 : Hid (Mem w ((((w.alloc (.cells #[.int .u64 (y : Int)] 39)).alloc (.cells #[.func (.func fid) #[] cap] 166)).alloc (.cells #[.int .i64 0] 3)).alloc (.cells #[.bool false] 4)) [(w.heap.size, .cells #[.int .u64 (y : Int)] 39 (0, 0)), (w.heap.size + 1, .cells #[.func (.func fid) #[] cap] 166 (0, 0)), (w.heap.size + 2, .cells #[.int .i64 0] 3 (0, 0)), (w.heap.size + 3, .cells #[.bool false] 4 (0, 0))]) := Lib.hid (by
    have h := ((((Mem.nil w).alloc (.cells #[.int .u64 (y : Int)] 39)).alloc (.cells #[.func (.func fid) #[] cap] 166)).alloc (.cells #[.int .i64 0] 3)).alloc (.cells #[.bool false] 4)
    simpa using h)
  refine (callsIn_wide (n := 13)).1 ?_
  refine callsIn_of_wp_marks Tryz.func166 rfl trivial ?_ rfl
  refine wpIn_wide.2 ?_
  simp only [Tryz.ntmps166, List.size_toArray, List.length_cons, List.length_nil, Nat.reduceAdd, Nat.reduceSub, Array.replicate_succ, Array.replicate_zero, List.push_toArray, List.append_toArray, List.nil_append, List.cons_append]
  go_upto_region 1 with fail
  change Code.wp _ _ _ _ ((((w.alloc (.cells #[.int .u64 (y : Int)] 39)).alloc (.cells #[.func (.func fid) #[] cap] 166)).alloc (.cells #[.int .i64 0] 3)).alloc (.cells #[.bool false] 4))
  generalize (((w.alloc (.cells #[.int .u64 (y : Int)] 39)).alloc (.cells #[.func (.func fid) #[] cap] 166)).alloc (.cells #[.int .i64 0] 3)).alloc (.cells #[.bool false] 4) = u1 at *
  obtain ⟨b4, hb4⟩ : ∃ b, b = w.heap.size := ⟨_, rfl⟩
  obtain ⟨b5, hb5⟩ : ∃ b, b = w.heap.size + 1 := ⟨_, rfl⟩
  obtain ⟨b6, hb6⟩ : ∃ b, b = w.heap.size + 2 := ⟨_, rfl⟩
  obtain ⟨b7, hb7⟩ : ∃ b, b = w.heap.size + 3 := ⟨_, rfl⟩
  have hc6 : b6 = w.heap.size + 1 + 1 := hb6
  have hc7 : b7 = w.heap.size + 1 + 1 + 1 := hb7
  rw [← hb5, ← hb6, ← hb7, ← hb4] at HM0
  rw [← hc7, ← hc6, ← hb5, ← hb4]
  clear hc6 hc7
  have HB4 : Hid (w.heap.size ≤ b6 ∧ w.heap.size ≤ b7 ∧ b7 ≠ b6 ∧ w.heap.size ≤ b4 ∧ w.heap.size ≤ b5) := Lib.hid (by omega)
  clear hb4 hb5 hb6 hb7
  have HX1 := Lib.hid (PTY.step HX.out HM0.out.below)
  have HJ1 := Lib.hid (HST.out _ _ _ HJ.out (Kept.of_below HM0.out.below _))
  have HMd := Lib.hid (tmade_yes (blk_cell (PTY.blk HX1.out) 0) (PTY.pos HX1.out).1)
  go_upto_region 3 with (first
    | (go_at_call 130
       refine HMd.out.mono ?_
       rintro e u2 ⟨rfl, hb⟩
       have HM2 := Lib.hid (HM0.out.step hb)
       have HX2 := Lib.hid (PTY.step HX1.out hb)
       have HJ2 := Lib.hid (HST.out _ _ _ HJ1.out (Kept.of_below hb _))
       clear hb))
  clear HX1 HMd HM0 HJ1
  refine wp_region_grow (C := fun W => Below u2.heap.size u2 W) 6 39 [val (.pointer (some ⟨p, 0, none⟩)), val (.pointer (some ⟨p, 0, none⟩)), val (.pointer (some ⟨p, 0, none⟩)), val (.slice (some ⟨g, 0, none⟩) s.n c), val (.int .u64 (y : Int)), wayF u2 (some ⟨g, 0, none⟩) s.n c y] (by kernel_rfl) rfl (by kernel_rfl) rfl ⟨stb_val _, stb_val _, stb_val _, stb_val _, stb_val _, stb_wayF _ _ _ _ _, trivial⟩ (Below.refl _ _).drew ?_ ?_
  · refine each_cons ?_ ?_
    · intro a W hW hd
      have h0 : a.tmps[0]?.getD undef = .pointer (some ⟨p, 0, none⟩) := slot_eq (hd 0 (by decide))
      exact grows_value _ hW (by simp [execOp, Act.eval, h0]) rfl
    refine each_cons ?_ ?_
    · intro a W hW hd
      have h13 : a.tmps[13]?.getD undef = .pointer (some ⟨p, 0, none⟩) := slot_eq (hd 13 (by decide))
      refine grows_value _ hW (?_ : _ = _) rfl
      clear hd
      go_simp
    refine each_cons ?_ ?_
    · intro a W hW hd
      have h14 : a.tmps[14]?.getD undef = .pointer (some ⟨p, 0, none⟩) := slot_eq (hd 14 (by decide))
      refine grows_value _ hW (?_ : _ = _) rfl
      clear hd
      go_simp
    refine each_cons ?_ ?_
    · intro a W hW hd
      have h15 : a.tmps[15]?.getD undef = .pointer (some ⟨p, 0, none⟩) := slot_eq (hd 15 (by decide))
      have yl : W.cell? ⟨p, 0, none⟩ = some (.slice (some ⟨g, 0, none⟩) s.n c) := blk_cell (PTY.step HX2.out hW).blk 0
      refine grows_value _ hW (?_ : _ = _) rfl
      clear hd
      go_simp
    refine each_cons ?_ ?_
    · intro a W hW hd
      have h4 : a.tmps[4]?.getD undef = .pointer (some ⟨b4, 0, none⟩) := slot_eq (hd 4 (by decide))
      have yl : W.cell? ⟨b4, 0, none⟩ = some (.int .u64 (y : Int)) := blk_cell ((HM2.out.step hW).get 0 rfl) 0
      refine grows_value _ hW (?_ : _ = _) rfl
      clear hd
      go_simp
    refine each_cons ?_ ?_
    · intro a W hW hd
      have h16 : a.tmps[16]?.getD undef = .slice (some ⟨g, 0, none⟩) s.n c := slot_eq (hd 16 (by decide))
      have h17 : a.tmps[17]?.getD undef = .int .u64 (y : Int) := slot_eq (hd 17 (by decide))
      refine grows_call (fn := 153) (args := #[.slice (some ⟨g, 0, none⟩) s.n c, .int .u64 (y : Int)]) (by clear hd; go_simp) ?_
      exact way_fact _ _ _ _ hW
    exact each_nil
  · refine behind_val rfl ?_
    refine behind_val rfl ?_
    refine behind_val rfl ?_
    refine behind_val rfl ?_
    refine behind_val rfl ?_
    refine behind_cons fun v18 => ?_
    refine behind_nil fun v hCv hFv => ?_
    obtain ⟨_, b8, b9, hv18, h8, h9, h88, h99⟩ := hFv
    subst hv18
    simp only [Act.put, List.setIfInBounds_toArray, List.set_cons_succ, List.set_cons_zero, List.drop_succ_cons, List.drop_zero]
    have HM3 := Lib.hid (HM2.out.step hCv)
    have HX3 := Lib.hid (PTY.step HX2.out hCv)
    have HC8 := Lib.hid h88
    have HC9 := Lib.hid h99
    have HN8 : Hid (w.heap.size ≤ b8 ∧ w.heap.size ≤ b9) := Lib.hid (by have := HM2.out.below.size; omega)
    have HJ3 := Lib.hid (HST.out _ _ _ HJ2.out (Kept.of_below hCv _))
    clear h8 h9 h88 h99 hCv HM2 HX2 HJ2
    go_wp2_with fail
    refine (wpIn_wide (n := 13)).1 ?_
    have hRn : ∀ k, w.heap.size ≤ k → ¬ R k := fun k hk q => by have := (HR.out k q).1; omega
    refine wpIn_rangeFunc_P rfl (by omega) (gf := 177) (lb := #[.pointer (some ⟨b8, 0, none⟩), .pointer (some ⟨b9, 0, none⟩)]) rfl trivial way_eg
      (way_it (R := R) HX3.out HS.out y HY.out (b2 := b8) (b3 := b9) (fun k q => Nat.lt_of_lt_of_le (HR.out k q).1 HM3.out.below.size) (fun q => (HR.out g q).2 (PTY.mg HX3.out)) (hRn _ HN8.out.1) (hRn _ HN8.out.2) (blk_cell HC8.out 0) (blk_cell HC9.out 0)) (Below.refl _ _) (fun _ => rfl) keptC_t keptC_b
      (fun pre W => J ((s.wayU y pre.length).map s.ew) W ∧ (∀ x, x ∈ s.wayU y pre.length → ans (s.ew x) = false) ∧ Kept R v W)
      (fun cc _ W => cc = .ret ∧ ∃ z, s.fn y ans = some z ∧ J (s.fnL y ans) W ∧ W.cell? ⟨b6, 0, none⟩ = some (.int .i64 (z : Int)) ∧ W.cell? ⟨b7, 0, none⟩ = some (.bool true) ∧ Kept (fun k => R k ∨ k = b6 ∨ k = b7) v W)
      ?hI ?hIx ⟨HJ3.out, fun x hx => absurd (show x ∈ ([] : List Nat) from hx) List.not_mem_nil, Kept.refl _ _⟩
      (fun pre z a' W => J ((s.wayU y pre.length).map s.ew) W ∧ (∀ x, x ∈ s.wayU y pre.length → ans (s.ew x) = false) ∧ Kept R v W ∧ ∃ Bx, v.heap.size ≤ Bx ∧ W.heap[Bx]? = some (.cells #[.int .u8 (stc s z : Int), .int .u64 (s.eh z : Int), .int .u32 (s.ew z : Int)] 212 (0, 0)) ∧ a' = { tmps := #[.pointer (some ⟨p, 0, none⟩), .int .u64 (y : Int), .func (.func fid) #[] cap, undef, .pointer (some ⟨b4, 0, none⟩), .pointer (some ⟨b5, 0, none⟩), .pointer (some ⟨b6, 0, none⟩), .pointer (some ⟨b7, 0, none⟩), .int .i64 (z : Int), .pointer (some ⟨Bx, 0, none⟩), .pointer (some ⟨p, 0, none⟩), .bool true, .bool false, .pointer (some ⟨p, 0, none⟩), .pointer (some ⟨p, 0, none⟩), .pointer (some ⟨p, 0, none⟩), .slice (some ⟨g, 0, none⟩) s.n c, .int .u64 (y : Int), .func (.func 177) #[] #[.pointer (some ⟨b8, 0, none⟩), .pointer (some ⟨b9, 0, none⟩)], .int .i64 (z : Int), .agg #[.int .u8 (stc s z : Int), .int .u64 (s.eh z : Int), .int .u32 (s.ew z : Int)], undef, undef, undef, undef, undef, undef, undef, undef, undef, undef, undef, undef, undef, undef, undef, undef, undef, undef], defers := [] })
      ?hAx ?assign ?body ?done ?stop
    case hI =>
      refine ownFrom_of ?_
      rintro pre W W' ⟨h1, h2, h3⟩ hk
      exact ⟨HST.out _ _ _ h1 (hk.mono fun k _ q => Nat.le_trans HM3.out.below.size q), h2, kept_old h3 hk⟩
    case hIx =>
      intro cc
      refine ownFrom_of ?_
      rintro pre W W' ⟨h0, z, h1, h2, h3, h4, h5⟩ hk
      have l6 := lt_heap (HM3.out.get 2 rfl)
      have l7 := lt_heap (HM3.out.get 3 rfl)
      exact ⟨h0, z, h1, HST.out _ _ _ h2 (hk.mono fun k _ q => Nat.le_trans HM3.out.below.size q), (hk.cell (p := ⟨b6, 0, none⟩) (Nat.lt_of_lt_of_le l6 h5.size) (show ¬ v.heap.size ≤ b6 by omega)).trans h3, (hk.cell (p := ⟨b7, 0, none⟩) (Nat.lt_of_lt_of_le l7 h5.size) (show ¬ v.heap.size ≤ b7 by omega)).trans h4, kept_old h5 hk⟩
    case hAx =>
      rintro pre z a' _ X Y row ⟨h1, h2, h3, Bx, h4, h5, h6⟩ hg hr
      have hk := Kept.grownBy (R := fun k => v.heap.size ≤ k) hg fun k e => (hr k e).1
      exact ⟨HST.out _ _ _ h1 (hk.mono fun k _ q => Nat.le_trans HM3.out.below.size q), h2, kept_old h3 hk, Bx, h4, (grownBy_keeps_cells hg (fun r e => (hr r e).2) h5 rfl).trans h5, h6⟩
    case assign =>
      rintro l pre z W ⟨hp, hn, hb⟩ hpre
      unfold wEnc
      gi_wp2
      exact ⟨(KeepsOthers.alloc _ _).from _, KeptC.of_below (below_alloc W _) _, HST.out _ _ _ hp (Kept.of_below (below_alloc W _) _), hn, hb.alloc _, W.heap.size, hb.size, heap_alloc_new W _, rfl⟩
    case body =>
      rintro l pre z a' W hpre ⟨hj, hn, hb, Bx, hBx, hX, rfl⟩
      obtain ⟨hz, hlen⟩ := wk_at hpre
      have HJW := Lib.hid hj
      have HNW := Lib.hid hn
      have HB := Lib.hid hb
      have hWW : w.heap.size ≤ W.heap.size := Nat.le_trans HM3.out.below.size hb.size
      have x4h := (hb.block b4 (lt_heap (HM3.out.get 0 rfl)) (hRn _ HB4.out.2.2.2.1)).trans (HM3.out.get 0 rfl)
      have x5h := (hb.block b5 (lt_heap (HM3.out.get 1 rfl)) (hRn _ HB4.out.2.2.2.2)).trans (HM3.out.get 1 rfl)
      have H6 := Lib.hid ((hb.block b6 (lt_heap (HM3.out.get 2 rfl)) (hRn _ HB4.out.1)).trans (HM3.out.get 2 rfl))
      have H7 := Lib.hid ((hb.block b7 (lt_heap (HM3.out.get 3 rfl)) (hRn _ HB4.out.2.1)).trans (HM3.out.get 3 rfl))
      have x4 : W.cell? ⟨b4, 0, none⟩ = some (.int .u64 (y : Int)) := blk_cell x4h 0
      have x5 : W.cell? ⟨b5, 0, none⟩ = some (.func (.func fid) #[] cap) := blk_cell x5h 0
      have c0 : W.cell? ⟨Bx, 0, none⟩ = some (.int .u8 (stc s z : Int)) := blk_cell hX 0
      have c1 : W.cell? ⟨Bx, 1, none⟩ = some (.int .u64 (s.eh z : Int)) := blk_cell hX 1
      have c2 : W.cell? ⟨Bx, 2, none⟩ = some (.int .u32 (s.ew z : Int)) := blk_cell hX 2
      have HVL : Hid (b6 < v.heap.size ∧ b7 < v.heap.size) := Lib.hid ⟨lt_heap (HM3.out.get 2 rfl), lt_heap (HM3.out.get 3 rfl)⟩
      have HRV : Hid (∀ k, R k → k < v.heap.size) := Lib.hid fun k q => Nat.lt_of_lt_of_le (HR.out k q).1 HM3.out.below.size
      have HRN := Lib.hid hRn
      have same : (s.ful z && s.eh z == y) = false → KeepsFrom v.heap.size W W ∧ KeptC R W W ∧ J ((s.wayU y (pre ++ [z]).length).map s.ew) W ∧ (∀ x, x ∈ s.wayU y (pre ++ [z]).length → ans (s.ew x) = false) ∧ Kept R v W := fun hno => by
        rw [List.length_append, List.length_singleton, wayU_no hz hno]
        exact ⟨KeepsFrom.refl _ _, KeptC.refl _ _, HJW.out, HNW.out, HB.out⟩
      cases hf : s.ful z with
      | false =>
        have hst := stc_not hf
        have HSM := Lib.hid (same (by rw [hf]; rfl))
        obtain ⟨a, ha⟩ : ∃ a, a = stc s z := ⟨_, rfl⟩
        rw [← ha] at c0 hst
        have hne : ((a : Int) == 1) = false := by simp; omega
        clear same hz hlen hj hn hb hBx hX x4h x5h hf ha hst hpre hRn c1 c2 x4 x5
        gi_wp2
        refine ⟨trivial, ?_⟩
        gi_wp2
        exact HSM.out
      | true =>
        rw [stc_ful hf] at c0
        have c0 : W.cell? ⟨Bx, 0, none⟩ = some (.int .u8 1) := c0
        obtain ⟨u, hu⟩ : ∃ u, u = s.eh z := ⟨_, rfl⟩
        obtain ⟨x, hxx⟩ : ∃ x, x = s.ew z := ⟨_, rfl⟩
        rw [← hu] at c1
        rw [← hxx] at c2
        by_cases hhe : u = y
        · have HWU := Lib.hid (wayU_yes hz hf (hu.symm.trans hhe))
          have HKL := Lib.hid (lim_ful hlen (by rw [← hz]; exact hf))
          have hpx : (s.wayU y pre.length).map s.ew ++ [x] <+: (s.way y).map s.ew := by
            obtain ⟨r, hr⟩ := Tb.wayU_pre s y (m := pre.length + 1) (m' := s.lim y) HKL.out
            refine ⟨r.map s.ew, ?_⟩
            show _ = (s.wayU y (s.lim y)).map s.ew
            rw [← hr, HWU.out, hxx, List.map_append, List.map_append]
            rfl
          have HSY := Lib.hid (HSA.out _ x W HJW.out (by rw [hxx]; exact HS.out.what z) hpx hWW)
          have HXX := Lib.hid hxx
          subst hhe
          have hhe' : ((u : Int) == (u : Int)) = true := by simp
          clear same hz hlen hj hn hb hBx hX x4h x5h hf hpre hRn hu hpx hWW hxx
          cases hans : ans x with
          | false =>
            rw [hans] at HSY
            have HAN := Lib.hid hans
            clear hans
            gi_wp2_with (first
              | (refine ⟨trivial, ?_⟩
                 gi_at_call 182
                 refine (CallsIn.inRound l (callsIn_wide.2 HSY.out)).mono ?_
                 rintro e u7 ⟨rfl, hj7, hk7⟩
                 have HJ7 := Lib.hid hj7
                 have HK7 := Lib.hid hk7
                 clear hj7 hk7))
            refine ⟨keepsFrom_of_kept HK7.out HRV.out, KeptC.of_kept HK7.out, ?_, fun q hq => ?_, HB.out.trans HK7.out fun _ _ q => q⟩
            · rw [List.length_append, List.length_singleton, HWU.out, List.map_append, List.map_singleton, ← HXX.out]
              exact HJ7.out
            · rw [List.length_append, List.length_singleton, HWU.out] at hq
              rcases List.mem_append.1 hq with r | r
              · exact HNW.out q r
              · rw [List.mem_singleton.1 r, ← HXX.out]
                exact HAN.out
          | true =>
            rw [hans] at HSY
            have HFN := Lib.hid (fn_hit HKL.out HWU.out HNW.out (by rw [← HXX.out]; exact hans))
            clear hans
            gi_wp2_with (first
              | (refine ⟨trivial, ?_⟩
                 gi_at_call 182
                 refine (CallsIn.inRound l (callsIn_wide.2 HSY.out)).mono ?_
                 rintro e u7 ⟨rfl, hj7, hk7⟩
                 have HJ7 := Lib.hid hj7
                 have HK7 := Lib.hid hk7
                 have h6 := (hk7.block b6 (lt_heap H6.out) (HRN.out _ HB4.out.1)).trans H6.out
                 have h7 := (hk7.block b7 (lt_heap H7.out) (HRN.out _ HB4.out.2.1)).trans H7.out
                 have x6 : u7.cell? ⟨b6, 0, none⟩ = some (.int .i64 0) := blk_cell h6 0
                 have x7 : u7.cell? ⟨b7, 0, none⟩ = some (.bool false) := blk_cell h7 0
                 have y6 := blk_free h6 0
                 have y7 := blk_free h7 0
                 have HT := Lib.hid (two_set (x := .int .i64 (z : Int)) (y := .bool true) HB4.out.2.2.1 x6 x7)
                 obtain ⟨z5, z6⟩ := two_mid (x := .int .i64 (z : Int)) HB4.out.2.2.1 x7 y7
                 clear hj7 hk7 h6 h7 c0 c1 c2 x4 x5))
            have hk9 : Kept (fun k => k = b6 ∨ k = b7) u7 ((u7.setCell ⟨b6, 0, none⟩ (.int .i64 (z : Int))).setCell ⟨b7, 0, none⟩ (.bool true)) := ((Kept.refl _ u7).setCell (p := ⟨b6, 0, none⟩) (.inl (.inl rfl)) _).setCell (p := ⟨b7, 0, none⟩) (.inl (.inr rfl)) _
            have hkW : Kept (fun k => R k ∨ k = b6 ∨ k = b7) W ((u7.setCell ⟨b6, 0, none⟩ (.int .i64 (z : Int))).setCell ⟨b7, 0, none⟩ (.bool true)) := (HK7.out.mono fun _ _ q => .inl q).trans hk9 fun _ _ q => .inr q
            refine ⟨keepsFrom_of_kept hkW fun k q => ?_, rfl, z, HFN.out.1, ?_, HT.out.1, HT.out.2, (HB.out.mono fun _ _ q => .inl q).trans hkW fun _ _ q => q⟩
            · rcases q with q | rfl | rfl
              · exact HRV.out k q
              · exact HVL.out.1
              · exact HVL.out.2
            · rw [HFN.out.2, ← HXX.out]
              exact HST.out _ _ _ HJ7.out (hk9.mono fun k _ q => by have := HB4.out; omega)
        · have HSM := Lib.hid (same (by rw [hf, ← hu]; simpa using hhe))
          have hhe' : ((u : Int) == (y : Int)) = false := by rw [beq_eq_false_iff_ne]; omega
          clear same hz hlen hj hn hb hBx hX x4h x5h hf hpre hRn c2 x5 hu hhe hxx
          gi_wp2
          refine ⟨trivial, ?_⟩
          gi_wp2
          exact HSM.out
    case done =>
      rintro D W hD ⟨hj, hn, hb⟩ hK
      have hw : (s.wa y).length = s.wm y := wk_len _ _ _
      rw [hw, wayU_wm] at hj hn
      have HFN := Lib.hid (fn_miss hn)
      have HJW : Hid (J (s.fnL y ans) W) := Lib.hid (by rw [HFN.out.2]; exact hj)
      have HB := Lib.hid hb
      have HK := Lib.hid hK
      have HD : Hid (v.heap.size ≤ D) := Lib.hid hD
      have HVL : Hid (b6 < v.heap.size ∧ b7 < v.heap.size) := Lib.hid ⟨lt_heap (HM3.out.get 2 rfl), lt_heap (HM3.out.get 3 rfl)⟩
      have h6 := (hb.block b6 (lt_heap (HM3.out.get 2 rfl)) (hRn _ HB4.out.1)).trans (HM3.out.get 2 rfl)
      have h7 := (hb.block b7 (lt_heap (HM3.out.get 3 rfl)) (hRn _ HB4.out.2.1)).trans (HM3.out.get 3 rfl)
      have x6 : W.cell? ⟨b6, 0, none⟩ = some (.int .i64 0) := blk_cell h6 0
      have x7 : W.cell? ⟨b7, 0, none⟩ = some (.bool false) := blk_cell h7 0
      have y6 := blk_free h6 0
      have y7 := blk_free h7 0
      have HT := Lib.hid (two_set (x := .int .i64 0) (y := .bool false) HB4.out.2.2.1 x6 x7)
      obtain ⟨z5, z6⟩ := two_mid (x := .int .i64 0) HB4.out.2.2.1 x7 y7
      clear hj hn hb hK hD h6 h7 hw hRn
      go_wp2_with fail
      have hk9 : Kept (fun k => k = b6 ∨ k = b7) W ((W.setCell ⟨b6, 0, none⟩ (.int .i64 0)).setCell ⟨b7, 0, none⟩ (.bool false)) := ((Kept.refl _ W).setCell (p := ⟨b6, 0, none⟩) (.inl (.inl rfl)) _).setCell (p := ⟨b7, 0, none⟩) (.inl (.inr rfl)) _
      have hK9 := (hk9.block D (lt_heap' HK.out) (by have := HD.out; have := HVL.out; omega)).trans HK.out
      have hkD := keptK_b (R := fun k => v.heap.size ≤ k) (w := v) (fun _ h => h) ((W.setCell ⟨b6, 0, none⟩ (.int .i64 0)).setCell ⟨b7, 0, none⟩ (.bool false)) D _ (.deferred none) HD.out hK9 rfl rfl
      have hv9 : b6 < ((W.setCell ⟨b6, 0, none⟩ (.int .i64 0)).setCell ⟨b7, 0, none⟩ (.bool false)).heap.size ∧ b7 < ((W.setCell ⟨b6, 0, none⟩ (.int .i64 0)).setCell ⟨b7, 0, none⟩ (.bool false)).heap.size := by
        have := HVL.out
        have := HB.out.size
        have := hk9.size
        omega
      refine ⟨by simp, .inl ⟨_, _, rfl, run_takeDeferred hK9, ?_⟩⟩
      refine ⟨_, results_ib Tryz.results166 _ _ b6 b7 0 false rfl rfl ((hkD.cell (p := ⟨b6, 0, none⟩) hv9.1 (by have := HVL.out; show ¬ v.heap.size ≤ b6; omega)).trans HT.out.1) ((hkD.cell (p := ⟨b7, 0, none⟩) hv9.2 (by have := HVL.out; show ¬ v.heap.size ≤ b7; omega)).trans HT.out.2), ?_, ?_, ?_⟩
      · unfold Tb.fnV
        rw [HFN.out.1]
      · exact HST.out _ _ _ (HST.out _ _ _ HJW.out (hk9.mono fun k _ q => by have := HB4.out; omega)) (hkD.mono fun k _ q => Nat.le_trans HM3.out.below.size q)
      · refine (((Kept.of_below HM3.out.below R).trans HB.out fun _ _ q => q).trans hk9 fun j hj q => ?_).trans hkD fun j hj q => ?_
        · have := HB4.out
          omega
        · have := HM3.out.below.size
          omega
    case stop =>
      rintro D cc pre W hD hpre ⟨rfl, z, hfn, hj, h6, h7, hk⟩ hK
      have hvl : b6 < v.heap.size ∧ b7 < v.heap.size := ⟨lt_heap (HM3.out.get 2 rfl), lt_heap (HM3.out.get 3 rfl)⟩
      have hkD := keptK_b (R := fun k => v.heap.size ≤ k) (w := v) (fun _ h => h) W D _ (.deferred none) hD hK rfl rfl
      have hs := hk.size
      gi_wp2
      refine ⟨by simp, .inl ⟨_, _, rfl, run_takeDeferred hK, ?_⟩⟩
      refine ⟨_, results_ib Tryz.results166 _ _ b6 b7 (z : Int) true rfl rfl ((hkD.cell (p := ⟨b6, 0, none⟩) (show b6 < _ by omega) (show ¬ v.heap.size ≤ b6 by omega)).trans h6) ((hkD.cell (p := ⟨b7, 0, none⟩) (show b7 < _ by omega) (show ¬ v.heap.size ≤ b7 by omega)).trans h7), ?_, ?_, ?_⟩
      · unfold Tb.fnV
        rw [hfn]
      · exact HST.out _ _ _ hj (hkD.mono fun k _ q => Nat.le_trans HM3.out.below.size q)
      · refine ((Kept.of_below HM3.out.below R).trans hk fun j hj q => ?_).trans hkD fun j hj q => ?_
        · have := HB4.out
          rcases q with q | q
          · exact q
          · omega
        · have := HM3.out.below.size
          omega
theorem tfind_any (h : PTX w p g c e s F) (hs : s.Ok) (y : Nat) (hy : y < 18446744073709551616) (fid : FuncId) (cap : Array Value) (ans : Nat → Bool) (R : Nat → Prop) (J : List Nat → World → Prop) (HA : AsksG fid cap ans R w.heap.size ((s.way y).map s.ew) J) (hR : ∀ k, R k → k < w.heap.size ∧ ¬ F k) (hJ : J [] w) :
    Calls Tryz.prog 166 #[.pointer (some ⟨p, 0, none⟩), .int .u64 (y : Int), .func (.func fid) #[] cap] w fun r w' => r = .returned (.tuple (s.fnV y ans)) ∧ J (s.fnL y ans) w' ∧ Kept R w w' :=
  tfindG_any h hs y hy fid cap ans R J HA.stay (fun l x W h1 h2 h3 h4 => says_any HA.eg (HA.call l x W h1 h2 h3 h4)) hR hJ
end
end Go.Proofs.YtimcdnbfdkpffaaGreat
