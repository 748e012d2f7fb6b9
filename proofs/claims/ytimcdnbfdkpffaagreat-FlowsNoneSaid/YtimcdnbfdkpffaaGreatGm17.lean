import Derived.Test.YtimcdnbfdkpffaaGreatGm16
/- Stage 11: the landed Arm, Again, Cancel. -/
namespace Go.Proofs.YtimcdnbfdkpffaaGreat
set_option maxRecDepth 100000
open Go.RowKit Go.Shelf
theorem box_step {w w' : World} {r : Nat} {o : Obj} (h : w.heap[r]? = some o) (hb : Below w.heap.size w w') : w'.heap[r]? = some o := (hb.block r (lt_heap h)).trans h
theorem pa_remove_rest {s : Sl} (hs : s.Fit) (A : Nat) (c : Int) : Does (PSa A none) (PSa A none) 90 #[.int .i64 c] (.int .i64 (s.remE c)) s (s.rem c) := by
  have h := pa_remove hs A none c 0 (fun _ _ _ _ _ _ e => nomatch e)
  have e : (if (s.whi c).isSome then wkCut c.toNat 0 none else none) = (none : Option (Nat × Nat)) := by
    split <;> rfl
  rw [e] at h
  exact h
theorem rem_fit {s : Sl} (hs : s.Fit) (c : Int) : (s.rem c).Fit := ⟨Sl.ok_rem hs.ok c, by rw [Sl.rem_cells]; exact hs.m, by rw [Sl.rem_len]; exact hs.n⟩
theorem Ext.box {F F' : Nat → Prop} {w w' : World} (he : Ext F F' w w') {r : Nat} {o : Obj} (h : w.heap[r]? = some o) (hn : ¬ F r) : w'.heap[r]? = some o ∧ ¬ F' r :=
  ⟨(he.kept.block r (lt_heap h) hn).trans h, fun hF => (he.sub r hF).elim hn fun q => by have := lt_heap h; omega⟩
section
variable {w : World} {p ap z g c : Nat} {A : Ar} {S : Sl} {now tn : Nat} {ta tw tt : Nat → Nat} {F : Nat → Prop}
set_option maxHeartbeats 1000000 in
theorem parmX_over (h : WX w p ap z g c A S now tn ta tw tt F) (at_ what : Nat) (hat : at_ < 18446744073709551616) (ho : ovr now at_ = true) : Calls Tryz.prog 97 #[.pointer (some ⟨p, 0, none⟩), .int .u64 (at_ : Int), .int .u64 (what : Int)] w fun e w' => e = .returned (.tuple #[.agg #[.int .i64 0, .int .u64 0], .int .i64 15]) ∧ ∃ F', WX w' p ap z g c A S now tn ta tw tt F' ∧ Ext F F' w w' := by
  have HO := Lib.hid ho
  clear ho
  have HX1 := Lib.hid (h.step (below_alloc w (.cells #[.int .i64 0, .int .u64 0] 95)))
  have HE1 := Lib.hid ((Ext.refl F w).step (below_alloc w (.cells #[.int .i64 0, .int .u64 0] 95)))
  have HR1 : Hid ((w.alloc (.cells #[.int .i64 0, .int .u64 0] 95)).heap[w.heap.size]? = some (.cells #[.int .i64 0, .int .u64 0] 95 (0, 0))) := Lib.hid (heap_alloc_new w _)
  obtain ⟨r, hr⟩ : ∃ r, r = w.heap.size := ⟨_, rfl⟩
  have HRW := Lib.hid hr
  rw [← hr] at HR1
  have HNF1 : Hid (¬ F r) := Lib.hid fun hF => by have := h.old r hF; omega
  clear h
  go_enter Tryz.func97, Tryz.ntmps97
  go_upto_region 1 with fail
  change Code.wp _ _ _ _ (w.alloc (.cells #[.int .i64 0, .int .u64 0] 95))
  rw [← hr]
  clear hr
  generalize w.alloc (.cells #[.int .i64 0, .int .u64 0] 95) = u1 at *
  go_upto_region 3 with (first
    | (go_at_call 80
       refine (pmade HX1.out).mono ?_
       rintro e u2 ⟨rfl, hbb⟩
       have HX2 := Lib.hid (HX1.out.step hbb)
       have HE2 := Lib.hid (HE1.out.step hbb)
       have HR2 := Lib.hid (box_step HR1.out hbb)
       clear hbb HX1 HE1 HR1))
  have HOV := Lib.hid (pover HX2.out at_ hat)
  go_wp2_with (first
    | (go_at_call 104
       rw [HO.out] at HOV
       refine HOV.out.mono ?_
       rintro e u3 ⟨rfl, hbb⟩
       have HX3 := Lib.hid (HX2.out.step hbb)
       have HE3 := Lib.hid (HE2.out.step hbb)
       have HR3 := Lib.hid (box_step HR2.out hbb)
       clear hbb HX2 HE2 HR2 HOV)
    | (refine wpList_store_row rfl 95 (.tmp 6) (.tmp 17) rfl r #[.int .i64 0, .int .u64 0] rfl rfl 95 #[.int .i64 0, .int .u64 0] HR3.out (by kernel_rfl) rfl (by simp [Value.oneCell']) ?_))
  refine bodyPost_ret (v := .tuple #[.agg #[.int .i64 0, .int .u64 0], .int .i64 15]) (results_rowa Tryz.results97 _ _ r 95 #[.int .i64 0, .int .u64 0] (0, 0) _ rfl (setRow_heap _ r _ #[.int .i64 0, .int .u64 0] _ _ HR3.out) Tryz.underlying95 rfl (by kernel_rfl)) rfl ?_
  have hks : Kept (fun k => k = r) u3 (u3.setRow r #[.int .i64 0, .int .u64 0]) := Kept.setRow (R := fun k => k = r) (Kept.refl _ u3) (.inl rfl) _
  exact ⟨rfl, F, HX3.out.keep hks fun k hF e => HNF1.out (by rw [← e]; exact hF), HE3.out.own_kept hks fun k e => by rw [e, HRW.out]; exact Nat.le_refl _⟩
set_option maxHeartbeats 1000000 in
theorem parmX_full (h : WX w p ap z g c A S now tn ta tw tt F) (hA : A.Ok) (hser : A.serial ≤ 4611686018427387904) (at_ what : Nat) (hat : at_ < 18446744073709551616) (ho : ovr now at_ = false) (hw : A.which = none) : Calls Tryz.prog 97 #[.pointer (some ⟨p, 0, none⟩), .int .u64 (at_ : Int), .int .u64 (what : Int)] w fun e w' => e = .returned (.tuple #[.agg #[.int .i64 0, .int .u64 0], .int .i64 9]) ∧ ∃ F', WX w' p ap z g c A S now tn ta tw tt F' ∧ Ext F F' w w' := by
  have HO := Lib.hid ho
  have e1 : A.tk = A := by unfold Ar.tk; rw [hw]
  have e2 : A.tkH = #[.int .i64 0, .int .u64 0] := by unfold Ar.tkH; rw [hw]
  have e3 : A.tkE = 9 := by unfold Ar.tkE; rw [hw]
  have HTK : Hid (∀ (W : World) (Fw : Nat → Prop), WX W p ap z g c A S now tn ta tw tt Fw → Calls Tryz.prog 148 #[.pointer (some ⟨ap, 0, none⟩)] W fun e w' => e = .returned (.tuple #[.agg #[.int .i64 0, .int .u64 0], .int .i64 9]) ∧ ∃ F', WX w' p ap z g c A S now tn ta tw tt F' ∧ Ext Fw F' W w') := Lib.hid fun W Fw hx => hx.arena rfl fun Fa hPA => by
    have h9 := pArC.take hPA hA hx.n hser
    rw [e1, e2, e3] at h9
    exact h9
  clear ho hA hw e1 e2 e3
  have HX1 := Lib.hid (h.step (below_alloc w (.cells #[.int .i64 0, .int .u64 0] 95)))
  have HE1 := Lib.hid ((Ext.refl F w).step (below_alloc w (.cells #[.int .i64 0, .int .u64 0] 95)))
  have HR1 : Hid ((w.alloc (.cells #[.int .i64 0, .int .u64 0] 95)).heap[w.heap.size]? = some (.cells #[.int .i64 0, .int .u64 0] 95 (0, 0))) := Lib.hid (heap_alloc_new w _)
  obtain ⟨r, hr⟩ : ∃ r, r = w.heap.size := ⟨_, rfl⟩
  have HRW := Lib.hid hr
  rw [← hr] at HR1
  have HNF1 : Hid (¬ F r) := Lib.hid fun hF => by have := h.old r hF; omega
  clear h
  go_enter Tryz.func97, Tryz.ntmps97
  go_upto_region 1 with fail
  change Code.wp _ _ _ _ (w.alloc (.cells #[.int .i64 0, .int .u64 0] 95))
  rw [← hr]
  clear hr
  generalize w.alloc (.cells #[.int .i64 0, .int .u64 0] 95) = u1 at *
  go_upto_region 3 with (first
    | (go_at_call 80
       refine (pmade HX1.out).mono ?_
       rintro e u2 ⟨rfl, hbb⟩
       have HX2 := Lib.hid (HX1.out.step hbb)
       have HE2 := Lib.hid (HE1.out.step hbb)
       have HR2 := Lib.hid (box_step HR1.out hbb)
       clear hbb HX1 HE1 HR1))
  have HOV := Lib.hid (pover HX2.out at_ hat)
  go_upto_region 5 with (first
    | (go_at_call 104
       rw [HO.out] at HOV
       refine HOV.out.mono ?_
       rintro e u3 ⟨rfl, hbb⟩
       have HX3 := Lib.hid (HX2.out.step hbb)
       have HE3 := Lib.hid (HE2.out.step hbb)
       have HR3 := Lib.hid (box_step HR2.out hbb)
       clear hbb HX2 HE2 HR2 HOV))
  have x0 : u3.cell? ⟨p, 0, none⟩ = some (.pointer (some ⟨ap, 0, none⟩)) := blk_cell HX3.out.blk 0
  go_upto_region 6 with (first
    | (go_at_call 148
       refine (HTK.out _ _ HX3.out).mono ?_
       rintro e u ⟨rfl, F4, hx4, he4⟩
       have HX5 := Lib.hid hx4
       have HE5 := Lib.hid (HE3.out.trans he4)
       have HR5 := Lib.hid (he4.box HR3.out HNF1.out).1
       have HNF5 := Lib.hid (he4.box HR3.out HNF1.out).2
       clear hx4 he4 x0))
  have hal := below_alloc u (.cells #[.int .i64 0, .int .u64 0] 95)
  have HX6 := Lib.hid (HX5.out.step hal)
  have HE6 := Lib.hid (HE5.out.step hal)
  have HR6 := Lib.hid (box_step HR5.out hal)
  clear hal
  change Code.wp _ _ _ _ (u.alloc (.cells #[.int .i64 0, .int .u64 0] 95))
  generalize u.heap.size = hb at *
  generalize u.alloc (.cells #[.int .i64 0, .int .u64 0] 95) = u6 at *
  go_wp2_with (first
    | (refine wpList_store_row rfl 95 (.tmp 6) (.tmp 28) rfl r #[.int .i64 0, .int .u64 0] rfl rfl 95 #[.int .i64 0, .int .u64 0] HR6.out (by kernel_rfl) rfl (by simp [Value.oneCell']) ?_))
  refine bodyPost_ret (v := .tuple #[.agg #[.int .i64 0, .int .u64 0], .int .i64 9]) (results_rowa Tryz.results97 _ _ r 95 #[.int .i64 0, .int .u64 0] (0, 0) _ rfl (setRow_heap _ r _ #[.int .i64 0, .int .u64 0] _ _ HR6.out) Tryz.underlying95 rfl (by kernel_rfl)) rfl ?_
  have hks : Kept (fun k => k = r) u6 (u6.setRow r #[.int .i64 0, .int .u64 0]) := Kept.setRow (R := fun k => k = r) (Kept.refl _ u6) (.inl rfl) _
  exact ⟨rfl, F4, HX6.out.keep hks fun k hF e => HNF5.out (by rw [← e]; exact hF), HE6.out.own_kept hks fun k e => by rw [e, HRW.out]; exact Nat.le_refl _⟩
set_option maxHeartbeats 2000000 in
theorem parmX_ok (h : WX w p ap z g c A S now tn ta tw tt F) (hA : A.Ok) (hS : S.Fit) (hser : A.serial ≤ 4611686018427387904) (htn : tn < 18446744073709551615) (hnow : now < 18446744073709551615) (at_ what : Nat) (hat : at_ < 18446744073709551616) (ho : ovr now at_ = false) (i : Nat) (hw : A.which = some i) :
    Calls Tryz.prog 97 #[.pointer (some ⟨p, 0, none⟩), .int .u64 (at_ : Int), .int .u64 (what : Int)] w fun e w' => e = .returned (.tuple #[.agg #[.int .i64 (i : Int), .int .u64 ((A.serial : Int) + 1)], .int .i64 0]) ∧ ∃ F', WX w' p ap z g c (A.taken i) (S.push (plc now (max at_ (now + 1)) : Int) (i : Int)) now (tn + 1) (updN ta i (max at_ (now + 1))) (updN tw i what) (updN tt i (tn + 1)) F' ∧ Ext F F' w w' := by
  have HO := Lib.hid ho
  have HFIT := Lib.hid hS
  have hi0 : i < A.has.length := Ar.which_lt hA hw
  have e1 : A.tk = A.taken i := by unfold Ar.tk; rw [hw]
  have e2 : A.tkH = #[.int .i64 (i : Int), .int .u64 ((A.serial : Int) + 1)] := by unfold Ar.tkH; rw [hw]
  have e3 : A.tkE = 0 := by unfold Ar.tkE; rw [hw]
  have hl9 : (A.taken i).has.length = A.has.length := List.length_set
  have hi : i < (A.taken i).has.length := by rw [hl9]; exact hi0
  obtain ⟨k, hk⟩ : ∃ k, k = A.serial + 1 := ⟨_, rfl⟩
  have ek : ((A.serial : Int) + 1) = (k : Int) := by omega
  rw [ek] at e2 ⊢
  have HTK : Hid (∀ (W : World) (Fw : Nat → Prop), WX W p ap z g c A S now tn ta tw tt Fw → Calls Tryz.prog 148 #[.pointer (some ⟨ap, 0, none⟩)] W fun e w' => e = .returned (.tuple #[.agg #[.int .i64 (i : Int), .int .u64 (k : Int)], .int .i64 0]) ∧ ∃ F', WX w' p ap z g c (A.taken i) S now tn ta tw tt F' ∧ Ext Fw F' W w') := Lib.hid fun W Fw hx => hx.arena hl9 fun Fa hPA => by
    have h9 := pArC.take hPA hA hx.n hser
    rw [e1, e2, e3] at h9
    exact h9
  clear ho hA hw e1 e2 e3 hS hi0 hl9 hk ek hser
  generalize A.taken i = A2 at *
  have HX1 := Lib.hid (h.step (below_alloc w (.cells #[.int .i64 0, .int .u64 0] 95)))
  have HE1 := Lib.hid ((Ext.refl F w).step (below_alloc w (.cells #[.int .i64 0, .int .u64 0] 95)))
  have HR1 : Hid ((w.alloc (.cells #[.int .i64 0, .int .u64 0] 95)).heap[w.heap.size]? = some (.cells #[.int .i64 0, .int .u64 0] 95 (0, 0))) := Lib.hid (heap_alloc_new w _)
  obtain ⟨r, hr⟩ : ∃ r, r = w.heap.size := ⟨_, rfl⟩
  have HRW := Lib.hid hr
  rw [← hr] at HR1
  have HNF1 : Hid (¬ F r) := Lib.hid fun hF => by have := h.old r hF; omega
  clear h
  go_enter Tryz.func97, Tryz.ntmps97
  go_upto_region 1 with fail
  change Code.wp _ _ _ _ (w.alloc (.cells #[.int .i64 0, .int .u64 0] 95))
  rw [← hr]
  clear hr
  generalize w.alloc (.cells #[.int .i64 0, .int .u64 0] 95) = u1 at *
  go_upto_region 3 with (first
    | (go_at_call 80
       refine (pmade HX1.out).mono ?_
       rintro e u2 ⟨rfl, hbb⟩
       have HX2 := Lib.hid (HX1.out.step hbb)
       have HE2 := Lib.hid (HE1.out.step hbb)
       have HR2 := Lib.hid (box_step HR1.out hbb)
       clear hbb HX1 HE1 HR1))
  have HOV := Lib.hid (pover HX2.out at_ hat)
  go_upto_region 5 with (first
    | (go_at_call 104
       rw [HO.out] at HOV
       refine HOV.out.mono ?_
       rintro e u3 ⟨rfl, hbb⟩
       have HX3 := Lib.hid (HX2.out.step hbb)
       have HE3 := Lib.hid (HE2.out.step hbb)
       have HR3 := Lib.hid (box_step HR2.out hbb)
       clear hbb HX2 HE2 HR2 HOV))
  have x0 : u3.cell? ⟨p, 0, none⟩ = some (.pointer (some ⟨ap, 0, none⟩)) := blk_cell HX3.out.blk 0
  go_upto_region 6 with (first
    | (go_at_call 148
       refine (HTK.out _ _ HX3.out).mono ?_
       rintro e u ⟨rfl, F4, hx4, he4⟩
       have HX5 := Lib.hid hx4
       have HE5 := Lib.hid (HE3.out.trans he4)
       have HR5 := Lib.hid (he4.box HR3.out HNF1.out).1
       have HNF := Lib.hid (he4.box HR3.out HNF1.out).2
       clear hx4 he4 x0 HX3 HE3 HR3 HNF1))
  have hal := below_alloc u (.cells #[.int .i64 (i : Int), .int .u64 (k : Int)] 95)
  have HX7 := Lib.hid (HX5.out.step hal)
  have HE7 := Lib.hid (HE5.out.step hal)
  have HR7 := Lib.hid (box_step HR5.out hal)
  have HH7 : Hid ((u.alloc (.cells #[.int .i64 (i : Int), .int .u64 (k : Int)] 95)).heap[u.heap.size]? = some (.cells #[.int .i64 (i : Int), .int .u64 (k : Int)] 95 (0, 0))) := Lib.hid (heap_alloc_new u _)
  have HNH : Hid (¬ F4 u.heap.size) := Lib.hid fun hF => absurd (HX5.out.old _ hF) (Nat.lt_irrefl _)
  clear hal HX5 HE5 HR5
  change Code.wp _ _ _ _ (u.alloc (.cells #[.int .i64 (i : Int), .int .u64 (k : Int)] 95))
  generalize u.heap.size = hb at *
  generalize u.alloc (.cells #[.int .i64 (i : Int), .int .u64 (k : Int)] 95) = v7 at *
  go_upto_region 8 with fail
  obtain ⟨m, hm⟩ : ∃ m, m = A2.has.length := ⟨_, rfl⟩
  have HMM := Lib.hid hm
  rw [← hm] at hi
  have x2 : v7.cell? ⟨p, 2, none⟩ = some (.slice (some ⟨g, 0, none⟩) m c) := by rw [HMM.out]; exact blk_cell HX7.out.blk 2
  have y0 : v7.cell? ⟨hb, 0, none⟩ = some (.int .i64 (i : Int)) := blk_cell HH7.out 0
  have HPL : Hid (p < v7.heap.size) := Lib.hid (lt_heap HX7.out.blk)
  have HHL : Hid (hb < v7.heap.size) := Lib.hid (lt_heap HH7.out)
  have cap := HX7.out.cap9
  have hm9 := HX7.out.n
  rw [← hm] at cap hm9
  clear hm
  have i0' : (0 : Int) ≤ (i : Int) := by omega
  have i1' : (i : Int) < (m : Int) := by omega
  have i2' : ((i : Int)).toNat = i := by omega
  refine wp_region_grow (C := fun W => Below v7.heap.size v7 W) 9 45 [val (.pointer (some ⟨p, 0, none⟩)), val (.pointer (some ⟨p, 0, none⟩)), val (.pointer (some ⟨p, 2, none⟩)), val (.slice (some ⟨g, 0, none⟩) m c), val (.pointer (some ⟨hb, 0, none⟩)), val (.int .i64 (i : Int)), val (.int .u64 (what : Int)), val (.pointer (some ⟨g, i * 3, none⟩)), val (.pointer (some ⟨g, i * 3 + 1, none⟩))] (by kernel_rfl) rfl (by kernel_rfl) rfl ⟨stb_val _, stb_val _, stb_val _, stb_val _, stb_val _, stb_val _, stb_val _, stb_val _, stb_val _, trivial⟩ (Below.refl _ _).drew ?_ ?_
  · refine each_cons ?_ ?_
    · intro a W hW hd
      have h0 : a.tmps[0]?.getD undef = .pointer (some ⟨p, 0, none⟩) := slot_eq (hd 0 (by decide))
      exact grows_value _ hW (by simp [execOp, Act.eval, h0]) rfl
    refine each_cons ?_ ?_
    · intro a W hW hd
      have h30 : a.tmps[30]?.getD undef = .pointer (some ⟨p, 0, none⟩) := slot_eq (hd 30 (by decide))
      refine grows_value _ hW (?_ : _ = _) rfl
      clear hd
      go_simp
    refine each_cons ?_ ?_
    · intro a W hW hd
      have h31 : a.tmps[31]?.getD undef = .pointer (some ⟨p, 0, none⟩) := slot_eq (hd 31 (by decide))
      refine grows_value _ hW (?_ : _ = _) rfl
      clear hd
      go_simp
    refine each_cons ?_ ?_
    · intro a W hW hd
      have h32 : a.tmps[32]?.getD undef = .pointer (some ⟨p, 2, none⟩) := slot_eq (hd 32 (by decide))
      have xx : W.cell? ⟨p, 2, none⟩ = some (.slice (some ⟨g, 0, none⟩) m c) := (hW.cell (p := ⟨p, 2, none⟩) HPL.out).trans x2
      refine grows_value _ hW (?_ : _ = _) rfl
      clear hd
      go_simp
    refine each_cons ?_ ?_
    · intro a W hW hd
      have h8 : a.tmps[8]?.getD undef = .pointer (some ⟨hb, 0, none⟩) := slot_eq (hd 8 (by decide))
      refine grows_value _ hW (?_ : _ = _) rfl
      clear hd
      go_simp
    refine each_cons ?_ ?_
    · intro a W hW hd
      have h34 : a.tmps[34]?.getD undef = .pointer (some ⟨hb, 0, none⟩) := slot_eq (hd 34 (by decide))
      have xx : W.cell? ⟨hb, 0, none⟩ = some (.int .i64 (i : Int)) := (hW.cell (p := ⟨hb, 0, none⟩) HHL.out).trans y0
      refine grows_value _ hW (?_ : _ = _) rfl
      clear hd
      go_simp
    refine each_cons ?_ ?_
    · intro a W hW hd
      have h2 : a.tmps[2]?.getD undef = .int .u64 (what : Int) := slot_eq (hd 2 (by decide))
      refine grows_value _ hW (?_ : _ = _) rfl
      clear hd
      go_simp
    refine each_cons ?_ ?_
    · intro a W hW hd
      have h33 : a.tmps[33]?.getD undef = .slice (some ⟨g, 0, none⟩) m c := slot_eq (hd 33 (by decide))
      have h35 : a.tmps[35]?.getD undef = .int .i64 (i : Int) := slot_eq (hd 35 (by decide))
      refine grows_value _ hW (?_ : _ = _) rfl
      clear hd
      go_simp
    refine each_cons ?_ ?_
    · intro a W hW hd
      have h37 : a.tmps[37]?.getD undef = .pointer (some ⟨g, i * 3, none⟩) := slot_eq (hd 37 (by decide))
      refine grows_value _ hW (?_ : _ = _) rfl
      clear hd
      go_simp
    exact each_nil
  · refine behind_val rfl ?_
    refine behind_val rfl ?_
    refine behind_val rfl ?_
    refine behind_val rfl ?_
    refine behind_val rfl ?_
    refine behind_val rfl ?_
    refine behind_val rfl ?_
    refine behind_val rfl ?_
    refine behind_val rfl ?_
    refine behind_nil fun u8 hC8 hF8 => ?_
    clear hF8
    have HX8 := Lib.hid (HX7.out.step hC8)
    have HE8 := Lib.hid (HE7.out.step hC8)
    have HR8 := Lib.hid (box_step HR7.out hC8)
    have HH8 := Lib.hid (box_step HH7.out hC8)
    clear hC8 x2 y0 HX7 HE7 HR7 HH7
    simp only [Act.put, List.setIfInBounds_toArray, List.set_cons_succ, List.set_cons_zero, List.drop_succ_cons, List.drop_zero]
    have yg := HX8.out.t1 (j := i) (by rw [← HMM.out]; exact hi)
    have fg := HX8.out.lies.2 (i * 3 + 1)
    have HX9 := Lib.hid (HX8.out.setWhat i what)
    have HE9 := Lib.hid (HE8.out.setCell (p := ⟨g, i * 3 + 1, none⟩) HX8.out.mg (.int .u64 (what : Int)))
    have HGR : Hid (r ≠ g) := Lib.hid fun e => HNF.out (by rw [e]; exact HX8.out.mg)
    have HGH : Hid (hb ≠ g) := Lib.hid fun e => HNH.out (by rw [e]; exact HX8.out.mg)
    have HR9 : Hid ((u8.setCell ⟨g, i * 3 + 1, none⟩ (.int .u64 (what : Int))).heap[r]? = some (.cells #[.int .i64 0, .int .u64 0] 95 (0, 0))) := Lib.hid (blk_far HR8.out (p := ⟨g, i * 3 + 1, none⟩) HGR.out _)
    have HH9 : Hid ((u8.setCell ⟨g, i * 3 + 1, none⟩ (.int .u64 (what : Int))).heap[hb]? = some (.cells #[.int .i64 (i : Int), .int .u64 (k : Int)] 95 (0, 0))) := Lib.hid (blk_far HH8.out (p := ⟨g, i * 3 + 1, none⟩) HGH.out _)
    go_upto_region 9 with fail
    clear yg fg HX8 HE8 HR8 HH8
    generalize u8.setCell ⟨g, i * 3 + 1, none⟩ (.int .u64 (what : Int)) = u9 at *
    have y0 : u9.cell? ⟨hb, 0, none⟩ = some (.int .i64 (i : Int)) := blk_cell HH9.out 0
    go_upto_region 10 with (first
      | (go_at_call 105
         refine (pwbegin HX9.out HFIT.out i (by rw [← HMM.out]; exact hi) at_ hat hnow htn).mono ?_
         rintro e u10 ⟨rfl, F10, hx10, he10⟩
         have HX10 := Lib.hid hx10
         have HE10 := Lib.hid (HE9.out.trans he10)
         have HR10 := Lib.hid (he10.box HR9.out HNF.out).1
         have HH10 := Lib.hid (he10.box HH9.out HNH.out).1
         have HNF10 := Lib.hid (he10.box HR9.out HNF.out).2
         clear hx10 he10 HX9 HE9 HR9 HH9 y0))
    have y0 : u10.cell? ⟨hb, 0, none⟩ = some (.int .i64 (i : Int)) := blk_cell HH10.out 0
    have y1 : u10.cell? ⟨hb, 1, none⟩ = some (.int .u64 (k : Int)) := blk_cell HH10.out 1
    go_wp2_with (first
      | (refine wpList_store_row rfl 95 (.tmp 6) (.tmp 44) rfl r #[.int .i64 (i : Int), .int .u64 (k : Int)] rfl rfl 95 #[.int .i64 0, .int .u64 0] HR10.out (by kernel_rfl) rfl (by simp [Value.oneCell']) ?_))
    refine bodyPost_ret (v := .tuple #[.agg #[.int .i64 (i : Int), .int .u64 (k : Int)], .int .i64 0]) (results_rowa Tryz.results97 _ _ r 95 #[.int .i64 (i : Int), .int .u64 (k : Int)] (0, 0) _ rfl (setRow_heap _ r _ #[.int .i64 (i : Int), .int .u64 (k : Int)] _ _ HR10.out) Tryz.underlying95 rfl (by kernel_rfl)) rfl ?_
    have hks : Kept (fun k => k = r) u10 (u10.setRow r #[.int .i64 (i : Int), .int .u64 (k : Int)]) := Kept.setRow (R := fun k => k = r) (Kept.refl _ u10) (.inl rfl) _
    exact ⟨rfl, F10, HX10.out.keep hks fun k hF e => HNF10.out (by rw [← e]; exact hF), HE10.out.own_kept hks fun k e => by rw [e, HRW.out]; exact Nat.le_refl _⟩
set_option maxHeartbeats 1000000 in
theorem pagainX_no (h : WX w p ap z g c A S now tn ta tw tt F) (hi : Int) (k : Nat) (hl : A.live hi k = false) (at_ : Nat) : Calls Tryz.prog 59 #[.pointer (some ⟨p, 0, none⟩), .agg #[.int .i64 hi, .int .u64 (k : Int)], .int .u64 (at_ : Int)] w fun e w' => e = .returned (.int .i64 14) ∧ ∃ F', WX w' p ap z g c A S now tn ta tw tt F' ∧ Ext F F' w w' := by
  have HLV : Hid (∀ (W : World) (Fw : Nat → Prop), WX W p ap z g c A S now tn ta tw tt Fw → Calls Tryz.prog 89 #[.pointer (some ⟨ap, 0, none⟩), .agg #[.int .i64 hi, .int .u64 (k : Int)]] W (ret (.bool false) W)) := Lib.hid fun W Fw hx => hx.arq fun Fa hPA => by
    have h9 := plive_any hPA hx.n hi k
    rw [hl] at h9
    exact h9
  clear hl
  have HX1 := Lib.hid (h.step (below_alloc w (.cells #[.int .i64 hi, .int .u64 (k : Int)] 95)))
  have HE1 := Lib.hid ((Ext.refl F w).step (below_alloc w (.cells #[.int .i64 hi, .int .u64 (k : Int)] 95)))
  have HR1 : Hid ((w.alloc (.cells #[.int .i64 hi, .int .u64 (k : Int)] 95)).heap[w.heap.size]? = some (.cells #[.int .i64 hi, .int .u64 (k : Int)] 95 (0, 0))) := Lib.hid (heap_alloc_new w _)
  obtain ⟨r, hr⟩ : ∃ r, r = w.heap.size := ⟨_, rfl⟩
  rw [← hr] at HR1
  have HNF1 : Hid (¬ F r) := Lib.hid fun hF => by have := h.old r hF; omega
  clear h
  go_enter Tryz.func59, Tryz.ntmps59
  go_upto_region 1 with fail
  change Code.wp _ _ _ _ (w.alloc (.cells #[.int .i64 hi, .int .u64 (k : Int)] 95))
  rw [← hr]
  clear hr
  generalize w.alloc (.cells #[.int .i64 hi, .int .u64 (k : Int)] 95) = u1 at *
  go_upto_region 3 with (first
    | (go_at_call 80
       refine (pmade HX1.out).mono ?_
       rintro e u2 ⟨rfl, hbb⟩
       have HX2 := Lib.hid (HX1.out.step hbb)
       have HE2 := Lib.hid (HE1.out.step hbb)
       have HR2 := Lib.hid (box_step HR1.out hbb)
       clear hbb HX1 HE1 HR1))
  have x0 : u2.cell? ⟨p, 0, none⟩ = some (.pointer (some ⟨ap, 0, none⟩)) := blk_cell HX2.out.blk 0
  have y0 : u2.cell? ⟨r, 0, none⟩ = some (.int .i64 hi) := blk_cell HR2.out 0
  have y1 : u2.cell? ⟨r, 1, none⟩ = some (.int .u64 (k : Int)) := blk_cell HR2.out 1
  have HPL : Hid (p < u2.heap.size) := Lib.hid (lt_heap HX2.out.blk)
  have HRL : Hid (r < u2.heap.size) := Lib.hid (lt_heap HR2.out)
  refine wp_region_grow (C := fun W => Below u2.heap.size u2 W) 7 32 [val (.pointer (some ⟨p, 0, none⟩)), val (.pointer (some ⟨p, 0, none⟩)), val (.pointer (some ⟨p, 0, none⟩)), val (.pointer (some ⟨ap, 0, none⟩)), val (.agg #[.int .i64 hi, .int .u64 (k : Int)]), val (.bool false), val (.bool true)] (by kernel_rfl) rfl (by kernel_rfl) rfl ⟨stb_val _, stb_val _, stb_val _, stb_val _, stb_val _, stb_val _, stb_val _, trivial⟩ (Below.refl _ _).drew ?_ ?_
  · refine each_cons ?_ ?_
    · intro a W hW hd
      have h0 : a.tmps[0]?.getD undef = .pointer (some ⟨p, 0, none⟩) := slot_eq (hd 0 (by decide))
      exact grows_value _ hW (by simp [execOp, Act.eval, h0]) rfl
    refine each_cons ?_ ?_
    · intro a W hW hd
      have h10 : a.tmps[10]?.getD undef = .pointer (some ⟨p, 0, none⟩) := slot_eq (hd 10 (by decide))
      refine grows_value _ hW (?_ : _ = _) rfl
      clear hd
      go_simp
    refine each_cons ?_ ?_
    · intro a W hW hd
      have h11 : a.tmps[11]?.getD undef = .pointer (some ⟨p, 0, none⟩) := slot_eq (hd 11 (by decide))
      refine grows_value _ hW (?_ : _ = _) rfl
      clear hd
      go_simp
    refine each_cons ?_ ?_
    · intro a W hW hd
      have h12 : a.tmps[12]?.getD undef = .pointer (some ⟨p, 0, none⟩) := slot_eq (hd 12 (by decide))
      have xx : W.cell? ⟨p, 0, none⟩ = some (.pointer (some ⟨ap, 0, none⟩)) := (hW.cell (p := ⟨p, 0, none⟩) HPL.out).trans x0
      refine grows_value _ hW (?_ : _ = _) rfl
      clear hd
      go_simp
    refine each_cons ?_ ?_
    · intro a W hW hd
      have h4 : a.tmps[4]?.getD undef = .pointer (some ⟨r, 0, none⟩) := slot_eq (hd 4 (by decide))
      have xx0 : W.cell? ⟨r, 0, none⟩ = some (.int .i64 hi) := (hW.cell (p := ⟨r, 0, none⟩) HRL.out).trans y0
      have xx1 : W.cell? ⟨r, 1, none⟩ = some (.int .u64 (k : Int)) := (hW.cell (p := ⟨r, 1, none⟩) HRL.out).trans y1
      refine grows_value _ hW (?_ : _ = _) rfl
      clear hd
      go_simp
    refine each_cons ?_ ?_
    · intro a W hW hd
      have h13 : a.tmps[13]?.getD undef = .pointer (some ⟨ap, 0, none⟩) := slot_eq (hd 13 (by decide))
      have h14 : a.tmps[14]?.getD undef = .agg #[.int .i64 hi, .int .u64 (k : Int)] := slot_eq (hd 14 (by decide))
      refine grows_call (fn := 89) (args := #[.pointer (some ⟨ap, 0, none⟩), .agg #[.int .i64 hi, .int .u64 (k : Int)]]) (by clear hd; go_simp) ?_
      refine (HLV.out _ _ (HX2.out.step hW)).mono ?_
      rintro e W' ⟨rfl, hb⟩
      exact ⟨_, rfl, rfl, hb, hW.trans (hb.mono hW.size)⟩
    refine each_cons ?_ ?_
    · intro a W hW hd
      have h15 : a.tmps[15]?.getD undef = .bool false := slot_eq (hd 15 (by decide))
      refine grows_value _ hW (?_ : _ = _) rfl
      clear hd
      go_simp
    exact each_nil
  · refine behind_val rfl ?_
    refine behind_val rfl ?_
    refine behind_val rfl ?_
    refine behind_val rfl ?_
    refine behind_val rfl ?_
    refine behind_val rfl ?_
    refine behind_val rfl ?_
    refine behind_nil fun u4 hC4 hF4 => ?_
    clear hF4
    have HX4 := Lib.hid (HX2.out.step hC4)
    have HE4 := Lib.hid (HE2.out.step hC4)
    have HR4 := Lib.hid (box_step HR2.out hC4)
    clear hC4 x0 y0 y1 HX2 HE2 HR2
    simp only [Act.put, List.setIfInBounds_toArray, List.set_cons_succ, List.set_cons_zero, List.drop_succ_cons, List.drop_zero]
    go_wp2_with fail
    go_ret
    exact ⟨rfl, F, HX4.out, HE4.out⟩
set_option maxHeartbeats 1000000 in
theorem pagainX_over (h : WX w p ap z g c A S now tn ta tw tt F) (hi : Int) (k : Nat) (hl : A.live hi k = true) (at_ : Nat) (hat : at_ < 18446744073709551616) (ho : ovr now at_ = true) : Calls Tryz.prog 59 #[.pointer (some ⟨p, 0, none⟩), .agg #[.int .i64 hi, .int .u64 (k : Int)], .int .u64 (at_ : Int)] w fun e w' => e = .returned (.int .i64 15) ∧ ∃ F', WX w' p ap z g c A S now tn ta tw tt F' ∧ Ext F F' w w' := by
  have HO := Lib.hid ho
  clear ho
  have HLV : Hid (∀ (W : World) (Fw : Nat → Prop), WX W p ap z g c A S now tn ta tw tt Fw → Calls Tryz.prog 89 #[.pointer (some ⟨ap, 0, none⟩), .agg #[.int .i64 hi, .int .u64 (k : Int)]] W (ret (.bool true) W)) := Lib.hid fun W Fw hx => hx.arq fun Fa hPA => by
    have h9 := plive_any hPA hx.n hi k
    rw [hl] at h9
    exact h9
  clear hl
  have HX1 := Lib.hid (h.step (below_alloc w (.cells #[.int .i64 hi, .int .u64 (k : Int)] 95)))
  have HE1 := Lib.hid ((Ext.refl F w).step (below_alloc w (.cells #[.int .i64 hi, .int .u64 (k : Int)] 95)))
  have HR1 : Hid ((w.alloc (.cells #[.int .i64 hi, .int .u64 (k : Int)] 95)).heap[w.heap.size]? = some (.cells #[.int .i64 hi, .int .u64 (k : Int)] 95 (0, 0))) := Lib.hid (heap_alloc_new w _)
  obtain ⟨r, hr⟩ : ∃ r, r = w.heap.size := ⟨_, rfl⟩
  rw [← hr] at HR1
  have HNF1 : Hid (¬ F r) := Lib.hid fun hF => by have := h.old r hF; omega
  clear h
  go_enter Tryz.func59, Tryz.ntmps59
  go_upto_region 1 with fail
  change Code.wp _ _ _ _ (w.alloc (.cells #[.int .i64 hi, .int .u64 (k : Int)] 95))
  rw [← hr]
  clear hr
  generalize w.alloc (.cells #[.int .i64 hi, .int .u64 (k : Int)] 95) = u1 at *
  go_upto_region 3 with (first
    | (go_at_call 80
       refine (pmade HX1.out).mono ?_
       rintro e u2 ⟨rfl, hbb⟩
       have HX2 := Lib.hid (HX1.out.step hbb)
       have HE2 := Lib.hid (HE1.out.step hbb)
       have HR2 := Lib.hid (box_step HR1.out hbb)
       clear hbb HX1 HE1 HR1))
  have x0 : u2.cell? ⟨p, 0, none⟩ = some (.pointer (some ⟨ap, 0, none⟩)) := blk_cell HX2.out.blk 0
  have y0 : u2.cell? ⟨r, 0, none⟩ = some (.int .i64 hi) := blk_cell HR2.out 0
  have y1 : u2.cell? ⟨r, 1, none⟩ = some (.int .u64 (k : Int)) := blk_cell HR2.out 1
  have HPL : Hid (p < u2.heap.size) := Lib.hid (lt_heap HX2.out.blk)
  have HRL : Hid (r < u2.heap.size) := Lib.hid (lt_heap HR2.out)
  refine wp_region_grow (C := fun W => Below u2.heap.size u2 W) 7 32 [val (.pointer (some ⟨p, 0, none⟩)), val (.pointer (some ⟨p, 0, none⟩)), val (.pointer (some ⟨p, 0, none⟩)), val (.pointer (some ⟨ap, 0, none⟩)), val (.agg #[.int .i64 hi, .int .u64 (k : Int)]), val (.bool true), val (.bool false)] (by kernel_rfl) rfl (by kernel_rfl) rfl ⟨stb_val _, stb_val _, stb_val _, stb_val _, stb_val _, stb_val _, stb_val _, trivial⟩ (Below.refl _ _).drew ?_ ?_
  · refine each_cons ?_ ?_
    · intro a W hW hd
      have h0 : a.tmps[0]?.getD undef = .pointer (some ⟨p, 0, none⟩) := slot_eq (hd 0 (by decide))
      exact grows_value _ hW (by simp [execOp, Act.eval, h0]) rfl
    refine each_cons ?_ ?_
    · intro a W hW hd
      have h10 : a.tmps[10]?.getD undef = .pointer (some ⟨p, 0, none⟩) := slot_eq (hd 10 (by decide))
      refine grows_value _ hW (?_ : _ = _) rfl
      clear hd
      go_simp
    refine each_cons ?_ ?_
    · intro a W hW hd
      have h11 : a.tmps[11]?.getD undef = .pointer (some ⟨p, 0, none⟩) := slot_eq (hd 11 (by decide))
      refine grows_value _ hW (?_ : _ = _) rfl
      clear hd
      go_simp
    refine each_cons ?_ ?_
    · intro a W hW hd
      have h12 : a.tmps[12]?.getD undef = .pointer (some ⟨p, 0, none⟩) := slot_eq (hd 12 (by decide))
      have xx : W.cell? ⟨p, 0, none⟩ = some (.pointer (some ⟨ap, 0, none⟩)) := (hW.cell (p := ⟨p, 0, none⟩) HPL.out).trans x0
      refine grows_value _ hW (?_ : _ = _) rfl
      clear hd
      go_simp
    refine each_cons ?_ ?_
    · intro a W hW hd
      have h4 : a.tmps[4]?.getD undef = .pointer (some ⟨r, 0, none⟩) := slot_eq (hd 4 (by decide))
      have xx0 : W.cell? ⟨r, 0, none⟩ = some (.int .i64 hi) := (hW.cell (p := ⟨r, 0, none⟩) HRL.out).trans y0
      have xx1 : W.cell? ⟨r, 1, none⟩ = some (.int .u64 (k : Int)) := (hW.cell (p := ⟨r, 1, none⟩) HRL.out).trans y1
      refine grows_value _ hW (?_ : _ = _) rfl
      clear hd
      go_simp
    refine each_cons ?_ ?_
    · intro a W hW hd
      have h13 : a.tmps[13]?.getD undef = .pointer (some ⟨ap, 0, none⟩) := slot_eq (hd 13 (by decide))
      have h14 : a.tmps[14]?.getD undef = .agg #[.int .i64 hi, .int .u64 (k : Int)] := slot_eq (hd 14 (by decide))
      refine grows_call (fn := 89) (args := #[.pointer (some ⟨ap, 0, none⟩), .agg #[.int .i64 hi, .int .u64 (k : Int)]]) (by clear hd; go_simp) ?_
      refine (HLV.out _ _ (HX2.out.step hW)).mono ?_
      rintro e W' ⟨rfl, hb⟩
      exact ⟨_, rfl, rfl, hb, hW.trans (hb.mono hW.size)⟩
    refine each_cons ?_ ?_
    · intro a W hW hd
      have h15 : a.tmps[15]?.getD undef = .bool true := slot_eq (hd 15 (by decide))
      refine grows_value _ hW (?_ : _ = _) rfl
      clear hd
      go_simp
    exact each_nil
  · refine behind_val rfl ?_
    refine behind_val rfl ?_
    refine behind_val rfl ?_
    refine behind_val rfl ?_
    refine behind_val rfl ?_
    refine behind_val rfl ?_
    refine behind_val rfl ?_
    refine behind_nil fun u4 hC4 hF4 => ?_
    clear hF4
    have HX4 := Lib.hid (HX2.out.step hC4)
    have HE4 := Lib.hid (HE2.out.step hC4)
    have HR4 := Lib.hid (box_step HR2.out hC4)
    clear hC4 x0 y0 y1 HX2 HE2 HR2
    simp only [Act.put, List.setIfInBounds_toArray, List.set_cons_succ, List.set_cons_zero, List.drop_succ_cons, List.drop_zero]
    have HOV := Lib.hid (pover HX4.out at_ hat)
    go_wp2_with (first
      | (go_at_call 104
         rw [HO.out] at HOV
         refine HOV.out.mono ?_
         rintro e u5 ⟨rfl, hbb⟩
         have HX5 := Lib.hid (HX4.out.step hbb)
         have HE5 := Lib.hid (HE4.out.step hbb)
         have HR5 := Lib.hid (box_step HR4.out hbb)
         clear hbb HX4 HE4 HR4 HOV))
    go_ret
    exact ⟨rfl, F, HX5.out, HE5.out⟩
set_option maxHeartbeats 2000000 in
theorem pagainX_ok (h : WX w p ap z g c A S now tn ta tw tt F) (hS : S.Fit) (htn : tn < 18446744073709551615) (hnow : now < 18446744073709551615) (i k : Nat) (hin : i < A.has.length) (hl : A.live (i : Int) k = true) (at_ : Nat) (hat : at_ < 18446744073709551616) (ho : ovr now at_ = false) : Calls Tryz.prog 59 #[.pointer (some ⟨p, 0, none⟩), .agg #[.int .i64 (i : Int), .int .u64 (k : Int)], .int .u64 (at_ : Int)] w fun e w' => e = .returned (.int .i64 0) ∧ ∃ F', WX w' p ap z g c A ((S.rem (i : Int)).push (plc now (max at_ (now + 1)) : Int) (i : Int)) now (tn + 1) (updN ta i (max at_ (now + 1))) tw (updN tt i (tn + 1)) F' ∧ Ext F F' w w' := by
  have HO := Lib.hid ho
  have HFIT := Lib.hid hS
  clear ho hS
  have HLV : Hid (∀ (W : World) (Fw : Nat → Prop), WX W p ap z g c A S now tn ta tw tt Fw → Calls Tryz.prog 89 #[.pointer (some ⟨ap, 0, none⟩), .agg #[.int .i64 (i : Int), .int .u64 (k : Int)]] W (ret (.bool true) W)) := Lib.hid fun W Fw hx => hx.arq fun Fa hPA => by
    have h9 := plive_any hPA hx.n (i : Int) k
    rw [hl] at h9
    exact h9
  clear hl
  have HX1 := Lib.hid (h.step (below_alloc w (.cells #[.int .i64 (i : Int), .int .u64 (k : Int)] 95)))
  have HE1 := Lib.hid ((Ext.refl F w).step (below_alloc w (.cells #[.int .i64 (i : Int), .int .u64 (k : Int)] 95)))
  have HR1 : Hid ((w.alloc (.cells #[.int .i64 (i : Int), .int .u64 (k : Int)] 95)).heap[w.heap.size]? = some (.cells #[.int .i64 (i : Int), .int .u64 (k : Int)] 95 (0, 0))) := Lib.hid (heap_alloc_new w _)
  obtain ⟨r, hr⟩ : ∃ r, r = w.heap.size := ⟨_, rfl⟩
  rw [← hr] at HR1
  have HNF1 : Hid (¬ F r) := Lib.hid fun hF => by have := h.old r hF; omega
  clear h
  go_enter Tryz.func59, Tryz.ntmps59
  go_upto_region 1 with fail
  change Code.wp _ _ _ _ (w.alloc (.cells #[.int .i64 (i : Int), .int .u64 (k : Int)] 95))
  rw [← hr]
  clear hr
  generalize w.alloc (.cells #[.int .i64 (i : Int), .int .u64 (k : Int)] 95) = u1 at *
  go_upto_region 3 with (first
    | (go_at_call 80
       refine (pmade HX1.out).mono ?_
       rintro e u2 ⟨rfl, hbb⟩
       have HX2 := Lib.hid (HX1.out.step hbb)
       have HE2 := Lib.hid (HE1.out.step hbb)
       have HR2 := Lib.hid (box_step HR1.out hbb)
       clear hbb HX1 HE1 HR1))
  have x0 : u2.cell? ⟨p, 0, none⟩ = some (.pointer (some ⟨ap, 0, none⟩)) := blk_cell HX2.out.blk 0
  have y0 : u2.cell? ⟨r, 0, none⟩ = some (.int .i64 (i : Int)) := blk_cell HR2.out 0
  have y1 : u2.cell? ⟨r, 1, none⟩ = some (.int .u64 (k : Int)) := blk_cell HR2.out 1
  have HPL : Hid (p < u2.heap.size) := Lib.hid (lt_heap HX2.out.blk)
  have HRL : Hid (r < u2.heap.size) := Lib.hid (lt_heap HR2.out)
  refine wp_region_grow (C := fun W => Below u2.heap.size u2 W) 7 32 [val (.pointer (some ⟨p, 0, none⟩)), val (.pointer (some ⟨p, 0, none⟩)), val (.pointer (some ⟨p, 0, none⟩)), val (.pointer (some ⟨ap, 0, none⟩)), val (.agg #[.int .i64 (i : Int), .int .u64 (k : Int)]), val (.bool true), val (.bool false)] (by kernel_rfl) rfl (by kernel_rfl) rfl ⟨stb_val _, stb_val _, stb_val _, stb_val _, stb_val _, stb_val _, stb_val _, trivial⟩ (Below.refl _ _).drew ?_ ?_
  · refine each_cons ?_ ?_
    · intro a W hW hd
      have h0 : a.tmps[0]?.getD undef = .pointer (some ⟨p, 0, none⟩) := slot_eq (hd 0 (by decide))
      exact grows_value _ hW (by simp [execOp, Act.eval, h0]) rfl
    refine each_cons ?_ ?_
    · intro a W hW hd
      have h10 : a.tmps[10]?.getD undef = .pointer (some ⟨p, 0, none⟩) := slot_eq (hd 10 (by decide))
      refine grows_value _ hW (?_ : _ = _) rfl
      clear hd
      go_simp
    refine each_cons ?_ ?_
    · intro a W hW hd
      have h11 : a.tmps[11]?.getD undef = .pointer (some ⟨p, 0, none⟩) := slot_eq (hd 11 (by decide))
      refine grows_value _ hW (?_ : _ = _) rfl
      clear hd
      go_simp
    refine each_cons ?_ ?_
    · intro a W hW hd
      have h12 : a.tmps[12]?.getD undef = .pointer (some ⟨p, 0, none⟩) := slot_eq (hd 12 (by decide))
      have xx : W.cell? ⟨p, 0, none⟩ = some (.pointer (some ⟨ap, 0, none⟩)) := (hW.cell (p := ⟨p, 0, none⟩) HPL.out).trans x0
      refine grows_value _ hW (?_ : _ = _) rfl
      clear hd
      go_simp
    refine each_cons ?_ ?_
    · intro a W hW hd
      have h4 : a.tmps[4]?.getD undef = .pointer (some ⟨r, 0, none⟩) := slot_eq (hd 4 (by decide))
      have xx0 : W.cell? ⟨r, 0, none⟩ = some (.int .i64 (i : Int)) := (hW.cell (p := ⟨r, 0, none⟩) HRL.out).trans y0
      have xx1 : W.cell? ⟨r, 1, none⟩ = some (.int .u64 (k : Int)) := (hW.cell (p := ⟨r, 1, none⟩) HRL.out).trans y1
      refine grows_value _ hW (?_ : _ = _) rfl
      clear hd
      go_simp
    refine each_cons ?_ ?_
    · intro a W hW hd
      have h13 : a.tmps[13]?.getD undef = .pointer (some ⟨ap, 0, none⟩) := slot_eq (hd 13 (by decide))
      have h14 : a.tmps[14]?.getD undef = .agg #[.int .i64 (i : Int), .int .u64 (k : Int)] := slot_eq (hd 14 (by decide))
      refine grows_call (fn := 89) (args := #[.pointer (some ⟨ap, 0, none⟩), .agg #[.int .i64 (i : Int), .int .u64 (k : Int)]]) (by clear hd; go_simp) ?_
      refine (HLV.out _ _ (HX2.out.step hW)).mono ?_
      rintro e W' ⟨rfl, hb⟩
      exact ⟨_, rfl, rfl, hb, hW.trans (hb.mono hW.size)⟩
    refine each_cons ?_ ?_
    · intro a W hW hd
      have h15 : a.tmps[15]?.getD undef = .bool true := slot_eq (hd 15 (by decide))
      refine grows_value _ hW (?_ : _ = _) rfl
      clear hd
      go_simp
    exact each_nil
  · refine behind_val rfl ?_
    refine behind_val rfl ?_
    refine behind_val rfl ?_
    refine behind_val rfl ?_
    refine behind_val rfl ?_
    refine behind_val rfl ?_
    refine behind_val rfl ?_
    refine behind_nil fun u4 hC4 hF4 => ?_
    clear hF4
    have HX4 := Lib.hid (HX2.out.step hC4)
    have HE4 := Lib.hid (HE2.out.step hC4)
    have HR4 := Lib.hid (box_step HR2.out hC4)
    clear hC4 x0 y0 y1 HX2 HE2 HR2
    simp only [Act.put, List.setIfInBounds_toArray, List.set_cons_succ, List.set_cons_zero, List.drop_succ_cons, List.drop_zero]
    have HOV := Lib.hid (pover HX4.out at_ hat)
    go_upto_region 7 with (first
      | (go_at_call 104
         rw [HO.out] at HOV
         refine HOV.out.mono ?_
         rintro e u5 ⟨rfl, hbb⟩
         have HX5 := Lib.hid (HX4.out.step hbb)
         have HE5 := Lib.hid (HE4.out.step hbb)
         have HR5 := Lib.hid (box_step HR4.out hbb)
         clear hbb HX4 HE4 HR4 HOV))
    have x1 : u5.cell? ⟨p, 1, none⟩ = some (.pointer (some ⟨z, 0, none⟩)) := blk_cell HX5.out.blk 1
    have y0 : u5.cell? ⟨r, 0, none⟩ = some (.int .i64 (i : Int)) := blk_cell HR5.out 0
    have HPL : Hid (p < u5.heap.size) := Lib.hid (lt_heap HX5.out.blk)
    have HRL : Hid (r < u5.heap.size) := Lib.hid (lt_heap HR5.out)
    refine wp_region_grow (C := fun W => Below u5.heap.size u5 W) 6 32 [val (.pointer (some ⟨p, 0, none⟩)), val (.pointer (some ⟨p, 0, none⟩)), val (.pointer (some ⟨p, 1, none⟩)), val (.pointer (some ⟨z, 0, none⟩)), val (.pointer (some ⟨r, 0, none⟩)), val (.int .i64 (i : Int))] (by kernel_rfl) rfl (by kernel_rfl) rfl ⟨stb_val _, stb_val _, stb_val _, stb_val _, stb_val _, stb_val _, trivial⟩ (Below.refl _ _).drew ?_ ?_
    · refine each_cons ?_ ?_
      · intro a W hW hd
        have h0 : a.tmps[0]?.getD undef = .pointer (some ⟨p, 0, none⟩) := slot_eq (hd 0 (by decide))
        exact grows_value _ hW (by simp [execOp, Act.eval, h0]) rfl
      refine each_cons ?_ ?_
      · intro a W hW hd
        have h20 : a.tmps[20]?.getD undef = .pointer (some ⟨p, 0, none⟩) := slot_eq (hd 20 (by decide))
        refine grows_value _ hW (?_ : _ = _) rfl
        clear hd
        go_simp
      refine each_cons ?_ ?_
      · intro a W hW hd
        have h21 : a.tmps[21]?.getD undef = .pointer (some ⟨p, 0, none⟩) := slot_eq (hd 21 (by decide))
        refine grows_value _ hW (?_ : _ = _) rfl
        clear hd
        go_simp
      refine each_cons ?_ ?_
      · intro a W hW hd
        have h22 : a.tmps[22]?.getD undef = .pointer (some ⟨p, 1, none⟩) := slot_eq (hd 22 (by decide))
        have xx : W.cell? ⟨p, 1, none⟩ = some (.pointer (some ⟨z, 0, none⟩)) := (hW.cell (p := ⟨p, 1, none⟩) HPL.out).trans x1
        refine grows_value _ hW (?_ : _ = _) rfl
        clear hd
        go_simp
      refine each_cons ?_ ?_
      · intro a W hW hd
        have h4 : a.tmps[4]?.getD undef = .pointer (some ⟨r, 0, none⟩) := slot_eq (hd 4 (by decide))
        refine grows_value _ hW (?_ : _ = _) rfl
        clear hd
        go_simp
      refine each_cons ?_ ?_
      · intro a W hW hd
        have h24 : a.tmps[24]?.getD undef = .pointer (some ⟨r, 0, none⟩) := slot_eq (hd 24 (by decide))
        have xx : W.cell? ⟨r, 0, none⟩ = some (.int .i64 (i : Int)) := (hW.cell (p := ⟨r, 0, none⟩) HRL.out).trans y0
        refine grows_value _ hW (?_ : _ = _) rfl
        clear hd
        go_simp
      exact each_nil
    · refine behind_val rfl ?_
      refine behind_val rfl ?_
      refine behind_val rfl ?_
      refine behind_val rfl ?_
      refine behind_val rfl ?_
      refine behind_val rfl ?_
      refine behind_nil fun u6 hC6 hF6 => ?_
      clear hF6
      have HX6 := Lib.hid (HX5.out.step hC6)
      have HE6 := Lib.hid (HE5.out.step hC6)
      have HR6 := Lib.hid (box_step HR5.out hC6)
      clear hC6 x1 y0 HX5 HE5 HR5
      simp only [Act.put, List.setIfInBounds_toArray, List.set_cons_succ, List.set_cons_zero, List.drop_succ_cons, List.drop_zero]
      go_upto_region 8 with (first
        | (go_at_call 90
           refine (HX6.out.slots fun Zz => pa_remove_rest HFIT.out Zz (i : Int)).mono ?_
           rintro e u7 ⟨rfl, F7, hx7, he7⟩
           have HX7 := Lib.hid hx7
           have HE7 := Lib.hid (HE6.out.trans he7)
           have HR7 := Lib.hid (he7.box HR6.out HNF1.out).1
           clear hx7 he7 HX6 HE6 HR6))
      have y0 : u7.cell? ⟨r, 0, none⟩ = some (.int .i64 (i : Int)) := blk_cell HR7.out 0
      have y1 : u7.cell? ⟨r, 1, none⟩ = some (.int .u64 (k : Int)) := blk_cell HR7.out 1
      have HFIT2 := Lib.hid (rem_fit HFIT.out (i : Int))
      go_wp2_with (first
        | (go_at_call 105
           refine (pwbegin HX7.out HFIT2.out i hin at_ hat hnow htn).mono ?_
           rintro e u8 ⟨rfl, F8, hx8, he8⟩
           have HX8 := Lib.hid hx8
           have HE8 := Lib.hid (HE7.out.trans he8)
           clear hx8 he8 HX7 HE7 HR7 y0 y1))
      go_ret
      exact ⟨rfl, F8, HX8.out, HE8.out⟩
set_option maxHeartbeats 1000000 in
theorem pcancelX_no (h : WX w p ap z g c A S now tn ta tw tt F) (hi : Int) (k : Nat) (hl : A.live hi k = false) : Calls Tryz.prog 44 #[.pointer (some ⟨p, 0, none⟩), .agg #[.int .i64 hi, .int .u64 (k : Int)]] w fun e w' => e = .returned (.int .i64 14) ∧ ∃ F', WX w' p ap z g c A S now tn ta tw tt F' ∧ Ext F F' w w' := by
  have HLV : Hid (∀ (W : World) (Fw : Nat → Prop), WX W p ap z g c A S now tn ta tw tt Fw → Calls Tryz.prog 89 #[.pointer (some ⟨ap, 0, none⟩), .agg #[.int .i64 hi, .int .u64 (k : Int)]] W (ret (.bool false) W)) := Lib.hid fun W Fw hx => hx.arq fun Fa hPA => by
    have h9 := plive_any hPA hx.n hi k
    rw [hl] at h9
    exact h9
  clear hl
  have HX1 := Lib.hid (h.step (below_alloc w (.cells #[.int .i64 hi, .int .u64 (k : Int)] 95)))
  have HE1 := Lib.hid ((Ext.refl F w).step (below_alloc w (.cells #[.int .i64 hi, .int .u64 (k : Int)] 95)))
  have HR1 : Hid ((w.alloc (.cells #[.int .i64 hi, .int .u64 (k : Int)] 95)).heap[w.heap.size]? = some (.cells #[.int .i64 hi, .int .u64 (k : Int)] 95 (0, 0))) := Lib.hid (heap_alloc_new w _)
  obtain ⟨r, hr⟩ : ∃ r, r = w.heap.size := ⟨_, rfl⟩
  rw [← hr] at HR1
  have HNF1 : Hid (¬ F r) := Lib.hid fun hF => by have := h.old r hF; omega
  clear h
  go_enter Tryz.func44, Tryz.ntmps44
  go_upto_region 1 with fail
  change Code.wp _ _ _ _ (w.alloc (.cells #[.int .i64 hi, .int .u64 (k : Int)] 95))
  rw [← hr]
  clear hr
  generalize w.alloc (.cells #[.int .i64 hi, .int .u64 (k : Int)] 95) = u1 at *
  go_upto_region 3 with (first
    | (go_at_call 80
       refine (pmade HX1.out).mono ?_
       rintro e u2 ⟨rfl, hbb⟩
       have HX2 := Lib.hid (HX1.out.step hbb)
       have HE2 := Lib.hid (HE1.out.step hbb)
       have HR2 := Lib.hid (box_step HR1.out hbb)
       clear hbb HX1 HE1 HR1))
  have x0 : u2.cell? ⟨p, 0, none⟩ = some (.pointer (some ⟨ap, 0, none⟩)) := blk_cell HX2.out.blk 0
  have y0 : u2.cell? ⟨r, 0, none⟩ = some (.int .i64 hi) := blk_cell HR2.out 0
  have y1 : u2.cell? ⟨r, 1, none⟩ = some (.int .u64 (k : Int)) := blk_cell HR2.out 1
  have HPL : Hid (p < u2.heap.size) := Lib.hid (lt_heap HX2.out.blk)
  have HRL : Hid (r < u2.heap.size) := Lib.hid (lt_heap HR2.out)
  refine wp_region_grow (C := fun W => Below u2.heap.size u2 W) 7 25 [val (.pointer (some ⟨p, 0, none⟩)), val (.pointer (some ⟨p, 0, none⟩)), val (.pointer (some ⟨p, 0, none⟩)), val (.pointer (some ⟨ap, 0, none⟩)), val (.agg #[.int .i64 hi, .int .u64 (k : Int)]), val (.bool false), val (.bool true)] (by kernel_rfl) rfl (by kernel_rfl) rfl ⟨stb_val _, stb_val _, stb_val _, stb_val _, stb_val _, stb_val _, stb_val _, trivial⟩ (Below.refl _ _).drew ?_ ?_
  · refine each_cons ?_ ?_
    · intro a W hW hd
      have h0 : a.tmps[0]?.getD undef = .pointer (some ⟨p, 0, none⟩) := slot_eq (hd 0 (by decide))
      exact grows_value _ hW (by simp [execOp, Act.eval, h0]) rfl
    refine each_cons ?_ ?_
    · intro a W hW hd
      have h8 : a.tmps[8]?.getD undef = .pointer (some ⟨p, 0, none⟩) := slot_eq (hd 8 (by decide))
      refine grows_value _ hW (?_ : _ = _) rfl
      clear hd
      go_simp
    refine each_cons ?_ ?_
    · intro a W hW hd
      have h9 : a.tmps[9]?.getD undef = .pointer (some ⟨p, 0, none⟩) := slot_eq (hd 9 (by decide))
      refine grows_value _ hW (?_ : _ = _) rfl
      clear hd
      go_simp
    refine each_cons ?_ ?_
    · intro a W hW hd
      have h10 : a.tmps[10]?.getD undef = .pointer (some ⟨p, 0, none⟩) := slot_eq (hd 10 (by decide))
      have xx : W.cell? ⟨p, 0, none⟩ = some (.pointer (some ⟨ap, 0, none⟩)) := (hW.cell (p := ⟨p, 0, none⟩) HPL.out).trans x0
      refine grows_value _ hW (?_ : _ = _) rfl
      clear hd
      go_simp
    refine each_cons ?_ ?_
    · intro a W hW hd
      have h3 : a.tmps[3]?.getD undef = .pointer (some ⟨r, 0, none⟩) := slot_eq (hd 3 (by decide))
      have xx0 : W.cell? ⟨r, 0, none⟩ = some (.int .i64 hi) := (hW.cell (p := ⟨r, 0, none⟩) HRL.out).trans y0
      have xx1 : W.cell? ⟨r, 1, none⟩ = some (.int .u64 (k : Int)) := (hW.cell (p := ⟨r, 1, none⟩) HRL.out).trans y1
      refine grows_value _ hW (?_ : _ = _) rfl
      clear hd
      go_simp
    refine each_cons ?_ ?_
    · intro a W hW hd
      have h11 : a.tmps[11]?.getD undef = .pointer (some ⟨ap, 0, none⟩) := slot_eq (hd 11 (by decide))
      have h12 : a.tmps[12]?.getD undef = .agg #[.int .i64 hi, .int .u64 (k : Int)] := slot_eq (hd 12 (by decide))
      refine grows_call (fn := 89) (args := #[.pointer (some ⟨ap, 0, none⟩), .agg #[.int .i64 hi, .int .u64 (k : Int)]]) (by clear hd; go_simp) ?_
      refine (HLV.out _ _ (HX2.out.step hW)).mono ?_
      rintro e W' ⟨rfl, hb⟩
      exact ⟨_, rfl, rfl, hb, hW.trans (hb.mono hW.size)⟩
    refine each_cons ?_ ?_
    · intro a W hW hd
      have h13 : a.tmps[13]?.getD undef = .bool false := slot_eq (hd 13 (by decide))
      refine grows_value _ hW (?_ : _ = _) rfl
      clear hd
      go_simp
    exact each_nil
  · refine behind_val rfl ?_
    refine behind_val rfl ?_
    refine behind_val rfl ?_
    refine behind_val rfl ?_
    refine behind_val rfl ?_
    refine behind_val rfl ?_
    refine behind_val rfl ?_
    refine behind_nil fun u4 hC4 hF4 => ?_
    clear hF4
    have HX4 := Lib.hid (HX2.out.step hC4)
    have HE4 := Lib.hid (HE2.out.step hC4)
    have HR4 := Lib.hid (box_step HR2.out hC4)
    clear hC4 x0 y0 y1 HX2 HE2 HR2
    simp only [Act.put, List.setIfInBounds_toArray, List.set_cons_succ, List.set_cons_zero, List.drop_succ_cons, List.drop_zero]
    go_wp2_with fail
    go_ret
    exact ⟨rfl, F, HX4.out, HE4.out⟩
set_option maxHeartbeats 2000000 in
theorem pcancelX_ok (h : WX w p ap z g c A S now tn ta tw tt F) (hA : A.Ok) (hS : S.Fit) (i k : Nat) (hl : A.live (i : Int) k = true) : Calls Tryz.prog 44 #[.pointer (some ⟨p, 0, none⟩), .agg #[.int .i64 (i : Int), .int .u64 (k : Int)]] w fun e w' => e = .returned (.int .i64 0) ∧ ∃ F', WX w' p ap z g c (A.gone i) (S.rem (i : Int)) now tn (updN ta i 0) (updN tw i 0) (updN tt i 0) F' ∧ Ext F F' w w' := by
  have HAOK := Lib.hid hA
  have HFIT := Lib.hid hS
  have HLI := Lib.hid hl
  clear hA hS
  have HLV : Hid (∀ (W : World) (Fw : Nat → Prop), WX W p ap z g c A S now tn ta tw tt Fw → Calls Tryz.prog 89 #[.pointer (some ⟨ap, 0, none⟩), .agg #[.int .i64 (i : Int), .int .u64 (k : Int)]] W (ret (.bool true) W)) := Lib.hid fun W Fw hx => hx.arq fun Fa hPA => by
    have h9 := plive_any hPA hx.n (i : Int) k
    rw [hl] at h9
    exact h9
  clear hl
  have HX1 := Lib.hid (h.step (below_alloc w (.cells #[.int .i64 (i : Int), .int .u64 (k : Int)] 95)))
  have HE1 := Lib.hid ((Ext.refl F w).step (below_alloc w (.cells #[.int .i64 (i : Int), .int .u64 (k : Int)] 95)))
  have HR1 : Hid ((w.alloc (.cells #[.int .i64 (i : Int), .int .u64 (k : Int)] 95)).heap[w.heap.size]? = some (.cells #[.int .i64 (i : Int), .int .u64 (k : Int)] 95 (0, 0))) := Lib.hid (heap_alloc_new w _)
  obtain ⟨r, hr⟩ : ∃ r, r = w.heap.size := ⟨_, rfl⟩
  rw [← hr] at HR1
  have HNF1 : Hid (¬ F r) := Lib.hid fun hF => by have := h.old r hF; omega
  clear h
  go_enter Tryz.func44, Tryz.ntmps44
  go_upto_region 1 with fail
  change Code.wp _ _ _ _ (w.alloc (.cells #[.int .i64 (i : Int), .int .u64 (k : Int)] 95))
  rw [← hr]
  clear hr
  generalize w.alloc (.cells #[.int .i64 (i : Int), .int .u64 (k : Int)] 95) = u1 at *
  go_upto_region 3 with (first
    | (go_at_call 80
       refine (pmade HX1.out).mono ?_
       rintro e u2 ⟨rfl, hbb⟩
       have HX2 := Lib.hid (HX1.out.step hbb)
       have HE2 := Lib.hid (HE1.out.step hbb)
       have HR2 := Lib.hid (box_step HR1.out hbb)
       clear hbb HX1 HE1 HR1))
  have x0 : u2.cell? ⟨p, 0, none⟩ = some (.pointer (some ⟨ap, 0, none⟩)) := blk_cell HX2.out.blk 0
  have y0 : u2.cell? ⟨r, 0, none⟩ = some (.int .i64 (i : Int)) := blk_cell HR2.out 0
  have y1 : u2.cell? ⟨r, 1, none⟩ = some (.int .u64 (k : Int)) := blk_cell HR2.out 1
  have HPL : Hid (p < u2.heap.size) := Lib.hid (lt_heap HX2.out.blk)
  have HRL : Hid (r < u2.heap.size) := Lib.hid (lt_heap HR2.out)
  refine wp_region_grow (C := fun W => Below u2.heap.size u2 W) 7 25 [val (.pointer (some ⟨p, 0, none⟩)), val (.pointer (some ⟨p, 0, none⟩)), val (.pointer (some ⟨p, 0, none⟩)), val (.pointer (some ⟨ap, 0, none⟩)), val (.agg #[.int .i64 (i : Int), .int .u64 (k : Int)]), val (.bool true), val (.bool false)] (by kernel_rfl) rfl (by kernel_rfl) rfl ⟨stb_val _, stb_val _, stb_val _, stb_val _, stb_val _, stb_val _, stb_val _, trivial⟩ (Below.refl _ _).drew ?_ ?_
  · refine each_cons ?_ ?_
    · intro a W hW hd
      have h0 : a.tmps[0]?.getD undef = .pointer (some ⟨p, 0, none⟩) := slot_eq (hd 0 (by decide))
      exact grows_value _ hW (by simp [execOp, Act.eval, h0]) rfl
    refine each_cons ?_ ?_
    · intro a W hW hd
      have h8 : a.tmps[8]?.getD undef = .pointer (some ⟨p, 0, none⟩) := slot_eq (hd 8 (by decide))
      refine grows_value _ hW (?_ : _ = _) rfl
      clear hd
      go_simp
    refine each_cons ?_ ?_
    · intro a W hW hd
      have h9 : a.tmps[9]?.getD undef = .pointer (some ⟨p, 0, none⟩) := slot_eq (hd 9 (by decide))
      refine grows_value _ hW (?_ : _ = _) rfl
      clear hd
      go_simp
    refine each_cons ?_ ?_
    · intro a W hW hd
      have h10 : a.tmps[10]?.getD undef = .pointer (some ⟨p, 0, none⟩) := slot_eq (hd 10 (by decide))
      have xx : W.cell? ⟨p, 0, none⟩ = some (.pointer (some ⟨ap, 0, none⟩)) := (hW.cell (p := ⟨p, 0, none⟩) HPL.out).trans x0
      refine grows_value _ hW (?_ : _ = _) rfl
      clear hd
      go_simp
    refine each_cons ?_ ?_
    · intro a W hW hd
      have h3 : a.tmps[3]?.getD undef = .pointer (some ⟨r, 0, none⟩) := slot_eq (hd 3 (by decide))
      have xx0 : W.cell? ⟨r, 0, none⟩ = some (.int .i64 (i : Int)) := (hW.cell (p := ⟨r, 0, none⟩) HRL.out).trans y0
      have xx1 : W.cell? ⟨r, 1, none⟩ = some (.int .u64 (k : Int)) := (hW.cell (p := ⟨r, 1, none⟩) HRL.out).trans y1
      refine grows_value _ hW (?_ : _ = _) rfl
      clear hd
      go_simp
    refine each_cons ?_ ?_
    · intro a W hW hd
      have h11 : a.tmps[11]?.getD undef = .pointer (some ⟨ap, 0, none⟩) := slot_eq (hd 11 (by decide))
      have h12 : a.tmps[12]?.getD undef = .agg #[.int .i64 (i : Int), .int .u64 (k : Int)] := slot_eq (hd 12 (by decide))
      refine grows_call (fn := 89) (args := #[.pointer (some ⟨ap, 0, none⟩), .agg #[.int .i64 (i : Int), .int .u64 (k : Int)]]) (by clear hd; go_simp) ?_
      refine (HLV.out _ _ (HX2.out.step hW)).mono ?_
      rintro e W' ⟨rfl, hb⟩
      exact ⟨_, rfl, rfl, hb, hW.trans (hb.mono hW.size)⟩
    refine each_cons ?_ ?_
    · intro a W hW hd
      have h13 : a.tmps[13]?.getD undef = .bool true := slot_eq (hd 13 (by decide))
      refine grows_value _ hW (?_ : _ = _) rfl
      clear hd
      go_simp
    exact each_nil
  · refine behind_val rfl ?_
    refine behind_val rfl ?_
    refine behind_val rfl ?_
    refine behind_val rfl ?_
    refine behind_val rfl ?_
    refine behind_val rfl ?_
    refine behind_val rfl ?_
    refine behind_nil fun u4 hC4 hF4 => ?_
    clear hF4
    have HX4 := Lib.hid (HX2.out.step hC4)
    have HE4 := Lib.hid (HE2.out.step hC4)
    have HR4 := Lib.hid (box_step HR2.out hC4)
    clear hC4 x0 y0 y1 HX2 HE2 HR2
    simp only [Act.put, List.setIfInBounds_toArray, List.set_cons_succ, List.set_cons_zero, List.drop_succ_cons, List.drop_zero]
    go_upto_region 5 with fail
    have x1 : u4.cell? ⟨p, 1, none⟩ = some (.pointer (some ⟨z, 0, none⟩)) := blk_cell HX4.out.blk 1
    have y0 : u4.cell? ⟨r, 0, none⟩ = some (.int .i64 (i : Int)) := blk_cell HR4.out 0
    have HPL : Hid (p < u4.heap.size) := Lib.hid (lt_heap HX4.out.blk)
    have HRL : Hid (r < u4.heap.size) := Lib.hid (lt_heap HR4.out)
    refine wp_region_grow (C := fun W => Below u4.heap.size u4 W) 6 25 [val (.pointer (some ⟨p, 0, none⟩)), val (.pointer (some ⟨p, 0, none⟩)), val (.pointer (some ⟨p, 1, none⟩)), val (.pointer (some ⟨z, 0, none⟩)), val (.pointer (some ⟨r, 0, none⟩)), val (.int .i64 (i : Int))] (by kernel_rfl) rfl (by kernel_rfl) rfl ⟨stb_val _, stb_val _, stb_val _, stb_val _, stb_val _, stb_val _, trivial⟩ (Below.refl _ _).drew ?_ ?_
    · refine each_cons ?_ ?_
      · intro a W hW hd
        have h0 : a.tmps[0]?.getD undef = .pointer (some ⟨p, 0, none⟩) := slot_eq (hd 0 (by decide))
        exact grows_value _ hW (by simp [execOp, Act.eval, h0]) rfl
      refine each_cons ?_ ?_
      · intro a W hW hd
        have h15 : a.tmps[15]?.getD undef = .pointer (some ⟨p, 0, none⟩) := slot_eq (hd 15 (by decide))
        refine grows_value _ hW (?_ : _ = _) rfl
        clear hd
        go_simp
      refine each_cons ?_ ?_
      · intro a W hW hd
        have h16 : a.tmps[16]?.getD undef = .pointer (some ⟨p, 0, none⟩) := slot_eq (hd 16 (by decide))
        refine grows_value _ hW (?_ : _ = _) rfl
        clear hd
        go_simp
      refine each_cons ?_ ?_
      · intro a W hW hd
        have h17 : a.tmps[17]?.getD undef = .pointer (some ⟨p, 1, none⟩) := slot_eq (hd 17 (by decide))
        have xx : W.cell? ⟨p, 1, none⟩ = some (.pointer (some ⟨z, 0, none⟩)) := (hW.cell (p := ⟨p, 1, none⟩) HPL.out).trans x1
        refine grows_value _ hW (?_ : _ = _) rfl
        clear hd
        go_simp
      refine each_cons ?_ ?_
      · intro a W hW hd
        have h3 : a.tmps[3]?.getD undef = .pointer (some ⟨r, 0, none⟩) := slot_eq (hd 3 (by decide))
        refine grows_value _ hW (?_ : _ = _) rfl
        clear hd
        go_simp
      refine each_cons ?_ ?_
      · intro a W hW hd
        have h19 : a.tmps[19]?.getD undef = .pointer (some ⟨r, 0, none⟩) := slot_eq (hd 19 (by decide))
        have xx : W.cell? ⟨r, 0, none⟩ = some (.int .i64 (i : Int)) := (hW.cell (p := ⟨r, 0, none⟩) HRL.out).trans y0
        refine grows_value _ hW (?_ : _ = _) rfl
        clear hd
        go_simp
      exact each_nil
    · refine behind_val rfl ?_
      refine behind_val rfl ?_
      refine behind_val rfl ?_
      refine behind_val rfl ?_
      refine behind_val rfl ?_
      refine behind_val rfl ?_
      refine behind_nil fun u6 hC6 hF6 => ?_
      clear hF6
      have HX6 := Lib.hid (HX4.out.step hC6)
      have HE6 := Lib.hid (HE4.out.step hC6)
      have HR6 := Lib.hid (box_step HR4.out hC6)
      clear hC6 x1 y0 HX4 HE4 HR4
      simp only [Act.put, List.setIfInBounds_toArray, List.set_cons_succ, List.set_cons_zero, List.drop_succ_cons, List.drop_zero]
      go_upto_region 6 with (first
        | (go_at_call 90
           refine (HX6.out.slots fun Zz => pa_remove_rest HFIT.out Zz (i : Int)).mono ?_
           rintro e u7 ⟨rfl, F7, hx7, he7⟩
           have HX7 := Lib.hid hx7
           have HE7 := Lib.hid (HE6.out.trans he7)
           have HR7 := Lib.hid (he7.box HR6.out HNF1.out).1
           clear hx7 he7 HX6 HE6 HR6))
      have y0 : u7.cell? ⟨r, 0, none⟩ = some (.int .i64 (i : Int)) := blk_cell HR7.out 0
      have y1 : u7.cell? ⟨r, 1, none⟩ = some (.int .u64 (k : Int)) := blk_cell HR7.out 1
      have HAE := Lib.hid (pwend HX7.out HAOK.out i k HLI.out)
      go_wp2_with (first
        | (go_at_call 91
           refine HAE.out.mono ?_
           rintro e u8 ⟨rfl, F8, hx8, he8⟩
           have HX8 := Lib.hid hx8
           have HE8 := Lib.hid (HE7.out.trans he8)
           clear hx8 he8 HX7 HE7 HR7 y0 y1 HAE))
      go_ret
      exact ⟨rfl, F8, HX8.out, HE8.out⟩
end
end Go.Proofs.YtimcdnbfdkpffaaGreat
