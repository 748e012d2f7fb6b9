import Derived.Test.YtkmakdhlaenaoaaGm32
import Derived.Test.YtkmakdhlaenaoaaGm28
/- Stage 11: the document's Arm, Again. -/
namespace Go.Proofs.Ytkmakdhlaenaoaa
set_option maxRecDepth 100000
open Go.RowKit Go.Shelf
theorem own_none {w : World} {base size z : Nat} {e : TypeId} (hz : w.heap[z]? = some (.cells #[] e (0, 0))) (hb : base ≤ z) (f : Nat → Value) : OwnC w base e size (some ⟨z, 0, none⟩) 0 0 f :=
  ⟨by simp [vals], .inr ⟨z, 0, #[], rfl, hb, hz, Nat.le_refl _, Nat.zero_le _, by simp, by simp [vals]⟩⟩
section
variable {w : World} {q r : Nat} {B : Option Addr} {d : Nat} {A : Ar} {L : List Tm} {now : Nat} {G : Nat → Prop}
/-- The arena's Take by one that has a cell, or none. -/
theorem rtk_none (h : DX w q r B d A L now G) (hA : A.Ok) (hn : A.has.length ≤ 65536) (hser : A.serial ≤ 4611686018427387904) (hw : A.which = none) : Calls Try.prog 70 #[.pointer (some ⟨r, 0, none⟩)] w fun e w' => e = .returned (.tuple #[.agg #[.int .i64 0, .int .u64 0], .int .i64 9]) ∧ ∃ G', DX w' q r B d A L now G' ∧ Ext G G' w w' :=
  h.arena fun Gr ha => (rtake_any hA ha hn hser).mono fun e w' hh => by
    rcases hh with ⟨_, he, hb⟩ | ⟨i, h1, _⟩
    · exact ⟨he, Gr, ha.keep (Kept.of_below hb fun _ => False) (fun _ _ q => q), (Ext.refl Gr w).step hb⟩
    · rw [hw] at h1
      cases h1
theorem rtk_some (h : DX w q r B d A L now G) (hA : A.Ok) (hn : A.has.length ≤ 65536) (hser : A.serial ≤ 4611686018427387904) (i : Nat) (hw : A.which = some i) : Calls Try.prog 70 #[.pointer (some ⟨r, 0, none⟩)] w fun e w' => e = .returned (.tuple #[.agg #[.int .i64 (i : Int), .int .u64 ((A.serial : Int) + 1)], .int .i64 0]) ∧ ∃ G', DX w' q r B d (A.taken i) L now G' ∧ Ext G G' w w' :=
  h.arena fun Gr ha => (rtake_any hA ha hn hser).mono fun e w' hh => by
    rcases hh with ⟨h1, _⟩ | ⟨j, h1, he, h2, hk⟩
    · rw [hw] at h1
      cases h1
    · rw [hw] at h1
      injection h1 with h1
      subst h1
      obtain ⟨_, _, _, _, hx⟩ := ha
      exact ⟨he, _, h2, ⟨fun k g => g, hk.mono fun k _ e => by rw [e]; exact hx.mem⟩⟩
theorem rarm_over (h : DX w q r B d A L now G) (at_ what : Nat) (hat : at_ < 18446744073709551616) (ho : ovr now at_ = true) : Calls Try.prog 45 #[.pointer (some ⟨q, 0, none⟩), .int .u64 (at_ : Int), .int .u64 (what : Int)] w fun e w' => e = .returned (.tuple #[.agg #[.int .i64 0, .int .u64 0], .int .i64 15]) ∧ ∃ B' d' G', DX w' q r B' d' A L now G' ∧ Ext G G' w w' := by
  have HO := Lib.hid ho
  clear ho
  have HX1 := Lib.hid (h.step (below_alloc w (.cells #[.int .i64 0, .int .u64 0] 46)))
  have HE1 := Lib.hid ((Ext.refl G w).step (below_alloc w (.cells #[.int .i64 0, .int .u64 0] 46)))
  have HR1 : Hid ((w.alloc (.cells #[.int .i64 0, .int .u64 0] 46)).heap[w.heap.size]? = some (.cells #[.int .i64 0, .int .u64 0] 46 (0, 0))) := Lib.hid (heap_alloc_new w _)
  obtain ⟨rb, hrb⟩ : ∃ rb, rb = w.heap.size := ⟨_, rfl⟩
  have HRW := Lib.hid hrb
  rw [← hrb] at HR1
  have HNF1 : Hid (¬ G rb) := Lib.hid fun hF => by have := h.old rb hF; omega
  have hbdz : ∀ w, (Instr.build 46 #[]).run Try.prog w = .ok (.agg #[.int .i64 0, .int .u64 0]) w := fun w => by kernel_rfl
  clear h
  go_enter Try.func45, Try.ntmps45
  go_upto_region 1 with fail
  change Code.wp _ _ _ _ (w.alloc (.cells #[.int .i64 0, .int .u64 0] 46))
  rw [← hrb]
  clear hrb
  generalize w.alloc (.cells #[.int .i64 0, .int .u64 0] 46) = u1 at *
  have HOV := Lib.hid (rover HX1.out at_ hat)
  go_wp2_with (first
    | (go_at_call 47
       rw [HO.out] at HOV
       refine HOV.out.mono ?_
       rintro e u2 ⟨rfl, hbb⟩
       have HX2 := Lib.hid (HX1.out.step hbb)
       have HE2 := Lib.hid (HE1.out.step hbb)
       have HR2 := Lib.hid (box_step HR1.out hbb)
       clear hbb HX1 HE1 HR1 HOV)
    | (refine wpList_store_row rfl 46 (.tmp 6) (.tmp 13) rfl rb #[.int .i64 0, .int .u64 0] rfl rfl 46 #[.int .i64 0, .int .u64 0] HR2.out (by kernel_rfl) rfl (by simp [Value.oneCell']) ?_))
  refine bodyPost_ret (v := .tuple #[.agg #[.int .i64 0, .int .u64 0], .int .i64 15]) (results_rowa Try.results45 _ _ rb 46 #[.int .i64 0, .int .u64 0] (0, 0) _ rfl (setRow_heap _ rb _ #[.int .i64 0, .int .u64 0] _ _ HR2.out) Try.underlying46 rfl (by kernel_rfl)) rfl ?_
  have hks : Kept (fun k => k = rb) u2 (u2.setRow rb #[.int .i64 0, .int .u64 0]) := Kept.setRow (R := fun k => k = rb) (Kept.refl _ u2) (.inl rfl) _
  exact ⟨rfl, ⟨_, _, _, HX2.out.keep hks fun k hF e => HNF1.out (by rw [← e]; exact hF), HE2.out.own_kept hks fun k e => by rw [e, HRW.out]; exact Nat.le_refl _⟩⟩
theorem rarm_none (h : DX w q r B d A L now G) (hA : A.Ok) (hn : A.has.length ≤ 65536) (hser : A.serial ≤ 4611686018427387904) (at_ what : Nat) (hat : at_ < 18446744073709551616) (ho : ovr now at_ = false) (hw : A.which = none) : Calls Try.prog 45 #[.pointer (some ⟨q, 0, none⟩), .int .u64 (at_ : Int), .int .u64 (what : Int)] w fun e w' => e = .returned (.tuple #[.agg #[.int .i64 0, .int .u64 0], .int .i64 9]) ∧ ∃ B' d' G', DX w' q r B' d' A L now G' ∧ Ext G G' w w' := by
  have HO := Lib.hid ho
  have HTK : Hid (∀ (W : World) (Gw : Nat → Prop), DX W q r B d A L now Gw → Calls Try.prog 70 #[.pointer (some ⟨r, 0, none⟩)] W fun e w' => e = .returned (.tuple #[.agg #[.int .i64 0, .int .u64 0], .int .i64 9]) ∧ ∃ G', DX w' q r B d A L now G' ∧ Ext Gw G' W w') := Lib.hid fun W Gw hx => rtk_none hx hA hn hser hw
  clear ho hA hn hser hw
  have HX1 := Lib.hid (h.step (below_alloc w (.cells #[.int .i64 0, .int .u64 0] 46)))
  have HE1 := Lib.hid ((Ext.refl G w).step (below_alloc w (.cells #[.int .i64 0, .int .u64 0] 46)))
  have HR1 : Hid ((w.alloc (.cells #[.int .i64 0, .int .u64 0] 46)).heap[w.heap.size]? = some (.cells #[.int .i64 0, .int .u64 0] 46 (0, 0))) := Lib.hid (heap_alloc_new w _)
  obtain ⟨rb, hrb⟩ : ∃ rb, rb = w.heap.size := ⟨_, rfl⟩
  have HRW := Lib.hid hrb
  rw [← hrb] at HR1
  have HNF1 : Hid (¬ G rb) := Lib.hid fun hF => by have := h.old rb hF; omega
  have hbdz : ∀ w, (Instr.build 46 #[]).run Try.prog w = .ok (.agg #[.int .i64 0, .int .u64 0]) w := fun w => by kernel_rfl
  clear h
  go_enter Try.func45, Try.ntmps45
  go_upto_region 1 with fail
  change Code.wp _ _ _ _ (w.alloc (.cells #[.int .i64 0, .int .u64 0] 46))
  rw [← hrb]
  clear hrb
  generalize w.alloc (.cells #[.int .i64 0, .int .u64 0] 46) = u1 at *
  have HOV := Lib.hid (rover HX1.out at_ hat)
  go_upto_region 3 with (first
    | (go_at_call 47
       rw [HO.out] at HOV
       refine HOV.out.mono ?_
       rintro e u2 ⟨rfl, hbb⟩
       have HX2 := Lib.hid (HX1.out.step hbb)
       have HE2 := Lib.hid (HE1.out.step hbb)
       have HR2 := Lib.hid (box_step HR1.out hbb)
       clear hbb HX1 HE1 HR1 HOV))
  have x0 : u2.cell? ⟨q, 0, none⟩ = some (.pointer (some ⟨r, 0, none⟩)) := blk_cell HX2.out.blk 0
  go_upto_region 4 with (first
    | (go_at_call 70
       refine (HTK.out _ _ HX2.out).mono ?_
       rintro e u ⟨rfl, F4, hx4, he4⟩
       have HX5 := Lib.hid hx4
       have HE5 := Lib.hid (HE2.out.trans he4)
       have HR5 := Lib.hid (he4.box HR2.out HNF1.out).1
       have HNF5 := Lib.hid (he4.box HR2.out HNF1.out).2
       clear hx4 he4 x0 HX2 HE2 HR2 HNF1))
  have hal := below_alloc u (.cells #[.int .i64 0, .int .u64 0] 46)
  have HX6 := Lib.hid (HX5.out.step hal)
  have HE6 := Lib.hid (HE5.out.step hal)
  have HR6 := Lib.hid (box_step HR5.out hal)
  have HH6 : Hid ((u.alloc (.cells #[.int .i64 0, .int .u64 0] 46)).heap[u.heap.size]? = some (.cells #[.int .i64 0, .int .u64 0] 46 (0, 0))) := Lib.hid (heap_alloc_new u _)
  clear hal HX5 HE5 HR5
  change Code.wp _ _ _ _ (u.alloc (.cells #[.int .i64 0, .int .u64 0] 46))
  generalize u.heap.size = hb at *
  generalize u.alloc (.cells #[.int .i64 0, .int .u64 0] 46) = u6 at *
  have y0 : u6.cell? ⟨hb, 0, none⟩ = some (.int .i64 0) := blk_cell HH6.out 0
  have y1 : u6.cell? ⟨hb, 1, none⟩ = some (.int .u64 0) := blk_cell HH6.out 1
  go_wp2_with (first
    | (refine wpList_store_row rfl 46 (.tmp 6) (.tmp 41) rfl rb #[.int .i64 0, .int .u64 0] rfl rfl 46 #[.int .i64 0, .int .u64 0] HR6.out (by kernel_rfl) rfl (by simp [Value.oneCell']) ?_))
  refine bodyPost_ret (v := .tuple #[.agg #[.int .i64 0, .int .u64 0], .int .i64 9]) (results_rowa Try.results45 _ _ rb 46 #[.int .i64 0, .int .u64 0] (0, 0) _ rfl (setRow_heap _ rb _ #[.int .i64 0, .int .u64 0] _ _ HR6.out) Try.underlying46 rfl (by kernel_rfl)) rfl ?_
  have hks : Kept (fun k => k = rb) u6 (u6.setRow rb #[.int .i64 0, .int .u64 0]) := Kept.setRow (R := fun k => k = rb) (Kept.refl _ u6) (.inl rfl) _
  exact ⟨rfl, ⟨_, _, _, HX6.out.keep hks fun k hF e => HNF5.out (by rw [← e]; exact hF), HE6.out.own_kept hks fun k e => by rw [e, HRW.out]; exact Nat.le_refl _⟩⟩
set_option maxHeartbeats 2000000 in
theorem rarm_ok (h : DX w q r B d A L now G) (hA : A.Ok) (hn : A.has.length ≤ 65536) (hser : A.serial ≤ 4611686018427387904) (hL : L.length ≤ 65536) (hnow : now < 18446744073709551615) (at_ what : Nat) (hat : at_ < 18446744073709551616) (ho : ovr now at_ = false) (i k : Nat) (hw : A.which = some i) (hk : k = A.serial + 1) :
    Calls Try.prog 45 #[.pointer (some ⟨q, 0, none⟩), .int .u64 (at_ : Int), .int .u64 (what : Int)] w fun e w' => e = .returned (.tuple #[.agg #[.int .i64 (i : Int), .int .u64 (k : Int)], .int .i64 0]) ∧ ∃ B' d' G', DX w' q r B' d' (A.taken i) (L ++ [(⟨i, k, nxn now at_, what⟩ : Tm)]) now G' ∧ Ext G G' w w' := by
  have HO := Lib.hid ho
  have HNW := Lib.hid hnow
  have ek : ((A.serial : Int) + 1) = (k : Int) := by omega
  have HTK : Hid (∀ (W : World) (Gw : Nat → Prop), DX W q r B d A L now Gw → Calls Try.prog 70 #[.pointer (some ⟨r, 0, none⟩)] W fun e w' => e = .returned (.tuple #[.agg #[.int .i64 (i : Int), .int .u64 (k : Int)], .int .i64 0]) ∧ ∃ G', DX w' q r B d (A.taken i) L now G' ∧ Ext Gw G' W w') := Lib.hid fun W Gw hx => by
    have h9 := rtk_some hx hA hn hser i hw
    rw [ek] at h9
    exact h9
  clear ho hA hn hser hw hnow hk ek
  generalize A.taken i = A2 at *
  have HX1 := Lib.hid (h.step (below_alloc w (.cells #[.int .i64 0, .int .u64 0] 46)))
  have HE1 := Lib.hid ((Ext.refl G w).step (below_alloc w (.cells #[.int .i64 0, .int .u64 0] 46)))
  have HR1 : Hid ((w.alloc (.cells #[.int .i64 0, .int .u64 0] 46)).heap[w.heap.size]? = some (.cells #[.int .i64 0, .int .u64 0] 46 (0, 0))) := Lib.hid (heap_alloc_new w _)
  obtain ⟨rb, hrb⟩ : ∃ rb, rb = w.heap.size := ⟨_, rfl⟩
  have HRW := Lib.hid hrb
  rw [← hrb] at HR1
  have HNF1 : Hid (¬ G rb) := Lib.hid fun hF => by have := h.old rb hF; omega
  have hbdz : ∀ w, (Instr.build 46 #[]).run Try.prog w = .ok (.agg #[.int .i64 0, .int .u64 0]) w := fun w => by kernel_rfl
  clear h
  go_enter Try.func45, Try.ntmps45
  go_upto_region 1 with fail
  change Code.wp _ _ _ _ (w.alloc (.cells #[.int .i64 0, .int .u64 0] 46))
  rw [← hrb]
  clear hrb
  generalize w.alloc (.cells #[.int .i64 0, .int .u64 0] 46) = u1 at *
  have HOV := Lib.hid (rover HX1.out at_ hat)
  go_upto_region 3 with (first
    | (go_at_call 47
       rw [HO.out] at HOV
       refine HOV.out.mono ?_
       rintro e u2 ⟨rfl, hbb⟩
       have HX2 := Lib.hid (HX1.out.step hbb)
       have HE2 := Lib.hid (HE1.out.step hbb)
       have HR2 := Lib.hid (box_step HR1.out hbb)
       clear hbb HX1 HE1 HR1 HOV))
  have x0 : u2.cell? ⟨q, 0, none⟩ = some (.pointer (some ⟨r, 0, none⟩)) := blk_cell HX2.out.blk 0
  go_upto_region 4 with (first
    | (go_at_call 70
       refine (HTK.out _ _ HX2.out).mono ?_
       rintro e u ⟨rfl, F4, hx4, he4⟩
       have HX5 := Lib.hid hx4
       have HE5 := Lib.hid (HE2.out.trans he4)
       have HR5 := Lib.hid (he4.box HR2.out HNF1.out).1
       have HNF5 := Lib.hid (he4.box HR2.out HNF1.out).2
       clear hx4 he4 x0 HX2 HE2 HR2 HNF1))
  have hal := below_alloc u (.cells #[.int .i64 (i : Int), .int .u64 (k : Int)] 46)
  have HX := Lib.hid (HX5.out.step hal)
  have HE := Lib.hid (HE5.out.step hal)
  have HR := Lib.hid (box_step HR5.out hal)
  have HH : Hid ((u.alloc (.cells #[.int .i64 (i : Int), .int .u64 (k : Int)] 46)).heap[u.heap.size]? = some (.cells #[.int .i64 (i : Int), .int .u64 (k : Int)] 46 (0, 0))) := Lib.hid (heap_alloc_new u _)
  have HNF := HNF5
  have HNH : Hid (¬ F4 u.heap.size) := Lib.hid fun hF => absurd (HX5.out.old _ hF) (Nat.lt_irrefl _)
  clear hal HX5 HE5 HR5 HNF5
  change Code.wp _ _ _ _ (u.alloc (.cells #[.int .i64 (i : Int), .int .u64 (k : Int)] 46))
  generalize u.heap.size = hb at *
  generalize u.alloc (.cells #[.int .i64 (i : Int), .int .u64 (k : Int)] 46) = u6 at *
  obtain ⟨i0, hi0, hz0, hz1, hz2⟩ := info_parts Try.infoTT
  have HI0 := Lib.hid hi0
  have HZ0 := Lib.hid hz0
  have HZ1 := Lib.hid hz1
  have HZ2 := Lib.hid hz2
  clear hi0 hz0 hz1 hz2
  obtain ⟨n, hn⟩ : ∃ n, n = L.length := ⟨_, rfl⟩
  have HN := Lib.hid hn
  have HNL : Hid (n ≤ 65536) := Lib.hid (by omega)
  have x1 : u6.cell? ⟨q, 1, none⟩ = some (.slice B n d) := by rw [hn]; exact blk_cell HX.out.blk 1
  have y0 : u6.cell? ⟨hb, 0, none⟩ = some (.int .i64 (i : Int)) := blk_cell HH.out 0
  have y1 : u6.cell? ⟨hb, 1, none⟩ = some (.int .u64 (k : Int)) := blk_cell HH.out 1
  have HQL : Hid (q < u6.heap.size) := Lib.hid (lt_heap HX.out.blk)
  have HHL : Hid (hb < u6.heap.size) := Lib.hid (lt_heap HH.out)
  have HRD : Hid (RdC u6 u6.heap.size B (n * 4) (rwc 4 tmv L)) := Lib.hid (by
    obtain ⟨_, GL, _, h2, _⟩ := HX.out.ar
    rw [hn]
    exact h2.rdc)
  have hbd : ∀ w, (Instr.build 83 #[(0, .agg #[.int .i64 (i : Int), .int .u64 (k : Int)]), (1, .int .u64 (nxn now at_ : Int)), (2, .int .u64 (what : Int))]).run Try.prog w = .ok (.agg #[.int .i64 (i : Int), .int .u64 (k : Int), .int .u64 (nxn now at_ : Int), .int .u64 (what : Int)]) w := fun w => by kernel_rfl
  clear hn hL hat
  go_upto_region 5 with fail
  refine wp_region_growM (C := fun W => Below u6.heap.size u6 W) 17 43 [val (.pointer (some ⟨q, 0, none⟩)), fun v W => ∃ z, v = .slice (some ⟨z, 0, none⟩) 0 0 ∧ W.heap[z]? = some (.cells #[] 83 (0, 0)) ∧ u6.heap.size ≤ z, val (.pointer (some ⟨q, 0, none⟩)), val (.pointer (some ⟨q, 0, none⟩)), val (.pointer (some ⟨q, 1, none⟩)), val (.slice B n d), fun v W => ∃ A1 c1, v = .slice A1 n c1 ∧ OwnC W u6.heap.size 83 4 A1 n c1 (rwc 4 tmv L) ∧ (n = 0 → c1 = 0), val (.agg #[.int .i64 (i : Int), .int .u64 (k : Int)]), val (.pointer (some ⟨q, 0, none⟩)), val (.int .u64 (at_ : Int)), val (.int .u64 (nxn now at_ : Int)), val (.int .u64 (what : Int)), val (.agg #[.int .i64 (i : Int), .int .u64 (k : Int), .int .u64 (nxn now at_ : Int), .int .u64 (what : Int)]), fun v W => ∃ zb, v = .slice (some ⟨zb, 0, none⟩) 1 1 ∧ W.heap[zb]? = some (.cells #[.int .i64 (i : Int), .int .u64 (k : Int), .int .u64 (nxn now at_ : Int), .int .u64 (what : Int)] 83 (0, 0)), fun v W => ∃ A2 c2, v = .slice A2 (n + 1) c2 ∧ OwnC W u6.heap.size 83 4 A2 (n + 1) c2 (rwc 4 tmv (L ++ [(⟨i, k, nxn now at_, what⟩ : Tm)])), val (.pointer (some ⟨q, 0, none⟩)), val (.pointer (some ⟨q, 1, none⟩))] (by kernel_rfl) rfl (by kernel_rfl) rfl 14 (AppR u6.heap.size 83 4 n) ⟨stb_val _, (fun v W W' h hb => by obtain ⟨z, h1, h2, h3⟩ := h; exact ⟨z, h1, (hb.block _ (lt_heap h2)).trans h2, h3⟩), stb_val _, stb_val _, stb_val _, stb_val _, (fun v W W' h hb => by obtain ⟨A1, c1, h1, h2, h3⟩ := h; exact ⟨A1, c1, h1, h2.below hb, h3⟩), stb_val _, stb_val _, stb_val _, stb_val _, stb_val _, stb_val _, (fun v W W' h hb => by obtain ⟨zb, h1, h2⟩ := h; exact ⟨zb, h1, (hb.block _ (lt_heap h2)).trans h2⟩), (fun v W W' h hb => by obtain ⟨A2, c2, h1, h2⟩ := h; exact ⟨A2, c2, h1, h2.below hb⟩), stb_val _, stb_val _, trivial⟩ ⟨stbR_val _ _, (fun v W W' h hb => by obtain ⟨z, h1, h2, h3⟩ := h; exact ⟨z, h1, (hb.small _ _ _ h2 (show _ ≤ 4 by simp)).trans h2, h3⟩), stbR_val _ _, stbR_val _ _, stbR_val _ _, stbR_val _ _, (fun v W W' h hb => by obtain ⟨A1, c1, h1, h2, h3⟩ := h; exact ⟨A1, c1, h1, hb.rows _ _ _ h2, h3⟩), stbR_val _ _, stbR_val _ _, stbR_val _ _, stbR_val _ _, stbR_val _ _, stbR_val _ _, (fun v W W' h hb => by obtain ⟨zb, h1, h2⟩ := h; exact ⟨zb, h1, (hb.small _ _ _ h2 (show _ ≤ 4 by simp)).trans h2⟩), stbR_val _ _, stbR_val _ _, trivial⟩ (Below.refl _ _).drew ?_ ?_
  · refine eachE_cons (by decide) ?_ ?_
    · intro a W hW hd
      have h0 : a.tmps[0]?.getD undef = .pointer (some ⟨q, 0, none⟩) := slot_eq (hd 0 (by decide))
      exact grows_value _ hW (by simp [execOp, Act.eval, h0]) rfl
    refine eachE_cons (by decide) ?_ ?_
    · intro a W hW hd
      refine grows_new (w' := W.alloc (.cells #[] 83)) (.slice (some ⟨W.heap.size, 0, none⟩) 0 0) (?_ : _ = _) ⟨W.heap.size, rfl, heap_alloc_new W _, hW.size⟩ (below_alloc W _) (hW.trans ((below_alloc W _).mono hW.size))
      clear hd
      go_simp
    refine eachE_cons (by decide) ?_ ?_
    · intro a W hW hd
      have h0 : a.tmps[0]?.getD undef = .pointer (some ⟨q, 0, none⟩) := slot_eq (hd 0 (by decide))
      exact grows_value _ hW (by simp [execOp, Act.eval, h0]) rfl
    refine eachE_cons (by decide) ?_ ?_
    · intro a W hW hd
      have h26 : a.tmps[26]?.getD undef = .pointer (some ⟨q, 0, none⟩) := slot_eq (hd 26 (by decide))
      refine grows_value _ hW (?_ : _ = _) rfl
      clear hd
      go_simp
    refine eachE_cons (by decide) ?_ ?_
    · intro a W hW hd
      have h27 : a.tmps[27]?.getD undef = .pointer (some ⟨q, 0, none⟩) := slot_eq (hd 27 (by decide))
      refine grows_value _ hW (?_ : _ = _) rfl
      clear hd
      go_simp
    refine eachE_cons (by decide) ?_ ?_
    · intro a W hW hd
      have h28 : a.tmps[28]?.getD undef = .pointer (some ⟨q, 1, none⟩) := slot_eq (hd 28 (by decide))
      have xx : W.cell? ⟨q, 1, none⟩ = some (.slice B n d) := (hW.cell (p := ⟨q, 1, none⟩) HQL.out).trans x1
      refine grows_value _ hW (?_ : _ = _) rfl
      clear hd
      go_simp
    refine eachE_cons (by decide) ?_ ?_
    · intro a W hW hd
      have h29 : a.tmps[29]?.getD undef = .slice B n d := slot_eq (hd 29 (by decide))
      obtain ⟨z, h25, hz, hzl⟩ := hd 25 (by decide)
      have h25' : a.tmps[25]?.getD undef = .slice (some ⟨z, 0, none⟩) 0 0 := slot_eq h25
      rcases Nat.eq_zero_or_pos n with hn0 | hn0
      · have hrun := run_append_none (P := Try.prog) (w := W) 37 37 83 i0 Try.underlying37 HI0.out z B d
        rw [hn0] at h29
        refine grows_new (.slice (some ⟨z, 0, none⟩) 0 0) (w' := W) ?_ ⟨some ⟨z, 0, none⟩, 0, by rw [hn0], by rw [hn0]; exact own_none hz hzl _, fun _ => rfl⟩ (Below.refl _ _) hW
        clear hd
        simp only [execOp, resolve, invoke, builtin, Sem.run_bind, Sem.run_pure, Result.andThen_ok, List.map_toArray, List.map_cons, List.map_nil, Act.eval, Array.getD_eq_getD_getElem?, h25', h29, hrun]
      · obtain ⟨bb, off, hB, hbb, hcc⟩ := HRD.out.resolve_left (by omega)
        obtain ⟨c2, W', hrun, hown, hb⟩ := run_append_first (P := Try.prog) (w := W) u6.heap.size 37 37 83 i0 (.agg #[.int .i64 0, .int .u64 0, .int .u64 0, .int .u64 0]) 4 Try.underlying37 HI0.out HZ0.out HZ1.out rfl (zb := z) (b := bb) (off := off) (m := n) (c' := d) (g := rwc 4 tmv L) hn0 (fun j hj => (hW.cell (p := ⟨bb, off + j, none⟩) hbb).trans (hcc j hj)) (by have := HNL.out; unfold maxLen; omega) (by have := HNL.out; rw [HZ2.out]; omega) hW.size
        rw [hB] at h29
        refine grows_new (.slice (some ⟨W.heap.size, 0, none⟩) n c2) (w' := W') ?_ ⟨_, c2, rfl, hown, fun e => by omega⟩ hb (hW.trans (hb.mono hW.size))
        clear hd
        simp only [execOp, resolve, invoke, builtin, Sem.run_bind, Sem.run_pure, Result.andThen_ok, List.map_toArray, List.map_cons, List.map_nil, Act.eval, Array.getD_eq_getD_getElem?, h25', h29, hrun]
    refine eachE_cons (by decide) ?_ ?_
    · intro a W hW hd
      have h8 : a.tmps[8]?.getD undef = .pointer (some ⟨hb, 0, none⟩) := slot_eq (hd 8 (by decide))
      have xx0 : W.cell? ⟨hb, 0, none⟩ = some (.int .i64 (i : Int)) := (hW.cell (p := ⟨hb, 0, none⟩) HHL.out).trans y0
      have xx1 : W.cell? ⟨hb, 1, none⟩ = some (.int .u64 (k : Int)) := (hW.cell (p := ⟨hb, 1, none⟩) HHL.out).trans y1
      refine grows_value _ hW (?_ : _ = _) rfl
      clear hd
      go_simp
    refine eachE_cons (by decide) ?_ ?_
    · intro a W hW hd
      have h0 : a.tmps[0]?.getD undef = .pointer (some ⟨q, 0, none⟩) := slot_eq (hd 0 (by decide))
      exact grows_value _ hW (by simp [execOp, Act.eval, h0]) rfl
    refine eachE_cons (by decide) ?_ ?_
    · intro a W hW hd
      have h1 : a.tmps[1]?.getD undef = .int .u64 (at_ : Int) := slot_eq (hd 1 (by decide))
      exact grows_value _ hW (by simp [execOp, Act.eval, h1]) rfl
    refine eachE_cons (by decide) ?_ ?_
    · intro a W hW hd
      have h32 : a.tmps[32]?.getD undef = .pointer (some ⟨q, 0, none⟩) := slot_eq (hd 32 (by decide))
      have h33 : a.tmps[33]?.getD undef = .int .u64 (at_ : Int) := slot_eq (hd 33 (by decide))
      refine grows_call (fn := 49) (args := #[.pointer (some ⟨q, 0, none⟩), .int .u64 (at_ : Int)]) (by clear hd; go_simp) ?_
      refine (rtick (HX.out.keep (Kept.of_below hW fun _ => False) fun _ _ q => q) at_ HNW.out).mono ?_
      rintro e W' ⟨rfl, hb⟩
      exact ⟨_, rfl, rfl, hb, hW.trans (hb.mono hW.size)⟩
    refine eachE_cons (by decide) ?_ ?_
    · intro a W hW hd
      have h2 : a.tmps[2]?.getD undef = .int .u64 (what : Int) := slot_eq (hd 2 (by decide))
      exact grows_value _ hW (by simp [execOp, Act.eval, h2]) rfl
    refine eachE_cons (by decide) ?_ ?_
    · intro a W hW hd
      have h31 : a.tmps[31]?.getD undef = .agg #[.int .i64 (i : Int), .int .u64 (k : Int)] := slot_eq (hd 31 (by decide))
      have h34 : a.tmps[34]?.getD undef = .int .u64 (nxn now at_ : Int) := slot_eq (hd 34 (by decide))
      have h35 : a.tmps[35]?.getD undef = .int .u64 (what : Int) := slot_eq (hd 35 (by decide))
      refine grows_value _ hW (?_ : _ = _) rfl
      have hb' := hbd W
      clear hd
      simp [execOp, Act.eval, h31, h34, h35, hb']
    refine eachE_cons (by decide) ?_ ?_
    · intro a W hW hd
      have h36 : a.tmps[36]?.getD undef = .agg #[.int .i64 (i : Int), .int .u64 (k : Int), .int .u64 (nxn now at_ : Int), .int .u64 (what : Int)] := slot_eq (hd 36 (by decide))
      refine grows_new (w' := W.alloc (.cells #[.int .i64 (i : Int), .int .u64 (k : Int), .int .u64 (nxn now at_ : Int), .int .u64 (what : Int)] 83)) (.slice (some ⟨W.heap.size, 0, none⟩) 1 1) (?_ : _ = _) ⟨W.heap.size, rfl, heap_alloc_new W _⟩ (below_alloc W _) (hW.trans ((below_alloc W _).mono hW.size))
      clear hd
      go_simp
    refine eachE_mid ?_ ?_
    · intro a W hW hd
      have HSZ : u6.heap.size ≤ W.heap.size := hW.size
      obtain ⟨A1, c1, h30, hown, hc0⟩ := hd 30 (by decide)
      have h30' : a.tmps[30]?.getD undef = .slice A1 n c1 := slot_eq h30
      obtain ⟨zb, h37, hzb⟩ := hd 37 (by decide)
      have h37' : a.tmps[37]?.getD undef = .slice (some ⟨zb, 0, none⟩) 1 1 := slot_eq h37
      obtain ⟨A2, c2, W', hrun, hown2, hrel⟩ := run_append_two (P := Try.prog) u6.heap.size 37 37 83 i0 (.agg #[.int .i64 0, .int .u64 0, .int .u64 0, .int .u64 0]) 4 Try.underlying37 HI0.out HZ0.out HZ1.out rfl (by decide) hown (b := zb) (off := 0) (c' := 1) (g := fun j => (tmv (⟨i, k, nxn now at_, what⟩ : Tm)).getD j undef) (fun j hj => by
        rw [Nat.zero_add, blk_cell hzb j]
        rcases (show j = 0 ∨ j = 1 ∨ j = 2 ∨ j = 3 by omega) with rfl | rfl | rfl | rfl <;> rfl) (fun j hj => tmv_one _ j hj) (by have := HNL.out; unfold maxLen; omega) (by have := HNL.out; rw [HZ2.out]; omega) HSZ hc0
      refine growsE_new (.slice A2 (n + 1) c2) (w' := W') ?_ ⟨A2, c2, rfl, hown2.same fun j hj => ?_⟩ hrel (hW.trans hrel.below)
      · clear hd
        simp only [execOp, resolve, invoke, builtin, Sem.run_bind, Sem.run_pure, Result.andThen_ok, List.map_toArray, List.map_cons, List.map_nil, Act.eval, Array.getD_eq_getD_getElem?, h30', h37', hrun]
      · have e := rwc_snoc (sz := 4) (by decide) tmv L (⟨i, k, nxn now at_, what⟩ : Tm) j (by rw [← HN.out]; exact hj)
        rw [← HN.out] at e
        exact e
    refine eachE_cons (by decide) ?_ ?_
    · intro a W hW hd
      have h24 : a.tmps[24]?.getD undef = .pointer (some ⟨q, 0, none⟩) := slot_eq (hd 24 (by decide))
      refine grows_value _ hW (?_ : _ = _) rfl
      clear hd
      go_simp
    refine eachE_cons (by decide) ?_ ?_
    · intro a W hW hd
      have h39 : a.tmps[39]?.getD undef = .pointer (some ⟨q, 0, none⟩) := slot_eq (hd 39 (by decide))
      refine grows_value _ hW (?_ : _ = _) rfl
      clear hd
      go_simp
    exact eachE_nil
  · refine behind_val rfl ?_
    refine behind_cons fun v25 => ?_
    refine behind_val rfl ?_
    refine behind_val rfl ?_
    refine behind_val rfl ?_
    refine behind_val rfl ?_
    refine behind_cons fun v30 => ?_
    refine behind_val rfl ?_
    refine behind_val rfl ?_
    refine behind_val rfl ?_
    refine behind_val rfl ?_
    refine behind_val rfl ?_
    refine behind_val rfl ?_
    refine behind_cons fun v37 => ?_
    refine behind_cons fun v38 => ?_
    refine behind_val rfl ?_
    refine behind_val rfl ?_
    refine behind_nil fun u7 hC7 hF7 => ?_
    obtain ⟨⟨⟨⟨_, _⟩, _⟩, _⟩, A2, c2, rfl, hown⟩ := hF7
    have HX7 := Lib.hid (HX.out.keep (Kept.of_below hC7 fun _ => False) fun _ _ q => q)
    have HOW := Lib.hid hown
    have HR7 := Lib.hid (box_step HR.out hC7)
    have HH7 := Lib.hid (box_step HH.out hC7)
    have HBL := Lib.hid hC7
    clear hC7 hown x1 y0 y1 hbd
    simp only [Act.put, List.setIfInBounds_toArray, List.set_cons_succ, List.set_cons_zero, List.drop_succ_cons, List.drop_zero]
    have f1 := blk_free HX7.out.blk 1
    have g1 : u7.cell? ⟨q, 1, none⟩ = some (.slice B n d) := by rw [HN.out]; exact blk_cell HX7.out.blk 1
    have hlen : (L ++ [(⟨i, k, nxn now at_, what⟩ : Tm)]).length = n + 1 := by rw [List.length_append, ← HN.out]; rfl
    have hset := HX.out.setRow_ (L' := L ++ [(⟨i, k, nxn now at_, what⟩ : Tm)]) (B' := A2) (d' := c2) (w' := u7.setCell ⟨q, 1, none⟩ (.slice A2 (n + 1) c2)) (Kept.setCell (R := fun k => k = q) (Kept.of_below HBL.out _) (p := ⟨q, 1, none⟩) (.inl rfl) _) (by rw [hlen]; exact blk_set HX7.out.blk 1 _) (by rw [hlen]; exact HOW.out.far (p := ⟨q, 1, none⟩) HQL.out _)
    have HX8 := Lib.hid hset.1
    have HE8 := Lib.hid (HE.out.trans hset.2)
    have HR8 := Lib.hid (hset.2.box HR.out HNF.out).1
    have HNF8 := Lib.hid (hset.2.box HR.out HNF.out).2
    have HH8 : Hid ((u7.setCell ⟨q, 1, none⟩ (.slice A2 (n + 1) c2)).heap[hb]? = some (.cells #[.int .i64 (i : Int), .int .u64 (k : Int)] 46 (0, 0))) := Lib.hid (hset.2.box HH.out HNH.out).1
    clear hset HX HE HR HH HNF HNH
    go_upto_region 6 with fail
    clear f1 g1
    generalize u7.setCell ⟨q, 1, none⟩ (.slice A2 (n + 1) c2) = u8 at *
    have y0 : u8.cell? ⟨hb, 0, none⟩ = some (.int .i64 (i : Int)) := blk_cell HH8.out 0
    have y1 : u8.cell? ⟨hb, 1, none⟩ = some (.int .u64 (k : Int)) := blk_cell HH8.out 1
    go_wp2_with (first
      | (refine wpList_store_row rfl 46 (.tmp 6) (.tmp 41) rfl rb #[.int .i64 (i : Int), .int .u64 (k : Int)] rfl rfl 46 #[.int .i64 0, .int .u64 0] HR8.out (by kernel_rfl) rfl (by simp [Value.oneCell']) ?_))
    refine bodyPost_ret (v := .tuple #[.agg #[.int .i64 (i : Int), .int .u64 (k : Int)], .int .i64 0]) (results_rowa Try.results45 _ _ rb 46 #[.int .i64 (i : Int), .int .u64 (k : Int)] (0, 0) _ rfl (setRow_heap _ rb _ #[.int .i64 (i : Int), .int .u64 (k : Int)] _ _ HR8.out) Try.underlying46 rfl (by kernel_rfl)) rfl ?_
    have hks : Kept (fun k => k = rb) u8 (u8.setRow rb #[.int .i64 (i : Int), .int .u64 (k : Int)]) := Kept.setRow (R := fun k => k = rb) (Kept.refl _ u8) (.inl rfl) _
    exact ⟨rfl, ⟨_, _, _, HX8.out.keep hks fun k hF e => HNF8.out (by rw [← e]; exact hF), HE8.out.own_kept hks fun k e => by rw [e, HRW.out]; exact Nat.le_refl _⟩⟩
end
end Go.Proofs.Ytkmakdhlaenaoaa
