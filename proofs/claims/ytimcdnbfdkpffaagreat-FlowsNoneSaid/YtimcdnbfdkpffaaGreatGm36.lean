import Derived.Test.YtimcdnbfdkpffaaGreatGm33
import Derived.Test.YtimcdnbfdkpffaaGreatGm35
/- Stage 16: the landed flows: find. -/
namespace Go.Proofs.YtimcdnbfdkpffaaGreat
set_option maxRecDepth 100000
open Go.RowKit Go.Shelf
/-- Is a cell's flow that of a tuple? -/
def ansF (l : List Fr) (t : Tp) (x : Nat) : Bool := match Fl.ix l x with
  | some r => r.t.eq t
  | none => false
/-- What the asking function reads. -/
structure AskF (p pw pg b n c o1 o2 o3 o4 : Nat) (l : List Fr) (W : Wh) (G : Gr) (A B : Nat → Prop) (T : Array Value) (b2 b3 : Nat) (V : World) : Prop where
  fp : V.heap[b2]? = some (.cells #[.pointer (some ⟨p, 0, none⟩)] 28 (0, 0))
  tp : V.heap[b3]? = some (.cells T 38 (0, 0))
  fx : FX V p pw pg b n c o1 o2 o3 o4 l W G A B
/-- Three objects laid. -/
theorem alloc_3 (w : World) (x y z : Obj) : Below w.heap.size w (((w.alloc x).alloc y).alloc z) ∧ (((w.alloc x).alloc y).alloc z).heap[w.heap.size]? = some x ∧ (((w.alloc x).alloc y).alloc z).heap[w.heap.size + 1]? = some y ∧ (((w.alloc x).alloc y).alloc z).heap[w.heap.size + 1 + 1]? = some z := by
  have z1 : (w.alloc x).heap.size = w.heap.size + 1 := by simp
  have z2 : ((w.alloc x).alloc y).heap.size = w.heap.size + 1 + 1 := by simp
  refine ⟨((below_alloc w x).alloc (below_alloc w x).size y).alloc ((below_alloc w x).alloc (below_alloc w x).size y).size z, blk_old (blk_old (heap_alloc_new w x) y) z, ?_, ?_⟩
  · have := heap_alloc_new (w.alloc x) y
    rw [z1] at this
    exact blk_old this z
  · have := heap_alloc_new ((w.alloc x).alloc y) z
    rwa [z2] at this
section
variable {w V V' : World} {p pw pg b n c o1 o2 o3 o4 : Nat} {l : List Fr} {W : Wh} {G : Gr} {A B : Nat → Prop} {b2 b3 b0 : Nat} {T : Array Value}
theorem AskF.keep (h : AskF p pw pg b n c o1 o2 o3 o4 l W G A B T b2 b3 V) (ho : ∀ k, FF p b A B k → k < b0) (h2 : b2 < b0) (h3 : b3 < b0) (hk : Kept (fun k => b0 ≤ k) V V') : AskF p pw pg b n c o1 o2 o3 o4 l W G A B T b2 b3 V' :=
  ⟨(hk.block b2 (lt_heap h.fp) (by omega)).trans h.fp, (hk.block b3 (lt_heap h.tp) (by omega)).trans h.tp, h.fx.keep hk fun k hf => by
    have := ho k hf
    omega⟩
theorem AskF.step (h : AskF p pw pg b n c o1 o2 o3 o4 l W G A B T b2 b3 V) (hb : Below V.heap.size V V') : AskF p pw pg b n c o1 o2 o3 o4 l W G A B T b2 b3 V' :=
  h.keep (b0 := V.heap.size) h.fx.old (lt_heap h.fp) (lt_heap h.tp) (Kept.of_below hb _)
theorem ask_f {t : Tp} (ho : ∀ k, FF p b A B k → k < b0) (h2 : b2 < b0) (h3 : b3 < b0) (hl : ∀ r, r ∈ l → r.i < n) (T9 : List Nat) (hT : ∀ x, x ∈ T9 → Fl.pf l x = true) : AsksG 88 #[.pointer (some ⟨b2, 0, none⟩), .pointer (some ⟨b3, 0, none⟩)] (ansF l t) (fun _ => False) b0 T9 (fun _ => AskF p pw pg b n c o1 o2 o3 o4 l W G A B t.c b2 b3) := by
  refine ⟨fun _ _ => by kernel_rfl, fun _ V V' h hk => h.keep ho h2 h3 hk, fun l' x V h hx hp hV => ?_⟩
  obtain ⟨r, hr⟩ : ∃ r, Fl.ix l x = some r := Option.isSome_iff_exists.1 (hT x (hp.subset (List.mem_append_right _ (List.mem_singleton.2 rfl))))
  obtain ⟨hm, hi⟩ := Fl.ix_some hr
  have hxn : x < n := by
    have := hl r hm
    omega
  obtain ⟨eb, heb⟩ : ∃ e, e = r.t.eq t := ⟨_, rfl⟩
  have HE : Hid (ansF l t x = eb) := Lib.hid (by
    unfold ansF
    rw [hr, heb])
  have hpr : prow l x = r.pc := by
    unfold prow
    rw [hr]
  obtain ⟨T1, hT1⟩ : ∃ T, T = r.t.c := ⟨_, rfl⟩
  obtain ⟨T2, hT2⟩ : ∃ T, T = t.c := ⟨_, rfl⟩
  have HS1 : Hid (T1.size = 36) := Lib.hid (by rw [hT1]; rfl)
  have HS2 : Hid (T2.size = 36) := Lib.hid (by rw [hT2]; rfl)
  have HRG : Hid (V.rangeAt b (x * 42 + 2) T1.toList) := Lib.hid (h.fx.rng hxn 2 T1 (by rw [HS1.out]; decide) fun i hi => by
    rw [hpr, hT1]
    exact pc_t r i (by rw [← HS1.out]; exact hi))
  have hEq : ∀ W : World, (Op.equalIn 10000 38 (.agg T1) (.agg T2)).run Tryz.prog W = .ok eb W := fun W => by
    rw [hT1, hT2, heb]
    exact eqTp 9997 r.t t W
  rw [← hT2] at h ⊢
  have HH := Lib.hid h
  have HGB : Hid (b < V.heap.size) := Lib.hid h.fx.bold
  have HI36 : Hid ((Tryz.prog.info? 38).map (·.size) = some 36) := Lib.hid (by kernel_rfl)
  have q0 : ∀ U : Stay V, U.w.cell? ⟨b2, 0, none⟩ = some (.pointer (some ⟨p, 0, none⟩)) := fun U => Stay.cell (blk_cell HH.out.fp 0) U
  have q1 : ∀ U : Stay V, U.w.cell? ⟨p, 6, none⟩ = some (.slice (some ⟨b, 0, none⟩) n c) := fun U => Stay.cell (blk_cell HH.out.fx.blk 6) U
  have a0 : (0 : Int) ≤ (x : Int) := by omega
  have a1 : (x : Int) < (n : Int) := by omega
  have a2 : ((x : Int)).toNat = x := by omega
  clear h hr hm hi hxn heb hpr hT1 hT2 hT hp hl ho h2 h3
  show Calls Tryz.prog 88 #[.int .u32 (x : Int), .pointer (some ⟨b2, 0, none⟩), .pointer (some ⟨b3, 0, none⟩)] V _
  go_enter Tryz.func88, Tryz.ntmps88
  go_upto_region 1 with fail
  refine wp_region_stay (by kernel_rfl) (by kernel_rfl) ?_
  repeat (first
    | (refine qh_mid rfl 38 (.tmp 11) rfl b (x * 42 + 2) rfl T1 _ (stay_rng HGB.out HRG.out) Tryz.underlying38 rfl (HI36.out.trans (by rw [Array.length_toList, HS1.out])) ?_; simp only [Act.put, List.setIfInBounds_toArray, List.set_cons_succ, List.set_cons_zero])
    | (refine qh_row rfl 38 (.tmp 2) rfl b3 rfl 38 T2 (0, 0) _ (stay_hp HH.out.tp) Tryz.underlying38 rfl (HI36.out.trans (by rw [HS2.out])) ?_; simp only [Act.put, List.setIfInBounds_toArray, List.set_cons_succ, List.set_cons_zero])
    | (go_big_quiet_step (fail)))
  refine wpQuiet_nil ?_
  intro w' hw'
  obtain ⟨U, rfl⟩ := hw'
  have HB := Lib.hid U.below
  clear q0 q1
  go_wp2_with fail
  go_ret
  exact ⟨by rw [HE.out]; rfl, HH.out.step HB.out, Kept.of_below HB.out _⟩
set_option maxHeartbeats 1000000 in
theorem ffind_v (h : FX w p pw pg b n c o1 o2 o3 o4 l W G A B) (hg : Gr.Kg (Fl.hf l) G (Fl.pf l)) (hl : ∀ r, r ∈ l → r.i < n) {t : Tp} (ht : t.Ok) {x : Nat} {q : Bool} (hv : G.gnV t.h (ansF l t) = #[.int .u32 (x : Int), .bool q]) :
    Calls Tryz.prog 43 #[.pointer (some ⟨p, 0, none⟩), .agg t.c] w (ret (.tuple #[.agg #[.int .u64 (t.h : Int), .int .u32 (x : Int)], .bool q]) w) := by
  have HTU : Hid (∀ V : World, Calls Tryz.prog 86 #[.agg t.c] V (ret (.int .u64 (t.h : Int)) V)) := Lib.hid fun V => tuple_any t.v6 t.pr t.s t.d t.sp t.dp ht.pr ht.s ht.d ht.sp ht.dp V
  have HFI : Hid (∀ (b2 b3 : Nat) (V : World), AskF p pw pg b n c o1 o2 o3 o4 l W G A B t.c b2 b3 V → Calls Tryz.prog 87 #[.pointer (some ⟨pg, 0, none⟩), .int .u64 (t.h : Int), .func (.func 88) #[] #[.pointer (some ⟨b2, 0, none⟩), .pointer (some ⟨b3, 0, none⟩)]] V fun e V' => e = .returned (.tuple #[.int .u32 (x : Int), .bool q]) ∧ Below V.heap.size V V') := Lib.hid fun b2 b3 V hV => by
    obtain ⟨pn, px, Fn, Fx, hy⟩ := hV.fx.duo.b
    have hw := hg.way t.h
    refine (gfind_q hy hg.ok t.h (Tp.h_lt t) _ _ (ansF l t) (fun x => Fl.pf l x = true) hw.1 hw.2 _ (fun T9 hT => ask_f hV.fx.old (lt_heap hV.fp) (lt_heap hV.tp) hl T9 hT) hV).mono ?_
    rintro e V' ⟨rfl, _, hk⟩
    exact ⟨by rw [hv], hk.below (Nat.le_refl _) fun _ e => e.elim⟩
  obtain ⟨T, hT⟩ : ∃ T, T = t.c := ⟨_, rfl⟩
  obtain ⟨H, hH⟩ : ∃ H, H = t.h := ⟨_, rfl⟩
  have HS : Hid (T.size = 36) := Lib.hid (by rw [hT]; rfl)
  have HO : Hid (T.all (·.oneCell') = true) := Lib.hid (by rw [hT]; exact Tp.c_one t)
  rw [← hT, ← hH] at HTU HFI ⊢
  clear hT hH hv ht hg hl
  have HI36 : Hid ((Tryz.prog.info? 38).map (·.size) = some 36) := Lib.hid (by kernel_rfl)
  have hmf : ∀ (fn : Fn) (first cap : Array Value) (w : World), (Instr.makeFunc fn first cap).run Tryz.prog w = .ok (.func fn first cap) w := fun _ _ _ _ => rfl
  go_enter Tryz.func43, Tryz.ntmps43
  go_upto_region 1 with fail
  have HA := Lib.hid (alloc_3 w (.cells #[.pointer (some ⟨p, 0, none⟩)] 28) (.cells T 38) (.cells #[.int .u64 0, .int .u32 0] 99))
  generalize ((w.alloc (.cells #[.pointer (some ⟨p, 0, none⟩)] 28)).alloc (.cells T 38)).alloc (.cells #[.int .u64 0, .int .u32 0] 99) = u0 at *
  have HB4 : Hid (w.heap.size ≤ w.heap.size + 1 + 1) := Lib.hid (by omega)
  generalize w.heap.size + 1 + 1 = b4 at *
  generalize w.heap.size + 1 = b3 at *
  have HA0 : Hid (AskF p pw pg b n c o1 o2 o3 o4 l W G A B T w.heap.size b3 u0) := Lib.hid ⟨HA.out.2.1, HA.out.2.2.1, h.step HA.out.1⟩
  have HB0 := Lib.hid HA.out.1
  have HE0 := Lib.hid HA.out.2.2.2
  clear HA h
  go_upto_region 2 with (first
    | (refine wpList_load_roww rfl 38 (.tmp 3) rfl b3 rfl 38 T (0, 0) _ HA0.out.tp Tryz.underlying38 rfl (HI36.out.trans (by rw [HS.out])) ?_)
    | (go_at_call 86
       refine (HTU.out _).mono ?_
       rintro e u1 ⟨rfl, hb⟩
       have HB1 := Lib.hid (HB0.out.trans (hb.mono HB0.out.size))
       have HA1 := Lib.hid (HA0.out.step hb)
       have HE1 := Lib.hid ((hb.block b4 (lt_heap HE0.out)).trans HE0.out)
       clear hb))
  have x2 : u1.cell? ⟨w.heap.size, 0, none⟩ = some (.pointer (some ⟨p, 0, none⟩)) := blk_cell HA1.out.fp 0
  have x1 : u1.cell? ⟨p, 1, none⟩ = some (.pointer (some ⟨pg, 0, none⟩)) := blk_cell HA1.out.fx.blk 1
  go_upto_region 3 with (first
    | (go_at_call 87
       refine (HFI.out w.heap.size b3 _ HA1.out).mono ?_
       rintro e u2 ⟨rfl, hb⟩
       have HB2 := Lib.hid (HB1.out.trans (hb.mono HB1.out.size))
       have HE2 := Lib.hid ((hb.block b4 (lt_heap HE1.out)).trans HE1.out)
       clear hb))
  clear x1 x2
  go_wp2_with (first
    | (refine wpList_store_row rfl 99 (.tmp 4) (.tmp 23) rfl b4 #[.int .u64 (H : Int), .int .u32 (x : Int)] rfl rfl 99 #[.int .u64 0, .int .u32 0] HE2.out (by kernel_rfl) rfl (by simp [Value.oneCell']) ?_))
  refine bodyPost_ret (v := .tuple #[.agg #[.int .u64 (H : Int), .int .u32 (x : Int)], .bool q]) (results_rowa Tryz.results43 _ _ b4 99 #[.int .u64 (H : Int), .int .u32 (x : Int)] (0, 0) _ rfl (setRow_heap _ b4 _ #[.int .u64 (H : Int), .int .u32 (x : Int)] _ _ HE2.out) Tryz.underlying99 rfl (by kernel_rfl)) rfl ?_
  exact ⟨rfl, below_setRow HB2.out HB4.out _⟩
/-- A tuple that has a flow; one that has none. -/
theorem ffind_some (h : FX w p pw pg b n c o1 o2 o3 o4 l W G A B) (hg : Gr.Kg (Fl.hf l) G (Fl.pf l)) (hl : ∀ r, r ∈ l → r.i < n) (hn : (l.map Fr.i).Nodup) (hok : ∀ r, r ∈ l → r.t.Ok) (hnt : (l.map Fr.t).Nodup) {t : Tp} (ht : t.Ok) {r : Fr} (hr : r ∈ l) (hrt : r.t = t) :
    Calls Tryz.prog 43 #[.pointer (some ⟨p, 0, none⟩), .agg t.c] w (ret (.tuple #[.agg #[.int .u64 (t.h : Int), .int .u32 (r.i : Int)], .bool true]) w) := by
  refine ffind_v h hg hl ht (x := r.i) (q := true) ?_
  unfold Gr.gnV
  rw [hg.one (x := r.i) (Fl.pf_iff.2 ⟨r, hr, rfl⟩) (by rw [Fl.hf_mem hn hr, hrt]) fun y hy _ => ?_]
  obtain ⟨a, ha, rfl⟩ := Fl.pf_iff.1 hy
  unfold ansF
  rw [Fl.ix_mem hn ha]
  show a.t.eq t = true ↔ _
  rw [Tp.eq_iff (hok a ha) ht]
  refine ⟨fun e => ?_, fun e => ?_⟩
  · rw [Fl.one_t hnt ha hr (e.trans hrt.symm)]
  · rw [Fl.one_i hn ha hr e]
    exact hrt
theorem ffind_none (h : FX w p pw pg b n c o1 o2 o3 o4 l W G A B) (hg : Gr.Kg (Fl.hf l) G (Fl.pf l)) (hl : ∀ r, r ∈ l → r.i < n) (hn : (l.map Fr.i).Nodup) (hok : ∀ r, r ∈ l → r.t.Ok) {t : Tp} (ht : t.Ok) (hr : ∀ r, r ∈ l → r.t ≠ t) :
    Calls Tryz.prog 43 #[.pointer (some ⟨p, 0, none⟩), .agg t.c] w (ret (.tuple #[.agg #[.int .u64 (t.h : Int), .int .u32 ((0 : Nat) : Int)], .bool false]) w) := by
  refine ffind_v h hg hl ht (x := 0) (q := false) ?_
  unfold Gr.gnV
  rw [hg.no fun y hy _ => ?_]
  · rfl
  obtain ⟨a, ha, rfl⟩ := Fl.pf_iff.1 hy
  unfold ansF
  rw [Fl.ix_mem hn ha]
  show a.t.eq t = false
  cases e : a.t.eq t with
  | false => rfl
  | true => exact absurd ((Tp.eq_iff (hok a ha) ht).1 e) (hr a ha)
end
end Go.Proofs.YtimcdnbfdkpffaaGreat
/- Stage 16: the landed flows: forget, End. -/
namespace Go.Proofs.YtimcdnbfdkpffaaGreat
set_option maxRecDepth 100000
open Go.RowKit Go.Shelf
set_option maxHeartbeats 1000000 in
theorem fforget_any {w : World} {p pw pg b n c o1 o2 o3 o4 : Nat} {l : List Fr} {W : Wh} {G : Gr} {A B : Nat → Prop} (h : FX w p pw pg b n c o1 o2 o3 o4 l W G A B) (hg : G.Ok) {H x : Nat} (hH : H < 18446744073709551616) (hx : x < n) (hn : n ≤ 65536) :
    Calls Tryz.prog 45 #[.pointer (some ⟨p, 0, none⟩), .agg #[.int .u64 (H : Int), .int .u32 (x : Int)]] w fun e w' => e = .returned (.tuple #[]) ∧ ∃ B', FX w' p pw pg b n c o1 o2 o3 o4 (Fl.rem l x) W (G.dr H x) A B' ∧ ExtG (FF p b A B) (FF p b A B') w w' := by
  have HD := Lib.hid fun V (hV : FX V p pw pg b n c o1 o2 o3 o4 l W G A B) => hV.callG (groP.drop hV.duo.b hg H x hH (by omega))
  have HB0 : Hid (Below w.heap.size w (w.alloc (.cells #[.int .u64 (H : Int), .int .u32 (x : Int)] 99))) := Lib.hid (below_alloc w _)
  have HM0 : Hid ((w.alloc (.cells #[.int .u64 (H : Int), .int .u32 (x : Int)] 99)).heap[w.heap.size]? = some (.cells #[.int .u64 (H : Int), .int .u32 (x : Int)] 99 (0, 0))) := Lib.hid (heap_alloc_new w _)
  have HX0 := Lib.hid (h.step HB0.out)
  have HRF : Hid (¬ FF p b A B w.heap.size) := Lib.hid fun q => absurd (h.old _ q) (by omega)
  have HXN := Lib.hid hx
  have a0 : (0 : Int) ≤ (x : Int) := by omega
  have a1 : (x : Int) < (n : Int) := by omega
  have a2 : ((x : Int)).toNat = x := by omega
  obtain ⟨Z, hZ⟩ : ∃ Z, Z = pz := ⟨_, rfl⟩
  have HZS : Hid (Z.size = 42) := Lib.hid (by rw [hZ]; exact pz_size)
  have HZO : Hid (Z.all (·.oneCell') = true) := Lib.hid (by rw [hZ]; exact pz_one)
  have hbd : ∀ V : World, (Instr.build 97 #[]).run Tryz.prog V = .ok (.agg Z) V := fun V => by
    rw [hZ]
    kernel_rfl
  have HZE := Lib.hid hZ
  obtain ⟨r, hr⟩ : ∃ r, r = w.heap.size := ⟨_, rfl⟩
  rw [← hr] at HM0 HRF
  clear h hg hH hx hn hZ
  go_enter Tryz.func45, Tryz.ntmps45
  go_upto_region 1 with fail
  change Code.wp _ _ _ _ (w.alloc (.cells #[.int .u64 (H : Int), .int .u32 (x : Int)] 99))
  rw [← hr]
  clear hr
  generalize w.alloc (.cells #[.int .u64 (H : Int), .int .u32 (x : Int)] 99) = u0 at *
  have xp1 : u0.cell? ⟨p, 1, none⟩ = some (.pointer (some ⟨pg, 0, none⟩)) := blk_cell HX0.out.blk 1
  have xr0 : u0.cell? ⟨r, 0, none⟩ = some (.int .u64 (H : Int)) := blk_cell HM0.out 0
  have xr1 : u0.cell? ⟨r, 1, none⟩ = some (.int .u32 (x : Int)) := blk_cell HM0.out 1
  have HPL : Hid (p < u0.heap.size) := Lib.hid HX0.out.pold
  have HRL : Hid (r < u0.heap.size) := Lib.hid (lt_heap HM0.out)
  refine wp_region_grow (C := fun W => Below u0.heap.size u0 W) 5 18 [val (.pointer (some ⟨p, 0, none⟩)), val (.pointer (some ⟨p, 0, none⟩)), val (.pointer (some ⟨p, 1, none⟩)), val (.pointer (some ⟨pg, 0, none⟩)), val (.agg #[.int .u64 (H : Int), .int .u32 (x : Int)])] (by kernel_rfl) rfl (by kernel_rfl) rfl ⟨stb_val _, stb_val _, stb_val _, stb_val _, stb_val _, trivial⟩ (Below.refl _ _).drew ?_ ?_
  · refine each_cons ?_ ?_
    · intro a W hW hd
      have h0 : a.tmps[0]?.getD undef = .pointer (some ⟨p, 0, none⟩) := slot_eq (hd 0 (by decide))
      exact grows_value _ hW (by simp [execOp, Act.eval, h0]) rfl
    refine each_cons ?_ ?_
    · intro a W hW hd
      have h4 : a.tmps[4]?.getD undef = .pointer (some ⟨p, 0, none⟩) := slot_eq (hd 4 (by decide))
      refine grows_value _ hW (?_ : _ = _) rfl
      clear hd
      go_simp
    refine each_cons ?_ ?_
    · intro a W hW hd
      have h5 : a.tmps[5]?.getD undef = .pointer (some ⟨p, 0, none⟩) := slot_eq (hd 5 (by decide))
      refine grows_value _ hW (?_ : _ = _) rfl
      clear hd
      go_simp
    refine each_cons ?_ ?_
    · intro a W hW hd
      have h6 : a.tmps[6]?.getD undef = .pointer (some ⟨p, 1, none⟩) := slot_eq (hd 6 (by decide))
      have xx : W.cell? ⟨p, 1, none⟩ = some (.pointer (some ⟨pg, 0, none⟩)) := (hW.cell (p := ⟨p, 1, none⟩) HPL.out).trans xp1
      refine grows_value _ hW (?_ : _ = _) rfl
      clear hd
      go_simp
    refine each_cons ?_ ?_
    · intro a W hW hd
      have xx0 : W.cell? ⟨r, 0, none⟩ = some (.int .u64 (H : Int)) := (hW.cell (p := ⟨r, 0, none⟩) HRL.out).trans xr0
      have xx1 : W.cell? ⟨r, 1, none⟩ = some (.int .u32 (x : Int)) := (hW.cell (p := ⟨r, 1, none⟩) HRL.out).trans xr1
      have h3 : a.tmps[3]?.getD undef = .pointer (some ⟨r, 0, none⟩) := slot_eq (hd 3 (by decide))
      refine grows_value _ hW (?_ : _ = _) rfl
      clear hd
      go_simp
    exact each_nil
  · refine behind_val rfl ?_
    refine behind_val rfl ?_
    refine behind_val rfl ?_
    refine behind_val rfl ?_
    refine behind_val rfl ?_
    refine behind_nil fun W1 hCW1 hFW1 => ?_
    simp only [Act.put, List.setIfInBounds_toArray, List.set_cons_succ, List.set_cons_zero, List.drop_succ_cons, List.drop_zero]
    clear hFW1 xp1 xr0 xr1
    have HX1 := Lib.hid (HX0.out.step hCW1)
    have HM1 : Hid (W1.heap[r]? = some (.cells #[.int .u64 (H : Int), .int .u32 (x : Int)] 99 (0, 0))) := Lib.hid ((hCW1.block _ (lt_heap HM0.out)).trans HM0.out)
    have HE1 : Hid (ExtG (FF p b A B) (FF p b A B) w W1) := Lib.hid (ExtG.of_below (HB0.out.trans (hCW1.mono HB0.out.size)))
    clear hCW1 HX0 HM0 HB0
    go_upto_region 2 with (first
      | (go_at_call 92
         refine (HD.out _ HX1.out).mono ?_
         rintro e u2 ⟨rfl, B', hx, he⟩
         have HX2 := Lib.hid hx
         have HM2 : Hid (u2.heap[r]? = some (.cells #[.int .u64 (H : Int), .int .u32 (x : Int)] 99 (0, 0))) := Lib.hid ((he.kept.block r (lt_heap HM1.out) HRF.out).trans HM1.out)
         have HE2 : Hid (ExtG (FF p b A B) (FF p b A B') w u2) := Lib.hid (HE1.out.trans he)
         clear hx he))
    clear HX1 HM1 HE1
    have xp6 : u2.cell? ⟨p, 6, none⟩ = some (.slice (some ⟨b, 0, none⟩) n c) := blk_cell HX2.out.blk 6
    have xr1 : u2.cell? ⟨r, 1, none⟩ = some (.int .u32 (x : Int)) := blk_cell HM2.out 1
    have HPL : Hid (p < u2.heap.size) := Lib.hid HX2.out.pold
    have HRL : Hid (r < u2.heap.size) := Lib.hid (lt_heap HM2.out)
    refine wp_region_grow (C := fun W => Below u2.heap.size u2 W) 8 18 [val (.pointer (some ⟨p, 0, none⟩)), val (.pointer (some ⟨p, 0, none⟩)), val (.pointer (some ⟨p, 6, none⟩)), val (.slice (some ⟨b, 0, none⟩) n c), val (.pointer (some ⟨r, 1, none⟩)), val (.int .u32 (x : Int)), val (.agg Z), val (.pointer (some ⟨b, x * 42, none⟩))] (by kernel_rfl) rfl (by kernel_rfl) rfl ⟨stb_val _, stb_val _, stb_val _, stb_val _, stb_val _, stb_val _, stb_val _, stb_val _, trivial⟩ (Below.refl _ _).drew ?_ ?_
    · refine each_cons ?_ ?_
      · intro a W hW hd
        have h0 : a.tmps[0]?.getD undef = .pointer (some ⟨p, 0, none⟩) := slot_eq (hd 0 (by decide))
        exact grows_value _ hW (by simp [execOp, Act.eval, h0]) rfl
      refine each_cons ?_ ?_
      · intro a W hW hd
        have h10 : a.tmps[10]?.getD undef = .pointer (some ⟨p, 0, none⟩) := slot_eq (hd 10 (by decide))
        refine grows_value _ hW (?_ : _ = _) rfl
        clear hd
        go_simp
      refine each_cons ?_ ?_
      · intro a W hW hd
        have h11 : a.tmps[11]?.getD undef = .pointer (some ⟨p, 0, none⟩) := slot_eq (hd 11 (by decide))
        refine grows_value _ hW (?_ : _ = _) rfl
        clear hd
        go_simp
      refine each_cons ?_ ?_
      · intro a W hW hd
        have h12 : a.tmps[12]?.getD undef = .pointer (some ⟨p, 6, none⟩) := slot_eq (hd 12 (by decide))
        have xx : W.cell? ⟨p, 6, none⟩ = some (.slice (some ⟨b, 0, none⟩) n c) := (hW.cell (p := ⟨p, 6, none⟩) HPL.out).trans xp6
        refine grows_value _ hW (?_ : _ = _) rfl
        clear hd
        go_simp
      refine each_cons ?_ ?_
      · intro a W hW hd
        have h3 : a.tmps[3]?.getD undef = .pointer (some ⟨r, 0, none⟩) := slot_eq (hd 3 (by decide))
        refine grows_value _ hW (?_ : _ = _) rfl
        clear hd
        go_simp
      refine each_cons ?_ ?_
      · intro a W hW hd
        have h14 : a.tmps[14]?.getD undef = .pointer (some ⟨r, 1, none⟩) := slot_eq (hd 14 (by decide))
        have xx : W.cell? ⟨r, 1, none⟩ = some (.int .u32 (x : Int)) := (hW.cell (p := ⟨r, 1, none⟩) HRL.out).trans xr1
        refine grows_value _ hW (?_ : _ = _) rfl
        clear hd
        go_simp
      refine each_cons ?_ ?_
      · intro a W hW hd
        refine grows_value _ hW (?_ : _ = _) rfl
        have hb := hbd W
        clear hd
        simp [execOp, hb]
      refine each_cons ?_ ?_
      · intro a W hW hd
        have h13 : a.tmps[13]?.getD undef = .slice (some ⟨b, 0, none⟩) n c := slot_eq (hd 13 (by decide))
        have h15 : a.tmps[15]?.getD undef = .int .u32 (x : Int) := slot_eq (hd 15 (by decide))
        refine grows_value _ hW (?_ : _ = _) rfl
        clear hd
        go_simp
      exact each_nil
    · refine behind_val rfl ?_
      refine behind_val rfl ?_
      refine behind_val rfl ?_
      refine behind_val rfl ?_
      refine behind_val rfl ?_
      refine behind_val rfl ?_
      refine behind_val rfl ?_
      refine behind_val rfl ?_
      refine behind_nil fun W3 hCW3 hFW3 => ?_
      simp only [Act.put, List.setIfInBounds_toArray, List.set_cons_succ, List.set_cons_zero, List.drop_succ_cons, List.drop_zero]
      clear hFW3 xp6 xr1 hbd
      have HX3 := Lib.hid (HX2.out.step hCW3)
      have HE3 := Lib.hid (HE2.out.trans (ExtG.of_below hCW3))
      clear hCW3 HX2 HE2 HM2 HPL HRL
      have HI42 : Hid ((Tryz.prog.info? 97).map (·.size) = some 42) := Lib.hid (by kernel_rfl)
      go_wp2_with (first
        | (refine wpList_store_mid rfl 97 (.tmp 17) (.tmp 16) rfl b (x * 42) Z rfl rfl (by rw [HZS.out]; exact HX3.out.there HXN.out) (HI42.out.trans (by rw [HZS.out])) HZO.out ?_))

      go_end0
      obtain ⟨h1, h2⟩ := HX3.out.put x Z HZS.out (l' := Fl.rem l x) (fun y => by rw [HZE.out]; exact prow_rem l x y)
      exact ⟨rfl, B', h1, HE3.out.trans h2⟩
end Go.Proofs.YtimcdnbfdkpffaaGreat
/- Stage 16: the landed flows: End. -/
namespace Go.Proofs.YtimcdnbfdkpffaaGreat
set_option maxRecDepth 100000
open Go.RowKit Go.Shelf
section
variable {w : World} {p pw pg b n c o1 o2 o3 o4 : Nat} {l : List Fr} {W W' : Wh} {G : Gr} {A B : Nat → Prop}
set_option maxHeartbeats 1000000 in
theorem fend_no (h : FX w p pw pg b n c o1 o2 o3 o4 l W G A B) {T : Array Value} {H x : Nat} (hT : T.size = 36) (hf : ∀ V, FX V p pw pg b n c o1 o2 o3 o4 l W G A B → Calls Tryz.prog 43 #[.pointer (some ⟨p, 0, none⟩), .agg T] V (ret (.tuple #[.agg #[.int .u64 (H : Int), .int .u32 (x : Int)], .bool false]) V)) :
    Calls Tryz.prog 13 #[.pointer (some ⟨p, 0, none⟩), .agg T] w (ret (.int .i64 7) w) := by
  have HB0 : Hid (Below w.heap.size w (w.alloc (.cells T 38))) := Lib.hid (below_alloc w _)
  have HM0 : Hid ((w.alloc (.cells T 38)).heap[w.heap.size]? = some (.cells T 38 (0, 0))) := Lib.hid (heap_alloc_new w _)
  have HX0 := Lib.hid (h.step HB0.out)
  have HF := Lib.hid hf
  have HS := Lib.hid hT
  have HI36 : Hid ((Tryz.prog.info? 38).map (·.size) = some 36) := Lib.hid (by kernel_rfl)
  have HRF : Hid (∀ k, FF p b A B k → k < w.heap.size) := Lib.hid h.old
  obtain ⟨r, hr⟩ : ∃ r, r = w.heap.size := ⟨_, rfl⟩
  rw [← hr] at HM0
  clear h hf hT
  go_enter Tryz.func13, Tryz.ntmps13
  go_upto_region 1 with fail
  change Code.wp _ _ _ _ (w.alloc (.cells T 38))
  rw [← hr]
  clear hr
  generalize w.alloc (.cells T 38) = u0 at *
  go_upto_region 3 with (first
    | (go_at_call 39
       refine (fmade_c (blk_cell HX0.out.blk 0)).mono ?_
       rintro e u1 ⟨rfl, hb⟩
       have HB1 := Lib.hid (HB0.out.trans (hb.mono HB0.out.size))
       have HX1 := Lib.hid (HX0.out.step hb)
       have HM1 : Hid (u1.heap[r]? = some (.cells T 38 (0, 0))) := Lib.hid ((hb.block _ (lt_heap HM0.out)).trans HM0.out)
       clear hb))
  go_upto_region 4 with (first
    | (refine wpList_load_roww rfl 38 (.tmp 3) rfl r rfl 38 T (0, 0) _ HM1.out Tryz.underlying38 rfl (HI36.out.trans (by rw [HS.out])) ?_)
    | (go_at_call 43
       refine (HF.out _ HX1.out).mono ?_
       rintro e u2 ⟨rfl, hb⟩
       have HB2 := Lib.hid (HB1.out.trans (hb.mono HB1.out.size))
       have HX2 := Lib.hid (HX1.out.step hb)
       have HN2 : Hid ((u2.alloc (.cells #[.int .u64 0, .int .u32 0] 99)).heap[u2.heap.size]? = some (.cells #[.int .u64 0, .int .u32 0] 99 (0, 0))) := Lib.hid (heap_alloc_new u2 _)
       clear hb))
  change Code.wp _ _ _ _ (u2.alloc (.cells #[.int .u64 (H : Int), .int .u32 (x : Int)] 99))
  have HM3 : Hid ((u2.alloc (.cells #[.int .u64 (H : Int), .int .u32 (x : Int)] 99)).heap[u2.heap.size]? = some (.cells #[.int .u64 (H : Int), .int .u32 (x : Int)] 99 (0, 0))) := Lib.hid (heap_alloc_new u2 _)
  have HB3 : Hid (Below w.heap.size w (u2.alloc (.cells #[.int .u64 (H : Int), .int .u32 (x : Int)] 99))) := Lib.hid (HB2.out.alloc HB2.out.size _)
  have HX3 := Lib.hid (HX2.out.step (below_alloc u2 (.cells #[.int .u64 (H : Int), .int .u32 (x : Int)] 99)))
  have HZ3 : Hid (w.heap.size ≤ u2.heap.size) := Lib.hid HB2.out.size
  clear HN2 HB2 HX2
  generalize u2.alloc (.cells #[.int .u64 (H : Int), .int .u32 (x : Int)] 99) = u3 at *
  generalize u2.heap.size = e5 at *
  go_wp2_with fail
  go_ret
  exact ⟨rfl, HB3.out⟩
set_option maxHeartbeats 2000000 in
theorem fend_yes (h : FX w p pw pg b n c o1 o2 o3 o4 l W G A B) (hg : G.Ok) {T : Array Value} {H x i k : Nat} {ce : Int} (hT : T.size = 36) (hH : H < 18446744073709551616) (hx : x < n) (hn : n ≤ 65536) (hr0 : (prow l x).getD 0 undef = .int .i64 (i : Int)) (hr1 : (prow l x).getD 1 undef = .int .u64 (k : Int))
    (hf : ∀ V, FX V p pw pg b n c o1 o2 o3 o4 l W G A B → Calls Tryz.prog 43 #[.pointer (some ⟨p, 0, none⟩), .agg T] V (ret (.tuple #[.agg #[.int .u64 (H : Int), .int .u32 (x : Int)], .bool true]) V)) (hc : ∀ V, FX V p pw pg b n c o1 o2 o3 o4 l W G A B → Calls Tryz.prog 44 #[.pointer (some ⟨pw, 0, none⟩), .agg #[.int .i64 (i : Int), .int .u64 (k : Int)]] V fun e V' => e = .returned (.int .i64 ce) ∧ ∃ A', FX V' p pw pg b n c o1 o2 o3 o4 l W' G A' B ∧ ExtG (FF p b A B) (FF p b A' B) V V') :
    Calls Tryz.prog 13 #[.pointer (some ⟨p, 0, none⟩), .agg T] w fun e w' => e = .returned (.int .i64 0) ∧ ∃ A' B', FX w' p pw pg b n c o1 o2 o3 o4 (Fl.rem l x) W' (G.dr H x) A' B' ∧ ExtG (FF p b A B) (FF p b A' B') w w' := by
  have HB0 : Hid (Below w.heap.size w (w.alloc (.cells T 38))) := Lib.hid (below_alloc w _)
  have HM0 : Hid ((w.alloc (.cells T 38)).heap[w.heap.size]? = some (.cells T 38 (0, 0))) := Lib.hid (heap_alloc_new w _)
  have HX0 := Lib.hid (h.step HB0.out)
  have HF := Lib.hid hf
  have HS := Lib.hid hT
  have HI36 : Hid ((Tryz.prog.info? 38).map (·.size) = some 36) := Lib.hid (by kernel_rfl)
  have HRF : Hid (∀ k, FF p b A B k → k < w.heap.size) := Lib.hid h.old
  obtain ⟨r, hr⟩ : ∃ r, r = w.heap.size := ⟨_, rfl⟩
  rw [← hr] at HM0
  have HCA := Lib.hid hc
  have HGO := Lib.hid hg
  have HHL := Lib.hid hH
  have HXN := Lib.hid hx
  have HN6 := Lib.hid hn
  have HR0 := Lib.hid hr0
  have HR1 := Lib.hid hr1
  have a0 : (0 : Int) ≤ (x : Int) := by omega
  have a1 : (x : Int) < (n : Int) := by omega
  have a2 : ((x : Int)).toNat = x := by omega
  clear h hf hT hc hg hH hx hn hr0 hr1
  go_enter Tryz.func13, Tryz.ntmps13
  go_upto_region 1 with fail
  change Code.wp _ _ _ _ (w.alloc (.cells T 38))
  rw [← hr]
  clear hr
  generalize w.alloc (.cells T 38) = u0 at *
  go_upto_region 3 with (first
    | (go_at_call 39
       refine (fmade_c (blk_cell HX0.out.blk 0)).mono ?_
       rintro e u1 ⟨rfl, hb⟩
       have HB1 := Lib.hid (HB0.out.trans (hb.mono HB0.out.size))
       have HX1 := Lib.hid (HX0.out.step hb)
       have HM1 : Hid (u1.heap[r]? = some (.cells T 38 (0, 0))) := Lib.hid ((hb.block _ (lt_heap HM0.out)).trans HM0.out)
       clear hb))
  go_upto_region 4 with (first
    | (refine wpList_load_roww rfl 38 (.tmp 3) rfl r rfl 38 T (0, 0) _ HM1.out Tryz.underlying38 rfl (HI36.out.trans (by rw [HS.out])) ?_)
    | (go_at_call 43
       refine (HF.out _ HX1.out).mono ?_
       rintro e u2 ⟨rfl, hb⟩
       have HB2 := Lib.hid (HB1.out.trans (hb.mono HB1.out.size))
       have HX2 := Lib.hid (HX1.out.step hb)
       have HN2 : Hid ((u2.alloc (.cells #[.int .u64 0, .int .u32 0] 99)).heap[u2.heap.size]? = some (.cells #[.int .u64 0, .int .u32 0] 99 (0, 0))) := Lib.hid (heap_alloc_new u2 _)
       clear hb))
  change Code.wp _ _ _ _ (u2.alloc (.cells #[.int .u64 (H : Int), .int .u32 (x : Int)] 99))
  have HM3 : Hid ((u2.alloc (.cells #[.int .u64 (H : Int), .int .u32 (x : Int)] 99)).heap[u2.heap.size]? = some (.cells #[.int .u64 (H : Int), .int .u32 (x : Int)] 99 (0, 0))) := Lib.hid (heap_alloc_new u2 _)
  have HB3 : Hid (Below w.heap.size w (u2.alloc (.cells #[.int .u64 (H : Int), .int .u32 (x : Int)] 99))) := Lib.hid (HB2.out.alloc HB2.out.size _)
  have HX3 := Lib.hid (HX2.out.step (below_alloc u2 (.cells #[.int .u64 (H : Int), .int .u32 (x : Int)] 99)))
  have HZ3 : Hid (w.heap.size ≤ u2.heap.size) := Lib.hid HB2.out.size
  clear HN2 HB2 HX2
  generalize u2.alloc (.cells #[.int .u64 (H : Int), .int .u32 (x : Int)] 99) = u3 at *
  generalize u2.heap.size = e5 at *
  go_upto_region 6 with fail
  have xp0 : u3.cell? ⟨p, 0, none⟩ = some (.pointer (some ⟨pw, 0, none⟩)) := blk_cell HX3.out.blk 0
  have xp6 : u3.cell? ⟨p, 6, none⟩ = some (.slice (some ⟨b, 0, none⟩) n c) := blk_cell HX3.out.blk 6
  have xe51 : u3.cell? ⟨e5, 1, none⟩ = some (.int .u32 (x : Int)) := blk_cell HM3.out 1
  have xb0 : u3.cell? ⟨b, x * 42, none⟩ = some (.int .i64 (i : Int)) := by rw [← HR0.out]; exact (HX3.out.lies HXN.out (by decide : 0 < 42)).1
  have xb1 : u3.cell? ⟨b, x * 42 + 1, none⟩ = some (.int .u64 (k : Int)) := by rw [← HR1.out]; exact (HX3.out.lies HXN.out (by decide : 1 < 42)).1
  have HPL : Hid (p < u3.heap.size) := Lib.hid HX3.out.pold
  have HBL : Hid (b < u3.heap.size) := Lib.hid HX3.out.bold
  have HRL : Hid (e5 < u3.heap.size) := Lib.hid (lt_heap HM3.out)
  refine wp_region_grow (C := fun W => Below u3.heap.size u3 W) 13 35 [val (.pointer (some ⟨p, 0, none⟩)), val (.pointer (some ⟨p, 0, none⟩)), val (.pointer (some ⟨p, 0, none⟩)), val (.pointer (some ⟨pw, 0, none⟩)), val (.pointer (some ⟨p, 0, none⟩)), val (.pointer (some ⟨p, 0, none⟩)), val (.pointer (some ⟨p, 6, none⟩)), val (.slice (some ⟨b, 0, none⟩) n c), val (.pointer (some ⟨e5, 1, none⟩)), val (.int .u32 (x : Int)), val (.pointer (some ⟨b, x * 42, none⟩)), val (.pointer (some ⟨b, x * 42, none⟩)), val (.agg #[.int .i64 (i : Int), .int .u64 (k : Int)])] (by kernel_rfl) rfl (by kernel_rfl) rfl ⟨stb_val _, stb_val _, stb_val _, stb_val _, stb_val _, stb_val _, stb_val _, stb_val _, stb_val _, stb_val _, stb_val _, stb_val _, stb_val _, trivial⟩ (Below.refl _ _).drew ?_ ?_
  · refine each_cons ?_ ?_
    · intro a W hW hd
      have h0 : a.tmps[0]?.getD undef = .pointer (some ⟨p, 0, none⟩) := slot_eq (hd 0 (by decide))
      exact grows_value _ hW (by simp [execOp, Act.eval, h0]) rfl
    refine each_cons ?_ ?_
    · intro a W hW hd
      have h18 : a.tmps[18]?.getD undef = .pointer (some ⟨p, 0, none⟩) := slot_eq (hd 18 (by decide))
      refine grows_value _ hW (?_ : _ = _) rfl
      clear hd
      go_simp
    refine each_cons ?_ ?_
    · intro a W hW hd
      have h19 : a.tmps[19]?.getD undef = .pointer (some ⟨p, 0, none⟩) := slot_eq (hd 19 (by decide))
      refine grows_value _ hW (?_ : _ = _) rfl
      clear hd
      go_simp
    refine each_cons ?_ ?_
    · intro a W hW hd
      have h20 : a.tmps[20]?.getD undef = .pointer (some ⟨p, 0, none⟩) := slot_eq (hd 20 (by decide))
      have xx : W.cell? ⟨p, 0, none⟩ = some (.pointer (some ⟨pw, 0, none⟩)) := (hW.cell (p := ⟨p, 0, none⟩) HPL.out).trans xp0
      refine grows_value _ hW (?_ : _ = _) rfl
      clear hd
      go_simp
    refine each_cons ?_ ?_
    · intro a W hW hd
      have h0 : a.tmps[0]?.getD undef = .pointer (some ⟨p, 0, none⟩) := slot_eq (hd 0 (by decide))
      exact grows_value _ hW (by simp [execOp, Act.eval, h0]) rfl
    refine each_cons ?_ ?_
    · intro a W hW hd
      have h22 : a.tmps[22]?.getD undef = .pointer (some ⟨p, 0, none⟩) := slot_eq (hd 22 (by decide))
      refine grows_value _ hW (?_ : _ = _) rfl
      clear hd
      go_simp
    refine each_cons ?_ ?_
    · intro a W hW hd
      have h23 : a.tmps[23]?.getD undef = .pointer (some ⟨p, 0, none⟩) := slot_eq (hd 23 (by decide))
      refine grows_value _ hW (?_ : _ = _) rfl
      clear hd
      go_simp
    refine each_cons ?_ ?_
    · intro a W hW hd
      have h24 : a.tmps[24]?.getD undef = .pointer (some ⟨p, 6, none⟩) := slot_eq (hd 24 (by decide))
      have xx : W.cell? ⟨p, 6, none⟩ = some (.slice (some ⟨b, 0, none⟩) n c) := (hW.cell (p := ⟨p, 6, none⟩) HPL.out).trans xp6
      refine grows_value _ hW (?_ : _ = _) rfl
      clear hd
      go_simp
    refine each_cons ?_ ?_
    · intro a W hW hd
      have h5 : a.tmps[5]?.getD undef = .pointer (some ⟨e5, 0, none⟩) := slot_eq (hd 5 (by decide))
      refine grows_value _ hW (?_ : _ = _) rfl
      clear hd
      go_simp
    refine each_cons ?_ ?_
    · intro a W hW hd
      have h26 : a.tmps[26]?.getD undef = .pointer (some ⟨e5, 1, none⟩) := slot_eq (hd 26 (by decide))
      have xx : W.cell? ⟨e5, 1, none⟩ = some (.int .u32 (x : Int)) := (hW.cell (p := ⟨e5, 1, none⟩) HRL.out).trans xe51
      refine grows_value _ hW (?_ : _ = _) rfl
      clear hd
      go_simp
    refine each_cons ?_ ?_
    · intro a W hW hd
      have h25 : a.tmps[25]?.getD undef = .slice (some ⟨b, 0, none⟩) n c := slot_eq (hd 25 (by decide))
      have h27 : a.tmps[27]?.getD undef = .int .u32 (x : Int) := slot_eq (hd 27 (by decide))
      refine grows_value _ hW (?_ : _ = _) rfl
      clear hd
      go_simp
    refine each_cons ?_ ?_
    · intro a W hW hd
      have h28 : a.tmps[28]?.getD undef = .pointer (some ⟨b, x * 42, none⟩) := slot_eq (hd 28 (by decide))
      refine grows_value _ hW (?_ : _ = _) rfl
      clear hd
      go_simp
    refine each_cons ?_ ?_
    · intro a W hW hd
      have h29 : a.tmps[29]?.getD undef = .pointer (some ⟨b, x * 42, none⟩) := slot_eq (hd 29 (by decide))
      have xx0 : W.cell? ⟨b, x * 42, none⟩ = some (.int .i64 (i : Int)) := (hW.cell (p := ⟨b, x * 42, none⟩) HBL.out).trans xb0
      have xx1 : W.cell? ⟨b, x * 42 + 1, none⟩ = some (.int .u64 (k : Int)) := (hW.cell (p := ⟨b, x * 42 + 1, none⟩) HBL.out).trans xb1
      refine grows_value _ hW (?_ : _ = _) rfl
      clear hd
      go_simp
    exact each_nil
  · refine behind_val rfl ?_
    refine behind_val rfl ?_
    refine behind_val rfl ?_
    refine behind_val rfl ?_
    refine behind_val rfl ?_
    refine behind_val rfl ?_
    refine behind_val rfl ?_
    refine behind_val rfl ?_
    refine behind_val rfl ?_
    refine behind_val rfl ?_
    refine behind_val rfl ?_
    refine behind_val rfl ?_
    refine behind_val rfl ?_
    refine behind_nil fun W5 hCW5 hFW5 => ?_
    simp only [Act.put, List.setIfInBounds_toArray, List.set_cons_succ, List.set_cons_zero, List.drop_succ_cons, List.drop_zero]
    clear hFW5 xp0 xp6 xe51 xb0 xb1
    have HX5 := Lib.hid (HX3.out.step hCW5)
    have HM5 : Hid (W5.heap[e5]? = some (.cells #[.int .u64 (H : Int), .int .u32 (x : Int)] 99 (0, 0))) := Lib.hid ((hCW5.block _ (lt_heap HM3.out)).trans HM3.out)
    have HE5 : Hid (ExtG (FF p b A B) (FF p b A B) w W5) := Lib.hid (ExtG.of_below (HB3.out.trans (hCW5.mono HB3.out.size)))
    clear hCW5 HX3 HM3 HB3
    go_upto_region 7 with (first
      | (go_at_call 44
         refine (HCA.out _ HX5.out).mono ?_
         rintro e u6 ⟨rfl, A', hx, he⟩
         have HX6 := Lib.hid hx
         have HM6 : Hid (u6.heap[e5]? = some (.cells #[.int .u64 (H : Int), .int .u32 (x : Int)] 99 (0, 0))) := Lib.hid ((he.kept.block e5 (lt_heap HM5.out) fun q => absurd (HRF.out _ q) (by have := HZ3.out; omega)).trans HM5.out)
         have HE6 : Hid (ExtG (FF p b A B) (FF p b A' B) w u6) := Lib.hid (HE5.out.trans he)
         clear hx he))
    clear HX5 HM5 HE5
    have hi0 := blk_cell HM6.out 0
    go_wp2_with (first
      | (refine wpList_load_roww rfl 99 (.tmp 5) rfl e5 rfl 99 #[.int .u64 (H : Int), .int .u32 (x : Int)] (0, 0) _ HM6.out Tryz.underlying99 rfl (by kernel_rfl) ?_)
      | (go_at_call 45
         refine (fforget_any HX6.out HGO.out HHL.out HXN.out HN6.out).mono ?_
         rintro e u7 ⟨rfl, B', hx, he⟩
         have HX7 := Lib.hid hx
         have HE7 := Lib.hid (HE6.out.trans he)
         clear hx he))
    go_ret
    exact ⟨rfl, A', B', HX7.out, HE7.out⟩
end
end Go.Proofs.YtimcdnbfdkpffaaGreat
