import Derived.Test.YtimcdnbfdkpffaaGreatGm40
import Derived.Test.YtimcdnbfdkpffaaGreatGm19
import Derived.Test.YtimcdnbfdkpffaaGreatGm15
import Derived.Test.YtimcdnbfdkpffaaGreatGm36
import Derived.Test.YtimcdnbfdkpffaaGreatGm37
import Derived.Test.YtimcdnbfdkpffaaGreatGm38
import Derived.Test.YtimcdnbfdkpffaaGreatGm39
/- Stage 16: the landed flows: Tick. -/
namespace Go.Proofs.YtimcdnbfdkpffaaGreat
set_option maxRecDepth 100000
open Go.RowKit Go.Shelf
theorem Tryz.infoFW : (Tryz.prog.info? 59).map (fun i => (i.zero, i.size, i.bytes)) = some (some (.agg flz), 41, 96) := by kernel_rfl
theorem own_kept {w v : World} {base size : Nat} {e : TypeId} {B : Option Addr} {n d : Nat} {f : Nat → Value} {F : Nat → Prop} (h : OwnC w base e size B n d f) (hn : ∀ k, Value.ownBlock (.slice B n d) = some k → ¬ F k) (hk : Kept F w v) : OwnC v base e size B n d f :=
  (own_beside h hn (F' := F) ⟨fun _ q => .inl q, hk⟩).1
section
variable {w w' : World} {p pw pg b n c o1 o2 o3 o4 : Nat} {l : List Fr} {W : Wh} {G : Gr} {A B : Nat → Prop}
theorem FX.own (h : FX w p pw pg b n c o1 o2 o3 o4 l W G A B) {row : Option Nat} (hg : w.grownBy w' row) (hn : ∀ k, row = some k → ¬ FF p b A B k) : FX w' p pw pg b n c o1 o2 o3 o4 l W G A B :=
  h.keep (R := fun k => row = some k) (Kept.grownBy hg fun _ e => e) fun k hk e => hn k e hk
theorem ext_grown {F F' : Nat → Prop} {v w w' : World} (h : ExtG F F' v w) {row : Option Nat} (hg : w.grownBy w' row) (hn : ∀ k, row = some k → v.heap.size ≤ k) : ExtG F F' v w' :=
  ⟨fun k q => by
    rcases h.sub k q with r | r
    · exact .inl r
    · exact .inr ⟨r.1, Nat.lt_of_lt_of_le r.2 hg.size⟩, ⟨hg.os.trans h.kept.os, hg.tape.trans h.kept.tape, hg.output.trans h.kept.output, Nat.le_trans h.kept.size hg.size, fun k hk hf => (hg.block k (Nat.lt_of_lt_of_le hk h.kept.size) fun e => by
      have := hn k e.symm
      omega).trans (h.kept.block k hk hf)⟩⟩
/-- A call on the wheel that tells of the wheel's blocks. -/
theorem FX.callQ {P : Program} {fn : FuncId} {args : Array Value} {W' : Wh} {Q : Ending → World → (Nat → Prop) → Prop} (h : FX w p pw pg b n c o1 o2 o3 o4 l W G A B) (hc : Calls P fn args w fun e w' => ∃ A', Q e w' A' ∧ PW w' pw W' A' ∧ Ext A A' w w') :
    Calls P fn args w fun e w' => ∃ A', Q e w' A' ∧ FX w' p pw pg b n c o1 o2 o3 o4 l W' G A' B ∧ ExtG (FF p b A B) (FF p b A' B) w w' := by
  refine hc.mono ?_
  rintro e w' ⟨A', hq, hp, hx⟩
  refine ⟨A', hq, ⟨(hx.kept.block p h.pold fun a => (h.duo.xa p a).2 (.inl rfl)).trans h.blk, h.row.block (hx.kept.block b h.bold fun a => (h.duo.xa b a).2 (.inr rfl)), ⟨hp, footPG0.keep h.duo.b hx.kept fun k q a => (h.duo.xa k a).1 q, fun k q => ?_, h.duo.xb, fun k q => Nat.lt_of_lt_of_le (h.duo.xo k q) hx.kept.size⟩⟩, fun k q => ?_, hx.kept.mono fun _ _ q => .inr (.inl q)⟩
  · rcases hx.sub k q with r | r
    · exact h.duo.xa k r
    · exact ⟨fun b => absurd (footPG0.old h.duo.b k b) (by omega), fun x => absurd (h.duo.xo k x) (by omega)⟩
  · rcases q with q | q | q
    · exact .inl (.inl q)
    · rcases hx.sub k q with r | r
      · exact .inl (.inr (.inl r))
      · exact .inr r
    · exact .inl (.inr (.inr q))
set_option maxHeartbeats 4000000 in
theorem ftick_any {s : Fl} {m : Nat} (h : FX w p pw pg b n c o1 o2 o3 o4 s.l (s.w.re (Fl.hf s.l)) s.g A B) (hs : s.Fit m) (hm : m < 4611686018427387904) (hl : s.w.a.has.length = n) :
    Calls Tryz.prog 14 #[.pointer (some ⟨p, 0, none⟩)] w fun e w' => ∃ E dE, e = .returned (.tuple #[.slice E s.out.length dE, .int .i64 0]) ∧ OwnC w' w.heap.size 59 41 E s.out.length dE (rwc 41 Fr.c s.out) ∧ ∃ A' B', FX w' p pw pg b n c o1 o2 o3 o4 s.tick.l (s.tick.w.re (Fl.hf s.l)) s.tick.g A' B' ∧ ExtG (FF p b A B) (FF p b A' B') w w' ∧ ∀ k : Nat, E.map (fun a : Addr => a.block) = some k → ¬ FF p b A' B' k := by
  have hok := hs.ok
  obtain ⟨ht1, ht2, ht3, ht4, ht5⟩ := Fl.told_facts hok
  obtain ⟨ts, hts⟩ : ∃ ts, ts = s.w.told := ⟨_, rfl⟩
  have hTW := fun V (hV : FX V p pw pg b n c o1 o2 o3 o4 s.l (s.w.re (Fl.hf s.l)) s.g A B) => pw_tick hV.duo.a (Wh.re_fit hs.w (Fl.hf s.l))
  rw [Wh.re_told, Wh.re_tick, show (s.w.re (Fl.hf s.l)).tickE = s.w.tickE from rfl, ht5] at hTW
  rw [← hts] at hTW ht1 ht2
  have hkg := fun j => Fl.gones_kg hok.ni hok.g _ (ts.take j) rfl (ht1.sublist ((List.take_sublist j ts).map _)) fun t ht => hok.all t ((ht2 t).1 (List.mem_of_mem_take ht)).1
  have HRL := Lib.hid fun j (hj : j ≤ ts.length) => ((hkg j).2.trans (by rw [List.length_take]; omega) : (Fl.rows s.l (ts.take j)).length = j)
  have HGK := Lib.hid fun j => (hkg j).1.ok
  have HOUT : Hid (s.out = Fl.rows s.l ts ∧ s.tick.l = Fl.gones s.l ts ∧ s.tick.g = Fl.dropG s.g (Fl.rows s.l ts)) := Lib.hid (by
    rw [hts]
    exact ⟨rfl, rfl, rfl⟩)
  have HOL : Hid (s.out.length = ts.length) := Lib.hid (by
    have := (hkg ts.length).2
    rw [List.take_length] at this
    rw [HOUT.out.1, this])
  obtain ⟨W1, hW1⟩ : ∃ W1, W1 = s.tick.w.re (Fl.hf s.l) := ⟨_, rfl⟩
  obtain ⟨now, hnow⟩ : ∃ k, k = s.w.now + 1 := ⟨_, rfl⟩
  have HWN : Hid (W1.now = now) := Lib.hid (by
    rw [hW1, hnow]
    show s.w.tick.now = _
    rw [ht3]
    rfl)
  have HT : Hid (∀ j, j < ts.length → ∃ (t : Tm) (r : Fr), ts[j]? = some t ∧ r ∈ s.l ∧ r.i = t.i ∧ r.k = t.k ∧ r.due = now ∧ t.i < n ∧ Fl.hf s.l t.i = r.t.h ∧ Fl.ix s.l t.i = some r ∧ ts.take (j + 1) = ts.take j ++ [t] ∧ prow (Fl.gones s.l (ts.take j)) t.i = r.pc) := Lib.hid fun j hj => by
    have hm : ts[j] ∈ ts := List.getElem_mem hj
    obtain ⟨q1, q2⟩ := (ht2 _).1 hm
    obtain ⟨r, r1, r2, r3, r4⟩ := hok.row q1
    obtain ⟨_, _, _, r5⟩ := hok.live r1
    have hix := Fl.ix_mem hok.ni r1
    rw [r2] at hix
    have hni : ∀ t, t ∈ ts.take j → t.i ≠ r.i := fun t ht e => by
      obtain ⟨i, hi, e2⟩ := List.getElem_of_mem ht
      rw [List.length_take] at hi
      rw [List.getElem_take] at e2
      have h1 : (ts.map Tm.i)[i]'(by rw [List.length_map]; omega) = (ts.map Tm.i)[j]'(by rw [List.length_map]; exact hj) := by
        rw [List.getElem_map, List.getElem_map, e2, e, r2]
      have := (List.getElem_inj ht1).1 h1
      omega
    refine ⟨ts[j], r, List.getElem?_eq_getElem hj, r1, r2, r3, by rw [r4, q2, hnow], by omega, by rw [← r2]; exact Fl.hf_mem hok.ni r1, hix, by rw [List.take_succ_eq_append_getElem hj], ?_⟩
    unfold prow
    have := Fl.ix_mem (Fl.gones_nd (ts.take j) hok.ni) ((Fl.gones_mem _ _ _).2 ⟨r1, hni⟩)
    rw [r2] at this
    rw [this]
  have hlen : ts.length ≤ n := by
    have h1 : ts.length ≤ s.w.l.length := by
      rw [hts, ht4]
      exact List.length_filter_le _ _
    have h2 := hok.w.cnt
    have h3 : s.w.a.count ≤ s.w.a.has.length := Ar.count_le s.w.a
    omega
  have HLN := Lib.hid hlen
  have HN6 : Hid (n ≤ 65536) := Lib.hid (by have := hok.c; omega)
  have HX := Lib.hid h
  have HTW : Hid (∀ V, FX V p pw pg b n c o1 o2 o3 o4 s.l (s.w.re (Fl.hf s.l)) s.g A B → Calls Tryz.prog 46 #[.pointer (some ⟨pw, 0, none⟩)] V fun e w' => ∃ E dE, e = .returned (.tuple #[.slice E ts.length dE, .int .i64 0]) ∧ OwnC w' V.heap.size 108 3 E ts.length dE (rwc 3 fev (ts.map (Wh.reT (Fl.hf s.l)))) ∧ ∃ A1, FX w' p pw pg b n c o1 o2 o3 o4 s.l W1 s.g A1 B ∧ ExtG (FF p b A B) (FF p b A1 B) V w' ∧ ∀ k, Value.ownBlock (.slice E ts.length dE) = some k → ¬ FF p b A1 B k) := Lib.hid fun V hV => by
    have hc : Calls Tryz.prog 46 #[.pointer (some ⟨pw, 0, none⟩)] V fun e w' => ∃ A', (∃ E dE, e = .returned (.tuple #[.slice E ts.length dE, .int .i64 0]) ∧ OwnC w' V.heap.size 108 3 E ts.length dE (rwc 3 fev (ts.map (Wh.reT (Fl.hf s.l)))) ∧ ∀ k, Value.ownBlock (.slice E ts.length dE) = some k → ¬ A' k) ∧ PW w' pw W1 A' ∧ Ext A A' V w' := by
      refine (hTW V hV).mono ?_
      rintro e w' ⟨E, dE, he, ho, A', hp, hx, hn⟩
      rw [List.length_map] at he ho hn
      rw [hW1]
      exact ⟨A', ⟨E, dE, he, ho, hn⟩, hp, hx⟩
    refine (hV.callQ hc).mono ?_
    rintro e w' ⟨A1, ⟨E, dE, he, ho, hn⟩, hx, hg⟩
    refine ⟨E, dE, he, ho, A1, hx, hg, fun k e hk => ?_⟩
    have h1 := (World.ownsRow.lt ho k e).1
    rcases hk with q | q | q
    · exact absurd (hV.old k (.inl q)) (by omega)
    · exact hn k e q
    · exact absurd (hV.old k (.inr (.inr q))) (by omega)
  have HW1E := Lib.hid hW1
  clear hW1 h hs hok ht2 ht3 ht4 ht5 hTW hkg ht1 hlen hl hm
  obtain ⟨i0, hi0, hz0, hz1, hz2⟩ := info_parts Tryz.infoFW
  have HI0 := Lib.hid hi0
  have HZ0 := Lib.hid hz0
  have HZ1 := Lib.hid hz1
  have HZ2 := Lib.hid hz2
  have HI42 : Hid ((Tryz.prog.info? 97).map (·.size) = some 42) := Lib.hid (by kernel_rfl)
  rw [HOL.out]
  clear hi0 hz0 hz1 hz2 hts hnow
  go_enter Tryz.func14, Tryz.ntmps14
  go_upto_region 3 with (first
    | (go_at_call 39
       refine (fmade_c (blk_cell HX.out.blk 0)).mono ?_
       rintro e v1 ⟨rfl, hb⟩
       have HB1 := Lib.hid hb
       have HX1 := Lib.hid (HX.out.step hb)
       clear hb))
  have xp0 : v1.cell? ⟨p, 0, none⟩ = some (.pointer (some ⟨pw, 0, none⟩)) := blk_cell HX1.out.blk 0
  go_wp2_with (first
    | (go_at_call 46
       refine (HTW.out _ HX1.out).mono ?_
       rintro e v2 ⟨EF, dF, rfl, hfo, A1, hx, he, hnf⟩
       have HX2 := Lib.hid hx
       have HE2 : Hid (ExtG (FF p b A B) (FF p b A1 B) w v2) := Lib.hid ((ExtG.of_below HB1.out).trans he)
       have HFO := Lib.hid (hfo.le (base' := w.heap.size) HB1.out.size)
       have HFN := Lib.hid hnf
       have HFB : Hid (∀ k, Value.ownBlock (.slice EF ts.length dF) = some k → k < v2.heap.size) := Lib.hid fun k e => (World.ownsRow.lt hfo k e).2
       clear hx he hfo hnf xp0 HX1 HB1))
  go_loopw [6, 25] (fun vo vi wr => ∃ (j : Nat) (Eo : Option Addr) (co : Nat) (Bj : Nat → Prop), j ≤ ts.length ∧ vi = .int .i64 (j : Int) ∧ vo = .slice Eo j co ∧ OwnC wr v2.heap.size 59 41 Eo j co (rwc 41 Fr.c (Fl.rows s.l (ts.take j))) ∧ FX wr p pw pg b n c o1 o2 o3 o4 (Fl.gones s.l (ts.take j)) W1 (Fl.dropG s.g (Fl.rows s.l (ts.take j))) A1 Bj ∧ ExtG (FF p b A1 B) (FF p b A1 Bj) v2 wr ∧ (∀ k, Value.ownBlock (.slice Eo j co) = some k → ¬ FF p b A1 Bj k) ∧ OwnC wr w.heap.size 108 3 EF ts.length dF (rwc 3 fev (ts.map (Wh.reT (Fl.hf s.l))))) (fun _ vi _ => ts.length - (intOf vi).toNat)
  case atStart => exact ⟨0, none, 0, B, Nat.zero_le _, rfl, rfl, OwnC.nil_ _ _ _ _ _, HX2.out, ExtG.refl _ _, fun k e => (by cases e), HFO.out⟩
  case round =>
    obtain ⟨j, Eo, co, Bj, hj, rfl, rfl, ho, hx, he, hne, hf⟩ := hrel
    have HO3 := Lib.hid ho
    have HX3 := Lib.hid hx
    have HE3 := Lib.hid he
    have HNE := Lib.hid hne
    have HF3 := Lib.hid hf
    have hlen := HLN.out
    have hn6 := HN6.out
    by_cases hjl : j < ts.length
    · obtain ⟨t, r, htj, hr1, hr2, hr3, hr4, hr5, hr6, hr7, hr8, hr9⟩ := HT.out j hjl
      have HJ := Lib.hid hjl
      have HTK := Lib.hid hr8
      have HIX := Lib.hid hr7
      have HRL1 := Lib.hid (HRL.out j hj)
      have HGO := Lib.hid (HGK.out j)
      obtain ⟨x, hxe⟩ : ∃ x, x = t.i := ⟨_, rfl⟩
      obtain ⟨kx, hke⟩ : ∃ x, x = t.k := ⟨_, rfl⟩
      obtain ⟨wx, hwe⟩ : ∃ x, x = r.t.h := ⟨_, rfl⟩
      have HTI := Lib.hid hxe.symm
      have HWE := Lib.hid hwe.symm
      have HXI : Hid (r.i = x) := Lib.hid (hr2.trans hxe.symm)
      have HWX : Hid (wx < 18446744073709551616) := Lib.hid (by rw [hwe]; exact Tp.h_lt _)
      have HXN : Hid (x < n) := Lib.hid (by rw [hxe]; exact hr5)
      have hevt : (fev (Wh.reT (Fl.hf s.l) t)) = #[.int .i64 (x : Int), .int .u64 (kx : Int), .int .u64 (wx : Int)] := by
        unfold fev Wh.reT
        rw [hxe, hke, hwe, hr6]
      obtain ⟨gF, hgF, _, hgl, hcl, _⟩ := hf.lies (by omega)
      have hmt : (ts.map (Wh.reT (Fl.hf s.l)))[j]? = some (Wh.reT (Fl.hf s.l) t) := by rw [List.getElem?_map, htj]; rfl
      have xf0 : wr.cell? ⟨gF, j * 3, none⟩ = some (.int .i64 (x : Int)) := by
        rw [show j * 3 = j * 3 + 0 from rfl, hcl (j * 3 + 0) (by omega), rwc_at hmt (by decide), hevt]
        rfl
      have xf1 : wr.cell? ⟨gF, j * 3 + 1, none⟩ = some (.int .u64 (kx : Int)) := by
        rw [hcl (j * 3 + 1) (by omega), rwc_at hmt (by decide), hevt]
        rfl
      have xf2 : wr.cell? ⟨gF, j * 3 + 2, none⟩ = some (.int .u64 (wx : Int)) := by
        rw [hcl (j * 3 + 2) (by omega), rwc_at hmt (by decide), hevt]
        rfl
      obtain ⟨C, hC⟩ : ∃ C, C = r.pc := ⟨_, rfl⟩
      obtain ⟨R, hR⟩ : ∃ R, R = Fr.c r := ⟨_, rfl⟩
      have HRE := Lib.hid hR.symm
      have HCS : Hid (C.size = 42) := Lib.hid (by rw [hC]; exact pc_size r)
      have HRS : Hid (R.size = 41) := Lib.hid (by rw [hR]; exact flc_size r)
      have HRO : Hid (R.all (·.oneCell') = true) := Lib.hid (by rw [hR]; exact flc_one r)
      have HPR : Hid (prow (Fl.gones s.l (ts.take j)) x = C) := Lib.hid (by rw [hxe, hC]; exact hr9)
      have HFL : Hid (∀ V, Calls Tryz.prog 47 #[.agg C, .int .u64 (now : Int)] V (ret (.agg R) V)) := Lib.hid fun V => by
        have h1 := fflow_any r now V
        rw [← hr4] at h1
        rw [hC, hR, ← hr4]
        exact h1
      have HNW : Hid (∀ V, FX V p pw pg b n c o1 o2 o3 o4 (Fl.gones s.l (ts.take j)) W1 (Fl.dropG s.g (Fl.rows s.l (ts.take j))) A1 Bj → Calls Tryz.prog 48 #[.pointer (some ⟨pw, 0, none⟩)] V (ret (.int .u64 (now : Int)) V)) := Lib.hid fun V hV => by
        rw [← HWN.out]
        exact pw_now hV.duo.a
      have hbs : ∀ V : World, (Instr.buildSlice 47 1 #[(0, .agg R)]).run Tryz.prog V = .ok (.slice (some ⟨V.heap.size, 0, none⟩) 1 1) (V.alloc (.cells R 59)) := fun V => by
        rw [hR]
        kernel_rfl
      have a0 : (0 : Int) ≤ (j : Int) := by omega
      have a1 : (j : Int) < (ts.length : Int) := by omega
      have a2 : ((j : Int)).toNat = j := by omega
      have b0 : (0 : Int) ≤ (x : Int) := by omega
      have b1 : (x : Int) < (n : Int) := by have := HXN.out; omega
      have b2 : ((x : Int)).toNat = x := by omega
      have zc : IntKind.u32.wrap (x : Int) = (x : Int) := by have := HXN.out; rw [IntKind.wrap_u32]; omega
      have za : IntKind.i64.wrap ((j : Int) + 1) = (j : Int) + 1 := by rw [IntKind.wrap_i64]; omega
      have HN4 : Hid ((wr.alloc (.cells #[.int .i64 0, .int .u64 0, .int .u64 0] 108)).heap[wr.heap.size]? = some (.cells #[.int .i64 0, .int .u64 0, .int .u64 0] 108 (0, 0))) := Lib.hid (heap_alloc_new wr _)
      subst hgF
      clear ho hx he hne hf hj hjl htj hr1 hr2 hr3 hr4 hr5 hr6 hr7 hr8 hr9 hxe hke hwe hevt hgl hcl hmt hC hR
      go_upto_region 10 with fail
      change Code.wp _ _ _ _ (wr.alloc (.cells #[.int .i64 (x : Int), .int .u64 (kx : Int), .int .u64 (wx : Int)] 108))
      have HB4 : Hid (Below wr.heap.size wr (wr.alloc (.cells #[.int .i64 (x : Int), .int .u64 (kx : Int), .int .u64 (wx : Int)] 108))) := Lib.hid (below_alloc wr _)
      have HM4 : Hid ((wr.alloc (.cells #[.int .i64 (x : Int), .int .u64 (kx : Int), .int .u64 (wx : Int)] 108)).heap[wr.heap.size]? = some (.cells #[.int .i64 (x : Int), .int .u64 (kx : Int), .int .u64 (wx : Int)] 108 (0, 0))) := Lib.hid (heap_alloc_new wr _)
      have HX4 := Lib.hid (HX3.out.step HB4.out)
      have HE4 := Lib.hid (HE3.out.trans (ExtG.of_below HB4.out))
      have HO4 := Lib.hid (HO3.out.below HB4.out)
      have HF4 := Lib.hid (HF3.out.below HB4.out)
      clear HX3 HE3 HO3 HF3 HN4 HB4 xf0 xf1 xf2
      generalize wr.alloc (.cells #[.int .i64 (x : Int), .int .u64 (kx : Int), .int .u64 (wx : Int)] 108) = v4 at *
      generalize wr.heap.size = e8 at *
      have xp0 : v4.cell? ⟨p, 0, none⟩ = some (.pointer (some ⟨pw, 0, none⟩)) := blk_cell HX4.out.blk 0
      have xp6 : v4.cell? ⟨p, 6, none⟩ = some (.slice (some ⟨b, 0, none⟩) n c) := blk_cell HX4.out.blk 6
      have xe0 : v4.cell? ⟨e8, 0, none⟩ = some (.int .i64 (x : Int)) := blk_cell HM4.out 0
      have HRG : Hid (v4.rangeAt b (x * 42) C.toList) := Lib.hid (HX4.out.rng HXN.out 0 C (by rw [HCS.out]; decide) fun i hi => by rw [HPR.out, Nat.zero_add])
      have HPL : Hid (p < v4.heap.size) := Lib.hid HX4.out.pold
      have HBL : Hid (b < v4.heap.size) := Lib.hid HX4.out.bold
      have HRL : Hid (e8 < v4.heap.size) := Lib.hid (lt_heap HM4.out)
      refine wp_region_grow (C := fun W => Below v4.heap.size v4 W) 17 58 [val (.slice Eo j co), val (.pointer (some ⟨p, 0, none⟩)), val (.pointer (some ⟨p, 0, none⟩)), val (.pointer (some ⟨p, 6, none⟩)), val (.slice (some ⟨b, 0, none⟩) n c), val (.pointer (some ⟨e8, 0, none⟩)), val (.pointer (some ⟨e8, 0, none⟩)), val (.int .i64 (x : Int)), val (.pointer (some ⟨b, x * 42, none⟩)), val (.agg C), val (.pointer (some ⟨p, 0, none⟩)), val (.pointer (some ⟨p, 0, none⟩)), val (.pointer (some ⟨p, 0, none⟩)), val (.pointer (some ⟨pw, 0, none⟩)), val (.int .u64 (now : Int)), val (.agg R), fun v W => ∃ z, v = .slice (some ⟨z, 0, none⟩) 1 1 ∧ W.heap[z]? = some (.cells R 59 (0, 0)) ∧ v4.heap.size ≤ z] (by kernel_rfl) rfl (by kernel_rfl) rfl ⟨stb_val _, stb_val _, stb_val _, stb_val _, stb_val _, stb_val _, stb_val _, stb_val _, stb_val _, stb_val _, stb_val _, stb_val _, stb_val _, stb_val _, stb_val _, stb_val _, (fun v W W' h hb => by obtain ⟨z, h1, h2, h3⟩ := h; exact ⟨z, h1, (hb.block _ (lt_heap h2)).trans h2, h3⟩), trivial⟩ (Below.refl _ _).drew ?_ ?_
      · refine each_cons ?_ ?_
        · intro a W hW hd
          have h6 : a.tmps[6]?.getD undef = .slice Eo j co := slot_eq (hd 6 (by decide))
          exact grows_value _ hW (by simp [execOp, Act.eval, h6]) rfl
        refine each_cons ?_ ?_
        · intro a W hW hd
          have h0 : a.tmps[0]?.getD undef = .pointer (some ⟨p, 0, none⟩) := slot_eq (hd 0 (by decide))
          exact grows_value _ hW (by simp [execOp, Act.eval, h0]) rfl
        refine each_cons ?_ ?_
        · intro a W hW hd
          have h30 : a.tmps[30]?.getD undef = .pointer (some ⟨p, 0, none⟩) := slot_eq (hd 30 (by decide))
          refine grows_value _ hW (?_ : _ = _) rfl
          clear hd
          go_simp
        refine each_cons ?_ ?_
        · intro a W hW hd
          have h31 : a.tmps[31]?.getD undef = .pointer (some ⟨p, 0, none⟩) := slot_eq (hd 31 (by decide))
          refine grows_value _ hW (?_ : _ = _) rfl
          clear hd
          go_simp
        refine each_cons ?_ ?_
        · intro a W hW hd
          have h32 : a.tmps[32]?.getD undef = .pointer (some ⟨p, 6, none⟩) := slot_eq (hd 32 (by decide))
          have xx : W.cell? ⟨p, 6, none⟩ = some (.slice (some ⟨b, 0, none⟩) n c) := (hW.cell (p := ⟨p, 6, none⟩) HPL.out).trans xp6
          refine grows_value _ hW (?_ : _ = _) rfl
          clear hd
          go_simp
        refine each_cons ?_ ?_
        · intro a W hW hd
          have h8 : a.tmps[8]?.getD undef = .pointer (some ⟨e8, 0, none⟩) := slot_eq (hd 8 (by decide))
          refine grows_value _ hW (?_ : _ = _) rfl
          clear hd
          go_simp
        refine each_cons ?_ ?_
        · intro a W hW hd
          have h34 : a.tmps[34]?.getD undef = .pointer (some ⟨e8, 0, none⟩) := slot_eq (hd 34 (by decide))
          refine grows_value _ hW (?_ : _ = _) rfl
          clear hd
          go_simp
        refine each_cons ?_ ?_
        · intro a W hW hd
          have h35 : a.tmps[35]?.getD undef = .pointer (some ⟨e8, 0, none⟩) := slot_eq (hd 35 (by decide))
          have xx : W.cell? ⟨e8, 0, none⟩ = some (.int .i64 (x : Int)) := (hW.cell (p := ⟨e8, 0, none⟩) HRL.out).trans xe0
          refine grows_value _ hW (?_ : _ = _) rfl
          clear hd
          go_simp
        refine each_cons ?_ ?_
        · intro a W hW hd
          have h33 : a.tmps[33]?.getD undef = .slice (some ⟨b, 0, none⟩) n c := slot_eq (hd 33 (by decide))
          have h36 : a.tmps[36]?.getD undef = .int .i64 (x : Int) := slot_eq (hd 36 (by decide))
          refine grows_value _ hW (?_ : _ = _) rfl
          clear hd
          go_simp
        refine each_cons ?_ ?_
        · intro a W hW hd
          have h37 : a.tmps[37]?.getD undef = .pointer (some ⟨b, x * 42, none⟩) := slot_eq (hd 37 (by decide))
          have hld := run_loadVar_mid (P := Tryz.prog) W b (x * 42) 97 C.toList _ (fun j v hv => (hW.cell (p := ⟨b, x * 42 + j, none⟩) HBL.out).trans (HRG.out j v hv)) Tryz.underlying97 rfl (HI42.out.trans (by rw [Array.length_toList, HCS.out]))
          refine grows_value _ hW (?_ : _ = _) rfl
          clear hd
          simp only [execOp, Act.eval, Array.getD_eq_getD_getElem?, h37, Instr.loadAt, Instr.sureAddr, Sem.run_bind, Sem.run_pure, Result.andThen_ok, hld]
        refine each_cons ?_ ?_
        · intro a W hW hd
          have h0 : a.tmps[0]?.getD undef = .pointer (some ⟨p, 0, none⟩) := slot_eq (hd 0 (by decide))
          exact grows_value _ hW (by simp [execOp, Act.eval, h0]) rfl
        refine each_cons ?_ ?_
        · intro a W hW hd
          have h39 : a.tmps[39]?.getD undef = .pointer (some ⟨p, 0, none⟩) := slot_eq (hd 39 (by decide))
          refine grows_value _ hW (?_ : _ = _) rfl
          clear hd
          go_simp
        refine each_cons ?_ ?_
        · intro a W hW hd
          have h40 : a.tmps[40]?.getD undef = .pointer (some ⟨p, 0, none⟩) := slot_eq (hd 40 (by decide))
          refine grows_value _ hW (?_ : _ = _) rfl
          clear hd
          go_simp
        refine each_cons ?_ ?_
        · intro a W hW hd
          have h41 : a.tmps[41]?.getD undef = .pointer (some ⟨p, 0, none⟩) := slot_eq (hd 41 (by decide))
          have xx : W.cell? ⟨p, 0, none⟩ = some (.pointer (some ⟨pw, 0, none⟩)) := (hW.cell (p := ⟨p, 0, none⟩) HPL.out).trans xp0
          refine grows_value _ hW (?_ : _ = _) rfl
          clear hd
          go_simp
        refine each_cons ?_ ?_
        · intro a W hW hd
          have h42 : a.tmps[42]?.getD undef = .pointer (some ⟨pw, 0, none⟩) := slot_eq (hd 42 (by decide))
          refine grows_call (fn := 48) (args := #[.pointer (some ⟨pw, 0, none⟩)]) (by clear hd; go_simp) ?_
          refine (HNW.out W (HX4.out.step hW)).mono ?_
          rintro e w' ⟨rfl, hb⟩
          exact ⟨_, rfl, rfl, hb, hW.trans (hb.mono hW.size)⟩
        refine each_cons ?_ ?_
        · intro a W hW hd
          have h38 : a.tmps[38]?.getD undef = .agg C := slot_eq (hd 38 (by decide))
          have h43 : a.tmps[43]?.getD undef = .int .u64 (now : Int) := slot_eq (hd 43 (by decide))
          refine grows_call (fn := 47) (args := #[.agg C, .int .u64 (now : Int)]) (by clear hd; go_simp) ?_
          refine (HFL.out W).mono ?_
          rintro e w' ⟨rfl, hb⟩
          exact ⟨_, rfl, rfl, hb, hW.trans (hb.mono hW.size)⟩
        refine each_cons ?_ ?_
        · intro a W hW hd
          have h44 : a.tmps[44]?.getD undef = .agg R := slot_eq (hd 44 (by decide))
          refine grows_new (w' := W.alloc (.cells R 59)) (.slice (some ⟨W.heap.size, 0, none⟩) 1 1) (?_ : _ = _) ⟨W.heap.size, rfl, heap_alloc_new W _, hW.size⟩ (below_alloc W _) (hW.alloc hW.size _)
          have hb := hbs W
          clear hd
          simp only [execOp, Act.eval, Array.getD_eq_getD_getElem?, h44, Sem.run_bind, List.map_toArray, List.map_cons, List.map_nil, hb, Result.andThen_ok]
          rfl
        exact each_nil
      · refine behind_val rfl ?_
        refine behind_val rfl ?_
        refine behind_val rfl ?_
        refine behind_val rfl ?_
        refine behind_val rfl ?_
        refine behind_val rfl ?_
        refine behind_val rfl ?_
        refine behind_val rfl ?_
        refine behind_val rfl ?_
        refine behind_val rfl ?_
        refine behind_val rfl ?_
        refine behind_val rfl ?_
        refine behind_val rfl ?_
        refine behind_val rfl ?_
        refine behind_val rfl ?_
        refine behind_val rfl ?_
        refine behind_cons fun v45 => ?_
        refine behind_nil fun W5 hCW5 hFW5 => ?_
        simp only [Act.put, List.setIfInBounds_toArray, List.set_cons_succ, List.set_cons_zero, List.drop_succ_cons, List.drop_zero]
        obtain ⟨_, z, rfl, hz, hzl⟩ := hFW5
        clear xp0 xp6 xe0 hbs
        have HX5 := Lib.hid (HX4.out.step hCW5)
        have HE5 := Lib.hid (HE4.out.trans (ExtG.of_below hCW5))
        have HM5 := Lib.hid ((hCW5.block e8 (lt_heap HM4.out)).trans HM4.out)
        have HO5 := Lib.hid (HO4.out.below hCW5)
        have HF5 := Lib.hid (HF4.out.below hCW5)
        have HZB := Lib.hid hz
        have HSZ5 := Lib.hid HE5.out.kept.size
        clear hCW5 hz hzl HX4 HE4 HM4 HO4 HF4 HPL HBL HRL
        go_upto_region 11 with (first
          | (at_builtin
             refine wpList_append_vals rfl (.tmp 29) (.tmp 45) 47 rfl v2.heap.size 59 i0 (.agg flz) 41 Tryz.underlying47 HI0.out HZ0.out HZ1.out (by show flz.size = 41; rfl) (by decide) rfl HO5.out (m := 1) (A' := some ⟨z, 0, none⟩) (B := W5.heap.size) (g := fun k => R.getD k undef) rfl (.inr ⟨z, 0, rfl, lt_heap HZB.out, fun k hk => ?_⟩) (fun k hk => getD_one HRO.out (by rw [HRS.out]; omega)) (by unfold maxLen; omega) (by rw [HZ2.out]; omega) HSZ5.out ?_
             · rw [Nat.zero_add, blk_cell HZB.out k]
               show R[k]? = some (R.getD k undef)
               rw [Array.getD_eq_getD_getElem?, Array.getElem?_eq_getElem (by rw [HRS.out]; omega)]
               rfl
             intro E6 d6 v6 hown hg hbk
             have HO6 := Lib.hid hown
             have HX6 := Lib.hid (HX5.out.own hg HNE.out)
             have HE6 := Lib.hid (ext_grown HE5.out hg HO5.out.at_)
             have HF6 := Lib.hid (own_grown HF5.out hg fun k e => rows_apart HF5.out HO5.out (by decide) e)
             have HM6 := Lib.hid ((hg.block e8 (lt_heap HM5.out) (own_other HO5.out HM5.out (by decide))).trans HM5.out)
             have HNE6 : Hid (∀ k, Value.ownBlock (.slice E6 (j + 1) d6) = some k → ¬ FF p b A1 Bj k) := Lib.hid fun k e hF => by
               rcases hbk with e2 | e2
               · exact HNE.out k (e2.symm.trans e) hF
               · rw [e] at e2
                 injection e2 with e2
                 have := HX5.out.old k hF
                 omega
             clear hown hg hbk HX5 HE5 HF5 HM5 HO5 HNE HZB))
        have xe2 : v6.cell? ⟨e8, 2, none⟩ = some (.int .u64 (wx : Int)) := blk_cell HM6.out 2
        have xe0 : v6.cell? ⟨e8, 0, none⟩ = some (.int .i64 (x : Int)) := blk_cell HM6.out 0
        go_upto_region 12 with (first
          | (go_at_call 45
             refine (fforget_any HX6.out HGO.out HWX.out HXN.out HN6.out).mono ?_
             rintro e v7 ⟨rfl, B7, hx, he⟩
             have HX7 := Lib.hid hx
             have HE7 := Lib.hid (HE6.out.trans he)
             have HO7 := Lib.hid (own_kept HO6.out HNE6.out he.kept)
             have HF7 := Lib.hid (own_kept HF6.out (fun k e hF => HFN.out k e (by
               rcases HE6.out.sub k hF with r | r
               · exact r
               · have := (World.ownsRow.lt HF6.out k e).2
                 exact absurd r.1 (by have := HFB.out k e; omega))) he.kept)
             have HNE7 : Hid (∀ k, Value.ownBlock (.slice E6 (j + 1) d6) = some k → ¬ FF p b A1 B7 k) := Lib.hid fun k e hF => by
               rcases he.sub k hF with r | r
               · exact HNE6.out k e r
               · have := (World.ownsRow.lt HO6.out k e).2
                 omega
             clear hx he HX6 HE6 HO6 HF6 HM6 HNE6 xe0 xe2))
        go_wp2_with fail
        go_roundw
        case rel =>
          refine ⟨j + 1, E6, d6, B7, by have := HJ.out; omega, by go_num, rfl, ?_, ?_, ?_, HNE7.out, HF7.out⟩
          · rw [HTK.out, Fl.rows_snoc s.l _ HIX.out]
            refine HO7.out.same fun k hk => ?_
            have h1 := rwc_snoc (sz := 41) (by decide) Fr.c (Fl.rows s.l (ts.take j)) r k (by rw [HRL1.out]; exact hk)
            rw [h1, HRL1.out, HRE.out]
          · rw [HTK.out, Fl.rows_snoc s.l _ HIX.out, Fl.gones_snoc, Fl.dropG_snoc, HTI.out, HWE.out, HXI.out]
            exact HX7.out
          · exact HE7.out
        case measure =>
          have := HJ.out
          simp [intOf]
          omega
    · obtain rfl : j = ts.length := by omega
      have a1 : ¬ (ts.length : Int) < (ts.length : Int) := by omega
      rw [List.take_length] at ho hx
      have HO5 := Lib.hid ho
      have HX5 := Lib.hid hx
      clear ho hx he hne hf hj hjl HO3 HX3
      go_wp2_with fail
      go_ret2
      refine ⟨Eo, co, rfl, by rw [HOUT.out.1]; exact HO5.out.le HE2.out.kept.size, A1, Bj, by rw [HOUT.out.2.1, HOUT.out.2.2, ← HW1E.out]; exact HX5.out, HE2.out.trans HE3.out, fun k e => HNE.out k.block (by rw [e]; rfl)⟩
end
end Go.Proofs.YtimcdnbfdkpffaaGreat
/- Stage 16: the landed flows are flows that the laws speak of. -/
namespace Go.Proofs.YtimcdnbfdkpffaaGreat
set_option maxRecDepth 100000
open Go.RowKit Go.Shelf
theorem pc_upd (r : Fr) (st due : Nat) : (⟨r.t, r.p, st, due, r.i, r.k⟩ : Fr).pc = r.pc.setIfInBounds 41 (.int .u8 (st : Int)) := by
  have h2 : r.pc = (#[.int .i64 (r.i : Int), .int .u64 (r.k : Int)] ++ r.t.c) ++ #[.string r.p.v, .string r.p.n, .int .u64 (r.p.life : Int), .int .u8 (r.st : Int)] := rfl
  have h1 : (⟨r.t, r.p, st, due, r.i, r.k⟩ : Fr).pc = (#[.int .i64 (r.i : Int), .int .u64 (r.k : Int)] ++ r.t.c) ++ #[.string r.p.v, .string r.p.n, .int .u64 (r.p.life : Int), .int .u8 (st : Int)] := rfl
  rw [h1, h2, Array.setIfInBounds_append, if_neg (by rw [pc_38 r]; decide), pc_38 r]
  rfl
theorem laid_2 (R : Array Value) (a b x y : Value) : laid (#[a, b] ++ R) 0 [x, y] = #[x, y] ++ R := by
  show ((#[a, b] ++ R).setIfInBounds 0 x).setIfInBounds 1 y = _
  rw [Array.setIfInBounds_append, if_pos (by show 0 < 2; decide), Array.setIfInBounds_append, if_pos (by show 1 < 2; decide)]
  rfl
theorem pc_app (t : Tp) (q : Pn) (st due i k : Nat) : Fr.pc ⟨t, q, st, due, i, k⟩ = #[.int .i64 (i : Int), .int .u64 (k : Int)] ++ (t.c ++ #[.string q.v, .string q.n, .int .u64 (q.life : Int), .int .u8 (st : Int)]) := Array.append_assoc ..
theorem pc_laid (t : Tp) (q : Pn) (st due i k : Nat) : laid (Fr.pc ⟨t, q, st, 0, 0, 0⟩) 0 [.int .i64 (i : Int), .int .u64 (k : Int)] = Fr.pc ⟨t, q, st, due, i, k⟩ := by
  rw [pc_app, pc_app, laid_2]
theorem hf_upd (l : List Fr) (x st due : Nat) : Fl.hf (Fl.upd l x st due) = Fl.hf l := funext fun y => by
  unfold Fl.hf
  rw [ix_upd]
  cases Fl.ix l y with
  | none => rfl
  | some r =>
    show (if r.i == x then (⟨r.t, r.p, st, due, r.i, r.k⟩ : Fr) else r).t.h = r.t.h
    rw [Fl.upd_f.2.1]
theorem prow_upd {l : List Fr} {r : Fr} (hix : Fl.ix l r.i = some r) (st due y : Nat) : prow (Fl.upd l r.i st due) y = if y = r.i then (prow l r.i).setIfInBounds 41 (.int .u8 (st : Int)) else prow l y := by
  unfold prow
  rw [ix_upd]
  by_cases e : y = r.i
  · rw [if_pos e, e, hix]
    show (if r.i == r.i then (⟨r.t, r.p, st, due, r.i, r.k⟩ : Fr) else r).pc = _
    rw [beq_self_eq_true, if_pos rfl]
    exact pc_upd r st due
  · rw [if_neg e]
    cases h : Fl.ix l y with
    | none => rfl
    | some q =>
      show (if q.i == r.i then (⟨q.t, q.p, st, due, q.i, q.k⟩ : Fr) else q).pc = q.pc
      rw [(Fl.ix_some h).2, beq_eq_false_iff_ne.2 e]
      rfl
theorem re_sub {s : Fl} (h : s.Ok) {l : List Fr} (hn : (l.map Fr.i).Nodup) (hs : ∀ r, r ∈ s.l → r ∈ l) : s.w.re (Fl.hf l) = s.w.re (Fl.hf s.l) := Wh.re_same _ fun t ht => by
  obtain ⟨r, hr, e⟩ := h.all t ht
  rw [← e, Fl.hf_mem hn (hs r hr), Fl.hf_mem h.ni hr]
theorem pf0_mk {w : World} {p pw pg b n c : Nat} {s : Fl} {W : Wh} {A B : Nat → Prop} (h : FX w p pw pg b n c s.o1 s.o2 s.o3 s.o4 s.l W s.g A B) (hn : s.w.a.has.length = n) (hW : W = s.w.re (Fl.hf s.l)) : PF0 w p s (FF p b A B) := by
  subst hn
  subst hW
  exact ⟨pw, pg, b, c, A, B, h, rfl⟩
theorem ok_lt {s : Fl} (h : s.Ok) : ∀ r, r ∈ s.l → r.i < s.w.a.has.length := fun r hr => (h.live hr).2.2.2
section
variable {w : World} {p : Nat} {s : Fl} {F : Nat → Prop} {m : Nat}
theorem pf_find_some {V : World} {pw pg b c : Nat} {A B : Nat → Prop} (h : s.Ok) {t : Tp} (ht : t.Ok) {r : Fr} (hr : r ∈ s.l) (hrt : r.t = t) (hV : FX V p pw pg b s.w.a.has.length c s.o1 s.o2 s.o3 s.o4 s.l (s.w.re (Fl.hf s.l)) s.g A B) :
    Calls Tryz.prog 43 #[.pointer (some ⟨p, 0, none⟩), .agg t.c] V (ret (.tuple #[.agg #[.int .u64 (t.h : Int), .int .u32 (r.i : Int)], .bool true]) V) := ffind_some hV h.g (ok_lt h) h.ni h.t h.nt ht hr hrt
theorem pf_find_none {V : World} {pw pg b c : Nat} {A B : Nat → Prop} (h : s.Ok) {t : Tp} (ht : t.Ok) (hr : s.get t = none) (hV : FX V p pw pg b s.w.a.has.length c s.o1 s.o2 s.o3 s.o4 s.l (s.w.re (Fl.hf s.l)) s.g A B) :
    Calls Tryz.prog 43 #[.pointer (some ⟨p, 0, none⟩), .agg t.c] V (ret (.tuple #[.agg #[.int .u64 (t.h : Int), .int .u32 ((0 : Nat) : Int)], .bool false]) V) := ffind_none hV h.g (ok_lt h) h.ni h.t ht ((Fl.get_none h ht).1 hr)
theorem pf_left (h : PF0 w p s F) (hs : s.Fit m) : Calls Tryz.prog 19 #[.pointer (some ⟨p, 0, none⟩)] w (ret (.int .i64 (s.g.left : Int)) w) := by
  obtain ⟨pw, pg, b, c, A, B, hx, rfl⟩ := h
  exact fleft_any hx hs.ok.g.ok
theorem pf_move (h : PF0 w p s F) (hs : s.Fit m) (n : Int) (hn : n < 9223372036854775808) : Calls Tryz.prog 18 #[.pointer (some ⟨p, 0, none⟩), .int .i64 n] w fun e w' => e = .returned (.int .i64 (Fl.mvN n.toNat s.g : Int)) ∧ ∃ F', PF0 w' p (s.mov n.toNat) F' ∧ ExtG F F' w w' := by
  obtain ⟨pw, pg, b, c, A, B, hx, rfl⟩ := h
  refine (fmove_any hx hs.ok.g (fun x _ => Fl.hf_lt s.l x) n hn).mono ?_
  rintro e w' ⟨rfl, B', hx', he⟩
  exact ⟨rfl, _, pf0_mk (s := s.mov n.toNat) hx' rfl rfl, he⟩
theorem pf_get (h : PF0 w p s F) (hs : s.Fit m) (t : Tp) (ht : t.Ok) : Calls Tryz.prog 20 #[.pointer (some ⟨p, 0, none⟩), .agg t.c] w (ret (.tuple #[s.getV t, .bool (s.get t).isSome]) w) := by
  obtain ⟨pw, pg, b, c, A, B, hx, rfl⟩ := h
  have hok := hs.ok
  unfold Fl.getV
  cases hg : s.get t with
  | none => exact fget_no hx (Tp.c_size t) fun V hV => pf_find_none hok ht hg hV
  | some r =>
    obtain ⟨hr, hrt⟩ := Fl.get_some hok ht hg
    obtain ⟨u, hu, u1, u2, u3⟩ := hok.ent r hr
    obtain ⟨l1, _⟩ := hok.live hr
    obtain ⟨u', hu', v1, v2, v3⟩ := Wh.live_ent hok.w l1
    obtain rfl := Wh.one_of hok.w.nd hu hu' (by omega)
    have hpr : prow s.l r.i = r.pc := by
      unfold prow
      rw [Fl.ix_mem hok.ni hr]
    have hc := fget_yes (due := r.due) hx (Tp.c_size t) (ok_lt hok r hr) hpr (fun V hV => pf_find_some hok ht hr hrt hV) fun V hV => by
      have h1 := pw_due hV.duo.a (Wh.re_fit hs.w (Fl.hf s.l)) (r.i : Int) r.k
      have e1 : (s.w.re (Fl.hf s.l)).due (r.i : Int) r.k = #[.int .u64 (r.due : Int), .bool true] := by
        rw [Wh.re_due]
        unfold Wh.due
        rw [v3, ← u3]
      rwa [e1] at h1
    exact hc
theorem pf_end (h : PF0 w p s F) (hs : s.Fit m) (t : Tp) (ht : t.Ok) : Calls Tryz.prog 13 #[.pointer (some ⟨p, 0, none⟩), .agg t.c] w fun e w' => e = .returned (.int .i64 (s.endE t)) ∧ ∃ F', PF0 w' p (s.endd t) F' ∧ ExtG F F' w w' := by
  obtain ⟨pw, pg, b, c, A, B, hx, rfl⟩ := h
  have hok := hs.ok
  cases hg : s.get t with
  | none =>
    have e1 : s.endE t = 7 := by unfold Fl.endE; rw [hg]
    have e2 : s.endd t = s := by unfold Fl.endd; rw [hg]
    rw [e1, e2]
    refine (fend_no hx (Tp.c_size t) fun V hV => pf_find_none hok ht hg hV).mono ?_
    rintro e w' ⟨rfl, hb⟩
    exact ⟨rfl, _, pf0_mk (hx.step hb) rfl rfl, ExtG.of_below hb⟩
  | some r =>
    have e1 : s.endE t = 0 := by unfold Fl.endE; rw [hg]
    have e2 : s.endd t = ⟨Fl.rem s.l r.i, s.w.cancel (r.i : Int) r.k, s.g.dr r.t.h r.i, s.o1, s.o2, s.o3, s.o4⟩ := by unfold Fl.endd; rw [hg]
    have hok' := Fl.ok_endd hok ht
    rw [e2] at hok'
    rw [e1, e2]
    obtain ⟨hr, hrt⟩ := Fl.get_some hok ht hg
    obtain ⟨c1, _⟩ := Fl.cancel_eq hok hr
    have hpr : prow s.l r.i = r.pc := by
      unfold prow
      rw [Fl.ix_mem hok.ni hr]
    have hc9 := hok.c
    refine (fend_yes (x := r.i) (i := r.i) (k := r.k) (H := t.h) hx hok.g.ok (Tp.c_size t) (Tp.h_lt t) (ok_lt hok r hr) (by omega) (by rw [hpr, Array.getD_eq_getD_getElem?, (pc_0 r).1]; rfl) (by rw [hpr, Array.getD_eq_getD_getElem?, (pc_0 r).2]; rfl) (fun V hV => pf_find_some hok ht hr hrt hV) fun V hV => hV.callW (pw_cancel hV.duo.a (Wh.re_fit hs.w (Fl.hf s.l)) (r.i : Int) r.k)).mono ?_
    rintro e w' ⟨rfl, A', B', hx', he⟩
    rw [← hrt] at hx'
    refine ⟨rfl, _, pf0_mk (s := ⟨Fl.rem s.l r.i, s.w.cancel (r.i : Int) r.k, s.g.dr r.t.h r.i, s.o1, s.o2, s.o3, s.o4⟩) hx' ?_ ?_, he⟩
    · show (s.w.cancel (r.i : Int) r.k).a.has.length = _
      rw [c1]
      exact List.length_set
    · rw [Wh.re_cancel]
      exact re_sub hok' hok.ni fun q hq => (Fl.mem_rem.1 hq).1
theorem pf_touch (h : PF0 w p s F) (hs : s.Fit m) (t : Tp) (st : Nat) (ht : t.Ok) (hst : st < 256) : Calls Tryz.prog 21 #[.pointer (some ⟨p, 0, none⟩), .agg t.c, .int .u8 (st : Int)] w fun e w' => e = .returned (.int .i64 (s.touE t st)) ∧ ∃ F', PF0 w' p (s.tou t st) F' ∧ ExtG F F' w w' := by
  obtain ⟨pw, pg, b, c, A, B, hx, rfl⟩ := h
  have hok := hs.ok
  by_cases hm : fsM st = true
  · cases hg : s.get t with
    | none =>
      have e1 : s.touE t st = 7 := by unfold Fl.touE; rw [if_pos hm, hg]
      have e2 : s.tou t st = s := by unfold Fl.tou; rw [if_pos hm, hg]
      rw [e1, e2]
      refine (ftouch_no hx (Tp.c_size t) hst hm fun V hV => pf_find_none hok ht hg hV).mono ?_
      rintro e w' ⟨rfl, hb⟩
      exact ⟨rfl, _, pf0_mk (hx.step hb) rfl rfl, ExtG.of_below hb⟩
    | some r =>
      have e1 : s.touE t st = 0 := by unfold Fl.touE; rw [if_pos hm, hg]
      have e2 : s.tou t st = ⟨Fl.upd s.l r.i st (s.dueN st), s.w.again (r.i : Int) r.k (s.dueN st), s.g, s.o1, s.o2, s.o3, s.o4⟩ := by unfold Fl.tou; rw [if_pos hm, hg]
      rw [e1, e2]
      obtain ⟨hr, hrt⟩ := Fl.get_some hok ht hg
      obtain ⟨u, hu, u1, u2, g1, g2⟩ := Fl.again_eq hok hr hm
      obtain ⟨o1, o2, o3, o4⟩ := hok.over hm
      have hix := Fl.ix_mem hok.ni hr
      have hpr : prow s.l r.i = r.pc := by
        unfold prow
        rw [hix]
      have hk := (hok.tk hm).2
      refine (ftouch_yes (x := r.i) (i := r.i) (k := r.k) (D := s.dueN st) (l' := Fl.upd s.l r.i st (s.dueN st)) (W' := (s.w.re (Fl.hf s.l)).again (r.i : Int) r.k (s.dueN st)) hx (Tp.c_size t) hst hm (ok_lt hok r hr) (by rw [hpr, Array.getD_eq_getD_getElem?, (pc_0 r).1]; rfl) (by rw [hpr, Array.getD_eq_getD_getElem?, (pc_0 r).2]; rfl) (fun V hV => pf_find_some hok ht hr hrt hV) (fun V hV => fends_any hV hst o3 (by show s.tk st < _; omega)) (fun V hV => ?_) fun y => prow_upd hix st (s.dueN st) y).mono ?_
      · have h1 := pw_again hV.duo.a (Wh.re_fit hs.w (Fl.hf s.l)) (r.i : Int) r.k (s.dueN st) o3
        rw [show (s.w.re (Fl.hf s.l)).againE (r.i : Int) r.k (s.dueN st) = s.w.againE (r.i : Int) r.k (s.dueN st) from rfl, g2] at h1
        exact hV.callW h1
      · rintro e w' ⟨rfl, A', hx', he⟩
        refine ⟨rfl, _, pf0_mk (s := ⟨Fl.upd s.l r.i st (s.dueN st), s.w.again (r.i : Int) r.k (s.dueN st), s.g, s.o1, s.o2, s.o3, s.o4⟩) hx' ?_ ?_, he⟩
        · show (s.w.again (r.i : Int) r.k (s.dueN st)).a.has.length = _
          rw [g1]
        · rw [Wh.re_again, hf_upd]
  · have hm : fsM st = false := by simpa using hm
    have e1 : s.touE t st = 2 := by unfold Fl.touE; rw [hm]; rfl
    have e2 : s.tou t st = s := by unfold Fl.tou; rw [hm]; rfl
    rw [e1, e2]
    refine (ftouch_bad hx hst hm).mono ?_
    rintro e w' ⟨rfl, hb⟩
    exact ⟨rfl, _, pf0_mk (hx.step hb) rfl rfl, ExtG.of_below hb⟩
theorem pf_tick (h : PF0 w p s F) (hs : s.Fit m) (hm : m < 4611686018427387904) : Calls Tryz.prog 14 #[.pointer (some ⟨p, 0, none⟩)] w fun e w' => ∃ E dE, e = .returned (.tuple #[.slice E s.out.length dE, .int .i64 0]) ∧ OwnC w' w.heap.size 59 41 E s.out.length dE (rwc 41 Fr.c s.out) ∧ ∃ F', PF0 w' p s.tick F' ∧ ExtG F F' w w' ∧ ∀ k, E.map (·.block) = some k → ¬ F' k := by
  obtain ⟨pw, pg, b, c, A, B, hx, rfl⟩ := h
  have hok := hs.ok
  have hn := hs.now
  have hok' := Fl.ok_tick hok (by omega)
  refine (ftick_any hx hs hm rfl).mono ?_
  rintro e w' ⟨E, dE, rfl, ho, A', B', hx', he, hk⟩
  refine ⟨E, dE, rfl, ho, _, pf0_mk (s := s.tick) hx' ?_ (re_sub hok' hok.ni fun q hq => ((Fl.gones_mem _ _ _).1 hq).1), he, hk⟩
  obtain ⟨_, _, h3, _⟩ := Fl.told_facts hok
  obtain ⟨f1, f2, _⟩ := Wh.fires_facts hok.w
  show s.w.tick.a.has.length = _
  rw [h3]
  exact (goneL_facts _ _ hok.w.a f1 f2).2.2.2.2
set_option maxHeartbeats 2000000 in
theorem pf_pin (h : PF0 w p s F) (hs : s.Fit m) (hm9 : m < 4611686018427387904) (t : Tp) (q : Pn) (st : Nat) (ht : t.Ok) (hst : st < 256) : Calls Tryz.prog 16 #[.pointer (some ⟨p, 0, none⟩), .agg t.c, .agg q.c, .int .u8 (st : Int)] w fun e w' => e = .returned (.int .i64 (s.pinE t st)) ∧ ∃ F', PF0 w' p (s.pin t q st) F' ∧ ExtG F F' w w' := by
  obtain ⟨pw, pg, b, c, A, B, hx, rfl⟩ := h
  have hok := hs.ok
  by_cases hm : fsM st = true
  · cases hg : s.get t with
    | some r =>
      have e1 : s.pinE t st = 8 := by unfold Fl.pinE; rw [if_pos hm, hg]
      have e2 : s.pin t q st = s := by unfold Fl.pin; rw [if_pos hm, hg]
      obtain ⟨hr, hrt⟩ := Fl.get_some hok ht hg
      rw [e1, e2]
      refine (fpin_twice hx (Tp.c_size t) hst hm fun V hV => pf_find_some hok ht hr hrt hV).mono ?_
      rintro e w' ⟨rfl, hb⟩
      exact ⟨rfl, _, pf0_mk (hx.step hb) rfl rfl, ExtG.of_below hb⟩
    | none =>
      obtain ⟨o1, o2, o3, o4⟩ := hok.over hm
      obtain ⟨a1, a2, a3⟩ := hok.arm hm
      have hk := (hok.tk hm).2
      have hc9 := hok.c
      have hbd : ∀ V : World, (Instr.build 97 #[(1, .agg t.c), (2, .agg q.c), (3, .int .u8 (st : Int))]).run Tryz.prog V = .ok (.agg (Fr.pc ⟨t, q, st, 0, 0, 0⟩)) V := fun V => by kernel_rfl
      have hen := fun V A' (hV : FX V p pw pg b s.w.a.has.length c s.o1 s.o2 s.o3 s.o4 s.l (s.w.re (Fl.hf s.l)) s.g A' B) => fends_any hV hst o3 (by show s.tk st < _; omega)
      have hst5 : (Fr.pc ⟨t, q, st, 0, 0, 0⟩)[41]? = some (.int .u8 (st : Int)) := by
        have h1 := pc_s ⟨t, q, st, 0, 0, 0⟩
        rw [Array.getD_eq_getD_getElem?, Array.getElem?_eq_getElem (by rw [pc_size]; decide)] at h1
        have h1 : (Fr.pc ⟨t, q, st, 0, 0, 0⟩)[41]'(by rw [pc_size]; decide) = .int .u8 (st : Int) := h1
        rw [Array.getElem?_eq_getElem (by rw [pc_size]; decide), h1]
      cases hw : s.w.a.which with
      | none =>
        rw [hw] at a1 a2 a3
        have e1 : s.pinE t st = 9 := by unfold Fl.pinE; rw [if_pos hm, hg, hw]
        have e2 : s.pin t q st = s := by unfold Fl.pin; rw [if_pos hm, hg, hw]
        rw [e1, e2]
        refine (fpin_on (Wr := s.w.re (Fl.hf s.l)) (Gr := s.g) (lr := s.l) (res := 9) hx (Tp.c_size t) rfl hst hm (fun V hV => pf_find_none hok ht hg hV) hbd fun V hV => fbegin_any (W1 := s.w.re (Fl.hf s.l)) (D := s.dueN st) (hi := 0) (hk := 0) (er := 9) (i := 0) (C6 := pz) hV (pc_size _) hst5 hen (fun V' A' hV' => ?_) (.inl ⟨rfl, rfl, rfl, rfl, rfl⟩)).mono ?_
        · have h1 := pw_arm hV'.duo.a (Wh.re_fit hs.w (Fl.hf s.l)) (s.dueN st) t.h o3
          rw [show (s.w.re (Fl.hf s.l)).armE (s.dueN st) = s.w.armE (s.dueN st) from rfl, show (s.w.re (Fl.hf s.l)).armH (s.dueN st) = s.w.armH (s.dueN st) from rfl, a1, a2, Wh.re_arm s.w (f := Fl.hf s.l) (g := Fl.hf s.l) (fun _ _ => rfl) (fun i e => by rw [hw] at e; cases e), a3] at h1
          exact hV'.callW h1
        · rintro e w' ⟨rfl, A', B', hx', he⟩
          exact ⟨rfl, _, pf0_mk hx' rfl rfl, he⟩
      | some i =>
        rw [hw] at a1 a2 a3
        obtain ⟨hf1, hf2⟩ := Fl.fresh_i hok hw
        have hil := Ar.which_lt hok.w.a hw
        obtain ⟨r, hr⟩ : ∃ r : Fr, r = ⟨t, q, st, s.dueN st, i, s.w.a.serial + 1⟩ := ⟨_, rfl⟩
        have hri : r.i = i := by rw [hr]
        have hrt : r.t = t := by rw [hr]
        have hix : Fl.ix s.l r.i = none := by rw [hri]; exact Fl.ix_none.2 hf1
        have hpi : Fl.pf s.l i = false := by
          unfold Fl.pf
          rw [← hri, hix]
          rfl
        have hnd : ((s.l ++ [r]).map Fr.i).Nodup := by
          rw [List.map_append, List.nodup_append]
          refine ⟨hok.ni, by simp, fun a ha b hb e => ?_⟩
          obtain ⟨q, hq, rfl⟩ := List.mem_map.1 ha
          have hb := List.mem_singleton.1 hb
          exact hf1 q hq (by rw [e, hb, hri])
        have hfn : Fl.hf (s.l ++ [r]) i = t.h := by
          rw [← hri, Fl.hf_mem hnd (List.mem_append_right _ (List.mem_singleton.2 rfl)), hrt]
        have hfo : ∀ u, u ∈ s.w.l → Fl.hf (s.l ++ [r]) u.i = Fl.hf s.l u.i := fun u hu => by
          obtain ⟨x, hx, e⟩ := hok.all u hu
          rw [← e, Fl.hf_mem hnd (List.mem_append_left _ hx), Fl.hf_mem hok.ni hx]
        have hput := (hok.g.re (g := Fl.hf (s.l ++ [r])) fun x hx => by
          obtain ⟨y, hy, rfl⟩ := Fl.pf_iff.1 hx
          rw [Fl.hf_mem hnd (List.mem_append_left _ hy), Fl.hf_mem hok.ni hy]).put (x := i) (by omega) (by rw [hfn]; exact Tp.h_lt t) hpi
        rw [hfn] at hput
        have hpe := hput.1
        have hwi : ∀ j, s.w.a.which = some j → Fl.hf (s.l ++ [r]) j = t.h := fun j e => by
          have e : i = j := Option.some.inj (hw.symm.trans e)
          rw [← e]
          exact hfn
        have harm : ∀ V' A', FX V' p pw pg b s.w.a.has.length c s.o1 s.o2 s.o3 s.o4 s.l (s.w.re (Fl.hf s.l)) s.g A' B → Calls Tryz.prog 97 #[.pointer (some ⟨pw, 0, none⟩), .int .u64 (s.dueN st : Int), .int .u64 (t.h : Int)] V' fun e V2 => e = .returned (.tuple #[.agg #[.int .i64 (i : Int), .int .u64 ((s.w.a.serial : Int) + 1)], .int .i64 0]) ∧ ∃ A2, FX V2 p pw pg b s.w.a.has.length c s.o1 s.o2 s.o3 s.o4 s.l ((s.w.arm (s.dueN st) 0).re (Fl.hf (s.l ++ [r]))) s.g A2 B ∧ ExtG (FF p b A' B) (FF p b A2 B) V' V2 := fun V' A' hV' => by
          have h1 := pw_arm hV'.duo.a (Wh.re_fit hs.w (Fl.hf s.l)) (s.dueN st) t.h o3
          rw [show (s.w.re (Fl.hf s.l)).armE (s.dueN st) = s.w.armE (s.dueN st) from rfl, show (s.w.re (Fl.hf s.l)).armH (s.dueN st) = s.w.armH (s.dueN st) from rfl, a1, a2, Wh.re_arm s.w (f := Fl.hf s.l) (g := Fl.hf (s.l ++ [r])) (at_ := s.dueN st) (what := t.h) hfo hwi] at h1
          exact hV'.callW h1
        have hlen : (s.w.arm (s.dueN st) 0).a.has.length = s.w.a.has.length := by
          rw [a3]
          exact List.length_set
        have hfit := Wh.fit_arm hs.w hm9 o3 0
        have hok' := Fl.ok_pin hok ht q st
        have hPU := fun V' A' (hV' : FX V' p pw pg b s.w.a.has.length c s.o1 s.o2 s.o3 s.o4 s.l ((s.w.arm (s.dueN st) 0).re (Fl.hf (s.l ++ [r]))) s.g A' B) => hV'.callG (groP.put hV'.duo.b hok.g.ok t.h i (Tp.h_lt t) (by omega))
        have e1 : s.pinE t st = s.g.ptE t.h := by unfold Fl.pinE; rw [if_pos hm, hg, hw]
        by_cases hp : s.g.ptE t.h = 0
        · have e2 : s.pin t q st = ⟨s.l ++ [r], s.w.arm (s.dueN st) 0, s.g.pt t.h i, s.o1, s.o2, s.o3, s.o4⟩ := by unfold Fl.pin; rw [if_pos hm, hg, hw, hr]; dsimp only; rw [if_pos hp]
          rw [e1, e2]
          rw [hp] at hPU ⊢
          refine (fpin_on (Wr := (s.w.arm (s.dueN st) 0).re (Fl.hf (s.l ++ [r]))) (Gr := s.g.pt t.h i) (lr := s.l ++ [r]) (res := 0) hx (Tp.c_size t) rfl hst hm (fun V hV => pf_find_none hok ht hg hV) hbd fun V hV => fbegin_any (D := s.dueN st) (i := i) (C6 := r.pc) hV (pc_size _) hst5 hen harm (.inr ⟨rfl, rfl, hil, by omega, hPU, .inr ⟨rfl, rfl, ?_, pc_size r, pc_one r, fun y => by rw [prow_app s.l r y hix, hri]⟩⟩)).mono ?_
          · rw [hr]
            exact pc_laid t q st (s.dueN st) i (s.w.a.serial + 1)
          · rintro e w' ⟨rfl, A', B', hx', he⟩
            exact ⟨rfl, _, pf0_mk (s := ⟨s.l ++ [r], s.w.arm (s.dueN st) 0, s.g.pt t.h i, s.o1, s.o2, s.o3, s.o4⟩) hx' hlen rfl, he⟩
        · have h9 := hpe.resolve_left hp
          have e2 : s.pin t q st = ⟨s.l, (s.w.arm (s.dueN st) 0).cancel (i : Int) (s.w.a.serial + 1), s.g.pt t.h i, s.o1, s.o2, s.o3, s.o4⟩ := by unfold Fl.pin; rw [if_pos hm, hg, hw]; dsimp only; rw [if_neg hp]
          rw [e2] at hok'
          rw [e1, e2]
          rw [h9] at hPU ⊢
          refine (fpin_on (Wr := ((s.w.arm (s.dueN st) 0).re (Fl.hf (s.l ++ [r]))).cancel (i : Int) (s.w.a.serial + 1)) (Gr := s.g.pt t.h i) (lr := s.l) (res := 9) hx (Tp.c_size t) rfl hst hm (fun V hV => pf_find_none hok ht hg hV) hbd fun V hV => fbegin_any (D := s.dueN st) (i := i) (C6 := r.pc) hV (pc_size _) hst5 hen harm (.inr ⟨rfl, rfl, hil, by omega, hPU, .inl ⟨rfl, rfl, fun V' A' B' hV' => ?_⟩⟩)).mono ?_
          · refine (hV'.callW (pw_cancel hV'.duo.a (Wh.re_fit hfit _) (i : Int) (s.w.a.serial + 1))).mono ?_
            rintro e V2 ⟨rfl, h2⟩
            exact ⟨_, rfl, h2⟩
          · rintro e w' ⟨rfl, A', B', hx', he⟩
            refine ⟨rfl, _, pf0_mk (s := ⟨s.l, (s.w.arm (s.dueN st) 0).cancel (i : Int) (s.w.a.serial + 1), s.g.pt t.h i, s.o1, s.o2, s.o3, s.o4⟩) hx' ?_ ?_, he⟩
            · show ((s.w.arm (s.dueN st) 0).cancel (i : Int) (s.w.a.serial + 1)).a.has.length = _
              unfold Wh.cancel
              split
              · exact List.length_set.trans hlen
              · exact hlen
            · rw [Wh.re_cancel]
              exact re_sub hok' hnd fun x hx => List.mem_append_left _ hx
  · have hm : fsM st = false := by simpa using hm
    have e1 : s.pinE t st = 2 := by unfold Fl.pinE; rw [hm]; rfl
    have e2 : s.pin t q st = s := by unfold Fl.pin; rw [hm]; rfl
    rw [e1, e2]
    refine (fpin_bad hx hst hm).mono ?_
    rintro e w' ⟨rfl, hb⟩
    exact ⟨rfl, _, pf0_mk (hx.step hb) rfl rfl, ExtG.of_below hb⟩
end
def gF : Nat := 62
theorem floP : FloP PF0 gF where
  foot := footPF0
  eg := fun _ _ => by kernel_rfl
  new_no := fun c m a b x d w _ _ _ _ h => fnew_no c m a b x d w h
  new := fun c m a b x d w _ _ _ _ h => fnew_yes c m a b x d w h
  pin := fun h hs hm t q st ht _ hst => pf_pin h hs hm t q st ht hst
  touch := fun h hs _ t st ht hst => pf_touch h hs t st ht hst
  end_ := fun h hs t ht => pf_end h hs t ht
  get := fun h hs t ht => pf_get h hs t ht
  tick := fun h hs hm => pf_tick h hs hm
  move := fun h hs n hn => pf_move h hs n hn
  left := fun h hs => pf_left h hs
end Go.Proofs.YtimcdnbfdkpffaaGreat
/- Stage 16: what FlowsLast keeps, in pure words. -/
namespace Go.Proofs.YtimcdnbfdkpffaaGreat
set_option maxRecDepth 100000
namespace Gr
theorem most_begun (g : Gr) : g.begun.most = g.most := by
  unfold begun
  split <;> rfl
theorem most_pt (g : Gr) (h x : Nat) : (g.pt h x).most = g.most := by
  unfold pt
  split
  · exact most_begun g
  · unfold laid
    split <;> exact most_begun g
theorem most_dr (g : Gr) (h x : Nat) : (g.dr h x).most = g.most := by
  unfold dr
  split
  · rfl
  · split
    · split <;> rfl
    · rfl
theorem most_st (g : Gr) : g.st.most = g.most := by
  unfold st
  split
  · have h : g.moved.most = g.most := by
      unfold moved
      split <;> rfl
    unfold on
    split <;> exact h
  · rfl
theorem Kg.left_le {f : Nat → Nat} {g : Gr} {P : Nat → Bool} (h : Kg f g P) : g.left ≤ g.most := by
  obtain ⟨A, B, h⟩ := h
  have := h.top
  unfold left
  split <;> omega
end Gr
namespace Fl
theorem most_mv : ∀ n (g : Gr), (mvG n g).most = g.most
  | 0, _ => rfl
  | n + 1, g => by
    unfold mvG
    split
    · rw [most_mv n, Gr.most_st]
    · rfl
theorem most_dropG : ∀ (rs : List Fr) (g : Gr), (dropG g rs).most = g.most
  | [], _ => rfl
  | r :: rs, g => by
    show (dropG (g.dr r.t.h r.i) rs).most = g.most
    rw [most_dropG rs, Gr.most_dr]
theorem most_pin (s : Fl) (t : Tp) (p : Pn) (st : Nat) : (s.pin t p st).g.most = s.g.most := by
  unfold pin
  split
  · split
    · rfl
    · split
      · rfl
      · split <;> exact Gr.most_pt ..
  · rfl
theorem most_endd (s : Fl) (t : Tp) : (s.endd t).g.most = s.g.most := by
  unfold endd
  split
  · rfl
  · exact Gr.most_dr ..
theorem most_tou (s : Fl) (t : Tp) (st : Nat) : (s.tou t st).g.most = s.g.most := by
  unfold tou
  split
  · split <;> rfl
  · rfl
theorem now_pin {s : Fl} (h : s.Ok) (t : Tp) (p : Pn) (st : Nat) : (s.pin t p st).w.now = s.w.now := by
  unfold pin
  by_cases hs : fsM st = true
  · rw [if_pos hs]
    obtain ⟨_, _, a3⟩ := h.arm hs
    cases s.get t with
    | some r => rfl
    | none =>
      cases hw : s.w.a.which with
      | none => rfl
      | some i =>
        rw [hw] at a3
        dsimp only
        split
        · show (s.w.arm (s.dueN st) 0).now = _
          rw [a3]
        · show ((s.w.arm (s.dueN st) 0).cancel _ _).now = _
          rw [cancel_now, a3]
  · rw [if_neg hs]
theorem now_endd (s : Fl) (t : Tp) : (s.endd t).w.now = s.w.now := by
  unfold endd
  split
  · rfl
  · exact cancel_now ..
theorem now_tou {s : Fl} (h : s.Ok) {t : Tp} (ht : t.Ok) (st : Nat) : (s.tou t st).w.now = s.w.now := by
  unfold tou
  by_cases hs : fsM st = true
  · rw [if_pos hs]
    cases hg : s.get t with
    | none => rfl
    | some r =>
      obtain ⟨hr, hrt⟩ := get_some h ht hg
      obtain ⟨u, hu, u1, u2, e1, e2⟩ := again_eq h hr hs
      show (s.w.again (r.i : Int) r.k (s.dueN st)).now = _
      rw [e1]
  · rw [if_neg hs]
theorem o1_pin (s : Fl) (t : Tp) (p : Pn) (st : Nat) : (s.pin t p st).o1 = s.o1 := by
  unfold pin
  split
  · split
    · rfl
    · split
      · rfl
      · split <;> rfl
  · rfl
theorem o1_endd (s : Fl) (t : Tp) : (s.endd t).o1 = s.o1 := by
  unfold endd
  split <;> rfl
theorem o1_tou (s : Fl) (t : Tp) (st : Nat) : (s.tou t st).o1 = s.o1 := by
  unfold tou
  split
  · split <;> rfl
  · rfl
theorem get_iff {s : Fl} (h : s.Ok) {t : Tp} (ht : t.Ok) {q : Fr} : s.get t = some q ↔ q ∈ s.l ∧ q.t = t :=
  ⟨fun e => get_some h ht e, fun ⟨h1, h2⟩ => by
    rw [← h2]
    exact get_mem h h1⟩
theorem get_same {s s' : Fl} (h : s.Ok) (h' : s'.Ok) {t : Tp} (ht : t.Ok) (hm : ∀ q : Fr, q.t = t → (q ∈ s'.l ↔ q ∈ s.l)) : s'.get t = s.get t := by
  refine Option.ext fun q => ?_
  rw [get_iff h' ht, get_iff h ht]
  exact ⟨fun ⟨h1, h2⟩ => ⟨(hm q h2).1 h1, h2⟩, fun ⟨h1, h2⟩ => ⟨(hm q h2).2 h1, h2⟩⟩
theorem get_pin {s : Fl} (h : s.Ok) {t t' : Tp} (ht : t.Ok) (ht' : t'.Ok) (hne : t' ≠ t) (p : Pn) (st : Nat) : (s.pin t' p st).get t = s.get t := by
  refine get_same h (ok_pin h ht' p st) ht fun q hq => ?_
  unfold pin
  split
  · split
    · exact Iff.rfl
    · split
      · exact Iff.rfl
      · split
        · show q ∈ s.l ++ [_] ↔ _
          rw [List.mem_append]
          refine ⟨fun e => ?_, .inl⟩
          rcases e with e | e
          · exact e
          · rw [List.mem_singleton.1 e] at hq
            exact absurd hq hne
        · exact Iff.rfl
  · exact Iff.rfl
theorem get_endd {s : Fl} (h : s.Ok) {t t' : Tp} (ht : t.Ok) (ht' : t'.Ok) (hne : t' ≠ t) : (s.endd t').get t = s.get t := by
  refine get_same h (ok_endd h ht') ht fun q hq => ?_
  unfold endd
  cases hg : s.get t' with
  | none => exact Iff.rfl
  | some r =>
    obtain ⟨hr, hrt⟩ := get_some h ht' hg
    show q ∈ rem s.l r.i ↔ _
    rw [mem_rem]
    refine ⟨fun e => e.1, fun e => ⟨e, fun e2 => hne ?_⟩⟩
    rw [← hrt, ← hq, one_i h.ni e hr e2]
theorem get_tick {s : Fl} (h : s.Ok) (hn : s.w.now < 4611686018427387904) {t : Tp} (ht : t.Ok) {q : Fr} : s.tick.get t = some q ↔ s.get t = some q ∧ q.due ≠ s.w.now + 1 := by
  obtain ⟨h1, h2, h3, h4, h5⟩ := told_facts h
  rw [get_iff (ok_tick h hn) ht, get_iff h ht]
  show (q ∈ gones s.l s.w.told ∧ _) ↔ _
  rw [gones_mem]
  refine ⟨fun ⟨⟨a, b⟩, c⟩ => ⟨⟨a, c⟩, fun e => ?_⟩, fun ⟨⟨a, c⟩, d⟩ => ⟨⟨a, fun u hu e => d ?_⟩, c⟩⟩
  · obtain ⟨u, hu, u1, u2, u3⟩ := h.ent q a
    exact b u ((h2 u).2 ⟨hu, u3.trans e⟩) u1
  · obtain ⟨hu1, hu2⟩ := (h2 u).1 hu
    obtain ⟨v, hv, v1, v2, v3⟩ := h.ent q a
    obtain rfl := Wh.one_of h.w.nd hv hu1 (v1.trans e.symm)
    rw [← v3, hu2]
theorem out_mem {s : Fl} (h : s.Ok) {q : Fr} : q ∈ s.out ↔ q ∈ s.l ∧ q.due = s.w.now + 1 := by
  obtain ⟨h1, h2, h3, h4, h5⟩ := told_facts h
  unfold out rows
  rw [List.mem_filterMap]
  refine ⟨fun ⟨u, hu, e⟩ => ?_, fun ⟨a, b⟩ => ?_⟩
  · obtain ⟨q1, q2⟩ := ix_some e
    obtain ⟨hu1, hu2⟩ := (h2 u).1 hu
    obtain ⟨v, hv, v1, v2, v3⟩ := h.ent q q1
    obtain rfl := Wh.one_of h.w.nd hv hu1 (v1.trans q2)
    exact ⟨q1, by rw [← v3, hu2]⟩
  · obtain ⟨u, hu, u1, u2, u3⟩ := h.ent q a
    exact ⟨u, (h2 u).2 ⟨hu, u3.trans b⟩, by rw [u1]; exact ix_mem h.ni a⟩
theorem out_len {s : Fl} (h : s.Ok) : s.out.length ≤ 256 := by
  obtain ⟨h1, h2, h3, h4, h5⟩ := told_facts h
  have a1 : s.out.length ≤ s.w.told.length := List.length_filterMap_le _ _
  have a2 := Wh.fires_facts h.w
  have a3 : s.w.l.length ≤ s.w.a.has.length := by
    rw [h.w.cnt]
    exact List.countP_le_length
  have a4 := h.c
  have a5 := a2.2.2
  rw [h4] at a1
  omega
theorem get_tou {s : Fl} (h : s.Ok) {t : Tp} (ht : t.Ok) {st : Nat} (hs : fsM st = true) {r : Fr} (hg : s.get t = some r) : (s.tou t st).get t = some ⟨r.t, r.p, st, s.dueN st, r.i, r.k⟩ := by
  obtain ⟨hr, hrt⟩ := get_some h ht hg
  rw [get_iff (ok_tou h ht st) ht]
  unfold tou
  rw [if_pos hs, hg]
  exact ⟨mem_upd.2 ⟨r, hr, by rw [if_pos (beq_self_eq_true _)]⟩, hrt⟩
end Fl
def ownT : Tp := ⟨false, 17, fun _ => 0, fun _ => 0, 0, 1⟩
def ownP : Pn := ⟨⟨#[118]⟩, ⟨#[111, 119, 110]⟩, 3⟩
def othT (x : Nat) : Tp := ⟨false, 6, fun _ => 0, fun _ => 0, (x : Int), 0⟩
theorem ownT_ok : ownT.Ok := ⟨by decide, fun _ => ⟨Int.le_refl 0, (by decide : (0 : Int) ≤ 255)⟩, fun _ => ⟨Int.le_refl 0, (by decide : (0 : Int) ≤ 255)⟩, by decide, by decide, fun _ _ => rfl, fun _ _ => rfl⟩
theorem othT_ok {x : Nat} (h : x < 65536) : (othT x).Ok := ⟨(by decide : (0 : Int) ≤ 6 ∧ (6 : Int) ≤ 255), fun _ => ⟨Int.le_refl 0, (by decide : (0 : Int) ≤ 255)⟩, fun _ => ⟨Int.le_refl 0, (by decide : (0 : Int) ≤ 255)⟩, ⟨by show (0 : Int) ≤ (x : Int); omega, by show (x : Int) ≤ 65535; omega⟩, (by decide : (0 : Int) ≤ 0 ∧ (0 : Int) ≤ 65535), fun _ _ => rfl, fun _ _ => rfl⟩
theorem oth_ne (x : Nat) : othT x ≠ ownT := fun e => by
  have h : (othT x).pr = ownT.pr := by rw [e]
  have h : (6 : Int) = 17 := h
  exact absurd h (by decide)
/-- The own flow is there just so long, with the pin that it had. -/
structure LI (s : Fl) (lf : Int) (n m : Nat) : Prop where
  fit : s.Fit m
  most : s.g.most = 128
  o1 : s.o1 = n
  yes : 0 < lf → ∃ r, s.get ownT = some r ∧ r.p = ownP ∧ r.st = 1 ∧ (r.due : Int) = (s.w.now : Int) + lf
  no : lf ≤ 0 → s.get ownT = none
namespace LI
variable {s : Fl} {lf : Int} {n m : Nat}
theorem more (h : LI s lf n m) {m' : Nat} (hm : m ≤ m') (h9 : m' ≤ 4611686018427387904) : LI s lf n m' := ⟨h.fit.more hm h9, h.most, h.o1, h.yes, h.no⟩
theorem pin (h : LI s lf n m) (hm : m < 4611686018427387904) {x : Nat} (hx : x < 65536) (p : Pn) (st : Nat) : LI (s.pin (othT x) p st) lf n (m + 1) := by
  have hg := Fl.get_pin h.fit.ok ownT_ok (othT_ok hx) (oth_ne x) p st
  exact ⟨Fl.fit_pin h.fit hm (othT_ok hx) p st, (Fl.most_pin ..).trans h.most, (Fl.o1_pin ..).trans h.o1, fun e => by rw [hg, Fl.now_pin h.fit.ok]; exact h.yes e, fun e => by rw [hg]; exact h.no e⟩
theorem end_ (h : LI s lf n m) {x : Nat} (hx : x < 65536) : LI (s.endd (othT x)) lf n m := by
  have hg := Fl.get_endd h.fit.ok ownT_ok (othT_ok hx) (oth_ne x)
  exact ⟨Fl.fit_endd h.fit (othT_ok hx), (Fl.most_endd ..).trans h.most, (Fl.o1_endd ..).trans h.o1, fun e => by rw [hg, Fl.now_endd]; exact h.yes e, fun e => by rw [hg]; exact h.no e⟩
theorem mov (h : LI s lf n m) (k : Nat) : LI (s.mov k) lf n m := ⟨Fl.fit_mov h.fit k, (Fl.most_mv ..).trans h.most, h.o1, h.yes, h.no⟩
theorem left (h : LI s lf n m) : s.g.left ≤ 128 := by
  have := h.fit.ok.g.left_le
  rw [h.most] at this
  exact this
theorem tick (h : LI s lf n m) (hm : m < 4611686018427387904) : LI s.tick (lf - 1) n (m + 1) := by
  have hnow : s.w.now < 4611686018427387904 := Nat.lt_of_le_of_lt h.fit.now hm
  obtain ⟨h1, h2, h3, h4, h5⟩ := Fl.told_facts h.fit.ok
  have hnw : s.tick.w.now = s.w.now + 1 := by
    show s.w.tick.now = _
    rw [h3]
    rfl
  refine ⟨Fl.fit_tick h.fit hm, (Fl.most_dropG ..).trans h.most, h.o1, fun e => ?_, fun e => ?_⟩
  · obtain ⟨r, r1, r2, r3, r4⟩ := h.yes (by omega)
    refine ⟨r, (Fl.get_tick h.fit.ok hnow ownT_ok).2 ⟨r1, by omega⟩, r2, r3, by rw [hnw]; omega⟩
  · cases hg : s.tick.get ownT with
    | none => rfl
    | some q =>
      obtain ⟨q1, q2⟩ := (Fl.get_tick h.fit.ok hnow ownT_ok).1 hg
      by_cases c : 0 < lf
      · obtain ⟨r, r1, r2, r3, r4⟩ := h.yes c
        rw [q1] at r1
        injection r1 with r1
        subst r1
        omega
      · rw [h.no (by omega)] at q1
        cases q1
/-- It is told just at its end. -/
theorem ends (h : LI s lf n m) : (s.out.any fun r => r.t.eq ownT) = decide (lf = 1) := by
  rw [Bool.eq_iff_iff, List.any_eq_true, decide_eq_true_eq]
  constructor
  · rintro ⟨r, hr, e⟩
    obtain ⟨r1, r2⟩ := (Fl.out_mem h.fit.ok).1 hr
    have e := (Tp.eq_iff (h.fit.ok.t r r1) ownT_ok).1 e
    have hg := (Fl.get_iff h.fit.ok ownT_ok).2 ⟨r1, e⟩
    by_cases c : 0 < lf
    · obtain ⟨q, q1, q2, q3, q4⟩ := h.yes c
      rw [hg] at q1
      injection q1 with q1
      subst q1
      omega
    · rw [h.no (by omega)] at hg
      cases hg
  · intro e
    obtain ⟨r, r1, r2, r3, r4⟩ := h.yes (by omega)
    obtain ⟨q1, q2⟩ := Fl.get_some h.fit.ok ownT_ok r1
    exact ⟨r, (Fl.out_mem h.fit.ok).2 ⟨q1, by omega⟩, (Tp.eq_iff (h.fit.ok.t r q1) ownT_ok).2 q2⟩
theorem touE (h : LI s lf n m) : s.touE ownT 1 = if 0 < lf then 0 else 7 := by
  unfold Fl.touE
  rw [if_pos (by decide)]
  by_cases c : 0 < lf
  · obtain ⟨r, r1, _⟩ := h.yes c
    rw [r1, if_pos c]
  · rw [h.no (by omega), if_neg c]
theorem tou (h : LI s lf n m) (hm : m < 4611686018427387904) (hn : 0 < n) : LI (s.tou ownT 1) (if 0 < lf then (n : Int) else lf) n (m + 1) := by
  refine ⟨Fl.fit_tou h.fit hm ownT_ok 1, (Fl.most_tou ..).trans h.most, (Fl.o1_tou ..).trans h.o1, fun e => ?_, fun e => ?_⟩
  · by_cases c : 0 < lf
    · obtain ⟨r, r1, r2, r3, r4⟩ := h.yes c
      rw [if_pos c]
      refine ⟨_, Fl.get_tou h.fit.ok ownT_ok (st := 1) (by decide) r1, r2, rfl, ?_⟩
      rw [Fl.now_tou h.fit.ok ownT_ok]
      show ((s.dueN 1 : Nat) : Int) = _
      have : s.dueN 1 = s.w.now + n := by
        unfold Fl.dueN Fl.tk fsK
        rw [if_pos rfl, h.o1]
      omega
    · rw [if_neg c] at e
      exact absurd e c
  · by_cases c : 0 < lf
    · rw [if_pos c] at e
      omega
    · unfold Fl.tou
      rw [if_pos (by decide), h.no (by omega)]
      exact h.no (by omega)
theorem new {n : Nat} (h1 : 1 ≤ n) (h2 : n ≤ 20) : LI ((Fl.new 40 128 n 7 9 3).pin ownT ownP 1) (n : Int) n 1 ∧ (Fl.new 40 128 n 7 9 3).Fit 0 ∧ (Fl.new 40 128 n 7 9 3).pinE ownT 1 = 0 ∧ fsT n 7 9 3 = true := by
  have ho : fsT n 7 9 3 = true := by
    unfold fsT fsT1
    simp
    omega
  have hf : (Fl.new 40 128 n 7 9 3).Fit 0 := Fl.fit_new (by decide) (by decide) (by decide) ho ⟨by omega, by decide, by decide, by decide⟩
  have hw : (Fl.new 40 128 n 7 9 3).w.a.which = some 0 := by
    show (Wh.new 40).a.which = some 0
    decide +kernel
  have hg : (Fl.new 40 128 n 7 9 3).get ownT = none := rfl
  have he : (Fl.new 40 128 n 7 9 3).g.ptE ownT.h = 0 := by
    show (Gr.new 128).ptE ownT.h = 0
    decide +kernel
  have hpe : (Fl.new 40 128 n 7 9 3).pinE ownT 1 = 0 := by
    unfold Fl.pinE
    rw [if_pos (by decide), hg, hw]
    exact he
  have hp : (Fl.new 40 128 n 7 9 3).pin ownT ownP 1 = ⟨[⟨ownT, ownP, 1, n, 0, 1⟩], (Fl.new 40 128 n 7 9 3).w.arm ((Fl.new 40 128 n 7 9 3).dueN 1) 0, (Gr.new 128).pt ownT.h 0, n, 7, 9, 3⟩ := by
    unfold Fl.pin
    rw [if_pos (by decide), hg, hw]
    dsimp only
    rw [if_pos he]
    have hd : (Fl.new 40 128 n 7 9 3).dueN 1 = n := by
      show 0 + fsK n 7 9 3 1 = n
      unfold fsK
      rw [if_pos rfl, Nat.zero_add]
    rw [hd]
    rfl
  have hl := Fl.fit_pin hf (by decide) ownT_ok ownP 1
  have hq := Fl.get_mem hl.ok (r := ⟨ownT, ownP, 1, n, 0, 1⟩) (by rw [hp]; exact List.mem_singleton.2 rfl)
  refine ⟨⟨hl, (Fl.most_pin ..).trans rfl, (Fl.o1_pin ..).trans rfl, fun _ => ⟨_, hq, rfl, rfl, ?_⟩, fun e => by omega⟩, hf, hpe, ho⟩
  rw [Fl.now_pin hf.ok]
  show (n : Int) = ((0 : Nat) : Int) + (n : Int)
  omega
end LI
end Go.Proofs.YtimcdnbfdkpffaaGreat
