import Derived.Test.YtimcdnbfdkpffaaGreatGm32
import Derived.Test.YtimcdnbfdkpffaaGreatGm41
import Derived.StillTailTactics
/- Stage 16: FlowsLast. -/
namespace Go.Proofs.YtimcdnbfdkpffaaGreat
set_option maxRecDepth 100000
open Go.RowKit Go.Shelf
/-- Many blocks are laid beside an object. -/
theorem StG.wide {σ : Type} {PA : World → Nat → σ → (Nat → Prop) → Prop} {w W W' : World} {X : Nat → Prop} {p : Nat} {s : σ} (h : StG PA w X W p s) (HC : FootG PA) (hb : Below W.heap.size W W') : StG PA w (fun k => X k ∨ (W.heap.size ≤ k ∧ k < W'.heap.size)) W' p s := by
  obtain ⟨F, hF, h1, h2, h3⟩ := h
  refine ⟨F, HC.keep hF (Kept.of_below hb fun _ => False) fun _ _ q => q, fun k hk => ⟨(h1 k hk).1, fun q => ?_⟩, fun k hk => ?_, h3.trans (hb.mono h3.size)⟩
  · rcases q with q | q
    · exact (h1 k hk).2 q
    · have := HC.old hF k hk
      omega
  · rcases hk with q | q
    · exact Nat.lt_of_lt_of_le (h2 k q) hb.size
    · exact q.2
/-- The law's world: the flows, beside blocks that stand as they did. -/
structure LW (PF : World → Nat → Fl → (Nat → Prop) → Prop) (w : World) (X : Nat → Prop) (u wr : World) (p : Nat) (s : Fl) (lf : Int) (n m : Nat) : Prop where
  li : LI s lf n m
  st : StG PF w X wr p s
  same : ∀ j, X j → wr.heap[j]? = u.heap[j]?
section
variable {PF : World → Nat → Fl → (Nat → Prop) → Prop} {g : Nat} {w u wr : World} {X : Nat → Prop} {p : Nat} {s : Fl} {lf : Int} {n m : Nat}
theorem LW.step (h : LW PF w X u wr p s lf n m) (HP : FloP PF g) {w' : World} (hb : Below wr.heap.size wr w') : LW PF w X u w' p s lf n m := ⟨h.li, h.st.step HP.foot hb, fun j hj => (hb.block j (h.st.xold j hj)).trans (h.same j hj)⟩
theorem LW.wide (h : LW PF w X u wr p s lf n m) (HP : FloP PF g) {w' : World} (hb : Below wr.heap.size wr w') : LW PF w (fun k => X k ∨ (wr.heap.size ≤ k ∧ k < w'.heap.size)) w' w' p s lf n m := ⟨h.li, h.st.wide HP.foot hb, fun _ _ => rfl⟩
theorem LW.less (h : LW PF w X u wr p s lf n m) {Y : Nat → Prop} {v : World} (hY : ∀ k, Y k → X k) (hv : ∀ k, Y k → u.heap[k]? = v.heap[k]?) : LW PF w Y v wr p s lf n m := ⟨h.li, h.st.less hY, fun j hj => (h.same j (hY j hj)).trans (hv j hj)⟩
theorem LW.call (h : LW PF w X u wr p s lf n m) {fn : FuncId} {args : Array Value} {E : Value} {s' : Fl} {lf' : Int} {m' : Nat} (hli : LI s' lf' n m') (hc : ∀ F, PF wr p s F → Calls Tryz.prog fn args wr fun e w' => e = .returned E ∧ ∃ F', PF w' p s' F' ∧ ExtG F F' wr w') : Calls Tryz.prog fn args wr fun e w' => e = .returned E ∧ LW PF w X u w' p s' lf' n m' := by
  refine (h.st.call (K := fun e => e = .returned E) hc).mono ?_
  rintro e w' ⟨he, hs, hk⟩
  exact ⟨he, hli, hs, fun j hj => (hk j hj).trans (h.same j hj)⟩
theorem LW.back {X' : Nat → Prop} {v v' : World} {s' : Fl} {lf' : Int} {m' : Nat} (h : LW PF w X u wr p s lf n m) (hb : Below wr.heap.size wr v) (h' : LW PF w X' v v' p s' lf' n m') (hX : ∀ k, X k → X' k) : LW PF w X u v' p s' lf' n m' := h'.less hX fun k hk => (hb.block k (h.st.xold k hk)).trans (h.same k hk)
/-- A tick: what it tells stands beside. -/
theorem LW.told (h : LW PF w X u wr p s lf n m) (HP : FloP PF g) (hm : m < 4611686018427387904) : Calls Tryz.prog 14 #[.pointer (some ⟨p, 0, none⟩)] wr fun e w' => ∃ E dE, e = .returned (.tuple #[.slice E s.out.length dE, .int .i64 0]) ∧ OwnC w' wr.heap.size 59 41 E s.out.length dE (rwc 41 Fr.c s.out) ∧ LW PF w (fun k => X k ∨ E.map (·.block) = some k) w' w' p s.tick (lf - 1) n (m + 1) ∧ ∀ j, X j → w'.heap[j]? = u.heap[j]? := by
  refine (h.st.told (K := fun e E dE => e = .returned (.tuple #[.slice E s.out.length dE, .int .i64 0])) (n := s.out.length) (ty := 59) (sz := 41) (f := rwc 41 Fr.c s.out) (s' := s.tick) fun F hF => ?_).mono ?_
  · refine (HP.tick hF h.li.fit hm).mono ?_
    rintro e w' ⟨E, dE, he, ho, F', hp, hx, hn⟩
    exact ⟨E, dE, he, ho, F', hp, hx, hn⟩
  · rintro e w' ⟨E, dE, he, ho, hs, hk⟩
    exact ⟨E, dE, he, ho, ⟨h.li.tick hm, hs, fun _ _ => rfl⟩, fun j hj => (hk j hj).trans (h.same j hj)⟩
theorem flc_tail (r : Fr) (i : Nat) (hi : i < 5) : (Fr.c r).getD (36 + i) undef = (#[.string r.p.v, .string r.p.n, .int .u64 (r.p.life : Int), .int .u8 (r.st : Int), .int .u64 (r.due : Int)] : Array Value).getD i undef := by
  unfold Fr.c
  rw [Array.getD_eq_getD_getElem?, Array.getD_eq_getD_getElem?, Array.getElem?_append_right (by rw [Tp.c_size]; omega), Tp.c_size, show 36 + i - 36 = i by omega]
theorem any_snoc {α : Type} (l : List α) (f : α → Bool) {a : Nat} {r : α} (h : l[a]? = some r) : (l.take (a + 1)).any f = ((l.take a).any f || f r) := by
  rw [List.take_add_one, h, List.any_append]
  simp
theorem wpStill_row {P : Program} {ops : Array Oper} {w : World} {Q : Act → Prop} {a : Act} {o : Oper} {rest : List Oper} (hw : Region.wanted o (yielded ops a.tmps) = true) (ty : TypeId) (x : Operand) (ho : o.op = .load ty x)
    (g : Nat) (hx : a.eval x = .pointer (some ⟨g, 0, none⟩)) (t : TypeId) (cs : Array Value) (fr : Nat × Nat) (d : TypeDesc) (hg : w.heap[g]? = some (.cells cs t fr)) (hu : P.underlying ty = some d)
    (hd : (match d with | .struct _ | .array _ _ => true | _ => false) = true) (hi : (P.info? ty).map (·.size) = some cs.size) (h : wpStill P ops w Q rest (a.put o.dst (.agg cs))) : wpStill P ops w Q (o :: rest) a := by
  refine wpStill_step fun K hK => ?_
  rw [if_pos hw]
  unfold Oper.still execOp
  simp only [ho, hx, Instr.loadAt, Instr.sureAddr, Sem.run_bind, Sem.run_pure, Result.andThen_ok, run_loadVar_row w g t ty cs fr d hg hu hd hi]
  exact ⟨rfl, hK _ h⟩
set_option maxHeartbeats 4000000 in
theorem flast_any (HP0 : FloP PF g) (n : Nat) (hn1 : 1 ≤ n) (hn2 : n ≤ 20) (A : Option Addr) (m c : Nat) (f : Nat → Int) (hf : Byt f) (hm : m ≤ 12) (B : Option Addr) (q d : Nat) (h : Nat → Nat) (hh : ∀ k, h k < 65536) (hq : q ≤ 100) (w : World) (hr : Rd w w.heap.size A m f) (hrb : RdC w w.heap.size B q (fun k => .int .u16 (h k : Int))) :
    Calls Tryz.prog 4 #[.int .u8 (n : Int), .slice A m c, .slice B q d] w (ret (.bool true) w) := by
  have HP := Lib.hid HP0
  have HKN := Lib.hid fun W => fknown_any HP0 W
  obtain ⟨hl0, hf0, hpe, hT⟩ := LI.new hn1 hn2
  have HL0 := Lib.hid hl0
  have HF0 := Lib.hid hf0
  have HPE := Lib.hid hpe
  have HN := Lib.hid fun W => HP0.new 40 128 n 7 9 3 W (by omega) (by decide) (by decide) (by decide) (by
    unfold Fl.mayF
    rw [hT]
    decide)
  have HNN := Lib.hid (show 1 ≤ n ∧ n ≤ 20 from ⟨hn1, hn2⟩)
  have HMM := Lib.hid hm
  have HQQ := Lib.hid hq
  have HF := Lib.hid hf
  have HH := Lib.hid hh
  have HRA := Lib.hid hr
  have HRB := Lib.hid hrb
  have c1 : ¬ (n : Int) < 1 := by omega
  have c2 : ¬ (20 : Int) < (n : Int) := by omega
  have c3 : ¬ (12 : Int) < (m : Int) := by omega
  have c4 : ¬ (100 : Int) < (q : Int) := by omega
  have zn : IntKind.u32.wrap (n : Int) = (n : Int) := by rw [IntKind.wrap_u32]; omega
  have zi : IntKind.i64.wrap (n : Int) = (n : Int) := by rw [IntKind.wrap_i64]; omega
  have hbt : ∀ W : World, (Instr.build 24 #[(0, .int .u32 (n : Int)), (1, .int .u32 7), (2, .int .u32 9), (3, .int .u32 3)]).run Tryz.prog W = .ok (tmoc n 7 9 3) W := fun W => by kernel_rfl
  have hbo : ∀ W : World, (Instr.build 38 #[(1, .int .u8 17), (5, .int .u16 1)]).run Tryz.prog W = .ok (.agg ownT.c) W := fun W => by kernel_rfl
  obtain ⟨C, hC⟩ : ∃ C, C = ownT.c := ⟨_, rfl⟩
  rw [← hC] at hbo
  have HCS : Hid (C.size = 36) := Lib.hid (by rw [hC]; rfl)
  have HO : Hid (C.all (·.oneCell') = true) := Lib.hid (by rw [hC]; exact Tp.c_one ownT)
  have HC := Lib.hid hC
  have HI36 : Hid ((Tryz.prog.info? 38).map (·.size) = some 36) := Lib.hid (by kernel_rfl)
  clear hC hl0 hf0 hpe hT hn1 hn2 hm hq hf hh hr hrb HP0
  go_enter Tryz.func4, Tryz.ntmps4
  go_upto_region 7 with (first
    | (refine wpList_bw (tmoc n 7 9 3) 24 [(0, .tmp 45), (1, .const (.int .u32 7)), (2, .const (.int .u32 9)), (3, .const (.int .u32 3))] [(0, .int .u32 (n : Int)), (1, .int .u32 7), (2, .int .u32 9), (3, .int .u32 3)] hbt (by with_reducible_and_instances rfl) rfl rfl ?_
       simp only [Act.put, List.setIfInBounds_toArray, List.set_cons_succ, List.set_cons_zero])
    | (go_at_call 8
       refine (HN.out _).mono ?_
       rintro e u0 ⟨p, F, rfl, hfp, hn, hb⟩
       have HS0 := Lib.hid (StG.start (w := w) ⟨F, hfp, hn⟩ hb)
       clear hfp hn hb))
  clear HN hbt c1 c2 c3 c4
  have HN1 : Hid (((u0.alloc (.cells tz16 38)).alloc (.cells #[.string ⟨#[]⟩, .string ⟨#[]⟩, .int .u64 0] 41)).heap[u0.heap.size]? = some (.cells tz16 38 (0, 0))) := Lib.hid (blk_old (heap_alloc_new u0 _) _)
  have HN2 : Hid ((((u0.alloc (.cells tz16 38)).alloc (.cells #[.string ⟨#[]⟩, .string ⟨#[]⟩, .int .u64 0] 41)).setRow u0.heap.size C).heap[u0.heap.size + 1]? = some (.cells #[.string ⟨#[]⟩, .string ⟨#[]⟩, .int .u64 0] 41 (0, 0))) := Lib.hid (by
    rw [setRow_other _ _ _ _ (by omega)]
    have h := heap_alloc_new (u0.alloc (.cells tz16 38)) (.cells #[.string ⟨#[]⟩, .string ⟨#[]⟩, .int .u64 0] 41)
    rwa [show (u0.alloc (.cells tz16 38)).heap.size = u0.heap.size + 1 by simp] at h)
  go_upto_region 8 with (first
    | (refine wpList_bw (.agg C) 38 [(1, .const (.int .u8 17)), (5, .const (.int .u16 1))] [(1, .int .u8 17), (5, .int .u16 1)] hbo (by with_reducible_and_instances rfl) rfl rfl ?_
       simp only [Act.put, List.setIfInBounds_toArray, List.set_cons_succ, List.set_cons_zero])
    | (refine wpList_store_row rfl 38 (.tmp 10) (.tmp 56) rfl u0.heap.size C rfl rfl 38 tz16 HN1.out (HI36.out.trans (by rw [HCS.out])) (by rw [HCS.out]; rfl) HO.out ?_)
    | (refine wpList_store_row rfl 41 (.tmp 11) (.tmp 57) rfl (u0.heap.size + 1) #[.string ⟨#[118]⟩, .string ⟨#[111, 119, 110]⟩, .int .u64 3] rfl rfl 41 #[.string ⟨#[]⟩, .string ⟨#[]⟩, .int .u64 0] HN2.out (by kernel_rfl) rfl (by simp [Value.oneCell']) ?_))
  change Code.wp _ _ _ _ ((((u0.alloc (.cells tz16 38)).alloc (.cells #[.string ⟨#[]⟩, .string ⟨#[]⟩, .int .u64 0] 41)).setRow u0.heap.size C).setRow (u0.heap.size + 1) #[.string ⟨#[118]⟩, .string ⟨#[111, 119, 110]⟩, .int .u64 3])
  simp only [Act.put]
  have HB1 : Hid (Below u0.heap.size u0 ((((u0.alloc (.cells tz16 38)).alloc (.cells #[.string ⟨#[]⟩, .string ⟨#[]⟩, .int .u64 0] 41)).setRow u0.heap.size C).setRow (u0.heap.size + 1) #[.string ⟨#[118]⟩, .string ⟨#[111, 119, 110]⟩, .int .u64 3])) := Lib.hid (below_setRow (below_setRow (below_alloc2 u0 _ _) (Nat.le_refl _) _) (Nat.le_succ _) _)
  have HA1 : Hid (((((u0.alloc (.cells tz16 38)).alloc (.cells #[.string ⟨#[]⟩, .string ⟨#[]⟩, .int .u64 0] 41)).setRow u0.heap.size C).setRow (u0.heap.size + 1) #[.string ⟨#[118]⟩, .string ⟨#[111, 119, 110]⟩, .int .u64 3]).heap[u0.heap.size]? = some (.cells C 38 (0, 0))) := Lib.hid (by
    rw [setRow_other _ _ _ _ (by omega)]
    exact setRow_heap _ _ _ _ _ _ HN1.out)
  have HQ1 : Hid (((((u0.alloc (.cells tz16 38)).alloc (.cells #[.string ⟨#[]⟩, .string ⟨#[]⟩, .int .u64 0] 41)).setRow u0.heap.size C).setRow (u0.heap.size + 1) #[.string ⟨#[118]⟩, .string ⟨#[111, 119, 110]⟩, .int .u64 3]).heap[u0.heap.size + 1]? = some (.cells #[.string ⟨#[118]⟩, .string ⟨#[111, 119, 110]⟩, .int .u64 3] 41 (0, 0))) := Lib.hid (setRow_heap _ _ _ _ _ _ HN2.out)
  clear HN1 HN2 hbo
  generalize (((u0.alloc (.cells tz16 38)).alloc (.cells #[.string ⟨#[]⟩, .string ⟨#[]⟩, .int .u64 0] 41)).setRow u0.heap.size C).setRow (u0.heap.size + 1) #[.string ⟨#[118]⟩, .string ⟨#[111, 119, 110]⟩, .int .u64 3] = u1 at *
  have HS1 := Lib.hid ((HS0.out.wide HP.out.foot HB1.out).less (Y := fun k => u0.heap.size ≤ k ∧ k < u1.heap.size) fun k e => .inr e)
  obtain ⟨b, hb⟩ : ∃ b, b = u0.heap.size := ⟨_, rfl⟩
  rw [← hb] at HA1 HQ1 HS1 ⊢
  clear hb HS0 HB1
  obtain ⟨S1, hS1⟩ : ∃ S, S = (Fl.new 40 128 n 7 9 3).pin ownT ownP 1 := ⟨_, rfl⟩
  have HPN : Hid (Calls Tryz.prog 16 #[.pointer (some ⟨p, 0, none⟩), .agg C, .agg #[.string ⟨#[118]⟩, .string ⟨#[111, 119, 110]⟩, .int .u64 3], .int .u8 1] u1 fun e w' => e = .returned (.int .i64 0) ∧ LW PF w (fun k => b ≤ k ∧ k < u1.heap.size) u1 w' p S1 (n : Int) n 1) := Lib.hid (by
    have hc := HS1.out.call fun F hF => HP.out.pin hF HF0.out (by decide) ownT ownP 1 ownT_ok (by decide) (by decide)
    rw [HPE.out, ← HC.out, ← hS1] at hc
    refine hc.mono ?_
    rintro e w' ⟨he, hs, hk⟩
    exact ⟨he, by rw [hS1]; exact HL0.out, hs, hk⟩)
  clear hS1
  go_upto_region 11 with (first
    | (refine wpList_load_roww rfl 38 (.tmp 10) rfl b rfl 38 C (0, 0) _ HA1.out Tryz.underlying38 rfl (HI36.out.trans (by rw [HCS.out])) ?_)
    | (refine wpList_load_roww rfl 41 (.tmp 11) rfl (b + 1) rfl 41 #[.string ⟨#[118]⟩, .string ⟨#[111, 119, 110]⟩, .int .u64 3] (0, 0) _ HQ1.out Tryz.underlying41 rfl (by kernel_rfl) ?_)
    | (go_at_call 16
       refine HPN.out.mono ?_
       rintro e u2 ⟨rfl, hl⟩
       have HL2 := Lib.hid hl
       clear hl))
  have HLT : Hid (b < u1.heap.size ∧ b + 1 < u1.heap.size) := Lib.hid ⟨lt_heap HA1.out, lt_heap HQ1.out⟩
  clear HPN HF0 HL0 HPE HS1
  have HA2 : Hid (u2.heap[b]? = some (.cells C 38 (0, 0))) := Lib.hid ((HL2.out.same b ⟨Nat.le_refl _, lt_heap HA1.out⟩).trans HA1.out)
  have HQ2 : Hid (u2.heap[b + 1]? = some (.cells #[.string ⟨#[118]⟩, .string ⟨#[111, 119, 110]⟩, .int .u64 3] 41 (0, 0))) := Lib.hid ((HL2.out.same (b + 1) ⟨Nat.le_succ _, lt_heap HQ1.out⟩).trans HQ1.out)
  have HBW2 := Lib.hid HL2.out.st.below
  have HRA2 : Hid (Rd u2 u2.heap.size A m f) := Lib.hid ((HRA.out.keep HBW2.out).more HBW2.out.size)
  have hm9 := HMM.out
  obtain ⟨i0, hi0, hz0, hz1, hz2⟩ := info_parts Tryz.info5
  have HI0 := Lib.hid hi0
  have HZ0 := Lib.hid hz0
  have HZ1 := Lib.hid hz1
  have HZ2 := Lib.hid hz2
  clear hi0 hz0 hz1 hz2 HA1 HQ1 HRA
  go_wp2_with (first
    | (at_builtin
       refine wpList_append_rd rfl (.tmp 65) (.tmp 66) _ rfl u2.heap.size 5 i0 Tryz.underlying54 HI0.out HZ0.out HZ1.out HZ2.out (n := 0) (f := f) rfl (Own.fresh _ _ _ rfl (Nat.le_refl _) 5 f) rfl (HRA2.out.keep (below_alloc u2 _)) (by omega) (alloc_le u2 _) ?_
       intro A1 c1 w1 hown1 hg1 _
       have hb3 : Below u2.heap.size u2 w1 := (below_alloc u2 _).grown hg1 (alloc_le u2 _) (by intro k hk; simp [Value.ownBlock] at hk; omega)
       have HO1 : Hid (Own w1 u2.heap.size 5 A1 m c1 f) := by
         have e := hown1.same (g := f) (by intro k _; simp [cat])
         rw [Nat.zero_add] at e
         exact e
       rw [Nat.zero_add]
       clear hown1 hg1)
    | (at_builtin
       refine wpList_append_rd rfl (.tmp 67) (.tmp 68) _ rfl u2.heap.size 5 i0 Tryz.underlying54 HI0.out HZ0.out HZ1.out HZ2.out (n := m) (f := f) rfl (HO1.out.alloc _) rfl (rd_new1 w1 (w1.heap.size + 1) _ rfl (by omega) 40 5) (by omega) (Nat.le_trans hb3.size (alloc_le _ _)) ?_
       intro A3 d3 u3 hown3 hg3 _
       have HB3 : Hid (Below u2.heap.size u2 u3) := Lib.hid ((hb3.alloc hb3.size _).grown hg3 (Nat.le_trans hb3.size (alloc_le _ _)) (HO1.out.alloc (.cells #[.int .u8 40] 5)).at_)
       have HO3 : Hid (Own u3 u2.heap.size 5 A3 (m + 1) d3 (cat m f fun _ => 40)) := hown3
       clear hown3 hg3 hb3))
  obtain ⟨g3, hg3, hg4, hg5, hg6, _⟩ := HO3.out.lies (by omega)
  subst hg3
  obtain ⟨X, hX⟩ : ∃ X : Nat → Prop, X = fun k => k = b ∨ k = b + 1 ∨ k = g3 := ⟨_, rfl⟩
  have HX1 : Hid (X b ∧ X (b + 1) ∧ X g3) := Lib.hid (by rw [hX]; exact ⟨.inl rfl, .inr (.inl rfl), .inr (.inr rfl)⟩)
  have hb1 := lt_heap HA2.out
  have hb2 := lt_heap HQ2.out
  have HL3 : Hid (LW PF w X u3 u3 p S1 (n : Int) n 1) := Lib.hid (((HL2.out.less (Y := fun k => k = b ∨ k = b + 1) (v := u2) (fun k hk => by
    have h1 := HL2.out.st.xold
    rcases hk with rfl | rfl
    · exact ⟨Nat.le_refl _, HLT.out.1⟩
    · exact ⟨Nat.le_succ _, HLT.out.2⟩) (fun k hk => by
    rcases hk with rfl | rfl
    · exact (HL2.out.same _ ⟨Nat.le_refl _, HLT.out.1⟩).symm
    · exact (HL2.out.same _ ⟨Nat.le_succ _, HLT.out.2⟩).symm)).wide HP.out HB3.out).less (fun k hk => by
    rw [hX] at hk
    rcases hk with rfl | rfl | rfl
    · exact .inl (.inl rfl)
    · exact .inl (.inr rfl)
    · exact .inr ⟨hg4, hg5⟩) fun _ _ => rfl)
  have HA3 : Hid (u3.heap[b]? = some (.cells C 38 (0, 0))) := Lib.hid ((HB3.out.block b hb1).trans HA2.out)
  have HQ3 : Hid (u3.heap[b + 1]? = some (.cells #[.string ⟨#[118]⟩, .string ⟨#[111, 119, 110]⟩, .int .u64 3] 41 (0, 0))) := Lib.hid ((HB3.out.block (b + 1) hb2).trans HQ2.out)
  have HG3 : Hid (∀ i, i < m + 1 → ∃ x : Nat, x < 256 ∧ u3.cell? ⟨g3, i, none⟩ = some (.int .u8 (x : Int))) := Lib.hid fun i hi => by
    have hb : 0 ≤ cat m f (fun _ => 40) i ∧ cat m f (fun _ => 40) i ≤ 255 := by
      unfold cat
      split
      · exact HF.out i
      · exact ⟨(by decide : (0 : Int) ≤ 40), (by decide : (40 : Int) ≤ 255)⟩
    obtain ⟨x, hx⟩ := Int.eq_ofNat_of_zero_le hb.1
    exact ⟨x, by omega, by rw [hg6 i (by omega), hx]⟩
  clear hg4 hg5 hg6 hb1 hb2 hX HL2 HA2 HQ2 HO3 HB3 HO1 HBW2 HRA2 HLT hm9 HI0 HZ0 HZ1 HZ2
  go_loopw [12, 13, 71] (fun vl vk vi wr => ∃ (i k : Nat) (s : Fl) (lf : Int) (mm : Nat), i ≤ m + 1 ∧ vi = .int .i64 (i : Int) ∧ vl = .int .i64 lf ∧ vk = .int .i64 (k : Int) ∧ k ≤ q ∧ (-(50 * (i : Int)) ≤ lf ∧ lf ≤ 20) ∧ mm ≤ 1 + 100 * i ∧ LW PF w X u3 wr p s lf n mm) (fun _ _ vi _ => m + 1 - (intOf vi).toNat)
  case atStart =>
    have hq := HNN.out
    exact ⟨0, 0, S1, (n : Int), 1, Nat.zero_le _, rfl, rfl, rfl, Nat.zero_le _, ⟨by omega, by omega⟩, by omega, HL3.out⟩
  case round =>
    obtain ⟨i, k, s, lf, mm, hi, rfl, rfl, rfl, hkq, hlf, hmm, hl⟩ := hrel
    have HI := Lib.hid hi
    have HKQ := Lib.hid hkq
    have HLF := Lib.hid hlf
    have HMI := Lib.hid hmm
    have HL := Lib.hid hl
    clear hi hkq hlf hmm hl HL3
    have hm9 := HMM.out
    by_cases him : i < m + 1
    · obtain ⟨x, hx, hcx⟩ := HG3.out i him
      have z0 : wr.cell? ⟨g3, i, none⟩ = some (.int .u8 (x : Int)) := (kept_cell_block (p := ⟨g3, i, none⟩) (HL.out.same g3 HX1.out.2.2)).trans hcx
      obtain ⟨xr, hxr⟩ : ∃ r, r = x % 41 := ⟨_, rfl⟩
      have hxr40 : xr ≤ 40 := by omega
      have i0 : (0 : Int) ≤ (i : Int) := by omega
      have i1 : (i : Int) < (m : Int) + 1 := by omega
      have i2 : ((i : Int)).toNat = i := by omega
      have t1 : (x : Int).tmod 41 = (xr : Int) := by rw [Int.tmod_eq_emod_of_nonneg (by omega)]; omega
      have t2 : (x : Int) % 41 = (xr : Int) := by omega
      have t3 : IntKind.u8.wrap (xr : Int) = (xr : Int) := by rw [IntKind.wrap_u8']; omega
      have HXR := Lib.hid hxr40
      have HIM := Lib.hid him
      clear hxr hcx hx hxr40
      go_wp2_with fail
      go_loopw [12, 13, 77] (fun vl vk vj wr => ∃ (j k : Nat) (s : Fl) (lf : Int) (mm : Nat), j ≤ xr ∧ vj = .int .u8 (j : Int) ∧ vl = .int .i64 lf ∧ vk = .int .i64 (k : Int) ∧ k ≤ q ∧ (-(50 * (i : Int) + (j : Int)) ≤ lf ∧ lf ≤ 20) ∧ mm ≤ 1 + 100 * i + 2 * j ∧ LW PF w X u3 wr p s lf n mm) (fun _ _ vj _ => xr - (intOf vj).toNat)
      case atStart => exact ⟨0, k, s, lf, mm, Nat.zero_le _, rfl, rfl, rfl, HKQ.out, ⟨by have := HLF.out.1; omega, HLF.out.2⟩, by have := HMI.out; omega, HL.out⟩
      case round =>
        clear z0 i0 i1 i2 t1 t2 t3 HL HLF HMI HKQ him
        obtain ⟨j, k, s, lf, mm, hj, rfl, rfl, rfl, hkq, hlf, hmm, hl⟩ := hrel
        have HKQ := Lib.hid hkq
        have HLF := Lib.hid hlf
        have HMI := Lib.hid hmm
        have HL := Lib.hid hl
        clear hkq hlf hmm hl
        have hm9 := HMM.out
        have hi9 := HI.out
        have hx9 := HXR.out
        by_cases hjx : j < xr
        · have j1 : (j : Int) < (xr : Int) := by omega
          have zj : IntKind.u8.wrap ((j : Int) + 1) = (j : Int) + 1 := by rw [IntKind.wrap_u8']; omega
          go_upto_if 82 with fail
          go_cut [13] from 78 to 166 (fun vk wx => ∃ (k2 : Nat) (s2 : Fl) (mm2 : Nat), vk = .int .i64 (k2 : Int) ∧ k2 ≤ q ∧ mm2 ≤ 1 + 100 * i + 2 * j + 1 ∧ LW PF w X u3 wx p s2 lf n mm2)
          case first =>
            by_cases hk : k < q
            · have k0 : (0 : Int) ≤ (k : Int) := by omega
              have k1 : (k : Int) < (q : Int) := by omega
              have k2 : ((k : Int)).toNat = k := by omega
              have hq9 := HQQ.out
              have zk : IntKind.i64.wrap ((k : Int) + 1) = (k : Int) + 1 := by rw [IntKind.wrap_i64]; omega
              rcases HRB.out with h0 | ⟨bB, oB, rfl, hlB, hcB⟩
              · omega
              obtain ⟨x, hx⟩ : ∃ x, x = h k := ⟨_, rfl⟩
              have hx6 := HH.out k
              rw [← hx] at hx6
              have zB : wr.cell? ⟨bB, oB + k, none⟩ = some (.int .u16 (x : Int)) := by
                rw [hx]
                exact (HL.out.st.below.cell (p := ⟨bB, oB + k, none⟩) hlB).trans (hcB k hk)
              obtain ⟨y, hy⟩ : ∃ y, y = x % 60 := ⟨_, rfl⟩
              obtain ⟨z, hz⟩ : ∃ z, z = x % 3 := ⟨_, rfl⟩
              have hz3 : z < 3 := by omega
              have hy6 : y < 60 := by omega
              have y1 : (x : Int).tmod 60 = (y : Int) := by rw [Int.tmod_eq_emod_of_nonneg (by omega)]; omega
              have y2 : (x : Int) % 60 = (y : Int) := by omega
              have y3 : IntKind.u16.wrap (y : Int) = (y : Int) := by rw [IntKind.wrap_u16]; omega
              have x1 : (x : Int).tmod 3 = (z : Int) := by rw [Int.tmod_eq_emod_of_nonneg (by omega)]; omega
              have x2 : (x : Int) % 3 = (z : Int) := by omega
              have x3 : IntKind.u16.wrap (z : Int) = (z : Int) := by rw [IntKind.wrap_u16]; omega
              have x4 : IntKind.u8.wrap (z : Int) = (z : Int) := by rw [IntKind.wrap_u8']; omega
              have x5 : IntKind.u8.wrap (2 + (z : Int)) = 2 + (z : Int) := by rw [IntKind.wrap_u8']; omega
              have hbx : ∀ W : World, (Instr.build 38 #[(1, .int .u8 6), (4, .int .u16 (y : Int))]).run Tryz.prog W = .ok (.agg (othT y).c) W := fun W => by kernel_rfl
              obtain ⟨D, hD⟩ : ∃ D, D = (othT y).c := ⟨_, rfl⟩
              rw [← hD] at hbx
              have HDS : Hid (D.size = 36) := Lib.hid (by rw [hD]; rfl)
              have HDO : Hid (D.all (·.oneCell') = true) := Lib.hid (by rw [hD]; exact Tp.c_one _)
              have HD := Lib.hid hD
              have HY := Lib.hid hy6
              have HZ := Lib.hid hz3
              have HB1 : Hid (Below wr.heap.size wr ((wr.alloc (.cells tz16 38)).setRow wr.heap.size D)) := Lib.hid (below_setRow (below_alloc wr _) (Nat.le_refl _) _)
              have HD1 : Hid (((wr.alloc (.cells tz16 38)).setRow wr.heap.size D).heap[wr.heap.size]? = some (.cells D 38 (0, 0))) := Lib.hid (setRow_heap _ _ _ _ _ _ (heap_alloc_new wr _))
              have HN : Hid ((wr.alloc (.cells tz16 38)).heap[wr.heap.size]? = some (.cells tz16 38 (0, 0))) := Lib.hid (heap_alloc_new wr _)
              clear hx hx6 hy hz hz3 hy6 hD hlB hcB
              go_upto_region 18 with (first
                | (refine wpList_bw (.agg D) 38 [(1, .const (.int .u8 6)), (4, .tmp 87)] [(1, .int .u8 6), (4, .int .u16 (y : Int))] hbx (by with_reducible_and_instances rfl) rfl rfl ?_
                   simp only [Act.put, List.setIfInBounds_toArray, List.set_cons_succ, List.set_cons_zero])
                | (refine wpList_store_row rfl 38 (.tmp 16) (.tmp 88) rfl wr.heap.size D rfl rfl 38 tz16 HN.out (HI36.out.trans (by rw [HDS.out])) (by rw [HDS.out]; rfl) HDO.out ?_))
              change Code.wp _ _ _ _ ((wr.alloc (.cells tz16 38)).setRow wr.heap.size D)
              simp only [Act.put]
              have zB1 : ((wr.alloc (.cells tz16 38)).setRow wr.heap.size D).cell? ⟨bB, oB + k, none⟩ = some (.int .u16 (x : Int)) := by
                refine (HB1.out.cell (p := ⟨bB, oB + k, none⟩) ?_).trans zB
                exact World.block_lt_of_cell? _ _ zB
              have HLx := Lib.hid (HL.out.wide HP.out HB1.out)
              clear HN hbx zB
              generalize (wr.alloc (.cells tz16 38)).setRow wr.heap.size D = v1 at *
              obtain ⟨b16, hb16⟩ : ∃ b, b = wr.heap.size := ⟨_, rfl⟩
              rw [← hb16] at HD1 ⊢
              have HXb : Hid (b16 = wr.heap.size) := Lib.hid hb16
              clear hb16
              go_still_tail 10, (by kernel_rfl)
              repeat (first
                | (refine wpStill_row rfl 38 (.tmp 16) rfl b16 rfl 38 D (0, 0) _ HD1.out Tryz.underlying38 rfl (HI36.out.trans (by rw [HDS.out])) ?_
                   simp only [Act.put, List.setIfInBounds_toArray, List.set_cons_succ, List.set_cons_zero])
                | still_step)
              try refine wpStill_nil ?_
              change wpList _ _ _ _ _ v1.drew
              have hbd : Below v1.heap.size v1 v1.drew := (Below.refl _ v1).drew
              have HLd := Lib.hid (HLx.out.step HP.out hbd)
              have HDd : Hid (v1.drew.heap[b16]? = some (.cells D 38 (0, 0))) := Lib.hid ((hbd.block b16 (lt_heap HD1.out)).trans HD1.out)
              have zBd : v1.drew.cell? ⟨bB, oB + k, none⟩ = some (.int .u16 (x : Int)) := zB1
              have HXX : Hid (wr.heap.size ≤ b16 ∧ b16 < v1.heap.size) := Lib.hid ⟨by rw [HXb.out]; exact Nat.le_refl _, lt_heap HD1.out⟩
              have HDv := HD1
              clear hbd HLx zB1 HXb
              generalize v1.drew = v2 at *
              obtain ⟨E, hE⟩ : ∃ E, E = s.pinE (othT y) (2 + z) := ⟨_, rfl⟩
              have HPI : Hid (Calls Tryz.prog 16 #[.pointer (some ⟨p, 0, none⟩), .agg D, .agg #[.string ⟨#[]⟩, .string ⟨#[]⟩, .int .u64 0], .int .u8 (2 + (z : Int))] v2 fun e w' => e = .returned (.int .i64 E) ∧ LW PF w (fun k => X k ∨ (wr.heap.size ≤ k ∧ k < v1.heap.size)) v1 w' p (s.pin (othT y) ⟨⟨#[]⟩, ⟨#[]⟩, 0⟩ (2 + z)) lf n (mm + 1)) := Lib.hid (by
                have hy := HY.out
                have hz := HZ.out
                have h9 := HMI.out
                have hc := HLd.out.call (HLd.out.li.pin (by omega) (x := y) (by omega) ⟨⟨#[]⟩, ⟨#[]⟩, 0⟩ (2 + z)) fun F hF => HP.out.pin hF HLd.out.li.fit (by omega) (othT y) ⟨⟨#[]⟩, ⟨#[]⟩, 0⟩ (2 + z) (othT_ok (by omega)) (by decide) (by omega)
                rw [← hE, ← HD.out] at hc
                rw [show (2 + (z : Int)) = ((2 + z : Nat) : Int) by omega]
                exact hc)
              clear hE
              go_upto_if 100 with (first
                | (go_at_call 16
                   refine HPI.out.mono ?_
                   rintro e v3 ⟨rfl, hl⟩
                   have HL3 := Lib.hid hl
                   clear hl))
              clear HPI zBd x1 x2 x3 x4 x5 y1 y2 y3 HDd HLd
              have HD3 : Hid (v3.heap[b16]? = some (.cells D 38 (0, 0))) := Lib.hid ((HL3.out.same b16 (.inr HXX.out)).trans HDv.out)
              by_cases hE8 : E = 8
              · have e8 : (E == 8) = true := by rw [hE8]; rfl
                clear hE8
                have HEN : Hid (Calls Tryz.prog 13 #[.pointer (some ⟨p, 0, none⟩), .agg D] v3 fun e w' => e = .returned (.int .i64 ((s.pin (othT y) ⟨⟨#[]⟩, ⟨#[]⟩, 0⟩ (2 + z)).endE (othT y))) ∧ LW PF w (fun k => X k ∨ (wr.heap.size ≤ k ∧ k < v1.heap.size)) v1 w' p ((s.pin (othT y) ⟨⟨#[]⟩, ⟨#[]⟩, 0⟩ (2 + z)).endd (othT y)) lf n (mm + 1)) := Lib.hid (by
                  have hy := HY.out
                  have hc := HL3.out.call (HL3.out.li.end_ (x := y) (by omega)) fun F hF => HP.out.end_ hF HL3.out.li.fit (othT y) (othT_ok (by omega))
                  rw [← HD.out] at hc
                  exact hc)
                generalize (s.pin (othT y) ⟨⟨#[]⟩, ⟨#[]⟩, 0⟩ (2 + z)).endE (othT y) = E2 at *
                generalize (s.pin (othT y) ⟨⟨#[]⟩, ⟨#[]⟩, 0⟩ (2 + z)).endd (othT y) = s3 at *
                go_upto_region 20 with (first
                  | (refine wpList_load_roww rfl 38 (.tmp 16) rfl b16 rfl 38 D (0, 0) _ HD3.out Tryz.underlying38 rfl (HI36.out.trans (by rw [HDS.out])) ?_)
                  | (go_at_call 13
                     refine HEN.out.mono ?_
                     rintro e v4 ⟨rfl, hl⟩
                     have HL4 := Lib.hid hl
                     clear hl))
                have HMV : Hid (Calls Tryz.prog 18 #[.pointer (some ⟨p, 0, none⟩), .int .i64 2] v4 fun e w' => e = .returned (.int .i64 (Fl.mvN 2 s3.g : Int)) ∧ LW PF w (fun k => X k ∨ (wr.heap.size ≤ k ∧ k < v1.heap.size)) v1 w' p (s3.mov 2) lf n (mm + 1)) := Lib.hid (HL4.out.call (HL4.out.li.mov 2) fun F hF => HP.out.move hF HL4.out.li.fit 2 (by decide))
                generalize (Fl.mvN 2 s3.g : Int) = E3 at *
                go_wp2_with (first
                  | (go_at_call 18
                     refine HMV.out.mono ?_
                     rintro e v5 ⟨rfl, hl⟩
                     have HL5 := Lib.hid hl
                     clear hl))
                go_meet
                exact ⟨k + 1, _, mm + 1, by go_num, by omega, by have := HMI.out; omega, HL.out.back HB1.out HL5.out fun _ => .inl⟩
              · have e8 : (E == 8) = false := by rw [beq_eq_false_iff_ne]; exact hE8
                clear hE8
                have HMV : Hid (Calls Tryz.prog 18 #[.pointer (some ⟨p, 0, none⟩), .int .i64 2] v3 fun e w' => e = .returned (.int .i64 (Fl.mvN 2 (s.pin (othT y) ⟨⟨#[]⟩, ⟨#[]⟩, 0⟩ (2 + z)).g : Int)) ∧ LW PF w (fun k => X k ∨ (wr.heap.size ≤ k ∧ k < v1.heap.size)) v1 w' p ((s.pin (othT y) ⟨⟨#[]⟩, ⟨#[]⟩, 0⟩ (2 + z)).mov 2) lf n (mm + 1)) := Lib.hid (HL3.out.call (HL3.out.li.mov 2) fun F hF => HP.out.move hF HL3.out.li.fit 2 (by decide))
                generalize (Fl.mvN 2 (s.pin (othT y) ⟨⟨#[]⟩, ⟨#[]⟩, 0⟩ (2 + z)).g : Int) = E3 at *
                go_wp2_with (first
                  | (go_at_call 18
                     refine HMV.out.mono ?_
                     rintro e v5 ⟨rfl, hl⟩
                     have HL5 := Lib.hid hl
                     clear hl))
                go_meet
                exact ⟨k + 1, _, mm + 1, by go_num, by omega, by have := HMI.out; omega, HL.out.back HB1.out HL5.out fun _ => .inl⟩
            · have k1 : ¬ (k : Int) < (q : Int) := by omega
              go_wp2_with fail
              go_meet
              exact ⟨k, s, mm, rfl, HKQ.out, by have := HMI.out; omega, HL.out⟩
          case rest =>
            obtain ⟨k2, s2, mm2, rfl, hk2, hm2, hl2⟩ := hcut
            have HKQ2 := Lib.hid hk2
            have HMI2 := Lib.hid hm2
            have HL2 := Lib.hid hl2
            clear hk2 hm2 hl2 HL HKQ HMI
            generalize wc = v0 at *
            obtain ⟨lft, hlft⟩ : ∃ x, x = s2.g.left := ⟨_, rfl⟩
            have hl9 := HL2.out.li.left
            have HLE := Lib.hid (sread16 HL2.out.st fun F hF => HP.out.left hF HL2.out.li.fit)
            rw [← hlft] at hl9 HLE
            have c128 : ¬ (128 : Int) < (lft : Int) := by omega
            have zl : IntKind.i64.wrap (lf - 1) = lf - 1 := by have := HLF.out; rw [IntKind.wrap_i64]; omega
            have hmb : mm2 < 4611686018427387904 := by have := HMI2.out; omega
            clear hlft hl9
            go_upto_region 24 with (first
              | (go_at_call 19
                 refine HLE.out.mono ?_
                 rintro e v1 ⟨rfl, hb⟩
                 have HL3 := Lib.hid (HL2.out.step HP.out hb)
                 clear hb))
            clear HLE HL2 c128
            have HTK := Lib.hid (HL3.out.told HP.out hmb)
            have HL3F := Lib.hid HL3.out.li.fit
            have HEND := Lib.hid HL3.out.li.ends
            have HLEN : Hid (s2.out.length ≤ 256) := Lib.hid (Fl.out_len HL3.out.li.fit.ok)
            obtain ⟨O, hO⟩ : ∃ O, O = s2.out := ⟨_, rfl⟩
            rw [← hO] at HLEN
            rw [← hO] at HTK HEND
            clear hmb hO
            go_wp2_with (first
              | (go_at_call 14
                 refine HTK.out.mono ?_
                 rintro e v2 ⟨E, dE, rfl, ho, hl, hk⟩
                 have HOE := Lib.hid ho
                 have HL4 := Lib.hid hl
                 have HK4 := Lib.hid hk
                 clear ho hl hk))
            clear HTK zl
            have HA4 : Hid (v2.heap[b]? = some (.cells C 38 (0, 0))) := Lib.hid ((HK4.out b HX1.out.1).trans HA3.out)
            have HQ4 : Hid (v2.heap[b + 1]? = some (.cells #[.string ⟨#[118]⟩, .string ⟨#[111, 119, 110]⟩, .int .u64 3] 41 (0, 0))) := Lib.hid ((HK4.out (b + 1) HX1.out.2.1).trans HQ3.out)
            go_loopw [19, 120] (fun ve vi w3 => ∃ a : Nat, a ≤ O.length ∧ vi = .int .i64 (a : Int) ∧ ve = .bool ((O.take a).any fun r => r.t.eq ownT) ∧ LW PF w (fun k => X k ∨ E.map (·.block) = some k) v2 w3 p s2.tick (lf - 1) n (mm2 + 1)) (fun _ vi _ => O.length - (intOf vi).toNat)
            case atStart => exact ⟨0, Nat.zero_le _, rfl, rfl, HL4.out⟩
            case round =>
              obtain ⟨a, ha, rfl, rfl, hl5⟩ := hrel
              have HL5 := Lib.hid hl5
              clear hl5 HL4
              generalize wr = w3 at *
              obtain ⟨ve, hve⟩ : ∃ v, v = ((O.take a).any fun r => r.t.eq ownT) := ⟨_, rfl⟩
              rw [← hve]
              by_cases hal : a < O.length
              · obtain ⟨r, hr⟩ : ∃ r, O[a]? = some r := ⟨_, List.getElem?_eq_getElem hal⟩
                have HVE := Lib.hid hve
                have HRR := Lib.hid hr
                obtain ⟨g6, hg6, hlo, hg9, hcl⟩ := fl_row HOE.out rfl hr
                have hc5 : ∀ i, i < 41 → w3.cell? ⟨g6, a * 41 + i, none⟩ = some ((Fr.c r).getD i undef) := fun i hi => by
                  rw [kept_cell_block (p := ⟨g6, a * 41 + i, none⟩) (HL5.out.same g6 (.inr (by rw [hg6]; rfl)))]
                  exact hcl i hi
                obtain ⟨R, hR⟩ : ∃ R, R = Fr.c r := ⟨_, rfl⟩
                obtain ⟨T, hT⟩ : ∃ T, T = r.t.c := ⟨_, rfl⟩
                have HRS : Hid (R.size = 41) := Lib.hid (by rw [hR]; exact flc_size r)
                have HRO : Hid (R.all (·.oneCell') = true) := Lib.hid (by rw [hR]; exact flc_one r)
                have HTS : Hid (T.size = 36) := Lib.hid (by rw [hT]; rfl)
                have HRT : Hid (∀ i, i < T.size → R.getD (0 + i) undef = T.getD i undef) := Lib.hid fun i hi => by
                  rw [hR, hT]
                  exact flc_t r i (by rw [← hT]; exact hi)
                rw [← hR] at hc5
                have HRG : Hid (w3.rangeAt g6 (a * 41) R.toList) := Lib.hid (rng_of (o := a * 41) hc5 0 R (by rw [HRS.out]; decide) fun i _ => by rw [Nat.zero_add])
                have HEQ : Hid (∀ W : World, (Op.equalIn 10000 38 (.agg T) (.agg C)).run Tryz.prog W = .ok (r.t.eq ownT) W) := Lib.hid fun W => by
                  rw [hT, HC.out]
                  exact eqTp 9997 r.t ownT W
                have HI41 : Hid ((Tryz.prog.info? 59).map (·.size) = some 41) := Lib.hid (by kernel_rfl)
                have HN : Hid ((w3.alloc (.cells flz 59)).heap[w3.heap.size]? = some (.cells flz 59 (0, 0))) := Lib.hid (heap_alloc_new w3 _)
                have HB5 : Hid (Below w3.heap.size w3 ((w3.alloc (.cells flz 59)).setRow w3.heap.size R)) := Lib.hid (below_setRow (below_alloc w3 _) (Nat.le_refl _) _)
                have HR5 : Hid (((w3.alloc (.cells flz 59)).setRow w3.heap.size R).heap[w3.heap.size]? = some (.cells R 59 (0, 0))) := Lib.hid (setRow_heap _ _ _ _ _ _ (heap_alloc_new w3 _))
                have a0 : (0 : Int) ≤ (a : Int) := by omega
                have a1 : (a : Int) < (O.length : Int) := by omega
                have a2 : ((a : Int)).toNat = a := by omega
                subst hg6
                clear hve hr hlo hg9 hcl hc5 hR hT
                have za : IntKind.i64.wrap ((a : Int) + 1) = (a : Int) + 1 := by have := HLEN.out; rw [IntKind.wrap_i64]; omega
                go_upto_region 30 with (first
                  | (refine wpList_load_in rfl 59 (.tmp 122) rfl g6 (a * 41) rfl R _ HRG.out Tryz.underlying59 rfl (HI41.out.trans (by rw [Array.length_toList, HRS.out])) ?_)
                  | (refine wpList_store_row rfl 59 (.tmp 21) (.tmp 123) rfl w3.heap.size R rfl rfl 59 flz HN.out (HI41.out.trans (by rw [HRS.out])) (by rw [HRS.out]; rfl) HRO.out ?_))
                change Code.wp _ _ _ _ ((w3.alloc (.cells flz 59)).setRow w3.heap.size R)
                simp only [Act.put]
                have HL6 := Lib.hid (HL5.out.step HP.out HB5.out)
                clear HN HRG
                generalize (w3.alloc (.cells flz 59)).setRow w3.heap.size R = w4 at *
                generalize w3.heap.size = b21 at *
                have HA6 : Hid (w4.heap[b]? = some (.cells C 38 (0, 0))) := Lib.hid ((HL6.out.same b (.inl HX1.out.1)).trans HA4.out)
                have HT6 : Hid (w4.rangeAt b21 0 T.toList) := Lib.hid (rng_of (o := 0) (k := 0) (R := R) (fun i hi => by
                  rw [blk_cell HR5.out, Nat.zero_add, Array.getElem?_eq_getElem (by rw [HRS.out]; exact hi), Array.getD_eq_getD_getElem?, Array.getElem?_eq_getElem (by rw [HRS.out]; exact hi)]
                  rfl) T (by rw [HTS.out]; decide) HRT.out)
                have hEq := HEQ.out
                obtain ⟨eb, heb⟩ : ∃ e, e = r.t.eq ownT := ⟨_, rfl⟩
                rw [← heb] at hEq
                have HEB := Lib.hid heb
                clear heb HEQ
                cases ve with
                | true =>
                  go_wp2_with fail
                  go_roundw
                  case rel => exact ⟨a + 1, by omega, by go_num, by rw [any_snoc O _ HRR.out, ← HVE.out]; rfl, HL6.out⟩
                  case measure => simp [intOf]; omega
                | false =>
                  go_wp2_with (first
                    | (refine wpList_load_in rfl 38 (.tmp 126) rfl b21 0 rfl T _ HT6.out Tryz.underlying38 rfl (HI36.out.trans (by rw [Array.length_toList, HTS.out])) ?_)
                    | (refine wpList_load_roww rfl 38 (.tmp 10) rfl b rfl 38 C (0, 0) _ HA6.out Tryz.underlying38 rfl (HI36.out.trans (by rw [HCS.out])) ?_))
                  go_roundw
                  case rel => exact ⟨a + 1, by omega, by go_num, by rw [any_snoc O _ HRR.out, ← HVE.out, ← HEB.out]; rfl, HL6.out⟩
                  case measure => simp [intOf]; omega
              · obtain rfl : a = O.length := by omega
                rw [List.take_length] at hve
                have hve2 := hve.trans HEND.out
                have a1 : ¬ (O.length : Int) < (O.length : Int) := by omega
                have HA5 : Hid (w3.heap[b]? = some (.cells C 38 (0, 0))) := Lib.hid ((HL5.out.same b (.inl HX1.out.1)).trans HA4.out)
                have HI41 : Hid ((Tryz.prog.info? 59).map (·.size) = some 41) := Lib.hid (by kernel_rfl)
                clear hve hal ha
                rcases (show lf = 1 ∨ 1 < lf ∨ lf ≤ 0 by omega) with c | c | c
                · have hv : ve = true := hve2.trans (decide_eq_true c)
                  have e0 : (lf - 1 == 0) = true := by rw [beq_iff_eq]; omega
                  have g0 : ¬ 0 < lf - 1 := by omega
                  have hgn := HL5.out.li.no (by omega)
                  obtain ⟨Z, hZ⟩ : ∃ Z, Z = flz := ⟨_, rfl⟩
                  have HZS : Hid (Z.size = 41) := Lib.hid (by rw [hZ]; rfl)
                  have HZO : Hid (Z.all (·.oneCell') = true) := Lib.hid (by rw [hZ]; simp [flz, tupc, Value.oneCell'])
                  have HGT : Hid (Calls Tryz.prog 20 #[.pointer (some ⟨p, 0, none⟩), .agg C] w3 (ret (.tuple #[.agg Z, .bool false]) w3)) := Lib.hid (by
                    have h := sread16 HL5.out.st fun F hF => HP.out.get hF HL5.out.li.fit ownT ownT_ok
                    rw [← HC.out, show s2.tick.getV ownT = .agg Z by unfold Fl.getV; rw [hgn, hZ], hgn] at h
                    exact h)
                  clear hZ hgn
                  rw [hv]
                  clear hv hve2 c
                  go_upto_region 33 with (first
                    | (refine wpList_load_roww rfl 38 (.tmp 10) rfl b rfl 38 C (0, 0) _ HA5.out Tryz.underlying38 rfl (HI36.out.trans (by rw [HCS.out])) ?_)
                    | (go_at_call 20
                       refine HGT.out.mono ?_
                       rintro e w5 ⟨rfl, hb⟩
                       have HB5 := Lib.hid hb
                       have HN : Hid ((w5.alloc (.cells flz 59)).heap[w5.heap.size]? = some (.cells flz 59 (0, 0))) := Lib.hid (heap_alloc_new w5 _)
                       clear hb)
                    | (refine wpList_store_row rfl 59 (.tmp 22) (.tmp 136) rfl w5.heap.size Z rfl rfl 59 flz HN.out (HI41.out.trans (by rw [HZS.out])) (by rw [HZS.out]; rfl) HZO.out ?_))
                  change Code.wp _ _ _ _ ((w5.alloc (.cells flz 59)).setRow w5.heap.size Z)
                  have HB6 : Hid (Below w3.heap.size w3 ((w5.alloc (.cells flz 59)).setRow w5.heap.size Z)) := Lib.hid (below_setRow (HB5.out.alloc HB5.out.size _) HB5.out.size Z)
                  have HR6 : Hid (((w5.alloc (.cells flz 59)).setRow w5.heap.size Z).heap[w5.heap.size]? = some (.cells Z 59 (0, 0))) := Lib.hid (setRow_heap _ _ _ _ _ _ (heap_alloc_new w5 _))
                  have HL6 := Lib.hid (HL5.out.step HP.out HB6.out)
                  clear HN HGT HB5
                  generalize (w5.alloc (.cells flz 59)).setRow w5.heap.size Z = w6 at *
                  generalize w5.heap.size = b22 at *
                  go_wp2_with fail
                  go_roundw
                  case rel => exact ⟨j + 1, k2, s2.tick, lf - 1, mm2 + 1, by omega, by go_num, rfl, rfl, HKQ2.out, ⟨by have := HLF.out.1; omega, by have := HLF.out.2; omega⟩, by have := HMI2.out; omega, HL6.out.less (fun _ => .inl) fun k hk => HK4.out k hk⟩
                  case measure => simp [intOf]; omega
                · have hv : ve = false := hve2.trans (decide_eq_false (by omega))
                  have e0 : (lf - 1 == 0) = false := by rw [beq_eq_false_iff_ne]; omega
                  have g0 : 0 < lf - 1 := by omega
                  obtain ⟨r, hgr, hrp, hrs, _⟩ := HL5.out.li.yes (by omega)
                  obtain ⟨Z, hZ⟩ : ∃ Z, Z = Fr.c r := ⟨_, rfl⟩
                  have HZS : Hid (Z.size = 41) := Lib.hid (by rw [hZ]; exact flc_size r)
                  have HZO : Hid (Z.all (·.oneCell') = true) := Lib.hid (by rw [hZ]; exact flc_one r)
                  have HZT : Hid (∀ i, i < 5 → Z.getD (36 + i) undef = (#[.string ⟨#[118]⟩, .string ⟨#[111, 119, 110]⟩, .int .u64 3, .int .u8 1, .int .u64 (r.due : Int)] : Array Value).getD i undef) := Lib.hid fun i hi => by
                    rw [hZ, flc_tail r i hi, hrp, hrs]
                    rfl
                  have HGT : Hid (Calls Tryz.prog 20 #[.pointer (some ⟨p, 0, none⟩), .agg C] w3 (ret (.tuple #[.agg Z, .bool true]) w3)) := Lib.hid (by
                    have h := sread16 HL5.out.st fun F hF => HP.out.get hF HL5.out.li.fit ownT ownT_ok
                    rw [← HC.out, show s2.tick.getV ownT = .agg Z by unfold Fl.getV; rw [hgr, hZ], hgr] at h
                    exact h)
                  clear hZ hgr hrp hrs
                  rw [hv]
                  clear hv hve2 c
                  go_upto_region 33 with (first
                    | (refine wpList_load_roww rfl 38 (.tmp 10) rfl b rfl 38 C (0, 0) _ HA5.out Tryz.underlying38 rfl (HI36.out.trans (by rw [HCS.out])) ?_)
                    | (go_at_call 20
                       refine HGT.out.mono ?_
                       rintro e w5 ⟨rfl, hb⟩
                       have HB5 := Lib.hid hb
                       have HN : Hid ((w5.alloc (.cells flz 59)).heap[w5.heap.size]? = some (.cells flz 59 (0, 0))) := Lib.hid (heap_alloc_new w5 _)
                       clear hb)
                    | (refine wpList_store_row rfl 59 (.tmp 22) (.tmp 136) rfl w5.heap.size Z rfl rfl 59 flz HN.out (HI41.out.trans (by rw [HZS.out])) (by rw [HZS.out]; rfl) HZO.out ?_))
                  change Code.wp _ _ _ _ ((w5.alloc (.cells flz 59)).setRow w5.heap.size Z)
                  have HB6 : Hid (Below w3.heap.size w3 ((w5.alloc (.cells flz 59)).setRow w5.heap.size Z)) := Lib.hid (below_setRow (HB5.out.alloc HB5.out.size _) HB5.out.size Z)
                  have HR6 : Hid (((w5.alloc (.cells flz 59)).setRow w5.heap.size Z).heap[w5.heap.size]? = some (.cells Z 59 (0, 0))) := Lib.hid (setRow_heap _ _ _ _ _ _ (heap_alloc_new w5 _))
                  have HL6 := Lib.hid (HL5.out.step HP.out HB6.out)
                  clear HN HGT HB5
                  generalize (w5.alloc (.cells flz 59)).setRow w5.heap.size Z = w6 at *
                  generalize w5.heap.size = b22 at *
                  have hc6 : ∀ i, i < 41 → w6.cell? ⟨b22, 0 + i, none⟩ = some (Z.getD i undef) := fun i hi => by
                    rw [blk_cell HR6.out, Nat.zero_add, Array.getElem?_eq_getElem (by rw [HZS.out]; exact hi), Array.getD_eq_getD_getElem?, Array.getElem?_eq_getElem (by rw [HZS.out]; exact hi)]
                    rfl
                  have HP6 : Hid (w6.rangeAt b22 36 (#[.string ⟨#[118]⟩, .string ⟨#[111, 119, 110]⟩, .int .u64 3] : Array Value).toList) := Lib.hid (rng_of (o := 0) hc6 36 #[.string ⟨#[118]⟩, .string ⟨#[111, 119, 110]⟩, .int .u64 3] (by decide) fun i hi => by
                    have hi : i < 3 := hi
                    rw [HZT.out i (by omega)]
                    rcases (show i = 0 ∨ i = 1 ∨ i = 2 by omega) with rfl | rfl | rfl <;> rfl)
                  have y39 : w6.cell? ⟨b22, 39, none⟩ = some (.int .u8 1) := (hc6 39 (by decide)).trans (congrArg some (HZT.out 3 (by decide)))
                  have HQ6 : Hid (w6.heap[b + 1]? = some (.cells #[.string ⟨#[118]⟩, .string ⟨#[111, 119, 110]⟩, .int .u64 3] 41 (0, 0))) := Lib.hid ((HL6.out.same (b + 1) (.inl HX1.out.2.1)).trans HQ4.out)
                  have hPE : ∀ W : World, (Op.equalIn 10000 41 (.agg #[.string ⟨#[118]⟩, .string ⟨#[111, 119, 110]⟩, .int .u64 3]) (.agg #[.string ⟨#[118]⟩, .string ⟨#[111, 119, 110]⟩, .int .u64 3])).run Tryz.prog W = .ok true W := fun W => by kernel_rfl
                  clear hc6
                  go_wp2_with (first
                    | (refine wpList_load_in rfl 41 (.tmp 155) rfl b22 36 rfl #[.string ⟨#[118]⟩, .string ⟨#[111, 119, 110]⟩, .int .u64 3] _ HP6.out Tryz.underlying41 rfl (by kernel_rfl) ?_)
                    | (refine wpList_load_roww rfl 41 (.tmp 11) rfl (b + 1) rfl 41 #[.string ⟨#[118]⟩, .string ⟨#[111, 119, 110]⟩, .int .u64 3] (0, 0) _ HQ6.out Tryz.underlying41 rfl (by kernel_rfl) ?_))
                  go_roundw
                  case rel => exact ⟨j + 1, k2, s2.tick, lf - 1, mm2 + 1, by omega, by go_num, rfl, rfl, HKQ2.out, ⟨by have := HLF.out.1; omega, by have := HLF.out.2; omega⟩, by have := HMI2.out; omega, HL6.out.less (fun _ => .inl) fun k hk => HK4.out k hk⟩
                  case measure => simp [intOf]; omega
                · have hv : ve = false := hve2.trans (decide_eq_false (by omega))
                  have e0 : (lf - 1 == 0) = false := by rw [beq_eq_false_iff_ne]; omega
                  have g0 : ¬ 0 < lf - 1 := by omega
                  have hgn := HL5.out.li.no (by omega)
                  obtain ⟨Z, hZ⟩ : ∃ Z, Z = flz := ⟨_, rfl⟩
                  have HZS : Hid (Z.size = 41) := Lib.hid (by rw [hZ]; rfl)
                  have HZO : Hid (Z.all (·.oneCell') = true) := Lib.hid (by rw [hZ]; simp [flz, tupc, Value.oneCell'])
                  have HGT : Hid (Calls Tryz.prog 20 #[.pointer (some ⟨p, 0, none⟩), .agg C] w3 (ret (.tuple #[.agg Z, .bool false]) w3)) := Lib.hid (by
                    have h := sread16 HL5.out.st fun F hF => HP.out.get hF HL5.out.li.fit ownT ownT_ok
                    rw [← HC.out, show s2.tick.getV ownT = .agg Z by unfold Fl.getV; rw [hgn, hZ], hgn] at h
                    exact h)
                  clear hZ hgn
                  rw [hv]
                  clear hv hve2 c
                  go_upto_region 33 with (first
                    | (refine wpList_load_roww rfl 38 (.tmp 10) rfl b rfl 38 C (0, 0) _ HA5.out Tryz.underlying38 rfl (HI36.out.trans (by rw [HCS.out])) ?_)
                    | (go_at_call 20
                       refine HGT.out.mono ?_
                       rintro e w5 ⟨rfl, hb⟩
                       have HB5 := Lib.hid hb
                       have HN : Hid ((w5.alloc (.cells flz 59)).heap[w5.heap.size]? = some (.cells flz 59 (0, 0))) := Lib.hid (heap_alloc_new w5 _)
                       clear hb)
                    | (refine wpList_store_row rfl 59 (.tmp 22) (.tmp 136) rfl w5.heap.size Z rfl rfl 59 flz HN.out (HI41.out.trans (by rw [HZS.out])) (by rw [HZS.out]; rfl) HZO.out ?_))
                  change Code.wp _ _ _ _ ((w5.alloc (.cells flz 59)).setRow w5.heap.size Z)
                  have HB6 : Hid (Below w3.heap.size w3 ((w5.alloc (.cells flz 59)).setRow w5.heap.size Z)) := Lib.hid (below_setRow (HB5.out.alloc HB5.out.size _) HB5.out.size Z)
                  have HR6 : Hid (((w5.alloc (.cells flz 59)).setRow w5.heap.size Z).heap[w5.heap.size]? = some (.cells Z 59 (0, 0))) := Lib.hid (setRow_heap _ _ _ _ _ _ (heap_alloc_new w5 _))
                  have HL6 := Lib.hid (HL5.out.step HP.out HB6.out)
                  clear HN HGT HB5
                  generalize (w5.alloc (.cells flz 59)).setRow w5.heap.size Z = w6 at *
                  generalize w5.heap.size = b22 at *
                  go_wp2_with fail
                  go_roundw
                  case rel => exact ⟨j + 1, k2, s2.tick, lf - 1, mm2 + 1, by omega, by go_num, rfl, rfl, HKQ2.out, ⟨by have := HLF.out.1; omega, by have := HLF.out.2; omega⟩, by have := HMI2.out; omega, HL6.out.less (fun _ => .inl) fun k hk => HK4.out k hk⟩
                  case measure => simp [intOf]; omega
        · obtain rfl : j = xr := by omega
          have j1 : ¬ (j : Int) < (j : Int) := by omega
          have HA5 : Hid (wr.heap[b]? = some (.cells C 38 (0, 0))) := Lib.hid ((HL.out.same b HX1.out.1).trans HA3.out)
          have zi1 : IntKind.i64.wrap ((i : Int) + 1) = (i : Int) + 1 := by rw [IntKind.wrap_i64]; omega
          have HTO : Hid (Calls Tryz.prog 21 #[.pointer (some ⟨p, 0, none⟩), .agg C, .int .u8 1] wr fun e w' => e = .returned (.int .i64 (if 0 < lf then 0 else 7)) ∧ LW PF w X u3 w' p (s.tou ownT 1) (if 0 < lf then (n : Int) else lf) n (mm + 1)) := Lib.hid (by
            have h9 := HMI.out
            have hc := HL.out.call (HL.out.li.tou (by omega) HNN.out.1) fun F hF => HP.out.touch hF HL.out.li.fit (by omega) ownT 1 ownT_ok (by decide)
            rw [HL.out.li.touE, ← HC.out] at hc
            exact hc)
          have him := HIM.out
          clear hjx hj
          by_cases c : 0 < lf
          · rw [if_pos c, if_pos c] at HTO
            go_wp2_with (first
              | (refine wpList_load_roww rfl 38 (.tmp 10) rfl b rfl 38 C (0, 0) _ HA5.out Tryz.underlying38 rfl (HI36.out.trans (by rw [HCS.out])) ?_)
              | (go_at_call 21
                 refine HTO.out.mono ?_
                 rintro e v1 ⟨rfl, hl⟩
                 have HL6 := Lib.hid hl
                 clear hl))
            go_roundw
            case rel => exact ⟨i + 1, k, _, (n : Int), mm + 1, by omega, by go_num, rfl, rfl, HKQ.out, ⟨by have := HNN.out; omega, by have := HNN.out; omega⟩, by have := HMI.out; omega, HL6.out⟩
            case measure => simp [intOf]; omega
          · rw [if_neg c, if_neg c] at HTO
            go_wp2_with (first
              | (refine wpList_load_roww rfl 38 (.tmp 10) rfl b rfl 38 C (0, 0) _ HA5.out Tryz.underlying38 rfl (HI36.out.trans (by rw [HCS.out])) ?_)
              | (go_at_call 21
                 refine HTO.out.mono ?_
                 rintro e v1 ⟨rfl, hl⟩
                 have HL6 := Lib.hid hl
                 clear hl))
            go_roundw
            case rel => exact ⟨i + 1, k, _, lf, mm + 1, by omega, by go_num, rfl, rfl, HKQ.out, ⟨by have := HLF.out.1; omega, HLF.out.2⟩, by have := HMI.out; omega, HL6.out⟩
            case measure => simp [intOf]; omega
    · have hI9 := HI.out
      obtain rfl : i = m + 1 := by omega
      have i1 : ¬ ((m + 1 : Nat) : Int) < (m : Int) + 1 := by omega
      have HBW := Lib.hid HL.out.st.below
      go_wp2_with (first
        | (go_at_call 7
           refine (HKN.out _).mono ?_
           rintro e v4 ⟨rfl, hb⟩
           have HB4 := Lib.hid hb
           clear hb))
      go_ret
      exact ⟨rfl, HBW.out.trans (HB4.out.mono HBW.out.size)⟩
end
end Go.Proofs.YtimcdnbfdkpffaaGreat
