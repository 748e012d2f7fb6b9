import Derived.Test.YtimcdnbfdkpffaaGreatGm15
import Derived.BigQuiet
/- Stage 16: the page's examples. -/
namespace Go.Proofs.YtimcdnbfdkpffaaGreat
set_option maxRecDepth 100000
open Go.RowKit Go.Shelf
section
variable {σ : Type} {PA : World → Nat → σ → (Nat → Prop) → Prop} {w W : World} {X : Nat → Prop} {p : Nat} {s s' : σ}
/-- A call on an object that tells a row of its own: it stands beside. -/
theorem StG.told {P : Program} {fn : FuncId} {args : Array Value} {K : Ending → Option Addr → Nat → Prop} {ty : TypeId} {sz n : Nat} {f : Nat → Value} (h : StG PA w X W p s)
    (hc : ∀ F, PA W p s F → Calls P fn args W fun e w' => ∃ E dE, K e E dE ∧ OwnC w' W.heap.size ty sz E n dE f ∧ ∃ F', PA w' p s' F' ∧ ExtG F F' W w' ∧ ∀ k, E.map (·.block) = some k → ¬ F' k) :
    Calls P fn args W fun e w' => ∃ E dE, K e E dE ∧ OwnC w' W.heap.size ty sz E n dE f ∧ StG PA w (fun k => X k ∨ E.map (·.block) = some k) w' p s' ∧ ∀ k, X k → w'.heap[k]? = W.heap[k]? := by
  obtain ⟨F, hF, h1, h2, h3⟩ := h
  refine (hc F hF).mono ?_
  rintro e w' ⟨E, dE, he, ho, F', hp, hx, hn⟩
  obtain ⟨⟨F2, g1, g2, g3, g4⟩, g5⟩ := StG.ext h1 h2 h3 hp hx
  have hE : ∀ k, E.map (·.block) = some k → k < w'.heap.size := fun k hk => by
    obtain ⟨a, ha, rfl⟩ := Option.map_eq_some_iff.1 hk
    exact (World.ownsRow.lt ho a.block (by rw [ha]; rfl)).2
  exact ⟨E, dE, he, ho, ⟨F', hp, fun k hk => ⟨by
    rcases hx.sub k hk with q | q
    · exact (h1 k q).1
    · exact Nat.le_trans h3.size q.1, fun q => by
    rcases q with q | q
    · rcases hx.sub k hk with r | r
      · exact (h1 k r).2 q
      · exact absurd (h2 k q) (by omega)
    · exact hn k q hk⟩, fun k hk => by
    rcases hk with q | q
    · exact g3 k q
    · exact hE k q, g4⟩, g5⟩
/-- A struct is laid beside it. -/
theorem StG.row (h : StG PA w X W p s) (HC : FootG PA) (z C : Array Value) (T : TypeId) : StG PA w (fun k => X k ∨ k = W.heap.size) ((W.alloc (.cells z T)).setRow W.heap.size C) p s ∧ ((W.alloc (.cells z T)).setRow W.heap.size C).heap[W.heap.size]? = some (.cells C T (0, 0)) ∧ ∀ k, X k → ((W.alloc (.cells z T)).setRow W.heap.size C).heap[k]? = W.heap[k]? :=
  ⟨(h.box HC (.cells z T)).turn HC (R := fun k => k = W.heap.size) ((Kept.refl (fun k => k = W.heap.size) _).setRow (.inl rfl) C) (fun k e => ⟨.inr e, by rw [e]; exact h.below.size⟩), setRow_heap _ _ z C T (0, 0) (heap_alloc_new W _), fun k hk => (((Kept.refl (fun k => k = W.heap.size) W).alloc (.cells z T)).setRow (.inl rfl) C).block k (h.xold k hk) fun e => absurd (h.xold k hk) (by omega)⟩
theorem sread16 {Q : Prop} (h : StG PA w X W p s) (hc : ∀ F, PA W p s F → Q) : Q := by
  obtain ⟨F, hF, _⟩ := h
  exact hc F hF
end
theorem wpList_bw {ops : Array Oper} {rest : List Oper} {op : Oper} {a : Act} {w : World} {Q : Exit → Act → World → Prop} (v : Value) (ty : TypeId) (xs : List (Nat × Operand)) (vals : List (Nat × Value)) (hb : ∀ w, (Instr.build ty vals.toArray).run Tryz.prog w = .ok v w) (ho : op.op = .build ty xs.toArray) (hw : Region.wanted op (yielded ops a.tmps) = true) (hx : (xs.map fun p => (p.1, a.eval p.2)) = vals)
    (h : wpList Tryz.prog ops Q rest (a.put op.dst v) w) : wpList Tryz.prog ops Q (op :: rest) a w := by
  refine BigFrame.wpList_want hw fun K hK => ?_
  unfold Oper.wp execOp
  simp only [ho, List.map_toArray, hx, Sem.run_bind, Sem.run_pure, Result.andThen_ok, hb]
  exact hK _ _ h
theorem wpList_load_in {P : Program} {ops : Array Oper} {rest : List Oper} {op : Oper} {a : Act} {w : World} {Q : Exit → Act → World → Prop} (hw : Region.wanted op (yielded ops a.tmps) = true) (ty : TypeId) (x : Operand) (ho : op.op = .load ty x)
    (b o : Nat) (hx : a.eval x = .pointer (some ⟨b, o, none⟩)) (cs : Array Value) (d : TypeDesc) (hc : w.rangeAt b o cs.toList) (hu : P.underlying ty = some d) (hd : d.isRow = true) (hi : (P.info? ty).map (·.size) = some cs.toList.length)
    (h : wpList P ops Q rest (a.put op.dst (.agg cs)) w) : wpList P ops Q (op :: rest) a w := by
  refine BigFrame.wpList_want hw fun K hK => ?_
  unfold Oper.wp execOp
  simp only [ho, hx, Instr.loadAt, Instr.sureAddr, Sem.run_bind, Sem.run_pure, Result.andThen_ok, run_loadVar_mid w b o ty cs.toList d hc hu hd hi]
  exact hK _ _ h
theorem flc_size (r : Fr) : (Fr.c r).size = 41 := by
  unfold Fr.c
  rw [Array.size_append, Tp.c_size]
  rfl
theorem flc_one (r : Fr) : (Fr.c r).all (·.oneCell') = true := by
  unfold Fr.c
  rw [Array.all_append, Tp.c_one]
  simp [Value.oneCell']
def tz16 : Array Value := tupc false 0 (fun _ => 0) (fun _ => 0) 0 0
def aT : Tp := ⟨false, 17, fun _ => 0, fun _ => 0, 5, 0⟩
def aP : Pn := ⟨⟨#[118]⟩, ⟨#[98]⟩, 0⟩
theorem zer16 : Byt (fun _ => 0) := fun _ => ⟨Int.le_refl 0, (by decide : (0 : Int) ≤ 255)⟩
theorem aT_ok : aT.Ok := ⟨by decide, zer16, zer16, by decide, by decide, fun _ _ => rfl, fun _ _ => rfl⟩
def fk0 : Fl := Fl.new 4 16 2 2 2 2
def fk1 : Fl := fk0.pin aT aP 1
def fk2 : Fl := fk1.tick
def fk3 : Fl := fk2.tou aT 1
def fk4 : Fl := fk3.tick
def fk5 : Fl := fk4.tick
theorem fk_fit : fk0.Fit 0 ∧ fk1.Fit 1 ∧ fk2.Fit 2 ∧ fk3.Fit 3 ∧ fk4.Fit 4 ∧ fk5.Fit 5 := by
  have f0 : fk0.Fit 0 := Fl.fit_new (by decide) (by decide) (by decide) (by decide) (by decide)
  have f1 : fk1.Fit 1 := Fl.fit_pin f0 (by decide) aT_ok aP 1
  have f2 : fk2.Fit 2 := Fl.fit_tick f1 (by decide)
  have f3 : fk3.Fit 3 := Fl.fit_tou f2 (by decide) aT_ok 1
  have f4 : fk4.Fit 4 := Fl.fit_tick f3 (by decide)
  exact ⟨f0, f1, f2, f3, f4, Fl.fit_tick f4 (by decide)⟩
theorem fk_e1 : fk0.pinE aT 1 = 0 := by decide +kernel
theorem fk_e2 : fk1.out.length = 0 := by decide +kernel
theorem fk_e3 : fk2.touE aT 1 = 0 := by decide +kernel
theorem fk_e4 : fk3.out.length = 0 := by decide +kernel
theorem fk_e7 : fk4.out = [⟨aT, aP, 1, 3, 0, 1⟩] := by kernel_rfl
theorem fk_e6 : (fk5.get aT).isSome = false := by decide +kernel
/-- A flow among those that are told, cell by cell. -/
theorem fl_row {w : World} {base n d : Nat} {A : Option Addr} {L : List Fr} (h : OwnC w base 59 41 A n d (rwc 41 Fr.c L)) (hn : n = L.length) {j : Nat} {r : Fr} (hx : L[j]? = some r) : ∃ g, A = some ⟨g, 0, none⟩ ∧ base ≤ g ∧ g < w.heap.size ∧ ∀ i, i < 41 → w.cell? ⟨g, j * 41 + i, none⟩ = some ((Fr.c r).getD i undef) := by
  have hj : j < L.length := by
    rcases Nat.lt_or_ge j L.length with q | q
    · exact q
    · rw [List.getElem?_eq_none q] at hx
      cases hx
  obtain ⟨g, hg, h1, h2, h3, _⟩ := h.lies (by omega)
  refine ⟨g, hg, h1, h2, fun i hi => ?_⟩
  rw [h3 (j * 41 + i) (by omega), rwc_at hx hi]
/-- Of a row's cells those from one on are a struct's within it. -/
theorem rng_of {w : World} {g o : Nat} {R : Array Value} (h : ∀ i, i < 41 → w.cell? ⟨g, o + i, none⟩ = some (R.getD i undef)) (k : Nat) (cs : Array Value) (hk : k + cs.size ≤ 41) (hc : ∀ i, i < cs.size → R.getD (k + i) undef = cs.getD i undef) : w.rangeAt g (o + k) cs.toList := fun i v hv => by
  have hi : i < cs.size := by
    rcases Nat.lt_or_ge i cs.size with q | q
    · exact q
    · rw [List.getElem?_eq_none (by simpa using q)] at hv
      cases hv
  rw [Nat.add_assoc, h (k + i) (by omega), hc i hi]
  rw [Array.getElem?_toList] at hv
  rw [Array.getD_eq_getD_getElem?, hv]
  rfl
theorem flc_t (r : Fr) (i : Nat) (hi : i < r.t.c.size) : (Fr.c r).getD (0 + i) undef = r.t.c.getD i undef := by
  unfold Fr.c
  rw [Nat.zero_add, Array.getD_eq_getD_getElem?, Array.getD_eq_getD_getElem?, Array.getElem?_append_left hi]
theorem results_rowS {P : Program} {fn : Func} {p : Tmp} {ty : TypeId} (h : fn.results = #[.cell p ty]) (tmps : Array Value) (w : World) (g : Nat) (t : TypeId) (cs : Array Value) (fr : Nat × Nat) (d : TypeDesc)
    (hp : tmps.getD p undef = .pointer (some ⟨g, 0, none⟩)) (hg : w.heap[g]? = some (.cells cs t fr))
    (hu : P.underlying ty = some d) (hd : (match d with | .struct _ | .array _ _ => true | _ => false) = true) (hi : (P.info? ty).map (·.size) = some cs.size) :
    (results fn tmps).run P w = .ok (.agg cs) w := by
  have hp' : tmps[p]?.getD undef = .pointer (some ⟨g, 0, none⟩) := by simpa using hp
  simp [results, h, hp', asAddr, run_loadVar_row w g t ty cs fr d hg hu hd hi]
theorem two_any (w : World) : Calls Tryz.prog 23 #[] w (ret (tmoc 2 2 2 2) w) := by
  have hbd : ∀ W : World, (Instr.build 24 #[(0, .int .u32 2), (1, .int .u32 2), (2, .int .u32 2), (3, .int .u32 2)]).run Tryz.prog W = .ok (.agg #[.int .u32 2, .int .u32 2, .int .u32 2, .int .u32 2]) W := fun W => by kernel_rfl
  have HZ : Hid ((w.alloc (.cells #[.int .u32 2, .int .u32 2, .int .u32 2, .int .u32 2] 24)).heap[w.heap.size]? = some (.cells #[.int .u32 2, .int .u32 2, .int .u32 2, .int .u32 2] 24 (0, 0))) := Lib.hid (heap_alloc_new w _)
  have HB := Lib.hid (below_alloc w (.cells #[.int .u32 2, .int .u32 2, .int .u32 2, .int .u32 2] 24))
  go_enter Tryz.func23, Tryz.ntmps23
  go_wp2
  refine bodyPost_ret (v := tmoc 2 2 2 2) (results_rowS Tryz.results23 _ _ w.heap.size 24 _ (0, 0) _ rfl HZ.out Tryz.underlying24 rfl (by kernel_rfl)) rfl ?_
  exact ⟨rfl, HB.out⟩
set_option maxHeartbeats 2000000 in
theorem fknown_any {PF : World → Nat → Fl → (Nat → Prop) → Prop} {g : Nat} (HP0 : FloP PF g) (w : World) : Calls Tryz.prog 7 #[] w (ret (.bool true) w) := by
  have HP := Lib.hid HP0
  have HTW := Lib.hid two_any
  have HN := Lib.hid fun W => HP0.new 4 16 2 2 2 2 W (by decide) (by decide) (by decide) (by decide) (by decide)
  have hbd : ∀ W : World, (Instr.build 38 #[(1, .int .u8 17), (4, .int .u16 5)]).run Tryz.prog W = .ok (.agg aT.c) W := fun W => by kernel_rfl
  have HFIT := Lib.hid fk_fit
  clear HP0
  go_enter Tryz.func7, Tryz.ntmps7
  go_upto_region 4 with (first
    | (go_at_call 23
       refine (HTW.out _).mono ?_
       rintro e v0 ⟨rfl, hb⟩
       have HBv := Lib.hid hb
       clear hb)
    | (go_at_call 8
       refine (HN.out _).mono ?_
       rintro e u0 ⟨p, F, rfl, hf, hn, hb⟩
       have HS0 := Lib.hid (StG.start (w := w) ⟨F, hf, fun k hk => Nat.le_trans HBv.out.size (hn k hk)⟩ (HBv.out.trans (hb.mono HBv.out.size)))
       clear hf hn hb))
  clear HTW HN HBv
  obtain ⟨C, hC⟩ : ∃ C, C = aT.c := ⟨_, rfl⟩
  rw [← hC] at hbd
  have HCS : Hid (C.size = 36) := Lib.hid (by rw [hC]; rfl)
  have HC := Lib.hid hC
  clear hC
  have HO : Hid (C.all (·.oneCell') = true) := Lib.hid (by rw [HC.out]; exact Tp.c_one aT)
  have HI36 : Hid ((Tryz.prog.info? 38).map (·.size) = some 36) := Lib.hid (by kernel_rfl)
  have HR1 := Lib.hid (HS0.out.row HP.out.foot tz16 C 38)
  have HN : Hid ((u0.alloc (.cells tz16 38)).heap[u0.heap.size]? = some (.cells tz16 38 (0, 0))) := Lib.hid (heap_alloc_new u0 _)
  refine wp_region_list ?_
  refine wpList_bw (.agg C) 38 [(1, .const (.int .u8 17)), (4, .const (.int .u16 5))] [(1, .int .u8 17), (4, .int .u16 5)] hbd ?_ ?_ ?_ ?_
  · with_reducible_and_instances rfl
  · rfl
  · rfl
  simp only [Act.put, List.setIfInBounds_toArray, List.set_cons_succ, List.set_cons_zero]
  go_upto_region 5 with (first
    | (refine wpList_store_row rfl 38 (.tmp 3) (.tmp 25) rfl u0.heap.size C rfl rfl 38 tz16 HN.out (HI36.out.trans (by rw [HCS.out])) (by rw [HCS.out]; rfl) HO.out ?_))
  change Code.wp _ _ _ _ ((u0.alloc (.cells tz16 38)).setRow u0.heap.size C)
  clear HN hbd
  generalize (u0.alloc (.cells tz16 38)).setRow u0.heap.size C = u1 at *
  generalize u0.heap.size = b at *
  obtain ⟨hs1, ha1, _⟩ := HR1.out
  have HS1 := Lib.hid (hs1.less (Y := fun k => k = b) fun k e => .inr e)
  have HA1 := Lib.hid ha1
  clear hs1 ha1 HR1 HS0
  have HPN : Hid (Calls Tryz.prog 16 #[.pointer (some ⟨p, 0, none⟩), .agg C, .agg #[.string ⟨#[118]⟩, .string ⟨#[98]⟩, .int .u64 0], .int .u8 1] u1 fun e w' => e = .returned (.int .i64 0) ∧ StG PF w (fun k => k = b) w' p fk1 ∧ ∀ k, k = b → w'.heap[k]? = u1.heap[k]?) := Lib.hid (by
    have h := HS1.out.call fun F hF => HP.out.pin hF HFIT.out.1 (by decide) aT aP 1 aT_ok (by decide) (by decide)
    rw [HC.out]
    exact fk_e1 ▸ h)
  go_upto_region 6 with (first
    | (refine wpList_load_roww rfl 38 (.tmp 3) rfl b rfl 38 C (0, 0) _ HA1.out Tryz.underlying38 rfl (HI36.out.trans (by rw [HCS.out])) ?_)
    | (go_at_call 16
       refine HPN.out.mono ?_
       rintro e u2 ⟨rfl, hs, hk⟩
       have HS2 := Lib.hid hs
       have HA2 := Lib.hid ((hk b rfl).trans HA1.out)
       clear hs hk))
  clear HPN HS1 HA1
  have HTK : Hid (Calls Tryz.prog 14 #[.pointer (some ⟨p, 0, none⟩)] u2 fun e w' => ∃ E dE, e = .returned (.tuple #[.slice E fk1.out.length dE, .int .i64 0]) ∧ OwnC w' u2.heap.size 59 41 E fk1.out.length dE (rwc 41 Fr.c fk1.out) ∧ StG PF w (fun k => k = b ∨ E.map (·.block) = some k) w' p fk2 ∧ ∀ k, k = b → w'.heap[k]? = u2.heap[k]?) := Lib.hid (HS2.out.told fun F hF => by
    refine (HP.out.tick hF HFIT.out.2.1 (by decide)).mono ?_
    rintro e w' ⟨E, dE, rfl, ho, F', hp, hx, hn⟩
    exact ⟨E, dE, rfl, ho, F', hp, hx, hn⟩)
  rw [fk_e2] at HTK
  go_upto_region 7 with (first
    | (go_at_call 14
       refine HTK.out.mono ?_
       rintro e u3 ⟨E3, d3, rfl, _, hs, hk⟩
       have HS3 := Lib.hid (hs.less (Y := fun k => k = b) fun k e => .inl e)
       have HA3 := Lib.hid ((hk b rfl).trans HA2.out)
       clear hs hk))
  clear HTK HS2 HA2
  have HTO : Hid (Calls Tryz.prog 21 #[.pointer (some ⟨p, 0, none⟩), .agg C, .int .u8 1] u3 fun e w' => e = .returned (.int .i64 0) ∧ StG PF w (fun k => k = b) w' p fk3 ∧ ∀ k, k = b → w'.heap[k]? = u3.heap[k]?) := Lib.hid (by
    have h := HS3.out.call fun F hF => HP.out.touch hF HFIT.out.2.2.1 (by decide) aT 1 aT_ok (by decide)
    rw [HC.out]
    exact fk_e3 ▸ h)
  go_upto_region 8 with (first
    | (refine wpList_load_roww rfl 38 (.tmp 3) rfl b rfl 38 C (0, 0) _ HA3.out Tryz.underlying38 rfl (HI36.out.trans (by rw [HCS.out])) ?_)
    | (go_at_call 21
       refine HTO.out.mono ?_
       rintro e u4 ⟨rfl, hs, hk⟩
       have HS4 := Lib.hid hs
       have HA4 := Lib.hid ((hk b rfl).trans HA3.out)
       clear hs hk))
  clear HTO HS3 HA3
  have HTK : Hid (Calls Tryz.prog 14 #[.pointer (some ⟨p, 0, none⟩)] u4 fun e w' => ∃ E dE, e = .returned (.tuple #[.slice E fk3.out.length dE, .int .i64 0]) ∧ OwnC w' u4.heap.size 59 41 E fk3.out.length dE (rwc 41 Fr.c fk3.out) ∧ StG PF w (fun k => k = b ∨ E.map (·.block) = some k) w' p fk4 ∧ ∀ k, k = b → w'.heap[k]? = u4.heap[k]?) := Lib.hid (HS4.out.told fun F hF => by
    refine (HP.out.tick hF HFIT.out.2.2.2.1 (by decide)).mono ?_
    rintro e w' ⟨E, dE, rfl, ho, F', hp, hx, hn⟩
    exact ⟨E, dE, rfl, ho, F', hp, hx, hn⟩)
  rw [fk_e4] at HTK
  go_upto_region 9 with (first
    | (go_at_call 14
       refine HTK.out.mono ?_
       rintro e u5 ⟨E5, d5, rfl, _, hs, hk⟩
       have HS5 := Lib.hid (hs.less (Y := fun k => k = b) fun k e => .inl e)
       have HA5 := Lib.hid ((hk b rfl).trans HA4.out)
       clear hs hk))
  clear HTK HS4 HA4
  have HTK : Hid (Calls Tryz.prog 14 #[.pointer (some ⟨p, 0, none⟩)] u5 fun e w' => ∃ E dE, e = .returned (.tuple #[.slice E fk4.out.length dE, .int .i64 0]) ∧ OwnC w' u5.heap.size 59 41 E fk4.out.length dE (rwc 41 Fr.c fk4.out) ∧ StG PF w (fun k => k = b ∨ E.map (·.block) = some k) w' p fk5 ∧ ∀ k, k = b → w'.heap[k]? = u5.heap[k]?) := Lib.hid (HS5.out.told fun F hF => by
    refine (HP.out.tick hF HFIT.out.2.2.2.2.1 (by decide)).mono ?_
    rintro e w' ⟨E, dE, rfl, ho, F', hp, hx, hn⟩
    exact ⟨E, dE, rfl, ho, F', hp, hx, hn⟩)
  rw [fk_e7] at HTK
  go_upto_region 10 with (first
    | (go_at_call 14
       refine HTK.out.mono ?_
       rintro e u6 ⟨E6, d6, rfl, ho, hs, hk⟩
       have HS6 := Lib.hid hs
       have HA6 := Lib.hid ((hk b rfl).trans HA5.out)
       have HO6 := Lib.hid ho
       clear hs hk ho))
  clear HTK HS5 HA5
  have HGT : Hid (Calls Tryz.prog 20 #[.pointer (some ⟨p, 0, none⟩), .agg C] u6 (ret (.tuple #[.agg flz, .bool false]) u6)) := Lib.hid (by
    have h := sread16 HS6.out fun F hF => HP.out.get hF HFIT.out.2.2.2.2.2 aT aT_ok
    rw [HC.out]
    have e : fk5.get aT = none := Option.isSome_eq_false_iff.1 fk_e6 |> Option.isNone_iff_eq_none.1
    rw [show fk5.getV aT = .agg flz by unfold Fl.getV; rw [e], e] at h
    exact h)
  obtain ⟨Z, hZ⟩ : ∃ Z, Z = flz := ⟨_, rfl⟩
  rw [← hZ] at HGT
  have HZS : Hid (Z.size = 41) := Lib.hid (by rw [hZ]; rfl)
  have HZO : Hid (Z.all (·.oneCell') = true) := Lib.hid (by rw [hZ]; simp [flz, tupc, Value.oneCell'])
  have HI41 : Hid ((Tryz.prog.info? 59).map (·.size) = some 41) := Lib.hid (by kernel_rfl)
  have HZF : Hid (Z = flz) := Lib.hid hZ
  clear hZ
  go_upto_region 11 with (first
    | (refine wpList_load_roww rfl 38 (.tmp 3) rfl b rfl 38 C (0, 0) _ HA6.out Tryz.underlying38 rfl (HI36.out.trans (by rw [HCS.out])) ?_)
    | (go_at_call 20
       refine HGT.out.mono ?_
       rintro e u7 ⟨rfl, hb⟩
       have HB7 := Lib.hid hb
       have HN : Hid ((u7.alloc (.cells flz 59)).heap[u7.heap.size]? = some (.cells flz 59 (0, 0))) := Lib.hid (heap_alloc_new u7 _)
       clear hb)
    | (refine wpList_store_row rfl 59 (.tmp 12) (.tmp 52) rfl u7.heap.size Z rfl rfl 59 flz HN.out (HI41.out.trans (by rw [HZS.out])) (by rw [HZS.out]; rfl) HZO.out ?_))
  change Code.wp _ _ _ _ ((u7.alloc (.cells flz 59)).setRow u7.heap.size Z)
  have HB8 : Hid (Below u6.heap.size u6 ((u7.alloc (.cells flz 59)).setRow u7.heap.size Z)) := Lib.hid (below_setRow (HB7.out.alloc HB7.out.size _) HB7.out.size Z)
  generalize (u7.alloc (.cells flz 59)).setRow u7.heap.size Z = u8 at *
  clear HN HGT HZF HZS HZO HI41 HB7
  obtain ⟨g6, hg6, hlo, hg9, hcl⟩ := fl_row HO6.out rfl (j := 0) rfl
  have hc8 : ∀ i, i < 41 → u8.cell? ⟨g6, 0 + i, none⟩ = some ((Fr.c ⟨aT, aP, 1, 3, 0, 1⟩).getD i undef) := fun i hi => by
    rw [HB8.out.cell (p := ⟨g6, 0 + i, none⟩) hg9]
    exact hcl i hi
  have hlt8 := Nat.lt_of_lt_of_le hg9 HB8.out.size
  have HRG : Hid (∀ x', (∃ V : Stay u8, x' = V.w) → x'.rangeAt g6 0 C.toList) := Lib.hid (stay_rng hlt8 (by
    rw [HC.out]
    exact rng_of hc8 0 aT.c (by decide) (flc_t _)))
  have Y37 : ∀ V : Stay u8, V.w.cell? ⟨g6, 37, none⟩ = some (.string ⟨#[98]⟩) := fun V => Stay.cell (hc8 37 (by decide)) V
  have HAB : Hid (∀ x', (∃ V : Stay u8, x' = V.w) → x'.heap[b]? = some (.cells C 38 (0, 0))) := Lib.hid (stay_hp ((HB8.out.block b (lt_heap HA6.out)).trans HA6.out))
  have HBW := Lib.hid (HS6.out.below.trans (HB8.out.mono HS6.out.below.size))
  have hEq : ∀ W : World, (Op.equalIn 10000 38 (.agg C) (.agg C)).run Tryz.prog W = .ok true W := fun W => by
    rw [HC.out, eqTp 9997 aT aT W, (Tp.eq_iff aT_ok aT_ok).2 rfl]
  rw [hg6]
  clear hcl hc8 HO6 HS6 HA6 hg6 HB8
  refine wp_region_stay (by kernel_rfl) (by kernel_rfl) ?_
  repeat (first
    | (refine qh_mid rfl 38 (.tmp 78) rfl g6 0 rfl C _ HRG.out Tryz.underlying38 rfl (HI36.out.trans (by rw [← HCS.out]; simp)) ?_
       simp only [Act.put, List.setIfInBounds_toArray, List.set_cons_zero, List.set_cons_succ])
    | (refine qh_row rfl 38 (.tmp 3) rfl b rfl 38 C (0, 0) _ HAB.out Tryz.underlying38 rfl (HI36.out.trans (by rw [HCS.out])) ?_
       simp only [Act.put, List.setIfInBounds_toArray, List.set_cons_zero, List.set_cons_succ])
    | go_big_quiet_step (fail))
  refine wpQuiet_nil ?_
  intro w' hw'
  obtain ⟨V, rfl⟩ := hw'
  have HBV := Lib.hid (HBW.out.trans (V.below.mono HBW.out.size))
  go_wp2_with fail
  go_ret
  exact ⟨rfl, HBV.out⟩
end Go.Proofs.YtimcdnbfdkpffaaGreat
