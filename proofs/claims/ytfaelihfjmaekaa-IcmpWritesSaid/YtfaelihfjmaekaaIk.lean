/- Layer 6: flows and reports compared; the law's known. -/
import Derived.Test.YtfaelihfjmaekaaIg
import Derived.Test.YtfaelihfjmaekaaMo
namespace Go.Proofs.Ytfaelihfjmaekaa
open Go.RowKit
/-- 'copy(b[o:..], s)' in a plain region. -/
theorem wpList_copy_rd {P : Program} {w : World} {ops : Array Oper} {rest : List Oper} {op : Oper} {a : Act} {Q : Exit → Act → World → Prop} (hgd : Region.wanted op (yielded ops a.tmps) = true) (d s : Operand) (t : TypeId)
    (hop : op.op = .call { callee := .builtin .copy, args := #[d, s], argTypes := #[t, t] })
    (base : Nat) (e : TypeId) (ht : P.underlying t = some (.slice e)) (hs : (P.info? e).map (·.size) = some 1) {g n c : Nat} {f : Nat → Int} (hown : Own w base e (some ⟨g, 0, none⟩) n c f)
    {D : Option Addr} {dl dc : Nat} (hd : a.eval d = .slice D dl dc) (o : Nat) (hD : 0 < dl → D = some ⟨g, o, none⟩) (hfit : o + dl ≤ n) {B m c' : Nat} {A : Option Addr} {h : Nat → Int} (hx : a.eval s = .slice A m c') (hr : Rd w B A m h)
    (k : Nat) (hk : k = min m dl) (H : Own (w.setCells g o ((nums k h).map (Value.int .u8))) base e (some ⟨g, 0, none⟩) n c (over o k h f) → wpList P ops Q rest (a.put op.dst (goInt k)) (w.setCells g o ((nums k h).map (Value.int .u8)))) :
    wpList P ops Q (op :: rest) a w := by
  refine BigFrame.wpList_want hgd fun K hK => ?_
  obtain ⟨k', hk', hrun, h2⟩ := run_copy_own (P := P) base t op.type e ht hs hown (dc := dc) hD hfit hr (c' := c')
  obtain rfl : k = k' := hk.trans hk'.symm
  unfold Oper.wp execOp
  simp only [hop, resolve, invoke, builtin, Sem.run_bind, Sem.run_pure, Result.andThen_ok, List.map_toArray, List.map_cons, List.map_nil, hd, hx, hrun]
  exact hK _ _ (H h2)
theorem eqF_step {P : Program} {d : Nat} {xs ys : Array Value} {nm : String} {ty off : Nat} {em : Bool} {tg pk : String} {bo : Nat} {fs : List Field} {a : Value} {w : World} (hn : nm ≠ "_") (p : (part ty xs off).run P w = .ok a w) (q : (part ty ys off).run P w = .ok a w) (h : (Op.equalIn d ty a a).run P w = .ok true w) :
    (Op.eqFields d xs ys ({ name := nm, type := ty, offset := off, embedded := em, tag := tg, pkgPath := pk, byteOffset := bo } :: fs)).run P w = (Op.eqFields d xs ys fs).run P w := by
  rw [Op.eqFields, if_pos hn]
  simp only [Sem.run_bind, p, q, h, Result.andThen_ok, Bool.not_true, Bool.false_eq_true, if_false]
theorem eqT (v : Bool) (pr : Int) (s e : Nat → Int) (sp dp : Int) (w : World) : (Op.equalIn 10000 27 (.agg (tupc v pr s e sp dp)) (.agg (tupc v pr s e sp dp))).run Try.prog w = .ok true w := by
  have hf : Try.prog.underlying 27 = some (.struct (Try.prog.fieldsOf 27)) := by kernel_rfl
  rw [run_equalIn_struct w 9999 27 _ _ hf (by kernel_rfl)]
  have e1 : ∀ (a : Int) (w : World), (Op.equalIn 9999 25 (.int .u16 a) (.int .u16 a)).run Try.prog w = .ok true w := fun a w => by
    have h := run_equalIn_int (P := Try.prog) w 9998 25 .u16 .u16 a a Try.underlying25
    simpa using h
  have e2 : ∀ (b : Bool) (w : World), (Op.equalIn 9999 4 (.bool b) (.bool b)).run Try.prog w = .ok true w := fun b w => by
    have h := run_equalIn_bool' (P := Try.prog) w 9998 4 b b Try.underlying4
    simpa using h
  have e3 : ∀ (a : Int) (w : World), (Op.equalIn 9999 5 (.int .u8 a) (.int .u8 a)).run Try.prog w = .ok true w := fun a w => by
    have h := run_equalIn_int (P := Try.prog) w 9998 5 .u8 .u8 a a Try.underlying5
    simpa using h
  have e4 : ∀ (x : Nat → Int) (w : World), (Op.equalIn 9999 22 (.agg (arr16 x)) (.agg (arr16 x))).run Try.prog w = .ok true w := fun x w => by
    have h := equal_bytes (P := Try.prog) 9997 22 5 16 (arr16 x) (arr16 x) x x Try.underlying22 Try.underlying5 (by kernel_rfl) (fun k hk => arr16_get x k hk) (fun k hk => arr16_get x k hk) w
    rw [eqs_self] at h
    exact h
  have hl : (Try.prog.fieldsOf 27).toList = [{ name := "V6", type := 4, offset := 0, embedded := false, tag := "", pkgPath := "", byteOffset := 0 }, { name := "Proto", type := 5, offset := 1, embedded := false, tag := "", pkgPath := "", byteOffset := 1 }, { name := "Src", type := 22, offset := 2, embedded := false, tag := "", pkgPath := "", byteOffset := 2 }, { name := "Dst", type := 22, offset := 18, embedded := false, tag := "", pkgPath := "", byteOffset := 18 }, { name := "SPort", type := 25, offset := 34, embedded := false, tag := "", pkgPath := "", byteOffset := 34 }, { name := "DPort", type := 25, offset := 35, embedded := false, tag := "", pkgPath := "", byteOffset := 36 }] := by kernel_rfl
  rw [hl]
  have p0 : (part 4 (tupc v pr s e sp dp) 0).run Try.prog w = .ok (.bool v) w := by kernel_rfl
  have p1 : (part 5 (tupc v pr s e sp dp) 1).run Try.prog w = .ok (.int .u8 pr) w := by kernel_rfl
  have p2 : (part 22 (tupc v pr s e sp dp) 2).run Try.prog w = .ok (.agg (arr16 s)) w := by kernel_rfl
  have p3 : (part 22 (tupc v pr s e sp dp) 18).run Try.prog w = .ok (.agg (arr16 e)) w := by kernel_rfl
  have p4 : (part 25 (tupc v pr s e sp dp) 34).run Try.prog w = .ok (.int .u16 sp) w := by kernel_rfl
  have p5 : (part 25 (tupc v pr s e sp dp) 35).run Try.prog w = .ok (.int .u16 dp) w := by kernel_rfl
  refine Eq.trans (eqF_step (by decide) p0 p0 (e2 v w)) ?_
  refine Eq.trans (eqF_step (by decide) p1 p1 (e3 pr w)) ?_
  refine Eq.trans (eqF_step (by decide) p2 p2 (e4 s w)) ?_
  refine Eq.trans (eqF_step (by decide) p3 p3 (e4 e w)) ?_
  refine Eq.trans (eqF_step (by decide) p4 p4 (e1 sp w)) ?_
  refine Eq.trans (eqF_step (by decide) p5 p5 (e1 dp w)) ?_
  simp only [Op.eqFields, Sem.run_pure]
theorem eqT9 (v : Bool) (pr : Int) (s e : Nat → Int) (sp dp : Int) (w : World) : (Op.equalIn 9999 27 (.agg (tupc v pr s e sp dp)) (.agg (tupc v pr s e sp dp))).run Try.prog w = .ok true w := by
  have hf : Try.prog.underlying 27 = some (.struct (Try.prog.fieldsOf 27)) := by kernel_rfl
  rw [run_equalIn_struct w 9998 27 _ _ hf (by kernel_rfl)]
  have e1 : ∀ (a : Int) (w : World), (Op.equalIn 9998 25 (.int .u16 a) (.int .u16 a)).run Try.prog w = .ok true w := fun a w => by
    have h := run_equalIn_int (P := Try.prog) w 9997 25 .u16 .u16 a a Try.underlying25
    simpa using h
  have e2 : ∀ (b : Bool) (w : World), (Op.equalIn 9998 4 (.bool b) (.bool b)).run Try.prog w = .ok true w := fun b w => by
    have h := run_equalIn_bool' (P := Try.prog) w 9997 4 b b Try.underlying4
    simpa using h
  have e3 : ∀ (a : Int) (w : World), (Op.equalIn 9998 5 (.int .u8 a) (.int .u8 a)).run Try.prog w = .ok true w := fun a w => by
    have h := run_equalIn_int (P := Try.prog) w 9997 5 .u8 .u8 a a Try.underlying5
    simpa using h
  have e4 : ∀ (x : Nat → Int) (w : World), (Op.equalIn 9998 22 (.agg (arr16 x)) (.agg (arr16 x))).run Try.prog w = .ok true w := fun x w => by
    have h := equal_bytes (P := Try.prog) 9996 22 5 16 (arr16 x) (arr16 x) x x Try.underlying22 Try.underlying5 (by kernel_rfl) (fun k hk => arr16_get x k hk) (fun k hk => arr16_get x k hk) w
    rw [eqs_self] at h
    exact h
  have hl : (Try.prog.fieldsOf 27).toList = [{ name := "V6", type := 4, offset := 0, embedded := false, tag := "", pkgPath := "", byteOffset := 0 }, { name := "Proto", type := 5, offset := 1, embedded := false, tag := "", pkgPath := "", byteOffset := 1 }, { name := "Src", type := 22, offset := 2, embedded := false, tag := "", pkgPath := "", byteOffset := 2 }, { name := "Dst", type := 22, offset := 18, embedded := false, tag := "", pkgPath := "", byteOffset := 18 }, { name := "SPort", type := 25, offset := 34, embedded := false, tag := "", pkgPath := "", byteOffset := 34 }, { name := "DPort", type := 25, offset := 35, embedded := false, tag := "", pkgPath := "", byteOffset := 36 }] := by kernel_rfl
  rw [hl]
  have p0 : (part 4 (tupc v pr s e sp dp) 0).run Try.prog w = .ok (.bool v) w := by kernel_rfl
  have p1 : (part 5 (tupc v pr s e sp dp) 1).run Try.prog w = .ok (.int .u8 pr) w := by kernel_rfl
  have p2 : (part 22 (tupc v pr s e sp dp) 2).run Try.prog w = .ok (.agg (arr16 s)) w := by kernel_rfl
  have p3 : (part 22 (tupc v pr s e sp dp) 18).run Try.prog w = .ok (.agg (arr16 e)) w := by kernel_rfl
  have p4 : (part 25 (tupc v pr s e sp dp) 34).run Try.prog w = .ok (.int .u16 sp) w := by kernel_rfl
  have p5 : (part 25 (tupc v pr s e sp dp) 35).run Try.prog w = .ok (.int .u16 dp) w := by kernel_rfl
  refine Eq.trans (eqF_step (by decide) p0 p0 (e2 v w)) ?_
  refine Eq.trans (eqF_step (by decide) p1 p1 (e3 pr w)) ?_
  refine Eq.trans (eqF_step (by decide) p2 p2 (e4 s w)) ?_
  refine Eq.trans (eqF_step (by decide) p3 p3 (e4 e w)) ?_
  refine Eq.trans (eqF_step (by decide) p4 p4 (e1 sp w)) ?_
  refine Eq.trans (eqF_step (by decide) p5 p5 (e1 dp w)) ?_
  simp only [Op.eqFields, Sem.run_pure]
theorem eqR (a b : Int) (v : Bool) (pr : Int) (s e : Nat → Int) (sp dp : Int) (w : World) : (Op.equalIn 10000 32 (.agg (repT a b (tupc v pr s e sp dp))) (.agg (repT a b (tupc v pr s e sp dp)))).run Try.prog w = .ok true w := by
  have hf : Try.prog.underlying 32 = some (.struct (Try.prog.fieldsOf 32)) := by kernel_rfl
  rw [run_equalIn_struct w 9999 32 _ _ hf (by kernel_rfl)]
  have e3 : ∀ (a : Int) (w : World), (Op.equalIn 9999 5 (.int .u8 a) (.int .u8 a)).run Try.prog w = .ok true w := fun a w => by
    have h := run_equalIn_int (P := Try.prog) w 9998 5 .u8 .u8 a a Try.underlying5
    simpa using h
  have e4 := eqT9 v pr s e sp dp
  have hl : (Try.prog.fieldsOf 32).toList = [{ name := "Type", type := 5, offset := 0, embedded := false, tag := "", pkgPath := "", byteOffset := 0 }, { name := "Code", type := 5, offset := 1, embedded := false, tag := "", pkgPath := "", byteOffset := 1 }, { name := "Flow", type := 27, offset := 2, embedded := false, tag := "", pkgPath := "", byteOffset := 2 }] := by kernel_rfl
  rw [hl]
  have p0 : (part 5 (repT a b (tupc v pr s e sp dp)) 0).run Try.prog w = .ok (.int .u8 a) w := by kernel_rfl
  have p1 : (part 5 (repT a b (tupc v pr s e sp dp)) 1).run Try.prog w = .ok (.int .u8 b) w := by kernel_rfl
  have p2 : (part 27 (repT a b (tupc v pr s e sp dp)) 2).run Try.prog w = .ok (.agg (tupc v pr s e sp dp)) w := by kernel_rfl
  refine Eq.trans (eqF_step (by decide) p0 p0 (e3 a w)) ?_
  refine Eq.trans (eqF_step (by decide) p1 p1 (e3 b w)) ?_
  refine Eq.trans (eqF_step (by decide) p2 p2 (e4 w)) ?_
  simp only [Op.eqFields, Sem.run_pure]
/-- What Within tells, what Read tells: equal to themselves. -/
theorem eq_wT (v6 : Bool) (f : Nat → Int) (n : Nat) (w : World) : (Op.equalIn 10000 27 (.agg (wT v6 f n)) (.agg (wT v6 f n))).run Try.prog w = .ok true w := by
  obtain ⟨v, pr, ss, dd, sp, dp, h⟩ := wT_tup v6 f n
  rw [h]
  exact eqT ..
theorem eq_repT (a b : Int) (v6 : Bool) (f : Nat → Int) (n : Nat) (w : World) : (Op.equalIn 10000 32 (.agg (repT a b (wT v6 f n))) (.agg (repT a b (wT v6 f n)))).run Try.prog w = .ok true w := by
  obtain ⟨v, pr, ss, dd, sp, dp, h⟩ := wT_tup v6 f n
  rw [h]
  exact eqR ..
theorem eq_repz (w : World) : (Op.equalIn 10000 32 (.agg repz) (.agg repz)).run Try.prog w = .ok true w := by
  rw [repz_is]
  exact eqR ..
theorem eq_rT (v6 : Bool) (S : Int) (f : Nat → Int) (n : Nat) (w : World) : (Op.equalIn 10000 32 (.agg (rT v6 S f n)) (.agg (rT v6 S f n))).run Try.prog w = .ok true w := by
  unfold rT
  split
  · exact eq_repT ..
  · exact eq_repz w
/-- The page's packet. -/
def kbI (k : Nat) : Int := if k = 0 then 69 else if k = 9 then 6 else if k = 12 then 10 else if k = 15 then 9 else if k = 16 then 1 else if k = 17 then 2 else if k = 18 then 3 else if k = 19 then 4 else if k = 21 then 80 else if k = 22 then 21 else if k = 23 then 179 else 0
theorem kbI_byt : Byt kbI := fun k => by
  unfold kbI
  repeat' split
  all_goals omega
def kbL (k : Nat) : Int := if k = 0 then 10 else if k = 3 then 9 else if k = 4 then 1 else if k = 5 then 2 else if k = 6 then 3 else if k = 7 then 4 else if k = 9 then 80 else if k = 10 then 21 else if k = 11 then 179 else 0
theorem kb_made : ∀ k, k < 24 → kbI k = over 12 12 kbL (upd (upd (fun _ => 0) 0 69) 9 6) k := by decide
theorem kb_flow : wT false kbI 24 = #[.bool false, .int .u8 6, .int .u8 1, .int .u8 2, .int .u8 3, .int .u8 4, .int .u8 0, .int .u8 0, .int .u8 0, .int .u8 0, .int .u8 0, .int .u8 0, .int .u8 0, .int .u8 0, .int .u8 0, .int .u8 0, .int .u8 0, .int .u8 0, .int .u8 10, .int .u8 0, .int .u8 0, .int .u8 9, .int .u8 0, .int .u8 0, .int .u8 0, .int .u8 0, .int .u8 0, .int .u8 0, .int .u8 0, .int .u8 0, .int .u8 0, .int .u8 0, .int .u8 0, .int .u8 0, .int .u16 5555, .int .u16 80] := by
  rw [wT_ok (a := 20) (P := 6) (by decide) (by decide)]
  kernel_rfl
set_option maxRecDepth 100000 in
set_option maxHeartbeats 4000000 in
theorem known_any (w : World) : Calls Try.prog 6 #[] w fun e w' => e = .returned (.bool true) ∧ Below w.heap.size w w' := by
  obtain ⟨i0, hi0, hz0, hz1, hz2⟩ := info_parts Try.info5
  have HI0 := Lib.hid hi0
  have HZ0 := Lib.hid hz0
  have HZ1 := Lib.hid hz1
  have HZ2 := Lib.hid hz2
  clear hi0 hz0 hz1 hz2
  have HI36 := Lib.hid (show (Try.prog.info? 27).map (·.size) = some 36 by kernel_rfl)
  have HW : Hid (∀ A c W, 24 ≤ c → c ≤ 9223372036854775807 → Rd W W.heap.size A 24 kbI → Calls Try.prog 7 #[.bool false, .slice A 24 c] W fun e w' => e = .returned (.tuple #[.agg (wT false kbI 24), .int .i64 0]) ∧ Below W.heap.size W w') := Lib.hid fun A c W h1 h2 hr => by
    have q := within_any false A 24 c kbI kbI_byt (by omega) h1 h2 W hr
    unfold WiOut at q
    rw [show winE false kbI 24 = 0 by decide] at q
    exact q
  obtain ⟨CS, hCS⟩ : ∃ CS, CS = wT false kbI 24 := ⟨_, rfl⟩
  have HCS := Lib.hid hCS
  have HSZ : Hid (CS.size = 36) := Lib.hid (by rw [hCS]; exact wT_size ..)
  have H1 : Hid (CS.all (·.oneCell') = true) := Lib.hid (by rw [hCS]; exact wT_one ..)
  rw [← hCS] at HW
  clear hCS
  have hmk : ∀ W : World, (Instr.makeSlice 23 (.int .i64 24) (.int .i64 24)).run Try.prog W = .ok (.slice (some ⟨W.heap.size, 0, none⟩) 24 24) (W.alloc (.cells (madeCells (Value.int .u8 0).cells 24) 5)) := fun W => run_make_bytes (P := Try.prog) W 23 5 i0 Try.underlying23 HI0.out HZ0.out HZ1.out HZ2.out 24 (by omega)
  have HO1 : Hid (MO w (w.alloc (.cells (madeCells (Value.int .u8 0).cells 24) 5)) [] w.heap.size (some ⟨w.heap.size, 0, none⟩) 24 24 (fun _ => 0)) := Lib.hid (MO.start (Mem.nil w) (below_alloc w _) (made_own w _ 24 (by omega) _ rfl))
  go_enter Try.func6, Try.ntmps6
  go_upto_region 2 with fail
  change Code.wp _ _ _ _ (w.alloc (.cells (madeCells (Value.int .u8 0).cells 24) 5))
  clear hmk
  obtain ⟨g, hg⟩ : ∃ g, g = w.heap.size := ⟨_, rfl⟩
  rw [← hg] at HO1 ⊢
  have HG := Lib.hid hg
  clear hg
  generalize w.alloc (.cells (madeCells (Value.int .u8 0).cells 24) 5) = u1 at *
  obtain ⟨x0, y0⟩ := HO1.out.cells 0 (by omega)
  obtain ⟨x9, y9⟩ := HO1.out.cells 9 (by omega)
  go_upto_region 3 with fail
  have HO2 : Hid (MO w ((u1.setCell ⟨g, 0, none⟩ (.int .u8 69)).setCell ⟨g, 9, none⟩ (.int .u8 6)) [] g (some ⟨g, 0, none⟩) 24 24 (upd (upd (fun _ => 0) 0 69) 9 6)) := Lib.hid ((HO1.out.set (by omega) 0 69).set (by omega) 9 6)
  clear x0 y0 x9 y9 HO1
  generalize (u1.setCell ⟨g, 0, none⟩ (.int .u8 69)).setCell ⟨g, 9, none⟩ (.int .u8 6) = u2 at *
  have HR3 : Hid (Rd (u2.alloc (.cells #[.int .u8 10, .int .u8 0, .int .u8 0, .int .u8 9, .int .u8 1, .int .u8 2, .int .u8 3, .int .u8 4, .int .u8 0, .int .u8 80, .int .u8 21, .int .u8 179] 5)) (u2.alloc (.cells #[.int .u8 10, .int .u8 0, .int .u8 0, .int .u8 9, .int .u8 1, .int .u8 2, .int .u8 3, .int .u8 4, .int .u8 0, .int .u8 80, .int .u8 21, .int .u8 179] 5)).heap.size (some ⟨u2.heap.size, 0, none⟩) 12 kbL) := Lib.hid (blk_rd (heap_alloc_new u2 _) (lt_heap (heap_alloc_new u2 _)) (i := 0) fun k hk => by
    rw [Nat.zero_add]
    match k, hk with
    | 0, _ => rfl
    | 1, _ => rfl
    | 2, _ => rfl
    | 3, _ => rfl
    | 4, _ => rfl
    | 5, _ => rfl
    | 6, _ => rfl
    | 7, _ => rfl
    | 8, _ => rfl
    | 9, _ => rfl
    | 10, _ => rfl
    | 11, _ => rfl
  )
  have HO3 : Hid (MO w (u2.alloc (.cells #[.int .u8 10, .int .u8 0, .int .u8 0, .int .u8 9, .int .u8 1, .int .u8 2, .int .u8 3, .int .u8 4, .int .u8 0, .int .u8 80, .int .u8 21, .int .u8 179] 5)) [] g (some ⟨g, 0, none⟩) 24 24 (upd (upd (fun _ => 0) 0 69) 9 6)) := Lib.hid (HO2.out.alloc _)
  go_upto_region 4 with (first
    | (refine wpList_copy_rd rfl (.tmp 10) (.tmp 11) _ rfl g 5 Try.underlying23 (by kernel_rfl) HO3.out.own (D := some ⟨g, 12, none⟩) (dl := 12) (dc := 12) rfl 12 (fun _ => rfl) (by omega) rfl HR3.out 12 (by omega) ?_; intro hoc; have HO4 := Lib.hid hoc; clear hoc))
  have HO5 : Hid (Own ((u2.alloc (.cells #[.int .u8 10, .int .u8 0, .int .u8 0, .int .u8 9, .int .u8 1, .int .u8 2, .int .u8 3, .int .u8 4, .int .u8 0, .int .u8 80, .int .u8 21, .int .u8 179] 5)).setCells g 12 ((nums 12 kbL).map (Value.int .u8))) g 5 (some ⟨g, 0, none⟩) 24 24 kbI) := Lib.hid (HO4.out.same fun k hk => kb_made k hk)
  have HB5 : Hid (Below w.heap.size w ((u2.alloc (.cells #[.int .u8 10, .int .u8 0, .int .u8 0, .int .u8 9, .int .u8 1, .int .u8 2, .int .u8 3, .int .u8 4, .int .u8 0, .int .u8 80, .int .u8 21, .int .u8 179] 5)).setCells g 12 ((nums 12 kbL).map (Value.int .u8)))) := Lib.hid (below_setCells (Nat.le_of_eq HG.out.symm) _ 12 _ HO3.out.below)
  clear HO2 HO3 HO4 HR3
  generalize (u2.alloc (.cells #[.int .u8 10, .int .u8 0, .int .u8 0, .int .u8 9, .int .u8 1, .int .u8 2, .int .u8 3, .int .u8 4, .int .u8 0, .int .u8 80, .int .u8 21, .int .u8 179] 5)).setCells g 12 ((nums 12 kbL).map (Value.int .u8)) = u5 at *
  go_wp2_with fail
  go_at_call 7
  refine (HW.out (some ⟨g, 0, none⟩) 24 u5 (by omega) (by omega) HO5.out.rd).mono ?_
  rintro e u6 ⟨rfl, hb6⟩
  have HB6 : Hid (Below w.heap.size w u6) := HB5.out.trans (hb6.mono HB5.out.size)
  clear hb6 HB5 HO5 HW
  have HN : Hid ((u6.alloc (.cells tupz 27)).heap[u6.heap.size]? = some (.cells tupz 27 (0, 0))) := heap_alloc_new u6 _
  go_upto_region 5 with (first
    | (refine wpList_store_row rfl 27 (.tmp 2) (.tmp 16) rfl u6.heap.size CS rfl rfl 27 tupz HN.out (HI36.out.trans (by rw [HSZ.out])) (by rw [HSZ.out]; rfl) H1.out ?_))
  change Code.wp _ _ _ _ ((u6.alloc (.cells tupz 27)).setRow u6.heap.size CS)
  have HB7 : Hid (Below w.heap.size w ((u6.alloc (.cells tupz 27)).setRow u6.heap.size CS)) := below_setRow (HB6.out.alloc HB6.out.size _) HB6.out.size CS
  have HV7 : Hid (((u6.alloc (.cells tupz 27)).setRow u6.heap.size CS).heap[u6.heap.size]? = some (.cells CS 27 (0, 0))) := setRow_heap _ _ _ CS _ _ HN.out
  clear HN HB6
  obtain ⟨q, hq⟩ : ∃ q, q = u6.heap.size := ⟨_, rfl⟩
  rw [← hq] at HV7 HB7 ⊢
  generalize (u6.alloc (.cells tupz 27)).setRow q CS = u7 at *
  have heq : ∀ W, (Op.equalIn 10000 27 (.agg CS) (.agg #[.bool false, .int .u8 6, .int .u8 1, .int .u8 2, .int .u8 3, .int .u8 4, .int .u8 0, .int .u8 0, .int .u8 0, .int .u8 0, .int .u8 0, .int .u8 0, .int .u8 0, .int .u8 0, .int .u8 0, .int .u8 0, .int .u8 0, .int .u8 0, .int .u8 10, .int .u8 0, .int .u8 0, .int .u8 9, .int .u8 0, .int .u8 0, .int .u8 0, .int .u8 0, .int .u8 0, .int .u8 0, .int .u8 0, .int .u8 0, .int .u8 0, .int .u8 0, .int .u8 0, .int .u8 0, .int .u16 5555, .int .u16 80])).run Try.prog W = .ok true W := fun W => by
    have h := eq_wT false kbI 24 W
    rw [← HCS.out] at h
    rw [← kb_flow, ← HCS.out]
    exact h
  go_wp2_with (first
    | (refine wpList_load_roww rfl 27 (.tmp 2) rfl q rfl 27 CS (0, 0) _ HV7.out Try.underlying27 rfl (HI36.out.trans (by rw [HSZ.out])) ?_))
  go_ret
  exact ⟨rfl, HB7.out⟩
end Go.Proofs.Ytfaelihfjmaekaa
