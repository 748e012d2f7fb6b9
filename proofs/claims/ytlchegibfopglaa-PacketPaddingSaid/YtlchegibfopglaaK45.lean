import Derived.Test.YtlchegibfopglaaK44
/- Layer 7: what Read tells, the program's and the document's, in one form; the document's Same. -/
namespace Go.Proofs.Ytlchegibfopglaa
set_option maxRecDepth 100000
open Go.RowKit
theorem wpList_load_midw {P : Program} {ops : Array Oper} {rest : List Oper} {op : Oper} {a : Act} {w : World} {Q : Exit → Act → World → Prop} (hw : Region.wanted op (yielded ops a.tmps) = true) (ty : TypeId) (x : Operand) (ho : op.op = .load ty x)
    (b o : Nat) (hx : a.eval x = .pointer (some ⟨b, o, none⟩)) (cs : List Value) (d : TypeDesc) (hc : w.rangeAt b o cs) (hu : P.underlying ty = some d) (hd : d.isRow = true) (hi : (P.info? ty).map (·.size) = some cs.length)
    (h : wpList P ops Q rest (a.put op.dst (.agg cs.toArray)) w) : wpList P ops Q (op :: rest) a w := by
  refine BigFrame.wpList_want hw fun K hK => ?_
  unfold Oper.wp execOp
  simp only [ho, hx, Instr.loadAt, Instr.sureAddr, Sem.run_bind, Sem.run_pure, Result.andThen_ok, run_loadVar_mid w b o ty cs d hc hu hd hi]
  exact hK _ _ h
theorem qload_mid {P : Program} {ops : Array Oper} {C : World → Prop} {Q : Act → Prop} {a : Act} {o : Oper} {rest : List Oper} (hw : Region.wanted o (yielded ops a.tmps) = true) (ty : TypeId) (x : Operand) (ho : o.op = .load ty x)
    (g i : Nat) (hx : a.eval x = .pointer (some ⟨g, i, none⟩)) (cs : Array Value) (d : TypeDesc) (hg : ∀ w, C w → w.rangeAt g i cs.toList)
    (hu : P.underlying ty = some d) (hd : d.isRow = true) (hi : (P.info? ty).map (·.size) = some cs.toList.length)
    (h : wpQuiet P ops C Q rest (a.put o.dst (.agg cs))) : wpQuiet P ops C Q (o :: rest) a := by
  refine BigFrame.wpQuiet_want hw fun K hK => ⟨.agg cs, fun w hC => ?_, hK _ h⟩
  unfold Oper.quietAt execOp
  simp only [ho, hx, Instr.loadAt, Instr.sureAddr, Sem.run_bind, Sem.run_pure, Result.andThen_ok, run_loadVar_mid w g i ty cs.toList d (hg w hC) hu hd hi]
  exact ⟨rfl, rfl⟩
theorem qload_row {P : Program} {ops : Array Oper} {C : World → Prop} {Q : Act → Prop} {a : Act} {o : Oper} {rest : List Oper} (hw : Region.wanted o (yielded ops a.tmps) = true) (ty : TypeId) (x : Operand) (ho : o.op = .load ty x)
    (g : Nat) (hx : a.eval x = .pointer (some ⟨g, 0, none⟩)) (t : TypeId) (cs : Array Value) (fr : Nat × Nat) (d : TypeDesc) (hg : ∀ w, C w → w.heap[g]? = some (.cells cs t fr))
    (hu : P.underlying ty = some d) (hd : (match d with | .struct _ | .array _ _ => true | _ => false) = true) (hi : (P.info? ty).map (·.size) = some cs.size)
    (h : wpQuiet P ops C Q rest (a.put o.dst (.agg cs))) : wpQuiet P ops C Q (o :: rest) a := by
  refine BigFrame.wpQuiet_want hw fun K hK => ⟨.agg cs, fun w hC => ?_, hK _ h⟩
  unfold Oper.quietAt execOp
  simp only [ho, hx, Instr.loadAt, Instr.sureAddr, Sem.run_bind, Sem.run_pure, Result.andThen_ok, run_loadVar_row w g t ty cs fr d (hg w hC) hu hd hi]
  exact ⟨rfl, rfl⟩
theorem stay_heap {w : World} {g : Nat} {o : Obj} (h : w.heap[g]? = some o) : ∀ x, (∃ W : Stay w, x = W.w) → x.heap[g]? = some o := by
  rintro x ⟨W, rfl⟩
  exact (W.below.block _ (lt_heap h)).trans h
theorem eqE (a b : Nat → Int) (ty : Int) (w : World) : (Op.equalIn 10000 30 (.agg (eth a b ty)) (.agg (eth a b ty))).run Try.prog w = .ok true w := by
  have hf : Try.prog.underlying 30 = some (.struct (Try.prog.fieldsOf 30)) := by kernel_rfl
  rw [run_equalIn_struct w 9999 30 _ _ hf (by kernel_rfl)]
  have e1 : ∀ (a : Int) (w : World), (Op.equalIn 9999 24 (.int .u16 a) (.int .u16 a)).run Try.prog w = .ok true w := fun a w => by
    have h := run_equalIn_int (P := Try.prog) w 9998 24 .u16 .u16 a a Try.underlying24
    simpa using h
  have e6 : ∀ (x : Nat → Int) (w : World), (Op.equalIn 9999 28 (.agg #[.int .u8 (x 0), .int .u8 (x 1), .int .u8 (x 2), .int .u8 (x 3), .int .u8 (x 4), .int .u8 (x 5)]) (.agg #[.int .u8 (x 0), .int .u8 (x 1), .int .u8 (x 2), .int .u8 (x 3), .int .u8 (x 4), .int .u8 (x 5)])).run Try.prog w = .ok true w := fun x w => by
    have g : ∀ k, k < 6 → (#[.int .u8 (x 0), .int .u8 (x 1), .int .u8 (x 2), .int .u8 (x 3), .int .u8 (x 4), .int .u8 (x 5)] : Array Value)[k]? = some (.int .u8 (x k)) := fun k hk => by
      match k, hk with
      | 0, _ => rfl
      | 1, _ => rfl
      | 2, _ => rfl
      | 3, _ => rfl
      | 4, _ => rfl
      | 5, _ => rfl
    have h := equal_bytes (P := Try.prog) 9997 28 5 6 _ _ x x Try.underlying28 Try.underlying5 (by kernel_rfl) g g w
    rw [eqs_self] at h
    exact h
  have hl : (Try.prog.fieldsOf 30).toList = [{ name := "Dst", type := 28, offset := 0, embedded := false, tag := "", pkgPath := "", byteOffset := 0 }, { name := "Src", type := 28, offset := 6, embedded := false, tag := "", pkgPath := "", byteOffset := 6 }, { name := "Type", type := 24, offset := 12, embedded := false, tag := "", pkgPath := "", byteOffset := 12 }] := by kernel_rfl
  rw [hl]
  have p0 : (part 28 (eth a b ty) 0).run Try.prog w = .ok (.agg #[.int .u8 (a 0), .int .u8 (a 1), .int .u8 (a 2), .int .u8 (a 3), .int .u8 (a 4), .int .u8 (a 5)]) w := by kernel_rfl
  have p1 : (part 28 (eth a b ty) 6).run Try.prog w = .ok (.agg #[.int .u8 (b 0), .int .u8 (b 1), .int .u8 (b 2), .int .u8 (b 3), .int .u8 (b 4), .int .u8 (b 5)]) w := by kernel_rfl
  have p2 : (part 24 (eth a b ty) 12).run Try.prog w = .ok (.int .u16 ty) w := by kernel_rfl
  refine Eq.trans (eqF_step (by decide) p0 p0 (e6 a w)) ?_
  refine Eq.trans (eqF_step (by decide) p1 p1 (e6 b w)) ?_
  refine Eq.trans (eqF_step (by decide) p2 p2 (e1 ty w)) ?_
  simp only [Op.eqFields, Sem.run_pure]
/-- A packet that came. -/
def pkF (f : Nat → Int) (I : Value) : Array Value := pkA (eth f (fun k => f (6 + k)) (w2 f 12)) (pkT (pkV f) (otP (pkV f) (pkG f)) (otS (pkV f) (pkG f)) (otD (pkV f) (pkG f)) (otF (pkV f) (pkG f)) (otR (pkV f) (pkG f))) (pkL (otP (pkV f) (pkG f)) (otF (pkV f) (pkG f))) (pkR (otP (pkV f) (pkG f))) I
theorem pkF_form (f : Nat → Int) : ∃ a b ty v pr s d sp dp fl rp, ∀ I, pkF f I = pkc a b ty v pr s d sp dp fl rp I := by
  obtain ⟨v, pr, s, d, sp, dp, h⟩ := pkT_tup (pkV f) (otP (pkV f) (pkG f)) (otS (pkV f) (pkG f)) (otD (pkV f) (pkG f)) (otF (pkV f) (pkG f)) (otR (pkV f) (pkG f))
  refine ⟨f, fun k => f (6 + k), w2 f 12, v, pr, s, d, sp, dp, pkL (otP (pkV f) (pkG f)) (otF (pkV f) (pkG f)), pkR (otP (pkV f) (pkG f)), fun I => ?_⟩
  unfold pkF
  rw [h]
  exact pkA_is ..
/-- Bytes that are within a row of the call's own, or none. -/
def InB (W : World) (B : Nat) (I : Option Addr) (n : Nat) (g : Nat → Int) : Prop := n = 0 ∨ ∃ g1 N c, I = some ⟨g1, 0, none⟩ ∧ n ≤ N ∧ Own W B 5 (some ⟨g1, 0, none⟩) N c g
theorem InB.rd {W : World} {B n : Nat} {I : Option Addr} {g : Nat → Int} (h : InB W B I n g) : Rd W W.heap.size I n g := by
  rcases h with h | ⟨g1, N, c, rfl, hn, ho⟩
  · exact .inl h
  · exact ho.rd.less hn
theorem InB.below {W W' : World} {B n : Nat} {I : Option Addr} {g : Nat → Int} (h : InB W B I n g) (hb : Below W.heap.size W W') : InB W' B I n g := by
  rcases h with h | ⟨g1, N, c, e, hn, ho⟩
  · exact .inl h
  · exact .inr ⟨g1, N, c, e, hn, ho.below hb⟩
/-- What Read tells, in one form. -/
def PkS (a b : Nat → Int) (ty : Int) (v : Bool) (pr : Int) (s d : Nat → Int) (sp dp fl : Int) (rp : Bool) (NI : Nat) (g : Nat → Int) (E : Int) (w : World) (e : Ending) (w' : World) : Prop :=
  ∃ I ic, e = .returned (.tuple #[.agg (pkc a b ty v pr s d sp dp fl rp (.slice I NI ic)), .int .i64 E]) ∧ NI ≤ ic ∧ ic ≤ 9223372036854775807 ∧ InB w' w.heap.size I NI g ∧ Below w.heap.size w w'
theorem rpkR_any (A : Option Addr) (n c : Nat) (f : Nat → Int) (hf : Byt f) (hn : n ≤ 140737488355) (hcap : n ≤ c) (hc9 : c ≤ 9223372036854775807) (w : World) (hr : Rd w w.heap.size A n f) : Calls Try.prog 7 #[.slice A n c] w (PkR f n w) := by
  refine (rpk_any A n c f hf hn hcap hc9 w hr).mono ?_
  rintro e w' (⟨h, rfl, hb⟩ | ⟨h, I, ic, rfl, ho, hb⟩)
  · exact .inl ⟨h, rfl, hb⟩
  · obtain ⟨g1, rfl, _, _, _, _⟩ := ho.lies (by
      have q : otE (pkV f) (pkG f) (n - 14) = 0 := by
        unfold pkE at h
        split at h
        · omega
        split at h
        · omega
        split at h
        · omega
        by_cases ho : otE (pkV f) (pkG f) (n - 14) ≠ 0
        · rw [if_pos ho] at h; exact absurd h ho
        · omega
      have := ot_ok (v6 := pkV f) (g := pkG f) (fun k => hf _) q
      omega)
    exact .inr ⟨h, g1, ic, _, ic, rfl, ho.cap, ho.cap_le, Nat.le_refl _, ho, hb⟩
theorem pk_within {f : Nat → Int} (hf : Byt f) {n : Nat} (h : pkE f n = 0) : 14 + otI (pkV f) (pkG f) ≤ n ∧ 20 ≤ otI (pkV f) (pkG f) ∧ n ≤ 1600 := by
  unfold pkE at h
  split at h
  · omega
  split at h
  · omega
  split at h
  · omega
  by_cases ho : otE (pkV f) (pkG f) (n - 14) ≠ 0
  · rw [if_pos ho] at h; exact absurd h ho
  · have := ot_ok (v6 := pkV f) (g := pkG f) (fun k => hf _) (show otE (pkV f) (pkG f) (n - 14) = 0 by omega)
    omega
/-- Both, in one form. -/
theorem pk_common (f : Nat → Int) (hf : Byt f) (n : Nat) (hn : n ≤ 140737488355) : ∃ a b ty v pr s d sp dp fl rp NI,
    (pkE f n = 0 → NI = otI (pkV f) (pkG f) ∧ ∀ I, pkF f I = pkc a b ty v pr s d sp dp fl rp I) ∧ (pkE f n ≠ 0 → NI = 0 ∧ ∀ I, pkc a b ty v pr s d sp dp fl rp I = pkc (fun _ => 0) (fun _ => 0) 0 false 0 (fun _ => 0) (fun _ => 0) 0 0 0 false I) ∧
    (∀ A c w, n ≤ c → c ≤ 9223372036854775807 → Rd w w.heap.size A n f → Calls Try.prog 6 #[.slice A n c] w (PkS a b ty v pr s d sp dp fl rp NI (pkG f) (pkE f n) w)) ∧
    (∀ A c w, n ≤ c → c ≤ 9223372036854775807 → Rd w w.heap.size A n f → Calls Try.prog 7 #[.slice A n c] w (PkS a b ty v pr s d sp dp fl rp NI (pkG f) (pkE f n) w)) := by
  by_cases hE : pkE f n = 0
  · obtain ⟨a, b, ty, v, pr, s, d, sp, dp, fl, rp, h⟩ := pkF_form f
    have q : ∀ w e w', PkR f n w e w' → PkS a b ty v pr s d sp dp fl rp (otI (pkV f) (pkG f)) (pkG f) (pkE f n) w e w' := by
      rintro w e w' (⟨h1, _⟩ | ⟨_, g1, ic, N, c, rfl, h1, h2, h3, h4, h5⟩)
      · exact absurd hE h1
      · refine ⟨some ⟨g1, 0, none⟩, ic, ?_, h1, h2, .inr ⟨g1, N, c, rfl, h3, h4⟩, h5⟩
        rw [← h, hE]
        rfl
    exact ⟨a, b, ty, v, pr, s, d, sp, dp, fl, rp, _, fun _ => ⟨rfl, h⟩, fun h => absurd hE h, fun A c w h1 h2 hr => (pk_any A n c f hf hn h1 h2 w hr).mono (q w), fun A c w h1 h2 hr => (rpkR_any A n c f hf hn h1 h2 w hr).mono (q w)⟩
  · have q : ∀ w e w', PkR f n w e w' → PkS (fun _ => 0) (fun _ => 0) 0 false 0 (fun _ => 0) (fun _ => 0) 0 0 0 false 0 (pkG f) (pkE f n) w e w' := by
      rintro w e w' (⟨_, rfl, h1⟩ | ⟨h1, _⟩)
      · exact ⟨none, 0, rfl, Nat.le_refl _, by omega, .inl rfl, h1⟩
      · exact absurd h1 hE
    exact ⟨(fun _ => 0), (fun _ => 0), 0, false, 0, (fun _ => 0), (fun _ => 0), 0, 0, 0, false, 0, fun h => absurd h hE, fun _ => ⟨rfl, fun _ => rfl⟩, fun A c w h1 h2 hr => (pk_any A n c f hf hn h1 h2 w hr).mono (q w), fun A c w h1 h2 hr => (rpkR_any A n c f hf hn h1 h2 w hr).mono (q w)⟩
theorem pkc_eth {W : World} {g : Nat} (a b : Nat → Int) (ty : Int) (v : Bool) (pr : Int) (s d : Nat → Int) (sp dp fl : Int) (rp : Bool) (I : Value) (h : W.heap[g]? = some (.cells (pkc a b ty v pr s d sp dp fl rp I) 32 (0, 0))) : W.rangeAt g 0 (eth a b ty).toList := by
  refine app_range (t := 32) #[] (eth a b ty) ((tupc v pr s d sp dp) ++ #[.int .u8 fl, .bool rp, I]) rfl ?_
  rw [h]
  have e : pkc a b ty v pr s d sp dp fl rp I = #[] ++ (eth a b ty) ++ ((tupc v pr s d sp dp) ++ #[.int .u8 fl, .bool rp, I]) := by kernel_rfl
  rw [e]
theorem pkc_flow {W : World} {g : Nat} (a b : Nat → Int) (ty : Int) (v : Bool) (pr : Int) (s d : Nat → Int) (sp dp fl : Int) (rp : Bool) (I : Value) (h : W.heap[g]? = some (.cells (pkc a b ty v pr s d sp dp fl rp I) 32 (0, 0))) : W.rangeAt g 13 (tupc v pr s d sp dp).toList := by
  rw [← pkA_is] at h
  exact app_range _ _ _ rfl h
set_option maxHeartbeats 2000000 in
theorem same_any (a b : Nat → Int) (ty : Int) (v : Bool) (pr : Int) (s d : Nat → Int) (sp dp fl : Int) (rp : Bool) (n : Nat) (I1 I2 : Option Addr) (c1 c2 : Nat) (f : Nat → Int) (w : World) (hr1 : Rd w w.heap.size I1 n f) (hr2 : Rd w w.heap.size I2 n f) :
    Calls Try.prog 8 #[.agg (pkc a b ty v pr s d sp dp fl rp (.slice I1 n c1)), .agg (pkc a b ty v pr s d sp dp fl rp (.slice I2 n c2))] w fun e w' => e = .returned (.bool true) ∧ Below w.heap.size w w' := by
  have HR1 := Lib.hid hr1
  have HR2 := Lib.hid hr2
  clear hr1 hr2
  have e1 : (w.alloc (.cells (pkc a b ty v pr s d sp dp fl rp (.slice I1 n c1)) 32)).heap.size = w.heap.size + 1 := by simp
  have HM1 : Hid (Mem w ((w.alloc (.cells (pkc a b ty v pr s d sp dp fl rp (.slice I1 n c1)) 32)).alloc (.cells (pkc a b ty v pr s d sp dp fl rp (.slice I2 n c2)) 32)) [(w.heap.size, .cells (pkc a b ty v pr s d sp dp fl rp (.slice I1 n c1)) 32 (0, 0)), (w.heap.size + 1, .cells (pkc a b ty v pr s d sp dp fl rp (.slice I2 n c2)) 32 (0, 0))]) := Lib.hid (((Mem.nil w).alloc (.cells (pkc a b ty v pr s d sp dp fl rp (.slice I1 n c1)) 32)).new (.cells (pkc a b ty v pr s d sp dp fl rp (.slice I2 n c2)) 32) (w.heap.size + 1) e1.symm)
  clear e1
  go_enter Try.func8, Try.ntmps8
  go_upto_region 1 with fail
  change Code.wp _ _ _ _ ((w.alloc (.cells (pkc a b ty v pr s d sp dp fl rp (.slice I1 n c1)) 32)).alloc (.cells (pkc a b ty v pr s d sp dp fl rp (.slice I2 n c2)) 32))
  generalize (w.alloc (.cells (pkc a b ty v pr s d sp dp fl rp (.slice I1 n c1)) 32)).alloc (.cells (pkc a b ty v pr s d sp dp fl rp (.slice I2 n c2)) 32) = u1 at *
  have heE := eqE a b ty
  have heT := eqT v pr s d sp dp
  have x49 : u1.cell? ⟨w.heap.size, 49, none⟩ = some (.int .u8 fl) := blk_cell (HM1.out.get 0 rfl) 49
  have x50 : u1.cell? ⟨w.heap.size, 50, none⟩ = some (.bool rp) := blk_cell (HM1.out.get 0 rfl) 50
  have x51 : u1.cell? ⟨w.heap.size, 51, none⟩ = some (.slice I1 n c1) := blk_cell (HM1.out.get 0 rfl) 51
  have y49 : u1.cell? ⟨w.heap.size + 1, 49, none⟩ = some (.int .u8 fl) := blk_cell (HM1.out.get 1 rfl) 49
  have y50 : u1.cell? ⟨w.heap.size + 1, 50, none⟩ = some (.bool rp) := blk_cell (HM1.out.get 1 rfl) 50
  have y51 : u1.cell? ⟨w.heap.size + 1, 51, none⟩ = some (.slice I2 n c2) := blk_cell (HM1.out.get 1 rfl) 51
  have hv1 := run_convert_rd (P := Try.prog) (HM1.out.rd HR1.out) 22 5 9 c1 Try.underlying22 Try.underlying5 Try.underlying9
  have hv2 := run_convert_rd (P := Try.prog) (HM1.out.rd HR2.out) 22 5 9 c2 Try.underlying22 Try.underlying5 Try.underlying9
  generalize strOfNums (nums n f) = ST at hv1 hv2
  go_wp2_with (first
    | (refine wpList_load_midw rfl 30 (.tmp 5) rfl w.heap.size 0 rfl (eth a b ty).toList _ (pkc_eth _ _ _ _ _ _ _ _ _ _ _ _ (HM1.out.get 0 rfl)) Try.underlying30 rfl (by kernel_rfl) ?_)
    | (refine wpList_load_midw rfl 30 (.tmp 7) rfl (w.heap.size + 1) 0 rfl (eth a b ty).toList _ (pkc_eth _ _ _ _ _ _ _ _ _ _ _ _ (HM1.out.get 1 rfl)) Try.underlying30 rfl (by kernel_rfl) ?_)
    | (refine wpList_load_midw rfl 26 (.tmp 11) rfl w.heap.size 13 rfl (tupc v pr s d sp dp).toList _ (pkc_flow _ _ _ _ _ _ _ _ _ _ _ _ (HM1.out.get 0 rfl)) Try.underlying26 rfl (by kernel_rfl) ?_)
    | (refine wpList_load_midw rfl 26 (.tmp 13) rfl (w.heap.size + 1) 13 rfl (tupc v pr s d sp dp).toList _ (pkc_flow _ _ _ _ _ _ _ _ _ _ _ _ (HM1.out.get 1 rfl)) Try.underlying26 rfl (by kernel_rfl) ?_))
  go_ret
  exact ⟨rfl, HM1.out.below⟩
end Go.Proofs.Ytlchegibfopglaa
