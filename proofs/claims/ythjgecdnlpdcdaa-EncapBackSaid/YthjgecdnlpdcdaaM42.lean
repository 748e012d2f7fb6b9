import Derived.Test.YthjgecdnlpdcdaaM41
/- Layer 8, the program: packet. -/
namespace Go.Proofs.Ythjgecdnlpdcdaa
set_option maxRecDepth 100000
open Go.RowKit
theorem Act.eval_const (a : Act) (v : Value) : a.eval (.const v) = v := rfl
theorem wpList_b6 {ops : Array Oper} {rest : List Oper} {op : Oper} {a : Act} {w : World} {Q : Exit → Act → World → Prop} (hw : Region.wanted op (yielded ops a.tmps) = true) (x2 x3 x5 x6 : Operand) (ho : op.op = .build 57 #[(2, x2), (3, x3), (4, .const (.int .u8 64)), (5, x5), (6, x6)])
    (P : Int) (s d : Nat → Int) (h2 : a.eval x2 = .int .u8 P) (h3 : a.eval x3 = .int .u8 P) (h5 : a.eval x5 = .agg (arr16 s)) (h6 : a.eval x6 = .agg (arr16 d))
    (h : wpList Try.prog ops Q rest (a.put op.dst (.agg (ip6c 0 0 P P 64 s d (.slice none 0 0)))) w) : wpList Try.prog ops Q (op :: rest) a w := by
  have hb : (Instr.build 57 #[(2, .int .u8 P), (3, .int .u8 P), (4, .int .u8 64), (5, .agg (arr16 s)), (6, .agg (arr16 d))]).run Try.prog w = .ok (.agg (ip6c 0 0 P P 64 s d (.slice none 0 0))) w := by kernel_rfl
  refine BigFrame.wpList_want hw fun K hK => ?_
  unfold Oper.wp execOp
  simp only [ho, List.map_toArray, List.map_cons, List.map_nil, Act.eval_const, h2, h3, h5, h6, Sem.run_bind, Sem.run_pure, Result.andThen_ok, hb]
  exact hK _ _ h
theorem wpList_b4 {ops : Array Oper} {rest : List Oper} {op : Oper} {a : Act} {w : World} {Q : Exit → Act → World → Prop} (hw : Region.wanted op (yielded ops a.tmps) = true) (x4 x5 x6 : Operand) (ho : op.op = .build 61 #[(3, .const (.int .u8 64)), (4, x4), (5, x5), (6, x6)])
    (P : Int) (s d : Nat → Int) (h4 : a.eval x4 = .int .u8 P) (h5 : a.eval x5 = .agg (arr16 s)) (h6 : a.eval x6 = .agg (arr16 d))
    (h : wpList Try.prog ops Q rest (a.put op.dst (.agg (ip4c 0 0 false 64 P s d (.slice none 0 0)))) w) : wpList Try.prog ops Q (op :: rest) a w := by
  have hb : (Instr.build 61 #[(3, .int .u8 64), (4, .int .u8 P), (5, .agg (arr16 s)), (6, .agg (arr16 d))]).run Try.prog w = .ok (.agg (ip4c 0 0 false 64 P s d (.slice none 0 0))) w := by kernel_rfl
  refine BigFrame.wpList_want hw fun K hK => ?_
  unfold Oper.wp execOp
  simp only [ho, List.map_toArray, List.map_cons, List.map_nil, Act.eval_const, h4, h5, h6, Sem.run_bind, Sem.run_pure, Result.andThen_ok, hb]
  exact hK _ _ h
/-- What packet tells. -/
def PkW (v : Bool) (P : Int) (s d : Nat → Int) (n : Nat) (f : Nat → Int) (w : World) (e : Ending) (w' : World) : Prop :=
  (1660 < ipN v + n ∧ WriteS w.heap.size 5 (fun _ => 0) 0 3 w e w') ∨ (ipN v + n ≤ 1660 ∧ ∃ g, IpW v P s d n f g ∧ WriteS w.heap.size 5 g (ipN v + n) 0 w e w')
theorem pk6_any {P : Int} {s d : Nat → Int} (hP : 0 ≤ P ∧ P ≤ 255) (hx : ext6 P = false) (hs : Byt s) (hd : Byt d) (A : Option Addr) (n c : Nat) (f : Nat → Int) (hf : Byt f) (hn : n ≤ 4000) (W : World) (hr : Rd W W.heap.size A n f) :
    Calls Try.prog 19 #[.agg (ip6c 0 0 P P 64 s d (.slice none 0 0)), .slice A n c] W (PkW true P s d n f W) := by
  refine (write6_any 0 0 P P 64 s d none 0 0 (fun _ => 0) A n c f ⟨by omega, by omega⟩ ⟨by omega, by omega⟩ hP zer_byt (by omega) hn (Nat.le_refl _) (by omega) W (.inl rfl) hr).mono ?_
  rintro e w' (⟨h, _⟩ | ⟨_, h1, U, cu, rfl, ho, hb⟩ | ⟨_, h1, U, cu, rfl, ho, hb⟩)
  · unfold ok6 at h
    rw [chn_none hx] at h
    simp at h
  · exact .inl ⟨by show 1660 < 40 + n; omega, U, cu, rfl, ho, hb⟩
  · have e0 : ipN true + n = 40 + (0 + n) := by show 40 + n = _; omega
    exact .inr ⟨by omega, _, ipW6 hP hx hs hd (by omega) hf, U, cu, by rw [e0], by rw [e0]; exact ho, hb⟩
theorem pk4_any {P : Int} {s d : Nat → Int} (hP : 0 ≤ P ∧ P ≤ 255) (h4 : fourB s = true) (h5 : fourB d = true) (hs : Byt s) (hd : Byt d) (A : Option Addr) (n c : Nat) (f : Nat → Int) (hf : Byt f) (hn : n ≤ 4000) (W : World) (hr : Rd W W.heap.size A n f) :
    Calls Try.prog 20 #[.agg (ip4c 0 0 false 64 P s d (.slice none 0 0)), .slice A n c] W (PkW false P s d n f W) := by
  have hopt : optE (fun _ => 0) 0 = 0 := by
    unfold optE
    rw [if_neg (by omega), optK_end (.inl (Nat.le_refl 0))]
    rfl
  refine (write4_any 0 0 false 64 P s d none 0 0 (fun _ => 0) A n c f ⟨by omega, by omega⟩ ⟨by omega, by omega⟩ ⟨by omega, by omega⟩ hP hs hd zer_byt hf (by omega) (Nat.le_refl _) (by omega) (by omega) W (.inl rfl) hr).mono ?_
  rintro e w' (⟨h, _⟩ | ⟨_, h, _⟩ | ⟨_, _, h1, U, cu, rfl, ho, hb⟩ | ⟨_, _, h1, U, cu, rfl, ho, hb⟩)
  · exact absurd hopt h
  · rw [h4, h5] at h
    cases h
  · exact .inl ⟨by show 1660 < 20 + n; omega, U, cu, rfl, ho, hb⟩
  · have e0 : ipN false + n = 20 + 0 + n := by show 20 + n = _; omega
    exact .inr ⟨by omega, _, ipW4 hP hs hd h4 h5 (by omega) hf, U, cu, by rw [e0], by rw [e0]; exact ho, hb⟩
set_option maxHeartbeats 1000000 in
theorem pack_any (v : Bool) (m : Int) (s d : Nat → Int) (sp kd : Int) (B : Option Addr) (nb cb : Nat) (hs : Byt s) (hd : Byt d) (h4 : v = false → fourB s = true ∧ fourB d = true) (P : Int) (hP : 0 ≤ P ∧ P ≤ 255) (hx : ext6 P = false) (A : Option Addr) (n c : Nat) (f : Nat → Int) (hf : Byt f) (hn : n ≤ 4000) (w : World) (hr : Rd w w.heap.size A n f) :
    Calls Try.prog 14 #[.agg (wrpc v m s d sp kd (.slice B nb cb)), .int .u8 P, .slice A n c] w (PkW v P s d n f w) := by
  have HR := Lib.hid hr
  clear hr
  cases v
  · have HWR := Lib.hid (pk4_any hP (h4 rfl).1 (h4 rfl).2 hs hd A n c f hf hn)
    clear hs hd h4 hP hx hf
    have e1 : (w.alloc (.cells (wrpc false m s d sp kd (.slice B nb cb)) 40)).heap.size = w.heap.size + 1 := by simp
    have HW1 : Hid ((w.alloc (.cells (wrpc false m s d sp kd (.slice B nb cb)) 40)).heap[w.heap.size]? = some (.cells (wrpc false m s d sp kd (.slice B nb cb)) 40 (0, 0))) := heap_alloc_new w _
    have HN : Hid (((w.alloc (.cells (wrpc false m s d sp kd (.slice B nb cb)) 40)).alloc (.cells outz 25)).heap[w.heap.size + 1]? = some (.cells outz 25 (0, 0))) := by rw [← e1]; exact heap_alloc_new _ _
    have HM : Hid (Mem w (((w.alloc (.cells (wrpc false m s d sp kd (.slice B nb cb)) 40)).alloc (.cells outz 25)).setRow (w.heap.size + 1) (outc false m s d sp)) [(w.heap.size, .cells (wrpc false m s d sp kd (.slice B nb cb)) 40 (0, 0)), (w.heap.size + 1, .cells (outc false m s d sp) 25 (0, 0))]) := Lib.hid ((((Mem.nil w).alloc (.cells (wrpc false m s d sp kd (.slice B nb cb)) 40)).new (.cells outz 25) (w.heap.size + 1) e1.symm).row 1 rfl (outc false m s d sp))
    clear e1
    go_enter Try.func14, Try.ntmps14
    go_upto_region 2 with (first
      | (refine wpList_load_mid rfl 25 (.tmp 9) rfl w.heap.size 0 rfl (outc false m s d sp).toList _ (wrp_outer HW1.out) Try.underlying25 rfl (by kernel_rfl) ?_)
      | (refine wpList_store_row rfl 25 (.tmp 8) (.tmp 10) rfl (w.heap.size + 1) (outc false m s d sp) rfl rfl 25 outz HN.out (by kernel_rfl) rfl (out_one ..) ?_))
    change Code.wp _ _ _ _ (((w.alloc (.cells (wrpc false m s d sp kd (.slice B nb cb)) 40)).alloc (.cells outz 25)).setRow (w.heap.size + 1) (outc false m s d sp))
    clear HN HW1
    generalize ((w.alloc (.cells (wrpc false m s d sp kd (.slice B nb cb)) 40)).alloc (.cells outz 25)).setRow (w.heap.size + 1) (outc false m s d sp) = u1 at *
    have x0 : u1.cell? ⟨w.heap.size + 1, 0, none⟩ = some (.bool false) := blk_cell (HM.out.get 1 rfl) 0
    go_wp2_with (first
      | (refine wpList_load_mid rfl 22 (.tmp 25) rfl (w.heap.size + 1) 2 rfl (arr16 s).toList _ (blk_range (HM.out.get 1 rfl) (fun k hk => out_srcs k hk)) Try.underlying22 rfl (by kernel_rfl) ?_)
      | (refine wpList_load_mid rfl 22 (.tmp 27) rfl (w.heap.size + 1) 18 rfl (arr16 d).toList _ (blk_range (HM.out.get 1 rfl) (fun k hk => out_dsts k hk)) Try.underlying22 rfl (by kernel_rfl) ?_)
      | (refine wpList_b4 rfl (.tmp 24) (.tmp 26) (.tmp 28) rfl P s d rfl rfl rfl ?_))
    go_at_call 20
    refine (HWR.out u1 (HM.out.rd HR.out)).mono ?_
    rintro e u2 (⟨h1, U, cu, rfl, ho, hb⟩ | ⟨h1, g, hg, U, cu, rfl, ho, hb⟩)
    · have HO := Lib.hid ho
      have HB := Lib.hid hb
      have H1 := Lib.hid h1
      clear ho hb h1
      go_wp2
      go_ret2
      exact .inl ⟨H1.out, U, cu, rfl, HO.out.le HM.out.below.size, HM.out.below.trans (HB.out.mono HM.out.below.size)⟩
    · have HO := Lib.hid ho
      have HB := Lib.hid hb
      have H1 := Lib.hid h1
      have HG := Lib.hid hg
      clear ho hb h1 hg
      go_wp2
      go_ret2
      exact .inr ⟨H1.out, g, HG.out, U, cu, rfl, HO.out.le HM.out.below.size, HM.out.below.trans (HB.out.mono HM.out.below.size)⟩
  · have HWR := Lib.hid (pk6_any hP hx hs hd A n c f hf hn)
    clear hs hd h4 hP hx hf
    have e1 : (w.alloc (.cells (wrpc true m s d sp kd (.slice B nb cb)) 40)).heap.size = w.heap.size + 1 := by simp
    have HW1 : Hid ((w.alloc (.cells (wrpc true m s d sp kd (.slice B nb cb)) 40)).heap[w.heap.size]? = some (.cells (wrpc true m s d sp kd (.slice B nb cb)) 40 (0, 0))) := heap_alloc_new w _
    have HN : Hid (((w.alloc (.cells (wrpc true m s d sp kd (.slice B nb cb)) 40)).alloc (.cells outz 25)).heap[w.heap.size + 1]? = some (.cells outz 25 (0, 0))) := by rw [← e1]; exact heap_alloc_new _ _
    have HM : Hid (Mem w (((w.alloc (.cells (wrpc true m s d sp kd (.slice B nb cb)) 40)).alloc (.cells outz 25)).setRow (w.heap.size + 1) (outc true m s d sp)) [(w.heap.size, .cells (wrpc true m s d sp kd (.slice B nb cb)) 40 (0, 0)), (w.heap.size + 1, .cells (outc true m s d sp) 25 (0, 0))]) := Lib.hid ((((Mem.nil w).alloc (.cells (wrpc true m s d sp kd (.slice B nb cb)) 40)).new (.cells outz 25) (w.heap.size + 1) e1.symm).row 1 rfl (outc true m s d sp))
    clear e1
    go_enter Try.func14, Try.ntmps14
    go_upto_region 2 with (first
      | (refine wpList_load_mid rfl 25 (.tmp 9) rfl w.heap.size 0 rfl (outc true m s d sp).toList _ (wrp_outer HW1.out) Try.underlying25 rfl (by kernel_rfl) ?_)
      | (refine wpList_store_row rfl 25 (.tmp 8) (.tmp 10) rfl (w.heap.size + 1) (outc true m s d sp) rfl rfl 25 outz HN.out (by kernel_rfl) rfl (out_one ..) ?_))
    change Code.wp _ _ _ _ (((w.alloc (.cells (wrpc true m s d sp kd (.slice B nb cb)) 40)).alloc (.cells outz 25)).setRow (w.heap.size + 1) (outc true m s d sp))
    clear HN HW1
    generalize ((w.alloc (.cells (wrpc true m s d sp kd (.slice B nb cb)) 40)).alloc (.cells outz 25)).setRow (w.heap.size + 1) (outc true m s d sp) = u1 at *
    have x0 : u1.cell? ⟨w.heap.size + 1, 0, none⟩ = some (.bool true) := blk_cell (HM.out.get 1 rfl) 0
    go_wp2_with (first
      | (refine wpList_load_mid rfl 22 (.tmp 15) rfl (w.heap.size + 1) 2 rfl (arr16 s).toList _ (blk_range (HM.out.get 1 rfl) (fun k hk => out_srcs k hk)) Try.underlying22 rfl (by kernel_rfl) ?_)
      | (refine wpList_load_mid rfl 22 (.tmp 17) rfl (w.heap.size + 1) 18 rfl (arr16 d).toList _ (blk_range (HM.out.get 1 rfl) (fun k hk => out_dsts k hk)) Try.underlying22 rfl (by kernel_rfl) ?_)
      | (refine wpList_b6 rfl (.tmp 13) (.tmp 14) (.tmp 16) (.tmp 18) rfl P s d rfl rfl rfl rfl ?_))
    go_at_call 19
    refine (HWR.out u1 (HM.out.rd HR.out)).mono ?_
    rintro e u2 (⟨h1, U, cu, rfl, ho, hb⟩ | ⟨h1, g, hg, U, cu, rfl, ho, hb⟩)
    · have HO := Lib.hid ho
      have HB := Lib.hid hb
      have H1 := Lib.hid h1
      clear ho hb h1
      go_wp2
      go_ret2
      exact .inl ⟨H1.out, U, cu, rfl, HO.out.le HM.out.below.size, HM.out.below.trans (HB.out.mono HM.out.below.size)⟩
    · have HO := Lib.hid ho
      have HB := Lib.hid hb
      have H1 := Lib.hid h1
      have HG := Lib.hid hg
      clear ho hb h1 hg
      go_wp2
      go_ret2
      exact .inr ⟨H1.out, g, HG.out, U, cu, rfl, HO.out.le HM.out.below.size, HM.out.below.trans (HB.out.mono HM.out.below.size)⟩
end Go.Proofs.Ythjgecdnlpdcdaa
