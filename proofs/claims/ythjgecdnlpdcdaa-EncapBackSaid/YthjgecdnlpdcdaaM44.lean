import Derived.Test.YthjgecdnlpdcdaaM43
/- Layer 8, the program: Wrap. -/
namespace Go.Proofs.Ythjgecdnlpdcdaa
set_option maxRecDepth 100000
open Go.RowKit
/-- What Wrap tells. -/
def WrO (v : Bool) (m : Int) (s d : Nat → Int) (sp : Int) (n : Nat) (f : Nat → Int) (w : World) (e : Ending) (w' : World) : Prop :=
  (wrE v m s d sp n f ≠ 0 ∧ e = .returned (.tuple #[.slice none 0 0, .int .i64 (wrE v m s d sp n f)]) ∧ Below w.heap.size w w') ∨
  (wrE v m s d sp n f = 0 ∧ ∃ g, Wd v m s d sp n f g ∧ ∃ U cu, e = .returned (.tuple #[.slice U (wrN v m + n) cu, .int .i64 0]) ∧ Own w' w.heap.size 5 U (wrN v m + n) cu g ∧ Below w.heap.size w w')
theorem wpList_wrp {ops : Array Oper} {rest : List Oper} {op : Oper} {a : Act} {w : World} {Q : Exit → Act → World → Prop} (hw : Region.wanted op (yielded ops a.tmps) = true) (x0 x1 x2 : Operand) (ho : op.op = .build 40 #[(0, x0), (1, x1), (2, x2)])
    (v : Bool) (m : Int) (s d : Nat → Int) (sp kd : Int) (A : Option Addr) (n c : Nat) (X : Array Value) (hX : X = wrpc v m s d sp kd (.slice A n c)) (h0 : a.eval x0 = .agg (outc v m s d sp)) (h1 : a.eval x1 = .int .u8 kd) (h2 : a.eval x2 = .slice A n c)
    (h : wpList Try.prog ops Q rest (a.put op.dst (.agg X)) w) : wpList Try.prog ops Q (op :: rest) a w := by
  have hb : (Instr.build 40 #[(0, .agg (outc v m s d sp)), (1, .int .u8 kd), (2, .slice A n c)]).run Try.prog w = .ok (.agg (wrpc v m s d sp kd (.slice A n c))) w := by kernel_rfl
  rw [← hX] at hb
  refine BigFrame.wpList_want hw fun K hK => ?_
  unfold Oper.wp execOp
  simp only [ho, List.map_toArray, List.map_cons, List.map_nil, h0, h1, h2, Sem.run_bind, Sem.run_pure, Result.andThen_ok, hb]
  exact hK _ _ h
theorem wpList_md {ops : Array Oper} {rest : List Oper} {op : Oper} {a : Act} {w : World} {Q : Exit → Act → World → Prop} (hw : Region.wanted op (yielded ops a.tmps) = true) (x1 x2 : Operand) (ho : op.op = .build 42 #[(1, x1), (2, x2)])
    (f1 f2 : Fn) (a1 a2 b1 b2 : Array Value) (h1 : a.eval x1 = .func f1 a1 b1) (h2 : a.eval x2 = .func f2 a2 b2)
    (h : wpList Try.prog ops Q rest (a.put op.dst (.agg #[.nilFunc, .func f1 a1 b1, .func f2 a2 b2])) w) : wpList Try.prog ops Q (op :: rest) a w := by
  have hb : (Instr.build 42 #[(1, .func f1 a1 b1), (2, .func f2 a2 b2)]).run Try.prog w = .ok (.agg #[.nilFunc, .func f1 a1 b1, .func f2 a2 b2]) w := by kernel_rfl
  refine BigFrame.wpList_want hw fun K hK => ?_
  unfold Oper.wp execOp
  simp only [ho, List.map_toArray, List.map_cons, List.map_nil, h1, h2, Sem.run_bind, Sem.run_pure, Result.andThen_ok, hb]
  exact hK _ _ h
theorem wrE_0 {v : Bool} {m : Int} {s d : Nat → Int} {sp : Int} {n : Nat} {f : Nat → Int} (h : mayO v m s d sp = false) : wrE v m s d sp n f = 2 := by unfold wrE; rw [if_pos h]
theorem wrE_1 {v : Bool} {m : Int} {s d : Nat → Int} {sp : Int} {n : Nat} {f : Nat → Int} (h : mayO v m s d sp = true) (h1 : knd f n = 0) : wrE v m s d sp n f = 5 := by unfold wrE; rw [if_neg (by rw [h]; decide), if_pos h1]
theorem wrE_2 {v : Bool} {m : Int} {s d : Nat → Int} {sp : Int} {n : Nat} {f : Nat → Int} (h : mayO v m s d sp = true) (h1 : knd f n ≠ 0) (h2 : 1646 < wrN v m + n) : wrE v m s d sp n f = 3 := by unfold wrE; rw [if_neg (by rw [h]; decide), if_neg h1, if_pos h2]
theorem wrE_3 {v : Bool} {m : Int} {s d : Nat → Int} {sp : Int} {n : Nat} {f : Nat → Int} (h : mayO v m s d sp = true) (h1 : knd f n ≠ 0) (h2 : ¬ 1646 < wrN v m + n) : wrE v m s d sp n f = 0 := by unfold wrE; rw [if_neg (by rw [h]; decide), if_neg h1, if_neg h2]
set_option maxHeartbeats 1000000 in
theorem wrap_arg (v : Bool) (m : Int) (s d : Nat → Int) (sp : Int) (A : Option Addr) (n c : Nat) (f : Nat → Int) (h : mayO v m s d sp = false) (w : World) :
    Calls Try.prog 5 #[.agg (outc v m s d sp), .slice A n c] w (WrO v m s d sp n f w) := by
  have hE := wrE_0 (n := n) (f := f) h
  have HMY := Lib.hid (mayO_any v m s d sp)
  rw [h] at HMY
  unfold WrO
  rw [hE]
  clear hE h
  have HM : Hid (Mem w (w.alloc (.cells (outc v m s d sp) 25)) [(w.heap.size, .cells (outc v m s d sp) 25 (0, 0))]) := Lib.hid ((Mem.nil w).alloc (.cells (outc v m s d sp) 25))
  go_enter Try.func5, Try.ntmps5
  go_upto_region 1 with fail
  change Code.wp _ _ _ _ (w.alloc (.cells (outc v m s d sp) 25))
  generalize w.alloc (.cells (outc v m s d sp) 25) = u1 at *
  go_wp2_with (first
    | (refine wpList_load_row rfl 25 (.tmp 2) rfl w.heap.size rfl 25 (outc v m s d sp) (0, 0) _ (HM.out.get 0 rfl) Try.underlying25 rfl (by kernel_rfl) ?_)
    | (go_at_call 8; refine (HMY.out u1).mono ?_; rintro e u2 ⟨rfl, hb⟩; have HM2 := Lib.hid (HM.out.step hb); clear hb HM HMY))
  go_ret2
  exact .inl ⟨by decide, rfl, HM2.out.below⟩
set_option maxHeartbeats 1000000 in
theorem wrap_form (v : Bool) (m : Int) (s d : Nat → Int) (sp : Int) (A : Option Addr) (n c : Nat) (f : Nat → Int) (hf : Byt f) (h : mayO v m s d sp = true) (hk : knd f n = 0) (w : World) (hr : Rd w w.heap.size A n f) :
    Calls Try.prog 5 #[.agg (outc v m s d sp), .slice A n c] w (WrO v m s d sp n f w) := by
  have hE := wrE_1 h hk
  have HMY := Lib.hid (mayO_any v m s d sp)
  have HKD := Lib.hid (kind_any A n c f hf)
  have HR := Lib.hid hr
  rw [h] at HMY
  rw [hk] at HKD
  unfold WrO
  rw [hE]
  clear hE h hk hr hf
  have HM : Hid (Mem w (w.alloc (.cells (outc v m s d sp) 25)) [(w.heap.size, .cells (outc v m s d sp) 25 (0, 0))]) := Lib.hid ((Mem.nil w).alloc (.cells (outc v m s d sp) 25))
  go_enter Try.func5, Try.ntmps5
  go_upto_region 1 with fail
  change Code.wp _ _ _ _ (w.alloc (.cells (outc v m s d sp) 25))
  generalize w.alloc (.cells (outc v m s d sp) 25) = u1 at *
  go_wp2_with (first
    | (refine wpList_load_row rfl 25 (.tmp 2) rfl w.heap.size rfl 25 (outc v m s d sp) (0, 0) _ (HM.out.get 0 rfl) Try.underlying25 rfl (by kernel_rfl) ?_)
    | (go_at_call 8; refine (HMY.out u1).mono ?_; rintro e u2 ⟨rfl, hb⟩; have HM2 := Lib.hid (HM.out.step hb); clear hb HM HMY)
    | (go_at_call 7; refine (HKD.out u2 (HM2.out.rd HR.out)).mono ?_; rintro e u3 ⟨rfl, rfl⟩))
  go_ret2
  exact .inl ⟨by decide, rfl, HM2.out.below⟩
set_option maxHeartbeats 2000000 in
theorem wrap_1 (v : Bool) (s d : Nat → Int) (hs : Byt s) (hd : Byt d) (A : Option Addr) (n c : Nat) (f : Nat → Int) (hf : Byt f) (hn : n ≤ 3000) (h : mayO v 1 s d 0 = true) (hk : knd f n ≠ 0) (w : World) (hr : Rd w w.heap.size A n f) :
    Calls Try.prog 5 #[.agg (outc v 1 s d 0), .slice A n c] w (WrO v 1 s d 0 n f w) := by
  have h4 := (mayO_ok h).1
  have HMD := Lib.hid (ipip_any v s d hs hd h4 A n c f hf hn hk)
  have HMY := Lib.hid (mayO_any v 1 s d 0)
  have HKD := Lib.hid (kind_any A n c f hf)
  have HR := Lib.hid hr
  have HE2 : Hid (1646 < wrN v 1 + n → wrE v 1 s d 0 n f = 3) := Lib.hid fun q => wrE_2 h hk q
  have HE3 : Hid (¬ 1646 < wrN v 1 + n → wrE v 1 s d 0 n f = 0) := Lib.hid fun q => wrE_3 h hk q
  rw [h] at HMY
  unfold WrO
  unfold MdW at HMD
  obtain ⟨E, hE⟩ : ∃ E, E = wrE v 1 s d 0 n f := ⟨_, rfl⟩
  rw [← hE] at HE2 HE3 ⊢
  obtain ⟨kd, hkd⟩ : ∃ kd, kd = knd f n := ⟨_, rfl⟩
  rw [← hkd] at HMD HKD hk
  have k0 : (kd == 0) = false := by simpa using hk
  obtain ⟨X, hX⟩ : ∃ X, X = (wrpc v 1 s d 0 kd (.slice A n c)) := ⟨_, rfl⟩
  rw [← hX] at HMD
  have HSZ : Hid (X.size = 37) := Lib.hid (by rw [hX]; rfl)
  have HON : Hid (X.all (·.oneCell') = true) := Lib.hid (by rw [hX]; exact wrp_one ..)
  have HI37 := Lib.hid (show (Try.prog.info? 40).map (·.size) = some 37 by kernel_rfl)
  have HXE := Lib.hid hX
  generalize wrN v 1 + n = T at *
  clear h hr hs hd h4 hE hkd hk hf hX
  have hmf : ∀ (fn : Fn) (first cap : Array Value) (w : World), (Instr.makeFunc fn first cap).run Try.prog w = .ok (.func fn first cap) w := fun _ _ _ _ => rfl
  have HM : Hid (Mem w (w.alloc (.cells (outc v 1 s d 0) 25)) [(w.heap.size, .cells (outc v 1 s d 0) 25 (0, 0))]) := Lib.hid ((Mem.nil w).alloc (.cells (outc v 1 s d 0) 25))
  go_enter Try.func5, Try.ntmps5
  go_upto_region 1 with fail
  change Code.wp _ _ _ _ (w.alloc (.cells (outc v 1 s d 0) 25))
  generalize w.alloc (.cells (outc v 1 s d 0) 25) = u1 at *
  go_upto_region 6 with (first
    | (refine wpList_load_row rfl 25 (.tmp 2) rfl w.heap.size rfl 25 (outc v 1 s d 0) (0, 0) _ (HM.out.get 0 rfl) Try.underlying25 rfl (by kernel_rfl) ?_)
    | (go_at_call 8; refine (HMY.out u1).mono ?_; rintro e u2 ⟨rfl, hb⟩; have HM2 := Lib.hid (HM.out.step hb); clear hb HM HMY)
    | (go_at_call 7; refine (HKD.out u2 (HM2.out.rd HR.out)).mono ?_; rintro e u3 ⟨rfl, rfl⟩))
  have HN : Hid ((u2.alloc (.cells wrpz 40)).heap[u2.heap.size]? = some (.cells wrpz 40 (0, 0))) := heap_alloc_new u2 _
  go_upto_region 7 with (first
    | (refine wpList_load_row rfl 25 (.tmp 2) rfl w.heap.size rfl 25 (outc v 1 s d 0) (0, 0) _ (HM2.out.get 0 rfl) Try.underlying25 rfl (by kernel_rfl) ?_)
    | (refine wpList_wrp rfl (.tmp 18) (.tmp 19) (.tmp 20) rfl v 1 s d 0 kd A n c X HXE.out rfl rfl rfl ?_)
    | (refine wpList_store_row rfl 40 (.tmp 7) (.tmp 21) rfl u2.heap.size X rfl rfl 40 wrpz HN.out (HI37.out.trans (by rw [HSZ.out])) (by rw [HSZ.out]; rfl) HON.out ?_))
  change Code.wp _ _ _ _ ((u2.alloc (.cells wrpz 40)).setRow u2.heap.size X)
  obtain ⟨q7, hq⟩ : ∃ q, q = u2.heap.size := ⟨_, rfl⟩
  have HM3 : Hid (Mem w ((u2.alloc (.cells wrpz 40)).setRow q7 X) [(w.heap.size, .cells (outc v 1 s d 0) 25 (0, 0)), (q7, .cells X 40 (0, 0))]) := Lib.hid (HM2.out.newrow wrpz X 40 q7 hq)
  rw [← hq]
  clear hq HN HM2
  generalize (u2.alloc (.cells wrpz 40)).setRow q7 X = u3 at *
  have HN : Hid ((u3.alloc (.cells #[.nilFunc, .nilFunc, .nilFunc] 42)).heap[u3.heap.size]? = some (.cells #[.nilFunc, .nilFunc, .nilFunc] 42 (0, 0))) := heap_alloc_new u3 _
  go_upto_region 8 with (first
    | (refine wpList_load_row rfl 40 (.tmp 7) rfl q7 rfl 40 X (0, 0) _ (HM3.out.get 1 rfl) Try.underlying40 rfl (HI37.out.trans (by rw [HSZ.out])) ?_)
    | (refine wpList_md rfl (.tmp 23) (.tmp 25) rfl (.func 9) (.func 10) #[.agg X] #[.agg X] #[] #[] rfl rfl ?_)
    | (refine wpList_store_row rfl 42 (.tmp 8) (.tmp 26) rfl u3.heap.size #[.nilFunc, .func (.func 9) #[.agg X] #[], .func (.func 10) #[.agg X] #[]] rfl rfl 42 #[.nilFunc, .nilFunc, .nilFunc] HN.out (by kernel_rfl) rfl (by simp [Value.oneCell']) ?_))
  change Code.wp _ _ _ _ ((u3.alloc (.cells #[.nilFunc, .nilFunc, .nilFunc] 42)).setRow u3.heap.size #[.nilFunc, .func (.func 9) #[.agg X] #[], .func (.func 10) #[.agg X] #[]])
  obtain ⟨q8, hq⟩ : ∃ q, q = u3.heap.size := ⟨_, rfl⟩
  have HM4 : Hid (Mem w ((u3.alloc (.cells #[.nilFunc, .nilFunc, .nilFunc] 42)).setRow q8 #[.nilFunc, .func (.func 9) #[.agg X] #[], .func (.func 10) #[.agg X] #[]]) [(w.heap.size, .cells (outc v 1 s d 0) 25 (0, 0)), (q7, .cells X 40 (0, 0)), (q8, .cells #[.nilFunc, .func (.func 9) #[.agg X] #[], .func (.func 10) #[.agg X] #[]] 42 (0, 0))]) := Lib.hid (HM3.out.newrow #[.nilFunc, .nilFunc, .nilFunc] #[.nilFunc, .func (.func 9) #[.agg X] #[], .func (.func 10) #[.agg X] #[]] 42 q8 hq)
  rw [← hq]
  clear hq HN HM3
  generalize (u3.alloc (.cells #[.nilFunc, .nilFunc, .nilFunc] 42)).setRow q8 #[.nilFunc, .func (.func 9) #[.agg X] #[], .func (.func 10) #[.agg X] #[]] = u4 at *
  have x1 : u4.cell? ⟨w.heap.size, 1, none⟩ = some (.int .u8 1) := blk_cell (HM4.out.get 0 rfl) 1
  have x8 : u4.cell? ⟨q8, 1, none⟩ = some (.func (.func 9) #[.agg X] #[]) := blk_cell (HM4.out.get 2 rfl) 1
  go_wp2_with fail
  go_at_call 9
  refine (HMD.out u4 (HM4.out.rd HR.out)).mono ?_
  rintro e u5 (⟨h1, U, cu, rfl, ho, hb⟩ | ⟨h1, g, hg, U, cu, rfl, ho, hb⟩)
  · have HB := Lib.hid hb
    have hEe := HE2.out (by omega)
    clear ho hb h1 x1 x8
    subst hEe
    go_wp2_with fail
    go_ret2
    exact .inl ⟨by decide, rfl, HM4.out.below.trans (HB.out.mono HM4.out.below.size)⟩
  · have HO := Lib.hid ho
    have HB := Lib.hid hb
    have HG := Lib.hid hg
    clear ho hb hg x1 x8
    by_cases cL : 1646 < T
    · have cL' : (T : Int) > 1646 := by omega
      have hEe := HE2.out cL
      subst hEe
      clear cL h1
      go_wp2_with fail
      go_ret2
      exact .inl ⟨by decide, rfl, HM4.out.below.trans (HB.out.mono HM4.out.below.size)⟩
    · have cL' : (T : Int) ≤ 1646 := by omega
      have hEe := HE3.out cL
      subst hEe
      clear cL h1
      go_wp2_with fail
      go_ret2
      first
        | exact ⟨g, HG.out, U, cu, rfl, HO.out.le HM4.out.below.size, HM4.out.below.trans (HB.out.mono HM4.out.below.size)⟩
        | exact .inr ⟨rfl, g, HG.out, U, cu, rfl, HO.out.le HM4.out.below.size, HM4.out.below.trans (HB.out.mono HM4.out.below.size)⟩
set_option maxHeartbeats 2000000 in
theorem wrap_2 (v : Bool) (s d : Nat → Int) (hs : Byt s) (hd : Byt d) (sp : Int) (hsp : 0 ≤ sp ∧ sp ≤ 65535) (A : Option Addr) (n c : Nat) (f : Nat → Int) (hf : Byt f) (hn : n ≤ 3000) (h : mayO v 2 s d sp = true) (hk : knd f n ≠ 0) (w : World) (hr : Rd w w.heap.size A n f) :
    Calls Try.prog 5 #[.agg (outc v 2 s d sp), .slice A n c] w (WrO v 2 s d sp n f w) := by
  have h4 := (mayO_ok h).1
  have HMD := Lib.hid (gue_any v s d hs hd h4 sp hsp A n c f hf hn)
  have HMY := Lib.hid (mayO_any v 2 s d sp)
  have HKD := Lib.hid (kind_any A n c f hf)
  have HR := Lib.hid hr
  have HE2 : Hid (1646 < wrN v 2 + n → wrE v 2 s d sp n f = 3) := Lib.hid fun q => wrE_2 h hk q
  have HE3 : Hid (¬ 1646 < wrN v 2 + n → wrE v 2 s d sp n f = 0) := Lib.hid fun q => wrE_3 h hk q
  rw [h] at HMY
  unfold WrO
  unfold MdW at HMD
  obtain ⟨E, hE⟩ : ∃ E, E = wrE v 2 s d sp n f := ⟨_, rfl⟩
  rw [← hE] at HE2 HE3 ⊢
  obtain ⟨kd, hkd⟩ : ∃ kd, kd = knd f n := ⟨_, rfl⟩
  rw [← hkd] at HMD HKD hk
  have k0 : (kd == 0) = false := by simpa using hk
  obtain ⟨X, hX⟩ : ∃ X, X = (wrpc v 2 s d sp kd (.slice A n c)) := ⟨_, rfl⟩
  rw [← hX] at HMD
  have HSZ : Hid (X.size = 37) := Lib.hid (by rw [hX]; rfl)
  have HON : Hid (X.all (·.oneCell') = true) := Lib.hid (by rw [hX]; exact wrp_one ..)
  have HI37 := Lib.hid (show (Try.prog.info? 40).map (·.size) = some 37 by kernel_rfl)
  have HXE := Lib.hid hX
  generalize wrN v 2 + n = T at *
  clear h hr hs hd h4 hE hkd hk hf hX
  have hmf : ∀ (fn : Fn) (first cap : Array Value) (w : World), (Instr.makeFunc fn first cap).run Try.prog w = .ok (.func fn first cap) w := fun _ _ _ _ => rfl
  have HM : Hid (Mem w (w.alloc (.cells (outc v 2 s d sp) 25)) [(w.heap.size, .cells (outc v 2 s d sp) 25 (0, 0))]) := Lib.hid ((Mem.nil w).alloc (.cells (outc v 2 s d sp) 25))
  go_enter Try.func5, Try.ntmps5
  go_upto_region 1 with fail
  change Code.wp _ _ _ _ (w.alloc (.cells (outc v 2 s d sp) 25))
  generalize w.alloc (.cells (outc v 2 s d sp) 25) = u1 at *
  go_upto_region 6 with (first
    | (refine wpList_load_row rfl 25 (.tmp 2) rfl w.heap.size rfl 25 (outc v 2 s d sp) (0, 0) _ (HM.out.get 0 rfl) Try.underlying25 rfl (by kernel_rfl) ?_)
    | (go_at_call 8; refine (HMY.out u1).mono ?_; rintro e u2 ⟨rfl, hb⟩; have HM2 := Lib.hid (HM.out.step hb); clear hb HM HMY)
    | (go_at_call 7; refine (HKD.out u2 (HM2.out.rd HR.out)).mono ?_; rintro e u3 ⟨rfl, rfl⟩))
  have HN : Hid ((u2.alloc (.cells wrpz 40)).heap[u2.heap.size]? = some (.cells wrpz 40 (0, 0))) := heap_alloc_new u2 _
  go_upto_region 7 with (first
    | (refine wpList_load_row rfl 25 (.tmp 2) rfl w.heap.size rfl 25 (outc v 2 s d sp) (0, 0) _ (HM2.out.get 0 rfl) Try.underlying25 rfl (by kernel_rfl) ?_)
    | (refine wpList_wrp rfl (.tmp 18) (.tmp 19) (.tmp 20) rfl v 2 s d sp kd A n c X HXE.out rfl rfl rfl ?_)
    | (refine wpList_store_row rfl 40 (.tmp 7) (.tmp 21) rfl u2.heap.size X rfl rfl 40 wrpz HN.out (HI37.out.trans (by rw [HSZ.out])) (by rw [HSZ.out]; rfl) HON.out ?_))
  change Code.wp _ _ _ _ ((u2.alloc (.cells wrpz 40)).setRow u2.heap.size X)
  obtain ⟨q7, hq⟩ : ∃ q, q = u2.heap.size := ⟨_, rfl⟩
  have HM3 : Hid (Mem w ((u2.alloc (.cells wrpz 40)).setRow q7 X) [(w.heap.size, .cells (outc v 2 s d sp) 25 (0, 0)), (q7, .cells X 40 (0, 0))]) := Lib.hid (HM2.out.newrow wrpz X 40 q7 hq)
  rw [← hq]
  clear hq HN HM2
  generalize (u2.alloc (.cells wrpz 40)).setRow q7 X = u3 at *
  have HN : Hid ((u3.alloc (.cells #[.nilFunc, .nilFunc, .nilFunc] 42)).heap[u3.heap.size]? = some (.cells #[.nilFunc, .nilFunc, .nilFunc] 42 (0, 0))) := heap_alloc_new u3 _
  go_upto_region 8 with (first
    | (refine wpList_load_row rfl 40 (.tmp 7) rfl q7 rfl 40 X (0, 0) _ (HM3.out.get 1 rfl) Try.underlying40 rfl (HI37.out.trans (by rw [HSZ.out])) ?_)
    | (refine wpList_md rfl (.tmp 23) (.tmp 25) rfl (.func 9) (.func 10) #[.agg X] #[.agg X] #[] #[] rfl rfl ?_)
    | (refine wpList_store_row rfl 42 (.tmp 8) (.tmp 26) rfl u3.heap.size #[.nilFunc, .func (.func 9) #[.agg X] #[], .func (.func 10) #[.agg X] #[]] rfl rfl 42 #[.nilFunc, .nilFunc, .nilFunc] HN.out (by kernel_rfl) rfl (by simp [Value.oneCell']) ?_))
  change Code.wp _ _ _ _ ((u3.alloc (.cells #[.nilFunc, .nilFunc, .nilFunc] 42)).setRow u3.heap.size #[.nilFunc, .func (.func 9) #[.agg X] #[], .func (.func 10) #[.agg X] #[]])
  obtain ⟨q8, hq⟩ : ∃ q, q = u3.heap.size := ⟨_, rfl⟩
  have HM4 : Hid (Mem w ((u3.alloc (.cells #[.nilFunc, .nilFunc, .nilFunc] 42)).setRow q8 #[.nilFunc, .func (.func 9) #[.agg X] #[], .func (.func 10) #[.agg X] #[]]) [(w.heap.size, .cells (outc v 2 s d sp) 25 (0, 0)), (q7, .cells X 40 (0, 0)), (q8, .cells #[.nilFunc, .func (.func 9) #[.agg X] #[], .func (.func 10) #[.agg X] #[]] 42 (0, 0))]) := Lib.hid (HM3.out.newrow #[.nilFunc, .nilFunc, .nilFunc] #[.nilFunc, .func (.func 9) #[.agg X] #[], .func (.func 10) #[.agg X] #[]] 42 q8 hq)
  rw [← hq]
  clear hq HN HM3
  generalize (u3.alloc (.cells #[.nilFunc, .nilFunc, .nilFunc] 42)).setRow q8 #[.nilFunc, .func (.func 9) #[.agg X] #[], .func (.func 10) #[.agg X] #[]] = u4 at *
  have x1 : u4.cell? ⟨w.heap.size, 1, none⟩ = some (.int .u8 2) := blk_cell (HM4.out.get 0 rfl) 1
  have x8 : u4.cell? ⟨q8, 2, none⟩ = some (.func (.func 10) #[.agg X] #[]) := blk_cell (HM4.out.get 2 rfl) 2
  go_wp2_with fail
  go_at_call 10
  refine (HMD.out u4 (HM4.out.rd HR.out)).mono ?_
  rintro e u5 (⟨h1, U, cu, rfl, ho, hb⟩ | ⟨h1, g, hg, U, cu, rfl, ho, hb⟩)
  · have HB := Lib.hid hb
    have hEe := HE2.out (by omega)
    clear ho hb h1 x1 x8
    subst hEe
    go_wp2_with fail
    go_ret2
    exact .inl ⟨by decide, rfl, HM4.out.below.trans (HB.out.mono HM4.out.below.size)⟩
  · have HO := Lib.hid ho
    have HB := Lib.hid hb
    have HG := Lib.hid hg
    clear ho hb hg x1 x8
    by_cases cL : 1646 < T
    · have cL' : (T : Int) > 1646 := by omega
      have hEe := HE2.out cL
      subst hEe
      clear cL h1
      go_wp2_with fail
      go_ret2
      exact .inl ⟨by decide, rfl, HM4.out.below.trans (HB.out.mono HM4.out.below.size)⟩
    · have cL' : (T : Int) ≤ 1646 := by omega
      have hEe := HE3.out cL
      subst hEe
      clear cL h1
      go_wp2_with fail
      go_ret2
      first
        | exact ⟨g, HG.out, U, cu, rfl, HO.out.le HM4.out.below.size, HM4.out.below.trans (HB.out.mono HM4.out.below.size)⟩
        | exact .inr ⟨rfl, g, HG.out, U, cu, rfl, HO.out.le HM4.out.below.size, HM4.out.below.trans (HB.out.mono HM4.out.below.size)⟩
theorem wrap_any (v : Bool) (m : Int) (s d : Nat → Int) (hs : Byt s) (hd : Byt d) (sp : Int) (hsp : 0 ≤ sp ∧ sp ≤ 65535) (A : Option Addr) (n c : Nat) (f : Nat → Int) (hf : Byt f) (hn : n ≤ 3000) (w : World) (hr : Rd w w.heap.size A n f) :
    Calls Try.prog 5 #[.agg (outc v m s d sp), .slice A n c] w (WrO v m s d sp n f w) := by
  by_cases h : mayO v m s d sp = true
  · by_cases hk : knd f n = 0
    · exact wrap_form v m s d sp A n c f hf h hk w hr
    · rcases (mayO_ok h).2 with ⟨rfl, rfl⟩ | ⟨rfl, _⟩
      · exact wrap_1 v s d hs hd A n c f hf hn h hk w hr
      · exact wrap_2 v s d hs hd sp hsp A n c f hf hn h hk w hr
  · exact wrap_arg v m s d sp A n c f (by simpa using h) w
end Go.Proofs.Ythjgecdnlpdcdaa
