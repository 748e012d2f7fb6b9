/- Layer 6: Within, the program's and the document's. -/
import Derived.Test.YtfaelihfjmaekaaId
import Derived.Test.YtfaelihfjmaekaaPorts
import Derived.Test.YtfaelihfjmaekaaMem
namespace Go.Proofs.Ytfaelihfjmaekaa
open Go.RowKit
theorem results_row1 {P : Program} {fn : Func} {p a : Tmp} {ty : TypeId} (h : fn.results = #[.cell p ty, .tmp a]) (tmps : Array Value) (w : World) (g : Nat) (t : TypeId) (cs : Array Value) (fr : Nat × Nat) (d : TypeDesc)
    (hp : tmps.getD p undef = .pointer (some ⟨g, 0, none⟩)) (hg : w.heap[g]? = some (.cells cs t fr))
    (hu : P.underlying ty = some d) (hd : (match d with | .struct _ | .array _ _ => true | _ => false) = true) (hi : (P.info? ty).map (·.size) = some cs.size) :
    (results fn tmps).run P w = .ok (.tuple #[.agg cs, tmps.getD a undef]) w := by
  have hp' : tmps[p]?.getD undef = .pointer (some ⟨g, 0, none⟩) := by simpa using hp
  simp [results, h, hp', asAddr, run_loadVar_row w g t ty cs fr d hg hu hd hi]
/-- The flow that Within tells. -/
def wT (v6 : Bool) (f : Nat → Int) (n : Nat) : Array Value :=
  if winE v6 f n = 0 then tupc v6 (win v6 f n).2.2 (winS v6 f) (winD v6 f) (w2 f ((win v6 f n).2.1 + 2)) (w2 f (win v6 f n).2.1) else tupz
theorem wT_one (v6 : Bool) (f : Nat → Int) (n : Nat) : (wT v6 f n).all (·.oneCell') = true := by unfold wT; split <;> exact tup_one ..
theorem wT_size (v6 : Bool) (f : Nat → Int) (n : Nat) : (wT v6 f n).size = 36 := by unfold wT; split <;> rfl
theorem wT_no {v6 : Bool} {f : Nat → Int} {n : Nat} (h : winE v6 f n ≠ 0) : wT v6 f n = tupz := by unfold wT; rw [if_neg h]
theorem wT_ok {v6 : Bool} {f : Nat → Int} {n a : Nat} {P : Int} (h : winE v6 f n = 0) (hx : win v6 f n = (0, a, P)) : wT v6 f n = tupc v6 P (winS v6 f) (winD v6 f) (w2 f (a + 2)) (w2 f a) := by unfold wT; rw [if_pos h, hx]
theorem winE_0 {v6 : Bool} {f : Nat → Int} {n a : Nat} {E P : Int} (hx : win v6 f n = (E, a, P)) (h : E ≠ 0) : winE v6 f n = E := by unfold winE; rw [hx, if_pos h]
theorem winE_1 {v6 : Bool} {f : Nat → Int} {n a : Nat} {P : Int} (hx : win v6 f n = (0, a, P)) (h : P ≠ 6 ∧ P ≠ 17) : winE v6 f n = 10 := by unfold winE; rw [hx, if_neg (fun q => q rfl), if_pos h]
theorem winE_2 {v6 : Bool} {f : Nat → Int} {n a : Nat} {P : Int} (hx : win v6 f n = (0, a, P)) (h : P = 6 ∨ P = 17) (h4 : n - a < 4) : winE v6 f n = 4 := by unfold winE; rw [hx, if_neg (fun q => q rfl), if_neg (fun q => by rcases h with r | r; exact q.1 r; exact q.2 r), if_pos h4]
theorem winE_3 {v6 : Bool} {f : Nat → Int} {n a : Nat} {P : Int} (hx : win v6 f n = (0, a, P)) (h : P = 6 ∨ P = 17) (h4 : ¬ n - a < 4) : winE v6 f n = 0 := by unfold winE; rw [hx, if_neg (fun q => q rfl), if_neg (fun q => by rcases h with r | r; exact q.1 r; exact q.2 r), if_neg h4]
theorem win_le {v6 : Bool} {f : Nat → Int} {n a : Nat} {P : Int} (hx : win v6 f n = (0, a, P)) : a ≤ n := by
  cases v6
  · have h : win4 f n = (0, a, P) := hx
    unfold win4 at h
    split at h
    · injection h with h1 _; omega
    split at h
    · injection h with h1 _; omega
    split at h
    · injection h with h1 _; omega
    split at h
    · injection h with h1 _; omega
    injection h with _ h
    injection h with h _
    omega
  · have h : win6 f n = (0, a, P) := hx
    unfold win6 at h
    split at h
    · injection h with h1 _; omega
    split at h
    · injection h with h1 _; omega
    split at h
    · rename_i q
      injection h with h1 _
      exact absurd h1 q
    · rename_i q1 q2 q3
      injection h with _ h
      injection h with h _
      have q4 : (wch f n).2.2 = 0 := by
        by_cases e : (wch f n).2.2 = 0
        · exact e
        · exact absurd e q3
      have := (chn_same (f := fun k => f (40 + k)) (g := fun k => f (40 + k)) (N := n - 40) (N' := n - 40) 8 (f 6) 0 (wch f n).1 (wch f n).2.1 (by show wch f n = _; rw [← q4]) (Nat.zero_le _)).2.2
      omega
theorem w2_from (f : Nat → Int) (a : Nat) : w2 (fun k => f (a + k)) 0 = w2 f a ∧ w2 (fun k => f (a + k)) 2 = w2 f (a + 2) := ⟨rfl, rfl⟩
/-- What Within tells. -/
def WiOut (v6 : Bool) (f : Nat → Int) (n : Nat) (w : World) (e : Ending) (w' : World) : Prop := e = .returned (.tuple #[.agg (wT v6 f n), .int .i64 (winE v6 f n)]) ∧ Below w.heap.size w w'
set_option maxRecDepth 100000 in
set_option maxHeartbeats 4000000 in
theorem within_false (A : Option Addr) (n c : Nat) (f : Nat → Int) (hf : Byt f) (hn : n ≤ 140737488355328) (hcap : n ≤ c) (hc' : c ≤ 9223372036854775807) (w : World) (hr : Rd w w.heap.size A n f) :
    Calls Try.prog 7 #[.bool false, .slice A n c] w (WiOut false f n w) := by
  have HR := Lib.hid hr
  have HF := Lib.hid hf
  clear hr hf
  unfold WiOut
  obtain ⟨R, hR⟩ : ∃ R, R = winE false f n := ⟨_, rfl⟩
  obtain ⟨TT, hT⟩ : ∃ TT, TT = wT false f n := ⟨_, rfl⟩
  rw [← hR, ← hT]
  have HRE := Lib.hid hR
  have HTE := Lib.hid hT
  clear hR hT
  obtain ⟨X, hX⟩ : ∃ X, X = win false f n := ⟨_, rfl⟩
  have HM1 := Lib.hid ((Mem.nil w).alloc (.cells tupz 27))
  have HBK := Lib.hid (back4_any A n c f HF.out hn hcap hc' (w.alloc (.cells tupz 27)) (HM1.out.rd HR.out))
  rw [show win4 f n = X from hX.symm] at HBK
  have HXX := Lib.hid hX
  obtain ⟨E, a, P⟩ := X
  clear hX
  go_enter Try.func7, Try.ntmps7
  go_upto_region 4 with fail
  change Code.wp _ _ _ _ (w.alloc (.cells tupz 27))
  generalize w.alloc (.cells tupz 27) = u1 at *
  go_wp2_with fail
  go_at_call 15
  refine HBK.out.mono ?_
  rintro e u2 ⟨v, pr, ss, dd, rfl, hb2, hok⟩
  have HM2 := Lib.hid (HM1.out.step hb2)
  have HOK := Lib.hid hok
  clear hb2 hok HBK HM1
  have HQ : Hid ((u2.alloc (.cells tupz 27)).heap[u2.heap.size]? = some (.cells tupz 27 (0, 0))) := heap_alloc_new u2 _
  go_upto_if 19 with (first
    | (refine wpList_store_row rfl 27 (.tmp 7) (.tmp 15) rfl u2.heap.size (tupc v pr ss dd 0 0) rfl rfl 27 tupz HQ.out (by kernel_rfl) rfl (tup_one ..) ?_))
  change Code.wp _ _ _ _ ((u2.alloc (.cells tupz 27)).setRow u2.heap.size (tupc v pr ss dd 0 0))
  obtain ⟨q, hq⟩ : ∃ q, q = u2.heap.size := ⟨_, rfl⟩
  have HM3 : Hid (Mem w ((u2.alloc (.cells tupz 27)).setRow q (tupc v pr ss dd 0 0)) [(w.heap.size, .cells tupz 27 (0, 0)), (q, .cells (tupc v pr ss dd 0 0) 27 (0, 0))]) := Lib.hid ((HM2.out.new (.cells tupz 27) q hq).row 1 rfl (tupc v pr ss dd 0 0))
  rw [← hq]
  clear hq HQ HM2
  generalize (u2.alloc (.cells tupz 27)).setRow q (tupc v pr ss dd 0 0) = u3 at *
  by_cases c0 : E = 0
  · subst c0
    obtain ⟨e1, e2, e3, e4⟩ := HOK.out rfl
    subst e1
    have e5 : pr = P := e2
    subst e5
    rw [tup_same e3 e4] at HM3
    clear HOK e2 e3 e4
    have ha := win_le HXX.out.symm
    by_cases c1 : pr = 6 ∨ pr = 17
    · have N1 := Lib.hid c1
      obtain ⟨D, hsD, hrD⟩ := slice_any A n c a ha hcap hc'
      have HPT := Lib.hid (ports_any D (n - a) (c - a) (fun k => f (a + k)) (fun k => HF.out _) (by omega) u3 (hrD _ _ _ (HM3.out.rd HR.out)))
      rw [(w2_from f a).1, (w2_from f a).2] at HPT
      have x1 : u3.cell? ⟨q, 1, none⟩ = some (.int .u8 pr) := blk_cell (HM3.out.get 1 rfl) 1
      obtain ⟨y0, hy0⟩ : ∃ y, y = (if n - a < 4 then 0 else w2 f a) := ⟨_, rfl⟩
      obtain ⟨y2, hy2⟩ : ∃ y, y = (if n - a < 4 then 0 else w2 f (a + 2)) := ⟨_, rfl⟩
      obtain ⟨pe, hpe⟩ : ∃ pe, pe = PortsE (n - a) := ⟨_, rfl⟩
      rw [← hy0, ← hy2, ← hpe] at HPT
      have HY0 := Lib.hid hy0
      have HY2 := Lib.hid hy2
      have HPE := Lib.hid hpe
      clear hy0 hy2 hpe hrD
      have HU9 : ∀ K : Prop, (pr = 6 → K) → (pr = 17 → K) → K := fun K h1 h2 => by rcases N1.out with h | h; exact h1 h; exact h2 h
      have k6 : (pr != 6 && pr != 17) = false := by rcases N1.out with h | h <;> subst h <;> rfl
      clear HU9
      have k7 : (pr != 6) = false ∨ ((pr != 6) = true ∧ (pr != 17) = false) := by rcases N1.out with h | h <;> subst h <;> simp
      clear k6 c1
      rcases k7 with k7 | ⟨k7, k8⟩
      all_goals
        go_wp2_with fail
        go_at_call 17
        refine HPT.out.mono ?_
        rintro e u4 ⟨rfl, hb4⟩
        have HM4 := Lib.hid (HM3.out.step hb4)
        clear hb4 HM3 x1 HPT
        have x34 : u4.cell? ⟨q, 34, none⟩ = some (.int .u16 0) := blk_cell (HM4.out.get 1 rfl) 34
        have y34 := blk_free (HM4.out.get 1 rfl) 34
        have x35 : u4.cell? ⟨q, 35, none⟩ = some (.int .u16 0) := blk_cell (HM4.out.get 1 rfl) 35
        have y35 := blk_free (HM4.out.get 1 rfl) 35
        go_upto_if 42 with fail
        have HM5 : Hid (Mem w ((u4.setCell ⟨q, 35, none⟩ (.int .u16 y0)).setCell ⟨q, 34, none⟩ (.int .u16 y2)) [(w.heap.size, .cells tupz 27 (0, 0)), (q, .cells (tupc false pr (winS false f) (winD false f) y2 y0) 27 (0, 0))]) := Lib.hid ((HM4.out.set 1 rfl 35 (.int .u16 y0)).set 1 rfl 34 (.int .u16 y2))
        clear x34 y34 x35 y35 HM4
        generalize (u4.setCell ⟨q, 35, none⟩ (.int .u16 y0)).setCell ⟨q, 34, none⟩ (.int .u16 y2) = u5 at *
        by_cases c2 : n - a < 4
        · have hpe' : pe = 4 := HPE.out.trans (by unfold PortsE; rw [if_pos c2])
          subst hpe'
          have hRe : R = 4 := HRE.out.trans (winE_2 HXX.out.symm N1.out c2)
          have hTe : TT = tupz := HTE.out.trans (wT_no (by rw [← HRE.out, hRe]; decide))
          go_wp2_with (first
            | (refine wpList_store_row rfl 27 (.tmp 4) (.tmp 43) rfl w.heap.size tupz rfl rfl 27 tupz (HM5.out.get 0 rfl) (by kernel_rfl) rfl tupz_one ?_))
          refine bodyPost_ret (v := .tuple #[.agg tupz, .int .i64 4]) (results_row1 Try.results7 _ _ w.heap.size 27 tupz (0, 0) _ rfl (setRow_heap _ w.heap.size _ tupz _ _ (HM5.out.get 0 rfl)) Try.underlying27 rfl (by kernel_rfl)) rfl ?_
          exact ⟨by rw [hRe, hTe] <;> rfl, below_setRow HM5.out.below (Nat.le_refl _) _⟩
        · have hpe' : pe = 0 := HPE.out.trans (by unfold PortsE; rw [if_neg c2])
          subst hpe'
          have hRe : R = 0 := HRE.out.trans (winE_3 HXX.out.symm N1.out c2)
          have hy0 : y0 = w2 f a := HY0.out.trans (by rw [if_neg c2])
          have hy2 : y2 = w2 f (a + 2) := HY2.out.trans (by rw [if_neg c2])
          have hTe : TT = tupc false pr (winS false f) (winD false f) y2 y0 := by rw [hy0, hy2]; exact HTE.out.trans (wT_ok (by rw [← HRE.out]; exact hRe) HXX.out.symm)
          clear hy0 hy2 HY0 HY2
          go_wp2_with (first
            | (refine wpList_load_row rfl 27 (.tmp 7) rfl q rfl 27 (tupc false pr (winS false f) (winD false f) y2 y0) (0, 0) _ (HM5.out.get 1 rfl) Try.underlying27 rfl (by kernel_rfl) ?_)
            | (refine wpList_store_row rfl 27 (.tmp 4) (.tmp 45) rfl w.heap.size (tupc false pr (winS false f) (winD false f) y2 y0) rfl rfl 27 tupz (HM5.out.get 0 rfl) (by kernel_rfl) rfl (tup_one ..) ?_))
          refine bodyPost_ret (v := .tuple #[.agg (tupc false pr (winS false f) (winD false f) y2 y0), .int .i64 0]) (results_row1 Try.results7 _ _ w.heap.size 27 (tupc false pr (winS false f) (winD false f) y2 y0) (0, 0) _ rfl (setRow_heap _ w.heap.size _ (tupc false pr (winS false f) (winD false f) y2 y0) _ _ (HM5.out.get 0 rfl)) Try.underlying27 rfl (by kernel_rfl)) rfl ?_
          exact ⟨by rw [hRe, hTe] <;> rfl, below_setRow HM5.out.below (Nat.le_refl _) _⟩
    · have k6 : (pr != 6) = true := by simp; omega
      have k7 : (pr != 17) = true := by simp; omega
      have hRe : R = 10 := HRE.out.trans (winE_1 HXX.out.symm ⟨by omega, by omega⟩)
      have hTe : TT = tupz := HTE.out.trans (wT_no (by rw [← HRE.out, hRe]; decide))
      have x1 : u3.cell? ⟨q, 1, none⟩ = some (.int .u8 pr) := blk_cell (HM3.out.get 1 rfl) 1
      clear c1
      go_upto_region 8 with fail
      clear x1
      go_wp2_with (first
        | (refine wpList_store_row rfl 27 (.tmp 4) (.tmp 30) rfl w.heap.size tupz rfl rfl 27 tupz (HM3.out.get 0 rfl) (by kernel_rfl) rfl tupz_one ?_))
      refine bodyPost_ret (v := .tuple #[.agg tupz, .int .i64 10]) (results_row1 Try.results7 _ _ w.heap.size 27 tupz (0, 0) _ rfl (setRow_heap _ w.heap.size _ tupz _ _ (HM3.out.get 0 rfl)) Try.underlying27 rfl (by kernel_rfl)) rfl ?_
      exact ⟨by rw [hRe, hTe] <;> rfl, below_setRow HM3.out.below (Nat.le_refl _) _⟩
  · have c0' : (E != 0) = true := by simpa using c0
    have hRe : R = E := HRE.out.trans (winE_0 HXX.out.symm c0)
    have hTe : TT = tupz := HTE.out.trans (wT_no (by rw [← HRE.out, hRe]; exact c0))
    go_wp2_with (first
      | (refine wpList_store_row rfl 27 (.tmp 4) (.tmp 20) rfl w.heap.size tupz rfl rfl 27 tupz (HM3.out.get 0 rfl) (by kernel_rfl) rfl tupz_one ?_))
    refine bodyPost_ret (v := .tuple #[.agg tupz, .int .i64 E]) (results_row1 Try.results7 _ _ w.heap.size 27 tupz (0, 0) _ rfl (setRow_heap _ w.heap.size _ tupz _ _ (HM3.out.get 0 rfl)) Try.underlying27 rfl (by kernel_rfl)) rfl ?_
    exact ⟨by rw [hRe, hTe] <;> rfl, below_setRow HM3.out.below (Nat.le_refl _) _⟩
set_option maxRecDepth 100000 in
set_option maxHeartbeats 4000000 in
theorem within_true (A : Option Addr) (n c : Nat) (f : Nat → Int) (hf : Byt f) (hn : n ≤ 140737488355328) (hcap : n ≤ c) (hc' : c ≤ 9223372036854775807) (w : World) (hr : Rd w w.heap.size A n f) :
    Calls Try.prog 7 #[.bool true, .slice A n c] w (WiOut true f n w) := by
  have HR := Lib.hid hr
  have HF := Lib.hid hf
  clear hr hf
  unfold WiOut
  obtain ⟨R, hR⟩ : ∃ R, R = winE true f n := ⟨_, rfl⟩
  obtain ⟨TT, hT⟩ : ∃ TT, TT = wT true f n := ⟨_, rfl⟩
  rw [← hR, ← hT]
  have HRE := Lib.hid hR
  have HTE := Lib.hid hT
  clear hR hT
  obtain ⟨X, hX⟩ : ∃ X, X = win true f n := ⟨_, rfl⟩
  have HM1 := Lib.hid ((Mem.nil w).alloc (.cells tupz 27))
  have HBK := Lib.hid (back6_any A n c f HF.out hn hcap hc' (w.alloc (.cells tupz 27)) (HM1.out.rd HR.out))
  rw [show win6 f n = X from hX.symm] at HBK
  have HXX := Lib.hid hX
  obtain ⟨E, a, P⟩ := X
  clear hX
  go_enter Try.func7, Try.ntmps7
  go_upto_region 4 with fail
  change Code.wp _ _ _ _ (w.alloc (.cells tupz 27))
  generalize w.alloc (.cells tupz 27) = u1 at *
  go_wp2_with fail
  go_at_call 16
  refine HBK.out.mono ?_
  rintro e u2 ⟨v, pr, ss, dd, rfl, hb2, hok⟩
  have HM2 := Lib.hid (HM1.out.step hb2)
  have HOK := Lib.hid hok
  clear hb2 hok HBK HM1
  have HQ : Hid ((u2.alloc (.cells tupz 27)).heap[u2.heap.size]? = some (.cells tupz 27 (0, 0))) := heap_alloc_new u2 _
  go_upto_if 19 with (first
    | (refine wpList_store_row rfl 27 (.tmp 7) (.tmp 15) rfl u2.heap.size (tupc v pr ss dd 0 0) rfl rfl 27 tupz HQ.out (by kernel_rfl) rfl (tup_one ..) ?_))
  change Code.wp _ _ _ _ ((u2.alloc (.cells tupz 27)).setRow u2.heap.size (tupc v pr ss dd 0 0))
  obtain ⟨q, hq⟩ : ∃ q, q = u2.heap.size := ⟨_, rfl⟩
  have HM3 : Hid (Mem w ((u2.alloc (.cells tupz 27)).setRow q (tupc v pr ss dd 0 0)) [(w.heap.size, .cells tupz 27 (0, 0)), (q, .cells (tupc v pr ss dd 0 0) 27 (0, 0))]) := Lib.hid ((HM2.out.new (.cells tupz 27) q hq).row 1 rfl (tupc v pr ss dd 0 0))
  rw [← hq]
  clear hq HQ HM2
  generalize (u2.alloc (.cells tupz 27)).setRow q (tupc v pr ss dd 0 0) = u3 at *
  by_cases c0 : E = 0
  · subst c0
    obtain ⟨e1, e2, e3, e4⟩ := HOK.out rfl
    subst e1
    have e5 : pr = P := e2
    subst e5
    rw [tup_same e3 e4] at HM3
    clear HOK e2 e3 e4
    have ha := win_le HXX.out.symm
    by_cases c1 : pr = 6 ∨ pr = 17
    · have N1 := Lib.hid c1
      obtain ⟨D, hsD, hrD⟩ := slice_any A n c a ha hcap hc'
      have HPT := Lib.hid (ports_any D (n - a) (c - a) (fun k => f (a + k)) (fun k => HF.out _) (by omega) u3 (hrD _ _ _ (HM3.out.rd HR.out)))
      rw [(w2_from f a).1, (w2_from f a).2] at HPT
      have x1 : u3.cell? ⟨q, 1, none⟩ = some (.int .u8 pr) := blk_cell (HM3.out.get 1 rfl) 1
      obtain ⟨y0, hy0⟩ : ∃ y, y = (if n - a < 4 then 0 else w2 f a) := ⟨_, rfl⟩
      obtain ⟨y2, hy2⟩ : ∃ y, y = (if n - a < 4 then 0 else w2 f (a + 2)) := ⟨_, rfl⟩
      obtain ⟨pe, hpe⟩ : ∃ pe, pe = PortsE (n - a) := ⟨_, rfl⟩
      rw [← hy0, ← hy2, ← hpe] at HPT
      have HY0 := Lib.hid hy0
      have HY2 := Lib.hid hy2
      have HPE := Lib.hid hpe
      clear hy0 hy2 hpe hrD
      have HU9 : ∀ K : Prop, (pr = 6 → K) → (pr = 17 → K) → K := fun K h1 h2 => by rcases N1.out with h | h; exact h1 h; exact h2 h
      have k6 : (pr != 6 && pr != 17) = false := by rcases N1.out with h | h <;> subst h <;> rfl
      clear HU9
      have k7 : (pr != 6) = false ∨ ((pr != 6) = true ∧ (pr != 17) = false) := by rcases N1.out with h | h <;> subst h <;> simp
      clear k6 c1
      rcases k7 with k7 | ⟨k7, k8⟩
      all_goals
        go_wp2_with fail
        go_at_call 17
        refine HPT.out.mono ?_
        rintro e u4 ⟨rfl, hb4⟩
        have HM4 := Lib.hid (HM3.out.step hb4)
        clear hb4 HM3 x1 HPT
        have x34 : u4.cell? ⟨q, 34, none⟩ = some (.int .u16 0) := blk_cell (HM4.out.get 1 rfl) 34
        have y34 := blk_free (HM4.out.get 1 rfl) 34
        have x35 : u4.cell? ⟨q, 35, none⟩ = some (.int .u16 0) := blk_cell (HM4.out.get 1 rfl) 35
        have y35 := blk_free (HM4.out.get 1 rfl) 35
        go_upto_if 42 with fail
        have HM5 : Hid (Mem w ((u4.setCell ⟨q, 35, none⟩ (.int .u16 y0)).setCell ⟨q, 34, none⟩ (.int .u16 y2)) [(w.heap.size, .cells tupz 27 (0, 0)), (q, .cells (tupc true pr (winS true f) (winD true f) y2 y0) 27 (0, 0))]) := Lib.hid ((HM4.out.set 1 rfl 35 (.int .u16 y0)).set 1 rfl 34 (.int .u16 y2))
        clear x34 y34 x35 y35 HM4
        generalize (u4.setCell ⟨q, 35, none⟩ (.int .u16 y0)).setCell ⟨q, 34, none⟩ (.int .u16 y2) = u5 at *
        by_cases c2 : n - a < 4
        · have hpe' : pe = 4 := HPE.out.trans (by unfold PortsE; rw [if_pos c2])
          subst hpe'
          have hRe : R = 4 := HRE.out.trans (winE_2 HXX.out.symm N1.out c2)
          have hTe : TT = tupz := HTE.out.trans (wT_no (by rw [← HRE.out, hRe]; decide))
          go_wp2_with (first
            | (refine wpList_store_row rfl 27 (.tmp 4) (.tmp 43) rfl w.heap.size tupz rfl rfl 27 tupz (HM5.out.get 0 rfl) (by kernel_rfl) rfl tupz_one ?_))
          refine bodyPost_ret (v := .tuple #[.agg tupz, .int .i64 4]) (results_row1 Try.results7 _ _ w.heap.size 27 tupz (0, 0) _ rfl (setRow_heap _ w.heap.size _ tupz _ _ (HM5.out.get 0 rfl)) Try.underlying27 rfl (by kernel_rfl)) rfl ?_
          exact ⟨by rw [hRe, hTe] <;> rfl, below_setRow HM5.out.below (Nat.le_refl _) _⟩
        · have hpe' : pe = 0 := HPE.out.trans (by unfold PortsE; rw [if_neg c2])
          subst hpe'
          have hRe : R = 0 := HRE.out.trans (winE_3 HXX.out.symm N1.out c2)
          have hy0 : y0 = w2 f a := HY0.out.trans (by rw [if_neg c2])
          have hy2 : y2 = w2 f (a + 2) := HY2.out.trans (by rw [if_neg c2])
          have hTe : TT = tupc true pr (winS true f) (winD true f) y2 y0 := by rw [hy0, hy2]; exact HTE.out.trans (wT_ok (by rw [← HRE.out]; exact hRe) HXX.out.symm)
          clear hy0 hy2 HY0 HY2
          go_wp2_with (first
            | (refine wpList_load_row rfl 27 (.tmp 7) rfl q rfl 27 (tupc true pr (winS true f) (winD true f) y2 y0) (0, 0) _ (HM5.out.get 1 rfl) Try.underlying27 rfl (by kernel_rfl) ?_)
            | (refine wpList_store_row rfl 27 (.tmp 4) (.tmp 45) rfl w.heap.size (tupc true pr (winS true f) (winD true f) y2 y0) rfl rfl 27 tupz (HM5.out.get 0 rfl) (by kernel_rfl) rfl (tup_one ..) ?_))
          refine bodyPost_ret (v := .tuple #[.agg (tupc true pr (winS true f) (winD true f) y2 y0), .int .i64 0]) (results_row1 Try.results7 _ _ w.heap.size 27 (tupc true pr (winS true f) (winD true f) y2 y0) (0, 0) _ rfl (setRow_heap _ w.heap.size _ (tupc true pr (winS true f) (winD true f) y2 y0) _ _ (HM5.out.get 0 rfl)) Try.underlying27 rfl (by kernel_rfl)) rfl ?_
          exact ⟨by rw [hRe, hTe] <;> rfl, below_setRow HM5.out.below (Nat.le_refl _) _⟩
    · have k6 : (pr != 6) = true := by simp; omega
      have k7 : (pr != 17) = true := by simp; omega
      have hRe : R = 10 := HRE.out.trans (winE_1 HXX.out.symm ⟨by omega, by omega⟩)
      have hTe : TT = tupz := HTE.out.trans (wT_no (by rw [← HRE.out, hRe]; decide))
      have x1 : u3.cell? ⟨q, 1, none⟩ = some (.int .u8 pr) := blk_cell (HM3.out.get 1 rfl) 1
      clear c1
      go_upto_region 8 with fail
      clear x1
      go_wp2_with (first
        | (refine wpList_store_row rfl 27 (.tmp 4) (.tmp 30) rfl w.heap.size tupz rfl rfl 27 tupz (HM3.out.get 0 rfl) (by kernel_rfl) rfl tupz_one ?_))
      refine bodyPost_ret (v := .tuple #[.agg tupz, .int .i64 10]) (results_row1 Try.results7 _ _ w.heap.size 27 tupz (0, 0) _ rfl (setRow_heap _ w.heap.size _ tupz _ _ (HM3.out.get 0 rfl)) Try.underlying27 rfl (by kernel_rfl)) rfl ?_
      exact ⟨by rw [hRe, hTe] <;> rfl, below_setRow HM3.out.below (Nat.le_refl _) _⟩
  · have c0' : (E != 0) = true := by simpa using c0
    have hRe : R = E := HRE.out.trans (winE_0 HXX.out.symm c0)
    have hTe : TT = tupz := HTE.out.trans (wT_no (by rw [← HRE.out, hRe]; exact c0))
    go_wp2_with (first
      | (refine wpList_store_row rfl 27 (.tmp 4) (.tmp 20) rfl w.heap.size tupz rfl rfl 27 tupz (HM3.out.get 0 rfl) (by kernel_rfl) rfl tupz_one ?_))
    refine bodyPost_ret (v := .tuple #[.agg tupz, .int .i64 E]) (results_row1 Try.results7 _ _ w.heap.size 27 tupz (0, 0) _ rfl (setRow_heap _ w.heap.size _ tupz _ _ (HM3.out.get 0 rfl)) Try.underlying27 rfl (by kernel_rfl)) rfl ?_
    exact ⟨by rw [hRe, hTe] <;> rfl, below_setRow HM3.out.below (Nat.le_refl _) _⟩
end Go.Proofs.Ytfaelihfjmaekaa
