import Derived.Test.YtimcdnbfdkpffaaGreatGm4
import Derived.Test.YtimcdnbfdkpffaaGreatGm2
import Derived.BigQuiet
import Derived.Test.YtimcdnbfdkpffaaGreatGm31
import Derived.Test.YtimcdnbfdkpffaaGreatGm32
import Derived.Test.YtimcdnbfdkpffaaGreatGm5
import Derived.Lib.SlBytesConst
/- Stage 15: the landed flowstate. -/
namespace Go.Proofs.YtimcdnbfdkpffaaGreat
set_option maxRecDepth 100000
open Go.RowKit Go.Shelf
theorem may_st (s : Nat) (w : World) (hs : s < 256) : Calls Tryz.prog 51 #[.int .u8 (s : Int)] w (ret (.bool (fsM s)) w) := by
  by_cases h1 : 1 ≤ s
  · have q1 : (1 : Int) ≤ (s : Int) := by omega
    by_cases h2 : s ≤ 4
    · have q2 : (s : Int) ≤ 4 := by omega
      rw [show fsM s = true by unfold fsM; simp; omega]
      clear h1 h2 hs
      go_enter Tryz.func51, Tryz.ntmps51
      go_wp2
      go_ret
      exact ⟨rfl, Below.refl _ _⟩
    · have q2 : ¬ (s : Int) ≤ 4 := by omega
      rw [show fsM s = false by unfold fsM; simp; omega]
      clear h1 h2 hs
      go_enter Tryz.func51, Tryz.ntmps51
      go_wp2
      go_ret
      exact ⟨rfl, Below.refl _ _⟩
  · have q1 : ¬ (1 : Int) ≤ (s : Int) := by omega
    rw [show fsM s = false by unfold fsM; simp; omega]
    clear h1 hs
    go_enter Tryz.func51, Tryz.ntmps51
    go_wp2
    go_ret
    exact ⟨rfl, Below.refl _ _⟩
theorem results_row9 {P : Program} {fn : Func} {p : Tmp} {ty : TypeId} (h : fn.results = #[.cell p ty]) (tmps : Array Value) (w : World) (g : Nat) (t : TypeId) (cs : Array Value) (fr : Nat × Nat) (d : TypeDesc)
    (hp : tmps.getD p undef = .pointer (some ⟨g, 0, none⟩)) (hg : w.heap[g]? = some (.cells cs t fr))
    (hu : P.underlying ty = some d) (hd : (match d with | .struct _ | .array _ _ => true | _ => false) = true) (hi : (P.info? ty).map (·.size) = some cs.size) :
    (results fn tmps).run P w = .ok (.agg cs) w := by
  have hp' : tmps[p]?.getD undef = .pointer (some ⟨g, 0, none⟩) := by simpa using hp
  simp [results, h, hp', asAddr, run_loadVar_row w g t ty cs fr d hg hu hd hi]
theorem byst_any (a b c d : Nat) (w : World) : Calls Tryz.prog 63 #[.agg #[.int .u32 (a : Int), .int .u32 (b : Int), .int .u32 (c : Int), .int .u32 (d : Int)]] w (ret (.agg #[.int .u32 (a : Int), .int .u32 (b : Int), .int .u32 (c : Int), .int .u32 (d : Int)]) w) := by
  have HB : Hid (Below w.heap.size w ((w.alloc (.cells #[.int .u32 (a : Int), .int .u32 (b : Int), .int .u32 (c : Int), .int .u32 (d : Int)] 24)).alloc (.cells #[.int .u32 (a : Int), .int .u32 (b : Int), .int .u32 (c : Int), .int .u32 (d : Int)] 125))) := Lib.hid (below_alloc2 w _ _)
  have HZ : Hid (((w.alloc (.cells #[.int .u32 (a : Int), .int .u32 (b : Int), .int .u32 (c : Int), .int .u32 (d : Int)] 24)).alloc (.cells #[.int .u32 (a : Int), .int .u32 (b : Int), .int .u32 (c : Int), .int .u32 (d : Int)] 125)).heap[w.heap.size + 1]? = some (.cells #[.int .u32 (a : Int), .int .u32 (b : Int), .int .u32 (c : Int), .int .u32 (d : Int)] 125 (0, 0))) := Lib.hid (by
    have h := heap_alloc_new (w.alloc (.cells #[.int .u32 (a : Int), .int .u32 (b : Int), .int .u32 (c : Int), .int .u32 (d : Int)] 24)) (.cells #[.int .u32 (a : Int), .int .u32 (b : Int), .int .u32 (c : Int), .int .u32 (d : Int)] 125)
    rwa [show (w.alloc (.cells #[.int .u32 (a : Int), .int .u32 (b : Int), .int .u32 (c : Int), .int .u32 (d : Int)] 24)).heap.size = w.heap.size + 1 by simp] at h)
  go_enter Tryz.func63, Tryz.ntmps63
  go_wp2
  refine bodyPost_ret (v := .agg #[.int .u32 (a : Int), .int .u32 (b : Int), .int .u32 (c : Int), .int .u32 (d : Int)]) (results_row9 Tryz.results63 _ _ (w.heap.size + 1) 125 _ (0, 0) _ rfl HZ.out Tryz.underlying125 rfl (by kernel_rfl)) rfl ?_
  exact ⟨rfl, HB.out⟩
theorem fsT1_of (x : Nat) : (x < 1 ∧ fsT1 x = false) ∨ (1048576 < x ∧ ¬ x < 1 ∧ fsT1 x = false) ∨ (¬ x < 1 ∧ ¬ 1048576 < x ∧ fsT1 x = true) := by
  unfold fsT1
  by_cases h1 : x < 1
  · exact .inl ⟨h1, by simp; omega⟩
  · by_cases h2 : 1048576 < x
    · exact .inr (.inl ⟨h2, h1, by simp; omega⟩)
    · exact .inr (.inr ⟨h1, h2, by simp; omega⟩)
set_option maxHeartbeats 2000000 in
theorem mayT_st (a b c d : Nat) (w : World) : Calls Tryz.prog 28 #[.agg #[.int .u32 (a : Int), .int .u32 (b : Int), .int .u32 (c : Int), .int .u32 (d : Int)]] w (ret (.bool (fsT a b c d)) w) := by
  have HBY : Hid (∀ W : World, Calls Tryz.prog 63 #[.agg #[.int .u32 (a : Int), .int .u32 (b : Int), .int .u32 (c : Int), .int .u32 (d : Int)]] W (ret (.agg #[.int .u32 (a : Int), .int .u32 (b : Int), .int .u32 (c : Int), .int .u32 (d : Int)]) W)) := Lib.hid fun W => byst_any a b c d W
  have i0 : ∀ W : World, (Instr.index 125 (.agg #[.int .u32 (a : Int), .int .u32 (b : Int), .int .u32 (c : Int), .int .u32 (d : Int)]) (.int .i64 0)).run Tryz.prog W = .ok (.int .u32 (a : Int)) W := fun _ => by kernel_rfl
  have i1 : ∀ W : World, (Instr.index 125 (.agg #[.int .u32 (a : Int), .int .u32 (b : Int), .int .u32 (c : Int), .int .u32 (d : Int)]) (.int .i64 1)).run Tryz.prog W = .ok (.int .u32 (b : Int)) W := fun _ => by kernel_rfl
  have i2 : ∀ W : World, (Instr.index 125 (.agg #[.int .u32 (a : Int), .int .u32 (b : Int), .int .u32 (c : Int), .int .u32 (d : Int)]) (.int .i64 2)).run Tryz.prog W = .ok (.int .u32 (c : Int)) W := fun _ => by kernel_rfl
  have i3 : ∀ W : World, (Instr.index 125 (.agg #[.int .u32 (a : Int), .int .u32 (b : Int), .int .u32 (c : Int), .int .u32 (d : Int)]) (.int .i64 3)).run Tryz.prog W = .ok (.int .u32 (d : Int)) W := fun _ => by kernel_rfl
  have HBA : Hid (Below w.heap.size w (w.alloc (.cells #[.int .u32 (a : Int), .int .u32 (b : Int), .int .u32 (c : Int), .int .u32 (d : Int)] 24))) := Lib.hid (below_alloc w _)
  obtain ⟨R, hR⟩ : ∃ R, R = fsT a b c d := ⟨_, rfl⟩
  rw [← hR]
  unfold fsT at hR
  have HR := Lib.hid hR
  clear hR
  go_enter Tryz.func28, Tryz.ntmps28
  go_wp2_with (first
    | (go_at_call 63
       refine (HBY.out _).mono ?_
       rintro e u1 ⟨rfl, hb⟩
       have HB1 := Lib.hid (HBA.out.trans (hb.mono HBA.out.size))
       clear hb))
  refine wp_loop_rounds 5 ?_
  rw [rounds_succ]
  rcases fsT1_of a with ⟨q, e⟩ | ⟨q, q', e⟩ | ⟨q, q', e⟩
  · have z1 : (a : Int) < 1 := by omega
    have HF : Hid (R = false) := Lib.hid (by rw [HR.out, e]; simp)
    clear q e
    go_wp2_with fail
    go_ret
    exact ⟨by rw [HF.out]; rfl, HB1.out⟩
  · have z1 : ¬ (a : Int) < 1 := by omega
    have z2 : (1048576 : Int) < (a : Int) := by omega
    have HF : Hid (R = false) := Lib.hid (by rw [HR.out, e]; simp)
    clear q q' e
    go_wp2_with fail
    go_ret
    exact ⟨by rw [HF.out]; rfl, HB1.out⟩
  have z1 : ¬ (a : Int) < 1 := by omega
  have z2 : ¬ (1048576 : Int) < (a : Int) := by omega
  have ka := Lib.hid e
  clear q q' e
  go_wp2_with fail
  clear z1 z2
  rw [rounds_succ]
  rcases fsT1_of b with ⟨q, e⟩ | ⟨q, q', e⟩ | ⟨q, q', e⟩
  · have z1 : (b : Int) < 1 := by omega
    have HF : Hid (R = false) := Lib.hid (by rw [HR.out, ka.out, e]; simp)
    clear q e
    go_wp2_with fail
    go_ret
    exact ⟨by rw [HF.out]; rfl, HB1.out⟩
  · have z1 : ¬ (b : Int) < 1 := by omega
    have z2 : (1048576 : Int) < (b : Int) := by omega
    have HF : Hid (R = false) := Lib.hid (by rw [HR.out, ka.out, e]; simp)
    clear q q' e
    go_wp2_with fail
    go_ret
    exact ⟨by rw [HF.out]; rfl, HB1.out⟩
  have z1 : ¬ (b : Int) < 1 := by omega
  have z2 : ¬ (1048576 : Int) < (b : Int) := by omega
  have kb := Lib.hid e
  clear q q' e
  go_wp2_with fail
  clear z1 z2
  rw [rounds_succ]
  rcases fsT1_of c with ⟨q, e⟩ | ⟨q, q', e⟩ | ⟨q, q', e⟩
  · have z1 : (c : Int) < 1 := by omega
    have HF : Hid (R = false) := Lib.hid (by rw [HR.out, ka.out, kb.out, e]; simp)
    clear q e
    go_wp2_with fail
    go_ret
    exact ⟨by rw [HF.out]; rfl, HB1.out⟩
  · have z1 : ¬ (c : Int) < 1 := by omega
    have z2 : (1048576 : Int) < (c : Int) := by omega
    have HF : Hid (R = false) := Lib.hid (by rw [HR.out, ka.out, kb.out, e]; simp)
    clear q q' e
    go_wp2_with fail
    go_ret
    exact ⟨by rw [HF.out]; rfl, HB1.out⟩
  have z1 : ¬ (c : Int) < 1 := by omega
  have z2 : ¬ (1048576 : Int) < (c : Int) := by omega
  have kc := Lib.hid e
  clear q q' e
  go_wp2_with fail
  clear z1 z2
  rw [rounds_succ]
  rcases fsT1_of d with ⟨q, e⟩ | ⟨q, q', e⟩ | ⟨q, q', e⟩
  · have z1 : (d : Int) < 1 := by omega
    have HF : Hid (R = false) := Lib.hid (by rw [HR.out, ka.out, kb.out, kc.out, e]; simp)
    clear q e
    go_wp2_with fail
    go_ret
    exact ⟨by rw [HF.out]; rfl, HB1.out⟩
  · have z1 : ¬ (d : Int) < 1 := by omega
    have z2 : (1048576 : Int) < (d : Int) := by omega
    have HF : Hid (R = false) := Lib.hid (by rw [HR.out, ka.out, kb.out, kc.out, e]; simp)
    clear q q' e
    go_wp2_with fail
    go_ret
    exact ⟨by rw [HF.out]; rfl, HB1.out⟩
  have z1 : ¬ (d : Int) < 1 := by omega
  have z2 : ¬ (1048576 : Int) < (d : Int) := by omega
  have kd := Lib.hid e
  clear q q' e
  go_wp2_with fail
  clear z1 z2
  rw [rounds_succ]
  have HF : Hid (R = true) := Lib.hid (by rw [HR.out, ka.out, kb.out, kc.out, kd.out]; rfl)
  go_wp2_with fail
  go_ret
  exact ⟨by rw [HF.out]; rfl, HB1.out⟩
set_option maxHeartbeats 2000000 in
theorem ticks_st (a b c d s : Nat) (w : World) (hs : s < 256) : Calls Tryz.prog 106 #[.agg #[.int .u32 (a : Int), .int .u32 (b : Int), .int .u32 (c : Int), .int .u32 (d : Int)], .int .u8 (s : Int)] w (ret (.int .u32 (fsK a b c d s : Int)) w) := by
  have HBY : Hid (∀ W : World, Calls Tryz.prog 63 #[.agg #[.int .u32 (a : Int), .int .u32 (b : Int), .int .u32 (c : Int), .int .u32 (d : Int)]] W (ret (.agg #[.int .u32 (a : Int), .int .u32 (b : Int), .int .u32 (c : Int), .int .u32 (d : Int)]) W)) := Lib.hid fun W => byst_any a b c d W
  have HMS : Hid (∀ W : World, Calls Tryz.prog 51 #[.int .u8 (s : Int)] W (ret (.bool (fsM s)) W)) := Lib.hid fun W => may_st s W hs
  have i0 : ∀ W : World, (Instr.index 125 (.agg #[.int .u32 (a : Int), .int .u32 (b : Int), .int .u32 (c : Int), .int .u32 (d : Int)]) (.int .u8 0)).run Tryz.prog W = .ok (.int .u32 (a : Int)) W := fun _ => by kernel_rfl
  have i1 : ∀ W : World, (Instr.index 125 (.agg #[.int .u32 (a : Int), .int .u32 (b : Int), .int .u32 (c : Int), .int .u32 (d : Int)]) (.int .u8 1)).run Tryz.prog W = .ok (.int .u32 (b : Int)) W := fun _ => by kernel_rfl
  have i2 : ∀ W : World, (Instr.index 125 (.agg #[.int .u32 (a : Int), .int .u32 (b : Int), .int .u32 (c : Int), .int .u32 (d : Int)]) (.int .u8 2)).run Tryz.prog W = .ok (.int .u32 (c : Int)) W := fun _ => by kernel_rfl
  have i3 : ∀ W : World, (Instr.index 125 (.agg #[.int .u32 (a : Int), .int .u32 (b : Int), .int .u32 (c : Int), .int .u32 (d : Int)]) (.int .u8 3)).run Tryz.prog W = .ok (.int .u32 (d : Int)) W := fun _ => by kernel_rfl
  have HBA : Hid (Below w.heap.size w (w.alloc (.cells #[.int .u32 (a : Int), .int .u32 (b : Int), .int .u32 (c : Int), .int .u32 (d : Int)] 24))) := Lib.hid (below_alloc w _)
  have HQA : Hid ((w.alloc (.cells #[.int .u32 (a : Int), .int .u32 (b : Int), .int .u32 (c : Int), .int .u32 (d : Int)] 24)).heap[w.heap.size]? = some (.cells #[.int .u32 (a : Int), .int .u32 (b : Int), .int .u32 (c : Int), .int .u32 (d : Int)] 24 (0, 0))) := Lib.hid (heap_alloc_new w _)
  obtain ⟨r, hr⟩ : ∃ r, r = fsK a b c d s := ⟨_, rfl⟩
  rw [← hr]
  unfold fsK at hr
  by_cases e0 : s < 1 ∨ 4 < s
  · rw [if_neg (by omega), if_neg (by omega), if_neg (by omega), if_neg (by omega)] at hr
    subst hr
    rw [show fsM s = false by unfold fsM; simp; omega] at HMS
    clear e0 hs
    go_enter Tryz.func106, Tryz.ntmps106
    go_wp2_with (first
      | (go_at_call 51
         refine (HMS.out _).mono ?_
         rintro e u1 ⟨rfl, hb⟩
         have HB1 := Lib.hid (HBA.out.trans (hb.mono HBA.out.size))
         clear hb))
    go_ret
    exact ⟨rfl, HB1.out⟩
  have e4 : s = 1 ∨ s = 2 ∨ s = 3 ∨ s = 4 := by omega
  clear e0 hs
  rcases e4 with rfl | rfl | rfl | rfl
  · have hr' : r = _ := hr.trans rfl
    subst hr'
    rw [show fsM 1 = true from rfl] at HMS
    clear hr
    go_enter Tryz.func106, Tryz.ntmps106
    go_wp2_with (first
      | (go_at_call 51
         refine (HMS.out _).mono ?_
         rintro e u1 ⟨rfl, hb⟩
         have HB1 := Lib.hid (HBA.out.trans (hb.mono HBA.out.size))
         have x0 := blk_cell ((hb.block _ (lt_heap HQA.out)).trans HQA.out) 0
         have x1 := blk_cell ((hb.block _ (lt_heap HQA.out)).trans HQA.out) 1
         have x2 := blk_cell ((hb.block _ (lt_heap HQA.out)).trans HQA.out) 2
         have x3 := blk_cell ((hb.block _ (lt_heap HQA.out)).trans HQA.out) 3
         clear hb)
      | (go_at_call 63
         refine (HBY.out _).mono ?_
         rintro e u2 ⟨rfl, hb⟩
         have HB2 := Lib.hid (HB1.out.trans (hb.mono HB1.out.size))
         clear hb x0 x1 x2 x3))
    go_ret
    exact ⟨rfl, HB2.out⟩
  · have hr' : r = _ := hr.trans rfl
    subst hr'
    rw [show fsM 2 = true from rfl] at HMS
    clear hr
    go_enter Tryz.func106, Tryz.ntmps106
    go_wp2_with (first
      | (go_at_call 51
         refine (HMS.out _).mono ?_
         rintro e u1 ⟨rfl, hb⟩
         have HB1 := Lib.hid (HBA.out.trans (hb.mono HBA.out.size))
         have x0 := blk_cell ((hb.block _ (lt_heap HQA.out)).trans HQA.out) 0
         have x1 := blk_cell ((hb.block _ (lt_heap HQA.out)).trans HQA.out) 1
         have x2 := blk_cell ((hb.block _ (lt_heap HQA.out)).trans HQA.out) 2
         have x3 := blk_cell ((hb.block _ (lt_heap HQA.out)).trans HQA.out) 3
         clear hb)
      | (go_at_call 63
         refine (HBY.out _).mono ?_
         rintro e u2 ⟨rfl, hb⟩
         have HB2 := Lib.hid (HB1.out.trans (hb.mono HB1.out.size))
         clear hb x0 x1 x2 x3))
    go_ret
    exact ⟨rfl, HB2.out⟩
  · have hr' : r = _ := hr.trans rfl
    subst hr'
    rw [show fsM 3 = true from rfl] at HMS
    clear hr
    go_enter Tryz.func106, Tryz.ntmps106
    go_wp2_with (first
      | (go_at_call 51
         refine (HMS.out _).mono ?_
         rintro e u1 ⟨rfl, hb⟩
         have HB1 := Lib.hid (HBA.out.trans (hb.mono HBA.out.size))
         have x0 := blk_cell ((hb.block _ (lt_heap HQA.out)).trans HQA.out) 0
         have x1 := blk_cell ((hb.block _ (lt_heap HQA.out)).trans HQA.out) 1
         have x2 := blk_cell ((hb.block _ (lt_heap HQA.out)).trans HQA.out) 2
         have x3 := blk_cell ((hb.block _ (lt_heap HQA.out)).trans HQA.out) 3
         clear hb)
      | (go_at_call 63
         refine (HBY.out _).mono ?_
         rintro e u2 ⟨rfl, hb⟩
         have HB2 := Lib.hid (HB1.out.trans (hb.mono HB1.out.size))
         clear hb x0 x1 x2 x3))
    go_ret
    exact ⟨rfl, HB2.out⟩
  · have hr' : r = _ := hr.trans rfl
    subst hr'
    rw [show fsM 4 = true from rfl] at HMS
    clear hr
    go_enter Tryz.func106, Tryz.ntmps106
    go_wp2_with (first
      | (go_at_call 51
         refine (HMS.out _).mono ?_
         rintro e u1 ⟨rfl, hb⟩
         have HB1 := Lib.hid (HBA.out.trans (hb.mono HBA.out.size))
         have x0 := blk_cell ((hb.block _ (lt_heap HQA.out)).trans HQA.out) 0
         have x1 := blk_cell ((hb.block _ (lt_heap HQA.out)).trans HQA.out) 1
         have x2 := blk_cell ((hb.block _ (lt_heap HQA.out)).trans HQA.out) 2
         have x3 := blk_cell ((hb.block _ (lt_heap HQA.out)).trans HQA.out) 3
         clear hb)
      | (go_at_call 63
         refine (HBY.out _).mono ?_
         rintro e u2 ⟨rfl, hb⟩
         have HB2 := Lib.hid (HB1.out.trans (hb.mono HB1.out.size))
         clear hb x0 x1 x2 x3))
    go_ret
    exact ⟨rfl, HB2.out⟩
end Go.Proofs.YtimcdnbfdkpffaaGreat
/- Stage 16: the landed flows: made, ends, flow. -/
namespace Go.Proofs.YtimcdnbfdkpffaaGreat
set_option maxRecDepth 100000
open Go.RowKit Go.Shelf
theorem fmade_c {w : World} {p : Nat} {a : Addr} (h : w.cell? ⟨p, 0, none⟩ = some (.pointer (some a))) : Calls Tryz.prog 39 #[.pointer (some ⟨p, 0, none⟩)] w (ret (.bool true) w) := by
  go_enter Tryz.func39, Tryz.ntmps39
  go_wp2_with fail
  go_ret
  exact ⟨rfl, Below.refl _ _⟩
theorem fflow_any (r : Fr) (due : Nat) (w : World) : Calls Tryz.prog 47 #[.agg r.pc, .int .u64 (due : Int)] w (ret (.agg (Fr.c ⟨r.t, r.p, r.st, due, r.i, r.k⟩)) w) := by
  obtain ⟨C, hC⟩ : ∃ C, C = r.pc := ⟨_, rfl⟩
  obtain ⟨R, hR⟩ : ∃ R, R = Fr.c ⟨r.t, r.p, r.st, due, r.i, r.k⟩ := ⟨_, rfl⟩
  obtain ⟨T, hT⟩ : ∃ T, T = r.t.c := ⟨_, rfl⟩
  obtain ⟨Q, hQ⟩ : ∃ Q, Q = r.p.c := ⟨_, rfl⟩
  obtain ⟨st, hst⟩ : ∃ st, st = r.st := ⟨_, rfl⟩
  have HCS : Hid (C.size = 42) := Lib.hid (by rw [hC]; exact pc_size r)
  have HCO : Hid (C.all (·.oneCell') = true) := Lib.hid (by rw [hC]; exact pc_one r)
  have HRS : Hid (R.size = 41) := Lib.hid (by rw [hR]; exact flc_size _)
  have HRO : Hid (R.all (·.oneCell') = true) := Lib.hid (by rw [hR]; exact flc_one _)
  have HTS : Hid (T.size = 36) := Lib.hid (by rw [hT]; rfl)
  have HQS : Hid (Q.size = 3) := Lib.hid (by rw [hQ]; rfl)
  have HT : Hid (∀ i, i < 36 → C.getD (2 + i) undef = T.getD i undef) := Lib.hid (by
    rw [hC, hT]
    exact pc_t r)
  have HQ : Hid (∀ i, i < 3 → C.getD (38 + i) undef = Q.getD i undef) := Lib.hid (by
    rw [hC, hQ]
    exact pc_p r)
  have HST : Hid (C.getD 41 undef = .int .u8 (st : Int)) := Lib.hid (by rw [hC, hst]; exact pc_s r)
  have hbd : ∀ V : World, (Instr.build 59 #[(0, .agg T), (1, .agg Q), (2, .int .u8 (st : Int)), (3, .int .u64 (due : Int))]).run Tryz.prog V = .ok (.agg R) V := fun V => by
    rw [hT, hQ, hst, hR]
    kernel_rfl
  rw [← hC, ← hR]
  clear hC hR hT hQ hst
  go_enter Tryz.func47, Tryz.ntmps47
  go_upto_region 1 with fail
  change Code.wp _ _ _ _ ((w.alloc (.cells C 97)).alloc (.cells flz 59))
  have HB : Hid (Below w.heap.size w ((w.alloc (.cells C 97)).alloc (.cells flz 59))) := Lib.hid ((below_alloc w _).alloc (below_alloc w _).size _)
  have HC0 : Hid (((w.alloc (.cells C 97)).alloc (.cells flz 59)).heap[w.heap.size]? = some (.cells C 97 (0, 0))) := Lib.hid (blk_old (heap_alloc_new w _) _)
  have HF0 : Hid (((w.alloc (.cells C 97)).alloc (.cells flz 59)).heap[w.heap.size + 1]? = some (.cells flz 59 (0, 0))) := Lib.hid (by
    have := heap_alloc_new (w.alloc (.cells C 97)) (.cells flz 59)
    rwa [show (w.alloc (.cells C 97)).heap.size = w.heap.size + 1 by simp] at this)
  have HB1 : Hid (w.heap.size ≤ w.heap.size + 1) := Lib.hid (Nat.le_succ _)
  generalize (w.alloc (.cells C 97)).alloc (.cells flz 59) = u0 at *
  obtain ⟨b1, hb1⟩ : ∃ b, b = w.heap.size + 1 := ⟨_, rfl⟩
  rw [← hb1] at HF0 HB1 ⊢
  clear hb1
  have HRT : Hid (u0.rangeAt w.heap.size 2 T.toList) := Lib.hid (rng_blk HC0.out 2 T (by rw [HTS.out, HCS.out]; decide) fun i hi => HT.out i (by rw [← HTS.out]; exact hi))
  have HRQ : Hid (u0.rangeAt w.heap.size 38 Q.toList) := Lib.hid (rng_blk HC0.out 38 Q (by rw [HQS.out, HCS.out]; decide) fun i hi => HQ.out i (by rw [← HQS.out]; exact hi))
  have x41 : u0.cell? ⟨w.heap.size, 41, none⟩ = some (.int .u8 (st : Int)) := by
    have h1 := HST.out
    rw [Array.getD_eq_getD_getElem?, Array.getElem?_eq_getElem (by rw [HCS.out]; decide)] at h1
    have h1 : C[41]'(by rw [HCS.out]; decide) = .int .u8 (st : Int) := h1
    rw [blk_cell HC0.out 41, Array.getElem?_eq_getElem (by rw [HCS.out]; decide), h1]
  have HI36 : Hid ((Tryz.prog.info? 38).map (·.size) = some 36) := Lib.hid (by kernel_rfl)
  have HI3 : Hid ((Tryz.prog.info? 41).map (·.size) = some 3) := Lib.hid (by kernel_rfl)
  have HI41 : Hid ((Tryz.prog.info? 59).map (·.size) = some 41) := Lib.hid (by kernel_rfl)
  go_wp2_with (first
    | (refine wpList_load_in rfl 38 (.tmp 5) rfl w.heap.size 2 rfl T _ HRT.out Tryz.underlying38 rfl (HI36.out.trans (by rw [Array.length_toList, HTS.out])) ?_)
    | (refine wpList_load_in rfl 41 (.tmp 7) rfl w.heap.size 38 rfl Q _ HRQ.out Tryz.underlying41 rfl (HI3.out.trans (by rw [Array.length_toList, HQS.out])) ?_)
    | (refine wpList_bw (.agg R) 59 [(0, .tmp 6), (1, .tmp 8), (2, .tmp 10), (3, .tmp 11)] [(0, .agg T), (1, .agg Q), (2, .int .u8 (st : Int)), (3, .int .u64 (due : Int))] hbd (by with_reducible_and_instances rfl) rfl rfl ?_)
    | (refine wpList_store_row rfl 59 (.tmp 4) (.tmp 12) rfl b1 R rfl rfl 59 flz HF0.out (HI41.out.trans (by rw [HRS.out])) (by rw [HRS.out]; rfl) HRO.out ?_))
  refine bodyPost_ret (v := .agg R) (results_rowS Tryz.results47 _ _ b1 59 R (0, 0) _ rfl (setRow_heap _ b1 _ R _ _ HF0.out) Tryz.underlying59 rfl (HI41.out.trans (by rw [HRS.out]))) rfl ?_
  exact ⟨rfl, below_setRow HB.out HB1.out _⟩
/-- When a flow ends that is in a state from now on. -/
theorem fends_any {w : World} {p pw pg b n c o1 o2 o3 o4 : Nat} {l : List Fr} {W : Wh} {G : Gr} {A B : Nat → Prop} (h : FX w p pw pg b n c o1 o2 o3 o4 l W G A B) {st : Nat} (hs : st < 256) (hk : W.now + fsK o1 o2 o3 o4 st < 18446744073709551616) (hq : fsK o1 o2 o3 o4 st < 4294967296) :
    Calls Tryz.prog 60 #[.pointer (some ⟨p, 0, none⟩), .int .u8 (st : Int)] w (ret (.int .u64 ((W.now + fsK o1 o2 o3 o4 st : Nat) : Int)) w) := by
  have HN := Lib.hid fun V (k : Below w.heap.size w V) => pw_now (h.step k).duo.a
  have HT := Lib.hid fun V => ticks_st o1 o2 o3 o4 st V hs
  have HQ := Lib.hid h.blk
  obtain ⟨now, hnow⟩ : ∃ m, m = W.now := ⟨_, rfl⟩
  obtain ⟨K, hK⟩ : ∃ m, m = fsK o1 o2 o3 o4 st := ⟨_, rfl⟩
  rw [← hnow] at HN
  rw [← hK] at HT
  rw [← hK] at hq
  rw [← hnow, ← hK] at hk ⊢
  have q0 : ∀ U : Stay w, U.w.cell? ⟨p, 0, none⟩ = some (.pointer (some ⟨pw, 0, none⟩)) := fun U => Stay.cell (blk_cell HQ.out 0) U
  have q2 : ∀ U : Stay w, U.w.cell? ⟨p, 2, none⟩ = some (.int .u32 (o1 : Int)) := fun U => Stay.cell (blk_cell HQ.out 2) U
  have q3 : ∀ U : Stay w, U.w.cell? ⟨p, 3, none⟩ = some (.int .u32 (o2 : Int)) := fun U => Stay.cell (blk_cell HQ.out 3) U
  have q4 : ∀ U : Stay w, U.w.cell? ⟨p, 4, none⟩ = some (.int .u32 (o3 : Int)) := fun U => Stay.cell (blk_cell HQ.out 4) U
  have q5 : ∀ U : Stay w, U.w.cell? ⟨p, 5, none⟩ = some (.int .u32 (o4 : Int)) := fun U => Stay.cell (blk_cell HQ.out 5) U
  have z1 : IntKind.u64.wrap (K : Int) = (K : Int) := by rw [IntKind.wrap_u64]; omega
  have z2 : IntKind.u64.wrap ((now : Int) + (K : Int)) = ((now + K : Nat) : Int) := by rw [IntKind.wrap_u64]; omega
  clear h hs hk hq hnow hK HQ
  go_enter Tryz.func60, Tryz.ntmps60
  go_upto_region 1 with fail
  refine wp_region_stay (by kernel_rfl) (by kernel_rfl) ?_
  repeat (go_big_quiet_step (first | (go_at_call 48; with_reducible exact Calls.stay _ (HN.out _ (Stay.below _))) | (go_at_call 106; with_reducible exact Calls.stay _ (HT.out _))))
  refine wpQuiet_nil ?_
  intro w' hw'
  obtain ⟨U, rfl⟩ := hw'
  have HB := Lib.hid U.below
  clear q0 q2 q3 q4 q5
  go_wp2_with fail
  go_ret
  exact ⟨rfl, HB.out⟩
end Go.Proofs.YtimcdnbfdkpffaaGreat
/- Stage 12: the landed hashes of bytes, of numbers, of names. -/
namespace Go.Proofs.YtimcdnbfdkpffaaGreat
set_option maxRecDepth 100000
open Go.RowKit Go.Shelf
theorem fnv_any (A : Option Addr) (m c : Nat) (f : Nat → Int) (hf : Byt f) (hm : m ≤ 4611686018427387904) (w : World) (hr : Rd w w.heap.size A m f) : Calls Tryz.prog 164 #[.slice A m c] w (ret (.int .u64 ((fnvN (nb f) m : Nat) : Int)) w) := by
  have HR := Lib.hid hr
  obtain ⟨R, hR⟩ : ∃ R, R = fnvN (nb f) m := ⟨_, rfl⟩
  rw [← hR]
  have HE := Lib.hid hR
  clear hR hr
  go_enter Tryz.func164, Tryz.ntmps164
  go_wp2_with fail
  go_loopw [3, 8] (fun vo vi wr => ∃ j x : Nat, j ≤ m ∧ x = fnvN (nb f) j ∧ vo = .int .u64 (x : Int) ∧ vi = .int .i64 (j : Int) ∧ Below w.heap.size w wr) (fun _ vi _ => m - (intOf vi).toNat)
  case atStart => exact ⟨0, 14695981039346656037, Nat.zero_le _, rfl, rfl, rfl, Below.refl _ _⟩
  case round =>
    obtain ⟨j, x, hj, hxe, rfl, rfl, hb⟩ := hrel
    have hx : x < 18446744073709551616 := by rw [hxe]; exact fnv_lt _ _
    have HB := Lib.hid hb
    by_cases hjk : j < m
    · rcases HR.out with h0 | ⟨bA, off, rfl, hbl, hcl⟩
      · omega
      have i1 : (j : Int) < (m : Int) := by omega
      have i0 : (0 : Int) ≤ (j : Int) := by omega
      have i2 : ((j : Int)).toNat = j := by omega
      have xj : wr.cell? ⟨bA, off + j, none⟩ = some (.int .u8 (nb f j : Int)) := by
        rw [nb_int hf]
        exact (hb.cell (p := ⟨bA, off + j, none⟩) hbl).trans (hcl j hjk)
      have hl := nb_lt hf j
      obtain ⟨y, hy⟩ : ∃ y, y = nb f j := ⟨_, rfl⟩
      have hs : mulW (x ^^^ y) 1099511628211 = fnvN (nb f) (j + 1) := by rw [hxe, hy]; rfl
      rw [← hy] at xj hl
      have z1 : bits .xor .u64 (x : Int) (y : Int) = ((x ^^^ y : Nat) : Int) := bits_xor_u64_nat _ _ hx (by omega)
      have z2 := wrap_mulW (x ^^^ y) 1099511628211
      rw [hs] at z2
      obtain ⟨z, hz⟩ : ∃ z, z = x ^^^ y := ⟨_, rfl⟩
      rw [← hz] at z1 z2
      obtain ⟨u, hu⟩ : ∃ u, u = fnvN (nb f) (j + 1) := ⟨_, rfl⟩
      rw [← hu] at z2
      have z2 : IntKind.u64.wrap ((z : Int) * 1099511628211) = (u : Int) := z2
      have HU := Lib.hid hu
      have zj : IntKind.i64.wrap ((j : Int) + 1) = (j : Int) + 1 := by rw [IntKind.wrap_i64]; omega
      have zy : IntKind.u64.wrap (y : Int) = (y : Int) := by rw [IntKind.wrap_u64]; omega
      clear hxe hb hcl hy hs hz hu
      go_wp2_with fail
      go_roundw
      case rel => exact ⟨j + 1, u, by omega, HU.out, by go_num, by go_num, HB.out⟩
      case measure => simp [intOf]; omega
    · obtain rfl : j = m := by omega
      obtain rfl : x = R := by rw [hxe, HE.out]
      have i1 : ¬ (j : Int) < (j : Int) := by omega
      clear hxe hb
      go_wp2_with fail
      go_ret
      exact ⟨rfl, HB.out⟩
/-- The row of steps by which a number is mixed, and what it is behind so many. -/
def stA (j : Nat) : Nat := if j = 0 then 30 else if j = 1 then 27 else 31
def stM (j : Nat) : Nat := if j = 0 then 13787848793156543929 else if j = 1 then 10723151780598845931 else 1
def stpN (n : Nat) : Nat → Nat
  | 0 => n
  | j + 1 => mulW (stpN n j ^^^ (stpN n j) >>> stA j) (stM j)
theorem stp_lt {n : Nat} (hn : n < 18446744073709551616) : ∀ j, stpN n j < 18446744073709551616
  | 0 => hn
  | _ + 1 => mulW_lt _ _
theorem stp_mix {n : Nat} : stpN n 3 = mixN n := by
  have h := mix_lt n
  show mulW (mixN n) 1 = mixN n
  unfold mulW
  rw [Nat.mul_one, Nat.mod_eq_of_lt h]
theorem stA_le (j : Nat) : stA j ≤ 64 := by
  unfold stA
  split
  · decide
  split <;> decide
def StRow (W : World) (B : Nat) : Prop := B < W.heap.size ∧ ∀ j, j < 3 → W.cell? ⟨B, j * 2, none⟩ = some (.int .u64 (stA j : Int)) ∧ W.cell? ⟨B, j * 2 + 1, none⟩ = some (.int .u64 (stM j : Int))
theorem stepped_any (n : Nat) (hn : n < 18446744073709551616) (B : Nat) (w : World) (hr : StRow w B) : Calls Tryz.prog 181 #[.int .u64 (n : Int), .slice (some ⟨B, 0, none⟩) 3 3] w (ret (.int .u64 ((mixN n : Nat) : Int)) w) := by
  have HR := Lib.hid hr
  obtain ⟨R, hR⟩ : ∃ R, R = mixN n := ⟨_, rfl⟩
  rw [← hR]
  have HE := Lib.hid (hR.trans stp_mix.symm)
  have HL := Lib.hid (stp_lt hn)
  clear hR hr
  go_enter Tryz.func181, Tryz.ntmps181
  go_wp2_with fail
  go_loopw [0, 9] (fun vo vi wr => ∃ j x : Nat, j ≤ 3 ∧ x = stpN n j ∧ vo = .int .u64 (x : Int) ∧ vi = .int .i64 (j : Int) ∧ Below w.heap.size w wr) (fun _ vi _ => 3 - (intOf vi).toNat)
  case atStart => exact ⟨0, n, Nat.zero_le _, rfl, rfl, rfl, Below.refl _ _⟩
  case round =>
    obtain ⟨j, x, hj, hxe, rfl, rfl, hb⟩ := hrel
    have hx : x < 18446744073709551616 := by rw [hxe]; exact HL.out j
    by_cases hjk : j < 3
    · obtain ⟨hB, hcl⟩ := HR.out
      have i1 : (j : Int) < 3 := by omega
      have i0 : (0 : Int) ≤ (j : Int) := by omega
      have i2 : ((j : Int)).toNat = j := by omega
      have x0 : wr.cell? ⟨B, j * 2, none⟩ = some (.int .u64 (stA j : Int)) := (hb.cell (p := ⟨B, j * 2, none⟩) hB).trans (hcl j hjk).1
      have x1 : wr.cell? ⟨B, j * 2 + 1, none⟩ = some (.int .u64 (stM j : Int)) := (hb.cell (p := ⟨B, j * 2 + 1, none⟩) hB).trans (hcl j hjk).2
      have hk := stA_le j
      have hs : mulW (x ^^^ x >>> stA j) (stM j) = stpN n (j + 1) := by rw [hxe]; rfl
      obtain ⟨k, hke⟩ : ∃ k, k = stA j := ⟨_, rfl⟩
      obtain ⟨M, hM⟩ : ∃ M, M = stM j := ⟨_, rfl⟩
      rw [← hke] at x0 hk hs
      rw [← hM] at x1 hs
      have k0 : (0 : Int) ≤ (k : Int) := by omega
      have k1 : (k : Int) ≤ 64 := by omega
      have k2 : ((k : Int)).toNat = k := by omega
      have hsl := shrW_lt hx k
      obtain ⟨y, hy⟩ : ∃ y, y = x >>> k := ⟨_, rfl⟩
      have zs : (x : Int) / 2 ^ k = (y : Int) := by rw [hy, Nat.shiftRight_eq_div_pow, Int.natCast_ediv, Int.natCast_pow]; rfl
      rw [← hy] at hsl hs
      have z1 : bits .xor .u64 (x : Int) (y : Int) = ((x ^^^ y : Nat) : Int) := bits_xor_u64_nat _ _ hx hsl
      have z2 := wrap_mulW (x ^^^ y) M
      rw [hs] at z2
      obtain ⟨z, hz⟩ : ∃ z, z = x ^^^ y := ⟨_, rfl⟩
      rw [← hz] at z1 z2
      obtain ⟨u, hu⟩ : ∃ u, u = stpN n (j + 1) := ⟨_, rfl⟩
      rw [← hu] at z2
      have HU := Lib.hid hu
      have zj : IntKind.i64.wrap ((j : Int) + 1) = (j : Int) + 1 := by rw [IntKind.wrap_i64]; omega
      have HB := Lib.hid hb.size
      have HB2 : Hid (∀ o, Below w.heap.size w (wr.alloc o)) := Lib.hid fun o => hb.alloc hb.size o
      clear hxe hb hcl hke hM hy hs hz hu hB
      go_wp2_with fail
      go_roundw
      case rel => exact ⟨j + 1, u, by omega, HU.out, by go_num, by go_num, HB2.out _⟩
      case measure => simp [intOf]; omega
    · have HB := Lib.hid hb
      obtain rfl : j = 3 := by omega
      obtain rfl : x = R := by rw [hxe, HE.out]
      clear hxe hb
      go_wp2_with fail
      go_ret
      exact ⟨rfl, HB.out⟩
theorem mix_any (n : Nat) (hn : n < 18446744073709551616) (w : World) : Calls Tryz.prog 163 #[.int .u64 (n : Int)] w (ret (.int .u64 ((mixN n : Nat) : Int)) w) := by
  have HST : Hid (∀ (fr : Nat × Nat), Calls Tryz.prog 181 #[.int .u64 (n : Int), .slice (some ⟨w.heap.size, 0, none⟩) 3 3] (w.alloc (.cells #[.int .u64 30, .int .u64 13787848793156543929, .int .u64 27, .int .u64 10723151780598845931, .int .u64 31, .int .u64 1] 252 fr)) (ret (.int .u64 ((mixN n : Nat) : Int)) (w.alloc (.cells #[.int .u64 30, .int .u64 13787848793156543929, .int .u64 27, .int .u64 10723151780598845931, .int .u64 31, .int .u64 1] 252 fr)))) := Lib.hid fun fr => stepped_any n hn w.heap.size _ ⟨by simp, fun j hj => by
    have hc := fun k v (h : _ = some v) => cell_of_row (w.alloc (.cells #[.int .u64 30, .int .u64 13787848793156543929, .int .u64 27, .int .u64 10723151780598845931, .int .u64 31, .int .u64 1] 252 fr)) w.heap.size k _ 252 fr (heap_alloc_new w _) |>.trans h
    match j, hj with
    | 0, _ => exact ⟨hc 0 _ rfl, hc 1 _ rfl⟩
    | 1, _ => exact ⟨hc 2 _ rfl, hc 3 _ rfl⟩
    | 2, _ => exact ⟨hc 4 _ rfl, hc 5 _ rfl⟩
    | j + 3, h => exact absurd h (by omega)⟩
  obtain ⟨R, hR⟩ : ∃ R, R = mixN n := ⟨_, rfl⟩
  rw [← hR] at HST ⊢
  clear hR
  go_enter Tryz.func163, Tryz.ntmps163
  go_wp2_with (first
    | (go_at_call 181
       refine (HST.out _).mono ?_
       rintro e v1 ⟨rfl, hb1⟩
       have HB1 := Lib.hid ((below_alloc w _).trans (hb1.mono (alloc_le w _)))
       clear hb1 HST))
  go_ret
  exact ⟨rfl, HB1.out⟩
theorem seeded_any (seed : Nat) (hs : seed < 18446744073709551616) (A : Option Addr) (m c : Nat) (f : Nat → Int) (hf : Byt f) (hm : m ≤ 4611686018427387904) (w : World) (hr : Rd w w.heap.size A m f) : Calls Tryz.prog 132 #[.int .u64 (seed : Int), .slice A m c] w (ret (.int .u64 ((seedN seed (nb f) m : Nat) : Int)) w) := by
  have h1 := fnv_any A m c f hf hm w hr
  have l1 := fnv_lt (nb f) m
  obtain ⟨R, hR⟩ : ∃ R, R = seedN seed (nb f) m := ⟨_, rfl⟩
  rw [← hR]
  rw [seedN_eq] at hR
  obtain ⟨a, ha⟩ : ∃ a, a = fnvN (nb f) m := ⟨_, rfl⟩
  rw [← ha] at h1 l1 hR
  have h2 := fun W => mix_any seed hs W
  have l2 := mix_lt seed
  obtain ⟨b, hb⟩ : ∃ b, b = mixN seed := ⟨_, rfl⟩
  rw [← hb] at h2 l2 hR
  have z1 : bits .xor .u64 (a : Int) (b : Int) = ((a ^^^ b : Nat) : Int) := bits_xor_u64_nat _ _ l1 l2
  have l3 := xorW_lt l1 l2
  obtain ⟨x, hx⟩ : ∃ x, x = a ^^^ b := ⟨_, rfl⟩
  rw [← hx] at z1 l3 hR
  have h3 := fun W => mix_any x l3 W
  rw [← hR] at h3
  have H1 := Lib.hid h1
  have H2 := Lib.hid h2
  have H3 := Lib.hid h3
  clear h1 h2 h3 ha hb hx hR hr
  go_enter Tryz.func132, Tryz.ntmps132
  go_wp2_with (first
    | (go_at_call 164
       refine H1.out.mono ?_
       rintro e v1 ⟨rfl, hb1⟩
       have HB1 := Lib.hid hb1
       clear hb1 H1)
    | (go_at_call 163
       refine (H2.out _).mono ?_
       rintro e v2 ⟨rfl, hb2⟩
       have HB2 := Lib.hid (HB1.out.trans (hb2.mono HB1.out.size))
       clear hb2 HB1 H2)
    | (go_at_call 163
       refine (H3.out _).mono ?_
       rintro e v3 ⟨rfl, hb3⟩
       have HB3 := Lib.hid (HB2.out.trans (hb3.mono HB2.out.size))
       clear hb3 HB2 H3))
  go_ret
  exact ⟨rfl, HB3.out⟩
end Go.Proofs.YtimcdnbfdkpffaaGreat
